/- What SameRecords does in the program and in the model: whether two lists of records are equal in all fields of all records. Condition: fewer than 400000001 records. -/
import Derived.Test.YtcpadkehalgddaaGreatDoorWireMath
import Derived.Test.YtcpadkehalgddaaGreatDoorListsP2
import Derived.Test.YtcpadkehalgddaaGreatDoorListsP1
import Derived.Test.YtcpadkehalgddaaGreatDoorGetsM
import Derived.Test.YtcpadkehalgddaaGreatDoorPutSpec
import Derived.Test.YtcpadkehalgddaaGreatDoorFieldMath
import Derived.Test.YtcpadkehalgddaaGreatDoorMem
import Derived.Deep.QuietTactic
import Derived.BigQuiet
import Derived.Test.YtcpadkehalgddaaGreatDoorMemR
import Derived.Laws.StructEq
/- Plain mathematics: a name that is read is valid, ends behind its offset and inside the bytes, and follows no more pointers than there are bytes. -/
namespace Go.Proofs.YtcpadkehalgddaaGreatDoor.WireGood
open Go.Proofs.YtcpadkehalgddaaGreatDoor.JoinSpec Go.Proofs.YtcpadkehalgddaaGreatDoor.GetLabel Go.Proofs.YtcpadkehalgddaaGreatDoor.NameOk Go.Proofs.YtcpadkehalgddaaGreatDoor.WireMath

/-- What is known on the way from offset o. -/
def Way (l : List UInt8) (o k m : Int) (j : Nat) (x : Int) : Prop :=
  (x = -1 ∧ o ≤ k ∧ j = 0 ∧ m = o) ∨ (0 ≤ x ∧ o < x ∧ x ≤ (l.length : Int) ∧ 0 ≤ m ∧ (j : Int) + m ≤ (l.length : Int))
theorem go_good (l : List UInt8) (o : Int) (L' : List ByteArray) (x' : Int) (j' : Nat) : ∀ f L k m j x, go l f L k m j x = (0, L', x', j') → okL L = true → Nm (Jo L) = true → Way l o k m j x →
    okL L' = true ∧ Nm (Jo L') = true ∧ o < x' ∧ x' ≤ (l.length : Int) ∧ (j' : Int) ≤ (l.length : Int)
  | 0, L, k, m, j, x, h, _, _, _ => by simp [go] at h
  | f + 1, L, k, m, j, x, h, hok, hnm, hw => by
    unfold go at h
    split at h
    · simp at h
    · rename_i hk
      split at h
      · simp only [Prod.mk.injEq, true_and] at h
        obtain ⟨rfl, rfl, rfl⟩ := h
        refine ⟨hok, hnm, ?_⟩
        rcases hw with ⟨rfl, h1, rfl, rfl⟩ | ⟨h0, h1, h2, h3, h4⟩
        · rw [if_pos (by omega)]
          omega
        · rw [if_neg (by omega)]
          omega
      · rename_i h0
        split at h
        · rename_i h192
          split at h
          · simp at h
          · rename_i h1
            split at h
            · simp at h
            · rename_i h2
              have ht := tg_pos l k h192
              refine go_good l o L' x' j' f L _ _ _ _ h hok hnm (Or.inr ?_)
              rcases hw with ⟨rfl, h3, rfl, rfl⟩ | ⟨h3, h4, h5, h6, h7⟩
              · rw [if_pos (by omega)]
                omega
              · rw [if_neg (by omega)]
                omega
        · cases hh : has l k with
          | none =>
            rw [hh] at h
            simp only [Prod.mk.injEq] at h
            have := h.1
            split at this <;> omega
          | some q =>
            obtain ⟨p, e⟩ := q
            rw [hh] at h
            dsimp only at h
            split at h
            · rename_i h3
              have hs := has_some hh
              refine go_good l o L' x' j' f _ _ _ _ _ h (okL_snoc hok hs.2.2.2.1) h3 ?_
              rcases hw with ⟨rfl, h4, h5, h6⟩ | h4
              · exact Or.inl ⟨rfl, by omega, h5, h6⟩
              · exact Or.inr h4
            · simp at h
theorem rn_good {l : List UInt8} {k : Int} {L' : List ByteArray} {x' : Int} {j' : Nat} (h : rn l [] k k 0 (-1) = (0, L', x', j')) :
    okL L' = true ∧ Nm (Jo L') = true ∧ k < x' ∧ x' ≤ (l.length : Int) ∧ (j' : Int) ≤ (l.length : Int) :=
  go_good l k L' x' j' _ _ _ _ _ _ h rfl rfl (Or.inl ⟨rfl, Int.le_refl _, rfl, rfl⟩)
end Go.Proofs.YtcpadkehalgddaaGreatDoor.WireGood

/- What the program's GetData does: it reads as FieldMath tells (gd, and the look at the record besides: fx), and turns nothing that was there. Conditions: at most 400000000 bytes; the library's variable internal/bytealg.MaxLen holds an int. -/
namespace Go.Proofs.YtcpadkehalgddaaGreatDoor.GetI
open Go.RowKit Go.Proofs.YtcpadkehalgddaaGreatDoor.Mem Go.Proofs.YtcpadkehalgddaaGreatDoor.MemR Go.Proofs.YtcpadkehalgddaaGreatDoor.JoinSpec Go.Proofs.YtcpadkehalgddaaGreatDoor.Labels Go.Proofs.YtcpadkehalgddaaGreatDoor.BoxR Go.Proofs.YtcpadkehalgddaaGreatDoor.NameOk Go.Proofs.YtcpadkehalgddaaGreatDoor.TextR Go.Proofs.YtcpadkehalgddaaGreatDoor.RecOk Go.Proofs.YtcpadkehalgddaaGreatDoor.WireMath Go.Proofs.YtcpadkehalgddaaGreatDoor.FieldMath Go.Proofs.YtcpadkehalgddaaGreatDoor.FieldRd Go.Proofs.YtcpadkehalgddaaGreatDoor.ResR Go.Proofs.YtcpadkehalgddaaGreatDoor.ReadI Go.Proofs.YtcpadkehalgddaaGreatDoor.WireGood Go.Proofs.YtcpadkehalgddaaGreatDoor.Plain

/-- What GetData hands back. A def, so that no step of a walk opens it. -/
def val2 (X : Nat × Rec) : Value := .tuple #[.agg #[.string (X.2).name, .int .i64 (X.2).ty, .int .i64 (X.2).ttl, .int .i64 (X.2).n, .string (X.2).host, .string (X.2).text], .int .i64 (X.1 : Int)]
theorem piece_le (l : List UInt8) (k m : Nat) : (GetLabel.piece l k m).size ≤ m := by
  show ((l.drop (k + 1)).take m).toArray.size ≤ m
  simp
  omega
theorem name_le {l : List UInt8} {k : Int} (h : (rn l [] k k 0 (-1)).1 = 0) : (Jo (rn l [] k k 0 (-1)).2.1).size ≤ 50 := by
  generalize hr : rn l [] k k 0 (-1) = R at *
  obtain ⟨c, L, x, j⟩ := R
  have h : c = 0 := h
  subst h
  exact (nm_parts (rn_good hr).2.1).1
/-- A record that was read is not long. -/
theorem rdd_mod (l : List UInt8) (k ty : Int) (h : (rdd l k ty).1 = 0) : DataS.Med (rdd l k ty).2.2 := by
  have hz : DataS.Med zr := ⟨by decide, by decide, by decide⟩
  unfold rdd at h ⊢
  split at h
  · rename_i h1
    rw [if_pos h1]
    unfold rdA at h ⊢
    split
    · exact ⟨by show (0 : Nat) ≤ _; omega, by show (0 : Nat) ≤ _; omega, by show (0 : Nat) ≤ _; omega⟩
    · exact hz
  · rename_i h1
    rw [if_neg h1]
    split at h
    · rename_i h2
      rw [if_pos h2]
      exact ⟨by show (0 : Nat) ≤ _; omega, Nat.le_trans (name_le h) (by decide), by show (0 : Nat) ≤ _; omega⟩
    · rename_i h2
      rw [if_neg h2]
      split at h
      · rename_i h6
        rw [if_pos h6]
        unfold rdS at h ⊢
        split at h
        · rename_i hc
          rw [if_pos hc]
          exact hz
        · rename_i hc
          rw [if_neg hc]
          have hc : (rn l [] k k 0 (-1)).1 = 0 := Decidable.byContradiction hc
          split
          · exact ⟨by show (0 : Nat) ≤ _; omega, Nat.le_trans (name_le hc) (by decide), by show (0 : Nat) ≤ _; omega⟩
          · exact hz
      · rename_i h6
        rw [if_neg h6]
        split at h
        · rename_i h16
          rw [if_pos h16]
          unfold rdT at h ⊢
          split
          · exact hz
          · split
            · exact hz
            · have hb := bt_bounds l k
              have hp := piece_le l k.toNat (bt l k).toNat
              exact ⟨by show (0 : Nat) ≤ _; omega, by show (0 : Nat) ≤ _; omega, by show (GetLabel.piece l k.toNat (bt l k).toNat).size ≤ _; omega⟩
        · exact absurd h (by decide)

set_option maxRecDepth 100000 in
set_option maxHeartbeats 2000000 in
theorem data (A : Option Addr) (n c : Nat) (l : List UInt8) (k q ty : Int) (w : World) (he : Env w) (hs : Sl w w.heap.size A n l) (hnc : n ≤ c) (hn : n ≤ 400000000) :
    Calls Tryz.prog 15 #[.slice A n c, .int .i64 k, .int .i64 q, .int .i64 ty] w fun e w' => e = .returned (val2 (fx (gd l k q ty))) ∧ Below w.heap.size w w' := by
  have hl := hs.1
  have L0 := Lib.hid ((Below.refl w.heap.size w).alloc (Nat.le_refl _) (.cells #[.string ⟨#[]⟩, .int .i64 0, .int .i64 0, .int .i64 0, .string ⟨#[]⟩, .string ⟨#[]⟩] 25))
  by_cases h : 0 ≤ q ∧ q ≤ 255
  · have HI : Hid (inn q 0 255 = true) := decide_eq_true h
    by_cases hk : k < 0 ∨ (n : Int) - q < k
    · have HX : Hid (fx (gd l k q ty) = (1, zr)) := by show _ = _; rw [gd_out h (by rw [hl]; exact hk)]; exact fx_bad (by decide)
      generalize fx (gd l k q ty) = X at *
      clear hs hl he
      obtain ⟨h0, h1⟩ := h
      rcases (show k < 0 ∨ (¬ k < 0 ∧ (n : Int) - q < k) by omega) with hk | ⟨hk0, hk⟩
      all_goals
        go_enter Tryz.func15, Tryz.ntmps15
        go_wp2_with fail
        refine (upTo_any q 255 _).mono ?_
        rw [HI.out]
        rintro e w1 ⟨rfl, rfl⟩
        go_wp2
        refine bodyPost_ret (v := val2 (1, zr)) (res2 rfl (show Bk _ w.heap.size 25 (rc zr) from heap_alloc_new w _) rfl rfl) rfl ⟨by rw [HX.out], L0.out⟩
    · have HX := Lib.hid (rdd_gd (ty := ty) h (by rw [hl]; exact hk))
      have RD := Lib.hid (fun W (hW : Below w.heap.size w W) => readData A n c l k ty W (he.below hW) ((hs.below hW).wider hW.size) hnc hn (by omega))
      have HM := Lib.hid (rdd_mod l k ty)
      have HE := Lib.hid he
      have Z0 : Hid (Bk (w.alloc (.cells #[.string ⟨#[]⟩, .int .i64 0, .int .i64 0, .int .i64 0, .string ⟨#[]⟩, .string ⟨#[]⟩] 25)) w.heap.size 25 (rc zr)) := heap_alloc_new w _
      generalize fx (gd l k q ty) = X at *
      generalize rdd l k ty = Y at *
      obtain ⟨yc, yn, yr⟩ := Y
      dsimp only at HX HM
      clear hs hl he
      obtain ⟨h0, h1⟩ := h
      have hk0 : ¬ k < 0 := by omega
      have hk1 : ¬ (n : Int) - q < k := by omega
      clear hk
      go_enter Tryz.func15, Tryz.ntmps15
      go_wp2_with fail
      refine (upTo_any q 255 _).mono ?_
      rw [HI.out]
      rintro e w1 ⟨rfl, rfl⟩
      go_wp2_with fail
      refine (RD.out _ L0.out).mono ?_
      rintro e w1 ⟨v, rfl, hv, hl⟩
      dsimp only at hv ⊢
      have HV := Lib.hid hv
      have L1 := Lib.hid (L0.out.trans (hl.mono L0.out.size))
      have Z1 := Lib.hid (Z0.out.below hl Z0.out.lt)
      clear hv hl L0 Z0 RD
      obtain ⟨z0, z1, z2, z3, z4, z5⟩ := bx_of Z1.out
      have f0 := Z1.out.free 0
      have f1 := Z1.out.free 1
      have f2 := Z1.out.free 2
      have f3 := Z1.out.free 3
      have f4 := Z1.out.free 4
      have f5 := Z1.out.free 5
      by_cases hc : yc = 0
      · subst hc
        have HX2 := Lib.hid (HX.out.trans (if_neg (fun e => e rfl)))
        have RO := Lib.hid (fun W (hW : Below w.heap.size w W) => RecOk.impl yr W (HE.out.below hW) (HM.out rfl).mod)
        have HR := Lib.hid (HV.out rfl w1)
        clear HX HM HV
        obtain ⟨u, hu⟩ : ∃ u, rok yr = u := ⟨_, rfl⟩
        have HU := Lib.hid hu
        clear hu
        go_wp2_with fail
        refine HR.out.mono ?_
        rintro e w2 ⟨rfl, hl⟩
        have L2 := Lib.hid (L1.out.trans (hl.mono L1.out.size))
        have Z2 := Lib.hid (Z1.out.below hl Z1.out.lt)
        clear hl HR L1 Z1 z0 z1 z2 z3 z4 z5 f0 f1 f2 f3 f4 f5
        have L3 := Lib.hid (L2.out.alloc L2.out.size (.cells #[.string yr.name, .int .i64 yr.ty, .int .i64 yr.ttl, .int .i64 yr.n, .string yr.host, .string yr.text] 25))
        have Z3 := Lib.hid (Z2.out.alloc (.cells #[.string yr.name, .int .i64 yr.ty, .int .i64 yr.ttl, .int .i64 yr.n, .string yr.host, .string yr.text] 25))
        have X3 := Lib.hid (bx_new w2 25 yr)
        obtain ⟨z0, z1, z2, z3, z4, z5⟩ := bx_of Z3.out
        have f0 := Z3.out.free 0
        have f1 := Z3.out.free 1
        have f2 := Z3.out.free 2
        have f3 := Z3.out.free 3
        have f4 := Z3.out.free 4
        have f5 := Z3.out.free 5
        by_cases hq : yn = k + q
        · have hq2 : (yn != k + q) = false := by simp [hq]
          have HX4 : Hid (X = if rok yr = true then (0, yr) else (2, zr)) := by
            show _ = _
            rw [HX2.out, HU.out]
            cases u <;> simp [hq]
          clear hq HX2
          go_wp2_with fail
          refine (RO.out _ L3.out).mono ?_
          rw [HU.out]
          rintro e w4 ⟨rfl, hl⟩
          have L4 := Lib.hid (L3.out.trans (hl.mono L3.out.size))
          have Z4 := Lib.hid (Z3.out.below hl Z3.out.lt)
          have X4 := Lib.hid (X3.out.below hl)
          clear hl L3 Z3 X3 z0 z1 z2 z3 z4 z5 f0 f1 f2 f3 f4 f5
          obtain ⟨z0, z1, z2, z3, z4, z5⟩ := bx_of Z4.out
          have f0 := Z4.out.free 0
          have f1 := Z4.out.free 1
          have f2 := Z4.out.free 2
          have f3 := Z4.out.free 3
          have f4 := Z4.out.free 4
          have f5 := Z4.out.free 5
          rw [HU.out] at HX4
          cases u
          · go_wp2
            refine bodyPost_ret (v := val2 (2, zr)) (res2 rfl (fil_bk Z4.out zr) rfl rfl) rfl ⟨by rw [HX4.out]; rfl, fil_below L4.out (Nat.le_refl _) zr⟩
          · obtain ⟨x0, x1, x2, x3, x4, x5⟩ := X4.out
            go_wp2
            refine bodyPost_ret (v := val2 (0, yr)) (res2 rfl (fil_bk Z4.out yr) rfl rfl) rfl ⟨by rw [HX4.out]; rfl, fil_below L4.out (Nat.le_refl _) yr⟩
        · have hq2 : (yn != k + q) = true := by simpa using hq
          have HX4 : Hid (X = (2, zr)) := by
            show _ = _
            rw [HX2.out, if_neg (fun e => hq e.1)]
          clear hq HX2
          go_wp2
          refine bodyPost_ret (v := val2 (2, zr)) (res2 rfl (fil_bk Z3.out zr) rfl rfl) rfl ⟨by rw [HX4.out], fil_below L3.out (Nat.le_refl _) zr⟩
      · have HX2 := Lib.hid (HX.out.trans (if_pos hc))
        have hc2 : ((yc : Int) != 0) = true := by simp; omega
        clear HX
        go_wp2
        refine bodyPost_ret (v := val2 (yc, zr)) (res2 rfl (fil_bk Z1.out zr) rfl rfl) rfl ⟨by rw [HX2.out], fil_below L1.out (Nat.le_refl _) zr⟩
  · have HI : Hid (inn q 0 255 = false) := decide_eq_false h
    have HX : Hid (fx (gd l k q ty) = (2, zr)) := by show _ = _; rw [gd_n h]; exact fx_bad (by decide)
    generalize fx (gd l k q ty) = X at *
    clear hs hl he h
    go_enter Tryz.func15, Tryz.ntmps15
    go_wp2_with fail
    refine (upTo_any q 255 _).mono ?_
    rw [HI.out]
    rintro e w1 ⟨rfl, rfl⟩
    go_wp2
    refine bodyPost_ret (v := val2 (2, zr)) (res2 rfl (show Bk _ w.heap.size 25 (rc zr) from heap_alloc_new w _) rfl rfl) rfl ⟨by rw [HX.out], L0.out⟩
end Go.Proofs.YtcpadkehalgddaaGreatDoor.GetI

/- What the program's GetRecord does: it reads a record as FieldMath tells (gr), and turns nothing that was there. Conditions: at most 400000000 bytes; the library's variable internal/bytealg.MaxLen holds an int. -/
namespace Go.Proofs.YtcpadkehalgddaaGreatDoor.GetRecI
open Go.RowKit Go.Proofs.YtcpadkehalgddaaGreatDoor.Mem Go.Proofs.YtcpadkehalgddaaGreatDoor.MemR Go.Proofs.YtcpadkehalgddaaGreatDoor.JoinSpec Go.Proofs.YtcpadkehalgddaaGreatDoor.Labels Go.Proofs.YtcpadkehalgddaaGreatDoor.BoxR Go.Proofs.YtcpadkehalgddaaGreatDoor.NameOk Go.Proofs.YtcpadkehalgddaaGreatDoor.TextR Go.Proofs.YtcpadkehalgddaaGreatDoor.RecOk Go.Proofs.YtcpadkehalgddaaGreatDoor.WireMath Go.Proofs.YtcpadkehalgddaaGreatDoor.WireGood Go.Proofs.YtcpadkehalgddaaGreatDoor.WalkSpec Go.Proofs.YtcpadkehalgddaaGreatDoor.Get Go.Proofs.YtcpadkehalgddaaGreatDoor.FieldMath Go.Proofs.YtcpadkehalgddaaGreatDoor.FieldRd Go.Proofs.YtcpadkehalgddaaGreatDoor.ResR Go.Proofs.YtcpadkehalgddaaGreatDoor.ReadI Go.Proofs.YtcpadkehalgddaaGreatDoor.GetI

theorem get2 (A : Option Addr) (n c : Nat) (l : List UInt8) (k : Int) (w : World) (B : Nat) (hs : Sl w B A n l) (hnc : n ≤ c) (hn : n ≤ 400000000) :
    Calls Tryz.prog 46 #[.slice A n c, .int .i64 k] w fun e w' => e = .returned (.tuple #[.int .i64 (n2 l k).1, .bool (n2 l k).2]) ∧ w = w' := by
  have hl := hs.1
  unfold n2
  by_cases h : 0 ≤ k ∧ k ≤ (l.length : Int) - 2
  · rw [if_pos h]
    obtain ⟨j, rfl⟩ := Int.eq_ofNat_of_zero_le h.1
    exact implGet2_yes A n c l w B j hs hnc hn (by omega)
  · rw [if_neg h]
    exact implGet2_no A n c w k hn (by omega)
/-- What GetRecord hands back. A def, so that no step of a walk opens it. -/
def valR (X : Nat × Int × Rec) : Value := .tuple #[.agg #[.string (X.2.2).name, .int .i64 (X.2.2).ty, .int .i64 (X.2.2).ttl, .int .i64 (X.2.2).n, .string (X.2.2).host, .string (X.2.2).text], .int .i64 X.2.1, .int .i64 (X.1 : Int)]
theorem rn_from {l : List UInt8} {k : Int} {L : List ByteArray} {x : Int} {j : Nat} (h : rn l [] k k 0 (-1) = (0, L, x, j)) : 0 ≤ k := by
  refine Decidable.byContradiction fun hk => ?_
  rw [rn_out (Or.inl (by omega))] at h
  simp at h
/-- A valid record's texts are not long; what GetData gives is not. -/
theorem gd_med {l : List UInt8} {k n ty : Int} {r : Rec} (h : fx (gd l k n ty) = (0, r)) : DataS.Med r := by
  by_cases hn : 0 ≤ n ∧ n ≤ 255
  · by_cases hk : k < 0 ∨ (l.length : Int) - n < k
    · rw [gd_out hn hk, fx_bad (by decide)] at h
      simp at h
    · rw [rdd_gd hn hk] at h
      split at h
      · rename_i hc
        simp only [Prod.mk.injEq] at h
        exact absurd h.1 hc
      · rename_i hc
        split at h
        · simp only [Prod.mk.injEq, true_and] at h
          rw [← h]
          exact rdd_mod l k ty (Decidable.byContradiction hc)
        · simp at h
  · rw [gd_n hn, fx_bad (by decide)] at h
    simp at h
theorem fx_cases (X : Nat × Rec) : (fx X = X ∧ (X.1 = 0 → rok X.2 = true)) ∨ (fx X = (2, zr) ∧ X.1 = 0 ∧ rok X.2 = false) := by
  unfold fx
  split
  · rename_i h
    exact Or.inr ⟨rfl, h⟩
  · rename_i h
    exact Or.inl ⟨rfl, fun e => by cases hr : rok X.2; exact absurd ⟨e, hr⟩ h; rfl⟩

/-- What is known behind the head of a record: its answer, told of what GetData gave. -/
theorem gr_by {l : List UInt8} {k : Int} {L : List ByteArray} {p : Int} {j c : Nat} {r : Rec} (h : rn l [] k k 0 (-1) = (0, L, p, j)) (hp : ¬ (l.length : Int) - 10 < p) (hd : fx (gd l (p + 10) (n2 l (p + 8)).1 (n2 l p).1) = (c, r)) :
    gr l k = if c ≠ 0 then (c, 0, zr) else if (n4 l (p + 4)).2 = true ∧ (n2 l (p + 2)).1 = 1 ∧ rok (wn r (Jo L) (n4 l (p + 4)).1) = true then (0, p + 10 + (n2 l (p + 8)).1, wn r (Jo L) (n4 l (p + 4)).1) else (2, 0, zr) := by
  rcases fx_cases (gd l (p + 10) (n2 l (p + 8)).1 (n2 l p).1) with ⟨e, hr⟩ | ⟨e, h0, hr⟩
  · rw [e] at hd
    by_cases hc : c ≠ 0
    · rw [if_pos hc]
      exact gr_data h hp hd hc
    · have hc0 : c = 0 := Decidable.byContradiction hc
      subst hc0
      rw [if_neg hc]
      split
      · rename_i hg
        exact gr_good h hp hd hg
      · rename_i hg
        exact gr_form h hp hd hg
  · rw [e] at hd
    simp only [Prod.mk.injEq] at hd
    obtain ⟨rfl, rfl⟩ := hd
    rw [if_pos (by decide)]
    generalize hD : gd l (p + 10) (n2 l (p + 8)).1 (n2 l p).1 = D at *
    obtain ⟨c', r'⟩ := D
    have h0 : c' = 0 := h0
    subst h0
    exact gr_form h hp hD (fun hg => by rw [rok_wn hD hr] at hg; exact absurd hg.2.2 (by decide))

set_option maxRecDepth 100000 in
set_option maxHeartbeats 4000000 in
theorem record (A : Option Addr) (n c : Nat) (l : List UInt8) (k : Int) (w : World) (he : Env w) (hs : Sl w w.heap.size A n l) (hnc : n ≤ c) (hn : n ≤ 400000000) :
    Calls Tryz.prog 14 #[.slice A n c, .int .i64 k] w fun e w' => e = .returned (valR (gr l k)) ∧ Below w.heap.size w w' := by
  have hl := hs.1
  have L0 := Lib.hid ((Below.refl w.heap.size w).alloc (Nat.le_refl _) (.cells #[.string ⟨#[]⟩, .int .i64 0, .int .i64 0, .int .i64 0, .string ⟨#[]⟩, .string ⟨#[]⟩] 25))
  have Z0 : Hid (Bk (w.alloc (.cells #[.string ⟨#[]⟩, .int .i64 0, .int .i64 0, .int .i64 0, .string ⟨#[]⟩, .string ⟨#[]⟩] 25)) w.heap.size 25 (rc zr)) := heap_alloc_new w _
  have HS := Lib.hid hs
  have HE := Lib.hid he
  have GN := Lib.hid (fun W (hW : Below w.heap.size w W) => NameGet.getName A n c l k W _ rfl (he.below hW) ((hs.below hW).wider hW.size) hn hnc)
  generalize hR : rn l [] k k 0 (-1) = R at *
  obtain ⟨c0, L, p, j⟩ := R
  unfold val3 at GN
  dsimp only at GN
  by_cases hc : c0 = 0
  · subst hc
    have HF := rn_from hR
    obtain ⟨_, _, hp1, hp2, _⟩ := rn_good hR
    have hp0 : 0 ≤ p := by omega
    rw [hl] at hp2
    clear hp1 HF
    by_cases hs10 : (n : Int) - 10 < p
    · have HX := Lib.hid (gr_short hR (by rw [hl]; exact hs10))
      generalize gr l k = X at *
      generalize Jo L = s at *
      clear hs hl he hR
      go_enter Tryz.func14, Tryz.ntmps14
      go_wp2_with fail
      refine (GN.out _ L0.out).mono ?_
      rintro e w1 ⟨rfl, hl⟩
      have L1 := Lib.hid (L0.out.trans (hl.mono L0.out.size))
      have Z1 := Lib.hid (Z0.out.below hl Z0.out.lt)
      clear hl L0 Z0
      obtain ⟨z0, z1, z2, z3, z4, z5⟩ := bx_of Z1.out
      have f0 := Z1.out.free 0
      have f1 := Z1.out.free 1
      have f2 := Z1.out.free 2
      have f3 := Z1.out.free 3
      have f4 := Z1.out.free 4
      have f5 := Z1.out.free 5
      go_wp2
      refine bodyPost_ret (v := valR (1, 0, zr)) (res3 rfl (fil_bk Z1.out zr) rfl rfl rfl) rfl ⟨by rw [HX.out], fil_below L1.out (Nat.le_refl _) zr⟩
    · have HG2 := Lib.hid (fun (q : Int) (W : World) (hW : Below w.heap.size w W) => get2 A n c l q W _ (hs.below hW) hnc hn)
      have HG4 := Lib.hid (fun (q : Int) (W : World) (hW : Below w.heap.size w W) => get4 A n c l q W _ (hs.below hW) hnc hn)
      have HGD := Lib.hid (fun (q m t : Int) (W : World) (hW : Below w.heap.size w W) => GetI.data A n c l q m t W (he.below hW) ((hs.below hW).wider hW.size) hnc hn)
      generalize hD : fx (gd l (p + 10) (n2 l (p + 8)).1 (n2 l p).1) = D at *
      obtain ⟨dc, yr⟩ := D
      have HX := Lib.hid (gr_by hR (by rw [hl]; exact hs10) hD)
      have HM := Lib.hid (fun (e : dc = 0) => gd_med (r := yr) (by rw [hD, e]))
      have HNL : Hid ((Jo L).size ≤ 50) := (Plain.nm_parts (rn_good hR).2.1).1
      have h1 := (n2_in (l := l) (k := p) hp0 (by omega)).2
      have h2 := (n2_in (l := l) (k := p + 2) (by omega) (by omega)).2
      have h8 := (n2_in (l := l) (k := p + 8) (by omega) (by omega)).2
      have hG1 := HG2.out p
      have hG2 := HG2.out (p + 2)
      have hG8 := HG2.out (p + 8)
      have hG4 := HG4.out (p + 4)
      have hGD := HGD.out (p + 10) (n2 l (p + 8)).1 (n2 l p).1
      rw [hD] at hGD
      generalize gr l k = X at *
      generalize Jo L = s at *
      clear hD
      generalize n2 l p = y1 at *
      generalize n2 l (p + 2) = y2 at *
      generalize n2 l (p + 8) = y8 at *
      generalize n4 l (p + 4) = y4 at *
      obtain ⟨ty, b1⟩ := y1
      obtain ⟨cl, b2⟩ := y2
      obtain ⟨q, b8⟩ := y8
      obtain ⟨tt, b4⟩ := y4
      dsimp only at h1 h2 h8 hG1 hG2 hG8 hG4 hGD HX
      obtain ⟨h10, h11⟩ := h1
      obtain ⟨h20, h21⟩ := h2
      obtain ⟨h80, h81⟩ := h8
      have G1 := Lib.hid hG1
      have G2 := Lib.hid hG2
      have G8 := Lib.hid hG8
      have G4 := Lib.hid hG4
      have GD := Lib.hid hGD
      clear hG1 hG2 hG8 hG4 hGD HG2 HG4 HGD hs hl he hR
      go_enter Tryz.func14, Tryz.ntmps14
      go_wp2_with fail
      refine (GN.out _ L0.out).mono ?_
      rintro e w1 ⟨rfl, hl⟩
      have L1 := Lib.hid (L0.out.trans (hl.mono L0.out.size))
      have Z1 := Lib.hid (Z0.out.below hl Z0.out.lt)
      clear hl L0 Z0
      go_wp2_with fail
      refine (G1.out _ L1.out).mono ?_
      rintro e w2 ⟨rfl, rfl⟩
      go_wp2_with fail
      refine (G2.out _ L1.out).mono ?_
      rintro e w2 ⟨rfl, rfl⟩
      go_wp2_with fail
      refine (G4.out _ L1.out).mono ?_
      rintro e w2 ⟨rfl, rfl⟩
      go_wp2_with fail
      refine (G8.out _ L1.out).mono ?_
      rintro e w2 ⟨rfl, rfl⟩
      go_wp2_with fail
      refine (GD.out _ L1.out).mono ?_
      rintro e w2 ⟨rfl, hl⟩
      have L2 := Lib.hid (L1.out.trans (hl.mono L1.out.size))
      have Z2 := Lib.hid (Z1.out.below hl Z1.out.lt)
      clear hl L1 Z1 G1 G2 G4 G8 GD GN
      unfold val2
      dsimp only
      by_cases hdc : dc = 0
      · subst hdc
        have HX2 := Lib.hid (HX.out.trans (if_neg (fun e => e rfl)))
        have hmed := HM.out rfl
        have RO := Lib.hid (fun W (hW : Below w.heap.size w W) => RecOk.impl (wn yr s tt) W (HE.out.below hW) (show Mod (wn yr s tt) from ⟨Nat.le_trans HNL.out (by decide), (hmed.mod).2.1, (hmed.mod).2.2⟩))
        unfold wn at RO
        dsimp only at RO
        have L3 := Lib.hid (L2.out.alloc L2.out.size (.cells #[.string s, .int .i64 yr.ty, .int .i64 tt, .int .i64 yr.n, .string yr.host, .string yr.text] 25))
        have Z3 := Lib.hid (Z2.out.alloc (.cells #[.string s, .int .i64 yr.ty, .int .i64 tt, .int .i64 yr.n, .string yr.host, .string yr.text] 25))
        have X3 := Lib.hid (bx_new w2 25 (wn yr s tt))
        clear HX HM hmed
        obtain ⟨z0, z1, z2, z3, z4, z5⟩ := bx_of Z3.out
        have f0 := Z3.out.free 0
        have f1 := Z3.out.free 1
        have f2 := Z3.out.free 2
        have f3 := Z3.out.free 3
        have f4 := Z3.out.free 4
        have f5 := Z3.out.free 5
        by_cases hcl : cl = 1
        · have hcl2 : (cl != 1) = false := by simp [hcl]
          cases b4
          · have HX3 : Hid (X = (2, 0, zr)) := HX2.out.trans (if_neg (fun e => by simp at e))
            clear HX2
            go_wp2
            refine bodyPost_ret (v := valR (2, 0, zr)) (res3 rfl (fil_bk Z3.out zr) rfl rfl rfl) rfl ⟨by rw [HX3.out], fil_below L3.out (Nat.le_refl _) zr⟩
          · obtain ⟨u, hu⟩ : ∃ u, rok (wn yr s tt) = u := ⟨_, rfl⟩
            have HU := Lib.hid hu
            have HX3 : Hid (X = if u = true then (0, p + 10 + q, wn yr s tt) else (2, 0, zr)) := by
              show _ = _
              rw [HX2.out, hu]
              cases u <;> simp [hcl]
            clear hu HX2 hcl
            go_wp2_with fail
            refine (RO.out _ L3.out).mono ?_
            rw [show rok ⟨s, yr.ty, tt, yr.n, yr.host, yr.text⟩ = u from HU.out]
            rintro e w4 ⟨rfl, hl⟩
            have L4 := Lib.hid (L3.out.trans (hl.mono L3.out.size))
            have Z4 := Lib.hid (Z3.out.below hl Z3.out.lt)
            have X4 := Lib.hid (X3.out.below hl)
            clear hl L3 Z3 X3 z0 z1 z2 z3 z4 z5 f0 f1 f2 f3 f4 f5
            obtain ⟨z0, z1, z2, z3, z4, z5⟩ := bx_of Z4.out
            have f0 := Z4.out.free 0
            have f1 := Z4.out.free 1
            have f2 := Z4.out.free 2
            have f3 := Z4.out.free 3
            have f4 := Z4.out.free 4
            have f5 := Z4.out.free 5
            cases u
            · go_wp2
              refine bodyPost_ret (v := valR (2, 0, zr)) (res3 rfl (fil_bk Z4.out zr) rfl rfl rfl) rfl ⟨by rw [HX3.out]; rfl, fil_below L4.out (Nat.le_refl _) zr⟩
            · obtain ⟨x0, x1, x2, x3, x4, x5⟩ := X4.out
              have x0 : w4.cell? ⟨w2.heap.size, 0, none⟩ = some (.string s) := x0
              have x1 : w4.cell? ⟨w2.heap.size, 1, none⟩ = some (.int .i64 yr.ty) := x1
              have x2 : w4.cell? ⟨w2.heap.size, 2, none⟩ = some (.int .i64 tt) := x2
              have x3 : w4.cell? ⟨w2.heap.size, 3, none⟩ = some (.int .i64 yr.n) := x3
              have x4 : w4.cell? ⟨w2.heap.size, 4, none⟩ = some (.string yr.host) := x4
              have x5 : w4.cell? ⟨w2.heap.size, 5, none⟩ = some (.string yr.text) := x5
              go_wp2
              refine bodyPost_ret (v := valR (0, p + 10 + q, wn yr s tt)) (res3 rfl (fil_bk Z4.out (wn yr s tt)) rfl rfl rfl) rfl ⟨by rw [HX3.out]; rfl, fil_below L4.out (Nat.le_refl _) (wn yr s tt)⟩
        · have hcl2 : (cl != 1) = true := by simpa using hcl
          have HX3 : Hid (X = (2, 0, zr)) := HX2.out.trans (if_neg (fun e => hcl e.2.1))
          clear HX2 hcl
          go_wp2
          refine bodyPost_ret (v := valR (2, 0, zr)) (res3 rfl (fil_bk Z3.out zr) rfl rfl rfl) rfl ⟨by rw [HX3.out], fil_below L3.out (Nat.le_refl _) zr⟩
      · have HX2 := Lib.hid (HX.out.trans (if_pos hdc))
        have hc2 : ((dc : Int) != 0) = true := by simp; omega
        have L3 := Lib.hid (L2.out.alloc L2.out.size (.cells #[.string yr.name, .int .i64 yr.ty, .int .i64 yr.ttl, .int .i64 yr.n, .string yr.host, .string yr.text] 25))
        have Z3 := Lib.hid (Z2.out.alloc (.cells #[.string yr.name, .int .i64 yr.ty, .int .i64 yr.ttl, .int .i64 yr.n, .string yr.host, .string yr.text] 25))
        clear HX HM
        obtain ⟨z0, z1, z2, z3, z4, z5⟩ := bx_of Z3.out
        have f0 := Z3.out.free 0
        have f1 := Z3.out.free 1
        have f2 := Z3.out.free 2
        have f3 := Z3.out.free 3
        have f4 := Z3.out.free 4
        have f5 := Z3.out.free 5
        go_wp2
        refine bodyPost_ret (v := valR (dc, 0, zr)) (res3 rfl (fil_bk Z3.out zr) rfl rfl rfl) rfl ⟨by rw [HX2.out], fil_below L3.out (Nat.le_refl _) zr⟩
  · have HX := Lib.hid (gr_name hR hc)
    have hc2 : ((c0 : Int) != 0) = true := by simp; omega
    generalize gr l k = X at *
    generalize Jo L = s at *
    clear hs hl he hR
    go_enter Tryz.func14, Tryz.ntmps14
    go_wp2_with fail
    refine (GN.out _ L0.out).mono ?_
    rintro e w1 ⟨rfl, hl⟩
    have L1 := Lib.hid (L0.out.trans (hl.mono L0.out.size))
    have Z1 := Lib.hid (Z0.out.below hl Z0.out.lt)
    clear hl L0 Z0
    obtain ⟨z0, z1, z2, z3, z4, z5⟩ := bx_of Z1.out
    have f0 := Z1.out.free 0
    have f1 := Z1.out.free 1
    have f2 := Z1.out.free 2
    have f3 := Z1.out.free 3
    have f4 := Z1.out.free 4
    have f5 := Z1.out.free 5
    go_wp2
    refine bodyPost_ret (v := valR (c0, 0, zr)) (res3 rfl (fil_bk Z1.out zr) rfl rfl rfl) rfl ⟨by rw [HX.out], fil_below L1.out (Nat.le_refl _) zr⟩
end Go.Proofs.YtcpadkehalgddaaGreatDoor.GetRecI

/- What the program's GetRecords does: it reads records as FieldMath tells (grs), into a new row of its own, and turns nothing that was there. Conditions: at most 400000000 bytes; the library's variable internal/bytealg.MaxLen holds an int. -/
namespace Go.Proofs.YtcpadkehalgddaaGreatDoor.GetsI
open Go.RowKit Go.Proofs.YtcpadkehalgddaaGreatDoor.Mem Go.Proofs.YtcpadkehalgddaaGreatDoor.MemR Go.Proofs.YtcpadkehalgddaaGreatDoor.Labels Go.Proofs.YtcpadkehalgddaaGreatDoor.Label Go.Proofs.YtcpadkehalgddaaGreatDoor.TextR Go.Proofs.YtcpadkehalgddaaGreatDoor.App Go.Proofs.YtcpadkehalgddaaGreatDoor.AppR Go.Proofs.YtcpadkehalgddaaGreatDoor.FieldMath Go.Proofs.YtcpadkehalgddaaGreatDoor.GetRecI Go.Proofs.YtcpadkehalgddaaGreatDoor.GetsM

set_option maxRecDepth 100000 in
set_option maxHeartbeats 4000000 in
theorem recs (A : Option Addr) (n c : Nat) (l : List UInt8) (k q : Int) (w : World) (he : Env w) (hs : Sl w w.heap.size A n l) (hnc : n ≤ c) (hn : n ≤ 400000000) :
    Calls Tryz.prog 19 #[.slice A n c, .int .i64 k, .int .i64 q] w (Grs w (grA l k q)) := by
  have GR := Lib.hid (fun (a : Int) (W : World) (hW : Below w.heap.size w W) => GetRecI.record A n c l a W (he.below hW) ((hs.below hW).wider hW.size) hnc hn)
  unfold valR at GR
  clear hs he
  by_cases h : 0 ≤ q ∧ q ≤ 8
  · have HI : Hid (inn q 0 8 = true) := decide_eq_true h
    obtain ⟨h0, h8⟩ := h
    obtain ⟨m, rfl⟩ := Int.eq_ofNat_of_zero_le h0
    have hm8 : m ≤ 8 := by omega
    have HX : Hid (grs l m k [] = grA l k (m : Int)) := by show _ = _; rw [grA, if_pos ⟨by omega, by omega⟩, Int.toNat_natCast]
    generalize grA l k (m : Int) = X at *
    have GS := Lib.hid (grs_step l)
    go_enter Tryz.func19, Tryz.ntmps19
    go_wp2_with fail
    refine (upTo_any _ 8 _).mono ?_
    rw [HI.out]
    rintro e w1 ⟨rfl, rfl⟩
    go_wp2
    go_loopw [1, 9, 19] (fun a v i wr => ∃ (j g cap : Nat) (M : List Rec) (p : Int), j ≤ m ∧ i = .int .i64 (j : Int) ∧ a = .int .i64 p ∧ v = .slice (some ⟨g, 0, none⟩) j cap ∧ Hid (grs l (m - j) p M = X) ∧ Hid (wr.ownsRow w.heap.size 25 6 (.slice (some ⟨g, 0, none⟩) j cap) j (fl M)) ∧ Hid (Below w.heap.size w wr)) (fun _ _ i _ => m - (intOf i).toNat)
    case atStart => exact ⟨0, w.heap.size, 0, [], k, Nat.zero_le _, rfl, rfl, rfl, HX.out, AppR.owns_new w, (Below.refl _ _).alloc (Nat.le_refl _) _⟩
    case round =>
      clear HX
      obtain ⟨j, g, cap, M, p, hj, rfl, rfl, rfl, HG, HO, HB⟩ := hrel
      by_cases hlt : j < m
      · have HG2 : Hid ((if (gr l p).1 ≠ 0 then ((gr l p).1, 0, []) else grs l (m - (j + 1)) (gr l p).2.1 (M ++ [(gr l p).2.2])) = X) := by
          show _ = _
          rw [← HG.out, show m - j = m - (j + 1) + 1 by omega, GS.out]
        have G1 := Lib.hid (GR.out p wr HB.out)
        clear HG
        generalize gr l p = Y at *
        obtain ⟨yc, yp, r⟩ := Y
        dsimp only at G1 HG2
        go_wp2_with fail
        refine G1.out.mono ?_
        rintro e w2 ⟨rfl, hl⟩
        have B2 := Lib.hid (HB.out.trans (hl.mono HB.out.size))
        have O2 := Lib.hid (own_below HO.out hl)
        clear hl HB HO G1
        have B3 := Lib.hid (B2.out.alloc B2.out.size (.cells #[.string r.name, .int .i64 r.ty, .int .i64 r.ttl, .int .i64 r.n, .string r.host, .string r.text] 25))
        by_cases hc : yc = 0
        · subst hc
          have HG3 := Lib.hid ((if_neg (fun e => e rfl)).symm.trans HG2.out)
          clear HG2
          have O4 := Lib.hid ((O2.out.alloc (.cells #[.string r.name, .int .i64 r.ty, .int .i64 r.ttl, .int .i64 r.n, .string r.host, .string r.text] 25)).alloc (.cells #[.string r.name, .int .i64 r.ty, .int .i64 r.ttl, .int .i64 r.n, .string r.host, .string r.text] 25))
          have B4 := Lib.hid (B3.out.alloc B3.out.size (.cells #[.string r.name, .int .i64 r.ty, .int .i64 r.ttl, .int .i64 r.n, .string r.host, .string r.text] 25))
          have S4 := Lib.hid (one_sr (w2.alloc (.cells #[.string r.name, .int .i64 r.ty, .int .i64 r.ttl, .int .i64 r.n, .string r.host, .string r.text] 25)) r)
          rw [show (w2.alloc (.cells #[.string r.name, .int .i64 r.ty, .int .i64 r.ttl, .int .i64 r.n, .string r.host, .string r.text] 25)).heap.size = w2.heap.size + 1 by simp] at S4
          go_wp2_with (at_builtin; refine append_recs rfl (.tmp 32) (.tmp 34) rfl w.heap.size g j cap M rfl O4.out (w2.heap.size + 1) 0 1 1 _ [r] rfl S4.out ?d1 ?d2 ?d3 ?_)
          case d1 => omega
          case d2 => omega
          case d3 => exact B4.out.size
          intro g5 cap5 w5 hown hgrow
          have O5 := Lib.hid hown
          have B5 := Lib.hid (B4.out.grown hgrow B4.out.size (fun i hi => by cases hi; exact (O4.out.lt g rfl).1))
          clear hown hgrow O4 B4 S4 O2 B2 B3
          go_wp2
          go_roundw
          case rel => exact ⟨j + 1, g5, cap5, M ++ [r], yp, by omega, by go_num, rfl, rfl, HG3.out, O5.out, B5.out⟩
          case measure => simp [intOf]; omega
        · have HG3 := Lib.hid ((if_pos hc).symm.trans HG2.out)
          have hc2 : ((yc : Int) != 0) = true := by simp; omega
          clear HG2
          go_wp2
          go_ret3
          rw [← HG3.out]
          exact grs_nil2 B3.out 0 yc (by simp)
      · obtain rfl : j = m := by omega
        have HG2 : Hid ((0, p, M) = X) := by
          have := HG.out
          rw [Nat.sub_self] at this
          exact this
        go_wp2
        go_ret3
        rw [← HG2.out]
        exact grs_of HO.out HB.out p 0
  · have HI : Hid (inn q 0 8 = false) := decide_eq_false h
    have HX : Hid ((2, 0, []) = grA l k q) := by show _ = _; rw [grA, if_neg h]
    generalize grA l k q = X at *
    clear h GR
    go_enter Tryz.func19, Tryz.ntmps19
    go_wp2_with fail
    refine (upTo_any _ 8 _).mono ?_
    rw [HI.out]
    rintro e w1 ⟨rfl, rfl⟩
    go_wp2
    go_ret3
    rw [← HX.out]
    exact grs_nil (Below.refl _ _) 0 2
end Go.Proofs.YtcpadkehalgddaaGreatDoor.GetsI

/- Plain mathematics: a name is read back out of its encoding, with and without pointers. -/
namespace Go.Proofs.YtcpadkehalgddaaGreatDoor.WireBack
open Go.Proofs.YtcpadkehalgddaaGreatDoor.Mem Go.Proofs.YtcpadkehalgddaaGreatDoor.MemS Go.Proofs.YtcpadkehalgddaaGreatDoor.JoinSpec Go.Proofs.YtcpadkehalgddaaGreatDoor.Split Go.Proofs.YtcpadkehalgddaaGreatDoor.JoinLab Go.Proofs.YtcpadkehalgddaaGreatDoor.Label Go.Proofs.YtcpadkehalgddaaGreatDoor.Fold Go.Proofs.YtcpadkehalgddaaGreatDoor.GetLabel Go.Proofs.YtcpadkehalgddaaGreatDoor.PutLabel Go.Proofs.YtcpadkehalgddaaGreatDoor.NameOk Go.Proofs.YtcpadkehalgddaaGreatDoor.Plain Go.Proofs.YtcpadkehalgddaaGreatDoor.Place Go.Proofs.YtcpadkehalgddaaGreatDoor.Put Go.Proofs.YtcpadkehalgddaaGreatDoor.PutSpec Go.Proofs.YtcpadkehalgddaaGreatDoor.WireMath Go.Proofs.YtcpadkehalgddaaGreatDoor.WireGood

theorem fo_ok {x : UInt8} (h : okB x = true) : fo x = x := by
  unfold okB okC at h
  have h := of_decide_eq_true h
  unfold fo
  rw [if_neg (by omega)]
theorem Fo_ok {p : ByteArray} (h : lok p.data.toList = true) : Fo p = p := by
  apply text_ext
  rw [Fo_list]
  rw [lok, Bool.and_eq_true] at h
  have h2 := List.all_eq_true.1 h.2
  conv => rhs; rw [← List.map_id p.data.toList]
  exact List.map_congr_left fun x hx => fo_ok (h2 x hx)
theorem tailL_ok {p : ByteArray} (h : lok p.data.toList = true) : tailL p = one p.size ++ p.data.toList := by rw [tailL, h]; rfl
theorem tailL_two {p : ByteArray} (h : lok p.data.toList = true) : (tailL p).length = 1 + p.size ∧ 1 ≤ p.size ∧ p.size ≤ 12 := by
  have h1 := PutLabel.lok_len h
  have hz : p.data.toList.length = p.size := by simp
  rw [tailL_ok h, List.length_append, one_len, hz]
  omega
theorem get_mid (P Q R : List UInt8) (i : Nat) (h : i < Q.length) : (P ++ Q ++ R).getD (P.length + i) 0 = Q[i] := by
  rw [List.getD_eq_getElem?_getD, List.append_assoc, List.getElem?_append_right (by omega), Nat.add_sub_cancel_left, List.getElem?_append_left h, List.getElem?_eq_getElem h]
  rfl
theorem bt_mid (P Q R : List UInt8) (i : Nat) (h : i < Q.length) : bt (P ++ Q ++ R) ((P.length : Int) + (i : Int)) = (Q[i].toNat : Int) := by
  unfold bt
  rw [show ((P.length : Int) + (i : Int)).toNat = P.length + i by omega, get_mid P Q R i h]
/-- A label stands where its encoding stands. -/
theorem has_here (P R : List UInt8) (p : ByteArray) (h : lok p.data.toList = true) : has (P ++ tailL p ++ R) (P.length : Int) = some (p, P.length + (tailL p).length) := by
  obtain ⟨hl, h1, h2⟩ := tailL_two h
  have hz : p.data.toList.length = p.size := by simp
  have hlt : P.length < (P ++ tailL p ++ R).length := by rw [List.length_append, List.length_append]; omega
  have hb : (P ++ tailL p ++ R)[P.length].toNat = p.size := by
    have e : (P ++ tailL p ++ R)[P.length] = UInt8.ofNat p.size := by
      rw [List.getElem_append_left (by rw [List.length_append]; omega), List.getElem_append_right (Nat.le_refl _)]
      simp only [tailL_ok h, Nat.sub_self]
      rfl
    rw [e, UInt8.toNat_ofNat_of_lt' (by simp [UInt8.size]; omega)]
  have hp : piece (P ++ tailL p ++ R) P.length p.size = p := by
    apply text_ext
    rw [piece_list, tailL_ok h]
    have e : P ++ (one p.size ++ p.data.toList) ++ R = (P ++ one p.size) ++ (p.data.toList ++ R) := by simp [List.append_assoc]
    have e2 : P.length + 1 = (P ++ one p.size).length := by rw [List.length_append, one_len]
    rw [e, e2, List.drop_left, List.take_left' hz]
  rw [has_in _ _ hlt, hb, hp, Fo_ok h, if_pos ⟨by rw [List.length_append, List.length_append]; omega, h⟩, hl]
  congr 2
  omega

/-- The names that a valid name begins with are valid. -/
theorem jo_grow (L : List ByteArray) : ∀ k, k < L.length → (jo (L.take k)).length ≤ (jo (L.take (k + 1))).length := fun k h => by
  by_cases h0 : 0 < k
  · rw [jo_step L k h0 h, List.length_append, List.length_append]
    omega
  · obtain rfl : k = 0 := by omega
    simp [jo, Lib.join_nil]
theorem jo_upto (L : List ByteArray) (k : Nat) : ∀ d, k + d ≤ L.length → (jo (L.take k)).length ≤ (jo (L.take (k + d))).length
  | 0, _ => Nat.le_refl _
  | d + 1, h => by
    have h1 := jo_upto L k d (by omega)
    have h2 := jo_grow L (k + d) (by omega)
    rw [show k + (d + 1) = k + d + 1 by omega]
    omega
theorem okL_take {L : List ByteArray} (h : okL L = true) (k : Nat) : okL (L.take k) = true := by
  rw [okL, List.all_eq_true] at h ⊢
  exact fun x hx => h x (List.mem_of_mem_take hx)
theorem nm_of {L : List ByteArray} (h : okL L = true) : Nm (Jo L) = (decide ((Jo L).size ≤ 50) && decide (L.length ≤ 6)) := by
  rw [Nm, lab_ok h, h]
  rfl
theorem nm_take {L : List ByteArray} (h : okL L = true) (hn : Nm (Jo L) = true) (k : Nat) : Nm (Jo (L.take k)) = true := by
  by_cases hk : k ≤ L.length
  · rw [nm_of h, Bool.and_eq_true] at hn
    rw [nm_of (okL_take h k), Bool.and_eq_true]
    have h1 := of_decide_eq_true hn.1
    have h2 := of_decide_eq_true hn.2
    have h3 := jo_upto L k (L.length - k) (by omega)
    rw [show k + (L.length - k) = L.length by omega, List.take_length] at h3
    rw [Jo_size] at h1
    refine ⟨decide_eq_true (by rw [Jo_size]; omega), decide_eq_true (by rw [List.length_take]; omega)⟩
  · rw [List.take_of_length_le (by omega)]
    exact hn
theorem nm_pre {T D : List ByteArray} (h : okL D = true) (hn : Nm (Jo D) = true) (hp : T <+: D) : Nm (Jo T) = true := by
  obtain ⟨r, rfl⟩ := hp
  have := nm_take h hn T.length
  rwa [List.take_left] at this

/-- Labels that stand one behind another are read one after another. -/
theorem rn_tls (P : List UInt8) (m : Int) (j : Nat) (x : Int) (R : List UInt8) : ∀ (T L0 : List ByteArray) (Q : List UInt8), okL (L0 ++ T) = true → Nm (Jo (L0 ++ T)) = true →
    rn (P ++ Q ++ tls T ++ R) L0 ((P ++ Q).length : Int) m j x = rn (P ++ Q ++ tls T ++ R) (L0 ++ T) ((P ++ Q ++ tls T).length : Int) m j x
  | [], L0, Q, _, _ => by simp [tls_nil]
  | p :: T, L0, Q, hok, hnm => by
    have hp : lok p.data.toList = true := okL_mem hok p (by simp)
    obtain ⟨hl, h1, h2⟩ := tailL_two hp
    have e : P ++ Q ++ tls (p :: T) ++ R = P ++ Q ++ tailL p ++ (tls T ++ R) := by rw [tls_cons]; simp [List.append_assoc]
    have hh := has_here (P ++ Q) (tls T ++ R) p hp
    rw [← e] at hh
    have hb := has_bt hh
    have hs := has_some hh
    have ih := rn_tls P m j x R T (L0 ++ [p]) (Q ++ tailL p) (by rw [List.append_assoc]; exact hok) (by rw [List.append_assoc]; exact hnm)
    have e2 : P ++ (Q ++ tailL p) ++ tls T ++ R = P ++ Q ++ tls (p :: T) ++ R := by rw [tls_cons]; simp [List.append_assoc]
    have e3 : P ++ (Q ++ tailL p) ++ tls T = P ++ Q ++ tls (p :: T) := by rw [tls_cons]; simp [List.append_assoc]
    have e4 : ((P ++ (Q ++ tailL p)).length : Int) = (((P ++ Q).length + (tailL p).length : Nat) : Int) := by rw [← List.append_assoc, List.length_append]
    have e5 : L0 ++ [p] ++ T = L0 ++ p :: T := by simp
    rw [e2, e3, e4, e5] at ih
    rw [← ih]
    refine rn_label ?_ hb.1 (by omega) hh ?_
    · omega
    · exact nm_pre hok hnm ⟨T, by simp⟩

/-- The end of a name. -/
theorem rn_stop (P R : List UInt8) (L : List ByteArray) (m : Int) (j : Nat) (x : Int) : rn (P ++ zer ++ R) L (P.length : Int) m j x = (0, L, if x < 0 then (P.length : Int) + 1 else x, j) := by
  have hb : bt (P ++ zer ++ R) (P.length : Int) = 0 := by
    have h1 := bt_mid P zer R 0 (by simp [zer, one_len])
    have h2 : (zer[0]'(by simp [zer, one_len])).toNat = 0 := rfl
    rw [h2] at h1
    simpa using h1
  refine rn_zero ?_ hb
  rw [List.length_append, List.length_append, zer, one_len]
  omega

/-- Out of the plain encoding. -/
theorem back_plain (l : List UInt8) (s : ByteArray) (h : Nm s = true) : rn (l ++ tailP s) [] (l.length : Int) (l.length : Int) 0 (-1) = (0, Lab s, ((l ++ tailP s).length : Int), 0) := by
  have hok := (nm_parts h).2.2
  have e : l ++ tailP s = l ++ [] ++ tls (Lab s) ++ zer := by rw [tailP, if_pos h]; simp [List.append_assoc]
  have h1 := rn_tls l (l.length : Int) 0 (-1) zer (Lab s) [] [] (by simpa using hok) (by rw [List.nil_append, jo_lab]; exact h)
  rw [← e, List.append_nil, List.nil_append] at h1
  rw [h1]
  have h2 := rn_stop (l ++ tls (Lab s)) [] (Lab s) (l.length : Int) 0 (-1)
  have e2 : l ++ tls (Lab s) ++ zer ++ [] = l ++ tailP s := by rw [e]; simp
  rw [e2] at h2
  rw [h2, if_pos (by omega), e]
  have e3 : ((l ++ [] ++ tls (Lab s) ++ zer).length : Int) = ((l ++ tls (Lab s)).length : Int) + 1 := by simp [zer, one_len]; omega
  rw [e3]

/-- More fuel changes no name that was read. -/
theorem go_more (l : List UInt8) (D : List ByteArray) (y : Int) (i : Nat) : ∀ f g L k m j x, go l f L k m j x = (0, D, y, i) → f ≤ g → go l g L k m j x = (0, D, y, i)
  | 0, _, _, _, _, _, _, h, _ => by simp [go] at h
  | _ + 1, 0, _, _, _, _, _, _, h => absurd h (by omega)
  | f + 1, g + 1, L, k, m, j, x, h, hfg => by
    unfold go at h ⊢
    split at h
    · simp at h
    · rename_i hk
      rw [if_neg hk]
      split at h
      · rename_i h0
        rw [if_pos h0]
        exact h
      · rename_i h0
        rw [if_neg h0]
        split at h
        · rename_i h192
          rw [if_pos h192]
          split at h
          · simp at h
          · rename_i h1
            rw [if_neg h1]
            split at h
            · simp at h
            · rename_i h2
              rw [if_neg h2]
              exact go_more l D y i f g _ _ _ _ _ h (by omega)
        · rename_i h192
          rw [if_neg h192]
          cases hh : has l k with
          | none =>
            rw [hh] at h
            simp only [Prod.mk.injEq] at h
            have := h.1
            split at this <;> omega
          | some q =>
            obtain ⟨p, e⟩ := q
            rw [hh] at h
            dsimp only at h ⊢
            split at h
            · rename_i h3
              rw [if_pos h3]
              exact go_more l D y i f g _ _ _ _ _ h (by omega)
            · simp at h
/-- What has been read stays at the head of what is read. -/
theorem go_ext (l : List UInt8) (D : List ByteArray) (y : Int) (i : Nat) : ∀ f L k m j x, go l f L k m j x = (0, D, y, i) → L <+: D
  | 0, _, _, _, _, _, h => by simp [go] at h
  | f + 1, L, k, m, j, x, h => by
    unfold go at h
    split at h
    · simp at h
    · split at h
      · simp only [Prod.mk.injEq, true_and] at h
        exact h.1 ▸ List.prefix_refl _
      · split at h
        · split at h
          · simp at h
          · split at h
            · simp at h
            · exact go_ext l D y i f _ _ _ _ _ h
        · cases hh : has l k with
          | none =>
            rw [hh] at h
            simp only [Prod.mk.injEq] at h
            have := h.1
            split at this <;> omega
          | some q =>
            obtain ⟨p, e⟩ := q
            rw [hh] at h
            dsimp only at h
            split at h
            · exact (List.prefix_append L [p]).trans (go_ext l D y i f _ _ _ _ _ h)
            · simp at h
theorem bt_left (l R : List UInt8) (k : Int) (h0 : 0 ≤ k) (h : k < (l.length : Int)) : bt (l ++ R) k = bt l k := by
  unfold bt
  rw [List.getD_eq_getElem?_getD, List.getD_eq_getElem?_getD, List.getElem?_append_left (by omega)]
theorem has_left {l : List UInt8} (R : List UInt8) {k : Int} {p : ByteArray} {e : Nat} (h : has l k = some (p, e)) : has (l ++ R) k = some (p, e) := by
  have hs := has_some h
  obtain ⟨k', rfl⟩ := Int.eq_ofNat_of_zero_le hs.1
  have hkl : k' < l.length := by omega
  have hkl2 : k' < (l ++ R).length := by rw [List.length_append]; omega
  have hg : (l ++ R)[k'] = l[k'] := List.getElem_append_left hkl
  rw [has_in l k' hkl] at h
  split at h
  · rename_i hh
    have hp : piece (l ++ R) k' l[k'].toNat = piece l k' l[k'].toNat := by
      apply text_ext
      rw [piece_list, piece_list, List.drop_append_of_le_length (by omega), List.take_append_of_le_length (by rw [List.length_drop]; omega)]
    rw [has_in _ k' hkl2, hg, hp, if_pos ⟨by rw [List.length_append]; omega, hh.2⟩]
    exact h
  · cases h
/-- A name that is read is read behind other labels and with more bytes behind, too. -/
theorem go_left (l R : List UInt8) (T D : List ByteArray) (y : Int) (i : Nat) (hok : okL (T ++ D) = true) (hnm : Nm (Jo (T ++ D)) = true) : ∀ f L k m j x, go l f L k m j x = (0, D, y, i) → ∀ j' x', 0 ≤ x' →
    ∃ i', go (l ++ R) f (T ++ L) k m j' x' = (0, T ++ D, x', i')
  | 0, _, _, _, _, _, h, _, _, _ => by simp [go] at h
  | f + 1, L, k, m, j, x, h, j', x', hx => by
    have hext := go_ext l D y i (f + 1) L k m j x h
    unfold go at h ⊢
    split at h
    · simp at h
    · rename_i hk
      have hb := bt_left l R k (by omega) (by omega)
      rw [if_neg (by rw [List.length_append]; omega), hb]
      split at h
      · rename_i h0
        rw [if_pos h0]
        simp only [Prod.mk.injEq, true_and] at h
        exact ⟨j', by rw [h.1, if_neg (by omega)]⟩
      · rename_i h0
        rw [if_neg h0]
        split at h
        · rename_i h192
          rw [if_pos h192]
          split at h
          · simp at h
          · rename_i h1
            have ht : tg (l ++ R) k = tg l k := by unfold tg; rw [hb, bt_left l R (k + 1) (by omega) (by omega)]
            rw [if_neg (by rw [List.length_append]; omega), ht]
            split at h
            · simp at h
            · rename_i h2
              rw [if_neg h2, if_neg (by omega)]
              exact go_left l R T D y i hok hnm f _ _ _ _ _ h _ _ hx
        · rename_i h192
          rw [if_neg h192]
          cases hh : has l k with
          | none =>
            rw [hh] at h
            simp only [Prod.mk.injEq] at h
            have := h.1
            split at this <;> omega
          | some q =>
            obtain ⟨p, e⟩ := q
            rw [hh] at h
            rw [has_left R hh]
            dsimp only at h ⊢
            split at h
            · have hx2 := go_ext l D y i f _ _ _ _ _ h
              have hpre : T ++ L ++ [p] <+: T ++ D := by
                rw [List.append_assoc]
                exact (List.prefix_append_right_inj T).2 hx2
              rw [if_pos (nm_pre hok hnm hpre), List.append_assoc]
              exact go_left l R T D y i hok hnm f _ _ _ _ _ h _ _ hx
            · simp at h
theorem mu_more (l R : List UInt8) (k m : Int) : mu l k m ≤ mu (l ++ R) k m := by
  unfold mu
  rw [List.length_append]
  have h : m.toNat * (l.length + 1) ≤ m.toNat * (l.length + R.length + 1) := Nat.mul_le_mul_left _ (by omega)
  omega
theorem rn_left {l : List UInt8} (R : List UInt8) {T D : List ByteArray} {k m x y : Int} {j i : Nat} (h : rn l [] k m j x = (0, D, y, i)) (hok : okL (T ++ D) = true) (hnm : Nm (Jo (T ++ D)) = true) (j' : Nat) (x' : Int) (hx : 0 ≤ x') :
    ∃ i', rn (l ++ R) T k m j' x' = (0, T ++ D, x', i') := by
  unfold rn at h ⊢
  obtain ⟨i', h1⟩ := go_left l R T D y i hok hnm _ _ _ _ _ _ h j' x' hx
  rw [List.append_nil] at h1
  exact ⟨i', go_more _ _ _ _ _ _ _ _ _ _ _ h1 (by have := mu_more l R k m; omega)⟩

/-- How PutName's tail is built. -/
theorem pn_split (l : List UInt8) : ∀ L : List ByteArray, pn l L = tls L ++ zer ∨ ∃ (k q : Nat), k < L.length ∧ q < l.length ∧ q ≤ 16383 ∧ hit l (Jo (L.drop k)) q = true ∧ pn l L = tls (L.take k) ++ ptr (q : Int)
  | [] => Or.inl (by rw [pn, tls_nil]; rfl)
  | p :: r => by
    rw [pn]
    split
    · rename_i h
      obtain ⟨q, hq, h1, h2, h3⟩ := pl_some h
      exact Or.inr ⟨0, q, by simp, h1, h2, h3, by rw [hq]; simp [tls_nil]⟩
    · rcases pn_split l r with h | ⟨k, q, hk, h1, h2, h3, h4⟩
      · exact Or.inl (by rw [h, tls_cons, List.append_assoc])
      · exact Or.inr ⟨k + 1, q, by simpa using hk, h1, h2, by simpa using h3, by rw [h4, List.take_succ_cons, tls_cons, List.append_assoc]⟩
theorem ptr_bytes (q : Nat) (h : q ≤ 16383) : ((ptr (q : Int))[0]'(by rw [ptr_len]; omega)).toNat = 192 + q / 256 ∧ ((ptr (q : Int))[1]'(by rw [ptr_len]; omega)).toNat = q % 256 := by
  have e1 : ((49152 + (q : Int)) / 256).toNat = 192 + q / 256 := by omega
  have e2 : ((49152 + (q : Int)) % 256).toNat = q % 256 := by omega
  constructor
  · show (UInt8.ofNat ((49152 + (q : Int)) / 256).toNat).toNat = _
    rw [e1, UInt8.toNat_ofNat_of_lt' (by simp [UInt8.size]; omega)]
  · show (UInt8.ofNat ((49152 + (q : Int)) % 256).toNat).toNat = _
    rw [e2, UInt8.toNat_ofNat_of_lt' (by simp [UInt8.size]; omega)]

/-- Out of the encoding with pointers. -/
theorem back_name (l : List UInt8) (s : ByteArray) (h : Nm s = true) : ∃ i, rn (l ++ tailN l s) [] (l.length : Int) (l.length : Int) 0 (-1) = (0, Lab s, ((l ++ tailN l s).length : Int), i) := by
  obtain ⟨_, _, hok⟩ := nm_parts h
  have hnm : Nm (Jo (Lab s)) = true := by rw [jo_lab]; exact h
  have e0 : tailN l s = pn l (Lab s) := by rw [tailN, if_pos h]
  rcases pn_split l (Lab s) with e | ⟨k, q, hk, hq1, hq2, hh, e⟩
  · have e1 : tailN l s = tailP s := by rw [e0, e, tailP, if_pos h]
    rw [e1]
    exact ⟨0, back_plain l s h⟩
  · rw [e0, e]
    have ht : okL ((Lab s).take k) = true := okL_take hok k
    have hn : Nm (Jo ((Lab s).take k)) = true := nm_take hok hnm k
    have h1 := rn_tls l (l.length : Int) 0 (-1) (ptr (q : Int)) ((Lab s).take k) [] [] (by simpa using ht) (by simpa using hn)
    rw [List.append_nil, List.nil_append] at h1
    obtain ⟨hp0, hp1⟩ := ptr_bytes q hq2
    have hb0 : bt (l ++ tls ((Lab s).take k) ++ ptr (q : Int)) ((l ++ tls ((Lab s).take k)).length : Int) = ((192 + q / 256 : Nat) : Int) := by
      have := bt_mid (l ++ tls ((Lab s).take k)) (ptr (q : Int)) [] 0 (by rw [ptr_len]; omega)
      rw [hp0, List.append_nil] at this
      simpa using this
    have hb1 : bt (l ++ tls ((Lab s).take k) ++ ptr (q : Int)) (((l ++ tls ((Lab s).take k)).length : Int) + 1) = ((q % 256 : Nat) : Int) := by
      have := bt_mid (l ++ tls ((Lab s).take k)) (ptr (q : Int)) [] 1 (by rw [ptr_len]; omega)
      rw [hp1, List.append_nil] at this
      simpa using this
    have htg : tg (l ++ tls ((Lab s).take k) ++ ptr (q : Int)) ((l ++ tls ((Lab s).take k)).length : Int) = (q : Int) := by
      unfold tg
      rw [hb0, hb1]
      omega
    have hlen : ((l ++ tls ((Lab s).take k) ++ ptr (q : Int)).length : Int) = ((l ++ tls ((Lab s).take k)).length : Int) + 2 := by
      rw [List.length_append, ptr_len]
      omega
    have h2 := rn_jump (l := l ++ tls ((Lab s).take k) ++ ptr (q : Int)) (L := (Lab s).take k) (k := ((l ++ tls ((Lab s).take k)).length : Int)) (m := (l.length : Int)) (j := 0) (x := -1) (by omega) (by rw [hb0]; omega) (by omega) (by rw [htg]; omega)
    rw [htg, if_pos (by omega)] at h2
    obtain ⟨hd1, hd2⟩ := hit_iff.1 hh
    obtain ⟨c, D, y, i, hR⟩ : ∃ c D y i, rn l [] (q : Int) (q : Int) 0 (-1) = (c, D, y, i) := ⟨_, _, _, _, rfl⟩
    unfold dn at hd1 hd2
    rw [hR] at hd1 hd2
    dsimp only at hd1 hd2
    subst hd1
    have hDok := (rn_good hR).1
    have hD : D = (Lab s).drop k := by
      have e1 := lab_ok hDok
      have hdr : okL ((Lab s).drop k) = true := by
        rw [okL, List.all_eq_true] at hok ⊢
        exact fun x hx => hok x (List.mem_of_mem_drop hx)
      have e2 := lab_ok hdr
      rw [← e1, hd2, e2]
    subst hD
    have hfull : (Lab s).take k ++ (Lab s).drop k = Lab s := List.take_append_drop k _
    obtain ⟨i', h3⟩ := rn_left (tls ((Lab s).take k) ++ ptr (q : Int)) (T := (Lab s).take k) hR (by rw [hfull]; exact hok) (by rw [hfull]; exact hnm) 1 (((l ++ tls ((Lab s).take k)).length : Int) + 2) (by omega)
    rw [hfull, ← List.append_assoc] at h3
    refine ⟨i', ?_⟩
    rw [← List.append_assoc, h1, h2, hlen]
    exact h3

theorem pn_short (l : List UInt8) : ∀ L : List ByteArray, okL L = true → (pn l L).length ≤ (tls L).length + 1
  | [], _ => by simp [pn, zer, one_len]
  | p :: r, h => by
    have hp := tailL_two (okL_mem h p (by simp))
    have ih := pn_short l r (by rw [okL, List.all_cons, Bool.and_eq_true] at h; exact h.2)
    rw [pn, tls_cons, List.length_append]
    split
    · rw [ptr_len]
      omega
    · rw [List.length_append]
      omega
/-- The encoding with pointers is no longer. -/
theorem name_short (l : List UInt8) (s : ByteArray) (h : Nm s = true) : (tailN l s).length ≤ (tailP s).length := by
  have h1 := pn_short l (Lab s) (nm_parts h).2.2
  rw [tailN, if_pos h, tailP, if_pos h, List.length_append, zer, one_len]
  exact h1
/-- A name that has just been put is put again by one pointer. -/
theorem again (l : List UInt8) (s : ByteArray) (h : Nm s = true) (hl : l.length ≤ 16383) : (tailN (l ++ tailN l s) s).length ≤ 2 := by
  rw [show tailN (l ++ tailN l s) s = pn (l ++ tailN l s) (Lab s) by rw [tailN, if_pos h]]
  cases hL : Lab s with
  | nil => simp [pn, zer, one_len]
  | cons p r =>
    have hs : Jo (p :: r) = s := by rw [← hL, jo_lab]
    rw [pn]
    split
    · rw [ptr_len]
      exact Nat.le_refl _
    · rename_i hno
      exfalso
      rw [hs] at hno
      obtain ⟨i, hb⟩ := back_name l s h
      have hne : 0 < (tailN l s).length := by
        rw [tailN, if_pos h, hL, pn]
        split
        · rw [ptr_len]; omega
        · rw [List.length_append]
          have := tailL_two (okL_mem (nm_parts h).2.2 p (by rw [hL]; simp))
          omega
      have hm := pl_none hno l.length (by rw [List.length_append]; omega) hl
      have hy : hit (l ++ tailN l s) s l.length = true := by
        rw [hit_iff]
        unfold dn
        rw [hb]
        exact ⟨rfl, jo_lab s⟩
      rw [hy] at hm
      cases hm
end Go.Proofs.YtcpadkehalgddaaGreatDoor.WireBack

/- Plain mathematics: what was put as a record is read as that record, whatever stands ahead of it and behind it. Nothing of the program is named here but the seat itself. -/
namespace Go.Proofs.YtcpadkehalgddaaGreatDoor.FieldBack
open Go.Proofs.YtcpadkehalgddaaGreatDoor.Mem Go.Proofs.YtcpadkehalgddaaGreatDoor.MemR Go.Proofs.YtcpadkehalgddaaGreatDoor.JoinSpec Go.Proofs.YtcpadkehalgddaaGreatDoor.Split Go.Proofs.YtcpadkehalgddaaGreatDoor.JoinLab Go.Proofs.YtcpadkehalgddaaGreatDoor.GetLabel Go.Proofs.YtcpadkehalgddaaGreatDoor.PutLabel Go.Proofs.YtcpadkehalgddaaGreatDoor.NameOk Go.Proofs.YtcpadkehalgddaaGreatDoor.TextR Go.Proofs.YtcpadkehalgddaaGreatDoor.RecOk Go.Proofs.YtcpadkehalgddaaGreatDoor.WireMath Go.Proofs.YtcpadkehalgddaaGreatDoor.WireBack Go.Proofs.YtcpadkehalgddaaGreatDoor.Plain Go.Proofs.YtcpadkehalgddaaGreatDoor.PutSpec Go.Proofs.YtcpadkehalgddaaGreatDoor.Put Go.Proofs.YtcpadkehalgddaaGreatDoor.Get Go.Proofs.YtcpadkehalgddaaGreatDoor.FieldMath

/-- A name that is read is read with more bytes behind, too. -/
theorem go_behind (l R : List UInt8) (D : List ByteArray) (y : Int) (i : Nat) : ∀ f L k m j x, go l f L k m j x = (0, D, y, i) → go (l ++ R) f L k m j x = (0, D, y, i)
  | 0, _, _, _, _, _, h => by simp [go] at h
  | f + 1, L, k, m, j, x, h => by
    unfold go at h ⊢
    split at h
    · simp at h
    · rename_i hk
      have hb := bt_left l R k (by omega) (by omega)
      rw [if_neg (by rw [List.length_append]; omega), hb]
      split at h
      · rename_i h0
        rw [if_pos h0]
        exact h
      · rename_i h0
        rw [if_neg h0]
        split at h
        · rename_i h192
          rw [if_pos h192]
          split at h
          · simp at h
          · rename_i h1
            have ht : tg (l ++ R) k = tg l k := by unfold tg; rw [hb, bt_left l R (k + 1) (by omega) (by omega)]
            rw [if_neg (by rw [List.length_append]; omega), ht]
            split at h
            · simp at h
            · rename_i h2
              rw [if_neg h2]
              exact go_behind l R D y i f _ _ _ _ _ h
        · rename_i h192
          rw [if_neg h192]
          cases hh : has l k with
          | none =>
            rw [hh] at h
            simp only [Prod.mk.injEq] at h
            have := h.1
            split at this <;> omega
          | some q =>
            obtain ⟨p, e⟩ := q
            rw [hh] at h
            rw [has_left R hh]
            dsimp only at h ⊢
            split at h
            · rename_i h3
              rw [if_pos h3]
              exact go_behind l R D y i f _ _ _ _ _ h
            · simp at h
theorem rn_behind {l : List UInt8} (R : List UInt8) {D : List ByteArray} {k m x y : Int} {j i : Nat} (h : rn l [] k m j x = (0, D, y, i)) : rn (l ++ R) [] k m j x = (0, D, y, i) := by
  unfold rn at h ⊢
  exact go_more _ _ _ _ _ _ _ _ _ _ _ (go_behind l R D y i _ _ _ _ _ _ h) (by have := mu_more l R k m; omega)

theorem of_byte (x : Int) (h0 : 0 ≤ x) (h1 : x < 256) : ((UInt8.ofNat x.toNat).toNat : Int) = x := by
  rw [UInt8.toNat_ofNat_of_lt' (by simp [UInt8.size]; omega), Int.toNat_of_nonneg h0]
theorem be_quad (k : Int) (h0 : 0 ≤ k) (h1 : k ≤ 2147483647) : be (quad k) = k := by
  have e1 := of_byte (k / 16777216) (by omega) (by omega)
  have e2 := of_byte (k / 65536 % 256) (by omega) (by omega)
  have e3 := of_byte (k / 256 % 256) (by omega) (by omega)
  have e4 := of_byte (k % 256) (by omega) (by omega)
  simp only [be, quad, List.foldl_cons, List.foldl_nil, e1, e2, e3, e4]
  omega
theorem be_two (k : Int) (h0 : 0 ≤ k) (h1 : k ≤ 65535) : be (two k) = k := by
  have e1 := of_byte (k / 256) (by omega) (by omega)
  have e2 := of_byte (k % 256) (by omega) (by omega)
  simp only [be, two, List.foldl_cons, List.foldl_nil, e1, e2]
  omega
theorem mid (P X Q : List UInt8) (m : Nat) (h : X.length = m) : ((P ++ X ++ Q).drop P.length).take m = X := by
  rw [List.append_assoc, List.drop_left, ← h, List.take_left]
theorem n4_mid (P Q : List UInt8) (x : Int) (h0 : 0 ≤ x) (h1 : x ≤ 2147483647) (k : Int) (hk : k = (P.length : Int)) : n4 (P ++ quad x ++ Q) k = (x, true) := by
  subst hk
  have hl : (quad x).length = 4 := rfl
  have e : be (((P ++ quad x ++ Q).drop P.length).take 4) = x := by rw [mid _ _ _ 4 hl]; exact be_quad x h0 h1
  rw [n4, if_pos ⟨by omega, by simp only [List.length_append, hl]; omega⟩, Int.toNat_natCast, e, if_neg (by omega)]
theorem n2_mid (P Q : List UInt8) (x : Int) (h0 : 0 ≤ x) (h1 : x ≤ 65535) (k : Int) (hk : k = (P.length : Int)) : n2 (P ++ two x ++ Q) k = (x, true) := by
  subst hk
  have hl : (two x).length = 2 := rfl
  have e : be (((P ++ two x ++ Q).drop P.length).take 2) = x := by rw [mid _ _ _ 2 hl]; exact be_two x h0 h1
  rw [n2, if_pos ⟨by omega, by simp only [List.length_append, hl]; omega⟩, Int.toNat_natCast, e]
theorem emp_eq {s : ByteArray} (h : emp s = true) : s = ⟨#[]⟩ := by
  have h : s.size = 0 := of_decide_eq_true h
  obtain ⟨a⟩ := s
  have h : a.size = 0 := h
  rw [Array.eq_empty_of_size_eq_zero h]
theorem nul_eq {n : Int} (h : nul n = true) : n = 0 := of_decide_eq_true h
theorem inn_eq {x a b : Int} (h : inn x a b = true) : a ≤ x ∧ x ≤ b := of_decide_eq_true h
theorem name_mid (P Q : List UInt8) (s : ByteArray) (h : Nm s = true) (k : Int) (hk : k = (P.length : Int)) : rn (P ++ tailP s ++ Q) [] k k 0 (-1) = (0, Lab s, ((P ++ tailP s).length : Int), 0) := by
  subst hk
  exact rn_behind Q (back_plain P s h)
/-- The data of a record without name and time to live. -/
def core (r : Rec) : Rec := ⟨⟨#[]⟩, r.ty, 0, r.n, r.host, r.text⟩
theorem back_data (P Q : List UInt8) (r : Rec) (h : rok r = true) (k : Int) (hk : k = (P.length : Int)) : gd (P ++ dat r ++ Q) k ((dat r).length : Int) r.ty = (0, core r) := by
  have hd : dat r = dta r.ty r.n r.host r.text := if_pos h
  have hl := dat_len r
  rw [rok, Bool.and_eq_true, Bool.and_eq_true] at h
  have h := h.2.2
  have hn : 0 ≤ ((dat r).length : Int) ∧ ((dat r).length : Int) ≤ 255 := by omega
  have ho : ¬ (k < 0 ∨ ((P ++ dat r ++ Q).length : Int) - ((dat r).length : Int) < k) := by subst hk; simp only [List.length_append]; omega
  obtain ⟨nm, ty, ttl, n, host, text⟩ := r
  unfold core
  dsimp only at *
  by_cases h1 : ty = 1
  · subst h1
    rw [dko_1, Bool.and_eq_true, Bool.and_eq_true] at h
    obtain rfl := emp_eq h.2.1
    obtain rfl := emp_eq h.2.2
    have hr := inn_eq h.1
    rw [dta_1, tail4, if_pos hr] at hd
    have hd4 : (dat ⟨nm, 1, ttl, n, ⟨#[]⟩, ⟨#[]⟩⟩).length = 4 := by rw [hd]; rfl
    rw [gd_1 hn ho, hd4, hd, n4_mid P Q n hr.1 hr.2 k hk, if_pos ⟨rfl, rfl⟩]
    rfl
  by_cases h6 : ty = 6
  · subst h6
    rw [dko_6, Bool.and_eq_true, Bool.and_eq_true] at h
    obtain rfl := emp_eq h.2.2
    have hr := inn_eq h.2.1
    rw [dta_6, tail4, if_pos ⟨hr.1, by omega⟩] at hd
    have e : P ++ dat ⟨nm, 6, ttl, n, host, ⟨#[]⟩⟩ ++ Q = P ++ tailP host ++ (quad n ++ Q) := by rw [hd]; simp only [List.append_assoc]
    have e2 : P ++ tailP host ++ (quad n ++ Q) = P ++ tailP host ++ quad n ++ Q := by simp only [List.append_assoc]
    have hR := name_mid P (quad n ++ Q) host h.1 k hk
    have hN := n4_mid (P ++ tailP host) Q n hr.1 (by omega) _ rfl
    have hz : ((P ++ tailP host).length : Int) + 4 = k + ((dat ⟨nm, 6, ttl, n, host, ⟨#[]⟩⟩).length : Int) := by
      subst hk
      rw [hd]
      simp only [List.length_append]
      have : (quad n).length = 4 := rfl
      omega
    rw [gd_6 hn ho, e, hR]
    dsimp only
    rw [e2, hN, if_neg (fun e => e rfl), if_pos ⟨rfl, hz⟩, jo_lab]
    rfl
  by_cases h16 : ty = 16
  · subst h16
    rw [dko_16, Bool.and_eq_true, Bool.and_eq_true] at h
    obtain rfl := emp_eq h.2.2
    obtain rfl := nul_eq h.2.1
    have htx := h.1
    rw [dta_16] at hd
    have ht12 : text.size ≤ 12 := by rw [txo, Bool.and_eq_true] at htx; exact of_decide_eq_true htx.2
    have htl : text.data.toList.length = text.size := by simp
    have hz : (dat ⟨nm, 16, ttl, 0, ⟨#[]⟩, text⟩).length = text.size + 1 := by rw [hd, List.length_append, one_len, htl]; omega
    subst hk
    have hb : bt (P ++ dat ⟨nm, 16, ttl, 0, ⟨#[]⟩, text⟩ ++ Q) (P.length : Int) = (text.size : Int) := by
      have := bt_mid P (dat ⟨nm, 16, ttl, 0, ⟨#[]⟩, text⟩) Q 0 (by omega)
      rw [show (P.length : Int) + ((0 : Nat) : Int) = (P.length : Int) by omega] at this
      rw [this]
      have h0 : (dat ⟨nm, 16, ttl, 0, ⟨#[]⟩, text⟩)[0]'(by omega) = UInt8.ofNat text.size := by
        simp only [hd]
        rfl
      rw [h0, UInt8.toNat_ofNat_of_lt' (by simp [UInt8.size]; omega)]
    have hp : piece (P ++ dat ⟨nm, 16, ttl, 0, ⟨#[]⟩, text⟩ ++ Q) (P.length : Int).toNat (((dat ⟨nm, 16, ttl, 0, ⟨#[]⟩, text⟩).length : Int) - 1).toNat = text := by
      have e1 : (((dat ⟨nm, 16, ttl, 0, ⟨#[]⟩, text⟩).length : Int) - 1).toNat = text.size := by omega
      rw [e1, Int.toNat_natCast]
      have e2 : P ++ dat ⟨nm, 16, ttl, 0, ⟨#[]⟩, text⟩ ++ Q = P ++ one text.size ++ text.data.toList ++ Q := by rw [hd]; simp only [List.append_assoc]
      have e3 : P.length + 1 = (P ++ one text.size).length := by rw [List.length_append, one_len]
      unfold piece
      rw [e2, e3, mid _ _ _ _ htl]
    rw [gd_16 hn ho, hp, hb, if_pos ⟨by omega, by omega, htx⟩]
    rfl
  · have hh : ty = 2 ∨ ty = 5 := Decidable.byContradiction fun hne => by
      rw [dko_none _ _ _ h1 (by omega) (by omega) h6 h16] at h
      cases h
    have h : (Nm host && (nul n && emp text)) = true := by rcases hh with rfl | rfl <;> exact h
    rw [Bool.and_eq_true, Bool.and_eq_true] at h
    obtain rfl := emp_eq h.2.2
    obtain rfl := nul_eq h.2.1
    have hd : dat ⟨nm, ty, ttl, 0, host, ⟨#[]⟩⟩ = tailP host := by rcases hh with rfl | rfl <;> exact hd
    have hR := name_mid P Q host h.1 k hk
    have hz : ((P ++ tailP host).length : Int) = k + ((tailP host).length : Int) := by subst hk; rw [List.length_append]; omega
    rw [gd_h hn ho hh, hd, hR]
    dsimp only
    rw [if_neg (fun e => e rfl), if_pos hz, jo_lab]
    rfl

theorem back_rec (l Q : List UInt8) (r : Rec) (h : rok r = true) : gr (l ++ tailR l r ++ Q) (l.length : Int) = (0, ((l ++ tailR l r).length : Int), r) := by
  have hd := dat_len r
  have hty := rok_ty h
  have hr := h
  rw [rok, Bool.and_eq_true, Bool.and_eq_true] at hr
  have ht := inn_eq hr.2.1
  obtain ⟨i, hb⟩ := back_name l r.name hr.1
  generalize hN : l ++ tailN l r.name = N at *
  have e : l ++ tailR l r = N ++ two r.ty ++ two 1 ++ quad r.ttl ++ two ((dat r).length : Int) ++ dat r := by
    rw [tailR, if_pos h, tail2, if_pos ⟨by omega, by omega⟩, tail2, if_pos ⟨by omega, by omega⟩, tail4, if_pos ⟨by omega, by omega⟩, tail2, if_pos ⟨by omega, by omega⟩, ← hN]
    simp only [List.append_assoc]
  have l2 : ∀ x, (two x).length = 2 := fun _ => rfl
  have l4 : ∀ x, (quad x).length = 4 := fun _ => rfl
  have hz : ((l ++ tailR l r).length : Int) = (N.length : Int) + 10 + ((dat r).length : Int) := by
    rw [e]
    simp only [List.length_append, l2, l4]
    omega
  have hx : ∀ X, l ++ tailR l r ++ Q = X → rn X [] (l.length : Int) (l.length : Int) 0 (-1) = (0, Lab r.name, (N.length : Int), i) := fun X hX => by
    have e2 : X = N ++ (two r.ty ++ two 1 ++ quad r.ttl ++ two ((dat r).length : Int) ++ dat r ++ Q) := by
      rw [← hX, e]
      simp only [List.append_assoc]
    rw [e2]
    exact rn_behind _ hb
  have a1 : n2 (l ++ tailR l r ++ Q) (N.length : Int) = (r.ty, true) := by
    have := n2_mid N (two 1 ++ quad r.ttl ++ two ((dat r).length : Int) ++ dat r ++ Q) r.ty (by omega) (by omega) _ rfl
    rw [← this, e]
    simp only [List.append_assoc]
  have a2 : n2 (l ++ tailR l r ++ Q) ((N.length : Int) + 2) = (1, true) := by
    have := n2_mid (N ++ two r.ty) (quad r.ttl ++ two ((dat r).length : Int) ++ dat r ++ Q) 1 (by omega) (by omega) ((N.length : Int) + 2) (by rw [List.length_append, l2]; omega)
    rw [← this, e]
    simp only [List.append_assoc]
  have a3 : n4 (l ++ tailR l r ++ Q) ((N.length : Int) + 4) = (r.ttl, true) := by
    have := n4_mid (N ++ two r.ty ++ two 1) (two ((dat r).length : Int) ++ dat r ++ Q) r.ttl (by omega) (by omega) ((N.length : Int) + 4) (by simp only [List.length_append, l2]; omega)
    rw [← this, e]
    simp only [List.append_assoc]
  have a4 : n2 (l ++ tailR l r ++ Q) ((N.length : Int) + 8) = (((dat r).length : Int), true) := by
    have := n2_mid (N ++ two r.ty ++ two 1 ++ quad r.ttl) (dat r ++ Q) ((dat r).length : Int) (by omega) (by omega) ((N.length : Int) + 8) (by simp only [List.length_append, l2, l4]; omega)
    rw [← this, e]
    simp only [List.append_assoc]
  have a5 : gd (l ++ tailR l r ++ Q) ((N.length : Int) + 10) ((dat r).length : Int) r.ty = (0, core r) := by
    have := back_data (N ++ two r.ty ++ two 1 ++ quad r.ttl ++ two ((dat r).length : Int)) Q r h ((N.length : Int) + 10) (by simp only [List.length_append, l2, l4]; omega)
    rw [← this, e]
  have a6 : wn (core r) (Jo (Lab r.name)) r.ttl = r := by rw [jo_lab]; rfl
  rw [gr_good (hx _ rfl) (by rw [List.length_append]; omega) (by rw [a4, a1]; exact a5) (by rw [a3, a2]; exact ⟨rfl, rfl, by rw [a6]; exact h⟩), a4, a3, a6, hz]
theorem puts_pre : ∀ (L : List Rec) (l : List UInt8), ∃ T, puts l L = l ++ T
  | [], l => ⟨[], by simp [puts]⟩
  | r :: L, l => by
    obtain ⟨T, h⟩ := puts_pre L (l ++ tailR l r)
    exact ⟨tailR l r ++ T, by rw [puts, h, List.append_assoc]⟩
theorem back_list : ∀ (L : List Rec) (l : List UInt8) (M : List Rec), (∀ r ∈ L, rok r = true) → grs (puts l L) L.length (l.length : Int) M = (0, ((puts l L).length : Int), M ++ L)
  | [], l, M, _ => by simp [puts, grs]
  | r :: L, l, M, h => by
    obtain ⟨T, hT⟩ := puts_pre L (l ++ tailR l r)
    have hb := back_rec l T r (h r (by simp))
    have hi := back_list L (l ++ tailR l r) (M ++ [r]) (fun x hx => h x (by simp [hx]))
    rw [← hT] at hb
    rw [List.length_cons, grs, puts, hb]
    dsimp only
    rw [if_neg (fun e => e rfl), hi]
    simp
end Go.Proofs.YtcpadkehalgddaaGreatDoor.FieldBack

/- What the law's own helpers eqByteS, markByteS and heldByteS do on slices of bytes. Condition: fewer than 400000001 bytes. -/
namespace Go.Proofs.YtcpadkehalgddaaGreatDoor.Eq
open Go.RowKit Go.Proofs.YtcpadkehalgddaaGreatDoor.Mem

theorem cast_ne {a b : UInt8} (h : a ≠ b) : ((a.toNat : Int) != (b.toNat : Int)) = true := by
  rw [bne_iff_ne]; intro e; exact h (UInt8.toNat_inj.1 (by omega))
theorem cast_eq {a b : UInt8} (h : a = b) : ((a.toNat : Int) != (b.toNat : Int)) = false := by subst h; simp

/-- Two lists that agree as far as k, and part at k. -/
theorem ne_at {l m : List UInt8} {k : Nat} (h : k < l.length) (h' : k < m.length) (hne : l[k] ≠ m[k]) : (l == m) = false := by
  rw [beq_eq_false_iff_ne]; rintro rfl; exact hne rfl
theorem eq_all {l m : List UInt8} (hl : l.length = m.length) (h : l.take l.length = m.take l.length) : (l == m) = true := by
  rw [List.take_length, hl, List.take_length] at h; simp [h]
theorem take_step {l m : List UInt8} {k : Nat} (hk : k < l.length) (hk' : k < m.length) (h : l.take k = m.take k) (he : l[k] = m[k]) : l.take (k + 1) = m.take (k + 1) := by
  rw [List.take_succ_eq_append_getElem hk, List.take_succ_eq_append_getElem hk', h, he]

set_option maxHeartbeats 1000000 in
theorem eqByteS_any (A A' : Option Addr) (n c n' c' : Nat) (l m : List UInt8) (w : World) (B : Nat) (hs : Sl w B A n l) (hs' : Sl w B A' n' m) (hn : n ≤ 400000000) (hn' : n' ≤ 400000000) :
    Calls Tryz.prog 24 #[.slice A n c, .slice A' n' c'] w fun e w' => e = .returned (.bool (l == m)) ∧ ∃ k, w' = w.drewN k := by
  have HL := Lib.hid hs.1
  have HM := Lib.hid hs'.1
  by_cases hnn : n = n'
  · subst hnn
    have hd : ((n : Int) != (n : Int)) = false := by simp
    go_enter Tryz.func24, Tryz.ntmps24
    go_wp2
    go_loopw [5] (fun i wr => ∃ k : Nat, k ≤ n ∧ i = .int .i64 k ∧ Hid (l.take k = m.take k) ∧ Hid (∃ q, wr = w.drewN q)) (fun i _ => n - (intOf i).toNat)
    case atStart => exact ⟨0, Nat.zero_le _, rfl, rfl, ⟨0, rfl⟩⟩
    case round =>
      obtain ⟨k, hk, rfl, HT, HW⟩ := hrel
      obtain ⟨q, rfl⟩ := HW.out
      clear HW
      by_cases hlt : k < n
      · obtain ⟨b, off, rfl, hbB, hcs⟩ := hs.2 (by omega)
        obtain ⟨b', off', rfl, hbB', hcs'⟩ := hs'.2 (by omega)
        have hkl : k < l.length := by rw [HL.out]; exact hlt
        have hkm : k < m.length := by rw [HM.out]; exact hlt
        have hx : w.cell? ⟨b, off + k, none⟩ = some (.int .u8 (l[k].toNat : Int)) := hcs k hkl
        have hy : w.cell? ⟨b', off' + k, none⟩ = some (.int .u8 (m[k].toNat : Int)) := hcs' k hkm
        clear hcs hcs' hs hs'
        by_cases he : l[k] = m[k]
        · have hbb := cast_eq he
          have HE := Lib.hid he
          clear he
          go_wp2
          go_quiet (fail)
          go_wp2
          go_roundw
          case rel => exact ⟨k + 1, by omega, by go_num, take_step hkl hkm HT.out HE.out, ⟨_, rfl⟩⟩
          case measure => simp [intOf]; omega
        · have hbb := cast_ne he
          have HE := Lib.hid he
          clear he
          go_wp2
          go_quiet (fail)
          go_wp2
          go_ret
          exact ⟨by rw [ne_at hkl hkm HE.out]; rfl, ⟨q + nq, World.drewN_drewN _ _ _⟩⟩
      · go_wp2
        go_ret
        have hk2 : k = l.length := by rw [HL.out]; omega
        refine ⟨?_, ⟨_, rfl⟩⟩
        rw [eq_all (by rw [HL.out, HM.out]) (by rw [← hk2]; exact HT.out)]
        rfl
  · have hd : ((n : Int) != (n' : Int)) = true := by rw [bne_iff_ne]; omega
    go_enter Tryz.func24, Tryz.ntmps24
    go_wp2
    go_ret
    refine ⟨?_, ⟨0, rfl⟩⟩
    have : (l == m) = false := by
      rw [beq_eq_false_iff_ne]; rintro rfl; exact hnn (HL.out.symm.trans HM.out)
    rw [this]
    rfl

/-- Two slices that read alike are found equal. -/
theorem eqByteS_same (A A' : Option Addr) (n c n' c' : Nat) (l : List UInt8) (w : World) (hs : Sl w w.heap.size A n l) (hs' : Sl w w.heap.size A' n' l) (hn : n ≤ 400000000) (hn' : n' ≤ 400000000) :
    Calls Tryz.prog 24 #[.slice A n c, .slice A' n' c'] w fun e w' => e = .returned (.bool true) ∧ Below w.heap.size w w' := by
  refine (eqByteS_any A A' n c n' c' l l w _ hs hs' hn hn').mono fun e w' ⟨he, k, hw⟩ => ?_
  subst hw
  exact ⟨by rw [he]; simp, drewN_below _ _ _⟩

/-- The numbers that markByteS lays: k, k + 1 and so on, as bytes. -/
def marks : Nat → Nat → List Value
  | _, 0 => []
  | k, n + 1 => Value.int .u8 ((k : Int) % 256) :: marks (k + 1) n
theorem marks_length (k n : Nat) : (marks k n).length = n := by
  induction n generalizing k with
  | zero => rfl
  | succ n ih => simp [marks, ih]
theorem marks_at (k n j : Nat) (h : j < n) : (marks k n)[j]? = some (Value.int .u8 (((k : Int) + (j : Int)) % 256)) := by
  induction n generalizing k j with
  | zero => omega
  | succ n ih =>
    cases j with
    | zero => simp [marks]
    | succ j => simp only [marks, List.getElem?_cons_succ]; rw [ih (k + 1) j (by omega)]; rw [show ((k + 1 : Nat) : Int) + (j : Int) = (k : Int) + ((j + 1 : Nat) : Int) by omega]
theorem marks_snoc (k n : Nat) : marks k (n + 1) = marks k n ++ [Value.int .u8 (((k : Int) + (n : Int)) % 256)] := by
  induction n generalizing k with
  | zero => simp [marks]
  | succ n ih => rw [marks, ih (k + 1), marks, List.cons_append, show ((k + 1 : Nat) : Int) + (n : Int) = (k : Int) + ((n + 1 : Nat) : Int) by omega]

theorem mark_step (cs : List Value) (k j n : Nat) (hj : j < n) (hn : n ≤ cs.length) :
    (marks k j ++ cs.drop j).set j (Value.int .u8 (((k : Int) + (j : Int)) % 256)) = marks k (j + 1) ++ cs.drop (j + 1) := by
  rw [List.set_append_right _ _ (by rw [marks_length]; omega), marks_length, Nat.sub_self, List.drop_eq_getElem_cons (by omega), List.set_cons_zero, marks_snoc, List.append_assoc]
  rfl
theorem mark_at (cs : List Value) (k j : Nat) (hj : j < cs.length) : (marks k j ++ cs.drop j)[j]? = some cs[j] := by
  rw [List.getElem?_append_right (by rw [marks_length]; omega), marks_length, Nat.sub_self, List.drop_eq_getElem_cons hj]
  rfl

theorem grown_set {w wr : World} {g : Nat} (h : w.grownBy wr (some g)) (j : Nat) (u : Value) : w.grownBy (wr.setCell ⟨g, j, none⟩ u) (some g) :=
  ⟨h.os, h.tape, h.output, by simpa [World.setCell] using h.size, fun k hk hne => by
    rw [Below.heap_setCell _ _ _ _ (fun e => hne (by simp [e]))]; exact h.block k hk hne⟩

set_option maxHeartbeats 1000000 in
/-- markByteS on a block of the call's own: n of its cells are written. -/
theorem markByteS_any (g n c k0 : Nat) (cs : List Value) (w : World) (hb : Bk w g 5 cs) (hint : ∀ j, j < n → ∃ x : Int, cs[j]? = some (.int .u8 x)) (hl : n ≤ cs.length) (hn : n ≤ 400000000) (hk0 : k0 ≤ 400000000) :
    Calls Tryz.prog 26 #[.slice (some ⟨g, 0, none⟩) n c, .int .i64 (k0 : Int)] w fun e w' => e = .returned (.int .i64 ((k0 + n : Nat) : Int)) ∧ Bk w' g 5 (marks k0 n ++ cs.drop n) ∧ w.grownBy w' (some g) := by
  have HB := Lib.hid hb
  clear hb
  go_enter Tryz.func26, Tryz.ntmps26
  go_wp2
  go_loopw [1, 5] (fun kk i wr => ∃ j : Nat, j ≤ n ∧ i = .int .i64 j ∧ kk = .int .i64 ((k0 + j : Nat) : Int) ∧ Hid (Bk wr g 5 (marks k0 j ++ cs.drop j)) ∧ Hid (w.grownBy wr (some g))) (fun _ i _ => n - (intOf i).toNat)
  case atStart => exact ⟨0, Nat.zero_le _, rfl, rfl, HB.out, World.grownBy.refl _ _⟩
  case round =>
    obtain ⟨j, hj, rfl, rfl, HJ, HG⟩ := hrel
    by_cases hlt : j < n
    · obtain ⟨x, hxx⟩ := hint j hlt
      have hx : wr.cell? ⟨g, j, none⟩ = some (.int .u8 x) := by
        rw [HJ.out.cell, mark_at cs k0 j (by omega), ← hxx, List.getElem?_eq_getElem (by omega)]
      have hf : wr.frozen? ⟨g, j, none⟩ = false := HJ.out.free j
      clear hxx
      go_wp2
      go_roundw
      case rel =>
        refine ⟨j + 1, by omega, by go_num, by go_num, ?_, grown_set HG.out _ _⟩
        have := HJ.out.set j (.int .u8 (((k0 : Int) + (j : Int)) % 256))
        rw [mark_step cs k0 j n hlt hl] at this
        exact this
      case measure => simp [intOf]; omega
    · have hjn : j = n := by omega
      subst hjn
      go_wp2
      go_ret
      exact ⟨by go_num, HJ.out, HG.out⟩

theorem byte_ne_self (x : Int) : (x != x) = false := by simp

set_option maxHeartbeats 1000000 in
/-- heldByteS on a block that holds the marks. -/
theorem heldByteS_any (g n c k0 : Nat) (r : List Value) (w : World) (hb : Bk w g 5 (marks k0 n ++ r)) (hn : n ≤ 400000000) (hk0 : k0 ≤ 400000000) :
    Calls Tryz.prog 28 #[.slice (some ⟨g, 0, none⟩) n c, .int .i64 (k0 : Int)] w fun e w' => e = .returned (.int .i64 ((k0 + n : Nat) : Int)) ∧ w = w' := by
  have HB := Lib.hid hb
  clear hb
  go_enter Tryz.func28, Tryz.ntmps28
  go_wp2
  go_loop [1, 5] (fun kk i => ∃ j : Nat, j ≤ n ∧ i = .int .i64 j ∧ kk = .int .i64 ((k0 + j : Nat) : Int)) (fun _ i => n - (intOf i).toNat)
  case atStart => exact ⟨0, Nat.zero_le _, rfl, rfl⟩
  case round =>
    obtain ⟨j, hj, rfl, rfl⟩ := hrel
    by_cases hlt : j < n
    · have hx : w.cell? ⟨g, j, none⟩ = some (Value.int .u8 (((k0 : Int) + (j : Int)) % 256)) := by
        rw [HB.out.cell, List.getElem?_append_left (by rw [marks_length]; exact hlt), marks_at k0 n j hlt]
      have hne := byte_ne_self (((k0 : Int) + (j : Int)) % 256)
      go_wp2
      go_round
      case rel => exact ⟨j + 1, by omega, by go_num, by go_num⟩
      case measure => simp [intOf]; omega
    · have hjn : j = n := by omega
      subst hjn
      go_wp2
      go_ret
      exact ⟨by go_num, rfl⟩

/-- The law marks from 1 on. -/
theorem markByteS_one (g n c : Nat) (l : List UInt8) (r : List Value) (w : World) (hb : Bk w g 5 (l.map bv ++ r)) (hl : l.length = n) (hn : n ≤ 400000000) :
    Calls Tryz.prog 26 #[.slice (some ⟨g, 0, none⟩) n c, .int .i64 1] w fun e w' => e = .returned (.int .i64 (1 + (n : Int))) ∧ Bk w' g 5 (marks 1 n ++ r) ∧ w.grownBy w' (some g) := by
  refine (markByteS_any g n c 1 (l.map bv ++ r) w hb (fun j hj => ⟨((l[j]'(by omega)).toNat : Int), ?_⟩) (by simp; omega) hn (by omega)).mono fun e w' ⟨he, h1, h2⟩ => ⟨?_, ?_, h2⟩
  · rw [List.getElem?_append_left (by simp; omega), List.getElem?_map, List.getElem?_eq_getElem (by omega)]
    rfl
  · rw [he]; simp
  · rw [List.drop_append_of_le_length (by simp; omega), List.drop_eq_nil_of_le (by simp; omega), List.nil_append] at h1
    exact h1
theorem heldByteS_one (g n c : Nat) (r : List Value) (w : World) (hb : Bk w g 5 (marks 1 n ++ r)) (hn : n ≤ 400000000) :
    Calls Tryz.prog 28 #[.slice (some ⟨g, 0, none⟩) n c, .int .i64 1] w fun e w' => e = .returned (.int .i64 (1 + (n : Int))) ∧ w = w' :=
  (heldByteS_any g n c 1 r w hb hn (by omega)).mono fun e w' ⟨he, h1⟩ => ⟨by rw [he]; simp, h1⟩

end Go.Proofs.YtcpadkehalgddaaGreatDoor.Eq

/- What the laws' own comparison of two slices of bytes does. Condition: fewer than 400000001 bytes. -/
namespace Go.Proofs.YtcpadkehalgddaaGreatDoor.Same
open Go.RowKit Go.Proofs.YtcpadkehalgddaaGreatDoor.Mem Go.Proofs.YtcpadkehalgddaaGreatDoor.Eq

set_option maxHeartbeats 1000000 in
theorem same_any (A A' : Option Addr) (n c n' c' : Nat) (l m : List UInt8) (w : World) (B : Nat) (hs : Sl w B A n l) (hs' : Sl w B A' n' m) (hn : n ≤ 400000000) (hn' : n' ≤ 400000000) :
    Calls Tryz.prog 10 #[.slice A n c, .slice A' n' c'] w fun e w' => e = .returned (.bool (l == m)) ∧ ∃ k, w' = w.drewN k := by
  have HL := Lib.hid hs.1
  have HM := Lib.hid hs'.1
  by_cases hnn : n = n'
  · subst hnn
    have hd : ((n : Int) != (n : Int)) = false := by simp
    go_enter Tryz.func10, Tryz.ntmps10
    go_wp2
    go_loopw [5] (fun i wr => ∃ k : Nat, k ≤ n ∧ i = .int .i64 k ∧ Hid (l.take k = m.take k) ∧ Hid (∃ q, wr = w.drewN q)) (fun i _ => n - (intOf i).toNat)
    case atStart => exact ⟨0, Nat.zero_le _, rfl, rfl, ⟨0, rfl⟩⟩
    case round =>
      obtain ⟨k, hk, rfl, HT, HW⟩ := hrel
      obtain ⟨q, rfl⟩ := HW.out
      clear HW
      by_cases hlt : k < n
      · obtain ⟨b, off, rfl, hbB, hcs⟩ := hs.2 (by omega)
        obtain ⟨b', off', rfl, hbB', hcs'⟩ := hs'.2 (by omega)
        have hkl : k < l.length := by rw [HL.out]; exact hlt
        have hkm : k < m.length := by rw [HM.out]; exact hlt
        have hx : w.cell? ⟨b, off + k, none⟩ = some (.int .u8 (l[k].toNat : Int)) := hcs k hkl
        have hy : w.cell? ⟨b', off' + k, none⟩ = some (.int .u8 (m[k].toNat : Int)) := hcs' k hkm
        clear hcs hcs' hs hs'
        by_cases he : l[k] = m[k]
        · have hbb := cast_eq he
          have HE := Lib.hid he
          clear he
          go_wp2
          go_quiet (fail)
          go_wp2
          go_roundw
          case rel => exact ⟨k + 1, by omega, by go_num, take_step hkl hkm HT.out HE.out, ⟨_, rfl⟩⟩
          case measure => simp [intOf]; omega
        · have hbb := cast_ne he
          have HE := Lib.hid he
          clear he
          go_wp2
          go_quiet (fail)
          go_wp2
          go_ret
          exact ⟨by rw [ne_at hkl hkm HE.out]; rfl, ⟨q + nq, World.drewN_drewN _ _ _⟩⟩
      · go_wp2
        go_ret
        have hk2 : k = l.length := by rw [HL.out]; omega
        refine ⟨?_, ⟨_, rfl⟩⟩
        rw [eq_all (by rw [HL.out, HM.out]) (by rw [← hk2]; exact HT.out)]
        rfl
  · have hd : ((n : Int) != (n' : Int)) = true := by rw [bne_iff_ne]; omega
    go_enter Tryz.func10, Tryz.ntmps10
    go_wp2
    go_ret
    refine ⟨?_, ⟨0, rfl⟩⟩
    have : (l == m) = false := by
      rw [beq_eq_false_iff_ne]; rintro rfl; exact hnn (HL.out.symm.trans HM.out)
    rw [this]
    rfl

/-- Two slices that read alike are found equal. -/
theorem same_same (A A' : Option Addr) (n c n' c' : Nat) (l : List UInt8) (w : World) (hs : Sl w w.heap.size A n l) (hs' : Sl w w.heap.size A' n' l) (hn : n ≤ 400000000) (hn' : n' ≤ 400000000) :
    Calls Tryz.prog 10 #[.slice A n c, .slice A' n' c'] w fun e w' => e = .returned (.bool true) ∧ Below w.heap.size w w' := by
  refine (same_any A A' n c n' c' l l w _ hs hs' hn hn').mono fun e w' ⟨he, k, hw⟩ => ?_
  subst hw
  exact ⟨by rw [he]; simp, drewN_below _ _ _⟩

theorem big_no (A : Option Addr) (n c : Nat) (w : World) (h : n ≤ 1048576) : Calls Tryz.prog 6 #[.slice A n c] w fun e w' => e = .returned (.bool false) ∧ w = w' := by
  have hd : decide ((1048576 : Int) < (n : Int)) = false := by simp; omega
  go_enter Tryz.func6, Tryz.ntmps6
  go_wp2
  go_ret
  exact ⟨rfl, rfl⟩
theorem big_yes (A : Option Addr) (n c : Nat) (w : World) (h : ¬ n ≤ 1048576) : Calls Tryz.prog 6 #[.slice A n c] w fun e w' => e = .returned (.bool true) ∧ w = w' := by
  have hd : decide ((1048576 : Int) < (n : Int)) = true := by simp; omega
  go_enter Tryz.func6, Tryz.ntmps6
  go_wp2
  go_ret
  exact ⟨rfl, rfl⟩
end Go.Proofs.YtcpadkehalgddaaGreatDoor.Same

/- What SameRecords does in the program and in the model: whether two lists of records are equal in all fields of all records. Condition: fewer than 400000001 records. -/
namespace Go.Proofs.YtcpadkehalgddaaGreatDoor.SameR
open Go.RowKit Go.Proofs.YtcpadkehalgddaaGreatDoor.Mem Go.Proofs.YtcpadkehalgddaaGreatDoor.MemR

/-- Whether two lists of records are equal. A def, so that no step of a walk opens it. -/
noncomputable def sm (l m : List Rec) : Bool := @decide (l = m) (Classical.propDecidable _)
theorem sm_true {l m : List Rec} (h : l = m) : sm l m = true := @decide_eq_true _ (Classical.propDecidable _) h
theorem sm_false {l m : List Rec} (h : l ≠ m) : sm l m = false := @decide_eq_false _ (Classical.propDecidable _) h
theorem bytes_ne {a b : ByteArray} (h : a ≠ b) : (a.toList == b.toList) = false := by
  cases e : (a.toList == b.toList) with
  | false => rfl
  | true =>
    have := eq_of_beq e
    rw [ByteArray.toList_eq, ByteArray.toList_eq] at this
    exact absurd (by cases a; cases b; congr; exact Array.toList_inj.1 this) h
theorem neq_same (r : Rec) (w : World) : Sem.run Tryz.prog (binOp .neq 25 (.agg #[.string r.name, .int .i64 r.ty, .int .i64 r.ttl, .int .i64 r.n, .string r.host, .string r.text]) (.agg #[.string r.name, .int .i64 r.ty, .int .i64 r.ttl, .int .i64 r.n, .string r.host, .string r.text])) w = .ok (.bool false) w := by
  have u3 := Tryz.underlying3
  have a3 := Tryz.isAgg3
  have z3 := Tryz.sizeOf3
  have u9 := Tryz.underlying9
  have a9 := Tryz.isAgg9
  have z9 := Tryz.sizeOf9
  have hS : Tryz.prog.underlying 25 = some (.struct (Tryz.prog.fieldsOf 25)) := by kernel_rfl
  have hp : Tryz.prog.stoodInHeld 25 = false := by kernel_rfl
  rw [run_neq_struct, show (10000 : Nat) = 9999 + 1 from rfl, run_equalIn_agg w 9999 25 _ _ hS hp]
  simp only [Program.fieldsOf, Tryz.underlying25]
  go_simp

theorem neq_diff {r s : Rec} (h : r ≠ s) (w : World) : Sem.run Tryz.prog (binOp .neq 25 (.agg #[.string r.name, .int .i64 r.ty, .int .i64 r.ttl, .int .i64 r.n, .string r.host, .string r.text]) (.agg #[.string s.name, .int .i64 s.ty, .int .i64 s.ttl, .int .i64 s.n, .string s.host, .string s.text])) w = .ok (.bool true) w := by
  have u3 := Tryz.underlying3
  have a3 := Tryz.isAgg3
  have z3 := Tryz.sizeOf3
  have u9 := Tryz.underlying9
  have a9 := Tryz.isAgg9
  have z9 := Tryz.sizeOf9
  have hS : Tryz.prog.underlying 25 = some (.struct (Tryz.prog.fieldsOf 25)) := by kernel_rfl
  have hp : Tryz.prog.stoodInHeld 25 = false := by kernel_rfl
  rw [run_neq_struct, show (10000 : Nat) = 9999 + 1 from rfl, run_equalIn_agg w 9999 25 _ _ hS hp]
  simp only [Program.fieldsOf, Tryz.underlying25]
  obtain ⟨n1, t1, l1, m1, h1, x1⟩ := r
  obtain ⟨n2, t2, l2, m2, h2, x2⟩ := s
  simp only
  by_cases c0 : n1 = n2
  · subst c0
    by_cases c1 : t1 = t2
    · subst c1
      by_cases c2 : l1 = l2
      · subst c2
        by_cases c3 : m1 = m2
        · subst c3
          by_cases c4 : h1 = h2
          · subst c4
            by_cases c5 : x1 = x2
            · subst c5; exact absurd rfl h
            · have k := bytes_ne c5
              go_simp
          · have k := bytes_ne c4
            go_simp
        · go_simp
      · go_simp
    · go_simp
  · have k := bytes_ne c0
    go_simp

theorem grd : Tryz.prog.eqGuardType Tryz.prog.depth 25 = false := by kernel_rfl

theorem take_same {l m : List Rec} {k : Nat} (h : l.take k = m.take k) (h1 : k < l.length) (h2 : k < m.length) (e : l[k] = m[k]) : l.take (k + 1) = m.take (k + 1) := by
  rw [List.take_succ_eq_append_getElem h1, List.take_succ_eq_append_getElem h2, h, e]
theorem take_all {l m : List Rec} {n : Nat} (h : l.take n = m.take n) (h1 : l.length = n) (h2 : m.length = n) : l = m := by
  rwa [List.take_of_length_le (by omega), List.take_of_length_le (by omega)] at h
theorem at_diff {l m : List Rec} {k : Nat} (h1 : k < l.length) (h2 : k < m.length) (e : l[k] ≠ m[k]) : l ≠ m := fun h => by subst h; exact e rfl

set_option maxHeartbeats 1000000 in
theorem recs (A A' : Option Addr) (n c n' c' : Nat) (l m : List Rec) (w : World) (hs : Sr w w.heap.size A n l) (hs' : Sr w w.heap.size A' n' m) (hn : n ≤ 400000000) (hn' : n' ≤ 400000000) :
    Calls Tryz.prog 20 #[.slice A n c, .slice A' n' c'] w fun e w' => e = .returned (.bool (sm l m)) ∧ Below w.heap.size w w' := by
  have mixed : Tryz.prog.follows .mixedOrders = true := by kernel_rfl
  have hg := grd
  have HS := Lib.hid hs
  have HT := Lib.hid hs'
  clear hs hs'
  by_cases hnn : n = n'
  · obtain rfl := hnn
    have hd : ((n : Int) != (n : Int)) = false := by simp
    go_enter Tryz.func20, Tryz.ntmps20
    go_wp2
    go_loopw [5] (fun i wr => ∃ k : Nat, k ≤ n ∧ i = .int .i64 k ∧ Hid (∃ q, wr = w.drewN q) ∧ Hid (l.take k = m.take k)) (fun i _ => n - (intOf i).toNat)
    case atStart => exact ⟨0, Nat.zero_le _, rfl, ⟨0, rfl⟩, rfl⟩
    case round =>
      obtain ⟨k, hk, rfl, HW, HK⟩ := hrel
      obtain ⟨q, rfl⟩ := HW.out
      clear HW
      by_cases hlt : k < n
      · obtain ⟨b, off, rfl, hbB, hcs⟩ := HS.out.2 (by omega)
        obtain ⟨b', off', rfl, hbB', hcs'⟩ := HT.out.2 (by omega)
        have hkl : k < l.length := by rw [HS.out.1]; exact hlt
        have hkm : k < m.length := by rw [HT.out.1]; exact hlt
        obtain ⟨e0, e1, e2, e3, e4, e5⟩ := hcs k hkl
        obtain ⟨f0, f1, f2, f3, f4, f5⟩ := hcs' k hkm
        clear hcs hcs'
        by_cases hrs : l[k] = m[k]
        · have HN := Lib.hid (take_same HK.out hkl hkm hrs)
          rw [← hrs] at f0 f1 f2 f3 f4 f5
          clear hrs
          generalize l[k] = r at *
          have hq := neq_same r
          go_wp2
          go_quiet (fail)
          clear hq e0 e1 e2 e3 e4 e5 f0 f1 f2 f3 f4 f5
          go_wp2
          go_roundw
          case rel => exact ⟨k + 1, by omega, by go_num, ⟨_, rfl⟩, HN.out⟩
          case measure => simp [intOf]; omega
        · have HN := Lib.hid (sm_false (at_diff hkl hkm hrs))
          have hq := neq_diff hrs
          clear hrs
          generalize l[k] = r at *
          generalize m[k] = s at *
          go_wp2
          go_quiet (fail)
          clear hq e0 e1 e2 e3 e4 e5 f0 f1 f2 f3 f4 f5
          go_wp2
          go_ret
          exact ⟨by rw [HN.out]; rfl, (drewN_below w q _).trans (drewN_below _ _ _)⟩
      · obtain rfl : n = k := by omega
        have HN := Lib.hid (sm_true (take_all HK.out HS.out.1 HT.out.1))
        go_wp2
        go_ret
        exact ⟨by rw [HN.out]; rfl, drewN_below _ _ _⟩
  · have hd : ((n : Int) != (n' : Int)) = true := by rw [bne_iff_ne]; omega
    have HN := Lib.hid (sm_false (l := l) (m := m) (fun h => hnn (by rw [← HS.out.1, ← HT.out.1, h])))
    clear hnn
    go_enter Tryz.func20, Tryz.ntmps20
    go_wp2
    go_ret
    exact ⟨by rw [HN.out]; rfl, Below.refl _ _⟩

end Go.Proofs.YtcpadkehalgddaaGreatDoor.SameR
