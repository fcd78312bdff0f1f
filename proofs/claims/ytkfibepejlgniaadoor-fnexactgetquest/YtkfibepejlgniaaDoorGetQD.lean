/- What GetQuest does in the program and in the model, with all that it leans on: it reads a question (gq), and turns nothing that was there. Conditions: at most 400000000 bytes; for the program: the library's variable internal/bytealg.MaxLen holds an int. -/
import Derived.Test.YtkfibepejlgniaaDoorWireGood
import Derived.Test.YtkfibepejlgniaaDoorNameGet
import Derived.Test.YtkfibepejlgniaaDoorNameOk
import Derived.Test.YtkfibepejlgniaaDoorTypes
import Derived.Test.YtkfibepejlgniaaDoorPartI
import Derived.Laws.ResultCell
namespace Go.Proofs.YtkfibepejlgniaaDoor.GetQD
open Go.RowKit Go.Proofs.YtkfibepejlgniaaDoor.Mem Go.Proofs.YtkfibepejlgniaaDoor.JoinSpec Go.Proofs.YtkfibepejlgniaaDoor.Split Go.Proofs.YtkfibepejlgniaaDoor.GetLabel Go.Proofs.YtkfibepejlgniaaDoor.Labels Go.Proofs.YtkfibepejlgniaaDoor.NameOk Go.Proofs.YtkfibepejlgniaaDoor.Types Go.Proofs.YtkfibepejlgniaaDoor.WireMath Go.Proofs.YtkfibepejlgniaaDoor.WireGood Go.Proofs.YtkfibepejlgniaaDoor.WalkSpec Go.Proofs.YtkfibepejlgniaaDoor.Get Go.Proofs.YtkfibepejlgniaaDoor.PartI

/-- The two bytes at offset k as a number, and whether they are there. -/
def n2 (l : List UInt8) (k : Int) : Int × Bool := if 0 ≤ k ∧ k ≤ (l.length : Int) - 2 then (be ((l.drop k.toNat).take 2), true) else (0, false)
/-- Two bytes of l as a number. -/
def b2 (l : List UInt8) (k : Nat) : Int := be ((l.drop k).take 2)
theorem b2_n2 {l : List UInt8} {k : Nat} (h : k + 2 ≤ l.length) : n2 l (k : Int) = (b2 l k, true) := by
  rw [n2, if_pos ⟨by omega, by omega⟩, Int.toNat_natCast]; rfl
/-- A valid question. A def, so that no step of a walk opens it. -/
def qok (s : ByteArray) (n : Int) : Bool := Nm s && ty n
/-- What GetQuest answers: a code, the offset behind, name and type. -/
def gq (l : List UInt8) (k : Int) : Nat × Int × ByteArray × Int :=
  if (rn l [] k k 0 (-1)).1 ≠ 0 then ((rn l [] k k 0 (-1)).1, 0, ⟨#[]⟩, 0)
  else if (l.length : Int) - 4 < (rn l [] k k 0 (-1)).2.2.1 then (1, 0, ⟨#[]⟩, 0)
  else if qok (Jo (rn l [] k k 0 (-1)).2.1) (n2 l (rn l [] k k 0 (-1)).2.2.1).1 = true ∧ (n2 l ((rn l [] k k 0 (-1)).2.2.1 + 2)).1 = 1
    then (0, (rn l [] k k 0 (-1)).2.2.1 + 4, Jo (rn l [] k k 0 (-1)).2.1, (n2 l (rn l [] k k 0 (-1)).2.2.1).1)
  else (2, 0, ⟨#[]⟩, 0)
section
variable {l : List UInt8} {k : Int} {L : List ByteArray} {p : Int} {j c : Nat}
theorem gq_name (h : rn l [] k k 0 (-1) = (c, L, p, j)) (hc : c ≠ 0) : gq l k = (c, 0, ⟨#[]⟩, 0) := by
  unfold gq; rw [h, if_pos hc]
theorem gq_short (h : rn l [] k k 0 (-1) = (0, L, p, j)) (hp : (l.length : Int) - 4 < p) : gq l k = (1, 0, ⟨#[]⟩, 0) := by
  unfold gq; rw [h, if_neg (fun e => e rfl), if_pos hp]
theorem gq_good (h : rn l [] k k 0 (-1) = (0, L, p, j)) (hp : ¬ (l.length : Int) - 4 < p) (hq : qok (Jo L) (n2 l p).1 = true) (h1 : (n2 l (p + 2)).1 = 1) : gq l k = (0, p + 4, Jo L, (n2 l p).1) := by
  unfold gq; rw [h, if_neg (fun e => e rfl), if_neg hp, if_pos ⟨hq, h1⟩]
theorem gq_form (h : rn l [] k k 0 (-1) = (0, L, p, j)) (hp : ¬ (l.length : Int) - 4 < p) (hq : ¬ (qok (Jo L) (n2 l p).1 = true ∧ (n2 l (p + 2)).1 = 1)) : gq l k = (2, 0, ⟨#[]⟩, 0) := by
  unfold gq; rw [h, if_neg (fun e => e rfl), if_neg hp, if_neg hq]
/-- What a good question is made of. -/
theorem gq_of {q : Int} {s : ByteArray} {t : Int} (h : gq l k = (0, q, s, t)) : ∃ L p j, rn l [] k k 0 (-1) = (0, L, p, j) ∧ ¬ (l.length : Int) - 4 < p ∧ qok (Jo L) (n2 l p).1 = true ∧ (n2 l (p + 2)).1 = 1 ∧ q = p + 4 ∧ s = Jo L ∧ t = (n2 l p).1 := by
  rcases hr : rn l [] k k 0 (-1) with ⟨c, L, p, j⟩
  by_cases hc : c = 0
  · subst hc
    by_cases hp : (l.length : Int) - 4 < p
    · rw [gq_short hr hp] at h; simp at h
    · by_cases hq : qok (Jo L) (n2 l p).1 = true ∧ (n2 l (p + 2)).1 = 1
      · rw [gq_good hr hp hq.1 hq.2] at h
        simp only [Prod.mk.injEq] at h
        exact ⟨L, p, j, rfl, hp, hq.1, hq.2, h.2.1.symm, h.2.2.1.symm, h.2.2.2.symm⟩
      · rw [gq_form hr hp hq] at h; simp at h
  · rw [gq_name hr hc] at h
    simp only [Prod.mk.injEq] at h
    exact absurd h.1 hc
end

/-- A question in a box of its own: its cells. -/
def Qx (w : World) (g : Nat) (s : ByteArray) (n : Int) : Prop := w.cell? ⟨g, 0, none⟩ = some (.string s) ∧ w.cell? ⟨g, 1, none⟩ = some (.int .i64 n)
section
variable {w w' : World} {g : Nat} {s : ByteArray} {n : Int}
theorem Qx.lt (k : Qx w g s n) : g < w.heap.size := World.block_lt_of_cell? _ _ k.1
theorem Qx.below (k : Qx w g s n) (hb : Below w.heap.size w w') : Qx w' g s n := ⟨(hb.cell (p := ⟨g, 0, none⟩) k.lt).trans k.1, (hb.cell (p := ⟨g, 1, none⟩) k.lt).trans k.2⟩
theorem qx_new (w : World) (t : TypeId) (s : ByteArray) (n : Int) : Qx (w.alloc (.cells #[.string s, .int .i64 n] t)) w.heap.size s n := by
  have b : Bk (w.alloc (.cells #[.string s, .int .i64 n] t)) w.heap.size t [.string s, .int .i64 n] := heap_alloc_new w _
  exact ⟨b.cell 0, b.cell 1⟩
end

theorem results_cell_tmp2 {fn : Func} {p u v : Tmp} {ty : TypeId} (h : fn.results = #[.cell p ty, .tmp u, .tmp v]) (tmps : Array Value) (P : Program) (w : World) :
    (results fn tmps).run P w = ((asAddr (tmps.getD p undef)).run P w).andThen fun a w₁ => ((loadVar ty a).run P w₁).andThen fun x w₂ => .ok (.tuple #[x, tmps.getD u undef, tmps.getD v undef]) w₂ := by
  simp only [results, h]
  simp [Sem.run_bind, Result.andThen]
theorem as_addr (a : Addr) (P : Program) (w : World) : (asAddr (.pointer (some a))).run P w = .ok a w := rfl

/-- The cells of a question. -/
def qc (s : ByteArray) (n : Int) : List Value := [.string s, .int .i64 n]
/-- The box g filled with a question. -/
def filQ (w : World) (g : Nat) (s : ByteArray) (n : Int) : World := (w.setCell ⟨g, 0, none⟩ (.string s)).setCell ⟨g, 1, none⟩ (.int .i64 n)
section
variable {w w1 : World} {g B : Nat} {t : TypeId} {s s0 : ByteArray} {n n0 : Int}
theorem qx_of (k : Bk w g t (qc s n)) : Qx w g s n := ⟨k.cell 0, k.cell 1⟩
theorem filQ_bk (k : Bk w g t (qc s0 n0)) (s : ByteArray) (n : Int) : Bk (filQ w g s n) g t (qc s n) := (k.set 0 (.string s)).set 1 (.int .i64 n)
theorem filQ_below (k : Below B w w1) (hg : B ≤ g) (s : ByteArray) (n : Int) : Below B w (filQ w1 g s n) := (k.setCell (p := ⟨g, 0, none⟩) hg (.string s)).setCell (p := ⟨g, 1, none⟩) hg (.int .i64 n)
end
theorem load_q {w : World} {g : Nat} {t : TypeId} {s : ByteArray} {n : Int} (h : Bk w g t (qc s n)) : (loadVar 24 ⟨g, 0, none⟩).run Tryd.prog w = .ok (.agg #[.string s, .int .i64 n]) w := by
  obtain ⟨c0, c1⟩ := qx_of h
  simp [go_sem, c0, c1]
theorem res3Q {fn : Func} {p u v : Tmp} {w : World} {g : Nat} {t : TypeId} {s : ByteArray} {n : Int} {x y : Value} {tmps : Array Value} (hf : fn.results = #[.cell p 24, .tmp u, .tmp v]) (h : Bk w g t (qc s n)) (h4 : tmps.getD p undef = .pointer (some ⟨g, 0, none⟩)) (h5 : tmps.getD u undef = x) (h6 : tmps.getD v undef = y) :
    (results fn tmps).run Tryd.prog w = .ok (.tuple #[.agg #[.string s, .int .i64 n], x, y]) w := by
  rw [results_cell_tmp2 hf, h4, h5, h6, as_addr]
  simp only [Result.andThen, load_q h]

theorem at2 {w : World} {a : Obj} {cs : Array Value} {t : TypeId} : Bk ((w.alloc a).alloc (.cells cs t)) (w.heap.size + 1) t cs.toList := by
  have := heap_alloc_new (w.alloc a) (.cells cs t)
  rw [show (w.alloc a).heap.size = w.heap.size + 1 by simp] at this
  exact this
theorem rn_from {l : List UInt8} {k : Int} {L : List ByteArray} {x : Int} {j : Nat} (h : rn l [] k k 0 (-1) = (0, L, x, j)) : 0 ≤ k := by
  refine Decidable.byContradiction fun hk => ?_
  rw [rn_out (Or.inl (by omega))] at h
  simp at h
theorem nm_parts {s : ByteArray} (h : Nm s = true) : s.size ≤ 50 ∧ (Lab s).length ≤ 6 ∧ okL (Lab s) = true := by
  rw [Nm, Bool.and_eq_true, Bool.and_eq_true] at h
  exact ⟨of_decide_eq_true h.1.2, of_decide_eq_true h.2, h.1.1⟩

set_option maxHeartbeats 2000000 in
theorem questS (s : ByteArray) (n : Int) (w : World) (hs : s.size ≤ 400000000) : Calls Tryd.prog 11 #[.agg #[.string s, .int .i64 n]] w fun e w' => e = .returned (.bool (qok s n)) ∧ Below w.heap.size w w' := by
  have L0 := Lib.hid ((Below.refl w.heap.size w).alloc (Nat.le_refl _) (.cells #[.string s, .int .i64 n] 24))
  have B0 : Hid (Bk (w.alloc (.cells #[.string s, .int .i64 n] 24)) w.heap.size 24 [.string s, .int .i64 n]) := heap_alloc_new w _
  cases hb : Nm s
  · have HQ : Hid (qok s n = false) := by show _ = _; rw [qok, hb]; rfl
    have HB := Lib.hid hb
    clear hb
    go_enter Tryd.func11, Tryd.ntmps11
    go_wp2_with fail
    refine (NameOk.spec s _ hs).mono ?_
    rw [HB.out]
    rintro e w1 ⟨rfl, hl⟩
    have L1 := Lib.hid (L0.out.trans (hl.mono L0.out.size))
    clear hl L0 B0
    go_wp2
    go_ret
    exact ⟨by rw [HQ.out]; rfl, L1.out⟩
  · have HQ : Hid (qok s n = ty n) := by show _ = _; rw [qok, hb]; rfl
    have HB := Lib.hid hb
    clear hb
    go_enter Tryd.func11, Tryd.ntmps11
    go_wp2_with fail
    refine (NameOk.spec s _ hs).mono ?_
    rw [HB.out]
    rintro e w1 ⟨rfl, hl⟩
    have L1 := Lib.hid (L0.out.trans (hl.mono L0.out.size))
    have x1 : w1.cell? ⟨w.heap.size, 1, none⟩ = some (.int .i64 n) := (B0.out.below hl B0.out.lt).cell 1
    clear hl L0 B0
    go_wp2_with fail
    refine (spec_ok n _).mono ?_
    rintro e w2 ⟨rfl, rfl⟩
    go_wp2
    go_ret
    exact ⟨by rw [HQ.out]; rfl, L1.out⟩

set_option maxHeartbeats 2000000 in
theorem questI (s : ByteArray) (n : Int) (w : World) (he : Env w) (hs : s.size ≤ 400000000) : Calls Tryd.prog 15 #[.agg #[.string s, .int .i64 n]] w fun e w' => e = .returned (.bool (qok s n)) ∧ Below w.heap.size w w' := by
  have L0 := Lib.hid ((Below.refl w.heap.size w).alloc (Nat.le_refl _) (.cells #[.string s, .int .i64 n] 24))
  have B0 : Hid (Bk (w.alloc (.cells #[.string s, .int .i64 n] 24)) w.heap.size 24 [.string s, .int .i64 n]) := heap_alloc_new w _
  have HE := Lib.hid he
  clear he
  cases hb : Nm s
  · have HQ : Hid (qok s n = false) := by show _ = _; rw [qok, hb]; rfl
    have HB := Lib.hid hb
    clear hb
    go_enter Tryd.func15, Tryd.ntmps15
    go_wp2_with fail
    refine (NameOk.impl s _ (HE.out.below L0.out) hs).mono ?_
    rw [HB.out]
    rintro e w1 ⟨rfl, hl⟩
    have L1 := Lib.hid (L0.out.trans (hl.mono L0.out.size))
    clear hl L0 B0
    go_wp2
    go_ret
    exact ⟨by rw [HQ.out]; rfl, L1.out⟩
  · have HQ : Hid (qok s n = ty n) := by show _ = _; rw [qok, hb]; rfl
    have HB := Lib.hid hb
    clear hb
    go_enter Tryd.func15, Tryd.ntmps15
    go_wp2_with fail
    refine (NameOk.impl s _ (HE.out.below L0.out) hs).mono ?_
    rw [HB.out]
    rintro e w1 ⟨rfl, hl⟩
    have L1 := Lib.hid (L0.out.trans (hl.mono L0.out.size))
    have x1 : w1.cell? ⟨w.heap.size, 1, none⟩ = some (.int .i64 n) := (B0.out.below hl B0.out.lt).cell 1
    clear hl L0 B0
    go_wp2_with fail
    refine (impl_ok n _).mono ?_
    rintro e w2 ⟨rfl, rfl⟩
    go_wp2
    go_ret
    exact ⟨by rw [HQ.out]; rfl, L1.out⟩


set_option maxHeartbeats 1000000 in
theorem eqQuest_same (s : ByteArray) (n : Int) (w : World) : Calls Tryd.prog 7 #[.agg #[.string s, .int .i64 n], .agg #[.string s, .int .i64 n]] w fun e w' => e = .returned (.bool true) ∧ Below w.heap.size w w' := by
  go_enter Tryd.func7, Tryd.ntmps7
  go_wp2
  go_ret
  exact ⟨rfl, ((Below.refl _ _).alloc (Nat.le_refl _) _).alloc (by simp) _⟩

/-- What GetQuest hands back. A def, so that no step of a walk opens it. -/
def valQ (X : Nat × Int × ByteArray × Int) : Value := .tuple #[.agg #[.string X.2.2.1, .int .i64 X.2.2.2], .int .i64 X.2.1, .int .i64 (X.1 : Int)]

set_option maxRecDepth 100000 in
set_option maxHeartbeats 4000000 in
theorem impl (A : Option Addr) (n c : Nat) (l : List UInt8) (k : Int) (w : World) (he : Env w) (hs : Sl w w.heap.size A n l) (hnc : n ≤ c) (hn : n ≤ 400000000) :
    Calls Tryd.prog 6 #[.slice A n c, .int .i64 k] w fun e w' => e = .returned (valQ (gq l k)) ∧ Below w.heap.size w w' := by
  have hl := hs.1
  have L0 := Lib.hid ((Below.refl w.heap.size w).alloc (Nat.le_refl _) (.cells #[.string ⟨#[]⟩, .int .i64 0] 24))
  have Z0 : Hid (Bk (w.alloc (.cells #[.string ⟨#[]⟩, .int .i64 0] 24)) w.heap.size 24 (qc ⟨#[]⟩ 0)) := heap_alloc_new w _
  have HS := Lib.hid hs
  have HE := Lib.hid he
  have GN := Lib.hid (fun W (hW : Below w.heap.size w W) => NameGet.getName A n c l k W _ rfl (he.below hW) ((hs.below hW).wider hW.size) hn hnc)
  generalize hR : rn l [] k k 0 (-1) = R at *
  obtain ⟨c0, L, p, j⟩ := R
  unfold val3 at GN
  dsimp only at GN
  by_cases hc : c0 = 0
  · subst hc
    have HF := rn_from hR
    obtain ⟨_, hnm, hp1, hp2, _⟩ := rn_good hR
    have hz : (Jo L).size ≤ 50 := (nm_parts hnm).1
    have hp0 : 0 ≤ p := by omega
    rw [hl] at hp2
    clear hp1 HF hnm
    by_cases h4 : (n : Int) - 4 < p
    · have HX := Lib.hid (gq_short hR (by rw [hl]; exact h4))
      generalize gq l k = X at *
      generalize Jo L = s at *
      clear hs hl he hR
      go_enter Tryd.func6, Tryd.ntmps6
      go_wp2_with fail
      refine (GN.out _ L0.out).mono ?_
      rintro e w1 ⟨rfl, hl⟩
      have L1 := Lib.hid (L0.out.trans (hl.mono L0.out.size))
      have Z1 := Lib.hid (Z0.out.below hl Z0.out.lt)
      clear hl L0 Z0
      go_wp2_with fail
      refine (part_no A n c 4 p w1 hn (by omega) h4).mono ?_
      rintro e w2 ⟨rfl, rfl⟩
      obtain ⟨z0, z1⟩ := qx_of Z1.out
      have f0 := Z1.out.free 0
      have f1 := Z1.out.free 1
      go_wp2
      exact bodyPost_ret (v := valQ (1, 0, ⟨#[]⟩, 0)) (res3Q rfl (filQ_bk Z1.out ⟨#[]⟩ 0) rfl rfl rfl) rfl ⟨by rw [HX.out], filQ_below L1.out (Nat.le_refl _) ⟨#[]⟩ 0⟩
    · obtain ⟨q, rfl⟩ := Int.eq_ofNat_of_zero_le hp0
      have hq4 : q + 4 ≤ n := by omega
      obtain ⟨b, off, rfl, hb, hcs⟩ := hs.2 (by omega)
      have e1 : n2 l (q : Int) = (b2 l q, true) := b2_n2 (by omega)
      have e2 : n2 l ((q : Int) + 2) = (b2 l (q + 2), true) := b2_n2 (k := q + 2) (by omega)
      have HX : Hid (gq l k = if qok (Jo L) (b2 l q) = true ∧ b2 l (q + 2) = 1 then (0, (q : Int) + 4, Jo L, b2 l q) else (2, 0, ⟨#[]⟩, 0)) := by
        show _ = _
        split
        · rename_i hg
          have := gq_good hR (by rw [hl]; exact h4) (by rw [e1]; exact hg.1) (by rw [e2]; exact hg.2)
          rw [e1] at this
          exact this
        · rename_i hg
          exact gq_form hR (by rw [hl]; exact h4) (by rw [e1, e2]; exact hg)
      have G1 : Hid (∀ W, Below w.heap.size w W → Calls Tryd.prog 14 #[.slice (some ⟨b, off + q, none⟩) 4 4, .int .i64 0] W fun e w' => e = .returned (.tuple #[.int .i64 (b2 l q), .bool true]) ∧ W = w') := fun W hW => by
        have := implGet2_yes (some ⟨b, off + q, none⟩) 4 4 ((l.drop q).take 4) W _ 0 (sl_sub (hs.below hW) q 4 hq4 (by omega)) (by omega) (by omega) (by rw [List.length_take, List.length_drop]; omega)
        rw [sub2 l q 4 0 (by omega)] at this
        exact this
      have G2 : Hid (∀ W, Below w.heap.size w W → Calls Tryd.prog 14 #[.slice (some ⟨b, off + q, none⟩) 4 4, .int .i64 2] W fun e w' => e = .returned (.tuple #[.int .i64 (b2 l (q + 2)), .bool true]) ∧ W = w') := fun W hW => by
        have := implGet2_yes (some ⟨b, off + q, none⟩) 4 4 ((l.drop q).take 4) W _ 2 (sl_sub (hs.below hW) q 4 hq4 (by omega)) (by omega) (by omega) (by rw [List.length_take, List.length_drop]; omega)
        rw [sub2 l q 4 2 (by omega)] at this
        exact this
      have QO : Hid (∀ W, Below w.heap.size w W → Calls Tryd.prog 15 #[.agg #[.string (Jo L), .int .i64 (b2 l q)]] W fun e w' => e = .returned (.bool (qok (Jo L) (b2 l q))) ∧ Below W.heap.size W w') := fun W hW => questI (Jo L) (b2 l q) W (he.below hW) (by omega)
      clear hs hl he hR hcs e1 e2
      generalize gq l k = X at *
      generalize b2 l q = ty at *
      generalize b2 l (q + 2) = cl at *
      generalize Jo L = s at *
      obtain ⟨ok, hok⟩ : ∃ ok, qok s ty = ok := ⟨_, rfl⟩
      rw [hok] at QO HX
      clear hok
      go_enter Tryd.func6, Tryd.ntmps6
      go_wp2_with fail
      refine (GN.out _ L0.out).mono ?_
      rintro e w1 ⟨rfl, hl⟩
      have L1 := Lib.hid (L0.out.trans (hl.mono L0.out.size))
      have Z1 := Lib.hid (Z0.out.below hl Z0.out.lt)
      clear hl L0 Z0
      go_wp2_with fail
      refine (part_yes b off n c q 4 w1 hnc hn hq4 (by decide)).mono ?_
      rintro e w2 ⟨rfl, rfl⟩
      go_wp2_with fail
      refine (G1.out _ L1.out).mono ?_
      rintro e w2 ⟨rfl, rfl⟩
      go_wp2_with fail
      refine (G2.out _ L1.out).mono ?_
      rintro e w2 ⟨rfl, rfl⟩
      have L2 := Lib.hid (L1.out.alloc L1.out.size (.cells #[.string s, .int .i64 ty] 24))
      have Z2 := Lib.hid (Z1.out.alloc (.cells #[.string s, .int .i64 ty] 24))
      have X2 := Lib.hid (qx_new w1 24 s ty)
      clear L1 Z1 G1 G2 GN
      go_wp2_with fail
      refine (QO.out _ L2.out).mono ?_
      rintro e w3 ⟨rfl, hl⟩
      have L3 := Lib.hid (L2.out.trans (hl.mono L2.out.size))
      have Z3 := Lib.hid (Z2.out.below hl Z2.out.lt)
      have X3 := Lib.hid (X2.out.below hl)
      clear hl L2 Z2 X2 QO
      generalize w1.heap.size = gx at *
      obtain ⟨z0, z1⟩ := qx_of Z3.out
      have f0 := Z3.out.free 0
      have f1 := Z3.out.free 1
      obtain ⟨y0, y1⟩ := X3.out
      cases ok
      · go_wp2
        exact bodyPost_ret (v := valQ (2, 0, ⟨#[]⟩, 0)) (res3Q rfl (filQ_bk Z3.out ⟨#[]⟩ 0) rfl rfl rfl) rfl ⟨by rw [HX.out, if_neg (fun e => by cases e.1)], filQ_below L3.out (Nat.le_refl _) ⟨#[]⟩ 0⟩
      · by_cases h1 : cl = 1
        · have h1' : (cl != 1) = false := by rw [h1]; rfl
          go_wp2
          exact bodyPost_ret (v := valQ (0, (q : Int) + 4, s, ty)) (res3Q rfl (filQ_bk Z3.out s ty) rfl rfl rfl) rfl ⟨by rw [HX.out, if_pos ⟨by first | rfl | trivial, h1⟩], filQ_below L3.out (Nat.le_refl _) s ty⟩
        · have h1' : (cl != 1) = true := by simp [h1]
          have H1 := Lib.hid h1
          clear h1
          go_wp2
          exact bodyPost_ret (v := valQ (2, 0, ⟨#[]⟩, 0)) (res3Q rfl (filQ_bk Z3.out ⟨#[]⟩ 0) rfl rfl rfl) rfl ⟨by rw [HX.out, if_neg (fun e => H1.out e.2)], filQ_below L3.out (Nat.le_refl _) ⟨#[]⟩ 0⟩
  · have HX := Lib.hid (gq_name hR hc)
    generalize gq l k = X at *
    generalize Jo L = s at *
    have hc' : ((c0 : Int) != 0) = true := by simp; omega
    have hc2 : ¬ (c0 : Int) = 0 := by omega
    clear hs hl he hR
    go_enter Tryd.func6, Tryd.ntmps6
    go_wp2_with fail
    refine (GN.out _ L0.out).mono ?_
    rintro e w1 ⟨rfl, hl⟩
    have L1 := Lib.hid (L0.out.trans (hl.mono L0.out.size))
    have Z1 := Lib.hid (Z0.out.below hl Z0.out.lt)
    clear hl L0 Z0
    obtain ⟨z0, z1⟩ := qx_of Z1.out
    have f0 := Z1.out.free 0
    have f1 := Z1.out.free 1
    go_wp2
    exact bodyPost_ret (v := valQ (c0, 0, ⟨#[]⟩, 0)) (res3Q rfl (filQ_bk Z1.out ⟨#[]⟩ 0) rfl rfl rfl) rfl ⟨by rw [HX.out], filQ_below L1.out (Nat.le_refl _) ⟨#[]⟩ 0⟩

set_option maxRecDepth 100000 in
set_option maxHeartbeats 4000000 in
theorem spec (A : Option Addr) (n c : Nat) (l : List UInt8) (k : Int) (w : World) (hs : Sl w w.heap.size A n l) (hnc : n ≤ c) (hn : n ≤ 400000000) :
    Calls Tryd.prog 4 #[.slice A n c, .int .i64 k] w fun e w' => e = .returned (valQ (gq l k)) ∧ Below w.heap.size w w' := by
  have hl := hs.1
  have L0 := Lib.hid (((Below.refl w.heap.size w).alloc (Nat.le_refl _) (.cells #[.string ⟨#[]⟩, .int .i64 0] 24)).alloc (by simp) (.cells #[.string ⟨#[]⟩, .int .i64 0] 24))
  have Z0 : Hid (Bk ((w.alloc (.cells #[.string ⟨#[]⟩, .int .i64 0] 24)).alloc (.cells #[.string ⟨#[]⟩, .int .i64 0] 24)) w.heap.size 24 (qc ⟨#[]⟩ 0)) := (show Bk (w.alloc (.cells #[.string ⟨#[]⟩, .int .i64 0] 24)) w.heap.size 24 (qc ⟨#[]⟩ 0) from heap_alloc_new w _).alloc _
  have N0 : Hid (Qx ((w.alloc (.cells #[.string ⟨#[]⟩, .int .i64 0] 24)).alloc (.cells #[.string ⟨#[]⟩, .int .i64 0] 24)) (w.heap.size + 1) ⟨#[]⟩ 0) := qx_of (t := 24) at2
  have HS := Lib.hid hs
  have GN := Lib.hid (fun W (hW : Below w.heap.size w W) => WalkSpec.getName A n c l k W _ rfl ((hs.below hW).wider hW.size) hn hnc)
  generalize hR : rn l [] k k 0 (-1) = R at *
  obtain ⟨c0, L, p, j⟩ := R
  unfold val3 at GN
  dsimp only at GN
  by_cases hc : c0 = 0
  · subst hc
    have HF := rn_from hR
    obtain ⟨_, hnm, hp1, hp2, _⟩ := rn_good hR
    have hz : (Jo L).size ≤ 50 := (nm_parts hnm).1
    have hp0 : 0 ≤ p := by omega
    rw [hl] at hp2
    clear hp1 HF hnm
    by_cases h4 : (n : Int) - 4 < p
    · have HX := Lib.hid (gq_short hR (by rw [hl]; exact h4))
      generalize gq l k = X at *
      generalize Jo L = s at *
      clear hs hl hR
      go_enter Tryd.func4, Tryd.ntmps4
      go_wp2_with fail
      refine (GN.out _ L0.out).mono ?_
      rintro e w1 ⟨rfl, hl⟩
      have L1 := Lib.hid (L0.out.trans (hl.mono L0.out.size))
      have Z1 := Lib.hid (Z0.out.below hl Z0.out.lt)
      have N1 := Lib.hid (N0.out.below hl)
      clear hl L0 Z0 N0
      obtain ⟨u0, u1⟩ := N1.out
      obtain ⟨z0, z1⟩ := qx_of Z1.out
      have f0 := Z1.out.free 0
      have f1 := Z1.out.free 1
      go_wp2
      exact bodyPost_ret (v := valQ (1, 0, ⟨#[]⟩, 0)) (res3Q rfl (filQ_bk Z1.out ⟨#[]⟩ 0) rfl rfl rfl) rfl ⟨by rw [HX.out], filQ_below L1.out (Nat.le_refl _) ⟨#[]⟩ 0⟩
    · obtain ⟨q, rfl⟩ := Int.eq_ofNat_of_zero_le hp0
      have hq4 : q + 4 ≤ n := by omega
      obtain ⟨b, off, rfl, hb, hcs⟩ := hs.2 (by omega)
      have e1 : n2 l (q : Int) = (b2 l q, true) := b2_n2 (by omega)
      have e2 : n2 l ((q : Int) + 2) = (b2 l (q + 2), true) := b2_n2 (k := q + 2) (by omega)
      have HX : Hid (gq l k = if qok (Jo L) (b2 l q) = true ∧ b2 l (q + 2) = 1 then (0, (q : Int) + 4, Jo L, b2 l q) else (2, 0, ⟨#[]⟩, 0)) := by
        show _ = _
        split
        · rename_i hg
          have := gq_good hR (by rw [hl]; exact h4) (by rw [e1]; exact hg.1) (by rw [e2]; exact hg.2)
          rw [e1] at this
          exact this
        · rename_i hg
          exact gq_form hR (by rw [hl]; exact h4) (by rw [e1, e2]; exact hg)
      have G1 : Hid (∀ W, Below w.heap.size w W → Calls Tryd.prog 10 #[.slice (some ⟨b, off, none⟩) n c, .int .i64 (q : Int)] W fun e w' => e = .returned (.tuple #[.int .i64 (b2 l q), .bool true]) ∧ Below W.heap.size W w') := fun W hW =>
        (specGet2_yes (some ⟨b, off, none⟩) n c l W _ q (hs.below hW) hn (by omega)).mono fun e w' ⟨h1, q', h2⟩ => ⟨h1, h2 ▸ drewN_below W q' _⟩
      have G2 : Hid (∀ W, Below w.heap.size w W → Calls Tryd.prog 10 #[.slice (some ⟨b, off, none⟩) n c, .int .i64 ((q : Int) + 2)] W fun e w' => e = .returned (.tuple #[.int .i64 (b2 l (q + 2)), .bool true]) ∧ Below W.heap.size W w') := fun W hW =>
        (specGet2_yes (some ⟨b, off, none⟩) n c l W _ (q + 2) (hs.below hW) hn (by omega)).mono fun e w' ⟨h1, q', h2⟩ => ⟨h1, h2 ▸ drewN_below W q' _⟩
      have QO : Hid (∀ W, Below w.heap.size w W → Calls Tryd.prog 11 #[.agg #[.string (Jo L), .int .i64 (b2 l q)]] W fun e w' => e = .returned (.bool (qok (Jo L) (b2 l q))) ∧ Below W.heap.size W w') := fun W hW => questS (Jo L) (b2 l q) W (by omega)
      clear hs hl hR hcs e1 e2
      generalize gq l k = X at *
      generalize b2 l q = ty at *
      generalize b2 l (q + 2) = cl at *
      generalize Jo L = s at *
      obtain ⟨ok, hok⟩ : ∃ ok, qok s ty = ok := ⟨_, rfl⟩
      rw [hok] at QO HX
      clear hok
      go_enter Tryd.func4, Tryd.ntmps4
      go_wp2_with fail
      refine (GN.out _ L0.out).mono ?_
      rintro e w1 ⟨rfl, hl⟩
      have L1 := Lib.hid (L0.out.trans (hl.mono L0.out.size))
      have Z1 := Lib.hid (Z0.out.below hl Z0.out.lt)
      have N1 := Lib.hid (N0.out.below hl)
      clear hl L0 Z0 N0
      go_wp2_with fail
      refine (G1.out _ L1.out).mono ?_
      rintro e w2 ⟨rfl, hl⟩
      have L2 := Lib.hid (L1.out.trans (hl.mono L1.out.size))
      have Z2 := Lib.hid (Z1.out.below hl Z1.out.lt)
      have N2 := Lib.hid (N1.out.below hl)
      clear hl L1 Z1 N1
      go_wp2_with fail
      refine (G2.out _ L2.out).mono ?_
      rintro e w3 ⟨rfl, hl⟩
      have L3' := L2.out.trans (hl.mono L2.out.size)
      have L3 := Lib.hid (L3'.alloc L3'.size (.cells #[.string s, .int .i64 ty] 24))
      have Z3 := Lib.hid ((Z2.out.below hl Z2.out.lt).alloc (.cells #[.string s, .int .i64 ty] 24))
      have N3 := Lib.hid ((N2.out.below hl).below ((Below.refl _ _).alloc (Nat.le_refl _) (.cells #[.string s, .int .i64 ty] 24)))
      have X3 := Lib.hid (qx_new w3 24 s ty)
      clear L2 Z2 N2 G1 G2 GN L3' hl
      go_wp2_with fail
      refine (QO.out _ L3.out).mono ?_
      rintro e w4 ⟨rfl, hl⟩
      have L4 := Lib.hid (L3.out.trans (hl.mono L3.out.size))
      have Z4 := Lib.hid (Z3.out.below hl Z3.out.lt)
      have X4 := Lib.hid (X3.out.below hl)
      have N4 := Lib.hid (N3.out.below hl)
      clear hl L3 Z3 X3 N3 QO
      generalize w3.heap.size = gx at *
      obtain ⟨u0, u1⟩ := N4.out
      obtain ⟨z0, z1⟩ := qx_of Z4.out
      have f0 := Z4.out.free 0
      have f1 := Z4.out.free 1
      obtain ⟨y0, y1⟩ := X4.out
      cases ok
      · go_wp2
        exact bodyPost_ret (v := valQ (2, 0, ⟨#[]⟩, 0)) (res3Q rfl (filQ_bk Z4.out ⟨#[]⟩ 0) rfl rfl rfl) rfl ⟨by rw [HX.out, if_neg (fun e => by cases e.1)], filQ_below L4.out (Nat.le_refl _) ⟨#[]⟩ 0⟩
      · by_cases h1 : cl = 1
        · have h1' : (cl != 1) = false := by rw [h1]; rfl
          go_wp2
          exact bodyPost_ret (v := valQ (0, (q : Int) + 4, s, ty)) (res3Q rfl (filQ_bk Z4.out s ty) rfl rfl rfl) rfl ⟨by rw [HX.out, if_pos ⟨by first | rfl | trivial, h1⟩], filQ_below L4.out (Nat.le_refl _) s ty⟩
        · have h1' : (cl != 1) = true := by simp [h1]
          have H1 := Lib.hid h1
          clear h1
          go_wp2
          exact bodyPost_ret (v := valQ (2, 0, ⟨#[]⟩, 0)) (res3Q rfl (filQ_bk Z4.out ⟨#[]⟩ 0) rfl rfl rfl) rfl ⟨by rw [HX.out, if_neg (fun e => H1.out e.2)], filQ_below L4.out (Nat.le_refl _) ⟨#[]⟩ 0⟩
  · have HX := Lib.hid (gq_name hR hc)
    generalize gq l k = X at *
    generalize Jo L = s at *
    have hc' : ((c0 : Int) != 0) = true := by simp; omega
    have hc2 : ¬ (c0 : Int) = 0 := by omega
    clear hs hl hR
    go_enter Tryd.func4, Tryd.ntmps4
    go_wp2_with fail
    refine (GN.out _ L0.out).mono ?_
    rintro e w1 ⟨rfl, hl⟩
    have L1 := Lib.hid (L0.out.trans (hl.mono L0.out.size))
    have Z1 := Lib.hid (Z0.out.below hl Z0.out.lt)
    have N1 := Lib.hid (N0.out.below hl)
    clear hl L0 Z0 N0
    obtain ⟨u0, u1⟩ := N1.out
    obtain ⟨z0, z1⟩ := qx_of Z1.out
    have f0 := Z1.out.free 0
    have f1 := Z1.out.free 1
    go_wp2
    exact bodyPost_ret (v := valQ (c0, 0, ⟨#[]⟩, 0)) (res3Q rfl (filQ_bk Z1.out ⟨#[]⟩ 0) rfl rfl rfl) rfl ⟨by rw [HX.out], filQ_below L1.out (Nat.le_refl _) ⟨#[]⟩ 0⟩
end Go.Proofs.YtkfibepejlgniaaDoor.GetQD
