/- At every slice of bytes, every offset and every number the program's GetRecords answers as its model does, turns no argument, and its answer owns its memory: the law FnExactGetRecords returns true, where the listed tables of the library read as their text lays them (the card ties that to the program's text). -/
import Derived.Test.YtcpadkehalgddaaDoorMemS
import Derived.Laws.IdiomStrings
import Derived.Deep.QuietTactic
import Derived.BigQuiet
import Derived.Deep.RegionLaw
import Derived.Test.YtcpadkehalgddaaDoorMemR
import Derived.Test.YtcpadkehalgddaaDoorBoxR
import Derived.Test.YtcpadkehalgddaaDoorExactGetRecordsP1
import Derived.Test.YtcpadkehalgddaaDoorCopy
import Derived.Test.YtcpadkehalgddaaDoorLabels
import Derived.LaidLaws
import Derived.Test.YtcpadkehalgddaaDoorCards
import Derived.Test.YtcpadkehalgddaaDoorTie
import Derived.ProofKit
import Derived.OpenShut
import Derived.ShutString
import Derived.ChangeOld
import Derived.Below
import Derived.Deep.DeepHandedRow
/- What the law's own helpers markText, markStringS and heldStringS do: a text for each number; every element becomes the text of its number; they are found again. Condition: fewer than 2000001 texts. -/
namespace Go.Proofs.YtcpadkehalgddaaDoor.MarkS
open Go.RowKit Go.Proofs.YtcpadkehalgddaaDoor.Mem Go.Proofs.YtcpadkehalgddaaDoor.MemS

/-- The last digit of v. -/
def dg (v : Nat) : UInt8 := UInt8.ofNat (48 + v % 10)
theorem dg_cell (v : Nat) : ((dg v).toNat : Int) = 48 + (v : Int) % 10 := by
  unfold dg
  rw [UInt8.toNat_ofNat_of_lt' (by simp [UInt8.size]; omega)]
  omega
/-- The digits of v, none for 0, in at most so many rounds. -/
def dsf : Nat → Nat → List UInt8
  | 0, _ => []
  | f + 1, v => if v = 0 then [] else dsf f (v / 10) ++ [dg v]
theorem dsf_same : ∀ (f g v : Nat), v ≤ f → v ≤ g → dsf f v = dsf g v
  | 0, 0, _, _, _ => rfl
  | 0, g + 1, v, h, _ => by rw [dsf, dsf, if_pos (by omega)]
  | f + 1, 0, v, _, h => by rw [dsf, dsf, if_pos (by omega)]
  | f + 1, g + 1, v, h1, h2 => by
    rw [dsf, dsf]
    by_cases h : v = 0
    · rw [if_pos h, if_pos h]
    · rw [if_neg h, if_neg h, dsf_same f g (v / 10) (by omega) (by omega)]
/-- The digits of v, none for 0. -/
def ds (v : Nat) : List UInt8 := dsf v v
theorem ds_zero : ds 0 = [] := rfl
theorem ds_step (v : Nat) (h : v ≠ 0) : ds v = ds (v / 10) ++ [dg v] := by
  obtain ⟨n, rfl⟩ : ∃ n, v = n + 1 := ⟨v - 1, by omega⟩
  rw [ds, ds, dsf, if_neg h, dsf_same n ((n + 1) / 10) ((n + 1) / 10) (by omega) (Nat.le_refl _)]
theorem ds_len (v : Nat) : (ds v).length ≤ v := by
  induction v using Nat.strongRecOn with
  | ind v ih =>
    by_cases h : v = 0
    · subst h; rw [ds_zero]; simp
    · rw [ds_step v h, List.length_append]
      have := ih (v / 10) (by omega)
      simp
      omega
theorem ds_tenth (v : Nat) : (ds v).length ≤ v / 10 + 1 := by
  by_cases h : v = 0
  · subst h; rw [ds_zero]; simp
  · rw [ds_step v h, List.length_append]
    have := ds_len (v / 10)
    simp
    omega
/-- The text of a number. A def, so that no step of a walk opens it. -/
def Mt (v : Nat) : ByteArray := ⟨(109 :: ds v).toArray⟩

/-- One byte in a new block, made a string. -/
theorem back (P : Program) (w : World) {src dst e : TypeId} (x : UInt8) (hs : P.underlying src = some (.slice e)) (he : P.underlying e = some (.int .u8)) (hd : P.underlying dst = some .string) :
    (convert src dst (.slice (some ⟨w.heap.size, 0, none⟩) 1 1)).run P (w.alloc (.cells #[.int .u8 (x.toNat : Int)] e)) = .ok (.string ⟨[x].toArray⟩) (w.alloc (.cells #[.int .u8 (x.toNat : Int)] e)) := by
  refine run_convert_bytes_back _ src dst e ⟨w.heap.size, 0, none⟩ 1 [x] hs he hd fun j hj => ?_
  have hj0 : j = 0 := by simp at hj; exact hj
  subst hj0
  rw [Addr.add_lit]
  have hb : Bk (w.alloc (.cells #[.int .u8 (x.toNat : Int)] e)) w.heap.size e [.int .u8 (x.toNat : Int)] := heap_alloc_new w _
  rw [hb.cell]
  rfl

set_option maxHeartbeats 400000 in
theorem markText_any (u : Nat) (h0 : 0 < u) (h1 : u ≤ 20000000) (w : World) :
    Calls Tryd.prog 86 #[.int .i64 (u : Int)] w fun e w' => e = .returned (.string (Mt u)) ∧ Below w.heap.size w w' := by
  have hz : ¬ (u : Int) ≤ 0 := by omega
  go_enter Tryd.func86, Tryd.ntmps86
  go_wp2
  go_loopw [0, 3] (fun x s wr => ∃ (v : Nat) (acc : List UInt8), v ≤ u ∧ x = .int .i64 (v : Int) ∧ s = .string ⟨acc.toArray⟩ ∧ Hid (ds v ++ acc = ds u) ∧ Hid (Below w.heap.size w wr)) (fun x _ _ => (intOf x).toNat)
  case atStart => exact ⟨u, [], Nat.le_refl _, rfl, rfl, by show _ = _; rw [List.append_nil], Below.refl _ _⟩
  case round =>
    obtain ⟨v, acc, hv, rfl, rfl, HA, HB⟩ := hrel
    have hsum : ((acc.length : Int)) ≤ 8388608 := by
      have h2 := ds_tenth u
      rw [← HA.out, List.length_append] at h2
      omega
    by_cases hv0 : v = 0
    · have hacc : Hid (acc = ds u) := by show _ = _; rw [← HA.out, hv0, ds_zero]; rfl
      have hle : ¬ (0 : Int) < (v : Int) := by omega
      have hcat := fun w => run_string_add_lists (P := Tryd.prog) w [109] acc (by simp) hsum
      clear hv0
      go_wp2
      go_ret
      exact ⟨by rw [hacc.out]; rfl, HB.out⟩
    · have hvp : 0 < v := by omega
      have hconv := fun w => back Tryd.prog w (dg v) Tryd.underlying22 Tryd.underlying5 Tryd.underlying9
      have hcat := fun w => run_string_add_lists (P := Tryd.prog) w [dg v] acc (by simp) hsum
      rw [dg_cell] at hconv
      go_wp2
      go_roundw
      case rel => exact ⟨v / 10, dg v :: acc, by omega, by go_num, rfl, by show _ = _; rw [← HA.out, ds_step v hv0, List.append_assoc]; rfl, HB.out.alloc HB.out.size _⟩
      case measure => simp [intOf]; omega

/-- The texts that markStringS lays: those of k, k + 1 and so on. -/
def marks : Nat → Nat → List ByteArray
  | _, 0 => []
  | k, n + 1 => Mt k :: marks (k + 1) n
theorem marks_length (k n : Nat) : (marks k n).length = n := by
  induction n generalizing k with
  | zero => rfl
  | succ n ih => simp [marks, ih]
theorem marks_at (k n j : Nat) (h : j < n) : (marks k n)[j]? = some (Mt (k + j)) := by
  induction n generalizing k j with
  | zero => omega
  | succ n ih =>
    cases j with
    | zero => simp [marks]
    | succ j => simp only [marks, List.getElem?_cons_succ]; rw [ih (k + 1) j (by omega), show k + 1 + j = k + (j + 1) by omega]
theorem marks_snoc (k n : Nat) : marks k (n + 1) = marks k n ++ [Mt (k + n)] := by
  induction n generalizing k with
  | zero => simp [marks]
  | succ n ih => rw [marks, ih (k + 1), marks, List.cons_append, show k + 1 + n = k + (n + 1) by omega]
theorem mark_step (cs : List Value) (k j n : Nat) (hj : j < n) (hn : n ≤ cs.length) :
    ((marks k j).map tv ++ cs.drop j).set j (Value.string (Mt (k + j))) = (marks k (j + 1)).map tv ++ cs.drop (j + 1) := by
  rw [List.set_append_right _ _ (by rw [List.length_map, marks_length]; omega), List.length_map, marks_length, Nat.sub_self, List.drop_eq_getElem_cons (by omega), List.set_cons_zero, marks_snoc, List.map_append, List.append_assoc]
  rfl
theorem mark_at (cs : List Value) (k j : Nat) (hj : j < cs.length) : ((marks k j).map tv ++ cs.drop j)[j]? = some cs[j] := by
  rw [List.getElem?_append_right (by rw [List.length_map, marks_length]; omega), List.length_map, marks_length, Nat.sub_self, List.drop_eq_getElem_cons hj]
  rfl
theorem grown_of_below {w w' : World} (h : Below w.heap.size w w') (r : Option Nat) : w.grownBy w' r := ⟨h.os, h.tape, h.output, h.size, fun k hk _ => h.block k hk⟩
theorem grown_trans {a b d : World} {r : Option Nat} (h : a.grownBy b r) (k : b.grownBy d r) : a.grownBy d r :=
  ⟨k.os.trans h.os, k.tape.trans h.tape, k.output.trans h.output, Nat.le_trans h.size k.size, fun i hi hne => (k.block i (Nat.lt_of_lt_of_le hi h.size) hne).trans (h.block i hi hne)⟩
theorem grown_set {w wr : World} {g : Nat} (h : w.grownBy wr (some g)) (j : Nat) (u : Value) : w.grownBy (wr.setCell ⟨g, j, none⟩ u) (some g) :=
  ⟨h.os, h.tape, h.output, by simpa [World.setCell] using h.size, fun k hk hne => by
    rw [Below.heap_setCell _ _ _ _ (fun e => hne (by simp [e]))]; exact h.block k hk hne⟩

end Go.Proofs.YtcpadkehalgddaaDoor.MarkS

/- What the law's own helpers markRecordS and heldRecordS do: every field of every record is overwritten by a mark of its own; and the marks are found. Condition: fewer than 2000001 records. -/
namespace Go.Proofs.YtcpadkehalgddaaDoor.MarkR
open Go.RowKit Go.Proofs.YtcpadkehalgddaaDoor.Mem Go.Proofs.YtcpadkehalgddaaDoor.MemR Go.Proofs.YtcpadkehalgddaaDoor.MarkS Go.Proofs.YtcpadkehalgddaaDoor.BoxR

/-- The record of marks from u on. -/
def mr (u : Nat) : Rec := ⟨Mt u, (u : Int) + 1, (u : Int) + 1 + 1, (u : Int) + 1 + 1 + 1, Mt (u + 4), Mt (u + 5)⟩
/-- So many of them. -/
def mks (n : Nat) : List Rec := (List.range n).map (fun j => mr (1 + 6 * j))
theorem mks_len (n : Nat) : (mks n).length = n := by simp [mks]
theorem mks_at (n j : Nat) (h : j < (mks n).length) : (mks n)[j] = mr (1 + 6 * j) := by simp [mks]
theorem mks_snoc (n : Nat) : mks (n + 1) = mks n ++ [mr (1 + 6 * n)] := by simp [mks, List.range_succ]
theorem mid_at (l : List Rec) (j : Nat) (h : j < l.length) : ∃ h' : j < (mks j ++ l.drop j).length, (mks j ++ l.drop j)[j] = l[j] := by
  refine ⟨by rw [List.length_append, mks_len, List.length_drop]; omega, ?_⟩
  rw [List.getElem_append_right (by rw [mks_len]; omega), List.getElem_drop]
  congr 1
  rw [mks_len]
  omega
theorem mid_set (l : List Rec) (j : Nat) (h : j < l.length) : (mks j ++ l.drop j).set j (mr (1 + 6 * j)) = mks (j + 1) ++ l.drop (j + 1) := by
  rw [List.set_append_right _ _ (by rw [mks_len]; omega), mks_len, Nat.sub_self, List.drop_eq_getElem_cons h, List.set_cons_zero, mks_snoc, List.append_assoc]
  rfl
theorem mid_len (l : List Rec) (j : Nat) (h : j ≤ l.length) : (mks j ++ l.drop j).length = l.length := by
  rw [List.length_append, mks_len, List.length_drop]; omega
theorem set_left (X r : List Value) (i : Nat) (u : Value) (h : i < X.length) : (X ++ r).set i u = X.set i u ++ r := List.set_append_left _ _ h
theorem put_r (L : List Rec) (r : List Value) (k : Nat) (x : Rec) (h : k < L.length) :
    ((((((fl L ++ r).set (k * 6) (.string x.name)).set (k * 6 + 1) (.int .i64 x.ty)).set (k * 6 + 2) (.int .i64 x.ttl)).set (k * 6 + 3) (.int .i64 x.n)).set (k * 6 + 4) (.string x.host)).set (k * 6 + 5) (.string x.text) = fl (L.set k x) ++ r := by
  have hl := fl_len L
  rw [set_left _ _ _ _ (by omega), set_left _ _ _ _ (by simp; omega), set_left _ _ _ _ (by simp; omega), set_left _ _ _ _ (by simp; omega), set_left _ _ _ _ (by simp; omega), set_left _ _ _ _ (by simp; omega), fl_put L k x h]

set_option maxHeartbeats 4000000 in
theorem markRecordS_one (g n c : Nat) (l : List Rec) (r : List Value) (w : World) (hb : Bk w g 25 (fl l ++ r)) (hl : l.length = n) (hn : n ≤ 2000000) :
    Calls Tryd.prog 42 #[.slice (some ⟨g, 0, none⟩) n c, .int .i64 1] w fun e w' => e = .returned (.int .i64 (1 + 6 * (n : Int))) ∧ Bk w' g 25 (fl (mks n) ++ r) ∧ w.grownBy w' (some g) := by
  have HB := Lib.hid hb
  have HL := Lib.hid hl
  clear hb hl
  go_enter Tryd.func42, Tryd.ntmps42
  go_wp2
  go_loopw [1, 5] (fun kk i wr => ∃ j u : Nat, j ≤ n ∧ i = .int .i64 j ∧ kk = .int .i64 (u : Int) ∧ Hid (u = 1 + 6 * j) ∧ Hid (Bk wr g 25 (fl (mks j ++ l.drop j) ++ r)) ∧ Hid (w.grownBy wr (some g))) (fun _ i _ => n - (intOf i).toNat)
  case atStart => exact ⟨0, 1, Nat.zero_le _, rfl, rfl, rfl, HB.out, World.grownBy.refl _ _⟩
  case round =>
    clear HB
    obtain ⟨j, u, hj, rfl, rfl, HU, HJ, HG⟩ := hrel
    have hu : u ≤ 12000001 := by have := HU.out; omega
    by_cases hlt : j < n
    · have hu0 : 0 < u := by have := HU.out; omega
      have hjl : j < l.length := by rw [HL.out]; exact hlt
      have HM := Lib.hid (mid_set l j hjl)
      have hML : j < (mks j ++ l.drop j).length := (mid_at l j hjl).1
      generalize mks j ++ l.drop j = M at *
      go_wp2_with fail
      refine (markText_any u hu0 (by omega) wr).mono ?_
      rintro e w1 ⟨rfl, hl1⟩
      have B1 := Lib.hid (HJ.out.below hl1 HJ.out.lt)
      have G1 := Lib.hid (grown_trans HG.out (grown_of_below hl1 (some g)))
      clear hl1 HJ HG
      obtain ⟨z0, z1, z2, z3, z4, z5⟩ := bk_ce B1.out j hML
      have f0 := B1.out.free (j * 6)
      have f1 := B1.out.free (j * 6 + 1)
      have f2 := B1.out.free (j * 6 + 2)
      have f3 := B1.out.free (j * 6 + 3)
      have Z4 : Hid ((fl M ++ r)[j * 6 + 4]? = some (.string M[j].host)) := (B1.out.cell (j * 6 + 4)).symm.trans z4
      have Z5 : Hid ((fl M ++ r)[j * 6 + 5]? = some (.string M[j].text)) := (B1.out.cell (j * 6 + 5)).symm.trans z5
      clear z4 z5
      have B2 := Lib.hid ((((B1.out.set (j * 6) (.string (Mt u))).set (j * 6 + 1) (.int .i64 ((u : Int) + 1))).set (j * 6 + 2) (.int .i64 ((u : Int) + 1 + 1))).set (j * 6 + 3) (.int .i64 ((u : Int) + 1 + 1 + 1)))
      have G2 := Lib.hid (grown_set (grown_set (grown_set (grown_set G1.out (j * 6) (.string (Mt u))) (j * 6 + 1) (.int .i64 ((u : Int) + 1))) (j * 6 + 2) (.int .i64 ((u : Int) + 1 + 1))) (j * 6 + 3) (.int .i64 ((u : Int) + 1 + 1 + 1)))
      have e4 : (u : Int) + 1 + 1 + 1 + 1 = ((u + 4 : Nat) : Int) := by omega
      have E4 := Lib.hid e4
      clear e4
      go_wp2_with fail
      rw [E4.out]
      refine (markText_any (u + 4) (by omega) (by omega) _).mono ?_
      rintro e w3 ⟨rfl, hl3⟩
      have B3 := Lib.hid (B2.out.below hl3 B2.out.lt)
      have G3 := Lib.hid (grown_trans G2.out (grown_of_below hl3 (some g)))
      clear hl3 B2 G2 z0 z1 z2 z3 f0 f1 f2 f3 B1 G1
      have z4 : w3.cell? ⟨g, j * 6 + 4, none⟩ = some (.string M[j].host) := by
        rw [B3.out.cell, List.getElem?_set_ne (by omega), List.getElem?_set_ne (by omega), List.getElem?_set_ne (by omega), List.getElem?_set_ne (by omega)]
        exact Z4.out
      have f4 := B3.out.free (j * 6 + 4)
      have B4 := Lib.hid (B3.out.set (j * 6 + 4) (.string (Mt (u + 4))))
      have G4 := Lib.hid (grown_set G3.out (j * 6 + 4) (.string (Mt (u + 4))))
      go_wp2_with fail
      have e5 : Hid ((u : Int) + 4 + 1 = ((u + 5 : Nat) : Int)) := show _ = _ by omega
      rw [e5.out]
      refine (markText_any (u + 5) (by omega) (by omega) _).mono ?_
      rintro e w5 ⟨rfl, hl5⟩
      have B5 := Lib.hid (B4.out.below hl5 B4.out.lt)
      have G5 := Lib.hid (grown_trans G4.out (grown_of_below hl5 (some g)))
      clear hl5 B3 G3 B4 G4 z4 f4
      have z5 : w5.cell? ⟨g, j * 6 + 5, none⟩ = some (.string M[j].text) := by
        rw [B5.out.cell, List.getElem?_set_ne (by omega), List.getElem?_set_ne (by omega), List.getElem?_set_ne (by omega), List.getElem?_set_ne (by omega), List.getElem?_set_ne (by omega)]
        exact Z5.out
      have f5 := B5.out.free (j * 6 + 5)
      have B6 := Lib.hid (B5.out.set (j * 6 + 5) (.string (Mt (u + 5))))
      have G6 := Lib.hid (grown_set G5.out (j * 6 + 5) (.string (Mt (u + 5))))
      go_wp2
      go_roundw
      case rel =>
        refine ⟨j + 1, u + 6, by omega, by go_num, by go_num, show _ = _ by have := HU.out; omega, ?_, G6.out⟩
        show Bk _ _ _ _
        have h := B6.out
        have hp := put_r M r j (mr u) hML
        have hq : mr u = mr (1 + 6 * j) := by rw [HU.out]
        rw [hq, HM.out, ← hq] at hp
        have hx := hp.symm
        rw [hx]
        exact h
      case measure => simp [intOf]; omega
    · have hje : j = n := by omega
      subst hje
      go_wp2
      go_ret
      refine ⟨?_, ?_, HG.out⟩
      · rw [HU.out]
        push_cast
        rfl
      · have h := HJ.out
        rw [List.drop_eq_nil_of_le (by rw [HL.out]; exact Nat.le_refl _), List.append_nil] at h
        exact h

theorem mark_at (z : Int) (v : Nat) (hz : z = (v : Int)) (h0 : 0 < v) (h1 : v ≤ 20000000) (w : World) :
    Calls Tryd.prog 86 #[.int .i64 z] w fun e w' => e = .returned (.string (Mt v)) ∧ Below w.heap.size w w' := by
  subst hz
  exact markText_any v h0 h1 w

set_option maxHeartbeats 4000000 in
theorem heldRecordS_one (g n c : Nat) (r : List Value) (w : World) (hb : Bk w g 25 (fl (mks n) ++ r)) (hn : n ≤ 2000000) :
    Calls Tryd.prog 43 #[.slice (some ⟨g, 0, none⟩) n c, .int .i64 1] w fun e w' => e = .returned (.int .i64 (1 + 6 * (n : Int))) ∧ Below w.heap.size w w' := by
  have mixed : Tryd.prog.follows .mixedOrders = true := by kernel_rfl
  have HB := Lib.hid hb
  clear hb
  go_enter Tryd.func43, Tryd.ntmps43
  go_wp2
  go_loopw [1, 5] (fun kk i wr => ∃ j u : Nat, j ≤ n ∧ i = .int .i64 j ∧ kk = .int .i64 (u : Int) ∧ Hid (u = 1 + 6 * j) ∧ Hid (Below w.heap.size w wr)) (fun _ i _ => n - (intOf i).toNat)
  case atStart => exact ⟨0, 1, Nat.zero_le _, rfl, rfl, rfl, Below.refl _ _⟩
  case round =>
    obtain ⟨j, u, hj, rfl, rfl, HU, HG⟩ := hrel
    have hu : u ≤ 12000001 := by have := HU.out; omega
    by_cases hlt : j < n
    · have hu0 : 0 < u := by have := HU.out; omega
      have hjl : j < (mks n).length := by rw [mks_len]; exact hlt
      have C : Hid (Ce wr g (j * 6) (mr u)) := by
        have h := bk_ce (HB.out.below HG.out HB.out.lt) j hjl
        rw [mks_at n j hjl, ← HU.out] at h
        exact h
      have x0 : ∀ d os, (Sort.grow (redrawn wr d) os).cell? ⟨g, j * 6, none⟩ = some (.string (Mt u)) := cell_regrown C.out.1
      go_wp2_with fail
      refine wp_region_quiet_below (by assumption) (by kernel_rfl) ?_
      repeat (quiet_step (first | (go_at_call 86; exact in_class (fun W _ => markText_any u hu0 (by omega) W))))
      refine wpQuiet_nil ?_
      intro w2 hw2
      have L2 := Lib.hid (of_class hw2)
      clear hw2 x0
      have C2 : Hid (Ce w2 g (j * 6) (mr u)) := C.out.below L2.out (Nat.lt_of_lt_of_le HB.out.lt HG.out.size)
      have G2 := Lib.hid (HG.out.trans (L2.out.mono HG.out.size))
      clear L2 C HG
      have z1 : w2.cell? ⟨g, j * 6 + 1, none⟩ = some (.int .i64 ((u : Int) + 1)) := C2.out.2.1
      have z2 : w2.cell? ⟨g, j * 6 + 2, none⟩ = some (.int .i64 ((u : Int) + 1 + 1)) := C2.out.2.2.1
      have z3 : w2.cell? ⟨g, j * 6 + 3, none⟩ = some (.int .i64 ((u : Int) + 1 + 1 + 1)) := C2.out.2.2.2.1
      have x4 : ∀ d os, (Sort.grow (redrawn w2 d) os).cell? ⟨g, j * 6 + 4, none⟩ = some (.string (Mt (u + 4))) := cell_regrown C2.out.2.2.2.2.1
      go_wp2_with fail
      refine wp_region_quiet_below (by assumption) (by kernel_rfl) ?_
      repeat (quiet_step (first | (go_at_call 86; exact in_class (fun W _ => mark_at _ (u + 4) (by omega) (by omega) (by omega) W))))
      refine wpQuiet_nil ?_
      intro w4 hw4
      have L4 := Lib.hid (of_class hw4)
      clear hw4 x4 z1 z2 z3
      have C4 : Hid (Ce w4 g (j * 6) (mr u)) := C2.out.below L4.out (Nat.lt_of_lt_of_le HB.out.lt G2.out.size)
      have G4 := Lib.hid (G2.out.trans (L4.out.mono G2.out.size))
      clear L4 C2 G2
      have x5 : ∀ d os, (Sort.grow (redrawn w4 d) os).cell? ⟨g, j * 6 + 5, none⟩ = some (.string (Mt (u + 5))) := cell_regrown C4.out.2.2.2.2.2
      go_wp2_with fail
      refine wp_region_quiet_below (by assumption) (by kernel_rfl) ?_
      repeat (quiet_step (first | (go_at_call 86; exact in_class (fun W _ => mark_at _ (u + 5) (by omega) (by omega) (by omega) W))))
      refine wpQuiet_nil ?_
      intro w6 hw6
      have L6 := Lib.hid (of_class hw6)
      clear hw6 x5
      have G6 := Lib.hid (G4.out.trans (L6.out.mono G4.out.size))
      clear L6 C4 G4
      go_wp2
      go_roundw
      case rel => exact ⟨j + 1, u + 6, by omega, by go_num, by go_num, show _ = _ by have := HU.out; omega, G6.out⟩
      case measure => simp [intOf]; omega
    · have hje : j = n := by omega
      subst hje
      go_wp2
      go_ret
      refine ⟨?_, HG.out⟩
      rw [HU.out]
      push_cast
      rfl

end Go.Proofs.YtcpadkehalgddaaDoor.MarkR

/- The law FnExactGetRecords returns true at every slice of bytes, offset and number, where the library's variable internal/bytealg.MaxLen holds an int, and turns nothing that was there: GetRecords answers as its model. -/
namespace Go.Proofs.YtcpadkehalgddaaDoor.LawGetRecords
open Go.RowKit Go.Proofs.YtcpadkehalgddaaDoor.Mem Go.Proofs.YtcpadkehalgddaaDoor.MemR Go.Proofs.YtcpadkehalgddaaDoor.Labels Go.Proofs.YtcpadkehalgddaaDoor.Copy Go.Proofs.YtcpadkehalgddaaDoor.Eq Go.Proofs.YtcpadkehalgddaaDoor.EqR Go.Proofs.YtcpadkehalgddaaDoor.MarkR Go.Proofs.YtcpadkehalgddaaDoor.FieldMath Go.Proofs.YtcpadkehalgddaaDoor.GetsM

set_option maxRecDepth 100000 in
set_option maxHeartbeats 8000000 in
theorem walk (A : Option Addr) (n c : Nat) (l : List UInt8) (k q : Int) (w : World) (he : Env w) (hs : Sl w w.heap.size A n l) (_hc : n ≤ c) (_hnil : A = none → n = 0 ∧ c = 0) :
    Calls Tryd.prog 8 #[.slice A n c, .int .i64 k, .int .i64 q] w fun e w' => e = .returned (.bool true) ∧ Below w.heap.size w w' := by
  have HE := Lib.hid he
  have HS := Lib.hid hs
  have HL := Lib.hid hs.1
  clear he hs _hnil
  by_cases hbig : 1048576 < n
  · have hb' : (1048576 : Int) < (n : Int) := by omega
    go_enter Tryd.func8, Tryd.ntmps8
    go_wp2
    go_ret
    exact ⟨rfl, Below.refl _ _⟩
  have hb' : ¬ (1048576 : Int) < (n : Int) := by omega
  have SP : Hid (∀ (g : Nat) (W : World), Bk W g 5 (l.map bv) → Calls Tryd.prog 39 #[.slice (some ⟨g, 0, none⟩) n n, .int .i64 k, .int .i64 q] W fun e w' => ∃ g cap r, e = .returned (.tuple #[.slice (some ⟨g, 0, none⟩) (grA l k q).2.2.length cap, .int .i64 (grA l k q).2.1, .int .i64 ((grA l k q).1 : Int)]) ∧ Bk w' g 25 (fl (grA l k q).2.2 ++ r) ∧ W.heap.size ≤ g ∧ Below W.heap.size W w') :=
    fun g W hb => (GetsS.recs _ n n l k q W (HL.out ▸ (hb.sl.wider hb.lt)) (Nat.le_refl _) (by omega)).mono fun _ _ h => h.bk
  have IM : Hid (∀ (g : Nat) (W : World), Below w.heap.size w W → Bk W g 5 (l.map bv) → Calls Tryd.prog 40 #[.slice (some ⟨g, 0, none⟩) n n, .int .i64 k, .int .i64 q] W fun e w' => ∃ g cap r, e = .returned (.tuple #[.slice (some ⟨g, 0, none⟩) (grA l k q).2.2.length cap, .int .i64 (grA l k q).2.1, .int .i64 ((grA l k q).1 : Int)]) ∧ Bk w' g 25 (fl (grA l k q).2.2 ++ r) ∧ W.heap.size ≤ g ∧ Below W.heap.size W w') :=
    fun g W hW hb => (GetsI.recs _ n n l k q W (HE.out.below hW) (HL.out ▸ (hb.sl.wider hb.lt)) (Nat.le_refl _) (by omega)).mono fun _ _ h => h.bk
  have TB : Hid (∀ W : World, Below w.heap.size w W → Calls Tryd.prog 32 #[.slice A n c] W fun e w' => ∃ g, e = .returned (.slice (some ⟨g, 0, none⟩) n n) ∧ Bk w' g 5 (l.map bv) ∧ W.heap.size ≤ g ∧ Below W.heap.size W w') :=
    fun W hW => (toByteS_any A n c l W ((HS.out.below hW).wider hW.size) (by omega)).mono fun e w' ⟨h1, h2, h3⟩ => ⟨_, h1, h2, Nat.le_refl _, h3⟩
  have hm8 := grA_len l k q
  generalize grA l k q = X at *
  obtain ⟨yc, yp, L⟩ := X
  dsimp only at SP IM hm8
  obtain ⟨m, hm⟩ : ∃ m, L.length = m := ⟨_, rfl⟩
  rw [hm] at SP IM hm8
  have HN := Lib.hid hm
  clear hm
  have hp : (yp != yp) = false := by simp
  have hq : ((yc : Int) != (yc : Int)) = false := by simp
  have hk0 : ¬ (1 : Int) + 6 * (m : Int) < 0 := by omega
  have q1 : ((1 : Int) + 6 * (m : Int) != 1 + 6 * (m : Int)) = false := by simp
  have L0 := Lib.hid (Below.refl w.heap.size w)
  go_enter Tryd.func8, Tryd.ntmps8
  go_wp2_with fail
  refine (TB.out w L0.out).mono ?_
  rintro e w1 ⟨gb, rfl, hb, hg, hl⟩
  have B1 := Lib.hid hb
  have L1 := Lib.hid (L0.out.trans (hl.mono L0.out.size))
  clear hl L0 hb hg
  go_wp2_with fail
  refine (SP.out _ w1 B1.out).mono ?_
  rintro e w2 ⟨gw, cw, rw, rfl, hb, hg, hl⟩
  have W2 := Lib.hid hb
  have L2 := Lib.hid (L1.out.trans (hl.mono L1.out.size))
  clear hl L1 B1 hg hb
  go_wp2_with fail
  refine (TB.out w2 L2.out).mono ?_
  rintro e w3 ⟨gx, rfl, hb, hg, hl⟩
  have X3 := Lib.hid hb
  have NWX := Lib.hid (show gw ≠ gx from fun e => by have := W2.out.lt; omega)
  have GX := Lib.hid (Nat.le_trans L2.out.size hg)
  have L3 := Lib.hid (L2.out.trans (hl.mono L2.out.size))
  have W3 := Lib.hid (W2.out.below hl W2.out.lt)
  clear hl L2 W2 hb hg
  go_wp2_with fail
  refine (IM.out _ w3 L3.out X3.out).mono ?_
  rintro e w4 ⟨gg, cg, rg, rfl, hb, hg, hl⟩
  have G4 := Lib.hid hb
  have NWG := Lib.hid (show gw ≠ gg from fun e => by have := W3.out.lt; omega)
  have NXG := Lib.hid (show gx ≠ gg from fun e => by have := X3.out.lt; omega)
  have GG := Lib.hid (Nat.le_trans L3.out.size hg)
  have L4 := Lib.hid (L3.out.trans (hl.mono L3.out.size))
  have W4 := Lib.hid (W3.out.below hl W3.out.lt)
  have X4 := Lib.hid (X3.out.below hl X3.out.lt)
  clear hl L3 W3 X3 hg hb
  go_wp2_with fail
  refine (eqRecordS_same _ _ m cg cw L w4 (bk_sr G4.out HN.out) (bk_sr W4.out HN.out) (by omega)).mono ?_
  rintro e w5 ⟨rfl, hl⟩
  have L5 := Lib.hid (L4.out.trans (hl.mono L4.out.size))
  have W5 := Lib.hid (W4.out.below hl W4.out.lt)
  have X5 := Lib.hid (X4.out.below hl X4.out.lt)
  have G5 := Lib.hid (G4.out.below hl G4.out.lt)
  clear hl L4 W4 X4 G4 
  go_wp2_with fail
  refine (TB.out w5 L5.out).mono ?_
  rintro e w6 ⟨gt, rfl, hb, hg, hl⟩
  have T6 := Lib.hid hb
  have L6 := Lib.hid (L5.out.trans (hl.mono L5.out.size))
  have W6 := Lib.hid (W5.out.below hl W5.out.lt)
  have X6 := Lib.hid (X5.out.below hl X5.out.lt)
  have G6 := Lib.hid (G5.out.below hl G5.out.lt)
  clear hl L5 W5 X5 G5 hb hg
  go_wp2_with fail
  refine (eqByteS_same _ _ n n n n l w6 (HL.out ▸ (X6.out.sl.wider X6.out.lt)) (HL.out ▸ (T6.out.sl.wider T6.out.lt)) (by omega) (by omega)).mono ?_
  rintro e w7 ⟨rfl, hl⟩
  have L7 := Lib.hid (L6.out.trans (hl.mono L6.out.size))
  have W7 := Lib.hid (W6.out.below hl W6.out.lt)
  have X7 := Lib.hid (X6.out.below hl X6.out.lt)
  have G7 := Lib.hid (G6.out.below hl G6.out.lt)
  clear hl L6 W6 X6 G6 T6 
  go_wp2_with fail
  refine (markByteS_one gx n n l [] w7 (by rw [List.append_nil]; exact X7.out) HL.out (by omega)).mono ?_
  rintro e w8 ⟨rfl, _, gr⟩
  have L8 := Lib.hid (L7.out.grown gr L7.out.size (fun j hj => by cases hj; exact GX.out))
  have W8 := Lib.hid (W7.out.grown gr (fun e => NWX.out (Option.some.inj e)))
  have G8 := Lib.hid (G7.out.grown gr (fun e => NXG.out (Option.some.inj e).symm))
  clear gr L7 W7 X7 G7 
  go_wp2_with fail
  refine (eqRecordS_same _ _ m cg cw L w8 (bk_sr G8.out HN.out) (bk_sr W8.out HN.out) (by omega)).mono ?_
  rintro e w9 ⟨rfl, hl⟩
  have L9 := Lib.hid (L8.out.trans (hl.mono L8.out.size))
  have W9 := Lib.hid (W8.out.below hl W8.out.lt)
  have G9 := Lib.hid (G8.out.below hl G8.out.lt)
  clear hl L8 W8 G8 
  go_wp2_with fail
  refine (markRecordS_one gg m cg L rg w9 G9.out HN.out (by omega)).mono ?_
  rintro e w10 ⟨rfl, mm, gr⟩
  have M10 := Lib.hid mm
  have L10 := Lib.hid (L9.out.grown gr L9.out.size (fun j hj => by cases hj; exact GG.out))
  have W10 := Lib.hid (W9.out.grown gr (fun e => NWG.out (Option.some.inj e)))
  clear gr L9 W9 G9 mm
  go_wp2_with fail
  refine (heldRecordS_one gg m cg rg w10 M10.out (by omega)).mono ?_
  rintro e w11 ⟨rfl, hl⟩
  have L11 := Lib.hid (L10.out.trans (hl.mono L10.out.size))
  have W11 := Lib.hid (W10.out.below hl W10.out.lt)
  have M11 := Lib.hid (M10.out.below hl M10.out.lt)
  clear hl L10 W10 M10 
  go_wp2_with fail
  refine (TB.out w11 L11.out).mono ?_
  rintro e w12 ⟨gp, rfl, hb, hg, hl⟩
  have P12 := Lib.hid hb
  have L12 := Lib.hid (L11.out.trans (hl.mono L11.out.size))
  have W12 := Lib.hid (W11.out.below hl W11.out.lt)
  have M12 := Lib.hid (M11.out.below hl M11.out.lt)
  clear hl L11 W11 M11 hb hg
  go_wp2_with fail
  refine (IM.out _ w12 L12.out P12.out).mono ?_
  rintro e w13 ⟨gh, ch, rh, rfl, hb, hg, hl⟩
  have H13 := Lib.hid hb
  have L13 := Lib.hid (L12.out.trans (hl.mono L12.out.size))
  have W13 := Lib.hid (W12.out.below hl W12.out.lt)
  have M13 := Lib.hid (M12.out.below hl M12.out.lt)
  clear hl L12 W12 M12 P12 hg hb
  go_wp2_with fail
  refine (eqRecordS_same _ _ m ch cw L w13 (bk_sr H13.out HN.out) (bk_sr W13.out HN.out) (by omega)).mono ?_
  rintro e w14 ⟨rfl, hl⟩
  have L14 := Lib.hid (L13.out.trans (hl.mono L13.out.size))
  have M14 := Lib.hid (M13.out.below hl M13.out.lt)
  clear hl L13 W13 M13 H13 
  go_wp2_with fail
  refine (heldRecordS_one gg m cg rg w14 M14.out (by omega)).mono ?_
  rintro e w15 ⟨rfl, hl⟩
  have L15 := Lib.hid (L14.out.trans (hl.mono L14.out.size))
  clear hl L14 M14 
  go_wp2
  go_ret
  exact ⟨rfl, L15.out⟩
end Go.Proofs.YtcpadkehalgddaaDoor.LawGetRecords

/- What the world's shape gives the walks of this seat, and one world in which the listed tables of unicode/utf8 read as their text lays them. -/
namespace Go.Proofs.YtcpadkehalgddaaDoor.LaidU
open Go.RowKit Go.Proofs.YtcpadkehalgddaaDoor.Labels

theorem env {W : World} (h : W.ShapedOpen Tryd.prog) : Env W := Tryd.laysM146.s1_3 W h

def acc : List Int := [128, 191, 160, 191, 128, 159, 144, 191, 128, 143, 0, 0, 0, 0, 0, 0, 0, 0, 0, 0, 0, 0, 0, 0, 0, 0, 0, 0, 0, 0, 0, 0]
theorem gFirst : Tryd.prog.globalNamed "unicode/utf8.first" = some 2 := by kernel_rfl
theorem gAcc : Tryd.prog.globalNamed "unicode/utf8.acceptRanges" = some 3 := by kernel_rfl
/-- A block of cells, with other cells in it. -/
def put (cs : Array Value) : Obj → Obj
  | .cells _ t frozen => .cells cs t frozen
  | o => o
/-- The settled world, the two tables holding what their text lays. -/
noncomputable def laidWorld (os : Os) : World :=
  { World.holding Tryd.prog os ⟨#[], #[], []⟩ with heap := ((World.holding Tryd.prog os ⟨#[], #[], []⟩).heap.modify 2 (put (Go.Pinned.utf8FirstZ.map (fun n : Nat => Value.int .u8 (n : Int))).toArray)).modify 3 (put (acc.map (Value.int .u8)).toArray) }
def two : List (String × DataW Unit) := [("unicode/utf8.acceptRanges", Rows.laid_unicode_utf8_acceptRanges), ("unicode/utf8.first", Rows.laid_unicode_utf8_first)]
theorem laid_met (os : Os) (args : Array Value) : laidMet Tryd.prog two ((laidWorld os).forCall (fun _ _ => 0) ⟨#[], args, []⟩).memory :=
  laidMet_of_run' 8 (by kernel_rfl) (by kernel_rfl)
end Go.Proofs.YtcpadkehalgddaaDoor.LaidU

/- At every slice of bytes, every offset and every number the program's GetRecords answers as its model does, turns no argument, and its answer owns its memory: the law FnExactGetRecords returns true, where the listed tables of the library read as their text lays them (the card ties that to the program's text). -/
namespace Go.Proofs.YtcpadkehalgddaaDoor.exactGetRecordsCard
open Go.ChangeShapes Go.WideShapes Go.ChangeAt Go.RowKit Go.Proofs.YtcpadkehalgddaaDoor.LaidU Go.Proofs.YtcpadkehalgddaaDoor.Mem

theorem own : ownKnob Tryd.prog.godebug = none := by kernel_rfl
theorem laidOut : laidOutB Tryd.prog = true := by kernel_rfl

set_option maxRecDepth 100000 in
theorem contract (H : Type) (enc : TypeId × Value → H) (W : World) (base : Nat) (args : Array Value) (ds gs : List (DataW H)) (before : List MemPlace)
    (hval0 : ∀ (j : Nat) t v, Tryd.f8.params[j]? = some t → args[j]? = some v → Value.okWide Tryd.prog W .any base t v)
    (hW : DataW.Whole enc Tryd.prog Tryd.f8.params.toList Rows.fnExactGetRecordsSpec.vars false W args.toList ds gs before) (hsh : W.ShapedOpen Tryd.prog) :
    Calls Tryd.prog 8 args W fun e W' => ∃ v, e = .returned v ∧ Rows.fnExactGetRecordsSpec.post enc Tryd.prog Tryd.f8 false true false false W args v W' := by
  have hval : ∀ (j : Nat) t v, Tryd.f8.params[j]? = some t → args[j]? = some v → Value.okWide Tryd.prog W .any base t v := hval0
  have hW' := hW
  obtain ⟨p, q, hA0, hV, rfl, _, _⟩ := hW
  have hA : DataW.TrodAll enc Tryd.prog W 0 (fun _ => true) true Tryd.f8.params.toList args.toList ds p := hA0
  rw [Tryd.params8] at hA hval
  obtain ⟨v0, vs0, d0, ds0, p0, q0, _, rfl, rfl, h0, r0⟩ := trodAll_cons hA
  obtain ⟨v1, vs1, d1, ds1, p1, q1, _, rfl, rfl, h1, r1⟩ := trodAll_cons r0
  obtain ⟨v2, vs2, d2, ds2, p2, q2, _, rfl, rfl, h2, r2⟩ := trodAll_cons r1
  obtain ⟨rfl, rfl, rfl⟩ := trodAll_nil r2
  obtain rfl : args = #[v0, v1, v2] := by cases args; simp_all
  obtain ⟨rfl, rfl⟩ := trodVars_none hV
  obtain ⟨a0, len0, cap0, rfl⟩ := okWide_slice Tryd.underlying22 (hval 0 22 v0 rfl rfl)
  have k0 := h0
  have lt0 : ∀ x ∈ p0, x.block < W.heap.size := by obtain ⟨m, hm⟩ := k0; exact DataW.trod_lt m _ _ _ hm
  obtain ⟨l0, s0, c0, z0⟩ : ∃ l : List UInt8, Sl W W.heap.size a0 len0 l ∧ len0 ≤ cap0 ∧ (a0 = none → len0 = 0 ∧ cap0 = 0) := by
    obtain ⟨fuel, hf⟩ := h0
    rcases open_ints Tryd.underlying22 Tryd.underlying5 (by kernel_rfl) hf with ⟨hcs, _⟩ | ⟨x, l, c, zs, hcs, _, hl, hm, hz, _, hcell, hwz⟩
    · simp [Value.cells] at hcs
      obtain ⟨rfl, rfl, rfl⟩ := hcs
      exact sl_of_row (zs := []) (.inl ⟨rfl, rfl, rfl, rfl⟩)
    · simp [Value.cells] at hcs
      obtain ⟨rfl, rfl, rfl⟩ := hcs
      exact sl_of_row (zs := zs) (.inr ⟨_, rfl, hl, hm, by simpa using hz, hcell, hwz⟩)
  obtain ⟨x1, rfl, rfl, rfl, hx1⟩ := open_int Tryd.underlying3 (hval 1 3 v1 rfl rfl) h1
  obtain ⟨x2, rfl, rfl, rfl, hx2⟩ := open_int Tryd.underlying3 (hval 2 3 v2 rfl rfl) h2
  clear hA0 hval0
  refine (LawGetRecords.walk a0 len0 cap0 l0 x1 x2 W (env hsh) s0 c0 z0).mono fun e W' ⟨he, bel⟩ => ?_
  subst he
  exact ⟨_, rfl, _, _, _, [], _, [], hW', trodAll_mk1 (shut_bool Tryd.underlying4 _), (trodAll_cons_mk (Below.trod laidOut (by kernel_rfl) (of_decide_eq_true (by kernel_rfl)) k0 bel lt0) (trodAll_cons_mk (shut_int Tryd.underlying3 hx1) (trodAll_cons_mk (shut_int Tryd.underlying3 hx2) trodAll_mk0))), rfl, bel.frame _, fun h => by cases h⟩

theorem reads (os : Os) {H : Type} (enc : TypeId × Value → H) : ∃ places, DataW.whole enc Tryd.prog ((laidWorld os).forCall (fun _ _ => 0) ⟨#[], #[.slice none 0 0, .int .i64 0, .int .i64 0], []⟩).memory Tryd.f8.params.toList Rows.fnExactGetRecordsSpec.vars false #[Value.slice none 0 0, Value.int .i64 0, Value.int .i64 0].toList 8 = some ([.nil, .lit (.int .i64 0), .lit (.int .i64 0)], [], places) :=
  ⟨[], by kernel_rfl⟩

set_option maxRecDepth 100000 in
theorem lifted (os : Os) (started : os.Started) (H : Type) (enc : TypeId × Value → H) (F : Stop.Interp) :
    ReturnsInHanded {} Tryd.checked os 8 .any ((OpenSpec.ofChange Rows.fnExactGetRecordsSpec).preRow enc Tryd.prog Tryd.f8 Rows.fnExactGetRecordsRow.domain false Rows.fnExactGetRecordsRow.laid) (((OpenSpec.ofChange Rows.fnExactGetRecordsSpec).at F).post enc Tryd.prog Tryd.f8 false true false false) := by
  obtain ⟨places, hx⟩ := reads os enc
  refine returnsInHanded_of_row (C := Tryd.checked) (s := OpenSpec.ofChange Rows.fnExactGetRecordsSpec) own started (by kernel_rfl) Tryd.func8
    (witness_row_at (enc := enc) (C := Tryd.checked) false (laidWorld os) #[.slice none 0 0, .int .i64 0, .int .i64 0] rfl (by kernel_rfl) (by kernel_rfl) (by kernel_rfl)
      (OpenSpec.preRow_of_cond 8 hx (by kernel_rfl) (fun k hk => by cases hk) (by kernel_rfl) (laid_met os _))) ?_
  intro W base args ds gs before hval hW _ _ _ _ hsh _
  exact contract H enc W base args ds gs before hval hW hsh

theorem said : Rows.FnExactGetRecordsSaid :=
  OpenClaim.holds_of_cond 8 Tryd.f8 rfl rfl rfl rfl rfl rfl rfl ⟨rfl, rfl, rfl, rfl, rfl⟩ rfl rfl rfl rfl rfl (by kernel_rfl) Tryd.func8 (by kernel_rfl)
    (of_decide_eq_true (by kernel_rfl)) (by unfold Func.isWrapper; first | (rw [if_pos (by decide +kernel)]; kernel_rfl) | (rw [if_neg (by decide +kernel)]; exact ⟨rfl, rfl⟩))
    (fun os started H enc _ F => by rw [OpenClaim.pre_eq_preRow]; exact lifted os started H enc F)

theorem plain (f : FuncId) (fn : Func) (hf : Tryd.pinned.checked.prog.funcNamed "loop.example/g00497/laws.FnExactGetRecords" = some f) (hfn : Tryd.pinned.checked.prog.funcs[f]? = some fn) :
    true = Tryd.pinned.checked.prog.looks [] ∧ ∀ (j : Nat) t, fn.params[j]? = some t → Tryd.pinned.checked.prog.wantsStandIn t = false := by
  obtain rfl : f = 8 := Option.some.inj ((show Tryd.prog.funcNamed "loop.example/g00497/laws.FnExactGetRecords" = some 8 by kernel_rfl).symm.trans hf) |>.symm
  obtain rfl : fn = Tryd.f8 := (Option.some.inj (Tryd.func8.symm.trans hfn)).symm
  refine ⟨by kernel_rfl, fun j t ht => ?_⟩
  rw [Tryd.params8] at ht
  have hm : t = 22 ∨ t = 3 := by simpa using Array.mem_of_getElem? ht
  rcases hm with rfl | rfl
  · exact (show Tryd.prog.wantsStandIn 22 = false by kernel_rfl)
  · exact (show Tryd.prog.wantsStandIn 3 = false by kernel_rfl)

theorem card : Rows.FnExactGetRecordsCardSaid :=
  Claim7.holds_tied_plain_at .later [] _ _ _ _ said (fun _ h => by cases h) (by kernel_rfl) (fun _ h => by cases h) fnExactGetRecords_row_tie rfl ⟨rfl, rfl⟩ (by kernel_rfl) rfl plain (by kernel_rfl)
end Go.Proofs.YtcpadkehalgddaaDoor.exactGetRecordsCard
namespace Go.Proofs.YtcpadkehalgddaaDoor
theorem fnExactGetRecords_holds : Rows.FnExactGetRecordsCardSaid := exactGetRecordsCard.card
end Go.Proofs.YtcpadkehalgddaaDoor
