/- What the law's own helpers markRecordS and heldRecordS do: every field of every record is overwritten by a mark of its own; and the marks are found. Condition: fewer than 2000001 records. -/
import Derived.Test.YtmkcjjgicinggaaGreatDoorMarkS
import Derived.Test.YtmkcjjgicinggaaGreatDoorMemR
import Derived.Test.YtmkcjjgicinggaaGreatDoorBoxR
namespace Go.Proofs.YtmkcjjgicinggaaGreatDoor.MarkR
open Go.RowKit Go.Proofs.YtmkcjjgicinggaaGreatDoor.Mem Go.Proofs.YtmkcjjgicinggaaGreatDoor.MemR Go.Proofs.YtmkcjjgicinggaaGreatDoor.MarkS Go.Proofs.YtmkcjjgicinggaaGreatDoor.BoxR

/-- The record of marks from u on. -/
def mr (u : Nat) : Rec := ⟨Mt u, (u : Int) + 1, (u : Int) + 1 + 1, (u : Int) + 1 + 1 + 1, Mt (u + 4), Mt (u + 5)⟩
/-- So many of them. -/
def mks (n : Nat) : List Rec := (List.range n).map (fun j => mr (1 + 6 * j))
theorem mks_len (n : Nat) : (mks n).length = n := by simp [mks]
theorem mks_at (n j : Nat) (h : j < (mks n).length) : (mks n)[j] = mr (1 + 6 * j) := by simp [mks]
theorem mks_snoc (n : Nat) : mks (n + 1) = mks n ++ [mr (1 + 6 * n)] := by simp [mks, List.range_succ]
theorem mid_at (l : List Rec) (j : Nat) (h : j < l.length) : ∃ h' : j < (mks j ++ l.drop j).length, (mks j ++ l.drop j)[j] = l[j] := by
  refine ⟨by rw [List.length_append, mks_len, List.length_drop]; omega, ?_⟩
  rw [List.getElem_append_right (by rw [mks_len]; omega), List.getElem_drop]
  congr 1
  rw [mks_len]
  omega
theorem mid_set (l : List Rec) (j : Nat) (h : j < l.length) : (mks j ++ l.drop j).set j (mr (1 + 6 * j)) = mks (j + 1) ++ l.drop (j + 1) := by
  rw [List.set_append_right _ _ (by rw [mks_len]; omega), mks_len, Nat.sub_self, List.drop_eq_getElem_cons h, List.set_cons_zero, mks_snoc, List.append_assoc]
  rfl
theorem mid_len (l : List Rec) (j : Nat) (h : j ≤ l.length) : (mks j ++ l.drop j).length = l.length := by
  rw [List.length_append, mks_len, List.length_drop]; omega
theorem set_left (X r : List Value) (i : Nat) (u : Value) (h : i < X.length) : (X ++ r).set i u = X.set i u ++ r := List.set_append_left _ _ h
theorem put_r (L : List Rec) (r : List Value) (k : Nat) (x : Rec) (h : k < L.length) :
    ((((((fl L ++ r).set (k * 6) (.string x.name)).set (k * 6 + 1) (.int .i64 x.ty)).set (k * 6 + 2) (.int .i64 x.ttl)).set (k * 6 + 3) (.int .i64 x.n)).set (k * 6 + 4) (.string x.host)).set (k * 6 + 5) (.string x.text) = fl (L.set k x) ++ r := by
  have hl := fl_len L
  rw [set_left _ _ _ _ (by omega), set_left _ _ _ _ (by simp; omega), set_left _ _ _ _ (by simp; omega), set_left _ _ _ _ (by simp; omega), set_left _ _ _ _ (by simp; omega), set_left _ _ _ _ (by simp; omega), fl_put L k x h]

set_option maxHeartbeats 4000000 in
theorem markRecordS_wide (g n c : Nat) (l : List Rec) (r : List Value) (w : World) (hb : Bk w g 93 (fl l ++ r)) (hl : l.length = n) (hn : n ≤ 1100000000000) :
    Calls Tryz.prog 101 #[.slice (some ⟨g, 0, none⟩) n c, .int .i64 1] w fun e w' => e = .returned (.int .i64 (1 + 6 * (n : Int))) ∧ Bk w' g 93 (fl (mks n) ++ r) ∧ w.grownBy w' (some g) := by
  have HB := Lib.hid hb
  have HL := Lib.hid hl
  clear hb hl
  go_enter Tryz.func101, Tryz.ntmps101
  go_wp2
  go_loopw [1, 5] (fun kk i wr => ∃ j u : Nat, j ≤ n ∧ i = .int .i64 j ∧ kk = .int .i64 (u : Int) ∧ Hid (u = 1 + 6 * j) ∧ Hid (Bk wr g 93 (fl (mks j ++ l.drop j) ++ r)) ∧ Hid (w.grownBy wr (some g))) (fun _ i _ => n - (intOf i).toNat)
  case atStart => exact ⟨0, 1, Nat.zero_le _, rfl, rfl, rfl, HB.out, World.grownBy.refl _ _⟩
  case round =>
    clear HB
    obtain ⟨j, u, hj, rfl, rfl, HU, HJ, HG⟩ := hrel
    have hu : u ≤ 6600000000001 := by have := HU.out; omega
    by_cases hlt : j < n
    · have hu0 : 0 < u := by have := HU.out; omega
      have hjl : j < l.length := by rw [HL.out]; exact hlt
      have HM := Lib.hid (mid_set l j hjl)
      have hML : j < (mks j ++ l.drop j).length := (mid_at l j hjl).1
      generalize mks j ++ l.drop j = M at *
      go_wp2_with fail
      refine (markText_wide u hu0 (by omega) wr).mono ?_
      rintro e w1 ⟨rfl, hl1⟩
      have B1 := Lib.hid (HJ.out.below hl1 HJ.out.lt)
      have G1 := Lib.hid (grown_trans HG.out (grown_of_below hl1 (some g)))
      clear hl1 HJ HG
      obtain ⟨z0, z1, z2, z3, z4, z5⟩ := bk_ce B1.out j hML
      have f0 := B1.out.free (j * 6)
      have f1 := B1.out.free (j * 6 + 1)
      have f2 := B1.out.free (j * 6 + 2)
      have f3 := B1.out.free (j * 6 + 3)
      have Z4 : Hid ((fl M ++ r)[j * 6 + 4]? = some (.string M[j].host)) := (B1.out.cell (j * 6 + 4)).symm.trans z4
      have Z5 : Hid ((fl M ++ r)[j * 6 + 5]? = some (.string M[j].text)) := (B1.out.cell (j * 6 + 5)).symm.trans z5
      clear z4 z5
      have B2 := Lib.hid ((((B1.out.set (j * 6) (.string (Mt u))).set (j * 6 + 1) (.int .i64 ((u : Int) + 1))).set (j * 6 + 2) (.int .i64 ((u : Int) + 1 + 1))).set (j * 6 + 3) (.int .i64 ((u : Int) + 1 + 1 + 1)))
      have G2 := Lib.hid (grown_set (grown_set (grown_set (grown_set G1.out (j * 6) (.string (Mt u))) (j * 6 + 1) (.int .i64 ((u : Int) + 1))) (j * 6 + 2) (.int .i64 ((u : Int) + 1 + 1))) (j * 6 + 3) (.int .i64 ((u : Int) + 1 + 1 + 1)))
      have e4 : (u : Int) + 1 + 1 + 1 + 1 = ((u + 4 : Nat) : Int) := by omega
      have E4 := Lib.hid e4
      clear e4
      go_wp2_with fail
      rw [E4.out]
      refine (markText_wide (u + 4) (by omega) (by omega) _).mono ?_
      rintro e w3 ⟨rfl, hl3⟩
      have B3 := Lib.hid (B2.out.below hl3 B2.out.lt)
      have G3 := Lib.hid (grown_trans G2.out (grown_of_below hl3 (some g)))
      clear hl3 B2 G2 z0 z1 z2 z3 f0 f1 f2 f3 B1 G1
      have z4 : w3.cell? ⟨g, j * 6 + 4, none⟩ = some (.string M[j].host) := by
        rw [B3.out.cell, List.getElem?_set_ne (by omega), List.getElem?_set_ne (by omega), List.getElem?_set_ne (by omega), List.getElem?_set_ne (by omega)]
        exact Z4.out
      have f4 := B3.out.free (j * 6 + 4)
      have B4 := Lib.hid (B3.out.set (j * 6 + 4) (.string (Mt (u + 4))))
      have G4 := Lib.hid (grown_set G3.out (j * 6 + 4) (.string (Mt (u + 4))))
      go_wp2_with fail
      have e5 : Hid ((u : Int) + 4 + 1 = ((u + 5 : Nat) : Int)) := show _ = _ by omega
      rw [e5.out]
      refine (markText_wide (u + 5) (by omega) (by omega) _).mono ?_
      rintro e w5 ⟨rfl, hl5⟩
      have B5 := Lib.hid (B4.out.below hl5 B4.out.lt)
      have G5 := Lib.hid (grown_trans G4.out (grown_of_below hl5 (some g)))
      clear hl5 B3 G3 B4 G4 z4 f4
      have z5 : w5.cell? ⟨g, j * 6 + 5, none⟩ = some (.string M[j].text) := by
        rw [B5.out.cell, List.getElem?_set_ne (by omega), List.getElem?_set_ne (by omega), List.getElem?_set_ne (by omega), List.getElem?_set_ne (by omega), List.getElem?_set_ne (by omega)]
        exact Z5.out
      have f5 := B5.out.free (j * 6 + 5)
      have B6 := Lib.hid (B5.out.set (j * 6 + 5) (.string (Mt (u + 5))))
      have G6 := Lib.hid (grown_set G5.out (j * 6 + 5) (.string (Mt (u + 5))))
      go_wp2
      go_roundw
      case rel =>
        refine ⟨j + 1, u + 6, by omega, by go_num, by go_num, show _ = _ by have := HU.out; omega, ?_, G6.out⟩
        show Bk _ _ _ _
        have h := B6.out
        have hp := put_r M r j (mr u) hML
        have hq : mr u = mr (1 + 6 * j) := by rw [HU.out]
        rw [hq, HM.out, ← hq] at hp
        have hx := hp.symm
        rw [hx]
        exact h
      case measure => simp [intOf]; omega
    · have hje : j = n := by omega
      subst hje
      go_wp2
      go_ret
      refine ⟨?_, ?_, HG.out⟩
      · rw [HU.out]
        push_cast
        rfl
      · have h := HJ.out
        rw [List.drop_eq_nil_of_le (by rw [HL.out]; exact Nat.le_refl _), List.append_nil] at h
        exact h

theorem mark_at (z : Int) (v : Nat) (hz : z = (v : Int)) (h0 : 0 < v) (h1 : v ≤ 7000000000000) (w : World) :
    Calls Tryz.prog 146 #[.int .i64 z] w fun e w' => e = .returned (.string (Mt v)) ∧ Below w.heap.size w w' := by
  subst hz
  exact markText_wide v h0 h1 w

set_option maxHeartbeats 4000000 in
theorem heldRecordS_wide (g n c : Nat) (r : List Value) (w : World) (hb : Bk w g 93 (fl (mks n) ++ r)) (hn : n ≤ 1100000000000) :
    Calls Tryz.prog 102 #[.slice (some ⟨g, 0, none⟩) n c, .int .i64 1] w fun e w' => e = .returned (.int .i64 (1 + 6 * (n : Int))) ∧ Below w.heap.size w w' := by
  have mixed : Tryz.prog.follows .mixedOrders = true := by kernel_rfl
  have HB := Lib.hid hb
  clear hb
  go_enter Tryz.func102, Tryz.ntmps102
  go_wp2
  go_loopw [1, 5] (fun kk i wr => ∃ j u : Nat, j ≤ n ∧ i = .int .i64 j ∧ kk = .int .i64 (u : Int) ∧ Hid (u = 1 + 6 * j) ∧ Hid (Below w.heap.size w wr)) (fun _ i _ => n - (intOf i).toNat)
  case atStart => exact ⟨0, 1, Nat.zero_le _, rfl, rfl, rfl, Below.refl _ _⟩
  case round =>
    obtain ⟨j, u, hj, rfl, rfl, HU, HG⟩ := hrel
    have hu : u ≤ 6600000000001 := by have := HU.out; omega
    by_cases hlt : j < n
    · have hu0 : 0 < u := by have := HU.out; omega
      have hjl : j < (mks n).length := by rw [mks_len]; exact hlt
      have C : Hid (Ce wr g (j * 6) (mr u)) := by
        have h := bk_ce (HB.out.below HG.out HB.out.lt) j hjl
        rw [mks_at n j hjl, ← HU.out] at h
        exact h
      have x0 : ∀ d os, (Sort.grow (redrawn wr d) os).cell? ⟨g, j * 6, none⟩ = some (.string (Mt u)) := cell_regrown C.out.1
      go_wp2_with fail
      refine wp_region_quiet_below (by assumption) (by kernel_rfl) ?_
      repeat (quiet_step (first | (go_at_call 146; exact in_class (fun W _ => markText_wide u hu0 (by omega) W))))
      refine wpQuiet_nil ?_
      intro w2 hw2
      have L2 := Lib.hid (of_class hw2)
      clear hw2 x0
      have C2 : Hid (Ce w2 g (j * 6) (mr u)) := C.out.below L2.out (Nat.lt_of_lt_of_le HB.out.lt HG.out.size)
      have G2 := Lib.hid (HG.out.trans (L2.out.mono HG.out.size))
      clear L2 C HG
      have z1 : w2.cell? ⟨g, j * 6 + 1, none⟩ = some (.int .i64 ((u : Int) + 1)) := C2.out.2.1
      have z2 : w2.cell? ⟨g, j * 6 + 2, none⟩ = some (.int .i64 ((u : Int) + 1 + 1)) := C2.out.2.2.1
      have z3 : w2.cell? ⟨g, j * 6 + 3, none⟩ = some (.int .i64 ((u : Int) + 1 + 1 + 1)) := C2.out.2.2.2.1
      have x4 : ∀ d os, (Sort.grow (redrawn w2 d) os).cell? ⟨g, j * 6 + 4, none⟩ = some (.string (Mt (u + 4))) := cell_regrown C2.out.2.2.2.2.1
      go_wp2_with fail
      refine wp_region_quiet_below (by assumption) (by kernel_rfl) ?_
      repeat (quiet_step (first | (go_at_call 146; exact in_class (fun W _ => mark_at _ (u + 4) (by omega) (by omega) (by omega) W))))
      refine wpQuiet_nil ?_
      intro w4 hw4
      have L4 := Lib.hid (of_class hw4)
      clear hw4 x4 z1 z2 z3
      have C4 : Hid (Ce w4 g (j * 6) (mr u)) := C2.out.below L4.out (Nat.lt_of_lt_of_le HB.out.lt G2.out.size)
      have G4 := Lib.hid (G2.out.trans (L4.out.mono G2.out.size))
      clear L4 C2 G2
      have x5 : ∀ d os, (Sort.grow (redrawn w4 d) os).cell? ⟨g, j * 6 + 5, none⟩ = some (.string (Mt (u + 5))) := cell_regrown C4.out.2.2.2.2.2
      go_wp2_with fail
      refine wp_region_quiet_below (by assumption) (by kernel_rfl) ?_
      repeat (quiet_step (first | (go_at_call 146; exact in_class (fun W _ => mark_at _ (u + 5) (by omega) (by omega) (by omega) W))))
      refine wpQuiet_nil ?_
      intro w6 hw6
      have L6 := Lib.hid (of_class hw6)
      clear hw6 x5
      have G6 := Lib.hid (G4.out.trans (L6.out.mono G4.out.size))
      clear L6 C4 G4
      go_wp2
      go_roundw
      case rel => exact ⟨j + 1, u + 6, by omega, by go_num, by go_num, show _ = _ by have := HU.out; omega, G6.out⟩
      case measure => simp [intOf]; omega
    · have hje : j = n := by omega
      subst hje
      go_wp2
      go_ret
      refine ⟨?_, HG.out⟩
      rw [HU.out]
      push_cast
      rfl

theorem markRecordS_one (g n c : Nat) (l : List Rec) (r : List Value) (w : World) (hb : Bk w g 93 (fl l ++ r)) (hl : l.length = n) (hn : n ≤ 2000000) :
    Calls Tryz.prog 101 #[.slice (some ⟨g, 0, none⟩) n c, .int .i64 1] w fun e w' => e = .returned (.int .i64 (1 + 6 * (n : Int))) ∧ Bk w' g 93 (fl (mks n) ++ r) ∧ w.grownBy w' (some g) :=
  markRecordS_wide g n c l r w hb hl (by omega)

theorem heldRecordS_one (g n c : Nat) (r : List Value) (w : World) (hb : Bk w g 93 (fl (mks n) ++ r)) (hn : n ≤ 2000000) :
    Calls Tryz.prog 102 #[.slice (some ⟨g, 0, none⟩) n c, .int .i64 1] w fun e w' => e = .returned (.int .i64 (1 + 6 * (n : Int))) ∧ Below w.heap.size w w' :=
  heldRecordS_wide g n c r w hb (by omega)
end Go.Proofs.YtmkcjjgicinggaaGreatDoor.MarkR
