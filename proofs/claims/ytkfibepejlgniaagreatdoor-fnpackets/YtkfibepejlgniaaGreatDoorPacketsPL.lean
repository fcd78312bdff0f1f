/- The law FnPackets returns true at every slice of bytes, where the library's variable internal/bytealg.MaxLen holds an int, and turns nothing that was there: a message that fits is read from its own bytes, and from no byte more or less. -/
import Derived.Test.YtkfibepejlgniaaGreatDoorMem
import Derived.Deep.QuietTactic
import Derived.BigQuiet
import Derived.Test.YtkfibepejlgniaaGreatDoorLabels
import Derived.LaidLaws
import Derived.Test.YtkfibepejlgniaaGreatDoorPacketsP2
import Derived.Test.YtkfibepejlgniaaGreatDoorPacketsP3
import Derived.Test.YtkfibepejlgniaaGreatDoorPacketsP1
import Derived.Test.YtkfibepejlgniaaGreatDoorCopy
import Derived.Deep.RegionHeld3
/- What the law's own helpers eqByteS, markByteS and heldByteS do on slices of bytes. Condition: fewer than 400000001 bytes. -/
namespace Go.Proofs.YtkfibepejlgniaaGreatDoor.Eq
open Go.RowKit Go.Proofs.YtkfibepejlgniaaGreatDoor.Mem

theorem cast_ne {a b : UInt8} (h : a ≠ b) : ((a.toNat : Int) != (b.toNat : Int)) = true := by
  rw [bne_iff_ne]; intro e; exact h (UInt8.toNat_inj.1 (by omega))
theorem cast_eq {a b : UInt8} (h : a = b) : ((a.toNat : Int) != (b.toNat : Int)) = false := by subst h; simp

/-- Two lists that agree as far as k, and part at k. -/
theorem ne_at {l m : List UInt8} {k : Nat} (h : k < l.length) (h' : k < m.length) (hne : l[k] ≠ m[k]) : (l == m) = false := by
  rw [beq_eq_false_iff_ne]; rintro rfl; exact hne rfl
theorem eq_all {l m : List UInt8} (hl : l.length = m.length) (h : l.take l.length = m.take l.length) : (l == m) = true := by
  rw [List.take_length, hl, List.take_length] at h; simp [h]
theorem take_step {l m : List UInt8} {k : Nat} (hk : k < l.length) (hk' : k < m.length) (h : l.take k = m.take k) (he : l[k] = m[k]) : l.take (k + 1) = m.take (k + 1) := by
  rw [List.take_succ_eq_append_getElem hk, List.take_succ_eq_append_getElem hk', h, he]

set_option maxHeartbeats 1000000 in
theorem eqByteS_any (A A' : Option Addr) (n c n' c' : Nat) (l m : List UInt8) (w : World) (B : Nat) (hs : Sl w B A n l) (hs' : Sl w B A' n' m) (hn : n ≤ 400000000) (hn' : n' ≤ 400000000) :
    Calls Tryz.prog 45 #[.slice A n c, .slice A' n' c'] w fun e w' => e = .returned (.bool (l == m)) ∧ ∃ k, w' = w.drewN k := by
  have HL := Lib.hid hs.1
  have HM := Lib.hid hs'.1
  by_cases hnn : n = n'
  · subst hnn
    have hd : ((n : Int) != (n : Int)) = false := by simp
    go_enter Tryz.func45, Tryz.ntmps45
    go_wp2
    go_loopw [5] (fun i wr => ∃ k : Nat, k ≤ n ∧ i = .int .i64 k ∧ Hid (l.take k = m.take k) ∧ Hid (∃ q, wr = w.drewN q)) (fun i _ => n - (intOf i).toNat)
    case atStart => exact ⟨0, Nat.zero_le _, rfl, rfl, ⟨0, rfl⟩⟩
    case round =>
      obtain ⟨k, hk, rfl, HT, HW⟩ := hrel
      obtain ⟨q, rfl⟩ := HW.out
      clear HW
      by_cases hlt : k < n
      · obtain ⟨b, off, rfl, hbB, hcs⟩ := hs.2 (by omega)
        obtain ⟨b', off', rfl, hbB', hcs'⟩ := hs'.2 (by omega)
        have hkl : k < l.length := by rw [HL.out]; exact hlt
        have hkm : k < m.length := by rw [HM.out]; exact hlt
        have hx : w.cell? ⟨b, off + k, none⟩ = some (.int .u8 (l[k].toNat : Int)) := hcs k hkl
        have hy : w.cell? ⟨b', off' + k, none⟩ = some (.int .u8 (m[k].toNat : Int)) := hcs' k hkm
        clear hcs hcs' hs hs'
        by_cases he : l[k] = m[k]
        · have hbb := cast_eq he
          have HE := Lib.hid he
          clear he
          go_wp2
          go_quiet (fail)
          go_wp2
          go_roundw
          case rel => exact ⟨k + 1, by omega, by go_num, take_step hkl hkm HT.out HE.out, ⟨_, rfl⟩⟩
          case measure => simp [intOf]; omega
        · have hbb := cast_ne he
          have HE := Lib.hid he
          clear he
          go_wp2
          go_quiet (fail)
          go_wp2
          go_ret
          exact ⟨by rw [ne_at hkl hkm HE.out]; rfl, ⟨q + nq, World.drewN_drewN _ _ _⟩⟩
      · go_wp2
        go_ret
        have hk2 : k = l.length := by rw [HL.out]; omega
        refine ⟨?_, ⟨_, rfl⟩⟩
        rw [eq_all (by rw [HL.out, HM.out]) (by rw [← hk2]; exact HT.out)]
        rfl
  · have hd : ((n : Int) != (n' : Int)) = true := by rw [bne_iff_ne]; omega
    go_enter Tryz.func45, Tryz.ntmps45
    go_wp2
    go_ret
    refine ⟨?_, ⟨0, rfl⟩⟩
    have : (l == m) = false := by
      rw [beq_eq_false_iff_ne]; rintro rfl; exact hnn (HL.out.symm.trans HM.out)
    rw [this]
    rfl

/-- Two slices that read alike are found equal. -/
theorem eqByteS_same (A A' : Option Addr) (n c n' c' : Nat) (l : List UInt8) (w : World) (hs : Sl w w.heap.size A n l) (hs' : Sl w w.heap.size A' n' l) (hn : n ≤ 400000000) (hn' : n' ≤ 400000000) :
    Calls Tryz.prog 45 #[.slice A n c, .slice A' n' c'] w fun e w' => e = .returned (.bool true) ∧ Below w.heap.size w w' := by
  refine (eqByteS_any A A' n c n' c' l l w _ hs hs' hn hn').mono fun e w' ⟨he, k, hw⟩ => ?_
  subst hw
  exact ⟨by rw [he]; simp, drewN_below _ _ _⟩

/-- The numbers that markByteS lays: k, k + 1 and so on, as bytes. -/
def marks : Nat → Nat → List Value
  | _, 0 => []
  | k, n + 1 => Value.int .u8 ((k : Int) % 256) :: marks (k + 1) n
theorem marks_length (k n : Nat) : (marks k n).length = n := by
  induction n generalizing k with
  | zero => rfl
  | succ n ih => simp [marks, ih]
theorem marks_at (k n j : Nat) (h : j < n) : (marks k n)[j]? = some (Value.int .u8 (((k : Int) + (j : Int)) % 256)) := by
  induction n generalizing k j with
  | zero => omega
  | succ n ih =>
    cases j with
    | zero => simp [marks]
    | succ j => simp only [marks, List.getElem?_cons_succ]; rw [ih (k + 1) j (by omega)]; rw [show ((k + 1 : Nat) : Int) + (j : Int) = (k : Int) + ((j + 1 : Nat) : Int) by omega]
theorem marks_snoc (k n : Nat) : marks k (n + 1) = marks k n ++ [Value.int .u8 (((k : Int) + (n : Int)) % 256)] := by
  induction n generalizing k with
  | zero => simp [marks]
  | succ n ih => rw [marks, ih (k + 1), marks, List.cons_append, show ((k + 1 : Nat) : Int) + (n : Int) = (k : Int) + ((n + 1 : Nat) : Int) by omega]

theorem mark_step (cs : List Value) (k j n : Nat) (hj : j < n) (hn : n ≤ cs.length) :
    (marks k j ++ cs.drop j).set j (Value.int .u8 (((k : Int) + (j : Int)) % 256)) = marks k (j + 1) ++ cs.drop (j + 1) := by
  rw [List.set_append_right _ _ (by rw [marks_length]; omega), marks_length, Nat.sub_self, List.drop_eq_getElem_cons (by omega), List.set_cons_zero, marks_snoc, List.append_assoc]
  rfl
theorem mark_at (cs : List Value) (k j : Nat) (hj : j < cs.length) : (marks k j ++ cs.drop j)[j]? = some cs[j] := by
  rw [List.getElem?_append_right (by rw [marks_length]; omega), marks_length, Nat.sub_self, List.drop_eq_getElem_cons hj]
  rfl

theorem grown_set {w wr : World} {g : Nat} (h : w.grownBy wr (some g)) (j : Nat) (u : Value) : w.grownBy (wr.setCell ⟨g, j, none⟩ u) (some g) :=
  ⟨h.os, h.tape, h.output, by simpa [World.setCell] using h.size, fun k hk hne => by
    rw [Below.heap_setCell _ _ _ _ (fun e => hne (by simp [e]))]; exact h.block k hk hne⟩

set_option maxHeartbeats 1000000 in
/-- markByteS on a block of the call's own: n of its cells are written. -/
theorem markByteS_any (g n c k0 : Nat) (cs : List Value) (w : World) (hb : Bk w g 5 cs) (hint : ∀ j, j < n → ∃ x : Int, cs[j]? = some (.int .u8 x)) (hl : n ≤ cs.length) (hn : n ≤ 400000000) (hk0 : k0 ≤ 400000000) :
    Calls Tryz.prog 48 #[.slice (some ⟨g, 0, none⟩) n c, .int .i64 (k0 : Int)] w fun e w' => e = .returned (.int .i64 ((k0 + n : Nat) : Int)) ∧ Bk w' g 5 (marks k0 n ++ cs.drop n) ∧ w.grownBy w' (some g) := by
  have HB := Lib.hid hb
  clear hb
  go_enter Tryz.func48, Tryz.ntmps48
  go_wp2
  go_loopw [1, 5] (fun kk i wr => ∃ j : Nat, j ≤ n ∧ i = .int .i64 j ∧ kk = .int .i64 ((k0 + j : Nat) : Int) ∧ Hid (Bk wr g 5 (marks k0 j ++ cs.drop j)) ∧ Hid (w.grownBy wr (some g))) (fun _ i _ => n - (intOf i).toNat)
  case atStart => exact ⟨0, Nat.zero_le _, rfl, rfl, HB.out, World.grownBy.refl _ _⟩
  case round =>
    obtain ⟨j, hj, rfl, rfl, HJ, HG⟩ := hrel
    by_cases hlt : j < n
    · obtain ⟨x, hxx⟩ := hint j hlt
      have hx : wr.cell? ⟨g, j, none⟩ = some (.int .u8 x) := by
        rw [HJ.out.cell, mark_at cs k0 j (by omega), ← hxx, List.getElem?_eq_getElem (by omega)]
      have hf : wr.frozen? ⟨g, j, none⟩ = false := HJ.out.free j
      clear hxx
      go_wp2
      go_roundw
      case rel =>
        refine ⟨j + 1, by omega, by go_num, by go_num, ?_, grown_set HG.out _ _⟩
        have := HJ.out.set j (.int .u8 (((k0 : Int) + (j : Int)) % 256))
        rw [mark_step cs k0 j n hlt hl] at this
        exact this
      case measure => simp [intOf]; omega
    · have hjn : j = n := by omega
      subst hjn
      go_wp2
      go_ret
      exact ⟨by go_num, HJ.out, HG.out⟩

theorem byte_ne_self (x : Int) : (x != x) = false := by simp

set_option maxHeartbeats 1000000 in
/-- heldByteS on a block that holds the marks. -/
theorem heldByteS_any (g n c k0 : Nat) (r : List Value) (w : World) (hb : Bk w g 5 (marks k0 n ++ r)) (hn : n ≤ 400000000) (hk0 : k0 ≤ 400000000) :
    Calls Tryz.prog 49 #[.slice (some ⟨g, 0, none⟩) n c, .int .i64 (k0 : Int)] w fun e w' => e = .returned (.int .i64 ((k0 + n : Nat) : Int)) ∧ w = w' := by
  have HB := Lib.hid hb
  clear hb
  go_enter Tryz.func49, Tryz.ntmps49
  go_wp2
  go_loop [1, 5] (fun kk i => ∃ j : Nat, j ≤ n ∧ i = .int .i64 j ∧ kk = .int .i64 ((k0 + j : Nat) : Int)) (fun _ i => n - (intOf i).toNat)
  case atStart => exact ⟨0, Nat.zero_le _, rfl, rfl⟩
  case round =>
    obtain ⟨j, hj, rfl, rfl⟩ := hrel
    by_cases hlt : j < n
    · have hx : w.cell? ⟨g, j, none⟩ = some (Value.int .u8 (((k0 : Int) + (j : Int)) % 256)) := by
        rw [HB.out.cell, List.getElem?_append_left (by rw [marks_length]; exact hlt), marks_at k0 n j hlt]
      have hne := byte_ne_self (((k0 : Int) + (j : Int)) % 256)
      go_wp2
      go_round
      case rel => exact ⟨j + 1, by omega, by go_num, by go_num⟩
      case measure => simp [intOf]; omega
    · have hjn : j = n := by omega
      subst hjn
      go_wp2
      go_ret
      exact ⟨by go_num, rfl⟩

/-- The law marks from 1 on. -/
theorem markByteS_one (g n c : Nat) (l : List UInt8) (r : List Value) (w : World) (hb : Bk w g 5 (l.map bv ++ r)) (hl : l.length = n) (hn : n ≤ 400000000) :
    Calls Tryz.prog 48 #[.slice (some ⟨g, 0, none⟩) n c, .int .i64 1] w fun e w' => e = .returned (.int .i64 (1 + (n : Int))) ∧ Bk w' g 5 (marks 1 n ++ r) ∧ w.grownBy w' (some g) := by
  refine (markByteS_any g n c 1 (l.map bv ++ r) w hb (fun j hj => ⟨((l[j]'(by omega)).toNat : Int), ?_⟩) (by simp; omega) hn (by omega)).mono fun e w' ⟨he, h1, h2⟩ => ⟨?_, ?_, h2⟩
  · rw [List.getElem?_append_left (by simp; omega), List.getElem?_map, List.getElem?_eq_getElem (by omega)]
    rfl
  · rw [he]; simp
  · rw [List.drop_append_of_le_length (by simp; omega), List.drop_eq_nil_of_le (by simp; omega), List.nil_append] at h1
    exact h1
theorem heldByteS_one (g n c : Nat) (r : List Value) (w : World) (hb : Bk w g 5 (marks 1 n ++ r)) (hn : n ≤ 400000000) :
    Calls Tryz.prog 49 #[.slice (some ⟨g, 0, none⟩) n c, .int .i64 1] w fun e w' => e = .returned (.int .i64 (1 + (n : Int))) ∧ w = w' :=
  (heldByteS_any g n c 1 r w hb hn (by omega)).mono fun e w' ⟨he, h1⟩ => ⟨by rw [he]; simp, h1⟩

end Go.Proofs.YtkfibepejlgniaaGreatDoor.Eq

/- What the laws' own comparison of two slices of bytes does. Condition: fewer than 400000001 bytes. -/
namespace Go.Proofs.YtkfibepejlgniaaGreatDoor.Same
open Go.RowKit Go.Proofs.YtkfibepejlgniaaGreatDoor.Mem Go.Proofs.YtkfibepejlgniaaGreatDoor.Eq

set_option maxHeartbeats 1000000 in
theorem same_any (A A' : Option Addr) (n c n' c' : Nat) (l m : List UInt8) (w : World) (B : Nat) (hs : Sl w B A n l) (hs' : Sl w B A' n' m) (hn : n ≤ 400000000) (hn' : n' ≤ 400000000) :
    Calls Tryz.prog 28 #[.slice A n c, .slice A' n' c'] w fun e w' => e = .returned (.bool (l == m)) ∧ ∃ k, w' = w.drewN k := by
  have HL := Lib.hid hs.1
  have HM := Lib.hid hs'.1
  by_cases hnn : n = n'
  · subst hnn
    have hd : ((n : Int) != (n : Int)) = false := by simp
    go_enter Tryz.func28, Tryz.ntmps28
    go_wp2
    go_loopw [5] (fun i wr => ∃ k : Nat, k ≤ n ∧ i = .int .i64 k ∧ Hid (l.take k = m.take k) ∧ Hid (∃ q, wr = w.drewN q)) (fun i _ => n - (intOf i).toNat)
    case atStart => exact ⟨0, Nat.zero_le _, rfl, rfl, ⟨0, rfl⟩⟩
    case round =>
      obtain ⟨k, hk, rfl, HT, HW⟩ := hrel
      obtain ⟨q, rfl⟩ := HW.out
      clear HW
      by_cases hlt : k < n
      · obtain ⟨b, off, rfl, hbB, hcs⟩ := hs.2 (by omega)
        obtain ⟨b', off', rfl, hbB', hcs'⟩ := hs'.2 (by omega)
        have hkl : k < l.length := by rw [HL.out]; exact hlt
        have hkm : k < m.length := by rw [HM.out]; exact hlt
        have hx : w.cell? ⟨b, off + k, none⟩ = some (.int .u8 (l[k].toNat : Int)) := hcs k hkl
        have hy : w.cell? ⟨b', off' + k, none⟩ = some (.int .u8 (m[k].toNat : Int)) := hcs' k hkm
        clear hcs hcs' hs hs'
        by_cases he : l[k] = m[k]
        · have hbb := cast_eq he
          have HE := Lib.hid he
          clear he
          go_wp2
          go_quiet (fail)
          go_wp2
          go_roundw
          case rel => exact ⟨k + 1, by omega, by go_num, take_step hkl hkm HT.out HE.out, ⟨_, rfl⟩⟩
          case measure => simp [intOf]; omega
        · have hbb := cast_ne he
          have HE := Lib.hid he
          clear he
          go_wp2
          go_quiet (fail)
          go_wp2
          go_ret
          exact ⟨by rw [ne_at hkl hkm HE.out]; rfl, ⟨q + nq, World.drewN_drewN _ _ _⟩⟩
      · go_wp2
        go_ret
        have hk2 : k = l.length := by rw [HL.out]; omega
        refine ⟨?_, ⟨_, rfl⟩⟩
        rw [eq_all (by rw [HL.out, HM.out]) (by rw [← hk2]; exact HT.out)]
        rfl
  · have hd : ((n : Int) != (n' : Int)) = true := by rw [bne_iff_ne]; omega
    go_enter Tryz.func28, Tryz.ntmps28
    go_wp2
    go_ret
    refine ⟨?_, ⟨0, rfl⟩⟩
    have : (l == m) = false := by
      rw [beq_eq_false_iff_ne]; rintro rfl; exact hnn (HL.out.symm.trans HM.out)
    rw [this]
    rfl

/-- Two slices that read alike are found equal. -/
theorem same_same (A A' : Option Addr) (n c n' c' : Nat) (l : List UInt8) (w : World) (hs : Sl w w.heap.size A n l) (hs' : Sl w w.heap.size A' n' l) (hn : n ≤ 400000000) (hn' : n' ≤ 400000000) :
    Calls Tryz.prog 28 #[.slice A n c, .slice A' n' c'] w fun e w' => e = .returned (.bool true) ∧ Below w.heap.size w w' := by
  refine (same_any A A' n c n' c' l l w _ hs hs' hn hn').mono fun e w' ⟨he, k, hw⟩ => ?_
  subst hw
  exact ⟨by rw [he]; simp, drewN_below _ _ _⟩

theorem big_no (A : Option Addr) (n c : Nat) (w : World) (h : n ≤ 1048576) : Calls Tryz.prog 10 #[.slice A n c] w fun e w' => e = .returned (.bool false) ∧ w = w' := by
  have hd : decide ((1048576 : Int) < (n : Int)) = false := by simp; omega
  go_enter Tryz.func10, Tryz.ntmps10
  go_wp2
  go_ret
  exact ⟨rfl, rfl⟩
theorem big_yes (A : Option Addr) (n c : Nat) (w : World) (h : ¬ n ≤ 1048576) : Calls Tryz.prog 10 #[.slice A n c] w fun e w' => e = .returned (.bool true) ∧ w = w' := by
  have hd : decide ((1048576 : Int) < (n : Int)) = true := by simp; omega
  go_enter Tryz.func10, Tryz.ntmps10
  go_wp2
  go_ret
  exact ⟨rfl, rfl⟩
end Go.Proofs.YtkfibepejlgniaaGreatDoor.Same

/- What the world's shape gives the walks of this seat, and one world in which the listed tables of unicode/utf8 read as their text lays them. -/
namespace Go.Proofs.YtkfibepejlgniaaGreatDoor.LaidU
open Go.RowKit Go.Proofs.YtkfibepejlgniaaGreatDoor.Labels

theorem env {W : World} (h : W.ShapedOpen Tryz.prog) : Env W := Tryz.laysM146.s1_3 W h

def acc : List Int := [128, 191, 160, 191, 128, 159, 144, 191, 128, 143, 0, 0, 0, 0, 0, 0, 0, 0, 0, 0, 0, 0, 0, 0, 0, 0, 0, 0, 0, 0, 0, 0]
theorem gFirst : Tryz.prog.globalNamed "unicode/utf8.first" = some 4 := by kernel_rfl
theorem gAcc : Tryz.prog.globalNamed "unicode/utf8.acceptRanges" = some 5 := by kernel_rfl
/-- A block of cells, with other cells in it. -/
def put (cs : Array Value) : Obj → Obj
  | .cells _ t frozen => .cells cs t frozen
  | o => o
/-- The settled world, the two tables holding what their text lays. -/
noncomputable def laidWorld (os : Os) : World :=
  { World.holding Tryz.prog os ⟨#[], #[], []⟩ with heap := ((World.holding Tryz.prog os ⟨#[], #[], []⟩).heap.modify 4 (put (Go.Pinned.utf8FirstZ.map (fun n : Nat => Value.int .u8 (n : Int))).toArray)).modify 5 (put (acc.map (Value.int .u8)).toArray) }
def two : List (String × DataW Unit) := [("unicode/utf8.acceptRanges", Rows.laid_unicode_utf8_acceptRanges), ("unicode/utf8.first", Rows.laid_unicode_utf8_first)]
theorem laid_met (os : Os) (args : Array Value) : laidMet Tryz.prog two ((laidWorld os).forCall (fun _ _ => 0) ⟨#[], args, []⟩).memory :=
  laidMet_of_run' 8 (by kernel_rfl) (by kernel_rfl)
end Go.Proofs.YtkfibepejlgniaaGreatDoor.LaidU

/- The law FnPackets returns true at every slice of bytes, where the library's variable internal/bytealg.MaxLen holds an int, and turns nothing that was there: a message that fits is read from its own bytes, and from no byte more or less. -/
namespace Go.Proofs.YtkfibepejlgniaaGreatDoor.LawPackets
open Go.RowKit Go.Proofs.YtkfibepejlgniaaGreatDoor.Mem Go.Proofs.YtkfibepejlgniaaGreatDoor.MemR Go.Proofs.YtkfibepejlgniaaGreatDoor.BoxR Go.Proofs.YtkfibepejlgniaaGreatDoor.Labels Go.Proofs.YtkfibepejlgniaaGreatDoor.MemM Go.Proofs.YtkfibepejlgniaaGreatDoor.ResM Go.Proofs.YtkfibepejlgniaaGreatDoor.App Go.Proofs.YtkfibepejlgniaaGreatDoor.HeadDef Go.Proofs.YtkfibepejlgniaaGreatDoor.HeadRd Go.Proofs.YtkfibepejlgniaaGreatDoor.HeadMath Go.Proofs.YtkfibepejlgniaaGreatDoor.HeadS Go.Proofs.YtkfibepejlgniaaGreatDoor.PutM Go.Proofs.YtkfibepejlgniaaGreatDoor.MsgMath Go.Proofs.YtkfibepejlgniaaGreatDoor.MsgBack Go.Proofs.YtkfibepejlgniaaGreatDoor.GetH Go.Proofs.YtkfibepejlgniaaGreatDoor.GetHI Go.Proofs.YtkfibepejlgniaaGreatDoor.GetMS Go.Proofs.YtkfibepejlgniaaGreatDoor.GetM Go.Proofs.YtkfibepejlgniaaGreatDoor.Same Go.Proofs.YtkfibepejlgniaaGreatDoor.SamM Go.Proofs.YtkfibepejlgniaaGreatDoor.DrawR Go.Proofs.YtkfibepejlgniaaGreatDoor.DrawV Go.Proofs.YtkfibepejlgniaaGreatDoor.OkM

theorem med_of {l : List Rec} (h : ∀ r ∈ l, Sml r) : Meds l := fun r hr => by
  obtain ⟨a, b, c⟩ := h r hr
  exact ⟨by omega, by omega, by omega⟩
theorem smm_self (h : Hd) (l1 l2 l3 : List Rec) : smm h h l1 l2 l3 l1 l2 l3 = true := by
  have key : ∀ l : List Rec, SameR.sm l l = true := fun l => SameR.sm_true rfl
  rw [smm_r, key, key, key]; rfl
theorem take_sl {W : World} {g m : Nat} {l : List UInt8} {r : List Value} (hb : Bk W g 5 (l.map bv ++ r)) (hm : l.length = m) : Sl W W.heap.size (some ⟨g, 0, none⟩) (m - 1) (l.take (m - 1)) := by
  have e : l.map bv ++ r = (l.take (m - 1)).map bv ++ ((l.drop (m - 1)).map bv ++ r) := by rw [← List.append_assoc, ← List.map_append, List.take_append_drop]
  rw [e] at hb
  exact sl_of hb (by rw [List.length_take]; omega)
/-- What is known of a message that fits: it is read from its bytes. -/
theorem fits {h : Hd} {l1 l2 l3 : List Rec} (e : 0 < (pm h l1 l2 l3).length) : gmb (pm h l1 l2 l3) = true ∧ gmh (pm h l1 l2 l3) = h ∧ (s1 (pm h l1 l2 l3)).2.2 = l1 ∧ (s2 (pm h l1 l2 l3)).2.2 = l2 ∧ (s3 (pm h l1 l2 l3)).2.2 = l3 ∧ ghh (pm h l1 l2 l3) = wq h ⟨#[]⟩ 0 ∧ ghn (pm h l1 l2 l3) 6 = (l1.length : Int) ∧ ghn (pm h l1 l2 l3) 8 = (l2.length : Int) ∧ ghn (pm h l1 l2 l3) 10 = (l3.length : Int) ∧ ghb (pm h l1 l2 l3) = true ∧ gmb (pm h l1 l2 l3 ++ [0]) = false ∧ gmb ((pm h l1 l2 l3).take ((pm h l1 l2 l3).length - 1)) = false := by
  cases hm : mok h l1 l2 l3
  · rw [pm_bad hm] at e; cases e
  · by_cases hl : 512 < (pmr h l1 l2 l3).length
    · rw [pm_long hm hl] at e; cases e
    · rw [pm_good hm hl] at e ⊢
      obtain ⟨rd, a1, a2, a3, a4, a5, a6, a7, a8⟩ := back hm
      exact ⟨decide_eq_true ⟨by omega, rd⟩, a1, a2, a3, a4, a5, a6, a7, a8, rd.1, no_more 0 rd, no_less rd e⟩

set_option maxRecDepth 100000 in
set_option maxHeartbeats 32000000 in
theorem walk (A : Option Addr) (n c : Nat) (l : List UInt8) (w : World) (he : Env w) (hs : Sl w w.heap.size A n l) (_hc : n ≤ c) (_hnil : A = none → n = 0 ∧ c = 0) :
    Calls Tryz.prog 4 #[.slice A n c] w fun e w' => e = .returned (.bool true) ∧ Below w.heap.size w w' := by
  by_cases hbig : n ≤ 1048576
  case neg =>
    go_enter Tryz.func4, Tryz.ntmps4
    go_wp2_with fail
    refine (big_yes A n c w hbig).mono ?_
    rintro e w1 ⟨rfl, rfl⟩
    go_wp2
    go_ret
    exact ⟨rfl, Below.refl _ _⟩
  obtain ⟨i0, hi, hz0, hz1, hz2⟩ := info_parts Copy.info
  have HE := Lib.hid he
  have HS := Lib.hid hs
  clear hs he
  go_enter Tryz.func4, Tryz.ntmps4
  go_wp2_with fail
  refine (big_no A n c w hbig).mono ?_
  rintro e w0 ⟨rfl, rfl⟩
  go_wp2_with fail
  refine (drawPutMsg_any A n c l w HS.out hbig).mono ?_
  rintro e w1 ⟨h, A1, n1, c1, l1, A2, n2, c2, l2, A3, n3, c3, l3, rfl, hq, ⟨t1, b1, r1⟩, ⟨t2, b2, r2⟩, ⟨t3, b3, r3⟩, hl⟩
  have L1 := Lib.hid hl
  have S1_1 := Lib.hid t1
  have S2_1 := Lib.hid t2
  have S3_1 := Lib.hid t3
  have D1 := Lib.hid (med_of r1)
  have D2 := Lib.hid (med_of r2)
  have D3 := Lib.hid (med_of r3)
  have B1 := Lib.hid t1.1
  have B2 := Lib.hid t2.1
  have B3 := Lib.hid t3.1
  have KL := pm_len h l1 l2 l3
  have FT := Lib.hid (fun e => fits (h := h) (l1 := l1) (l2 := l2) (l3 := l3) e)
  have FF : Hid (fit h l1 l2 l3 = decide (0 < (pm h l1 l2 l3).length)) := rfl
  have SS : Hid (smm h h l1 l2 l3 l1 l2 l3 = true) := smm_self h l1 l2 l3
  clear t1 t2 t3 r1 r2 r3 hl HS
  have al : Below w1.heap.size w1 (w1.alloc (.cells #[.int .i64 h.id, .bool h.rp, .bool h.au, .bool h.ct, .bool h.wa, .bool h.ca, .int .i64 h.code, .string h.qn, .int .i64 h.qt, .slice A1 n1 c1, .slice A2 n2 c2, .slice A3 n3 c3] 28)) := (Below.refl _ _).alloc (Nat.le_refl _) _
  have X2 := Lib.hid (mx_new w1 28 h (.slice A1 n1 c1) (.slice A2 n2 c2) (.slice A3 n3 c3))
  have L2 := Lib.hid (L1.out.trans (al.mono L1.out.size))
  have S1_2 := Lib.hid (S1_1.out.on al)
  have S2_2 := Lib.hid (S2_1.out.on al)
  have S3_2 := Lib.hid (S3_1.out.on al)
  clear al L1 S1_1 S2_1 S3_1
  obtain ⟨x0_0, x0_1, x0_2, x0_3, x0_4, x0_5, x0_6, x0_7, x0_8, x0_9, x0_10, x0_11⟩ := X2.out
  go_wp2_with fail
  refine (PutM.impl h A1 n1 c1 l1 A2 n2 c2 l2 A3 n3 c3 l3 _ (HE.out.below L2.out) (by omega) S1_2.out (by omega) D1.out S2_2.out (by omega) D2.out S3_2.out (by omega) D3.out).mono ?_
  rintro e w3 ⟨g, m, d, r, rfl, hm, hd, hg, hb, hl⟩
  have MK := Lib.hid hm
  have G_3 := Lib.hid hb
  have KL2 : m ≤ 512 := by omega
  have L3 := Lib.hid (L2.out.trans (hl.mono L2.out.size))
  have S1_3 := Lib.hid (S1_2.out.on hl)
  have S2_3 := Lib.hid (S2_2.out.on hl)
  have S3_3 := Lib.hid (S3_2.out.on hl)
  have X3 := Lib.hid (X2.out.below hl)
  clear hl L2 S1_2 S2_2 S3_2 X2
  clear hm hg hb KL x0_0 x0_1 x0_2 x0_3 x0_4 x0_5 x0_6 x0_7 x0_8 x0_9 x0_10 x0_11
  generalize w1.heap.size = gx at *
  have CP : Hid (∀ W : World, Sv w3 W → Calls Tryz.prog 29 #[.agg #[.int .i64 h.id, .bool h.rp, .bool h.au, .bool h.ct, .bool h.wa, .bool h.ca, .int .i64 h.code, .string h.qn, .int .i64 h.qt, .slice A1 n1 c1, .slice A2 n2 c2, .slice A3 n3 c3]] W (GO (pm h l1 l2 l3) W)) := fun W hW => (PutM.spec h A1 n1 c1 l1 A2 n2 c2 l2 A3 n3 c3 l3 W (by omega) (S1_3.out.on hW) (by omega) D1.out (S2_3.out.on hW) (by omega) D2.out (S3_3.out.on hW) (by omega) D3.out).mono fun _ _ => go_of
  have CS : Hid (∀ W : World, Sv w3 W → Calls Tryz.prog 30 #[.agg #[.int .i64 h.id, .bool h.rp, .bool h.au, .bool h.ct, .bool h.wa, .bool h.ca, .int .i64 h.code, .string h.qn, .int .i64 h.qt, .slice A1 n1 c1, .slice A2 n2 c2, .slice A3 n3 c3]] W fun e w' => e = .returned (.int .i64 (m : Int)) ∧ Below W.heap.size W w') := fun W hW => by rw [← MK.out]; exact PutM.sizeI h A1 n1 c1 l1 A2 n2 c2 l2 A3 n3 c3 l3 W (HE.out.below (L3.out.trans (hW.mono L3.out.size))) (by omega) (S1_3.out.on hW) (by omega) D1.out (S2_3.out.on hW) (by omega) D2.out (S3_3.out.on hW) (by omega) D3.out
  have CF : Hid (∀ W : World, Sv w3 W → Calls Tryz.prog 31 #[.agg #[.int .i64 h.id, .bool h.rp, .bool h.au, .bool h.ct, .bool h.wa, .bool h.ca, .int .i64 h.code, .string h.qn, .int .i64 h.qt, .slice A1 n1 c1, .slice A2 n2 c2, .slice A3 n3 c3]] W fun e w' => e = .returned (.bool (fit h l1 l2 l3)) ∧ Below W.heap.size W w') := fun W hW => PutM.fitsI h A1 n1 c1 l1 A2 n2 c2 l2 A3 n3 c3 l3 W (HE.out.below (L3.out.trans (hW.mono L3.out.size))) (by omega) (S1_3.out.on hW) (by omega) D1.out (S2_3.out.on hW) (by omega) D2.out (S3_3.out.on hW) (by omega) D3.out
  have CI : Hid (∀ W : World, Sv w3 W → Calls Tryz.prog 32 #[.agg #[.int .i64 h.id, .bool h.rp, .bool h.au, .bool h.ct, .bool h.wa, .bool h.ca, .int .i64 h.code, .string h.qn, .int .i64 h.qt, .slice A1 n1 c1, .slice A2 n2 c2, .slice A3 n3 c3]] W (GO (hdl h n1 n2 n3) W)) := fun W hW => (HeadS.impl h A1 A2 A3 n1 c1 n2 c2 n3 c3 W).mono fun _ _ => go_of
  have CJ : Hid (∀ W : World, Sv w3 W → Calls Tryz.prog 33 #[.agg #[.int .i64 h.id, .bool h.rp, .bool h.au, .bool h.ct, .bool h.wa, .bool h.ca, .int .i64 h.code, .string h.qn, .int .i64 h.qt, .slice A1 n1 c1, .slice A2 n2 c2, .slice A3 n3 c3]] W (GO (hdl h n1 n2 n3) W)) := fun W hW => (HeadS.spec h A1 A2 A3 n1 c1 n2 c2 n3 c3 W).mono fun _ _ => go_of
  have HL := Lib.hid (hdl_len h n1 n2 n3)
  have CE : Hid (∀ (W : World) (g2 m2 d2 : Nat) (r2 : List Value), Sv w3 W → Bk W g2 5 ((pm h l1 l2 l3).map bv ++ r2) → (pm h l1 l2 l3).length = m2 → Calls Tryz.prog 28 #[.slice (some ⟨g, 0, none⟩) m d, .slice (some ⟨g2, 0, none⟩) m2 d2] W fun e w' => e = .returned (.bool true) ∧ Below W.heap.size W w') := fun W g2 m2 d2 r2 hW hb2 hm2 => same_same _ _ m d m2 d2 (pm h l1 l2 l3) W (sl_of (G_3.out.below hW G_3.out.lt) MK.out) (sl_of hb2 hm2) (by omega) (by have := MK.out; omega)
  have CH : Hid (∀ (W : World) (g1 m1 d1 : Nat) (r1 : List Value) (g2 m2 d2 : Nat) (r2 : List Value), Bk W g1 5 ((hdl h n1 n2 n3).map bv ++ r1) → (hdl h n1 n2 n3).length = m1 → Bk W g2 5 ((hdl h n1 n2 n3).map bv ++ r2) → (hdl h n1 n2 n3).length = m2 → Calls Tryz.prog 28 #[.slice (some ⟨g1, 0, none⟩) m1 d1, .slice (some ⟨g2, 0, none⟩) m2 d2] W fun e w' => e = .returned (.bool true) ∧ Below W.heap.size W w') := fun W g1 m1 d1 r1 g2 m2 d2 r2 hb1 hm1 hb2 hm2 => same_same _ _ m1 d1 m2 d2 (hdl h n1 n2 n3) W (sl_of hb1 hm1) (sl_of hb2 hm2) (by have := HL.out; omega) (by have := HL.out; omega)
  have S0 : ((w3.cell? ⟨gx, 0, none⟩ = some (.int .i64 h.id) ∧ w3.cell? ⟨gx, 1, none⟩ = some (.bool h.rp) ∧ w3.cell? ⟨gx, 2, none⟩ = some (.bool h.au) ∧ w3.cell? ⟨gx, 3, none⟩ = some (.bool h.ct) ∧ w3.cell? ⟨gx, 4, none⟩ = some (.bool h.wa) ∧ w3.cell? ⟨gx, 5, none⟩ = some (.bool h.ca) ∧ w3.cell? ⟨gx, 6, none⟩ = some (.int .i64 h.code) ∧ w3.cell? ⟨gx, 7, none⟩ = some (.string h.qn) ∧ w3.cell? ⟨gx, 8, none⟩ = some (.int .i64 h.qt) ∧ w3.cell? ⟨gx, 9, none⟩ = some (.slice A1 n1 c1) ∧ w3.cell? ⟨gx, 10, none⟩ = some (.slice A2 n2 c2) ∧ w3.cell? ⟨gx, 11, none⟩ = some (.slice A3 n3 c3)) ∧ Sv w3 w3) := ⟨X3.out, Below.refl _ _⟩
  have v0 : Sv w3 w3.drew := (Below.refl _ _).drew
  have e1 : ((m : Int) != (m : Int)) = false := by simp
  have e2 : ¬ (512 : Int) < (m : Int) := by omega
  have MF : Hid (fit h l1 l2 l3 = decide (0 < m)) := by show _ = _; rw [FF.out, MK.out]
  clear FF
  by_cases h0 : 0 < m
  case neg =>
    have MF2 : Hid (fit h l1 l2 l3 = false) := MF.out.trans (decide_eq_false h0)
    have h0z : ¬ (0 : Int) < (m : Int) := by omega
    go_wp2
    go_region_held3 (fun w' => ((w'.cell? ⟨gx, 0, none⟩ = some (.int .i64 h.id) ∧ w'.cell? ⟨gx, 1, none⟩ = some (.bool h.rp) ∧ w'.cell? ⟨gx, 2, none⟩ = some (.bool h.au) ∧ w'.cell? ⟨gx, 3, none⟩ = some (.bool h.ct) ∧ w'.cell? ⟨gx, 4, none⟩ = some (.bool h.wa) ∧ w'.cell? ⟨gx, 5, none⟩ = some (.bool h.ca) ∧ w'.cell? ⟨gx, 6, none⟩ = some (.int .i64 h.code) ∧ w'.cell? ⟨gx, 7, none⟩ = some (.string h.qn) ∧ w'.cell? ⟨gx, 8, none⟩ = some (.int .i64 h.qt) ∧ w'.cell? ⟨gx, 9, none⟩ = some (.slice A1 n1 c1) ∧ w'.cell? ⟨gx, 10, none⟩ = some (.slice A2 n2 c2) ∧ w'.cell? ⟨gx, 11, none⟩ = some (.slice A3 n3 c3)) ∧ Sv w3 w'))
      (first | with_reducible exact S0 | with_reducible assumption | exact kept1 (by assumption) hl | exact kept1_draw S0 | fail)
      (first
        | (go_at_call 29; (with_reducible refine (CP.out _ v0).mono ?_); rintro e u1 ⟨g2, m2, d2, r2, rfl, z2, -, -, h2, hl⟩; have v1 := svt v0 hl)
        | (go_at_call 28; (with_reducible refine (CE.out u1 g2 m2 d2 r2 v1 h2 z2).mono ?_); rintro e u2 ⟨rfl, hl⟩; have v2 := svt v1 hl)
        | (go_at_call 30; (with_reducible refine (CS.out u2 v2).mono ?_); rintro e u3 ⟨rfl, hl⟩; have v3 := svt v2 hl)
        | (go_at_call 31; (with_reducible refine (CF.out u3 v3).mono ?_); rw [MF2.out]; rintro e u4 ⟨rfl, hl⟩; have v4 := svt v3 hl)
        | (go_at_call 32; (with_reducible refine (CI.out u4 v4).mono ?_); rintro e u5 ⟨g5, m5, d5, r5, rfl, z5, -, -, h5, hl⟩; have v5 := svt v4 hl)
        | (go_at_call 33; (with_reducible refine (CJ.out u5 v5).mono ?_); rintro e u6 ⟨g6, m6, d6, r6, rfl, z6, -, -, h6, hl⟩; have h5' := h5.below hl h5.lt)
        | (go_at_call 28; (with_reducible refine (CH.out u6 g5 m5 d5 r5 g6 m6 d6 r6 h5' z5 h6 z6).mono ?_); rintro e w4 ⟨rfl, hl⟩)
        | fail)
    rename_i hH
    have hz : Below w3.heap.size w3 w4 := hH.2
    clear hH hl z2 h2 z5 h5 z6 h6 h5' v0 v1 v2 v3 v4 v5 S0 CP CI CJ CE CH e1 e2
    have FV : Sv w3 w4 := hz
    have L4 := Lib.hid (L3.out.trans (hz.mono L3.out.size))
    have S1_4 := Lib.hid (S1_3.out.on hz)
    have S2_4 := Lib.hid (S2_3.out.on hz)
    have S3_4 := Lib.hid (S3_3.out.on hz)
    have X4 := Lib.hid (X3.out.below hz)
    have G_4 := Lib.hid (G_3.out.below hz G_3.out.lt)
    clear hz L3 S1_3 S2_3 S3_3 X3 G_3
    obtain ⟨x0, x1, x2, x3, x4, x5, x6, x7, x8, x9, x10, x11⟩ := X4.out
    go_wp2_with fail
    refine (CF.out w4 FV).mono ?_
    rw [MF2.out]
    rintro e w5 ⟨rfl, hl⟩
    have LL := Lib.hid (L4.out.trans (hl.mono L4.out.size))
    have h0m : m = 0 := by omega
    subst h0m
    clear hl x0 x1 x2 x3 x4 x5 x6 x7 x8 x9 x10 x11
    go_wp2
    go_ret
    exact ⟨rfl, LL.out⟩
  have MF2 : Hid (fit h l1 l2 l3 = true) := MF.out.trans (decide_eq_true h0)
  have h0z : (0 : Int) < (m : Int) := by omega
  go_wp2
  go_region_held3 (fun w' => ((w'.cell? ⟨gx, 0, none⟩ = some (.int .i64 h.id) ∧ w'.cell? ⟨gx, 1, none⟩ = some (.bool h.rp) ∧ w'.cell? ⟨gx, 2, none⟩ = some (.bool h.au) ∧ w'.cell? ⟨gx, 3, none⟩ = some (.bool h.ct) ∧ w'.cell? ⟨gx, 4, none⟩ = some (.bool h.wa) ∧ w'.cell? ⟨gx, 5, none⟩ = some (.bool h.ca) ∧ w'.cell? ⟨gx, 6, none⟩ = some (.int .i64 h.code) ∧ w'.cell? ⟨gx, 7, none⟩ = some (.string h.qn) ∧ w'.cell? ⟨gx, 8, none⟩ = some (.int .i64 h.qt) ∧ w'.cell? ⟨gx, 9, none⟩ = some (.slice A1 n1 c1) ∧ w'.cell? ⟨gx, 10, none⟩ = some (.slice A2 n2 c2) ∧ w'.cell? ⟨gx, 11, none⟩ = some (.slice A3 n3 c3)) ∧ Sv w3 w'))
    (first | with_reducible exact S0 | with_reducible assumption | exact kept1 (by assumption) hl | exact kept1_draw S0 | fail)
    (first
      | (go_at_call 29; (with_reducible refine (CP.out _ v0).mono ?_); rintro e u1 ⟨g2, m2, d2, r2, rfl, z2, -, -, h2, hl⟩; have v1 := svt v0 hl)
      | (go_at_call 28; (with_reducible refine (CE.out u1 g2 m2 d2 r2 v1 h2 z2).mono ?_); rintro e u2 ⟨rfl, hl⟩; have v2 := svt v1 hl)
      | (go_at_call 30; (with_reducible refine (CS.out u2 v2).mono ?_); rintro e u3 ⟨rfl, hl⟩; have v3 := svt v2 hl)
      | (go_at_call 31; (with_reducible refine (CF.out u3 v3).mono ?_); rw [MF2.out]; rintro e u4 ⟨rfl, hl⟩; have v4 := svt v3 hl)
      | (go_at_call 32; (with_reducible refine (CI.out u4 v4).mono ?_); rintro e u5 ⟨g5, m5, d5, r5, rfl, z5, -, -, h5, hl⟩; have v5 := svt v4 hl)
      | (go_at_call 33; (with_reducible refine (CJ.out u5 v5).mono ?_); rintro e u6 ⟨g6, m6, d6, r6, rfl, z6, -, -, h6, hl⟩; have h5' := h5.below hl h5.lt)
      | (go_at_call 28; (with_reducible refine (CH.out u6 g5 m5 d5 r5 g6 m6 d6 r6 h5' z5 h6 z6).mono ?_); rintro e w4 ⟨rfl, hl⟩)
      | fail)
  rename_i hH
  have hz : Below w3.heap.size w3 w4 := hH.2
  clear hH hl z2 h2 z5 h5 z6 h6 h5' v0 v1 v2 v3 v4 v5 S0 CP CI CJ CE CH e1 e2
  have FV : Sv w3 w4 := hz
  have L4 := Lib.hid (L3.out.trans (hz.mono L3.out.size))
  have S1_4 := Lib.hid (S1_3.out.on hz)
  have S2_4 := Lib.hid (S2_3.out.on hz)
  have S3_4 := Lib.hid (S3_3.out.on hz)
  have X4 := Lib.hid (X3.out.below hz)
  have G_4 := Lib.hid (G_3.out.below hz G_3.out.lt)
  clear hz L3 S1_3 S2_3 S3_3 X3 G_3
  obtain ⟨x0, x1, x2, x3, x4, x5, x6, x7, x8, x9, x10, x11⟩ := X4.out
  go_wp2_with fail
  refine (CF.out w4 FV).mono ?_
  rw [MF2.out]
  rintro e w5 ⟨rfl, hl⟩
  clear FV x0 x1 x2 x3 x4 x5 x6 x7 x8 x9 x10 x11 CF CS
  have L5 := Lib.hid (L4.out.trans (hl.mono L4.out.size))
  have S1_5 := Lib.hid (S1_4.out.on hl)
  have S2_5 := Lib.hid (S2_4.out.on hl)
  have S3_5 := Lib.hid (S3_4.out.on hl)
  have X5 := Lib.hid (X4.out.below hl)
  have G_5 := Lib.hid (G_4.out.below hl G_4.out.lt)
  clear hl L4 S1_4 S2_4 S3_4 X4 G_4
  obtain ⟨f1, f2, f3, f4, f5, f6, f7, f8, f9, f10, f11, f12⟩ := FT.out (by rw [MK.out]; exact h0)
  have IG := Lib.hid (fun (W : World) (he : Env W) (hs : Sl W W.heap.size (some ⟨g, 0, none⟩) m (pm h l1 l2 l3)) => GetM.impl_good (some ⟨g, 0, none⟩) m d (pm h l1 l2 l3) W he hs hd (by omega) f1)
  rw [f2, f3, f4, f5, B1.out, B2.out, B3.out] at IG
  have IH := Lib.hid (fun (W : World) (hs : Sl W W.heap.size (some ⟨g, 0, none⟩) m (pm h l1 l2 l3)) => GetHI.impl (some ⟨g, 0, none⟩) m d (pm h l1 l2 l3) W hs hd (by omega))
  unfold valH at IH
  rw [f6, f7, f8, f9, f10, B1.out, B2.out, B3.out] at IH
  rw [MK.out] at f12
  have IL := Lib.hid (fun (W : World) (he : Env W) (hs : Sl W W.heap.size (some ⟨g, 0, none⟩) (m - 1) ((pm h l1 l2 l3).take (m - 1))) => GetM.impl_bad (some ⟨g, 0, none⟩) (m - 1) d ((pm h l1 l2 l3).take (m - 1)) W he hs (by omega) (by omega) f12)
  have IM := Lib.hid (fun (q d : Nat) (W : World) (he : Env W) (hs : Sl W W.heap.size (some ⟨q, 0, none⟩) (m + 1) (pm h l1 l2 l3 ++ [0])) (hd : m + 1 ≤ d) => GetM.impl_bad (some ⟨q, 0, none⟩) (m + 1) d (pm h l1 l2 l3 ++ [0]) W he hs hd (by omega) f11)
  have EI : ((wq h ⟨#[]⟩ 0).id == h.id) = true := by simp [wq]
  have EC : ((wq h ⟨#[]⟩ 0).code == h.code) = true := by simp [wq]
  generalize wq h ⟨#[]⟩ 0 = H2 at *
  clear f1 f2 f3 f4 f5 f6 f7 f8 f9 f10 f11 f12 FT
  have TK : Hid ((pm h l1 l2 l3).take (m - 1) = (pm h l1 l2 l3).take (m - 1)) := rfl
  generalize pm h l1 l2 l3 = K at *
  go_wp2_with fail
  refine (IG.out _ (HE.out.below L5.out) (sl_of G_5.out MK.out)).mono ?_
  rintro e w6 ⟨p1, e1, rp1, p2, e2, rp2, p3, e3, rp3, rfl, hb1, hb2, hb3, hg, h12, h23, hl⟩
  have P1_6 := Lib.hid hb1
  have P2_6 := Lib.hid hb2
  have P3_6 := Lib.hid hb3
  have L6 := Lib.hid (L5.out.trans (hl.mono L5.out.size))
  have S1_6 := Lib.hid (S1_5.out.on hl)
  have S2_6 := Lib.hid (S2_5.out.on hl)
  have S3_6 := Lib.hid (S3_5.out.on hl)
  have X6 := Lib.hid (X5.out.below hl)
  have G_6 := Lib.hid (G_5.out.below hl G_5.out.lt)
  clear hl L5 S1_5 S2_5 S3_5 X5 G_5
  clear hb1 hb2 hb3 hg h12 h23 
  have al : Below w6.heap.size w6 (w6.alloc (.cells #[.int .i64 h.id, .bool h.rp, .bool h.au, .bool h.ct, .bool h.wa, .bool h.ca, .int .i64 h.code, .string h.qn, .int .i64 h.qt, .slice (some ⟨p1, 0, none⟩) n1 e1, .slice (some ⟨p2, 0, none⟩) n2 e2, .slice (some ⟨p3, 0, none⟩) n3 e3] 28)) := (Below.refl _ _).alloc (Nat.le_refl _) _
  have Y7 := Lib.hid (mx_new w6 28 h (.slice (some ⟨p1, 0, none⟩) n1 e1) (.slice (some ⟨p2, 0, none⟩) n2 e2) (.slice (some ⟨p3, 0, none⟩) n3 e3))
  have L7 := Lib.hid (L6.out.trans (al.mono L6.out.size))
  have S1_7 := Lib.hid (S1_6.out.on al)
  have S2_7 := Lib.hid (S2_6.out.on al)
  have S3_7 := Lib.hid (S3_6.out.on al)
  have X7 := Lib.hid (X6.out.below al)
  have G_7 := Lib.hid (G_6.out.below al G_6.out.lt)
  have P1_7 := Lib.hid (P1_6.out.below al P1_6.out.lt)
  have P2_7 := Lib.hid (P2_6.out.below al P2_6.out.lt)
  have P3_7 := Lib.hid (P3_6.out.below al P3_6.out.lt)
  clear al L6 S1_6 S2_6 S3_6 X6 G_6 P1_6 P2_6 P3_6
  go_wp2_with fail
  refine (IH.out _ (sl_of G_7.out MK.out)).mono ?_
  rintro e w8 ⟨rfl, hl⟩
  have L8 := Lib.hid (L7.out.trans (hl.mono L7.out.size))
  have S1_8 := Lib.hid (S1_7.out.on hl)
  have S2_8 := Lib.hid (S2_7.out.on hl)
  have S3_8 := Lib.hid (S3_7.out.on hl)
  have X8 := Lib.hid (X7.out.below hl)
  have G_8 := Lib.hid (G_7.out.below hl G_7.out.lt)
  have P1_8 := Lib.hid (P1_7.out.below hl P1_7.out.lt)
  have P2_8 := Lib.hid (P2_7.out.below hl P2_7.out.lt)
  have P3_8 := Lib.hid (P3_7.out.below hl P3_7.out.lt)
  have Y8 := Lib.hid (Y7.out.below hl)
  clear hl L7 S1_7 S2_7 S3_7 X7 G_7 P1_7 P2_7 P3_7 Y7
  generalize w6.heap.size = gy at *
  have al : Below w8.heap.size w8 (w8.alloc (.cells #[.int .i64 H2.id, .bool H2.rp, .bool H2.au, .bool H2.ct, .bool H2.wa, .bool H2.ca, .int .i64 H2.code, .string H2.qn, .int .i64 H2.qt, .slice none 0 0, .slice none 0 0, .slice none 0 0] 28)) := (Below.refl _ _).alloc (Nat.le_refl _) _
  have Z9 := Lib.hid (mx_new w8 28 H2 (.slice none 0 0) (.slice none 0 0) (.slice none 0 0))
  have L9 := Lib.hid (L8.out.trans (al.mono L8.out.size))
  have S1_9 := Lib.hid (S1_8.out.on al)
  have S2_9 := Lib.hid (S2_8.out.on al)
  have S3_9 := Lib.hid (S3_8.out.on al)
  have X9 := Lib.hid (X8.out.below al)
  have G_9 := Lib.hid (G_8.out.below al G_8.out.lt)
  have P1_9 := Lib.hid (P1_8.out.below al P1_8.out.lt)
  have P2_9 := Lib.hid (P2_8.out.below al P2_8.out.lt)
  have P3_9 := Lib.hid (P3_8.out.below al P3_8.out.lt)
  have Y9 := Lib.hid (Y8.out.below al)
  clear al L8 S1_8 S2_8 S3_8 X8 G_8 P1_8 P2_8 P3_8 Y8
  have hm1 : (m : Int) - 1 = ((m - 1 : Nat) : Int) := by omega
  have hm2 : ((m : Int) - 1).toNat = m - 1 := by omega
  go_wp2_with fail
  refine (IL.out _ (HE.out.below L9.out) (take_sl G_9.out MK.out)).mono ?_
  rintro e w10 ⟨rfl, hl⟩
  have L10 := Lib.hid (L9.out.trans (hl.mono L9.out.size))
  have S1_10 := Lib.hid (S1_9.out.on hl)
  have S2_10 := Lib.hid (S2_9.out.on hl)
  have S3_10 := Lib.hid (S3_9.out.on hl)
  have X10 := Lib.hid (X9.out.below hl)
  have G_10 := Lib.hid (G_9.out.below hl G_9.out.lt)
  have P1_10 := Lib.hid (P1_9.out.below hl P1_9.out.lt)
  have P2_10 := Lib.hid (P2_9.out.below hl P2_9.out.lt)
  have P3_10 := Lib.hid (P3_9.out.below hl P3_9.out.lt)
  have Y10 := Lib.hid (Y9.out.below hl)
  have Z10 := Lib.hid (Z9.out.below hl)
  clear hl L9 S1_9 S2_9 S3_9 X9 G_9 P1_9 P2_9 P3_9 Y9 Z9
  clear hm1 hm2
  generalize w8.heap.size = gz at *
  have al : Below w10.heap.size w10 (w10.alloc (.cells #[.int .i64 zh.id, .bool zh.rp, .bool zh.au, .bool zh.ct, .bool zh.wa, .bool zh.ca, .int .i64 zh.code, .string zh.qn, .int .i64 zh.qt, .slice none 0 0, .slice none 0 0, .slice none 0 0] 28)) := (Below.refl _ _).alloc (Nat.le_refl _) _
  have N11 := Lib.hid (mx_new w10 28 zh (.slice none 0 0) (.slice none 0 0) (.slice none 0 0))
  have L11 := Lib.hid (L10.out.trans (al.mono L10.out.size))
  have S1_11 := Lib.hid (S1_10.out.on al)
  have S2_11 := Lib.hid (S2_10.out.on al)
  have S3_11 := Lib.hid (S3_10.out.on al)
  have X11 := Lib.hid (X10.out.below al)
  have G_11 := Lib.hid (G_10.out.below al G_10.out.lt)
  have P1_11 := Lib.hid (P1_10.out.below al P1_10.out.lt)
  have P2_11 := Lib.hid (P2_10.out.below al P2_10.out.lt)
  have P3_11 := Lib.hid (P3_10.out.below al P3_10.out.lt)
  have Y11 := Lib.hid (Y10.out.below al)
  have Z11 := Lib.hid (Z10.out.below al)
  clear al L10 S1_10 S2_10 S3_10 X10 G_10 P1_10 P2_10 P3_10 Y10 Z10
  go_upto_region 12 with (fail)
  generalize hWN : (w10.alloc (.cells #[.int .i64 zh.id, .bool zh.rp, .bool zh.au, .bool zh.ct, .bool zh.wa, .bool zh.ca, .int .i64 zh.code, .string zh.qn, .int .i64 zh.qt, .slice none 0 0, .slice none 0 0, .slice none 0 0] 28)) = WN at *
  clear hWN
  generalize w10.heap.size = gn at *
  have SG := Lib.hid (sl_alloc (sl_of G_11.out MK.out) (.cells #[] 5))
  go_wp2_with (at_builtin; refine append_src rfl (.tmp 84) (.tmp 85) 22 rfl WN.heap.size 5 i0 (.int .u8 0) Tryz.underlying22 hi hz0 hz1 hz2 rfl WN.heap.size 0 0 [] rfl (owns_new WN) (some ⟨g, 0, none⟩) m d _ K rfl SG.out (fun h => by cases h) ?c1 ?c2 ?c3 ?_)
  case c1 => omega
  case c2 => omega
  case c3 => simp
  intro q1 cap1 v1 hown hgrow
  try simp only [Nat.zero_add, List.nil_append] at hown ⊢
  have hB1 := ((Below.refl WN.heap.size WN).alloc (Nat.le_refl _) (.cells #[] 5)).grown hgrow (by simp) (fun j hj => by cases hj; exact Nat.le_refl _)
  have OW1 : Hid (v1.ownsRow WN.heap.size 5 1 (.slice (some ⟨q1, 0, none⟩) m cap1) m (K.map bv)) := hown
  have HB1 := Lib.hid hB1
  clear hown hgrow hB1 SG
  go_wp2_with (at_builtin; refine append_src rfl (.tmp 86) (.tmp 87) 22 rfl WN.heap.size 5 i0 (.int .u8 0) Tryz.underlying22 hi hz0 hz1 hz2 rfl q1 m cap1 (K.map bv) rfl (OW1.out.alloc _) (some ⟨v1.heap.size, 0, none⟩) 1 1 _ [0] rfl (sl_new v1 _ [0] rfl) (fun h => by cases h) ?d1 ?d2 ?d3 ?_)
  case d1 => omega
  case d2 => omega
  case d3 => have := HB1.out.size; simp; omega
  intro q2 cap2 v2 hown hgrow
  have hown : v2.ownsRow WN.heap.size 5 1 (.slice (some ⟨q2, 0, none⟩) (m + 1) cap2) (m + 1) ((K ++ [0]).map bv) := by rw [List.map_append]; exact hown
  have hl := (HB1.out.alloc HB1.out.size (.cells #[.int .u8 0] 5)).grown hgrow (by have := HB1.out.size; simp; omega) (fun j hj => by cases hj; exact (OW1.out.lt q1 rfl).1)
  have OW2 := Lib.hid hown
  clear hown hgrow HB1 OW1
  have L12 := Lib.hid (L11.out.trans (hl.mono L11.out.size))
  have S1_12 := Lib.hid (S1_11.out.on hl)
  have S2_12 := Lib.hid (S2_11.out.on hl)
  have S3_12 := Lib.hid (S3_11.out.on hl)
  have X12 := Lib.hid (X11.out.below hl)
  have P1_12 := Lib.hid (P1_11.out.below hl P1_11.out.lt)
  have P2_12 := Lib.hid (P2_11.out.below hl P2_11.out.lt)
  have P3_12 := Lib.hid (P3_11.out.below hl P3_11.out.lt)
  have Y12 := Lib.hid (Y11.out.below hl)
  have Z12 := Lib.hid (Z11.out.below hl)
  clear hl L11 S1_11 S2_11 S3_11 X11 G_11 P1_11 P2_11 P3_11 Y11 Z11 N11
  have SQ := Lib.hid (ownB_sl OW2.out).1
  have hq2 := (ownB_sl OW2.out).2.1
  clear OW2
  go_wp2_with fail
  refine (IM.out q2 cap2 _ (HE.out.below L12.out) SQ.out hq2).mono ?_
  rintro e w13 ⟨rfl, hl⟩
  have L13 := Lib.hid (L12.out.trans (hl.mono L12.out.size))
  have S1_13 := Lib.hid (S1_12.out.on hl)
  have S2_13 := Lib.hid (S2_12.out.on hl)
  have S3_13 := Lib.hid (S3_12.out.on hl)
  have X13 := Lib.hid (X12.out.below hl)
  have P1_13 := Lib.hid (P1_12.out.below hl P1_12.out.lt)
  have P2_13 := Lib.hid (P2_12.out.below hl P2_12.out.lt)
  have P3_13 := Lib.hid (P3_12.out.below hl P3_12.out.lt)
  have Y13 := Lib.hid (Y12.out.below hl)
  have Z13 := Lib.hid (Z12.out.below hl)
  clear hl L12 S1_12 S2_12 S3_12 X12 P1_12 P2_12 P3_12 Y12 Z12
  clear SQ IG IH IL IM
  have al : Below w13.heap.size w13 (w13.alloc (.cells #[.int .i64 zh.id, .bool zh.rp, .bool zh.au, .bool zh.ct, .bool zh.wa, .bool zh.ca, .int .i64 zh.code, .string zh.qn, .int .i64 zh.qt, .slice none 0 0, .slice none 0 0, .slice none 0 0] 28)) := (Below.refl _ _).alloc (Nat.le_refl _) _
  have O14 := Lib.hid (mx_new w13 28 zh (.slice none 0 0) (.slice none 0 0) (.slice none 0 0))
  have L14 := Lib.hid (L13.out.trans (al.mono L13.out.size))
  have S1_14 := Lib.hid (S1_13.out.on al)
  have S2_14 := Lib.hid (S2_13.out.on al)
  have S3_14 := Lib.hid (S3_13.out.on al)
  have X14 := Lib.hid (X13.out.below al)
  have P1_14 := Lib.hid (P1_13.out.below al P1_13.out.lt)
  have P2_14 := Lib.hid (P2_13.out.below al P2_13.out.lt)
  have P3_14 := Lib.hid (P3_13.out.below al P3_13.out.lt)
  have Y14 := Lib.hid (Y13.out.below al)
  have Z14 := Lib.hid (Z13.out.below al)
  clear al L13 S1_13 S2_13 S3_13 X13 P1_13 P2_13 P3_13 Y13 Z13
  have E1 : ((n1 : Int) == (n1 : Int)) = true := by simp
  have E2 : ((n2 : Int) == (n2 : Int)) = true := by simp
  have E3 : ((n3 : Int) == (n3 : Int)) = true := by simp
  obtain ⟨x0_0, x0_1, x0_2, x0_3, x0_4, x0_5, x0_6, x0_7, x0_8, x0_9, x0_10, x0_11⟩ := X14.out
  obtain ⟨x1_0, x1_1, x1_2, x1_3, x1_4, x1_5, x1_6, x1_7, x1_8, x1_9, x1_10, x1_11⟩ := Y14.out
  go_wp2_with fail
  refine (SamL.same h h _ A1 n1 n1 e1 c1 l1 l1 _ A2 n2 n2 e2 c2 l2 l2 _ A3 n3 n3 e3 c3 l3 l3 _ (bk_sr P1_14.out B1.out) S1_14.out (by omega) (by omega) (bk_sr P2_14.out B2.out) S2_14.out (by omega) (by omega) (bk_sr P3_14.out B3.out) S3_14.out (by omega) (by omega)).mono ?_
  rintro e w15 ⟨rfl, hl⟩
  rw [SS.out]
  have L15 := Lib.hid (L14.out.trans (hl.mono L14.out.size))
  have S1_15 := Lib.hid (S1_14.out.on hl)
  have S2_15 := Lib.hid (S2_14.out.on hl)
  have S3_15 := Lib.hid (S3_14.out.on hl)
  have X15 := Lib.hid (X14.out.below hl)
  have P1_15 := Lib.hid (P1_14.out.below hl P1_14.out.lt)
  have P2_15 := Lib.hid (P2_14.out.below hl P2_14.out.lt)
  have P3_15 := Lib.hid (P3_14.out.below hl P3_14.out.lt)
  have Y15 := Lib.hid (Y14.out.below hl)
  have Z15 := Lib.hid (Z14.out.below hl)
  clear hl L14 S1_14 S2_14 S3_14 X14 P1_14 P2_14 P3_14 Y14 Z14 O14
  clear  x0_0 x0_1 x0_2 x0_3 x0_4 x0_5 x0_6 x0_7 x0_8 x0_9 x0_10 x0_11 x1_0 x1_1 x1_2 x1_3 x1_4 x1_5 x1_6 x1_7 x1_8 x1_9 x1_10 x1_11
  obtain ⟨x0, x1, x2, x3, x4, x5, x6, x7, x8, x9, x10, x11⟩ := X15.out
  obtain ⟨z0, z1, z2, z3, z4, z5, z6, z7, z8, z9, z10, z11⟩ := Z15.out
  go_wp2
  go_ret
  exact ⟨rfl, L15.out⟩
end Go.Proofs.YtkfibepejlgniaaGreatDoor.LawPackets
