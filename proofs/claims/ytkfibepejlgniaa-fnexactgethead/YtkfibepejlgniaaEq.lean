/- What the law's own helpers eqByteS, markByteS and heldByteS do on slices of bytes. Condition: fewer than 400000001 bytes. -/
import Derived.Test.YtkfibepejlgniaaMem
import Derived.Deep.QuietTactic
import Derived.BigQuiet
namespace Go.Proofs.Ytkfibepejlgniaa.Eq
open Go.RowKit Go.Proofs.Ytkfibepejlgniaa.Mem

theorem cast_ne {a b : UInt8} (h : a ≠ b) : ((a.toNat : Int) != (b.toNat : Int)) = true := by
  rw [bne_iff_ne]; intro e; exact h (UInt8.toNat_inj.1 (by omega))
theorem cast_eq {a b : UInt8} (h : a = b) : ((a.toNat : Int) != (b.toNat : Int)) = false := by subst h; simp

/-- Two lists that agree as far as k, and part at k. -/
theorem ne_at {l m : List UInt8} {k : Nat} (h : k < l.length) (h' : k < m.length) (hne : l[k] ≠ m[k]) : (l == m) = false := by
  rw [beq_eq_false_iff_ne]; rintro rfl; exact hne rfl
theorem eq_all {l m : List UInt8} (hl : l.length = m.length) (h : l.take l.length = m.take l.length) : (l == m) = true := by
  rw [List.take_length, hl, List.take_length] at h; simp [h]
theorem take_step {l m : List UInt8} {k : Nat} (hk : k < l.length) (hk' : k < m.length) (h : l.take k = m.take k) (he : l[k] = m[k]) : l.take (k + 1) = m.take (k + 1) := by
  rw [List.take_succ_eq_append_getElem hk, List.take_succ_eq_append_getElem hk', h, he]

set_option maxHeartbeats 1000000 in
theorem eqByteS_any (A A' : Option Addr) (n c n' c' : Nat) (l m : List UInt8) (w : World) (B : Nat) (hs : Sl w B A n l) (hs' : Sl w B A' n' m) (hn : n ≤ 400000000) (hn' : n' ≤ 400000000) :
    Calls Try.prog 9 #[.slice A n c, .slice A' n' c'] w fun e w' => e = .returned (.bool (l == m)) ∧ ∃ k, w' = w.drewN k := by
  have HL := Lib.hid hs.1
  have HM := Lib.hid hs'.1
  by_cases hnn : n = n'
  · subst hnn
    have hd : ((n : Int) != (n : Int)) = false := by simp
    go_enter Try.func9, Try.ntmps9
    go_wp2
    go_loopw [5] (fun i wr => ∃ k : Nat, k ≤ n ∧ i = .int .i64 k ∧ Hid (l.take k = m.take k) ∧ Hid (∃ q, wr = w.drewN q)) (fun i _ => n - (intOf i).toNat)
    case atStart => exact ⟨0, Nat.zero_le _, rfl, rfl, ⟨0, rfl⟩⟩
    case round =>
      obtain ⟨k, hk, rfl, HT, HW⟩ := hrel
      obtain ⟨q, rfl⟩ := HW.out
      clear HW
      by_cases hlt : k < n
      · obtain ⟨b, off, rfl, hbB, hcs⟩ := hs.2 (by omega)
        obtain ⟨b', off', rfl, hbB', hcs'⟩ := hs'.2 (by omega)
        have hkl : k < l.length := by rw [HL.out]; exact hlt
        have hkm : k < m.length := by rw [HM.out]; exact hlt
        have hx : w.cell? ⟨b, off + k, none⟩ = some (.int .u8 (l[k].toNat : Int)) := hcs k hkl
        have hy : w.cell? ⟨b', off' + k, none⟩ = some (.int .u8 (m[k].toNat : Int)) := hcs' k hkm
        clear hcs hcs' hs hs'
        by_cases he : l[k] = m[k]
        · have hbb := cast_eq he
          have HE := Lib.hid he
          clear he
          go_wp2
          go_quiet (fail)
          go_wp2
          go_roundw
          case rel => exact ⟨k + 1, by omega, by go_num, take_step hkl hkm HT.out HE.out, ⟨_, rfl⟩⟩
          case measure => simp [intOf]; omega
        · have hbb := cast_ne he
          have HE := Lib.hid he
          clear he
          go_wp2
          go_quiet (fail)
          go_wp2
          go_ret
          exact ⟨by rw [ne_at hkl hkm HE.out]; rfl, ⟨q + nq, World.drewN_drewN _ _ _⟩⟩
      · go_wp2
        go_ret
        have hk2 : k = l.length := by rw [HL.out]; omega
        refine ⟨?_, ⟨_, rfl⟩⟩
        rw [eq_all (by rw [HL.out, HM.out]) (by rw [← hk2]; exact HT.out)]
        rfl
  · have hd : ((n : Int) != (n' : Int)) = true := by rw [bne_iff_ne]; omega
    go_enter Try.func9, Try.ntmps9
    go_wp2
    go_ret
    refine ⟨?_, ⟨0, rfl⟩⟩
    have : (l == m) = false := by
      rw [beq_eq_false_iff_ne]; rintro rfl; exact hnn (HL.out.symm.trans HM.out)
    rw [this]
    rfl

/-- Two slices that read alike are found equal. -/
theorem eqByteS_same (A A' : Option Addr) (n c n' c' : Nat) (l : List UInt8) (w : World) (hs : Sl w w.heap.size A n l) (hs' : Sl w w.heap.size A' n' l) (hn : n ≤ 400000000) (hn' : n' ≤ 400000000) :
    Calls Try.prog 9 #[.slice A n c, .slice A' n' c'] w fun e w' => e = .returned (.bool true) ∧ Below w.heap.size w w' := by
  refine (eqByteS_any A A' n c n' c' l l w _ hs hs' hn hn').mono fun e w' ⟨he, k, hw⟩ => ?_
  subst hw
  exact ⟨by rw [he]; simp, drewN_below _ _ _⟩

/-- The numbers that markByteS lays: k, k + 1 and so on, as bytes. -/
def marks : Nat → Nat → List Value
  | _, 0 => []
  | k, n + 1 => Value.int .u8 ((k : Int) % 256) :: marks (k + 1) n
theorem marks_length (k n : Nat) : (marks k n).length = n := by
  induction n generalizing k with
  | zero => rfl
  | succ n ih => simp [marks, ih]
theorem marks_at (k n j : Nat) (h : j < n) : (marks k n)[j]? = some (Value.int .u8 (((k : Int) + (j : Int)) % 256)) := by
  induction n generalizing k j with
  | zero => omega
  | succ n ih =>
    cases j with
    | zero => simp [marks]
    | succ j => simp only [marks, List.getElem?_cons_succ]; rw [ih (k + 1) j (by omega)]; rw [show ((k + 1 : Nat) : Int) + (j : Int) = (k : Int) + ((j + 1 : Nat) : Int) by omega]
theorem marks_snoc (k n : Nat) : marks k (n + 1) = marks k n ++ [Value.int .u8 (((k : Int) + (n : Int)) % 256)] := by
  induction n generalizing k with
  | zero => simp [marks]
  | succ n ih => rw [marks, ih (k + 1), marks, List.cons_append, show ((k + 1 : Nat) : Int) + (n : Int) = (k : Int) + ((n + 1 : Nat) : Int) by omega]

theorem mark_step (cs : List Value) (k j n : Nat) (hj : j < n) (hn : n ≤ cs.length) :
    (marks k j ++ cs.drop j).set j (Value.int .u8 (((k : Int) + (j : Int)) % 256)) = marks k (j + 1) ++ cs.drop (j + 1) := by
  rw [List.set_append_right _ _ (by rw [marks_length]; omega), marks_length, Nat.sub_self, List.drop_eq_getElem_cons (by omega), List.set_cons_zero, marks_snoc, List.append_assoc]
  rfl
theorem mark_at (cs : List Value) (k j : Nat) (hj : j < cs.length) : (marks k j ++ cs.drop j)[j]? = some cs[j] := by
  rw [List.getElem?_append_right (by rw [marks_length]; omega), marks_length, Nat.sub_self, List.drop_eq_getElem_cons hj]
  rfl

theorem grown_set {w wr : World} {g : Nat} (h : w.grownBy wr (some g)) (j : Nat) (u : Value) : w.grownBy (wr.setCell ⟨g, j, none⟩ u) (some g) :=
  ⟨h.os, h.tape, h.output, by simpa [World.setCell] using h.size, fun k hk hne => by
    rw [Below.heap_setCell _ _ _ _ (fun e => hne (by simp [e]))]; exact h.block k hk hne⟩

set_option maxHeartbeats 1000000 in
/-- markByteS on a block of the call's own: n of its cells are written. -/
theorem markByteS_any (g n c k0 : Nat) (cs : List Value) (w : World) (hb : Bk w g 5 cs) (hint : ∀ j, j < n → ∃ x : Int, cs[j]? = some (.int .u8 x)) (hl : n ≤ cs.length) (hn : n ≤ 400000000) (hk0 : k0 ≤ 400000000) :
    Calls Try.prog 12 #[.slice (some ⟨g, 0, none⟩) n c, .int .i64 (k0 : Int)] w fun e w' => e = .returned (.int .i64 ((k0 + n : Nat) : Int)) ∧ Bk w' g 5 (marks k0 n ++ cs.drop n) ∧ w.grownBy w' (some g) := by
  have HB := Lib.hid hb
  clear hb
  go_enter Try.func12, Try.ntmps12
  go_wp2
  go_loopw [1, 5] (fun kk i wr => ∃ j : Nat, j ≤ n ∧ i = .int .i64 j ∧ kk = .int .i64 ((k0 + j : Nat) : Int) ∧ Hid (Bk wr g 5 (marks k0 j ++ cs.drop j)) ∧ Hid (w.grownBy wr (some g))) (fun _ i _ => n - (intOf i).toNat)
  case atStart => exact ⟨0, Nat.zero_le _, rfl, rfl, HB.out, World.grownBy.refl _ _⟩
  case round =>
    obtain ⟨j, hj, rfl, rfl, HJ, HG⟩ := hrel
    by_cases hlt : j < n
    · obtain ⟨x, hxx⟩ := hint j hlt
      have hx : wr.cell? ⟨g, j, none⟩ = some (.int .u8 x) := by
        rw [HJ.out.cell, mark_at cs k0 j (by omega), ← hxx, List.getElem?_eq_getElem (by omega)]
      have hf : wr.frozen? ⟨g, j, none⟩ = false := HJ.out.free j
      clear hxx
      go_wp2
      go_roundw
      case rel =>
        refine ⟨j + 1, by omega, by go_num, by go_num, ?_, grown_set HG.out _ _⟩
        have := HJ.out.set j (.int .u8 (((k0 : Int) + (j : Int)) % 256))
        rw [mark_step cs k0 j n hlt hl] at this
        exact this
      case measure => simp [intOf]; omega
    · have hjn : j = n := by omega
      subst hjn
      go_wp2
      go_ret
      exact ⟨by go_num, HJ.out, HG.out⟩

theorem byte_ne_self (x : Int) : (x != x) = false := by simp

set_option maxHeartbeats 1000000 in
/-- heldByteS on a block that holds the marks. -/
theorem heldByteS_any (g n c k0 : Nat) (r : List Value) (w : World) (hb : Bk w g 5 (marks k0 n ++ r)) (hn : n ≤ 400000000) (hk0 : k0 ≤ 400000000) :
    Calls Try.prog 13 #[.slice (some ⟨g, 0, none⟩) n c, .int .i64 (k0 : Int)] w fun e w' => e = .returned (.int .i64 ((k0 + n : Nat) : Int)) ∧ w = w' := by
  have HB := Lib.hid hb
  clear hb
  go_enter Try.func13, Try.ntmps13
  go_wp2
  go_loop [1, 5] (fun kk i => ∃ j : Nat, j ≤ n ∧ i = .int .i64 j ∧ kk = .int .i64 ((k0 + j : Nat) : Int)) (fun _ i => n - (intOf i).toNat)
  case atStart => exact ⟨0, Nat.zero_le _, rfl, rfl⟩
  case round =>
    obtain ⟨j, hj, rfl, rfl⟩ := hrel
    by_cases hlt : j < n
    · have hx : w.cell? ⟨g, j, none⟩ = some (Value.int .u8 (((k0 : Int) + (j : Int)) % 256)) := by
        rw [HB.out.cell, List.getElem?_append_left (by rw [marks_length]; exact hlt), marks_at k0 n j hlt]
      have hne := byte_ne_self (((k0 : Int) + (j : Int)) % 256)
      go_wp2
      go_round
      case rel => exact ⟨j + 1, by omega, by go_num, by go_num⟩
      case measure => simp [intOf]; omega
    · have hjn : j = n := by omega
      subst hjn
      go_wp2
      go_ret
      exact ⟨by go_num, rfl⟩

/-- The law marks from 1 on. -/
theorem markByteS_one (g n c : Nat) (l : List UInt8) (r : List Value) (w : World) (hb : Bk w g 5 (l.map bv ++ r)) (hl : l.length = n) (hn : n ≤ 400000000) :
    Calls Try.prog 12 #[.slice (some ⟨g, 0, none⟩) n c, .int .i64 1] w fun e w' => e = .returned (.int .i64 (1 + (n : Int))) ∧ Bk w' g 5 (marks 1 n ++ r) ∧ w.grownBy w' (some g) := by
  refine (markByteS_any g n c 1 (l.map bv ++ r) w hb (fun j hj => ⟨((l[j]'(by omega)).toNat : Int), ?_⟩) (by simp; omega) hn (by omega)).mono fun e w' ⟨he, h1, h2⟩ => ⟨?_, ?_, h2⟩
  · rw [List.getElem?_append_left (by simp; omega), List.getElem?_map, List.getElem?_eq_getElem (by omega)]
    rfl
  · rw [he]; simp
  · rw [List.drop_append_of_le_length (by simp; omega), List.drop_eq_nil_of_le (by simp; omega), List.nil_append] at h1
    exact h1
theorem heldByteS_one (g n c : Nat) (r : List Value) (w : World) (hb : Bk w g 5 (marks 1 n ++ r)) (hn : n ≤ 400000000) :
    Calls Try.prog 13 #[.slice (some ⟨g, 0, none⟩) n c, .int .i64 1] w fun e w' => e = .returned (.int .i64 (1 + (n : Int))) ∧ w = w' :=
  (heldByteS_any g n c 1 r w hb hn (by omega)).mono fun e w' ⟨he, h1⟩ => ⟨by rw [he]; simp, h1⟩

end Go.Proofs.Ytkfibepejlgniaa.Eq
