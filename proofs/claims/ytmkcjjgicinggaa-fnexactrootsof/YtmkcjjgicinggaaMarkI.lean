/- What the law's own helpers markIntS and heldIntS do: every element becomes its number; they are found again. Condition: fewer than 2000001 ints. -/
import Derived.Test.YtmkcjjgicinggaaMemI
namespace Go.Proofs.Ytmkcjjgicinggaa.MarkI
open Go.RowKit Go.Proofs.Ytmkcjjgicinggaa.Mem Go.Proofs.Ytmkcjjgicinggaa.MemI

/-- The marks: k, k + 1 and so on. -/
def nums (k n : Nat) : List Int := (List.range n).map (fun j => ((k + j : Nat) : Int))
theorem nums_len (k n : Nat) : (nums k n).length = n := by simp [nums]
theorem nums_at (k n j : Nat) (h : j < n) : (nums k n)[j]? = some ((k + j : Nat) : Int) := by simp [nums, h]
theorem nums_snoc (k n : Nat) : nums k (n + 1) = nums k n ++ [((k + n : Nat) : Int)] := by simp [nums, List.range_succ]
theorem mark_step (cs : List Value) (k j n : Nat) (hj : j < n) (hn : n ≤ cs.length) :
    ((nums k j).map iv ++ cs.drop j).set j (Value.int .i64 ((k + j : Nat) : Int)) = (nums k (j + 1)).map iv ++ cs.drop (j + 1) := by
  rw [List.set_append_right _ _ (by rw [List.length_map, nums_len]; omega), List.length_map, nums_len, Nat.sub_self, List.drop_eq_getElem_cons (by omega), List.set_cons_zero, nums_snoc, List.map_append, List.append_assoc]
  rfl
theorem mark_at (cs : List Value) (k j : Nat) (hj : j < cs.length) : ((nums k j).map iv ++ cs.drop j)[j]? = some cs[j] := by
  rw [List.getElem?_append_right (by rw [List.length_map, nums_len]; omega), List.length_map, nums_len, Nat.sub_self, List.drop_eq_getElem_cons hj]
  rfl
theorem grown_set {w wr : World} {g : Nat} (h : w.grownBy wr (some g)) (j : Nat) (u : Value) : w.grownBy (wr.setCell ⟨g, j, none⟩ u) (some g) :=
  ⟨h.os, h.tape, h.output, by simpa [World.setCell] using h.size, fun k hk hne => by
    rw [Below.heap_setCell _ _ _ _ (fun e => hne (by simp [e]))]; exact h.block k hk hne⟩

set_option maxHeartbeats 1000000 in
theorem markIntS_one (g n c : Nat) (l : List Int) (r : List Value) (w : World) (hb : Bk w g 3 (l.map iv ++ r)) (hl : l.length = n) (hn : n ≤ 2000000) :
    Calls Try.prog 11 #[.slice (some ⟨g, 0, none⟩) n c, .int .i64 1] w fun e w' => e = .returned (.int .i64 (1 + (n : Int))) ∧ Bk w' g 3 ((nums 1 n).map iv ++ r) ∧ w.grownBy w' (some g) := by
  have HB := Lib.hid hb
  have HC : Hid ((l.map iv ++ r).drop n = r) := by
    show _ = _
    rw [List.drop_append_of_le_length (by rw [List.length_map, hl]; omega), List.drop_eq_nil_of_le (by rw [List.length_map, hl]; omega), List.nil_append]
  have HX : Hid (∀ j, j < n → ∃ x : Int, (l.map iv ++ r)[j]? = some (.int .i64 x)) := fun j hj => ⟨l[j]'(by omega), by
    rw [List.getElem?_append_left (by rw [List.length_map, hl]; exact hj), iv_get l j (by omega)]⟩
  have hle : Hid (n ≤ (l.map iv ++ r).length) := by show _ ≤ _; rw [List.length_append, List.length_map, hl]; omega
  clear hb hl
  generalize hcs : l.map iv ++ r = cs at *
  clear hcs
  go_enter Try.func11, Try.ntmps11
  go_wp2
  go_loopw [1, 5] (fun kk i wr => ∃ j u : Nat, j ≤ n ∧ i = .int .i64 j ∧ kk = .int .i64 (u : Int) ∧ Hid (u = 1 + j) ∧ Hid (Bk wr g 3 ((nums 1 j).map iv ++ cs.drop j)) ∧ Hid (w.grownBy wr (some g))) (fun _ i _ => n - (intOf i).toNat)
  case atStart => exact ⟨0, 1, Nat.zero_le _, rfl, rfl, rfl, HB.out, World.grownBy.refl _ _⟩
  case round =>
    obtain ⟨j, u, hj, rfl, rfl, HU, HJ, HG⟩ := hrel
    have hu : u ≤ 2000001 := by have := HU.out; omega
    by_cases hlt : j < n
    · obtain ⟨x, hxx⟩ := HX.out j hlt
      have hx : wr.cell? ⟨g, j, none⟩ = some (.int .i64 x) := by
        have := hle.out
        rw [HJ.out.cell, mark_at cs 1 j (by omega), ← hxx, List.getElem?_eq_getElem (by omega)]
      have hf : wr.frozen? ⟨g, j, none⟩ = false := HJ.out.free j
      clear hxx
      go_wp2
      go_roundw
      case rel =>
        refine ⟨j + 1, u + 1, by omega, by go_num, by go_num, by show _ = _; rw [HU.out]; omega, ?_, grown_set HG.out _ _⟩
        have := HJ.out.set j (.int .i64 ((1 + j : Nat) : Int))
        rw [mark_step cs 1 j n hlt hle.out, ← HU.out] at this
        exact this
      case measure => simp [intOf]; omega
    · obtain rfl : n = j := by omega
      go_wp2
      go_ret
      refine ⟨by rw [HU.out]; go_num, ?_, HG.out⟩
      have := HJ.out
      rw [HC.out] at this
      exact this

set_option maxHeartbeats 1000000 in
theorem heldIntS_one (g n c : Nat) (r : List Value) (w : World) (hb : Bk w g 3 ((nums 1 n).map iv ++ r)) (hn : n ≤ 2000000) :
    Calls Try.prog 12 #[.slice (some ⟨g, 0, none⟩) n c, .int .i64 1] w fun e w' => e = .returned (.int .i64 (1 + (n : Int))) ∧ Below w.heap.size w w' := by
  have HB := Lib.hid hb
  clear hb
  go_enter Try.func12, Try.ntmps12
  go_wp2
  go_loopw [1, 5] (fun kk i wr => ∃ j u : Nat, j ≤ n ∧ i = .int .i64 j ∧ kk = .int .i64 (u : Int) ∧ Hid (u = 1 + j) ∧ Hid (Below w.heap.size w wr)) (fun _ i _ => n - (intOf i).toNat)
  case atStart => exact ⟨0, 1, Nat.zero_le _, rfl, rfl, rfl, Below.refl _ _⟩
  case round =>
    obtain ⟨j, u, hj, rfl, rfl, HU, HW⟩ := hrel
    have hu : u ≤ 2000001 := by have := HU.out; omega
    by_cases hlt : j < n
    · have hx : wr.cell? ⟨g, j, none⟩ = some (.int .i64 (u : Int)) := by
        rw [(HB.out.below HW.out HB.out.lt).cell, List.getElem?_append_left (by rw [List.length_map, nums_len]; exact hlt), List.getElem?_map, nums_at 1 n j hlt, ← HU.out]
        rfl
      have hq : ((u : Int) != (u : Int)) = false := by simp
      go_wp2
      go_roundw
      case rel => exact ⟨j + 1, u + 1, by omega, by go_num, by go_num, by show _ = _; rw [HU.out]; omega, HW.out⟩
      case measure => simp [intOf]; omega
    · obtain rfl : n = j := by omega
      go_wp2
      go_ret
      exact ⟨by rw [HU.out]; go_num, HW.out⟩
end Go.Proofs.Ytmkcjjgicinggaa.MarkI
