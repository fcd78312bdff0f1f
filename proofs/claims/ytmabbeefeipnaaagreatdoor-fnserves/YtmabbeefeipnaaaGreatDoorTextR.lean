/- What textOk does in the program and l5Text in the model: whether a text has at most 12 bytes, each 33 to 126; and upTo. Condition: at most 2^47 bytes. -/
import Derived.Test.YtmabbeefeipnaaaGreatDoorFold
namespace Go.Proofs.YtmabbeefeipnaaaGreatDoor.TextR
open Go.RowKit Go.Proofs.YtmabbeefeipnaaaGreatDoor.Mem Go.Proofs.YtmabbeefeipnaaaGreatDoor.Label Go.Proofs.YtmabbeefeipnaaaGreatDoor.Fold

/-- A byte that a text may hold. -/
def pr (x : UInt8) : Bool := decide (33 ≤ (x.toNat : Int) ∧ (x.toNat : Int) ≤ 126)
/-- A valid text. A def, so that no step of a walk opens it. -/
def txo (s : ByteArray) : Bool := s.data.toList.all pr && decide (s.size ≤ 12)
/-- Whether a number lies between two. -/
def inn (x a b : Int) : Bool := decide (a ≤ x ∧ x ≤ b)
theorem all_step {s : ByteArray} {k : Nat} (h : k < s.size) (hk : (s.data.toList.take k).all pr = true) : (s.data.toList.take (k + 1)).all pr = pr s[k] := by
  rw [List.take_succ_eq_append_getElem (by simpa using h), List.all_append, hk]
  simp
  rfl
theorem all_bad {s : ByteArray} {k : Nat} (h : (s.data.toList.take (k + 1)).all pr = false) : txo s = false := by
  have : s.data.toList.all pr = false := by
    rw [← List.take_append_drop (k + 1) s.data.toList, List.all_append, h]; rfl
  rw [txo, this]; rfl
theorem all_good {s : ByteArray} {k : Nat} (h : (s.data.toList.take k).all pr = true) (hk : s.size ≤ k) : txo s = decide (s.size ≤ 12) := by
  rw [List.take_of_length_le (by simp; omega)] at h
  rw [txo, h]; rfl
theorem too_long {s : ByteArray} (h : 12 < s.size) : txo s = false := by
  rw [txo, decide_eq_false (by omega), Bool.and_false]

set_option maxHeartbeats 1000000 in
theorem upTo_any (x m : Int) (w : World) : Calls Tryz.prog 64 #[.int .i64 x, .int .i64 m] w fun e w' => e = .returned (.bool (inn x 0 m)) ∧ w = w' := by
  unfold inn
  go_enter Tryz.func64, Tryz.ntmps64
  go_wp2
  all_goals
    go_ret
    refine ⟨ret_bool ?_, rfl⟩
    first | (simp; done) | (simp; omega) | (rw [Bool.eq_iff_iff]; simp; omega)

set_option maxHeartbeats 1000000 in
theorem impl (s : ByteArray) (w : World) (hs : s.size ≤ 140737488355328) : Calls Tryz.prog 87 #[.string s] w fun e w' => e = .returned (.bool (txo s)) ∧ Below w.heap.size w w' := by
  by_cases hl : 12 < s.size
  · have HN := Lib.hid (too_long hl)
    go_enter Tryz.func87, Tryz.ntmps87
    go_wp2
    go_ret
    exact ⟨by rw [HN.out]; rfl, Below.refl _ _⟩
  · have hl' : ¬ (12 : Int) < (s.size : Int) := by omega
    obtain ⟨C, W1, r, hcv, hm, hb⟩ := conv s w
    have HM := Lib.hid hm
    have HB := Lib.hid hb
    clear hm hb
    go_enter Tryz.func87, Tryz.ntmps87
    go_wp2
    go_loop [4, 11] (fun _ i => ∃ k : Nat, k ≤ s.size ∧ i = .int .i64 k ∧ Hid ((s.data.toList.take k).all pr = true)) (fun _ i => s.size - (intOf i).toNat)
    case atStart => exact ⟨0, Nat.zero_le _, rfl, rfl⟩
    case round =>
      clear hcv
      obtain ⟨k, hk, rfl, HA⟩ := hrel
      by_cases hlt : k < s.size
      · have HS := Lib.hid (all_step hlt HA.out)
        have hkl : k < s.data.toList.length := by simpa using hlt
        have hcell := HM.out.cell k hkl
        have hx : (s.data.toList[k].toNat : Int) < 256 := by have := s.data.toList[k].toNat_lt; omega
        have HR : Hid (pr s[k] = decide (33 ≤ (s.data.toList[k].toNat : Int) ∧ (s.data.toList[k].toNat : Int) ≤ 126)) := rfl
        generalize hy : (s.data.toList[k].toNat : Int) = y at *
        clear hy
        by_cases hp : 33 ≤ y ∧ y ≤ 126
        · have HB' := Lib.hid (HR.out.trans (decide_eq_true hp))
          obtain ⟨h1, h2⟩ := hp
          go_wp2
          go_round
          case rel => exact ⟨k + 1, by omega, by go_num, by show _ = _; rw [HS.out, HB'.out]⟩
          case measure => simp [intOf]; omega
        · have HN := Lib.hid (all_bad (HS.out.trans (HR.out.trans (decide_eq_false hp))))
          by_cases h1 : y < 33
          · clear hp
            go_wp2
            go_ret
            exact ⟨by rw [HN.out]; rfl, HB.out⟩
          · have h2 : 126 < y := by omega
            clear hp
            go_wp2
            go_ret
            exact ⟨by rw [HN.out]; rfl, HB.out⟩
      · have HN := Lib.hid ((all_good HA.out (by omega)).trans (decide_eq_true (by omega)))
        go_wp2
        go_ret
        exact ⟨by rw [HN.out]; rfl, HB.out⟩

end Go.Proofs.YtmabbeefeipnaaaGreatDoor.TextR
