/- What LabelOk does in the program and in the model: it tells whether a text has 1 to 12 bytes, each of them a small letter, a digit, '-' or '_'. No condition but that the text is no longer than Go lets it be. -/
import Derived.Test.YtmkcjjgicinggaaGreatDoorMem
namespace Go.Proofs.YtmkcjjgicinggaaGreatDoor.Label
open Go.RowKit Go.Proofs.YtmkcjjgicinggaaGreatDoor.Mem

/-- A sign that a label may hold. -/
def okC (c : Int) : Bool := decide ((97 ≤ c ∧ c ≤ 122) ∨ (48 ≤ c ∧ c ≤ 57) ∨ c = 45 ∨ c = 95)
def okB (x : UInt8) : Bool := okC (x.toNat : Int)
/-- The bytes of a label. -/
def lok (l : List UInt8) : Bool := decide (1 ≤ l.length ∧ l.length ≤ 12) && l.all okB

theorem okC_high (c : Int) (h : 128 ≤ c) : okC c = false := by unfold okC; simp; omega

theorem ret_bool {a b : Bool} (h : a = b) : Ending.returned (.bool a) = .returned (.bool b) := by rw [h]

set_option maxHeartbeats 1000000 in
theorem labelRune_any (c : Int) (w : World) : Calls Tryz.prog 231 #[.int .i32 c] w fun e w' => e = .returned (.bool (okC c)) ∧ w = w' := by
  go_enter Tryz.func231, Tryz.ntmps231
  go_wp2
  all_goals
    go_ret
    refine ⟨ret_bool ?_, rfl⟩
    first | (simp [okC]; done) | (simp [okC]; omega) | (rw [Bool.eq_iff_iff]; simp [okC]; omega)

set_option maxHeartbeats 1000000 in
theorem l1In_any (x a b : Int) (w : World) : Calls Tryz.prog 74 #[.int .i64 x, .int .i64 a, .int .i64 b] w fun e w' => e = .returned (.bool (decide (a ≤ x ∧ x ≤ b))) ∧ w = w' := by
  go_enter Tryz.func74, Tryz.ntmps74
  go_wp2
  all_goals
    go_ret
    refine ⟨ret_bool ?_, rfl⟩
    first | (simp; done) | (simp; omega) | (rw [Bool.eq_iff_iff]; simp; omega)

set_option maxHeartbeats 1000000 in
theorem l2Byte_any (x : UInt8) (w : World) : Calls Tryz.prog 222 #[.int .u8 (x.toNat : Int)] w fun e w' => e = .returned (.bool (okB x)) ∧ w = w' := by
  have hx : (x.toNat : Int) < 256 := by have := x.toNat_lt; omega
  unfold okB
  generalize hc : (x.toNat : Int) = c at *
  have h0 : 0 ≤ c := by omega
  clear hc
  go_enter Tryz.func222, Tryz.ntmps222
  by_cases h1 : 97 ≤ c ∧ c ≤ 122 <;> by_cases h2 : 48 ≤ c ∧ c ≤ 57
  all_goals
    have d1 := decide_eq_true (p := 97 ≤ c ∧ c ≤ 122)
    clear d1
    go_wp2_with (go_at_call 74; refine (l1In_any _ _ _ _).mono ?_; rintro e w' ⟨rfl, rfl⟩)
    all_goals
      go_ret
      refine ⟨ret_bool ?_, rfl⟩
      first | (simp [okC]; done) | (simp [okC]; omega) | (rw [Bool.eq_iff_iff]; simp [okC]; omega)

set_option maxHeartbeats 1000000 in
theorem spec_any (s : ByteArray) (w : World) (hs : s.size ≤ 140737488355328) : Calls Tryz.prog 180 #[.string s] w fun e w' => e = .returned (.bool (lok s.data.toList)) ∧ w = w' := by
  go_enter Tryz.func180, Tryz.ntmps180
  go_wp2
  go_loop [3] (fun i => ∃ k : Nat, k ≤ s.size ∧ i = .int .i64 k ∧ Hid ((s.data.toList.take k).all okB = true)) (fun i => s.size - (intOf i).toNat)
  case atStart => exact ⟨0, Nat.zero_le _, rfl, rfl⟩
  case round =>
    obtain ⟨k, hk, rfl, HA⟩ := hrel
    by_cases hlt : k < s.size
    · have hlen : k < s.data.toList.length := by simpa using hlt
      have HS : Hid ((s.data.toList.take (k + 1)).all okB = okB s[k]) := by
        show _ = _
        rw [List.take_succ_eq_append_getElem hlen, List.all_append, HA.out]
        simp
        rfl
      cases hb : okB s[k]
      · have HB := Lib.hid hb
        clear hb
        go_wp2_with (go_at_call 222; refine (l2Byte_any _ _).mono ?_; rintro e w' ⟨rfl, rfl⟩; rw [HB.out])
        go_ret
        refine ⟨ret_bool ?_, rfl⟩
        have : s.data.toList.all okB = false := by
          rw [← List.take_append_drop (k + 1) s.data.toList, List.all_append, HS.out, HB.out]; rfl
        rw [lok, this, Bool.and_false]
      · have HB := Lib.hid hb
        clear hb
        go_wp2_with (go_at_call 222; refine (l2Byte_any _ _).mono ?_; rintro e w' ⟨rfl, rfl⟩; rw [HB.out])
        go_round
        case rel => exact ⟨k + 1, by omega, by go_num, by show _ = _; rw [HS.out, HB.out]⟩
        case measure => simp [intOf]; omega
    · go_wp2_with (go_at_call 74; refine (l1In_any _ _ _ _).mono ?_; rintro e w' ⟨rfl, rfl⟩)
      go_ret
      refine ⟨ret_bool ?_, rfl⟩
      have := HA.out
      rw [List.take_of_length_le (by simp; omega)] at this
      rw [lok, this, Bool.and_true]
      rw [Bool.eq_iff_iff]
      simp only [Bool.and_eq_true, decide_eq_true_eq]
      have : s.data.toList.length = s.size := by simp
      omega

set_option maxHeartbeats 1000000 in
theorem impl_any (s : ByteArray) (w : World) (hs : s.size ≤ 140737488355328) : Calls Tryz.prog 211 #[.string s] w fun e w' => e = .returned (.bool (lok s.data.toList)) ∧ Below w.heap.size w w' := by
  have hsz : s.data.toList.length = s.size := by simp
  have HZ := Lib.hid hsz
  clear hsz
  by_cases h1 : s.size < 1 ∨ 12 < s.size
  · have HL : Hid (lok s.data.toList = false) := by
      show _ = _
      rw [lok, Bool.and_eq_false_iff]
      left
      simp only [decide_eq_false_iff_not]
      rw [HZ.out]
      omega
    rcases (show s.size < 1 ∨ (¬ s.size < 1 ∧ 12 < s.size) by omega) with h2 | ⟨h2, h3⟩
    all_goals
      clear h1
      go_enter Tryz.func211, Tryz.ntmps211
      go_wp2
      go_ret
      exact ⟨ret_bool HL.out.symm, Below.refl _ _⟩
  · obtain ⟨h2, h3⟩ : ¬ s.size < 1 ∧ s.size ≤ 12 := by omega
    clear h1
    have HL : Hid (lok s.data.toList = s.data.toList.all okB) := by
      show _ = _
      rw [lok, HZ.out, decide_eq_true (by omega), Bool.true_and]
    go_enter Tryz.func211, Tryz.ntmps211
    go_wp2
    go_loopw [4] (fun _ wr => ∃ k : Nat, k ≤ s.size ∧ wr = w.iter s k ∧ Hid ((s.data.toList.take k).all okB = true)) (fun _ wr => s.size - wr.iterPos w.heap.size)
    case atStart => exact ⟨0, Nat.zero_le _, rfl, rfl⟩
    case round =>
      obtain ⟨k, hk, rfl, HA⟩ := hrel
      have HB0 : Hid (∀ k', Below w.heap.size w (w.iter s k')) := fun k' => (Below.refl _ _).alloc (Nat.le_refl _) _
      by_cases hlt : k < s.size
      · have hlen : k < s.data.toList.length := by simpa using hlt
        have HS : Hid ((s.data.toList.take (k + 1)).all okB = okB s[k]) := by
          show _ = _
          rw [List.take_succ_eq_append_getElem hlen, List.all_append, HA.out]
          simp
          rfl
        have HF : Hid (okB s[k] = false → s.data.toList.all okB = false) := fun hb => by
          rw [← List.take_append_drop (k + 1) s.data.toList, List.all_append, HS.out, hb]; rfl
        by_cases hasc : s[k].toNat < 128
        · have hnx : ∀ ty, (Instr.next (.pointer (some ⟨w.heap.size, 0, none⟩)) true ty).run Tryz.prog (w.iter s k) = _ := fun ty => run_next_ascii w s k ty hlt hasc
          cases hb : okB s[k]
          · have HB : Hid (okC (s[k].toNat : Int) = false) := hb
            clear hb
            go_wp2_with (go_at_call 231; refine (labelRune_any _ _).mono ?_; rintro e w' ⟨rfl, rfl⟩; rw [HB.out])
            go_ret
            exact ⟨ret_bool (by rw [HL.out, HF.out HB.out]), HB0.out _⟩
          · have HB : Hid (okC (s[k].toNat : Int) = true) := hb
            clear hb
            go_wp2_with (go_at_call 231; refine (labelRune_any _ _).mono ?_; rintro e w' ⟨rfl, rfl⟩; rw [HB.out])
            go_roundw
            case rel => exact ⟨k + 1, by omega, rfl, by show _ = _; rw [HS.out]; exact HB.out⟩
            case measure => simp; omega
        · have hnx : ∀ ty, (Instr.next (.pointer (some ⟨w.heap.size, 0, none⟩)) true ty).run Tryz.prog (w.iter s k) = _ := fun ty => run_next_any w s k ty hlt
          have HB : Hid (okC ((Utf8.decode s k).1 : Int) = false) := okC_high _ (by have := (decode_high s k hlt (by omega)).1; omega)
          have HC : Hid (okB s[k] = false) := okC_high _ (by omega)
          go_wp2_with (go_at_call 231; refine (labelRune_any _ _).mono ?_; rintro e w' ⟨rfl, rfl⟩; rw [HB.out])
          go_ret
          exact ⟨ret_bool (by rw [HL.out, HF.out HC.out]), HB0.out _⟩
      · have hnx : ∀ ty, (Instr.next (.pointer (some ⟨w.heap.size, 0, none⟩)) true ty).run Tryz.prog (w.iter s k) = _ := fun ty => run_next_end w s k ty hlt
        go_wp2
        go_ret
        have := HA.out
        rw [List.take_of_length_le (by simp; omega)] at this
        exact ⟨ret_bool (by rw [HL.out, this]), HB0.out _⟩
end Go.Proofs.YtmkcjjgicinggaaGreatDoor.Label
