/- What the model's Up does: it returns the text behind the first dot of its argument, none where there is no dot. Condition: at most 1048576 bytes. -/
import Derived.Test.YtebodggjcndbeaaDoorLabSpec
import Derived.Test.YtebodggjcndbeaaDoorNameMath
namespace Go.Proofs.YtebodggjcndbeaaDoor.Up
open Go.RowKit Go.Proofs.YtebodggjcndbeaaDoor.Mem Go.Proofs.YtebodggjcndbeaaDoor.MemS Go.Proofs.YtebodggjcndbeaaDoor.AppS Go.Proofs.YtebodggjcndbeaaDoor.JoinSpec Go.Proofs.YtebodggjcndbeaaDoor.Split Go.Proofs.YtebodggjcndbeaaDoor.JoinLab Go.Proofs.YtebodggjcndbeaaDoor.NameMath

/-- All labels but the first, joined. A def, so that no step of a walk opens it. -/
def Ab (s : ByteArray) : ByteArray := Jo ((Lab s).drop 1)
theorem sum_jo : ∀ L : List ByteArray, (L.map (·.size)).sum ≤ (jo L).length
  | [] => by simp
  | [x] => by
    have hz : x.data.toList.length = x.size := by simp
    simp [jo, Lib.join_one, hz]
  | x :: y :: r => by
    have ih := sum_jo (y :: r)
    have hz : x.data.toList.length = x.size := by simp
    have e : jo (x :: y :: r) = x.data.toList ++ 46 :: jo (y :: r) := by
      rw [jo, List.map_cons, join_more _ _ (by simp)]
      rfl
    rw [e, List.map_cons, List.sum_cons, List.length_append, hz, List.length_cons]
    omega
theorem lab_sum (s : ByteArray) : ((Lab s).map (·.size)).sum ≤ s.size := by
  have h := sum_jo (Lab s)
  have e : (jo (Lab s)).length = s.size := by rw [← Jo_size, jo_lab]
  omega
theorem drop_sum (L : List ByteArray) (k : Nat) : ((L.drop k).map (·.size)).sum ≤ (L.map (·.size)).sum := by
  conv => rhs; rw [← List.take_append_drop k L, List.map_append, List.sum_append]
  omega
/-- A block of texts, read as a slice over what is behind its first. -/
theorem bk_tail {w : World} {g n : Nat} {t : TypeId} {L : List ByteArray} {r : List Value} (h : Bk w g t (L.map tv ++ r)) (hn : L.length = n + 1) : Ss w w.heap.size (some ⟨g, 1, none⟩) n (L.drop 1) := by
  refine Ss.of g 1 rfl (by rw [List.length_drop, hn]; rfl) h.lt fun j hj => ?_
  have hj' : 1 + j < L.length := by rw [List.length_drop] at hj; omega
  rw [h.cell, List.getElem?_append_left (by simpa using hj'), tv_get L (1 + j) hj', List.getElem_drop]

set_option maxHeartbeats 1000000 in
theorem spec (s : ByteArray) (w : World) (hs : s.size ≤ 1048576) : Calls Tryd.prog 19 #[.string s] w fun e w' => e = .returned (.string (Ab s)) ∧ Below w.heap.size w w' := by
  have SP := Lib.hid (fun w => Labels.spec s w (by omega))
  have HU : Hid (Ab s = Jo ((Lab s).drop 1)) := rfl
  have hl1 := lab_len s
  have hl2 := lab_sum s
  generalize Ab s = U at *
  generalize Lab s = L at *
  have HN : Hid (L.length ≤ 1048577) := by show _ ≤ _; omega
  have HM : Hid ((L.map (·.size)).sum ≤ 1048576) := by show _ ≤ _; omega
  clear hl1 hl2
  go_enter Tryd.func19, Tryd.ntmps19
  go_wp2_with fail
  refine (SP.out w).mono ?_
  rintro e w1 ⟨g, n, c, r, rfl, hm, hc, hg, hk, hl⟩
  have NL := Lib.hid hm
  have hn : n ≤ 1048577 := by have := HN.out; omega
  have K1 := Lib.hid hk
  have L1 := Lib.hid hl
  clear hm hg hk hl
  by_cases h0 : n = 0
  · subst h0
    obtain rfl : L = [] := List.eq_nil_of_length_eq_zero NL.out
    go_wp2
    go_ret
    rw [HU.out]
    exact ⟨rfl, L1.out⟩
  · obtain ⟨m, rfl⟩ : ∃ m, n = m + 1 := ⟨n - 1, by omega⟩
    have hd : (((m + 1 : Nat) : Int) == 0) = false := by rw [beq_eq_false_iff_ne]; omega
    have JO : Hid (∀ A c, Ss w1 w1.heap.size A m (L.drop 1) → Calls Tryd.prog 27 #[.slice A m c] w1 fun e w' => e = .returned (.string U) ∧ w1 = w') := fun A c hS => by
      rw [HU.out]
      exact JoinSpec.any A m c (L.drop 1) w1 w1.heap.size hS (by
        have h1 := HN.out
        have h2 := HM.out
        have h3 := drop_sum L 1
        rw [List.length_drop]
        omega)
    by_cases hc1 : c = 1
    · have hm0 : m = 0 := by omega
      subst hm0 hc1
      have SS : Hid (Ss w1 w1.heap.size (some ⟨g, 0, none⟩) 0 (L.drop 1)) := ⟨by rw [List.length_drop, NL.out], fun h => absurd h (Nat.lt_irrefl _)⟩
      go_wp2_with fail
      refine (JO.out _ _ SS.out).mono ?_
      rintro e w2 ⟨rfl, rfl⟩
      go_wp2
      go_ret
      exact ⟨rfl, L1.out⟩
    · have hc2 : ¬ c - 1 = 0 := by omega
      have hc3 : (c - 1 == 0) = false := by rw [beq_eq_false_iff_ne]; omega
      go_wp2_with fail
      refine (JO.out _ _ (bk_tail K1.out NL.out)).mono ?_
      rintro e w2 ⟨rfl, rfl⟩
      go_wp2
      go_ret
      exact ⟨rfl, L1.out⟩
end Go.Proofs.YtebodggjcndbeaaDoor.Up
