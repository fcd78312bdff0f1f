/- What LeastTtl does in the program and in the model: the least time to live, 0 of no records. Condition: fewer than 400000001 records. -/
import Derived.Test.YtaahaepgabcebaaSetMath
namespace Go.Proofs.Ytaahaepgabcebaa.Lt
open Go.RowKit Go.Proofs.Ytaahaepgabcebaa.Mem Go.Proofs.Ytaahaepgabcebaa.MemR Go.Proofs.Ytaahaepgabcebaa.SetMath

set_option maxHeartbeats 1000000 in
theorem least (a b : Int) (w : World) : Calls Try.prog 53 #[.int .i64 a, .int .i64 b] w fun e w' => e = .returned (.int .i64 (if b < a then b else a)) ∧ Below w.heap.size w w' := by
  by_cases h : a < b
  · have h' : ¬ b < a := by omega
    go_enter Try.func53, Try.ntmps53
    go_wp2
    go_ret
    exact ⟨rfl, Below.refl _ _⟩
  · by_cases h' : b < a
    · go_enter Try.func53, Try.ntmps53
      go_wp2
      go_ret
      exact ⟨rfl, Below.refl _ _⟩
    · obtain rfl : a = b := by omega
      go_enter Try.func53, Try.ntmps53
      go_wp2
      go_ret
      exact ⟨rfl, Below.refl _ _⟩

set_option maxHeartbeats 1000000 in
theorem spec (A : Option Addr) (n c : Nat) (l : List Rec) (w : World) (hs : Sr w w.heap.size A n l) (hn : n ≤ 400000000) :
    Calls Try.prog 23 #[.slice A n c] w fun e w' => e = .returned (.int .i64 (mn l)) ∧ Below w.heap.size w w' := by
  have HS := Lib.hid hs
  clear hs
  go_enter Try.func23, Try.ntmps23
  go_wp2
  go_loopw [3, 4] (fun m i wr => ∃ k : Nat, ∃ x : Int, k ≤ n ∧ i = .int .i64 k ∧ m = .int .i64 x ∧ Hid (x = mn (l.take k)) ∧ Hid (Below w.heap.size w wr)) (fun _ i _ => n - (intOf i).toNat)
  case atStart => exact ⟨0, 0, Nat.zero_le _, rfl, rfl, rfl, Below.refl _ _⟩
  case round =>
    obtain ⟨k, x, hk, rfl, rfl, HX, HL⟩ := hrel
    by_cases hlt : k < n
    · obtain ⟨b, off, rfl, hbB, hcs⟩ := HS.out.2 (by omega)
      have hkl : k < l.length := by rw [HS.out.1]; exact hlt
      have e2 := ((hcs k hkl).below HL.out hbB).2.2.1
      clear hcs
      by_cases h0 : k = 0
      · subst h0
        have HM := Lib.hid (mn_first l hkl)
        generalize l[0] = r at *
        go_wp2
        go_roundw
        case rel => exact ⟨1, r.ttl, by omega, by go_num, rfl, HM.out.symm, HL.out⟩
        case measure => simp [intOf]; omega
      · have HM := Lib.hid (mn_take l k hkl (by omega))
        have hkk : ((k : Int) == 0) = false := by simp; omega
        generalize l[k] = r at *
        by_cases hc : r.ttl < x
        · go_wp2
          go_roundw
          case rel => exact ⟨k + 1, r.ttl, by omega, by go_num, rfl, by show _ = _; rw [HM.out, ← HX.out, if_pos hc], HL.out⟩
          case measure => simp [intOf]; omega
        · go_wp2
          go_roundw
          case rel => exact ⟨k + 1, x, by omega, by go_num, rfl, by show _ = _; rw [HM.out, ← HX.out, if_neg hc], HL.out⟩
          case measure => simp [intOf]; omega
    · obtain rfl : n = k := by omega
      have HN := Lib.hid (take_all HS.out.1)
      go_wp2
      go_ret
      exact ⟨by rw [HX.out, HN.out]; rfl, HL.out⟩

set_option maxHeartbeats 2000000 in
theorem impl (A : Option Addr) (n c : Nat) (l : List Rec) (w : World) (hs : Sr w w.heap.size A n l) (hn : n ≤ 400000000) :
    Calls Try.prog 17 #[.slice A n c] w fun e w' => e = .returned (.int .i64 (mn l)) ∧ Below w.heap.size w w' := by
  have HS := Lib.hid hs
  clear hs
  by_cases h0 : n = 0
  · subst h0
    have hl : l = [] := List.eq_nil_of_length_eq_zero HS.out.1
    subst hl
    go_enter Try.func17, Try.ntmps17
    go_wp2
    go_ret
    exact ⟨rfl, Below.refl _ _⟩
  · have hn0 : ((n : Int) == 0) = false := by simp; omega
    obtain ⟨b, off, rfl, hbB, hcs⟩ := HS.out.2 (by omega)
    have hl0 : 0 < l.length := by rw [HS.out.1]; omega
    have HB := Lib.hid hbB
    have C := Lib.hid hcs
    have d2 : w.cell? ⟨b, off + 2, none⟩ = some (.int .i64 l[0].ttl) := by have := (hcs 0 hl0).2.2.1; simpa using this
    have HM := Lib.hid (mnl_self l hl0)
    clear hcs hbB
    generalize hm0 : l[0].ttl = m0 at *
    clear hm0
    go_enter Try.func17, Try.ntmps17
    go_wp2
    clear d2
    go_loopw [3, 15] (fun m i wr => ∃ k : Nat, ∃ x : Int, k ≤ n ∧ i = .int .i64 k ∧ m = .int .i64 x ∧ Hid (x = mnl m0 (l.take k)) ∧ Hid (Below w.heap.size w wr)) (fun _ i _ => n - (intOf i).toNat)
    case atStart => exact ⟨0, m0, Nat.zero_le _, rfl, rfl, rfl, Below.refl _ _⟩
    case round =>
      obtain ⟨k, x, hk, rfl, rfl, HX, HL⟩ := hrel
      by_cases hlt : k < n
      · have hkl : k < l.length := by rw [HS.out.1]; exact hlt
        have HK := Lib.hid (mnl_take m0 l k hkl)
        obtain ⟨e0, e1, e2, e3, e4, e5⟩ := (C.out k hkl).below HL.out HB.out
        generalize l[k] = r at *
        go_wp2_with fail
        refine (least x r.ttl _).mono ?_
        rintro e w1 ⟨rfl, hl⟩
        have L1 := Lib.hid (HL.out.trans ((((Below.refl _ _).alloc (Nat.le_refl _) _).trans (hl.mono (by simp))).mono HL.out.size))
        clear hl
        go_wp2
        go_roundw
        case rel => exact ⟨k + 1, _, by omega, by go_num, rfl, by show _ = _; rw [HK.out, ← HX.out], L1.out⟩
        case measure => simp [intOf]; omega
      · obtain rfl : n = k := by omega
        have HN := Lib.hid (take_all HS.out.1)
        go_wp2
        go_ret
        exact ⟨by rw [HX.out, HN.out, HM.out]; rfl, HL.out⟩
end Go.Proofs.Ytaahaepgabcebaa.Lt
