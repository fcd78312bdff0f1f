/- What the program's GetName and JumpsIn do: they read a name as WireMath tells, and turn nothing that was there. Conditions: at most 400000000 bytes; the library's variable internal/bytealg.MaxLen holds an int. -/
import Derived.Test.YtkfibepejlgniaaGreatDoorWalkName
namespace Go.Proofs.YtkfibepejlgniaaGreatDoor.NameGet
open Go.RowKit Go.Proofs.YtkfibepejlgniaaGreatDoor.Mem Go.Proofs.YtkfibepejlgniaaGreatDoor.MemS Go.Proofs.YtkfibepejlgniaaGreatDoor.AppS Go.Proofs.YtkfibepejlgniaaGreatDoor.JoinSpec Go.Proofs.YtkfibepejlgniaaGreatDoor.Labels Go.Proofs.YtkfibepejlgniaaGreatDoor.NameOk Go.Proofs.YtkfibepejlgniaaGreatDoor.WireMath Go.Proofs.YtkfibepejlgniaaGreatDoor.WalkSpec Go.Proofs.YtkfibepejlgniaaGreatDoor.WalkName

set_option maxRecDepth 100000 in
set_option maxHeartbeats 2000000 in
theorem getName (A : Option Addr) (n c : Nat) (l : List UInt8) (k0 : Int) (w : World) (R : Nat × List ByteArray × Int × Nat) (hR : rn l [] k0 k0 0 (-1) = R) (he : Env w) (hs : Sl w w.heap.size A n l) (hn : n ≤ 400000000) (hnc : n ≤ c) :
    Calls Tryz.prog 98 #[.slice A n c, .int .i64 k0] w fun e w' => e = .returned (val3 R) ∧ Below w.heap.size w w' := by
  have HW := Lib.hid (walkName A n c l k0 w R hR he hs hn hnc)
  obtain ⟨c0, L0, x0, j0⟩ := R
  have HF := Lib.hid (rn_fail hR)
  clear hs hR he
  unfold val3
  dsimp only
  go_enter Tryz.func98, Tryz.ntmps98
  go_wp2_with fail
  refine HW.out.mono ?_
  rintro e w1 ⟨A', n', c', k, m, a, rfl, hgood, hl⟩
  dsimp only at hgood ⊢
  have L1 := Lib.hid hl
  clear hl HW
  by_cases hc : c0 = 0
  · obtain ⟨hss, hnc', hok, hn6, hk0, hk1, hx⟩ := hgood hc
    subst hc
    have SS := Lib.hid hss
    have HX := Lib.hid hx
    have HSM : Hid (L0.length + (L0.map (·.size)).sum ≤ 100) := sum_small hok (by have := hss.1; omega)
    clear hss hx hgood hok
    go_wp2_with fail
    refine (Join.impl A' n' c' L0 _ ((SS.out.below ((Below.refl _ _).alloc (Nat.le_refl _) _)).wider (by simp)) hnc' (by have := HSM.out; omega)).mono ?_
    rintro e w2 ⟨rfl, hl⟩
    have L2 := Lib.hid ((L1.out.alloc L1.out.size (.cells #[.slice A' n' c', .int .i64 k, .int .i64 m, .int .i64 (j0 : Int), .int .i64 a] 144)).trans (hl.mono (by have := L1.out.size; simp; omega)))
    have B2 : Hid (Bk w2 w1.heap.size 144 [.slice A' n' c', .int .i64 k, .int .i64 m, .int .i64 (j0 : Int), .int .i64 a]) := Bk.below (heap_alloc_new w1 _) hl (by simp)
    have h1 : w2.cell? ⟨w1.heap.size, 1, none⟩ = some (.int .i64 k) := by rw [B2.out.cell]; rfl
    have h3 : w2.cell? ⟨w1.heap.size, 3, none⟩ = some (.int .i64 (j0 : Int)) := by rw [B2.out.cell]; rfl
    have h4 : w2.cell? ⟨w1.heap.size, 4, none⟩ = some (.int .i64 a) := by rw [B2.out.cell]; rfl
    clear hl
    generalize hT : Jo L0 = T at *
    have HT := Lib.hid hT
    clear hT
    by_cases hj : 0 < j0
    · have HX2 : Hid (x0 = a) := HX.out.trans (if_pos hj)
      clear HX
      go_wp2
      go_quiet (fail)
      go_wp2
      go_ret3
      rw [HX2.out, HT.out]
      exact ⟨rfl, L2.out.trans (drewN_below _ _ _)⟩
    · have HX2 : Hid (x0 = k + 1) := HX.out.trans (if_neg hj)
      have hj0 : j0 = 0 := by omega
      subst hj0
      clear HX
      have e1 : IntKind.i64.wrap (k + 1) = k + 1 := IntWalk.i64_in _ (by omega)
      go_wp2
      go_quiet (fail)
      go_wp2
      go_ret3
      rw [HX2.out, HT.out]
      exact ⟨rfl, L2.out.trans (drewN_below _ _ _)⟩
  · obtain ⟨rfl, rfl⟩ := HF.out hc
    have hc2 : ((c0 : Int) != 0) = true := by simp; omega
    clear hgood HF
    go_wp2
    go_ret3
    exact ⟨rfl, L1.out.alloc L1.out.size _⟩
end Go.Proofs.YtkfibepejlgniaaGreatDoor.NameGet
