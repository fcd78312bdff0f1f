/- What slices.rotateCmpFunc does: two neighbouring ranges change places. -/
import Derived.Test.YtaahaepgabcebaaDoorSwapK
namespace Go.Proofs.YtaahaepgabcebaaDoor.RotK
open Go.RowKit Go.Sort Go.Shelf Go.Proofs.YtaahaepgabcebaaDoor.Merge Go.Proofs.YtaahaepgabcebaaDoor.SortK Go.Proofs.YtaahaepgabcebaaDoor.SwapK

section
variable {P : Program} {α : Type} [Inhabited α] {k : Nat}
/-- The row with [a, m) and [m, b) exchanged. -/
def Rot (enc : α → List Value) (k : Nat) (w0 : World) (blk off a m b : Nat) (d : Array α) (w' : World) : Prop := ∃ d', PermIn a b d d' ∧ Moved (rotI a m b) d d' ∧ SB enc k w0 blk off d' w'

set_option maxHeartbeats 4000000 in
set_option maxRecDepth 1000000 in
theorem rotate (F : Facts P k) (enc : α → List Value) (g : Nat) (cb : Array Value) (blk off cap a m b : Nat) (d0 d : Array α) (w0 w : World) (R : Row enc k w0 blk off d0) (hs : d.size = d0.size) (S : SB enc k w0 blk off d w) (h1 : a < m) (h2 : m < b) (h3 : b ≤ d.size) (hsz : d.size < 4611686018427387904) :
    Calls P 53 #[.slice (some ⟨blk, off, none⟩) d.size cap, .int .i64 a, .int .i64 m, .int .i64 b, .func (.func g) #[] cb] w fun e w' => e = .returned (.tuple #[]) ∧ Rot enc k w0 blk off a m b d w' := by
  have mixed := F.mixed; have t0 := F.t0; have a0 := F.a0; have z0 := F.z0; have v0 := F.v0; have t3 := F.t3; have a3 := F.a3; have z3 := F.z3; have v3 := F.v3; have t4 := F.t4; have a4 := F.a4; have z4 := F.z4; have v4 := F.v4; have tS := F.tS; have aS := F.aS; have zS := F.zS; have vS := F.vS; have tF := F.tF; have aF := F.aF; have zF := F.zF; have vF := F.vF; have aE := F.aE; have zE := F.zE
  have FG := F.fRot
  have eS : ∀ args w, (callFunc 55 args).run P w = .ok (.enter 55 args) w := enters_of F.fSwp (by kernel_rfl) rfl
  have S0 := Lib.hid S
  have HS := Lib.hid hs
  have I0 := Lib.hid (rot_start d a m b h1 h2 h3)
  clear S hs
  go_enter FG, Tryd.ntmps53
  go_wp2
  go_loopw [10, 11] (fun x y wr => ∃ (i j : Nat) (dk : Array α), x = .int .i64 i ∧ y = .int .i64 j ∧ 0 < i ∧ 0 < j ∧ i ≤ m ∧ a ≤ m - i ∧ m + j ≤ b ∧ Hid (dk.size = d.size) ∧ Hid (RotInv d dk a m b i j) ∧ Hid (SB enc k w0 blk off dk wr)) (fun x y _ => (intOf x).toNat + (intOf y).toNat)
  case atStart => exact ⟨m - a, b - m, d, by congr 1; omega, by congr 1; omega, by omega, by omega, by omega, by omega, by omega, rfl, I0.out, S0.out⟩
  case round =>
    clear S0 I0
    obtain ⟨i, j, dk, rfl, rfl, q1, q2, q3, q4, q5, HZ, I1, S1⟩ := hrel
    by_cases hij : i = j
    · subst hij
      have hne : ((i : Int) != (i : Int)) = false := by simp
      have hc := swapRange F enc g cb blk off cap (m - i) m i d0 dk w0 wr R (HZ.out.trans HS.out) S1.out (by omega) (by rw [HZ.out]; omega) (by rw [HZ.out]; exact hsz)
      rw [HZ.out, show ((m - i : Nat) : Int) = (m : Int) - (i : Int) by omega] at hc
      have HC := Lib.hid hc
      clear hc
      go_wp2_with fail
      refine HC.out.mono ?_
      rintro e w1 ⟨rfl, hw⟩
      have HW := Lib.hid hw
      clear hw
      go_wp2
      go_end0
      exact ⟨rfl, _, (rot_end I1.out).1, (rot_end I1.out).2, HW.out⟩
    · have hne : ((i : Int) != (j : Int)) = true := by rw [bne_iff_ne]; omega
      by_cases hlt : j < i
      · have hc := swapRange F enc g cb blk off cap (m - i) m j d0 dk w0 wr R (HZ.out.trans HS.out) S1.out (by omega) (by rw [HZ.out]; omega) (by rw [HZ.out]; exact hsz)
        rw [HZ.out, show ((m - i : Nat) : Int) = (m : Int) - (i : Int) by omega] at hc
        have HC := Lib.hid hc
        clear hc hij
        go_wp2_with fail
        refine HC.out.mono ?_
        rintro e w1 ⟨rfl, hw⟩
        have HW := Lib.hid hw
        clear hw
        go_wp2
        go_roundw
        case rel => exact ⟨i - j, j, _, by congr 1; omega, rfl, by omega, by omega, by omega, by omega, by omega, by show _ = _; rw [srng_size]; exact HZ.out, rot_big I1.out hlt, HW.out⟩
        case measure => simp [intOf]; omega
      · have hgt : i < j := by omega
        have hc := swapRange F enc g cb blk off cap (m - i) (m + j - i) i d0 dk w0 wr R (HZ.out.trans HS.out) S1.out (by omega) (by rw [HZ.out]; omega) (by rw [HZ.out]; exact hsz)
        rw [HZ.out, show ((m - i : Nat) : Int) = (m : Int) - (i : Int) by omega, show ((m + j - i : Nat) : Int) = (m : Int) + (j : Int) - (i : Int) by omega] at hc
        have HC := Lib.hid hc
        clear hc hij
        go_wp2_with fail
        refine HC.out.mono ?_
        rintro e w1 ⟨rfl, hw⟩
        have HW := Lib.hid hw
        clear hw
        go_wp2
        go_roundw
        case rel => exact ⟨i, j - i, _, rfl, by congr 1; omega, by omega, by omega, by omega, by omega, by omega, by show _ = _; rw [srng_size]; exact HZ.out, rot_small I1.out hgt, HW.out⟩
        case measure => simp [intOf]; omega
end
end Go.Proofs.YtaahaepgabcebaaDoor.RotK
