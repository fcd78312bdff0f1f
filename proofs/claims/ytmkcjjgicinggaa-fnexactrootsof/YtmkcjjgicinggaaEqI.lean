/- What eqIntS does on two slices that read the same: it returns true and turns nothing. Condition: fewer than 400000001 ints. -/
import Derived.Test.YtmkcjjgicinggaaMemI
import Derived.Deep.QuietTactic
import Derived.BigQuiet
namespace Go.Proofs.Ytmkcjjgicinggaa.EqI
open Go.RowKit Go.Proofs.Ytmkcjjgicinggaa.Mem Go.Proofs.Ytmkcjjgicinggaa.MemI

set_option maxHeartbeats 1000000 in
theorem eqIntS_same (A A' : Option Addr) (n c c' : Nat) (l : List Int) (w : World) (hs : Si w A n l) (hs' : Si w A' n l) (hn : n ≤ 400000000) :
    Calls Try.prog 8 #[.slice A n c, .slice A' n c'] w fun e w' => e = .returned (.bool true) ∧ Below w.heap.size w w' := by
  have HL := Lib.hid hs.1
  have hd : ((n : Int) != (n : Int)) = false := by simp
  go_enter Try.func8, Try.ntmps8
  go_wp2
  go_loopw [5] (fun i wr => ∃ k : Nat, k ≤ n ∧ i = .int .i64 k ∧ Hid (∃ q, wr = w.drewN q)) (fun i _ => n - (intOf i).toNat)
  case atStart => exact ⟨0, Nat.zero_le _, rfl, ⟨0, rfl⟩⟩
  case round =>
    obtain ⟨k, hk, rfl, HW⟩ := hrel
    obtain ⟨q, rfl⟩ := HW.out
    clear HW
    by_cases hlt : k < n
    · obtain ⟨b, off, rfl, hbB, hcs⟩ := hs.2 (by omega)
      obtain ⟨b', off', rfl, hbB', hcs'⟩ := hs'.2 (by omega)
      have hkl : k < l.length := by rw [HL.out]; exact hlt
      have hx : w.cell? ⟨b, off + k, none⟩ = some (.int .i64 l[k]) := hcs k hkl
      have hy : w.cell? ⟨b', off' + k, none⟩ = some (.int .i64 l[k]) := hcs' k hkl
      have hbb : (l[k] != l[k]) = false := by simp
      clear hcs hcs' hs hs'
      go_wp2
      go_quiet (fail)
      go_wp2
      go_roundw
      case rel => exact ⟨k + 1, by omega, by go_num, ⟨_, rfl⟩⟩
      case measure => simp [intOf]; omega
    · go_wp2
      go_ret
      exact ⟨rfl, drewN_below _ _ _⟩
end Go.Proofs.Ytmkcjjgicinggaa.EqI
