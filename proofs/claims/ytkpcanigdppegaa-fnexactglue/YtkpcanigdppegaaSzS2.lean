/- What the law's own helper szStringS does, from any number on. -/
import Derived.Test.YtkpcanigdppegaaSzS
namespace Go.Proofs.Ytkpcanigdppegaa.SzS2
open Go.RowKit Go.Proofs.Ytkpcanigdppegaa.Mem Go.Proofs.Ytkpcanigdppegaa.MemS Go.Proofs.Ytkpcanigdppegaa.SzS

set_option maxHeartbeats 1000000 in
theorem szStringS_from (X : Int) (h0 : 0 ≤ X) (h1 : X ≤ 1048576) (A : Option Addr) (n c : Nat) (l : List ByteArray) (w : World) (B : Nat) (hs : Ss w B A n l) (hn : n ≤ 9223372036854775807) (hz : ∀ s ∈ l, s.size ≤ 9223372036854775807) :
    Calls Try.prog 21 #[.slice A n c, .int .i64 X] w (Sz l w) := by
  have HL := Lib.hid hs.1
  have HZ := Lib.hid hz
  clear hz
  by_cases hbig : (n : Int) ≤ X
  · go_enter Try.func21, Try.ntmps21
    go_wp2
    go_loop [1, 5] (fun r i => ∃ (k : Nat) (x : Int), k ≤ n ∧ i = .int .i64 k ∧ r = .int .i64 x ∧ 0 ≤ x ∧ x ≤ X ∧ Hid (x = X - (n : Int) - (tot (l.take k) : Int))) (fun _ i => n - (intOf i).toNat)
    case atStart => exact ⟨0, X - (n : Int), Nat.zero_le _, rfl, rfl, by omega, by omega, by show _ = _; simp [tot]⟩
    case round =>
      obtain ⟨k, x, hk, rfl, rfl, hx0, hx1, HX⟩ := hrel
      by_cases hlt : k < n
      · obtain ⟨b, off, rfl, hbB, hcs⟩ := hs.2 (by omega)
        have hkl : k < l.length := by rw [HL.out]; exact hlt
        have hx : w.cell? ⟨b, off + k, none⟩ = some (.string l[k]) := hcs k hkl
        have hsz := HZ.out l[k] (List.getElem_mem hkl)
        have HT := Lib.hid (tot_step l k hkl)
        have HE := Lib.hid (tot_le l k hkl)
        clear hcs hs
        by_cases hneg : x - (l[k].size : Int) < 0
        · go_wp2
          go_ret
          exact ⟨-1, rfl, fun h => by omega, rfl⟩
        · go_wp2
          go_round
          case rel => exact ⟨k + 1, x - (l[k].size : Int), by omega, by go_num, rfl, by omega, by omega, by show _ = _; rw [HT.out, HX.out]; omega⟩
          case measure => simp [intOf]; omega
      · go_wp2
        go_ret
        refine ⟨x, rfl, fun _ => ?_, rfl⟩
        have h1 := HX.out
        rw [List.take_of_length_le (by rw [HL.out]; omega)] at h1
        rw [HL.out]
        omega
  · go_enter Try.func21, Try.ntmps21
    go_wp2
    go_ret
    exact ⟨-1, rfl, fun h => by omega, rfl⟩

end Go.Proofs.Ytkpcanigdppegaa.SzS2
