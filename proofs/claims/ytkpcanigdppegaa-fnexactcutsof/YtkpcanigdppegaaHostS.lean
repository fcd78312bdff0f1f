/- What Hosts does in the model. Condition: fewer than 400000001 records. -/
import Derived.Test.YtkpcanigdppegaaIsin
import Derived.Test.YtkpcanigdppegaaAppS
namespace Go.Proofs.Ytkpcanigdppegaa.HostS
open Go.RowKit Go.Proofs.Ytkpcanigdppegaa.Mem Go.Proofs.Ytkpcanigdppegaa.MemR Go.Proofs.Ytkpcanigdppegaa.SetMath Go.Proofs.Ytkpcanigdppegaa.Isin Go.Proofs.Ytkpcanigdppegaa.MemS Go.Proofs.Ytkpcanigdppegaa.AppS

theorem grown_of_below {w w' : World} (h : Below w.heap.size w w') (r : Option Nat) : w.grownBy w' r := ⟨h.os, h.tape, h.output, h.size, fun k hk _ => h.block k hk⟩

set_option maxHeartbeats 1000000 in
theorem has (A : Option Addr) (n c : Nat) (l : List ByteArray) (x : ByteArray) (w : World) (hs : Ss w w.heap.size A n l) (hn : n ≤ 400000000) :
    Calls Try.prog 41 #[.slice A n c, .string x] w fun e w' => e = .returned (.bool (isin l x)) ∧ Below w.heap.size w w' := by
  have HS := Lib.hid hs
  clear hs
  go_enter Try.func41, Try.ntmps41
  go_wp2
  go_loopw [5] (fun i wr => ∃ k : Nat, k ≤ n ∧ i = .int .i64 k ∧ Hid (x ∉ l.take k) ∧ Hid (Below w.heap.size w wr)) (fun i _ => n - (intOf i).toNat)
  case atStart => exact ⟨0, Nat.zero_le _, rfl, not_zero l x, Below.refl _ _⟩
  case round =>
    obtain ⟨k, hk, rfl, HX, HL⟩ := hrel
    by_cases hlt : k < n
    · obtain ⟨b, off, rfl, hbB, hcs⟩ := HS.out.2 (by omega)
      have hkl : k < l.length := by rw [HS.out.1]; exact hlt
      have e0 : wr.cell? ⟨b, off + k, none⟩ = some (.string l[k]) := (HL.out.cell (p := ⟨b, off + k, none⟩) hbB).trans (hcs k hkl)
      clear hcs
      have HI := Lib.hid (isin_at l x k hkl)
      have HO := Lib.hid (not_next l x k hkl)
      generalize l[k] = y at *
      by_cases hne : y = x
      · have HT := Lib.hid (HI.out hne)
        subst hne
        have q1 : (y.toList == y.toList) = true := by simp
        have q2 : (y.data.toList == y.data.toList) = true := by simp
        go_wp2
        go_ret
        exact ⟨by rw [HT.out]; rfl, HL.out⟩
      · have HN := Lib.hid (HO.out HX.out hne)
        have q1 : (y.toList == x.toList) = false := bytes_ne hne
        have q2 : (y.data.toList == x.data.toList) = false := by rw [← ByteArray.toList_eq, ← ByteArray.toList_eq]; exact q1
        clear hne
        go_wp2
        go_roundw
        case rel => exact ⟨k + 1, by omega, by go_num, HN.out, HL.out⟩
        case measure => simp [intOf]; omega
    · obtain rfl : n = k := by omega
      have HF : Hid (isin l x = false) := isin_false (by rw [take_all HS.out.1] at HX; exact HX.out)
      go_wp2
      go_ret
      exact ⟨by rw [HF.out]; rfl, HL.out⟩

end Go.Proofs.Ytkpcanigdppegaa.HostS
