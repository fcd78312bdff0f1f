/- What PutRecords does in the program: a new slice that holds the old bytes and those of each valid record. Conditions: at most 1048576 bytes, as many records, as many bytes in each text; the library's variable internal/bytealg.MaxLen holds an int. -/
import Derived.Test.YtcpadkehalgddaaGreatDoorPutsS
import Derived.Test.YtcpadkehalgddaaGreatDoorRecP
namespace Go.Proofs.YtcpadkehalgddaaGreatDoor.PutsP
open Go.RowKit Go.Proofs.YtcpadkehalgddaaGreatDoor.Mem Go.Proofs.YtcpadkehalgddaaGreatDoor.MemR Go.Proofs.YtcpadkehalgddaaGreatDoor.App Go.Proofs.YtcpadkehalgddaaGreatDoor.Labels Go.Proofs.YtcpadkehalgddaaGreatDoor.PutO Go.Proofs.YtcpadkehalgddaaGreatDoor.FieldMath Go.Proofs.YtcpadkehalgddaaGreatDoor.DataS Go.Proofs.YtcpadkehalgddaaGreatDoor.PutsS

set_option maxRecDepth 100000 in
set_option maxHeartbeats 4000000 in
theorem impl (A A' : Option Addr) (n c n' c' : Nat) (l : List UInt8) (L : List Rec) (w : World) (he : Env w) (hs : Sl w w.heap.size A n l) (hnil : A = none → n = 0 ∧ c = 0) (hn : n ≤ 1048576) (hS : Sr w w.heap.size A' n' L) (hn' : n' ≤ 1048576) (hM : ∀ r ∈ L, Med r) :
    Calls Tryz.prog 17 #[.slice A n c, .slice A' n' c'] w (GivesO w (puts l L)) := by
  have HE := Lib.hid he
  have HS := Lib.hid hs
  have HN := Lib.hid hnil
  have SS := Lib.hid hS
  have HM := Lib.hid hM
  have HL := Lib.hid hS.1
  have ST := Lib.hid (puts_step l L)
  have PL := Lib.hid (fun k => puts_len (L.take k) l)
  have HZ := Lib.hid hs.1
  have HA : Hid (puts l L = puts l (L.take n')) := by show _ = _; rw [List.take_of_length_le (by rw [hS.1]; omega)]
  have H0 : Hid (puts l (L.take 0) = l) := rfl
  clear hs hnil hS hM he
  go_enter Tryz.func17, Tryz.ntmps17
  go_wp2_with fail
  refine (appendedO A none n c 0 0 l [] w HS.out Sl.nil HN.out (fun _ => ⟨rfl, rfl⟩) (by omega) (by omega)).mono ?_
  rintro e w1 ⟨g1, cap1, rfl, ho, hl⟩
  rw [show (l ++ ([] : List UInt8)).length = n from by rw [List.append_nil]; exact HZ.out] at ho ⊢
  rw [List.append_nil] at ho
  have O1 := Lib.hid ho
  have L1 := Lib.hid hl
  clear ho hl
  go_wp2
  go_loopw [5, 12] (fun v i wr => ∃ (k g m cap : Nat), k ≤ n' ∧ m ≤ 1048576 + 173 * k ∧ i = .int .i64 (k : Int) ∧ v = .slice (some ⟨g, 0, none⟩) m cap ∧ Hid (wr.ownsRow w.heap.size 5 1 (.slice (some ⟨g, 0, none⟩) m cap) m ((puts l (L.take k)).map bv)) ∧ Hid (Below w.heap.size w wr)) (fun _ i _ => n' - (intOf i).toNat)
  case atStart => exact ⟨0, g1, n, cap1, Nat.zero_le _, by omega, rfl, rfl, by rw [H0.out]; exact O1.out, L1.out⟩
  case round =>
    clear O1 L1
    obtain ⟨k, g, m, cap, hk, hm, rfl, rfl, HO, HB⟩ := hrel
    by_cases hlt : k < n'
    · have hkl : k < L.length := by rw [HL.out]; exact hlt
      obtain ⟨b, off, rfl, hbB, hcs⟩ := SS.out.2 (by omega)
      obtain ⟨e0, e1, e2, e3, e4, e5⟩ := (hcs k hkl).below HB.out hbB
      have HQ := Lib.hid (ST.out k hkl)
      have HP := PL.out (k + 1)
      rw [List.length_take, HZ.out] at HP
      have MD := Lib.hid (HM.out L[k] (List.getElem_mem hkl))
      obtain ⟨hsl, hmc⟩ := own_sl HO.out
      have SL := Lib.hid hsl
      clear hcs hsl
      generalize L[k] = r at *
      have BA := Lib.hid (HB.out.alloc HB.out.size (.cells #[.string r.name, .int .i64 r.ty, .int .i64 r.ttl, .int .i64 r.n, .string r.host, .string r.text] 25))
      have SA := Lib.hid (sl_alloc SL.out (.cells #[.string r.name, .int .i64 r.ty, .int .i64 r.ttl, .int .i64 r.n, .string r.host, .string r.text] 25))
      go_wp2_with fail
      refine (RecP.impl (some ⟨g, 0, none⟩) m cap _ r _ (HE.out.below BA.out) SA.out hmc (fun h => by cases h) (by omega) MD.out).mono ?_
      rw [← HQ.out]
      rintro e w2 ⟨g2, cap2, rfl, ho, hl⟩
      have hz : (puts l (L.take (k + 1))).length ≤ 1048576 + 173 * (k + 1) := by omega
      have O2 := Lib.hid (owns_base ho BA.out.size)
      have B2 := Lib.hid (BA.out.trans (hl.mono BA.out.size))
      clear ho hl HO HB SL BA SA e0 e1 e2 e3 e4 e5 HP HQ
      obtain ⟨m2, hm2⟩ : ∃ m2, m2 = (puts l (L.take (k + 1))).length := ⟨_, rfl⟩
      rw [← hm2] at O2 hz ⊢
      clear hm2
      go_wp2
      go_roundw
      case rel => exact ⟨k + 1, g2, m2, cap2, by omega, hz, by go_num, rfl, O2.out, B2.out⟩
      case measure => simp [intOf]; omega
    · obtain rfl : k = n' := by omega
      go_wp2
      go_ret
      rw [HA.out]
      exact givesO_of HO.out HB.out
end Go.Proofs.YtcpadkehalgddaaGreatDoor.PutsP
