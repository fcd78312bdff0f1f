/- What PutRecords does in the model: a new slice that holds the old bytes and those of each valid record. Conditions: at most 1048576 bytes, as many records, as many bytes in each text. -/
import Derived.Test.YtcpadkehalgddaaGreatDoorRecS
namespace Go.Proofs.YtcpadkehalgddaaGreatDoor.PutsS
open Go.RowKit Go.Proofs.YtcpadkehalgddaaGreatDoor.Mem Go.Proofs.YtcpadkehalgddaaGreatDoor.MemR Go.Proofs.YtcpadkehalgddaaGreatDoor.App Go.Proofs.YtcpadkehalgddaaGreatDoor.PutO Go.Proofs.YtcpadkehalgddaaGreatDoor.FieldMath Go.Proofs.YtcpadkehalgddaaGreatDoor.DataS

theorem own_sl {w : World} {base g m cap : Nat} {l : List UInt8} (h : w.ownsRow base 5 1 (.slice (some ⟨g, 0, none⟩) m cap) m (l.map bv)) : Sl w w.heap.size (some ⟨g, 0, none⟩) m l ∧ m ≤ cap := by
  have hl : l.length = m := by have := h.1; simpa using this
  obtain ⟨r, hb, hr, _⟩ := bk_of_owns h
  exact ⟨hl ▸ (hb.sl'.wider hb.lt), by rw [← hr, List.length_append, List.length_map, hl]; omega⟩

set_option maxRecDepth 100000 in
set_option maxHeartbeats 4000000 in
theorem spec (A A' : Option Addr) (n c n' c' : Nat) (l : List UInt8) (L : List Rec) (w : World) (hs : Sl w w.heap.size A n l) (hnil : A = none → n = 0 ∧ c = 0) (hn : n ≤ 1048576) (hS : Sr w w.heap.size A' n' L) (hn' : n' ≤ 1048576) (hM : ∀ r ∈ L, Med r) :
    Calls Tryz.prog 18 #[.slice A n c, .slice A' n' c'] w (GivesO w (puts l L)) := by
  obtain ⟨i0, hi, hz0, hz1, hz2⟩ := info_parts Copy.info
  have HS := Lib.hid hs
  have HN := Lib.hid hnil
  have SS := Lib.hid hS
  have HM := Lib.hid hM
  have HL := Lib.hid hS.1
  have ST := Lib.hid (puts_step l L)
  have PL := Lib.hid (fun k => puts_len (L.take k) l)
  have HZ := Lib.hid hs.1
  have HA : Hid (puts l L = puts l (L.take n')) := by show _ = _; rw [List.take_of_length_le (by rw [hS.1]; omega)]
  have H0 : Hid (puts l (L.take 0) = l) := rfl
  clear hs hnil hS hM
  go_enter Tryz.func18, Tryz.ntmps18
  go_wp2_with (at_builtin; refine append_src rfl (.tmp 7) (.tmp 8) 22 rfl w.heap.size 5 i0 (.int .u8 0) Tryz.underlying22 hi hz0 hz1 hz2 rfl w.heap.size 0 0 [] rfl (owns_new w) A n c _ l rfl (sl_alloc HS.out _) HN.out ?c1 ?c2 ?c3 ?_)
  case c1 => omega
  case c2 => omega
  case c3 => simp
  intro g1 cap1 w1 hown hgrow
  have O1 := Lib.hid hown
  have L1 := Lib.hid ((((Below.refl w.heap.size w).alloc (Nat.le_refl _) (.cells #[] 5))).grown hgrow (by simp) (fun j hj => by cases hj; exact Nat.le_refl _))
  clear hown hgrow
  go_wp2
  go_loopw [5, 6] (fun v i wr => ∃ (k g m cap : Nat), k ≤ n' ∧ m ≤ 1048576 + 173 * k ∧ i = .int .i64 (k : Int) ∧ v = .slice (some ⟨g, 0, none⟩) m cap ∧ Hid (wr.ownsRow w.heap.size 5 1 (.slice (some ⟨g, 0, none⟩) m cap) m ((puts l (L.take k)).map bv)) ∧ Hid (Below w.heap.size w wr)) (fun _ i _ => n' - (intOf i).toNat)
  case atStart => exact ⟨0, g1, n, cap1, Nat.zero_le _, by omega, rfl, by simp, by rw [H0.out]; simpa [Hid] using O1.out, L1.out⟩
  case round =>
    clear O1 L1
    obtain ⟨k, g, m, cap, hk, hm, rfl, rfl, HO, HB⟩ := hrel
    by_cases hlt : k < n'
    · have hkl : k < L.length := by rw [HL.out]; exact hlt
      obtain ⟨b, off, rfl, hbB, hcs⟩ := SS.out.2 (by omega)
      obtain ⟨e0, e1, e2, e3, e4, e5⟩ := (hcs k hkl).below HB.out hbB
      have HQ := Lib.hid (ST.out k hkl)
      have HP := PL.out (k + 1)
      rw [List.length_take, HZ.out] at HP
      have MD := Lib.hid (HM.out L[k] (List.getElem_mem hkl))
      obtain ⟨hsl, hmc⟩ := own_sl HO.out
      have SL := Lib.hid hsl
      clear hcs hsl
      generalize L[k] = r at *
      go_wp2_with fail
      refine (RecS.spec (some ⟨g, 0, none⟩) m cap _ r wr SL.out hmc (fun h => by cases h) (by omega) MD.out).mono ?_
      rw [← HQ.out]
      rintro e w2 ⟨g2, cap2, rfl, ho, hl⟩
      have hz : (puts l (L.take (k + 1))).length ≤ 1048576 + 173 * (k + 1) := by omega
      have O2 := Lib.hid (owns_base ho HB.out.size)
      have B2 := Lib.hid (HB.out.trans (hl.mono HB.out.size))
      clear ho hl HO HB SL e0 e1 e2 e3 e4 e5 HP HQ
      obtain ⟨m2, hm2⟩ : ∃ m2, m2 = (puts l (L.take (k + 1))).length := ⟨_, rfl⟩
      rw [← hm2] at O2 hz ⊢
      clear hm2
      go_wp2
      go_roundw
      case rel => exact ⟨k + 1, g2, m2, cap2, by omega, hz, by go_num, rfl, O2.out, B2.out⟩
      case measure => simp [intOf]; omega
    · obtain rfl : k = n' := by omega
      go_wp2
      go_ret
      rw [HA.out]
      exact givesO_of HO.out HB.out
end Go.Proofs.YtcpadkehalgddaaGreatDoor.PutsS
