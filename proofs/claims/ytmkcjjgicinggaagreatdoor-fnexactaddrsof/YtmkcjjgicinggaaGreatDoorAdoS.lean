/- What AddrsOf does in the model: the addresses that the zone of the host has for it; none where no zone has the host. -/
import Derived.Test.YtmkcjjgicinggaaGreatDoorZonS
import Derived.Test.YtmkcjjgicinggaaGreatDoorAdrS
import Derived.Test.YtmkcjjgicinggaaGreatDoorAdoM
namespace Go.Proofs.YtmkcjjgicinggaaGreatDoor.AdoS
open Go.RowKit Go.Proofs.YtmkcjjgicinggaaGreatDoor.Mem Go.Proofs.YtmkcjjgicinggaaGreatDoor.MemR Go.Proofs.YtmkcjjgicinggaaGreatDoor.MemF Go.Proofs.YtmkcjjgicinggaaGreatDoor.SetMath Go.Proofs.YtmkcjjgicinggaaGreatDoor.MemI Go.Proofs.YtmkcjjgicinggaaGreatDoor.ForMath Go.Proofs.YtmkcjjgicinggaaGreatDoor.AdoM

set_option maxHeartbeats 4000000 in
theorem spec (A : Option Addr) (n c : Nat) (zs : List Zn) (P : Option Addr) (m d : Nat) (s : ByteArray) (w : World) (hs : Rz True w w.heap.size A n zs) (hn : n ≤ 100000000) (hz : ∀ z ∈ zs, z.apex.size ≤ 400000000 ∧ z.l.length ≤ 100000000) (hnm : s.size ≤ 400000000) :
    Calls Tryz.prog 30 #[.agg #[.slice A n c, .slice P m d], .string s] w (GivesI w (adl zs s)) := by
  have X0 := Lib.hid (fx_new w 27 (.slice A n c) (.slice P m d))
  have L0 := Lib.hid ((Below.refl w.heap.size w).alloc (Nat.le_refl _) (.cells #[.slice A n c, .slice P m d] 27))
  have C1 := Lib.hid (ZonS.zoneOf True A n c zs P m d s _ (hs.on L0.out) (by omega) (fun z hz' => (hz z hz').1) hnm)
  have HS := Lib.hid hs
  have HZ := Lib.hid hz
  have HB := Lib.hid (zo_bound s (fun _ => true) (aps zs))
  have HA : Hid ((aps zs).length = n) := show _ = _ by rw [aps, List.length_map]; exact hs.1
  have HNo : Hid (zo s (fun _ => true) (aps zs) < 0 → adl zs s = []) := fun h => adl_no h
  have HYes : Hid (¬ zo s (fun _ => true) (aps zs) < 0 → adl zs s = uq (al s (zl zs (zo s (fun _ => true) (aps zs)).toNat))) := fun h => adl_yes h
  clear hs hz
  generalize adl zs s = L at *
  generalize zo s (fun _ => true) (aps zs) = v at *
  obtain ⟨x0, x1⟩ := X0.out
  go_enter Tryz.func30, Tryz.ntmps30
  go_wp2_with fail
  refine C1.out.mono ?_
  rintro e w1 ⟨rfl, hl⟩
  have L1 := Lib.hid (L0.out.trans (hl.mono L0.out.size))
  have X1 := Lib.hid (X0.out.below hl)
  clear hl L0 X0 x0 x1 C1
  obtain ⟨x0, x1⟩ := X1.out
  by_cases hneg : v < 0
  · have HL := Lib.hid (HNo.out hneg)
    go_wp2
    go_ret
    refine ⟨w1.heap.size, 0, 0, [], rfl, by rw [HL.out]; rfl, Nat.le_refl _, L1.out.size, ?_, L1.out.alloc L1.out.size _⟩
    rw [HL.out]
    exact heap_alloc_new w1 (.cells #[] 3)
  · have HL := Lib.hid (HYes.out (by omega))
    obtain ⟨k, rfl⟩ : ∃ k : Nat, v = (k : Int) := ⟨v.toNat, by omega⟩
    have hkn : k < n := by have := HB.out.2; have := HA.out; omega
    rw [Int.toNat_natCast] at HL
    obtain ⟨b, off, rfl, hbB, hcs⟩ := HS.out.2 (by omega)
    have hkz : k < zs.length := by rw [HS.out.1]; exact hkn
    obtain ⟨e0, A', n', c', e1, hr, ho⟩ := (hcs k hkz).below L1.out hbB
    obtain ⟨g', o', rfl⟩ := ho trivial
    have HR := Lib.hid (AdrS.spec s g' o' n' c' zs[k].l w1 (hr.wider L1.out.size) (by have h1 := (HZ.out _ (List.getElem_mem hkz)).2; have h2 := hr.1; omega))
    have HL2 : Hid (uq (al s zs[k].l) = L) := show _ = _ by rw [HL.out, zl_at hkz]
    rw [HL2.out] at HR
    clear hcs hr e0 HL HL2
    go_wp2_with fail
    refine HR.out.mono ?_
    rintro e w2 ⟨g, q, cq, r, rfl, h1, h2, h3, h4, hl⟩
    have G := Lib.hid (show w.heap.size ≤ g from Nat.le_trans L1.out.size h3)
    have H1 := Lib.hid h1
    have H2 := Lib.hid h2
    have H4 := Lib.hid h4
    have L2 := Lib.hid (L1.out.trans (hl.mono L1.out.size))
    clear h1 h2 h3 h4 hl x0 x1 e1
    go_wp2
    go_ret
    exact ⟨g, q, cq, r, rfl, H1.out, H2.out, G.out, H4.out, L2.out⟩
end Go.Proofs.YtmkcjjgicinggaaGreatDoor.AdoS
