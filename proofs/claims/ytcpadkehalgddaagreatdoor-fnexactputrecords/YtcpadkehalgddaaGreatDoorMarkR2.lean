/- What the law's own helper markRecordS does from any first mark on: it returns the mark behind the last, and turns only the block of the records. Condition: fewer than 1100001 records, a first mark of at most 2000000. -/
import Derived.Test.YtcpadkehalgddaaGreatDoorMarkR
namespace Go.Proofs.YtcpadkehalgddaaGreatDoor.MarkR2
open Go.RowKit Go.Proofs.YtcpadkehalgddaaGreatDoor.Mem Go.Proofs.YtcpadkehalgddaaGreatDoor.MemR Go.Proofs.YtcpadkehalgddaaGreatDoor.MarkS Go.Proofs.YtcpadkehalgddaaGreatDoor.MarkR Go.Proofs.YtcpadkehalgddaaGreatDoor.BoxR

set_option maxHeartbeats 4000000 in
theorem markRecordS_from (g n c u0 : Nat) (l : List Rec) (r : List Value) (w : World) (hb : Bk w g 25 (fl l ++ r)) (hl : l.length = n) (hn : n ≤ 1100000) (hu0 : 0 < u0) (hu1 : u0 ≤ 2000000) :
    Calls Tryz.prog 27 #[.slice (some ⟨g, 0, none⟩) n c, .int .i64 (u0 : Int)] w fun e w' => e = .returned (.int .i64 ((u0 : Int) + 6 * (n : Int))) ∧ w.grownBy w' (some g) := by
  have HB := Lib.hid hb
  have HL := Lib.hid hl
  clear hb hl
  go_enter Tryz.func27, Tryz.ntmps27
  go_wp2
  go_loopw [1, 5] (fun kk i wr => ∃ j u : Nat, j ≤ n ∧ i = .int .i64 j ∧ kk = .int .i64 (u : Int) ∧ Hid (u = u0 + 6 * j) ∧ (∃ M : List Rec, Hid (M.length = n) ∧ Hid (Bk wr g 25 (fl M ++ r))) ∧ Hid (w.grownBy wr (some g))) (fun _ i _ => n - (intOf i).toNat)
  case atStart => exact ⟨0, u0, Nat.zero_le _, rfl, rfl, rfl, ⟨l, HL.out, HB.out⟩, World.grownBy.refl _ _⟩
  case round =>
    clear HB
    obtain ⟨j, u, hj, rfl, rfl, HU, ⟨M, HML, HJ⟩, HG⟩ := hrel
    have hu : u ≤ 8600000 := by have := HU.out; omega
    by_cases hlt : j < n
    · have hup : 0 < u := by have := HU.out; omega
      have hML : j < M.length := by rw [HML.out]; exact hlt
      go_wp2_with fail
      refine (markText_any u hup (by omega) wr).mono ?_
      rintro e w1 ⟨rfl, hl1⟩
      have B1 := Lib.hid (HJ.out.below hl1 HJ.out.lt)
      have G1 := Lib.hid (grown_trans HG.out (grown_of_below hl1 (some g)))
      clear hl1 HJ HG
      obtain ⟨z0, z1, z2, z3, z4, z5⟩ := bk_ce B1.out j hML
      have f0 := B1.out.free (j * 6)
      have f1 := B1.out.free (j * 6 + 1)
      have f2 := B1.out.free (j * 6 + 2)
      have f3 := B1.out.free (j * 6 + 3)
      have Z4 : Hid ((fl M ++ r)[j * 6 + 4]? = some (.string M[j].host)) := (B1.out.cell (j * 6 + 4)).symm.trans z4
      have Z5 : Hid ((fl M ++ r)[j * 6 + 5]? = some (.string M[j].text)) := (B1.out.cell (j * 6 + 5)).symm.trans z5
      clear z4 z5
      have B2 := Lib.hid ((((B1.out.set (j * 6) (.string (Mt u))).set (j * 6 + 1) (.int .i64 ((u : Int) + 1))).set (j * 6 + 2) (.int .i64 ((u : Int) + 1 + 1))).set (j * 6 + 3) (.int .i64 ((u : Int) + 1 + 1 + 1)))
      have G2 := Lib.hid (grown_set (grown_set (grown_set (grown_set G1.out (j * 6) (.string (Mt u))) (j * 6 + 1) (.int .i64 ((u : Int) + 1))) (j * 6 + 2) (.int .i64 ((u : Int) + 1 + 1))) (j * 6 + 3) (.int .i64 ((u : Int) + 1 + 1 + 1)))
      have e4 : (u : Int) + 1 + 1 + 1 + 1 = ((u + 4 : Nat) : Int) := by omega
      have E4 := Lib.hid e4
      clear e4
      go_wp2_with fail
      rw [E4.out]
      refine (markText_any (u + 4) (by omega) (by omega) _).mono ?_
      rintro e w3 ⟨rfl, hl3⟩
      have B3 := Lib.hid (B2.out.below hl3 B2.out.lt)
      have G3 := Lib.hid (grown_trans G2.out (grown_of_below hl3 (some g)))
      clear hl3 B2 G2 z0 z1 z2 z3 f0 f1 f2 f3 B1 G1
      have z4 : w3.cell? ⟨g, j * 6 + 4, none⟩ = some (.string M[j].host) := by
        rw [B3.out.cell, List.getElem?_set_ne (by omega), List.getElem?_set_ne (by omega), List.getElem?_set_ne (by omega), List.getElem?_set_ne (by omega)]
        exact Z4.out
      have f4 := B3.out.free (j * 6 + 4)
      have B4 := Lib.hid (B3.out.set (j * 6 + 4) (.string (Mt (u + 4))))
      have G4 := Lib.hid (grown_set G3.out (j * 6 + 4) (.string (Mt (u + 4))))
      go_wp2_with fail
      have e5 : Hid ((u : Int) + 4 + 1 = ((u + 5 : Nat) : Int)) := show _ = _ by omega
      rw [e5.out]
      refine (markText_any (u + 5) (by omega) (by omega) _).mono ?_
      rintro e w5 ⟨rfl, hl5⟩
      have B5 := Lib.hid (B4.out.below hl5 B4.out.lt)
      have G5 := Lib.hid (grown_trans G4.out (grown_of_below hl5 (some g)))
      clear hl5 B3 G3 B4 G4 z4 f4
      have z5 : w5.cell? ⟨g, j * 6 + 5, none⟩ = some (.string M[j].text) := by
        rw [B5.out.cell, List.getElem?_set_ne (by omega), List.getElem?_set_ne (by omega), List.getElem?_set_ne (by omega), List.getElem?_set_ne (by omega), List.getElem?_set_ne (by omega)]
        exact Z5.out
      have f5 := B5.out.free (j * 6 + 5)
      have B6 := Lib.hid (B5.out.set (j * 6 + 5) (.string (Mt (u + 5))))
      have G6 := Lib.hid (grown_set G5.out (j * 6 + 5) (.string (Mt (u + 5))))
      go_wp2
      go_roundw
      case rel =>
        refine ⟨j + 1, u + 6, by omega, by go_num, by go_num, show _ = _ by have := HU.out; omega, ⟨M.set j (mr u), ?_, ?_⟩, G6.out⟩
        · show _ = _
          rw [List.length_set]
          exact HML.out
        · show Bk _ _ _ _
          rw [← put_r M r j (mr u) hML]
          exact B6.out
      case measure => simp [intOf]; omega
    · have hje : j = n := by omega
      subst hje
      go_wp2
      go_ret
      refine ⟨?_, HG.out⟩
      rw [HU.out]
      push_cast
      rfl
end Go.Proofs.YtcpadkehalgddaaGreatDoor.MarkR2
