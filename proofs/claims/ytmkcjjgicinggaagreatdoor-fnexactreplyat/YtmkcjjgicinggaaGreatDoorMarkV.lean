/- What the law's own helper markForest returns on a name space of one's own: the number behind the last mark. -/
import Derived.Test.YtmkcjjgicinggaaGreatDoorMarkF
namespace Go.Proofs.YtmkcjjgicinggaaGreatDoor.MarkV
open Go.RowKit Go.Proofs.YtmkcjjgicinggaaGreatDoor.Mem Go.Proofs.YtmkcjjgicinggaaGreatDoor.MemR Go.Proofs.YtmkcjjgicinggaaGreatDoor.MarkS Go.Proofs.YtmkcjjgicinggaaGreatDoor.MarkR Go.Proofs.YtmkcjjgicinggaaGreatDoor.MarkR3 Go.Proofs.YtmkcjjgicinggaaGreatDoor.MemF Go.Proofs.YtmkcjjgicinggaaGreatDoor.ToF Go.Proofs.YtmkcjjgicinggaaGreatDoor.MarkF

set_option maxHeartbeats 4000000 in
theorem markForest_val (g h n m c d : Nat) (zs : List Zn) (ps : List Pst) (gs : List Nat) (lo : Nat) (w : World) (hz : Oz w lo g zs gs) (hp : Bk w h 103 (fp ps)) (hh : h ∉ g :: gs) (hn : zs.length = n) (hm : ps.length = m) (hb : 1 + mws (zs.zip gs) + 2 * m ≤ 20000000) :
    Calls Tryz.prog 39 #[.agg #[.slice (some ⟨g, 0, none⟩) n c, .slice (some ⟨h, 0, none⟩) m d], .int .i64 1] w fun e w' => e = .returned (.int .i64 ((1 + mws (zs.zip gs) + 2 * m : Nat) : Int)) ∧ Kp (fun k => k ∈ h :: g :: gs) w w' := by
  have X0 := Lib.hid (fx_new w 27 (.slice (some ⟨g, 0, none⟩) n c) (.slice (some ⟨h, 0, none⟩) m d))
  have L0 := Lib.hid ((Below.refl w.heap.size w).alloc (Nat.le_refl _) (.cells #[.slice (some ⟨g, 0, none⟩) n c, .slice (some ⟨h, 0, none⟩) m d] 27))
  obtain ⟨z1, z2', z3, z4, z5⟩ := hz
  have hsnd : (zs.zip gs).map Prod.snd = gs := by rw [List.map_snd_zip]; omega
  have hlen : (zs.zip gs).length = n := by rw [List.length_zip]; omega
  have M0 : Hid (Mz (fun k => k ∈ h :: g :: gs) w w g (zs.zip gs) 0) := by
    rw [fz_f2] at z2'
    refine ⟨⟨_, z2', fun i hi _ => ?_⟩, fun i hi _ => z3 _ (List.getElem_mem hi), Kp.refl _⟩
    have := f2_get ((zs.zip gs).map z2) i (by rw [List.length_map]; exact hi)
    rw [List.getElem_map] at this
    exact this
  have ND : Hid ((g :: (zs.zip gs).map Prod.snd).Nodup) := by rw [hsnd]; exact z4
  have HO : Hid (∀ k ∈ g :: (zs.zip gs).map Prod.snd, k ∈ h :: g :: gs) := by rw [hsnd]; exact fun k hk => List.mem_cons_of_mem _ hk
  have M1 := Lib.hid (M0.out.below L0.out)
  have M1' : Hid (Mz (fun k => k ∈ h :: g :: gs) (w.alloc (.cells #[.slice (some ⟨g, 0, none⟩) n c, .slice (some ⟨h, 0, none⟩) m d] 27)) (w.alloc (.cells #[.slice (some ⟨g, 0, none⟩) n c, .slice (some ⟨h, 0, none⟩) m d] 27)) g (zs.zip gs) 0) := ⟨M1.out.1, M1.out.2.1, Kp.refl _⟩
  have P0 := Lib.hid (hp.below L0.out hp.lt)
  have HLP : Hid ((fp ps).length = m * 2) := show _ = _ by rw [fp_len, hm]
  have NG : Hid (∀ W', Kp (fun k => k ∈ g :: gs) w W' → True) := fun _ _ => trivial
  have hgl : g < w.heap.size := z2'.lt
  have NX : Hid (¬ (w.heap.size ∈ h :: g :: gs)) := fun hx => by
    rcases List.mem_cons.1 hx with e | hx
    · have := hp.lt; omega
    · exact oz_high (w := w) ⟨z1, z2', z3, z4, z5⟩ (Nat.le_refl _) hx
  have KZ : Hid (∀ W, Mz (fun k => k ∈ h :: g :: gs) W W g (zs.zip gs) 0 → Calls Tryz.prog 93 #[.slice (some ⟨g, 0, none⟩) n c, .int .i64 ((1 : Nat) : Int)] W fun e w' => e = .returned (.int .i64 ((1 + mws (zs.zip gs) : Nat) : Int)) ∧ Kp (fun k => k ∈ g :: gs) W w') := fun W hW =>
    markZoneS_any (fun k => k ∈ g :: gs) g n c 1 (zs.zip gs) W ⟨hW.1, hW.2.1, Kp.refl _⟩ hlen ND.out (fun k hk => by have := HO.out k hk; rw [hsnd] at hk; exact hk) (by omega) (by omega)
  have hb' : (1 + mws (zs.zip gs)) + 2 * m ≤ 20000000 := hb
  have HH := Lib.hid hh
  clear hp hh z1 z2' z3 z4 z5 hsnd hlen M0 M1 ND HO NG
  generalize mws (zs.zip gs) = q at *
  obtain ⟨x0, x1⟩ := X0.out
  go_enter Tryz.func39, Tryz.ntmps39
  go_wp2_with fail
  refine (KZ.out _ M1'.out).mono ?_
  rintro e w2 ⟨rfl, hk⟩
  have P2 := Lib.hid (bk_kp P0.out hk HH.out)
  have X2 := Lib.hid (fx_kp X0.out hk (fun hx => NX.out (List.mem_cons_of_mem _ hx)))
  have K2 : Hid (Kp (fun k => k ∈ h :: g :: gs) w w2) := (Kp.below L0.out).trans ⟨hk.1, hk.2.1, hk.2.2.1, hk.2.2.2.1, fun j hj hn => hk.2.2.2.2 j hj (fun hx => hn (List.mem_cons_of_mem _ hx))⟩
  clear hk P0 X0 x0 x1 M1' L0
  obtain ⟨x0, x1⟩ := X2.out
  go_wp2_with fail
  refine (markPostS_any (fun k => k ∈ h :: g :: gs) h m d (1 + q) (fp ps) w2 P2.out HLP.out List.mem_cons_self (by omega) hb').mono ?_
  rintro e w3 ⟨rfl, hk⟩
  have K3 := Lib.hid (K2.out.trans hk)
  clear hk P2 X2 x0 x1 K2
  go_wp2
  go_ret
  exact ⟨rfl, K3.out⟩
end Go.Proofs.YtmkcjjgicinggaaGreatDoor.MarkV
