/- What the law's own helpers markZoneS, markPostS and markForest do on a name space of one's own: they return a number that is not negative, and turn no block but the name space's own. -/
import Derived.Test.YtmkcjjgicinggaaGreatDoorMarkR3
import Derived.Test.YtmkcjjgicinggaaGreatDoorToF
namespace Go.Proofs.YtmkcjjgicinggaaGreatDoor.MarkF
open Go.RowKit Go.Proofs.YtmkcjjgicinggaaGreatDoor.Mem Go.Proofs.YtmkcjjgicinggaaGreatDoor.MemR Go.Proofs.YtmkcjjgicinggaaGreatDoor.MarkS Go.Proofs.YtmkcjjgicinggaaGreatDoor.MarkR Go.Proofs.YtmkcjjgicinggaaGreatDoor.MarkR3 Go.Proofs.YtmkcjjgicinggaaGreatDoor.MemF Go.Proofs.YtmkcjjgicinggaaGreatDoor.ToF

/-- Only blocks of these, and new ones, have been turned. -/
def Kp (own : Nat → Prop) (w w' : World) : Prop :=
  w'.os = w.os ∧ w'.tape = w.tape ∧ w'.output = w.output ∧ w.heap.size ≤ w'.heap.size ∧ ∀ k, k < w.heap.size → ¬ own k → w'.heap[k]? = w.heap[k]?

section
variable {own : Nat → Prop} {w w' w'' w0 : World} {g B : Nat} {t : TypeId} {cs : List Value} {x y : Value}
theorem Kp.refl (w : World) : Kp own w w := ⟨rfl, rfl, rfl, Nat.le_refl _, fun _ _ _ => rfl⟩
theorem Kp.trans (h : Kp own w w') (k : Kp own w' w'') : Kp own w w'' :=
  ⟨k.1.trans h.1, k.2.1.trans h.2.1, k.2.2.1.trans h.2.2.1, Nat.le_trans h.2.2.2.1 k.2.2.2.1, fun j hj ho => (k.2.2.2.2 j (Nat.lt_of_lt_of_le hj h.2.2.2.1) ho).trans (h.2.2.2.2 j hj ho)⟩
theorem Kp.grown (h : w.grownBy w' (some g)) (ho : own g) : Kp own w w' := ⟨h.os, h.tape, h.output, h.size, fun k hk hn => h.block k hk (fun e => hn (by rw [Option.some.inj e]; exact ho))⟩
theorem Kp.below (h : Below w.heap.size w w') : Kp own w w' := ⟨h.os, h.tape, h.output, h.size, fun k hk _ => h.block k hk⟩
theorem Kp.set (w : World) (ho : own g) (j : Nat) (u : Value) : Kp own w (w.setCell ⟨g, j, none⟩ u) :=
  Kp.grown (MarkR3_set w g j u) ho
  where MarkR3_set (w : World) (g j : Nat) (u : Value) : w.grownBy (w.setCell ⟨g, j, none⟩ u) (some g) := grown_set (World.grownBy.refl w _) j u
theorem bk_kp (h : Bk w g t cs) (k : Kp own w w') (hn : ¬ own g) : Bk w' g t cs := (k.2.2.2.2 g h.lt hn).trans h
theorem fx_kp (h : Fx w g x y) (k : Kp own w w') (hn : ¬ own g) : Fx w' g x y := h.move fun _ => World.cell?_of_block (k.2.2.2.2 g h.lt hn)
theorem below_kp (h : Below B w0 w) (k : Kp own w w') (hB : B ≤ w.heap.size) (hn : ∀ j, own j → B ≤ j) : Below B w0 w' :=
  h.trans ⟨k.1, k.2.1, k.2.2.1, k.2.2.2.1, fun j hj => k.2.2.2.2 j (Nat.lt_of_lt_of_le hj hB) (fun ho => by have := hn j ho; omega)⟩
end

/-- How many marks the zones take. -/
def mws (L : List (Zn × Nat)) : Nat := (L.map fun p => 1 + 6 * p.1.l.length).sum
theorem mws_step (l : List (Zn × Nat)) (k : Nat) (h : k < l.length) : mws (l.take (k + 1)) = mws (l.take k) + (1 + 6 * l[k].1.l.length) := by
  rw [mws, List.take_succ_eq_append_getElem h, List.map_append, List.sum_append]
  simp [mws]
theorem mws_take (l : List (Zn × Nat)) (k : Nat) : mws (l.take k) ≤ mws l := by
  conv => rhs; rw [← List.take_append_drop k l]
  unfold mws
  rw [List.map_append, List.sum_append]
  omega

theorem mws_len : ∀ L : List (Zn × Nat), L.length ≤ mws L
  | [] => Nat.zero_le _
  | p :: L => by
    have := mws_len L
    show L.length + 1 ≤ mws (p :: L)
    unfold mws at *
    rw [List.map_cons, List.sum_cons]
    omega

/-- The zones from the j-th on lie as they did. -/
def Mz (own : Nat → Prop) (w wr : World) (g : Nat) (L : List (Zn × Nat)) (j : Nat) : Prop :=
  (∃ cs : List Value, Bk wr g 37 cs ∧ ∀ i (h : i < L.length), j ≤ i → cs[i * 2]? = some (.string L[i].1.apex) ∧ cs[i * 2 + 1]? = some (.slice (some ⟨L[i].2, 0, none⟩) L[i].1.l.length L[i].1.l.length)) ∧
  (∀ i (h : i < L.length), j ≤ i → Bk wr L[i].2 93 (fl L[i].1.l)) ∧ Kp own w wr

section
variable {own : Nat → Prop} {w wr w1 w2 : World} {g j : Nat} {L : List (Zn × Nat)}
theorem Mz.below (h : Mz own w wr g L j) (hb : Below wr.heap.size wr w1) : Mz own w w1 g L j := by
  obtain ⟨⟨cs, h1, h2⟩, h3, h4⟩ := h
  exact ⟨⟨cs, h1.below hb h1.lt, h2⟩, fun i hi hj => (h3 i hi hj).below hb (h3 i hi hj).lt, h4.trans (Kp.below hb)⟩

theorem Mz.at (h : Mz own w wr g L j) (hj : j < L.length) : wr.cell? ⟨g, j * 2, none⟩ = some (.string L[j].1.apex) ∧ wr.cell? ⟨g, j * 2 + 1, none⟩ = some (.slice (some ⟨L[j].2, 0, none⟩) L[j].1.l.length L[j].1.l.length) ∧ wr.frozen? ⟨g, j * 2, none⟩ = false ∧ Bk wr L[j].2 93 (fl L[j].1.l ++ []) := by
  obtain ⟨⟨cs, h1, h2⟩, h3, h4⟩ := h
  obtain ⟨a, b⟩ := h2 j hj (Nat.le_refl _)
  exact ⟨(h1.cell _).trans a, (h1.cell _).trans b, h1.free _, by rw [List.append_nil]; exact h3 j hj (Nat.le_refl _)⟩

theorem Mz.mark (h : Mz own w wr g L j) (hg : own g) (nd : (g :: L.map Prod.snd).Nodup) (u : Value) : (Mz own w (wr.setCell ⟨g, j * 2, none⟩ u) g L (j + 1)) ∧ ∀ hj : j < L.length, (wr.setCell ⟨g, j * 2, none⟩ u).cell? ⟨g, j * 2 + 1, none⟩ = some (.slice (some ⟨L[j].2, 0, none⟩) L[j].1.l.length L[j].1.l.length) ∧ Bk (wr.setCell ⟨g, j * 2, none⟩ u) L[j].2 93 (fl L[j].1.l ++ []) := by
  have ne : ∀ i (hi : i < L.length), L[i].2 ≠ g := fun i hi e => (List.nodup_cons.1 nd).1 (by rw [← e]; exact List.mem_map.2 ⟨_, List.getElem_mem hi, rfl⟩)
  obtain ⟨⟨cs, h1, h2⟩, h3, h4⟩ := h
  refine ⟨⟨⟨cs.set (j * 2) u, h1.set _ _, fun i hi hj => ?_⟩, fun i hi hj => (h3 i hi (by omega)).other (p := ⟨g, j * 2, none⟩) (ne i hi) u, h4.trans (Kp.set _ hg _ _)⟩, fun hj => ⟨?_, ?_⟩⟩
  · rw [List.getElem?_set_ne (by omega), List.getElem?_set_ne (by omega)]
    exact h2 i hi (by omega)
  · rw [(h1.set (j * 2) u).cell, List.getElem?_set_ne (by omega)]
    exact (h2 j hj (Nat.le_refl _)).2
  · rw [List.append_nil]
    exact (h3 j hj (Nat.le_refl _)).other (p := ⟨g, j * 2, none⟩) (ne j hj) u

theorem Mz.grown (h : Mz own w wr g L (j + 1)) (hj : j < L.length) (nd : (g :: L.map Prod.snd).Nodup) (ho : own L[j].2) (hg : wr.grownBy w1 (some L[j].2)) : Mz own w w1 g L (j + 1) := by
  have ne : L[j].2 ≠ g := fun e => (List.nodup_cons.1 nd).1 (by rw [← e]; exact List.mem_map.2 ⟨_, List.getElem_mem hj, rfl⟩)
  have ne2 : ∀ i (hi : i < L.length), j + 1 ≤ i → L[i].2 ≠ L[j].2 := fun i hi hji e => by
    have := (List.nodup_cons.1 nd).2
    have h1 : (L.map Prod.snd)[i]'(by simpa using hi) = (L.map Prod.snd)[j]'(by simpa using hj) := by simpa using e
    exact (List.pairwise_iff_getElem.1 this) j i (by simpa using hj) (by simpa using hi) (by omega) h1.symm
  obtain ⟨⟨cs, h1, h2⟩, h3, h4⟩ := h
  exact ⟨⟨cs, h1.grown hg (fun e => ne (Option.some.inj e).symm), h2⟩, fun i hi hji => (h3 i hi hji).grown hg (fun e => ne2 i hi hji (Option.some.inj e)), h4.trans (Kp.grown hg ho)⟩
end

set_option maxHeartbeats 4000000 in
theorem markZoneS_any (own : Nat → Prop) (g n c u0 : Nat) (L : List (Zn × Nat)) (w : World) (hm : Mz own w w g L 0) (hl : L.length = n) (nd : (g :: L.map Prod.snd).Nodup) (ho : ∀ k ∈ g :: L.map Prod.snd, own k) (hp : 0 < u0) (hn : u0 + mws L ≤ 20000000) :
    Calls Tryz.prog 93 #[.slice (some ⟨g, 0, none⟩) n c, .int .i64 (u0 : Int)] w fun e w' => e = .returned (.int .i64 ((u0 + mws L : Nat) : Int)) ∧ Kp own w w' := by
  have HM := Lib.hid hm
  have ND := Lib.hid nd
  have HO := Lib.hid ho
  have HL := Lib.hid hl
  have bn : n ≤ 20000000 := by have := mws_len L; omega
  clear hm nd ho hl
  go_enter Tryz.func93, Tryz.ntmps93
  go_wp2
  go_loopw [1, 5] (fun kk i wr => ∃ j u : Nat, j ≤ n ∧ i = .int .i64 j ∧ kk = .int .i64 (u : Int) ∧ Hid (u = u0 + mws (L.take j)) ∧ Hid (Mz own w wr g L j)) (fun _ i _ => n - (intOf i).toNat)
  case atStart => exact ⟨0, u0, Nat.zero_le _, rfl, rfl, rfl, HM.out⟩
  case round =>
    clear HM
    obtain ⟨j, u, hj, rfl, rfl, HU, HJ⟩ := hrel
    by_cases hlt : j < n
    · have hjl : j < L.length := by rw [HL.out]; exact hlt
      have hu0 : 0 < u := by have := HU.out; omega
      have hu1 : u + (1 + 6 * L[j].1.l.length) ≤ 20000000 := by
        have h1 := HU.out
        have h2 := mws_step L j hjl
        have h3 := mws_take L (j + 1)
        omega
      have HS := Lib.hid (mws_step L j hjl)
      have HG : Hid (own L[j].2) := HO.out _ (List.mem_cons_of_mem _ (List.mem_map.2 ⟨_, List.getElem_mem hjl, rfl⟩))
      have HN : Hid (∀ W W' : World, Mz own w W g L (j + 1) → W.grownBy W' (some L[j].2) → Mz own w W' g L (j + 1)) := fun W W' h1 h2 => h1.grown hjl ND.out HG.out h2
      have HA : Hid (∀ W : World, Mz own w W g L j → W.cell? ⟨g, j * 2, none⟩ = some (.string L[j].1.apex) ∧ W.cell? ⟨g, j * 2 + 1, none⟩ = some (.slice (some ⟨L[j].2, 0, none⟩) L[j].1.l.length L[j].1.l.length) ∧ W.frozen? ⟨g, j * 2, none⟩ = false ∧ Bk W L[j].2 93 (fl L[j].1.l ++ [])) := fun W h => h.at hjl
      have HK : Hid (∀ (W : World) (u : Value), Mz own w W g L j → (Mz own w (W.setCell ⟨g, j * 2, none⟩ u) g L (j + 1)) ∧ (W.setCell ⟨g, j * 2, none⟩ u).cell? ⟨g, j * 2 + 1, none⟩ = some (.slice (some ⟨L[j].2, 0, none⟩) L[j].1.l.length L[j].1.l.length) ∧ Bk (W.setCell ⟨g, j * 2, none⟩ u) L[j].2 93 (fl L[j].1.l ++ [])) := fun W u h => by
        obtain ⟨a, b⟩ := h.mark (HO.out g List.mem_cons_self) ND.out u
        exact ⟨a, b hjl⟩
      generalize hp0 : L[j] = p at *
      obtain ⟨⟨ap, l⟩, gr⟩ := p
      simp only at HG HN HA HK HS hu1
      clear HG hp0
      go_wp2_with fail
      refine (markText_any u hu0 (by omega) wr).mono ?_
      rintro e w1 ⟨rfl, hl1⟩
      have J1 := Lib.hid (HJ.out.below hl1)
      clear hl1 HJ
      obtain ⟨z0, z1, f0, B1⟩ := HA.out _ J1.out
      obtain ⟨J2, y1, B2⟩ := HK.out _ (.string (Mt u)) J1.out
      replace J2 := Lib.hid J2
      replace B2 := Lib.hid B2
      clear B1 HA HK J1
      have e1 : Hid ((u : Int) + 1 = ((u + 1 : Nat) : Int)) := show _ = _ by omega
      go_wp2_with fail
      rw [e1.out]
      refine (markRecordS_at gr l.length l.length (u + 1) l [] _ B2.out rfl (by omega) (by omega)).mono ?_
      rintro e w3 ⟨rfl, -, gr3⟩
      have J3 := Lib.hid (HN.out _ _ J2.out gr3)
      clear gr3 J2 B2 y1 z0 z1 f0
      go_wp2
      go_roundw
      case rel =>
        refine ⟨j + 1, u + (1 + 6 * l.length), by omega, by go_num, ?_, show _ = _ by rw [HS.out, HU.out]; omega, J3.out⟩
        push_cast
        congr 1
        omega
      case measure => simp [intOf]; omega
    · have hje : j = n := by omega
      subst hje
      go_wp2
      go_ret
      refine ⟨?_, HJ.out.2.2⟩
      rw [HU.out, List.take_of_length_le (by rw [HL.out]; exact Nat.le_refl _)]
      rfl

set_option maxHeartbeats 4000000 in
theorem markPostS_any (own : Nat → Prop) (h m d u0 : Nat) (cs0 : List Value) (w : World) (hb : Bk w h 103 cs0) (hl : cs0.length = m * 2) (ho : own h) (hp : 0 < u0) (hn : u0 + 2 * m ≤ 20000000) :
    Calls Tryz.prog 94 #[.slice (some ⟨h, 0, none⟩) m d, .int .i64 (u0 : Int)] w fun e w' => e = .returned (.int .i64 ((u0 + 2 * m : Nat) : Int)) ∧ Kp own w w' := by
  have HB : Hid (∃ cs, Bk w h 103 cs ∧ cs.length = m * 2) := ⟨cs0, hb, hl⟩
  have HO := Lib.hid ho
  clear hb hl ho
  go_enter Tryz.func94, Tryz.ntmps94
  go_wp2
  go_loopw [1, 5] (fun kk i wr => ∃ j u : Nat, j ≤ m ∧ i = .int .i64 j ∧ kk = .int .i64 (u : Int) ∧ Hid (u = u0 + 2 * j) ∧ Hid (∃ cs, Bk wr h 103 cs ∧ cs.length = m * 2) ∧ Hid (Kp own w wr)) (fun _ i _ => m - (intOf i).toNat)
  case atStart => exact ⟨0, u0, Nat.zero_le _, rfl, rfl, rfl, HB.out, Kp.refl _⟩
  case round =>
    clear HB
    obtain ⟨j, u, hj, rfl, rfl, HU, HJ, HK⟩ := hrel
    by_cases hlt : j < m
    · have hu0 : 0 < u := by have := HU.out; omega
      have hu1 : u + 2 ≤ 20000000 := by have := HU.out; omega
      obtain ⟨cs, hb, hl⟩ := HJ.out
      have z : ∀ W (cs : List Value), Bk W h 103 cs → cs.length = m * 2 → ∀ i, i < m * 2 → (W.cell? ⟨h, i, none⟩).isSome = true := fun W cs hb hl i hi => by
        rw [hb.cell, List.getElem?_eq_getElem (by omega)]; rfl
      obtain ⟨v0, z0⟩ := Option.isSome_iff_exists.1 (z _ _ hb hl (j * 2) (by omega))
      have f0 := hb.free (j * 2)
      have B1 := Lib.hid (hb.set (j * 2) (.int .i64 (u : Int)))
      have K1 := Lib.hid (HK.out.trans (Kp.set wr HO.out (j * 2) (.int .i64 (u : Int))))
      have e1 : Hid ((u : Int) + 1 = ((u + 1 : Nat) : Int)) := show _ = _ by omega
      have HZ := Lib.hid z
      have HLn : Hid ((cs.set (j * 2) (Value.int .i64 (u : Int))).length = m * 2) := show _ = _ by rw [List.length_set]; exact hl
      clear hb hl z HJ HK
      go_wp2_with fail
      rw [e1.out]
      refine (markText_any (u + 1) (by omega) (by omega) _).mono ?_
      rintro e w2 ⟨rfl, hl2⟩
      have B2 := Lib.hid (B1.out.below hl2 B1.out.lt)
      have K2 := Lib.hid (K1.out.trans (Kp.below hl2))
      clear hl2 B1 K1 z0 f0
      obtain ⟨v1, z1⟩ := Option.isSome_iff_exists.1 (HZ.out _ _ B2.out HLn.out (j * 2 + 1) (by omega))
      have f1 := B2.out.free (j * 2 + 1)
      have B3 := Lib.hid (B2.out.set (j * 2 + 1) (.string (Mt (u + 1))))
      have K3 := Lib.hid (K2.out.trans (Kp.set w2 HO.out (j * 2 + 1) (.string (Mt (u + 1)))))
      clear B2 K2
      go_wp2
      go_roundw
      case rel =>
        exact ⟨j + 1, u + 2, by omega, by go_num, by go_num, show _ = _ by rw [HU.out]; omega, ⟨_, B3.out, by rw [List.length_set]; exact HLn.out⟩, K3.out⟩
      case measure => simp [intOf]; omega
    · have hje : j = m := by omega
      subst hje
      go_wp2
      go_ret
      exact ⟨by rw [HU.out]; rfl, HK.out⟩

set_option maxHeartbeats 4000000 in
theorem markForest_any (g h n m c d : Nat) (zs : List Zn) (ps : List Pst) (gs : List Nat) (lo : Nat) (w : World) (hz : Oz w lo g zs gs) (hp : Bk w h 103 (fp ps)) (hh : h ∉ g :: gs) (hn : zs.length = n) (hm : ps.length = m) (hb : 1 + mws (zs.zip gs) + 2 * m ≤ 20000000) :
    Calls Tryz.prog 39 #[.agg #[.slice (some ⟨g, 0, none⟩) n c, .slice (some ⟨h, 0, none⟩) m d], .int .i64 1] w fun e w' => ∃ x : Nat, e = .returned (.int .i64 (x : Int)) ∧ Kp (fun k => k ∈ h :: g :: gs) w w' := by
  have X0 := Lib.hid (fx_new w 27 (.slice (some ⟨g, 0, none⟩) n c) (.slice (some ⟨h, 0, none⟩) m d))
  have L0 := Lib.hid ((Below.refl w.heap.size w).alloc (Nat.le_refl _) (.cells #[.slice (some ⟨g, 0, none⟩) n c, .slice (some ⟨h, 0, none⟩) m d] 27))
  obtain ⟨z1, z2', z3, z4, z5⟩ := hz
  have hsnd : (zs.zip gs).map Prod.snd = gs := by rw [List.map_snd_zip]; omega
  have hlen : (zs.zip gs).length = n := by rw [List.length_zip]; omega
  have M0 : Hid (Mz (fun k => k ∈ h :: g :: gs) w w g (zs.zip gs) 0) := by
    rw [fz_f2] at z2'
    refine ⟨⟨_, z2', fun i hi _ => ?_⟩, fun i hi _ => z3 _ (List.getElem_mem hi), Kp.refl _⟩
    have := f2_get ((zs.zip gs).map z2) i (by rw [List.length_map]; exact hi)
    rw [List.getElem_map] at this
    exact this
  have ND : Hid ((g :: (zs.zip gs).map Prod.snd).Nodup) := by rw [hsnd]; exact z4
  have HO : Hid (∀ k ∈ g :: (zs.zip gs).map Prod.snd, k ∈ h :: g :: gs) := by rw [hsnd]; exact fun k hk => List.mem_cons_of_mem _ hk
  have M1 := Lib.hid (M0.out.below L0.out)
  have M1' : Hid (Mz (fun k => k ∈ h :: g :: gs) (w.alloc (.cells #[.slice (some ⟨g, 0, none⟩) n c, .slice (some ⟨h, 0, none⟩) m d] 27)) (w.alloc (.cells #[.slice (some ⟨g, 0, none⟩) n c, .slice (some ⟨h, 0, none⟩) m d] 27)) g (zs.zip gs) 0) := ⟨M1.out.1, M1.out.2.1, Kp.refl _⟩
  have P0 := Lib.hid (hp.below L0.out hp.lt)
  have HLP : Hid ((fp ps).length = m * 2) := show _ = _ by rw [fp_len, hm]
  have NG : Hid (∀ W', Kp (fun k => k ∈ g :: gs) w W' → True) := fun _ _ => trivial
  have hgl : g < w.heap.size := z2'.lt
  have NX : Hid (¬ (w.heap.size ∈ h :: g :: gs)) := fun hx => by
    rcases List.mem_cons.1 hx with e | hx
    · have := hp.lt; omega
    · exact oz_high (w := w) ⟨z1, z2', z3, z4, z5⟩ (Nat.le_refl _) hx
  have KZ : Hid (∀ W, Mz (fun k => k ∈ h :: g :: gs) W W g (zs.zip gs) 0 → Calls Tryz.prog 93 #[.slice (some ⟨g, 0, none⟩) n c, .int .i64 ((1 : Nat) : Int)] W fun e w' => e = .returned (.int .i64 ((1 + mws (zs.zip gs) : Nat) : Int)) ∧ Kp (fun k => k ∈ g :: gs) W w') := fun W hW =>
    markZoneS_any (fun k => k ∈ g :: gs) g n c 1 (zs.zip gs) W ⟨hW.1, hW.2.1, Kp.refl _⟩ hlen ND.out (fun k hk => by have := HO.out k hk; rw [hsnd] at hk; exact hk) (by omega) (by omega)
  have hb' : (1 + mws (zs.zip gs)) + 2 * m ≤ 20000000 := hb
  have HH := Lib.hid hh
  clear hp hh z1 z2' z3 z4 z5 hsnd hlen M0 M1 ND HO NG
  generalize mws (zs.zip gs) = q at *
  obtain ⟨x0, x1⟩ := X0.out
  go_enter Tryz.func39, Tryz.ntmps39
  go_wp2_with fail
  refine (KZ.out _ M1'.out).mono ?_
  rintro e w2 ⟨rfl, hk⟩
  have P2 := Lib.hid (bk_kp P0.out hk HH.out)
  have X2 := Lib.hid (fx_kp X0.out hk (fun hx => NX.out (List.mem_cons_of_mem _ hx)))
  have K2 : Hid (Kp (fun k => k ∈ h :: g :: gs) w w2) := (Kp.below L0.out).trans ⟨hk.1, hk.2.1, hk.2.2.1, hk.2.2.2.1, fun j hj hn => hk.2.2.2.2 j hj (fun hx => hn (List.mem_cons_of_mem _ hx))⟩
  clear hk P0 X0 x0 x1 M1' L0
  obtain ⟨x0, x1⟩ := X2.out
  go_wp2_with fail
  refine (markPostS_any (fun k => k ∈ h :: g :: gs) h m d (1 + q) (fp ps) w2 P2.out HLP.out List.mem_cons_self (by omega) hb').mono ?_
  rintro e w3 ⟨rfl, hk⟩
  have K3 := Lib.hid (K2.out.trans hk)
  clear hk P2 X2 x0 x1 K2
  go_wp2
  go_ret
  exact ⟨1 + q + 2 * m, rfl, K3.out⟩
end Go.Proofs.YtmkcjjgicinggaaGreatDoor.MarkF
