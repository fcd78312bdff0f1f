/- What the law's own helpers toPost, toPostS, toZoneS and toForest do: a new name space with the same zones and posts, every slice a new one. Condition: fewer than 400000001 of each. -/
import Derived.Test.YtmkcjjgicinggaaGreatDoorToZ
import Derived.Test.YtmkcjjgicinggaaGreatDoorMemF
namespace Go.Proofs.YtmkcjjgicinggaaGreatDoor.ToF
open Go.RowKit Go.Proofs.YtmkcjjgicinggaaGreatDoor.Mem Go.Proofs.YtmkcjjgicinggaaGreatDoor.MemR Go.Proofs.YtmkcjjgicinggaaGreatDoor.BoxR Go.Proofs.YtmkcjjgicinggaaGreatDoor.MemZ Go.Proofs.YtmkcjjgicinggaaGreatDoor.MemF Go.Proofs.YtmkcjjgicinggaaGreatDoor.ToZ

/-- The cells of rows of two. -/
def f2 (l : List (Value × Value)) : List Value := l.flatMap fun p => [p.1, p.2]

theorem f2_len (l : List (Value × Value)) : (f2 l).length = l.length * 2 := by
  unfold f2
  induction l with
  | nil => rfl
  | cons p L ih => rw [List.flatMap_cons, List.length_append, ih, List.length_cons]; simp; omega

theorem f2_get : ∀ (L : List (Value × Value)) (j : Nat) (h : j < L.length), (f2 L)[j * 2]? = some L[j].1 ∧ (f2 L)[j * 2 + 1]? = some L[j].2
  | p :: L, 0, _ => ⟨rfl, rfl⟩
  | p :: L, j + 1, h => by
    have := f2_get L j (by simpa using h)
    unfold f2 at *
    rw [List.flatMap_cons, show (j + 1) * 2 = j * 2 + 2 by omega]
    exact this

theorem f2_put : ∀ (l : List (Value × Value)) (k : Nat) (r : Value × Value), k < l.length → ((f2 l).set (k * 2) r.1).set (k * 2 + 1) r.2 = f2 (l.set k r)
  | x :: l, 0, r, _ => rfl
  | x :: l, k + 1, r, h => by
    have e : ∀ (Y : List Value) (c : Nat) (v : Value), ([x.1, x.2] ++ Y).set ((k + 1) * 2 + c) v = [x.1, x.2] ++ Y.set (k * 2 + c) v := fun Y c v => by
      rw [List.set_append_right _ _ (by simp; omega), show (k + 1) * 2 + c - [x.1, x.2].length = k * 2 + c by simp; omega]
    have e0 : ∀ (Y : List Value) (v : Value), ([x.1, x.2] ++ Y).set ((k + 1) * 2) v = [x.1, x.2] ++ Y.set (k * 2) v := fun Y v => e Y 0 v
    rw [show f2 (x :: l) = [x.1, x.2] ++ f2 l from rfl, e0, e, f2_put l k r (by simpa using h)]
    rfl

theorem made_f2 (x y : Value) (n : Nat) : (madeCells #[x, y] (n * 2)).toList = f2 (List.replicate n (x, y)) := by
  refine List.ext_getElem? fun i => ?_
  by_cases hi : i < n * 2
  · have hj : i / 2 < n := by omega
    have e : i = i / 2 * 2 + i % 2 := by omega
    have h6 : i % 2 < 2 := by omega
    have g := f2_get (List.replicate n (x, y)) (i / 2) (by simpa using hj)
    simp only [madeCells, Array.toList_map, Array.toList_range, List.getElem?_map, List.getElem?_range hi, Option.map_some]
    conv => rhs; rw [e]
    generalize hc : i % 2 = c at h6
    rcases c with _ | _ | c
    · rw [Nat.add_zero, g.1]; simp
    · rw [g.2]; simp
    · omega
  · rw [List.getElem?_eq_none (by simp [madeCells]; omega), List.getElem?_eq_none (by rw [f2_len]; simp; omega)]

theorem step2 (l : List (Value × Value)) (k n : Nat) (z r : Value × Value) (hl : l.length = k) (hk : k < n) : (l ++ List.replicate (n - k) z).set k r = l ++ [r] ++ List.replicate (n - (k + 1)) z := by
  rw [List.set_append_right _ _ (by omega), show k - l.length = 0 by omega, show n - k = (n - (k + 1)) + 1 by omega, List.replicate_succ, List.set_cons_zero, List.append_assoc]
  rfl

/-- A post as two cells. -/
def p2 (p : Pst) : Value × Value := (.int .i64 p.addr, .string p.apex)
theorem fp_f2 (ps : List Pst) : fp ps = f2 (ps.map p2) := by
  unfold fp f2
  rw [List.flatMap_map]
  rfl

/-- A zone with its own row as two cells. -/
def z2 (p : Zn × Nat) : Value × Value := (.string p.1.apex, .slice (some ⟨p.2, 0, none⟩) p.1.l.length p.1.l.length)
theorem fz_f2 (L : List (Zn × Nat)) : (L.flatMap fun p => [.string p.1.apex, .slice (some ⟨p.2, 0, none⟩) p.1.l.length p.1.l.length]) = f2 (L.map z2) := by
  unfold f2
  rw [List.flatMap_map]
  rfl

section
theorem bk_of_owns2 {w : World} {g n base cap : Nat} {t : TypeId} {xs : List Value} (h : w.ownsRow base t 2 (.slice (some ⟨g, 0, none⟩) n cap) n xs) : ∃ r, Bk w g t (xs ++ r) ∧ (xs ++ r).length = cap * 2 ∧ n ≤ cap ∧ base ≤ g := by
  rcases h.2 with ⟨h1, _⟩ | ⟨g', cap', cur, hv, hb, hh, hle, _, hs, ht⟩
  · cases h1
  · simp only [Value.slice.injEq, Option.some.injEq, Addr.mk.injEq, true_and, and_true] at hv
    obtain ⟨rfl, rfl⟩ := hv
    refine ⟨cur.toList.drop (n * 2), ?_, ?_, hle, hb⟩
    · unfold Bk; rw [hh, ← ht]; simp
    · rw [← ht]; simp; omega
end

theorem infoP : (Tryz.prog.info? 103).map (fun i => (i.zero, i.size, i.bytes)) = some (some (.agg #[.int .i64 0, .string ⟨#[]⟩]), 2, 24) := by kernel_rfl
theorem infoZ : (Tryz.prog.info? 37).map (fun i => (i.zero, i.size, i.bytes)) = some (some (.agg #[.string ⟨#[]⟩, .slice none 0 0]), 2, 40) := by kernel_rfl

set_option maxHeartbeats 1000000 in
theorem toPost_any (a : Int) (s : ByteArray) (w : World) : Calls Tryz.prog 143 #[.agg #[.int .i64 a, .string s]] w fun e w' => e = .returned (.agg #[.int .i64 a, .string s]) ∧ Below w.heap.size w w' := by
  go_enter Tryz.func143, Tryz.ntmps143
  go_wp2
  refine bodyPost_ret (v := .agg #[.int .i64 a, .string s]) (by simp [results, Tryz.results143, go_sem]) rfl ⟨rfl, ?_⟩
  repeat (first | exact Below.refl _ _ | refine Below.setCell ?_ (by simp; try omega) _ | refine Below.alloc ?_ (by simp; try omega) _)

set_option maxHeartbeats 1000000 in
theorem toPostS_any (A : Option Addr) (n c : Nat) (ps : List Pst) (w : World) (hs : Rp w w.heap.size A n ps) (hn : n ≤ 400000000) :
    Calls Tryz.prog 90 #[.slice A n c] w fun e w' => e = .returned (.slice (some ⟨w.heap.size, 0, none⟩) n n) ∧ Bk w' w.heap.size 103 (fp ps) ∧ Below w.heap.size w w' := by
  obtain ⟨i0, hi, hz0, hz1, hz2⟩ := info_parts infoP
  have HS := Lib.hid hs
  clear hs
  go_enter Tryz.func90, Tryz.ntmps90
  go_wp2_with (at_make; refine wpList_make_full _ rfl _ _ 25 rfl w.heap.size 103 i0 _ 2 Tryz.underlying25 hi hz0 hz1 .i64 .i64 _ _ n rfl rfl ?c0 ?c1 ?c2 ?c3 ?c4 ?_)
  case c0 => rfl
  case c1 => rfl
  case c2 => rw [hz2]; omega
  case c3 => unfold maxLen; omega
  case c4 => exact Nat.le_refl _
  intro w1 hown hgrow
  obtain ⟨r, hb0, hlen0, _, _⟩ := bk_of_owns2 hown
  rw [made_f2] at hb0 hlen0
  have hr : r = [] := by
    have : (f2 (List.replicate n ((.int .i64 0 : Value), (.string ⟨#[]⟩ : Value)))).length + r.length = n * 2 := by rw [← List.length_append]; exact hlen0
    rw [f2_len] at this
    simp at this; exact this
  subst hr
  rw [List.append_nil] at hb0
  have HL0 := Lib.hid ((Below.refl w.heap.size w).grown hgrow (Nat.le_refl _) (fun k hk => by cases hk))
  have HB0 := Lib.hid hb0
  clear hb0 hown hgrow hlen0
  go_wp2
  go_loopw [4] (fun i wr => ∃ k : Nat, k ≤ n ∧ i = .int .i64 k ∧ Hid (Bk wr w.heap.size 103 (f2 ((ps.take k).map p2 ++ List.replicate (n - k) ((.int .i64 0 : Value), (.string ⟨#[]⟩ : Value))))) ∧ Hid (Below w.heap.size w wr)) (fun i _ => n - (intOf i).toNat)
  case atStart => exact ⟨0, Nat.zero_le _, rfl, by simpa [Hid] using HB0.out, HL0.out⟩
  case round =>
    clear HB0 HL0
    obtain ⟨k, hk, rfl, HB, HL⟩ := hrel
    by_cases hlt : k < n
    · obtain ⟨b, off, rfl, hbB, hcs⟩ := HS.out.2 (by omega)
      have hkl : k < ps.length := by rw [HS.out.1]; exact hlt
      obtain ⟨e0, e1⟩ := (hcs k hkl).below HL.out hbB
      have hkm : ((ps.take k).map p2).length = k := by simp; omega
      have HK := Lib.hid (step2 ((ps.take k).map p2) k n ((.int .i64 0 : Value), (.string ⟨#[]⟩ : Value)) (p2 ps[k]) hkm hlt)
      have HT : Hid ((ps.take k).map p2 ++ [p2 ps[k]] = (ps.take (k + 1)).map p2) := by
        show _ = _
        rw [List.take_succ_eq_append_getElem hkl, List.map_append]; rfl
      have hP : Hid (p2 ps[k] = (.int .i64 ps[k].addr, .string ps[k].apex)) := rfl
      clear hcs
      generalize ps[k] = r at *
      have hkk : k < ((ps.take k).map p2 ++ List.replicate (n - k) ((.int .i64 0 : Value), (.string ⟨#[]⟩ : Value))).length := by rw [List.length_append, hkm, List.length_replicate]; omega
      have HM : Hid (((ps.take k).map p2 ++ List.replicate (n - k) ((.int .i64 0 : Value), (.string ⟨#[]⟩ : Value))).length = n) := by show _ = _; rw [List.length_append, hkm, List.length_replicate]; omega
      generalize (ps.take k).map p2 ++ List.replicate (n - k) ((.int .i64 0 : Value), (.string ⟨#[]⟩ : Value)) = M at *
      go_wp2_with fail
      refine (toPost_any r.addr r.apex wr).mono ?_
      rintro e w2 ⟨rfl, hl⟩
      have B2 := Lib.hid (HB.out.below hl HB.out.lt)
      have L2 := Lib.hid (HL.out.trans (hl.mono HL.out.size))
      clear hl e0 e1 HB HL
      have z : ∀ j, j < n * 2 → (w2.cell? ⟨w.heap.size, j, none⟩).isSome = true := fun j hj => by
        rw [B2.out.cell, List.getElem?_eq_getElem (by rw [f2_len, HM.out]; exact hj)]; rfl
      obtain ⟨u0, z0⟩ := Option.isSome_iff_exists.1 (z (k * 2) (by omega))
      obtain ⟨u1, z1⟩ := Option.isSome_iff_exists.1 (z (k * 2 + 1) (by omega))
      have f0 := B2.out.free (k * 2)
      have f1 := B2.out.free (k * 2 + 1)
      clear z
      go_wp2
      go_roundw
      case rel =>
        refine ⟨k + 1, by omega, by go_num, ?_, ?_⟩
        · show Bk _ _ _ _
          have h6 := (B2.out.set (k * 2) (.int .i64 r.addr)).set (k * 2 + 1) (.string r.apex)
          have hp := f2_put M k (p2 r) hkk
          rw [hP.out] at hp
          rw [hp, ← hP.out, HK.out, HT.out] at h6
          exact h6
        · show Below _ _ _
          exact (L2.out.setCell (Nat.le_refl _) _).setCell (Nat.le_refl _) _
      case measure => simp [intOf]; omega
    · have hkn : k = n := by omega
      subst hkn
      go_wp2
      go_ret
      refine ⟨rfl, ?_, HL.out⟩
      have := HB.out
      rw [List.take_of_length_le (by rw [HS.out.1]; omega), Nat.sub_self, List.replicate_zero, List.append_nil] at this
      rw [fp_f2]
      exact this

/-- The first k zones are copied, into rows gs of their own; behind them lie empty zones. -/
def Zst (w wr : World) (zs : List Zn) (n k : Nat) (gs : List Nat) : Prop :=
  gs.length = k ∧ Bk wr w.heap.size 37 (f2 (((zs.take k).zip gs).map z2 ++ List.replicate (n - k) ((.string ⟨#[]⟩ : Value), (.slice none 0 0 : Value)))) ∧
  (∀ p ∈ (zs.take k).zip gs, Bk wr p.2 93 (fl p.1.l)) ∧ (w.heap.size :: gs).Nodup ∧ (∀ h ∈ gs, w.heap.size ≤ h ∧ h < wr.heap.size) ∧ Below w.heap.size w wr

section
variable {w wr w1 : World} {zs : List Zn} {n k g : Nat} {gs : List Nat}
theorem Zst.below (h : Zst w wr zs n k gs) (hb : Below wr.heap.size wr w1) : Zst w w1 zs n k gs := by
  obtain ⟨h1, h2, h3, h4, h5, h6⟩ := h
  exact ⟨h1, h2.below hb h2.lt, fun p hp => (h3 p hp).below hb (h3 p hp).lt, h4, fun a ha => ⟨(h5 a ha).1, Nat.lt_of_lt_of_le (h5 a ha).2 hb.size⟩, h6.trans (hb.mono h6.size)⟩

theorem Zst.next (h : Zst w wr zs n k gs) (hb : Below wr.heap.size wr w1) (hk : k < n) (hkz : k < zs.length) (hg : Bk w1 g 93 (fl zs[k].l)) (hgs : wr.heap.size ≤ g) :
    Zst w ((w1.setCell ⟨w.heap.size, k * 2, none⟩ (.string zs[k].apex)).setCell ⟨w.heap.size, k * 2 + 1, none⟩ (.slice (some ⟨g, 0, none⟩) zs[k].l.length zs[k].l.length)) zs n (k + 1) (gs ++ [g]) := by
  have hlt : w.heap.size < wr.heap.size := h.2.1.lt
  obtain ⟨h1, h2, h3, h4, h5, h6⟩ := h.below hb
  have htk : zs.take (k + 1) = zs.take k ++ [zs[k]] := List.take_succ_eq_append_getElem hkz
  have hzp : (zs.take (k + 1)).zip (gs ++ [g]) = (zs.take k).zip gs ++ [(zs[k], g)] := by
    rw [htk, List.zip_append (by simp; omega)]; rfl
  have hml : (((zs.take k).zip gs).map z2).length = k := by simp; omega
  refine ⟨by simp [h1], ?_, ?_, ?_, ?_, ?_⟩
  · have h6 := (h2.set (k * 2) (.string zs[k].apex)).set (k * 2 + 1) (.slice (some ⟨g, 0, none⟩) zs[k].l.length zs[k].l.length)
    have hlen : k < (((zs.take k).zip gs).map z2 ++ List.replicate (n - k) ((.string ⟨#[]⟩ : Value), (.slice none 0 0 : Value))).length := by rw [List.length_append, hml, List.length_replicate]; omega
    have hp := f2_put _ k (z2 (zs[k], g)) hlen
    rw [step2 _ k n _ _ hml hk] at hp
    change (List.set (List.set _ (k * 2) (Value.string zs[k].apex)) (k * 2 + 1) (Value.slice (some ⟨g, 0, none⟩) zs[k].l.length zs[k].l.length)) = _ at hp
    rw [hp] at h6
    rw [hzp, List.map_append]
    exact h6
  · intro p hp
    rw [hzp] at hp
    rcases List.mem_append.1 hp with hp | hp
    · have hq := h3 p hp
      have hne : p.2 ≠ w.heap.size := fun e => by
        have := List.of_mem_zip hp
        rw [e] at this
        exact (List.nodup_cons.1 h4).1 this.2
      exact (hq.other (p := ⟨w.heap.size, k * 2, none⟩) hne _).other (p := ⟨w.heap.size, k * 2 + 1, none⟩) hne _
    · obtain rfl := List.mem_singleton.1 hp
      exact (hg.other (p := ⟨w.heap.size, k * 2, none⟩) (by show g ≠ w.heap.size; omega) _).other (p := ⟨w.heap.size, k * 2 + 1, none⟩) (by show g ≠ w.heap.size; omega) _
  · obtain ⟨a1, a2⟩ := List.nodup_cons.1 h4
    refine List.nodup_cons.2 ⟨fun hm => ?_, List.nodup_append.2 ⟨a2, by simp, fun a ha b hb' e => ?_⟩⟩
    · rcases List.mem_append.1 hm with hm | hm
      · exact a1 hm
      · have := List.mem_singleton.1 hm
        omega
    · have := (h.2.2.2.2.1 a ha).2
      have := List.mem_singleton.1 hb'
      omega
  · intro a ha
    have hs : ∀ (W : World) (p : Addr) (u : Value), (W.setCell p u).heap.size = W.heap.size := fun W p u => by simp
    rw [hs, hs]
    rcases List.mem_append.1 ha with ha | ha
    · exact h5 a ha
    · obtain rfl := List.mem_singleton.1 ha
      exact ⟨by omega, hg.lt⟩
  · exact (h6.setCell (p := ⟨w.heap.size, k * 2, none⟩) (Nat.le_refl _) _).setCell (p := ⟨w.heap.size, k * 2 + 1, none⟩) (Nat.le_refl _) _
end

theorem toZone_at {own : Prop} {B b o : Nat} {z : Zn} {w : World} (h : Cz own w B b o z) (hB : B ≤ w.heap.size) (hz : z.l.length ≤ 400000000) :
    ∃ A n c, w.cell? ⟨b, o, none⟩ = some (.string z.apex) ∧ w.cell? ⟨b, o + 1, none⟩ = some (.slice A n c) ∧
      Hid (Calls Tryz.prog 142 #[.agg #[.string z.apex, .slice A n c]] w fun e w' => ∃ g, e = .returned (.agg #[.string z.apex, .slice (some ⟨g, 0, none⟩) z.l.length z.l.length]) ∧ Bk w' g 93 (fl z.l) ∧ w.heap.size ≤ g ∧ Below w.heap.size w w') := by
  obtain ⟨e0, A, n, c, e1, hr, _⟩ := h
  obtain rfl : z.l.length = n := hr.1
  exact ⟨A, _, c, e0, e1, toZone_any z.apex A _ c z.l w (hr.wider hB) hz⟩

set_option maxHeartbeats 1000000 in
theorem toZoneS_any (own : Prop) (A : Option Addr) (n c : Nat) (zs : List Zn) (w : World) (hs : Rz own w w.heap.size A n zs) (hn : n ≤ 200000000) (hz : ∀ z ∈ zs, z.l.length ≤ 400000000) :
    Calls Tryz.prog 89 #[.slice A n c] w fun e w' => ∃ gs, e = .returned (.slice (some ⟨w.heap.size, 0, none⟩) n n) ∧ Oz w' w.heap.size w.heap.size zs gs ∧ Below w.heap.size w w' := by
  obtain ⟨i0, hi, hz0, hz1, hz2⟩ := info_parts infoZ
  have HS := Lib.hid hs
  have HZ := Lib.hid hz
  clear hs hz
  go_enter Tryz.func89, Tryz.ntmps89
  go_wp2_with (at_make; refine wpList_make_full _ rfl _ _ 24 rfl w.heap.size 37 i0 _ 2 Tryz.underlying24 hi hz0 hz1 .i64 .i64 _ _ n rfl rfl ?c0 ?c1 ?c2 ?c3 ?c4 ?_)
  case c0 => rfl
  case c1 => rfl
  case c2 => rw [hz2]; omega
  case c3 => unfold maxLen; omega
  case c4 => exact Nat.le_refl _
  intro w1 hown hgrow
  obtain ⟨r, hb0, hlen0, _, _⟩ := bk_of_owns2 hown
  rw [made_f2] at hb0 hlen0
  have hr : r = [] := by
    have : (f2 (List.replicate n ((.string ⟨#[]⟩ : Value), (.slice none 0 0 : Value)))).length + r.length = n * 2 := by rw [← List.length_append]; exact hlen0
    rw [f2_len] at this
    simp at this; exact this
  subst hr
  rw [List.append_nil] at hb0
  have HL0 := Lib.hid ((Below.refl w.heap.size w).grown hgrow (Nat.le_refl _) (fun k hk => by cases hk))
  have HB0 : Hid (Zst w w1 zs n 0 []) := ⟨rfl, by simpa using hb0, fun p hp => by simp at hp, by simp, (fun a ha => by cases ha), HL0.out⟩
  clear hb0 hown hgrow hlen0 HL0
  go_wp2
  go_loopw [4] (fun i wr => ∃ (k : Nat) (gs : List Nat), k ≤ n ∧ i = .int .i64 k ∧ Hid (Zst w wr zs n k gs)) (fun i _ => n - (intOf i).toNat)
  case atStart => exact ⟨0, [], Nat.zero_le _, rfl, HB0.out⟩
  case round =>
    clear HB0
    obtain ⟨k, gs, hk, rfl, HB⟩ := hrel
    by_cases hlt : k < n
    · obtain ⟨b, off, rfl, hbB, hcs⟩ := HS.out.2 (by omega)
      have hkl : k < zs.length := by rw [HS.out.1]; exact hlt
      have HL := Lib.hid HB.out.2.2.2.2.2
      obtain ⟨A, na, ca, e0, e1, HC⟩ := toZone_at ((hcs k hkl).below HL.out hbB) HL.out.size (HZ.out _ (List.getElem_mem hkl))
      have HN := Lib.hid (fun (W : World) (g : Nat) (hb : Below wr.heap.size wr W) (h1 : Bk W g 93 (fl zs[k].l)) (h2 : wr.heap.size ≤ g) => HB.out.next hb hlt hkl h1 h2)
      have HQ : Hid (∀ W : World, Below wr.heap.size wr W → ∃ u0 u1, W.cell? ⟨w.heap.size, k * 2, none⟩ = some u0 ∧ W.cell? ⟨w.heap.size, k * 2 + 1, none⟩ = some u1 ∧ W.frozen? ⟨w.heap.size, k * 2, none⟩ = false ∧ W.frozen? ⟨w.heap.size, k * 2 + 1, none⟩ = false) := fun W hW => by
        obtain ⟨a1, a2, -⟩ := HB.out.below hW
        have z : ∀ j, j < n * 2 → (W.cell? ⟨w.heap.size, j, none⟩).isSome = true := fun j hj => by
          rw [a2.cell, List.getElem?_eq_getElem (by rw [f2_len, List.length_append, List.length_replicate]; simp; omega)]; rfl
        obtain ⟨u0, z0⟩ := Option.isSome_iff_exists.1 (z (k * 2) (by omega))
        obtain ⟨u1, z1⟩ := Option.isSome_iff_exists.1 (z (k * 2 + 1) (by omega))
        exact ⟨u0, u1, z0, z1, a2.free _, a2.free _⟩
      clear hcs HB HL
      generalize zs[k] = r at *
      go_wp2_with fail
      refine HC.out.mono ?_
      rintro e w2 ⟨g, rfl, hb, hg, hl⟩
      obtain ⟨u0, u1, z0, z1, f0, f1⟩ := HQ.out w2 hl
      have HX := Lib.hid (HN.out w2 g hl hb hg)
      clear hl e0 e1 hb hg HN HQ HC
      go_wp2
      go_roundw
      case rel => exact ⟨k + 1, gs ++ [g], by omega, by go_num, HX.out⟩
      case measure => simp [intOf]; omega
    · have hkn : k = n := by omega
      subst hkn
      go_wp2
      go_ret
      obtain ⟨h1, h2, h3, h4, h5, h6⟩ := HB.out
      have ht : zs.take k = zs := List.take_of_length_le (by rw [HS.out.1]; omega)
      rw [ht, Nat.sub_self, List.replicate_zero, List.append_nil, ← fz_f2] at h2
      rw [ht] at h3
      exact ⟨gs, rfl, ⟨by rw [h1, HS.out.1], h2, h3, h4, fun h hh => by
        rcases List.mem_cons.1 hh with rfl | hh
        · exact Nat.le_refl _
        · exact (h5 h hh).1⟩, h6⟩

/-- A slot of two cells, filled. -/
def fil2 (w : World) (g : Nat) (x y : Value) : World := (w.setCell ⟨g, 0, none⟩ x).setCell ⟨g, 1, none⟩ y

theorem load_f {w : World} {g : Nat} {t : TypeId} {A P : Option Addr} {n c m d : Nat} (k : Bk w g t [.slice A n c, .slice P m d]) :
    (loadVar 27 ⟨g, 0, none⟩).run Tryz.prog w = .ok (.agg #[.slice A n c, .slice P m d]) w := by
  have c0 : w.cell? ⟨g, 0, none⟩ = some (.slice A n c) := k.cell 0
  have c1 : w.cell? ⟨g, 1, none⟩ = some (.slice P m d) := k.cell 1
  simp [go_sem, c0, c1]
theorem resF {fn : Func} {p : Tmp} {w : World} {g : Nat} {t : TypeId} {A P : Option Addr} {n c m d : Nat} {tmps : Array Value} (hf : fn.results = #[.cell p 27])
    (k : Bk w g t [.slice A n c, .slice P m d]) (h4 : tmps.getD p undef = .pointer (some ⟨g, 0, none⟩)) :
    (results fn tmps).run Tryz.prog w = .ok (.agg #[.slice A n c, .slice P m d]) w := by
  rw [results_cellZ hf, h4, show (asAddr (.pointer (some ⟨g, 0, none⟩))).run Tryz.prog w = .ok ⟨g, 0, none⟩ w from rfl]
  simp only [Result.andThen, load_f k]

section
variable {w : World} {lo g k : Nat} {zs : List Zn} {gs : List Nat}
theorem oz_set (h : Oz w lo g zs gs) (hk : k ∉ g :: gs) (j : Nat) (u : Value) : Oz (w.setCell ⟨k, j, none⟩ u) lo g zs gs := by
  obtain ⟨h1, h2, h3, h4, h5⟩ := h
  refine ⟨h1, h2.other (p := ⟨k, j, none⟩) (fun e => hk (by have e' : g = k := e; rw [← e']; exact List.mem_cons_self)) u, fun p hp => (h3 p hp).other (p := ⟨k, j, none⟩) (fun e => hk ?_) u, h4, h5⟩
  have e' : p.2 = k := e
  rw [← e']
  exact List.mem_cons_of_mem _ (List.of_mem_zip hp).2
theorem oz_low (h : Oz w lo g zs gs) (hk : k < lo) : k ∉ g :: gs := fun hm => by have := h.2.2.2.2 k hm; omega
theorem oz_down (h : Oz w lo g zs gs) (hk : k ≤ lo) : Oz w k g zs gs := ⟨h.1, h.2.1, h.2.2.1, h.2.2.2.1, fun a ha => Nat.le_trans hk (h.2.2.2.2 a ha)⟩
theorem oz_high (h : Oz w lo g zs gs) (hk : w.heap.size ≤ k) : k ∉ g :: gs := fun hm => by
  rcases List.mem_cons.1 hm with rfl | hm
  · have := h.2.1.lt; omega
  · obtain ⟨j, hj, rfl⟩ := List.getElem_of_mem hm
    have hz : j < (zs.zip gs).length := by rw [List.length_zip, ← h.1]; omega
    have := (h.2.2.1 _ (List.getElem_mem hz)).lt
    simp at this
    omega
end

set_option maxRecDepth 100000 in
set_option maxHeartbeats 4000000 in
theorem toForest_any (own : Prop) (A : Option Addr) (n c : Nat) (zs : List Zn) (P : Option Addr) (m d : Nat) (ps : List Pst) (w : World) (hs : Sf own w A n zs P m ps) (hn : n ≤ 200000000) (hm : m ≤ 400000000) (hz : ∀ z ∈ zs, z.l.length ≤ 400000000) :
    Calls Tryz.prog 36 #[.agg #[.slice A n c, .slice P m d]] w (GivesF w zs ps) := by
  have hnl : zs.length = n := hs.1.1
  have hml : ps.length = m := hs.2.1
  have S0 := Lib.hid hs
  have Z := Lib.hid hz
  clear hs hz
  have P0 := Lib.hid (((fx_new w 63 (.slice A n c) (.slice P m d)).alloc (.cells #[.slice none 0 0, .slice none 0 0] 27)).alloc (.cells #[.slice none 0 0, .slice none 0 0] 27))
  have R0 := Lib.hid ((at2 (w := w) (a := .cells #[.slice A n c, .slice P m d] 63) (cs := #[.slice none 0 0, .slice none 0 0]) (t := 27)).alloc (.cells #[.slice none 0 0, .slice none 0 0] 27))
  have O0 := Lib.hid (at3 (w := w) (a := .cells #[.slice A n c, .slice P m d] 63) (b := .cells #[.slice none 0 0, .slice none 0 0] 27) (cs := #[.slice none 0 0, .slice none 0 0]) (t := 27))
  have L0 := Lib.hid ((((Below.refl w.heap.size w).alloc (Nat.le_refl _) (.cells #[.slice A n c, .slice P m d] 63)).alloc (by simp) (.cells #[.slice none 0 0, .slice none 0 0] 27)).alloc (by simp; omega) (.cells #[.slice none 0 0, .slice none 0 0] 27))
  obtain ⟨x0, x1⟩ := P0.out
  go_enter Tryz.func36, Tryz.ntmps36
  go_wp2_with fail
  refine (toZoneS_any own A n c zs _ (S0.out.on L0.out).1 hn Z.out).mono ?_
  rintro e w3 ⟨gs, rfl, hO, hl⟩
  have N3 : Hid (w.heap.size + 1 + 1 + 1 = (((w.alloc (.cells #[.slice A n c, .slice P m d] 63)).alloc (.cells #[.slice none 0 0, .slice none 0 0] 27)).alloc (.cells #[.slice none 0 0, .slice none 0 0] 27)).heap.size) := by show _ = _; simp
  have O3 := Lib.hid (O0.out.below hl O0.out.lt)
  have Z3 := Lib.hid hO
  rw [← N3.out] at Z3
  have R3 := Lib.hid (R0.out.below hl R0.out.lt)
  have L3 := Lib.hid (L0.out.trans (hl.mono L0.out.size))
  have P3 := Lib.hid (P0.out.below hl)
  rw [← N3.out]
  clear hO hl P0 R0 O0 L0 x0 x1 N3
  have z0 : w3.cell? ⟨w.heap.size + 1 + 1, 0, none⟩ = some (.slice none 0 0) := O3.out.cell 0
  have f0 := O3.out.free 0
  have O4 := Lib.hid (O3.out.set 0 (.slice (some ⟨w.heap.size + 1 + 1 + 1, 0, none⟩) n n))
  have R4 := Lib.hid (R3.out.other (p := ⟨w.heap.size + 1 + 1, 0, none⟩) (by simp) (.slice (some ⟨w.heap.size + 1 + 1 + 1, 0, none⟩) n n))
  have L4 := Lib.hid (L3.out.setCell (p := ⟨w.heap.size + 1 + 1, 0, none⟩) (by simp; omega) (.slice (some ⟨w.heap.size + 1 + 1 + 1, 0, none⟩) n n))
  have Z4 := Lib.hid (oz_set Z3.out (oz_low Z3.out (k := w.heap.size + 1 + 1) (by omega)) 0 (.slice (some ⟨w.heap.size + 1 + 1 + 1, 0, none⟩) n n))
  have P4 : Hid (Fx (w3.setCell ⟨w.heap.size + 1 + 1, 0, none⟩ (.slice (some ⟨w.heap.size + 1 + 1 + 1, 0, none⟩) n n)) w.heap.size (.slice A n c) (.slice P m d)) :=
    P3.out.move fun j => World.cell?_of_block (Below.heap_setCell w3 ⟨w.heap.size + 1 + 1, 0, none⟩ _ w.heap.size (by show w.heap.size ≠ w.heap.size + 1 + 1; omega))
  have S4 := Lib.hid (S0.out.on L4.out)
  obtain ⟨x0, x1⟩ := P4.out
  clear P3 O3 R3 L3 Z3
  go_wp2_with fail
  refine (toPostS_any P m d ps _ S4.out.2 hm).mono ?_
  rintro e w5 ⟨rfl, hb, hl⟩
  generalize hW4 : w3.setCell ⟨w.heap.size + 1 + 1, 0, none⟩ (.slice (some ⟨w.heap.size + 1 + 1 + 1, 0, none⟩) n n) = w4 at *
  have NB := Lib.hid (oz_high Z4.out (Nat.le_refl w4.heap.size))
  have NL : Hid (w.heap.size + 1 + 1 < w4.heap.size) := O4.out.lt
  have B5 := Lib.hid hb
  have Z5 := Lib.hid (Z4.out.below hl)
  have O5 := Lib.hid (O4.out.below hl O4.out.lt)
  have R5 := Lib.hid (R4.out.below hl R4.out.lt)
  have L5 := Lib.hid (L4.out.trans (hl.mono L4.out.size))
  clear hW4 hb hl P4 O4 R4 L4 Z4 x0 x1 z0 f0 S4
  generalize w4.heap.size = h at *
  have o0 : w5.cell? ⟨w.heap.size + 1 + 1, 0, none⟩ = some (.slice (some ⟨w.heap.size + 1 + 1 + 1, 0, none⟩) n n) := O5.out.cell 0
  have o1 : w5.cell? ⟨w.heap.size + 1 + 1, 1, none⟩ = some (.slice none 0 0) := O5.out.cell 1
  have f1 := O5.out.free 1
  have r0 : w5.cell? ⟨w.heap.size + 1, 0, none⟩ = some (.slice none 0 0) := R5.out.cell 0
  have q0 := R5.out.free 0
  have r1 : w5.cell? ⟨w.heap.size + 1, 1, none⟩ = some (.slice none 0 0) := R5.out.cell 1
  have q1 := R5.out.free 1
  have R6 := Lib.hid (((R5.out.other (p := ⟨w.heap.size + 1 + 1, 1, none⟩) (by simp) (.slice (some ⟨h, 0, none⟩) m m)).set 0 (.slice (some ⟨w.heap.size + 1 + 1 + 1, 0, none⟩) n n)).set 1 (.slice (some ⟨h, 0, none⟩) m m))
  have L6 := Lib.hid (((L5.out.setCell (p := ⟨w.heap.size + 1 + 1, 1, none⟩) (by simp; omega) (.slice (some ⟨h, 0, none⟩) m m)).setCell (p := ⟨w.heap.size + 1, 0, none⟩) (by simp) (.slice (some ⟨w.heap.size + 1 + 1 + 1, 0, none⟩) n n)).setCell (p := ⟨w.heap.size + 1, 1, none⟩) (by simp) (.slice (some ⟨h, 0, none⟩) m m))
  have Z6 := Lib.hid (oz_set (oz_set (oz_set Z5.out (oz_low Z5.out (k := w.heap.size + 1 + 1) (by omega)) 1 (.slice (some ⟨h, 0, none⟩) m m)) (oz_low Z5.out (k := w.heap.size + 1) (by omega)) 0 (.slice (some ⟨w.heap.size + 1 + 1 + 1, 0, none⟩) n n)) (oz_low Z5.out (k := w.heap.size + 1) (by omega)) 1 (.slice (some ⟨h, 0, none⟩) m m))
  have B6 := Lib.hid (((B5.out.other (p := ⟨w.heap.size + 1 + 1, 1, none⟩) (by have := NL.out; show h ≠ w.heap.size + 1 + 1; omega) (.slice (some ⟨h, 0, none⟩) m m)).other (p := ⟨w.heap.size + 1, 0, none⟩) (by have := NL.out; show h ≠ w.heap.size + 1; omega) (.slice (some ⟨w.heap.size + 1 + 1 + 1, 0, none⟩) n n)).other (p := ⟨w.heap.size + 1, 1, none⟩) (by have := NL.out; show h ≠ w.heap.size + 1; omega) (.slice (some ⟨h, 0, none⟩) m m))
  clear B5 Z5 O5 R5 L5
  go_wp2
  refine bodyPost_ret (v := .agg #[.slice (some ⟨w.heap.size + 1 + 1 + 1, 0, none⟩) n n, .slice (some ⟨h, 0, none⟩) m m]) (resF rfl R6.out rfl) rfl ⟨w.heap.size + 1 + 1 + 1, gs, h, by rw [hnl, hml], oz_down Z6.out (by omega), B6.out, NB.out, ?_, L6.out⟩
  have := NL.out
  omega
end Go.Proofs.YtmkcjjgicinggaaGreatDoor.ToF
