/- What the law's own helpers szZoneS, szPostS and szForest do: they return a number that is not negative only where the zones, posts, records and the bytes of all texts are at most the given number together. -/
import Derived.Test.YtmkcjjgicinggaaGreatDoorSzZ
import Derived.Test.YtmkcjjgicinggaaGreatDoorMemF
namespace Go.Proofs.YtmkcjjgicinggaaGreatDoor.SzF
open Go.RowKit Go.Proofs.YtmkcjjgicinggaaGreatDoor.Mem Go.Proofs.YtmkcjjgicinggaaGreatDoor.MemR Go.Proofs.YtmkcjjgicinggaaGreatDoor.BoxR Go.Proofs.YtmkcjjgicinggaaGreatDoor.MemZ Go.Proofs.YtmkcjjgicinggaaGreatDoor.MemF Go.Proofs.YtmkcjjgicinggaaGreatDoor.SzR Go.Proofs.YtmkcjjgicinggaaGreatDoor.SzZ

/-- What a zone weighs. -/
def zw (z : Zn) : Nat := z.apex.size + (z.l.length + tot z.l)

/-- What zones weigh. -/
def zws (zs : List Zn) : Nat := (zs.map zw).sum

/-- What posts weigh. -/
def pws (ps : List Pst) : Nat := (ps.map (·.apex.size)).sum

theorem zws_step (l : List Zn) (k : Nat) (h : k < l.length) : zws (l.take (k + 1)) = zws (l.take k) + zw l[k] := by
  rw [zws, List.take_succ_eq_append_getElem h, List.map_append, List.sum_append]
  simp [zws]

theorem pws_step (l : List Pst) (k : Nat) (h : k < l.length) : pws (l.take (k + 1)) = pws (l.take k) + l[k].apex.size := by
  rw [pws, List.take_succ_eq_append_getElem h, List.map_append, List.sum_append]
  simp [pws]

theorem zws_le (l : List Zn) (z : Zn) (h : z ∈ l) : zw z ≤ zws l := le_sum _ _ (List.mem_map.2 ⟨z, h, rfl⟩)

theorem pws_le (l : List Pst) (p : Pst) (h : p ∈ l) : p.apex.size ≤ pws l := le_sum _ _ (List.mem_map.2 ⟨p, h, rfl⟩)

/-- The texts of a zone are no longer than any text, its records no more than any slice's. -/
def SmallZ (z : Zn) : Prop := z.apex.size ≤ 9223372036854775807 ∧ z.l.length ≤ 9223372036854775807 ∧ ∀ r ∈ z.l, r.name.size ≤ 9223372036854775807 ∧ r.host.size ≤ 9223372036854775807 ∧ r.text.size ≤ 9223372036854775807

set_option maxHeartbeats 2000000 in
theorem szZoneS_any (own : Prop) (A : Option Addr) (n c : Nat) (zs : List Zn) (x : Int) (w : World) (hs : Rz own w w.heap.size A n zs) (h0 : 0 ≤ x) (h1 : x ≤ 1048576) (hn : n ≤ 9223372036854775807) (hz : ∀ z ∈ zs, SmallZ z) :
    Calls Tryz.prog 87 #[.slice A n c, .int .i64 x] w (Sz x (zs.length + zws zs) w) := by
  have HS := Lib.hid hs
  have HZ := Lib.hid hz
  clear hz hs
  by_cases hbig : (n : Int) ≤ x
  · go_enter Tryz.func87, Tryz.ntmps87
    go_wp2
    go_loopw [1, 5] (fun r i wr => ∃ (k : Nat) (y : Int), k ≤ n ∧ i = .int .i64 k ∧ r = .int .i64 y ∧ 0 ≤ y ∧ y ≤ x ∧ Hid (y = x - (n : Int) - (zws (zs.take k) : Int)) ∧ Hid (Below w.heap.size w wr)) (fun _ i _ => n - (intOf i).toNat)
    case atStart => exact ⟨0, x - (n : Int), Nat.zero_le _, rfl, rfl, by omega, by omega, by show _ = _; simp [zws], Below.refl _ _⟩
    case round =>
      obtain ⟨k, y, hk, rfl, rfl, hy0, hy1, HX, HB⟩ := hrel
      by_cases hlt : k < n
      · obtain ⟨b, off, rfl, hbB, hcs⟩ := HS.out.2 (by omega)
        have hkl : k < zs.length := by rw [HS.out.1]; exact hlt
        have HR := Lib.hid (HZ.out zs[k] (List.getElem_mem hkl))
        have HT := Lib.hid (zws_step zs k hkl)
        obtain ⟨e0, A1, n1, c1, e1, hr, _⟩ := (hcs k hkl).below HB.out hbB
        have HR1 := Lib.hid (hr.wider HB.out.size)
        clear hcs hr
        generalize zs[k] = z at *
        have C := Lib.hid (szZone_any z.apex A1 n1 c1 z.l y wr hy0 (by omega) HR.out.1 HR1.out (by have := HR1.out.1; have := HR.out.2.1; omega) HR.out.2.2)
        have HW : Hid (zw z = z.apex.size + (z.l.length + tot z.l)) := rfl
        go_wp2_with fail
        refine C.out.mono ?_
        rintro e w1 ⟨v, rfl, hz0, hz1, hz, hl⟩
        have HY := Lib.hid hz
        have HL := Lib.hid (HB.out.trans (hl.mono HB.out.size))
        clear hz hl e0 e1 C
        by_cases hneg : v < 0
        · go_wp2
          go_ret
          exact ⟨-1, rfl, by omega, by omega, fun h => by omega, HL.out⟩
        · go_wp2
          go_roundw
          case rel => exact ⟨k + 1, v, by omega, by go_num, rfl, by omega, by omega, by show _ = _; rw [HT.out, HY.out (by omega), HX.out, HW.out]; omega, HL.out⟩
          case measure => simp [intOf]; omega
      · go_wp2
        go_ret
        refine ⟨y, rfl, by omega, by omega, fun _ => ?_, HB.out⟩
        have h1 := HX.out
        rw [List.take_of_length_le (by rw [HS.out.1]; omega)] at h1
        rw [HS.out.1]
        omega
  · go_enter Tryz.func87, Tryz.ntmps87
    go_wp2
    go_ret
    exact ⟨-1, rfl, by omega, by omega, fun h => by omega, Below.refl _ _⟩

set_option maxHeartbeats 1000000 in
theorem szPost_any (a : Int) (s : ByteArray) (x : Int) (w : World) (h0 : 0 ≤ x) (h1 : x ≤ 1048576) (hq : s.size ≤ 9223372036854775807) :
    Calls Tryz.prog 141 #[.agg #[.int .i64 a, .string s], .int .i64 x] w (Sz x s.size w) := by
  have L0 := Lib.hid ((Below.refl w.heap.size w).alloc (Nat.le_refl _) (.cells #[.int .i64 a, .string s] 163))
  by_cases neg : x - (s.size : Int) < 0
  · go_enter Tryz.func141, Tryz.ntmps141
    go_wp2
    go_ret
    exact ⟨-1, rfl, by omega, by omega, fun h => by omega, L0.out⟩
  · go_enter Tryz.func141, Tryz.ntmps141
    go_wp2
    go_ret
    exact ⟨_, rfl, by omega, by omega, fun h => by omega, L0.out⟩

set_option maxHeartbeats 2000000 in
theorem szPostS_any (A : Option Addr) (n c : Nat) (ps : List Pst) (x : Int) (w : World) (hs : Rp w w.heap.size A n ps) (h0 : 0 ≤ x) (h1 : x ≤ 1048576) (hn : n ≤ 9223372036854775807) (hz : ∀ p ∈ ps, p.apex.size ≤ 9223372036854775807) :
    Calls Tryz.prog 88 #[.slice A n c, .int .i64 x] w (Sz x (ps.length + pws ps) w) := by
  have HS := Lib.hid hs
  have HZ := Lib.hid hz
  clear hz hs
  by_cases hbig : (n : Int) ≤ x
  · go_enter Tryz.func88, Tryz.ntmps88
    go_wp2
    go_loopw [1, 5] (fun r i wr => ∃ (k : Nat) (y : Int), k ≤ n ∧ i = .int .i64 k ∧ r = .int .i64 y ∧ 0 ≤ y ∧ y ≤ x ∧ Hid (y = x - (n : Int) - (pws (ps.take k) : Int)) ∧ Hid (Below w.heap.size w wr)) (fun _ i _ => n - (intOf i).toNat)
    case atStart => exact ⟨0, x - (n : Int), Nat.zero_le _, rfl, rfl, by omega, by omega, by show _ = _; simp [pws], Below.refl _ _⟩
    case round =>
      obtain ⟨k, y, hk, rfl, rfl, hy0, hy1, HX, HB⟩ := hrel
      by_cases hlt : k < n
      · obtain ⟨b, off, rfl, hbB, hcs⟩ := HS.out.2 (by omega)
        have hkl : k < ps.length := by rw [HS.out.1]; exact hlt
        have HR := Lib.hid (HZ.out ps[k] (List.getElem_mem hkl))
        have HT := Lib.hid (pws_step ps k hkl)
        obtain ⟨e0, e1⟩ := (hcs k hkl).below HB.out hbB
        clear hcs
        generalize ps[k] = p at *
        have C := Lib.hid (szPost_any p.addr p.apex y wr hy0 (by omega) HR.out)
        go_wp2_with fail
        refine C.out.mono ?_
        rintro e w1 ⟨v, rfl, hz0, hz1, hz, hl⟩
        have HY := Lib.hid hz
        have HL := Lib.hid (HB.out.trans (hl.mono HB.out.size))
        clear hz hl e0 e1 C
        by_cases hneg : v < 0
        · go_wp2
          go_ret
          exact ⟨-1, rfl, by omega, by omega, fun h => by omega, HL.out⟩
        · go_wp2
          go_roundw
          case rel => exact ⟨k + 1, v, by omega, by go_num, rfl, by omega, by omega, by show _ = _; rw [HT.out, HY.out (by omega), HX.out]; omega, HL.out⟩
          case measure => simp [intOf]; omega
      · go_wp2
        go_ret
        refine ⟨y, rfl, by omega, by omega, fun _ => ?_, HB.out⟩
        have h1 := HX.out
        rw [List.take_of_length_le (by rw [HS.out.1]; omega)] at h1
        rw [HS.out.1]
        omega
  · go_enter Tryz.func88, Tryz.ntmps88
    go_wp2
    go_ret
    exact ⟨-1, rfl, by omega, by omega, fun h => by omega, Below.refl _ _⟩

set_option maxHeartbeats 2000000 in
theorem szForest_any (own : Prop) (A : Option Addr) (n c : Nat) (zs : List Zn) (P : Option Addr) (m d : Nat) (ps : List Pst) (x : Int) (w : World) (h0 : 0 ≤ x) (h1 : x ≤ 1048576)
    (hs : Sf own w A n zs P m ps) (hn : n ≤ 9223372036854775807) (hm : m ≤ 9223372036854775807) (hz : ∀ z ∈ zs, SmallZ z) (hp : ∀ p ∈ ps, p.apex.size ≤ 9223372036854775807) :
    Calls Tryz.prog 35 #[.agg #[.slice A n c, .slice P m d], .int .i64 x] w (Sz x ((zs.length + zws zs) + (ps.length + pws ps)) w) := by
  have L0 := Lib.hid ((Below.refl w.heap.size w).alloc (Nat.le_refl _) (.cells #[.slice A n c, .slice P m d] 63))
  have X0 := Lib.hid (fx_new w 63 (.slice A n c) (.slice P m d))
  have S0 := Lib.hid (hs.on L0.out)
  have Z := Lib.hid hz
  have Q := Lib.hid hp
  clear hs hz hp
  obtain ⟨x0, x1⟩ := X0.out
  go_enter Tryz.func35, Tryz.ntmps35
  go_wp2_with fail
  refine (szZoneS_any own A n c zs x _ S0.out.1 h0 h1 hn Z.out).mono ?_
  rintro e w2 ⟨y2, rfl, a2, b2, e2, hl⟩
  have Y2 := Lib.hid e2
  have L2 := Lib.hid (L0.out.trans (hl.mono L0.out.size))
  have S2 := Lib.hid (S0.out.on hl)
  have X2 := Lib.hid (X0.out.below hl)
  clear hl L0 X0 S0 e2 x0 x1
  by_cases neg2 : y2 < 0
  · go_wp2
    go_ret
    exact ⟨-1, rfl, by omega, by omega, fun h => by omega, L2.out⟩
  obtain ⟨x0, x1⟩ := X2.out
  have C := Lib.hid (szPostS_any P m d ps y2 w2 S2.out.2 (by omega) (by omega) hm Q.out)
  go_wp2_with fail
  refine C.out.mono ?_
  rintro e w3 ⟨y3, rfl, a3, b3, e3, hl⟩
  have Y3 := Lib.hid e3
  have L3 := Lib.hid (L2.out.trans (hl.mono L2.out.size))
  clear hl L2 X2 S2 e3 x0 x1 C
  by_cases neg3 : y3 < 0
  · go_wp2
    go_ret
    exact ⟨-1, rfl, by omega, by omega, fun h => by omega, L3.out⟩
  go_wp2
  go_ret
  refine ⟨y3, rfl, by omega, by omega, fun _ => ?_, L3.out⟩
  have q2 := Y2.out (by omega)
  have q3 := Y3.out (by omega)
  push_cast at q2 q3 ⊢
  omega
end Go.Proofs.YtmkcjjgicinggaaGreatDoor.SzF
