/- The law FnExactZoneAt returns true at every name space, every address and every name, where the library variable internal/bytealg.MaxLen holds an int: ZoneAt answers as its model. -/
import Derived.Test.YtmkcjjgicinggaaDoorGsLow
import Derived.Test.YtmkcjjgicinggaaDoorSzF
import Derived.Test.YtmkcjjgicinggaaDoorToF
import Derived.Test.YtmkcjjgicinggaaDoorEqF
import Derived.Test.YtmkcjjgicinggaaDoorZonS
import Derived.Deep.RegionHeld3
import Derived.Test.YtmkcjjgicinggaaDoorLabels
import Derived.LaidLaws
import Derived.Test.YtmkcjjgicinggaaDoorMemR
import Derived.Deep.Slices
import Derived.Deep.Fields
import Derived.ChangeSame
import Derived.ProofKit
import Derived.OpenShut
import Derived.Test.YtmkcjjgicinggaaDoorCards
import Derived.Test.YtmkcjjgicinggaaDoorTie
import Derived.ShutString
import Derived.ChangeOld
import Derived.Below
import Derived.Deep.DeepHandedRow
/- What zonesByApex, zonesAt, ZoneOf and ZoneAt do in the program: a map from the apexes to their places; the zone of a name, of those served at an address. Conditions: fewer than 100000001 zones and posts, at most 400000000 bytes in each name; the library's variable internal/bytealg.MaxLen holds an int. -/
namespace Go.Proofs.YtmkcjjgicinggaaDoor.ZonI
open Go.RowKit Go.Proofs.YtmkcjjgicinggaaDoor.Mem Go.Proofs.YtmkcjjgicinggaaDoor.MemR Go.Proofs.YtmkcjjgicinggaaDoor.MemS Go.Proofs.YtmkcjjgicinggaaDoor.MemZ Go.Proofs.YtmkcjjgicinggaaDoor.MemF Go.Proofs.YtmkcjjgicinggaaDoor.MapK Go.Proofs.YtmkcjjgicinggaaDoor.Labels Go.Proofs.YtmkcjjgicinggaaDoor.SetMath Go.Proofs.YtmkcjjgicinggaaDoor.NameMath Go.Proofs.YtmkcjjgicinggaaDoor.ForMath Go.Proofs.YtmkcjjgicinggaaDoor.KeyT Go.Proofs.YtmkcjjgicinggaaDoor.GsLow

/-- The place of an apex. -/
def pl (zs : List Zn) (a : ByteArray) : Int := (ix (aps zs) a : Nat)

theorem aps_len (zs : List Zn) : (aps zs).length = zs.length := List.length_map _

theorem aps_at (zs : List Zn) (k : Nat) (h : k < zs.length) (h' : k < (aps zs).length) : (aps zs)[k] = zs[k].apex := by simp [aps]

theorem zero (w : World) : (zeroValue 3).run Tryd.prog w = .ok (.int .i64 0) w := by kernel_rfl

theorem en_snoc (K : List ByteArray) (v : ByteArray → Int) (a : ByteArray) : en (K ++ [a]) v = en K v ++ [(.string a, .int .i64 (v a))] := by simp [en]

theorem en_at {K : List ByteArray} {v : ByteArray → Int} {j : Nat} {a : ByteArray} (h : K[j]? = some a) : (en K v)[j]? = some (.string a, .int .i64 (v a)) := by
  unfold en
  rw [List.getElem?_map, h]
  rfl

theorem uq_step (ap : List ByteArray) (k : Nat) (h : k < ap.length) (x : ByteArray) (hx : ap[k] = x) : (x ∈ uq (ap.take k) → uq (ap.take (k + 1)) = uq (ap.take k)) ∧ (x ∉ uq (ap.take k) → uq (ap.take (k + 1)) = uq (ap.take k) ++ [x] ∧ ix ap x = k) := by
  rw [uq_take ap k h, hx]
  refine ⟨fun hm => add_in hm, fun hm => ⟨add_out hm, ?_⟩⟩
  rw [← hx]
  exact ix_new h (by rw [hx]; exact fun e => hm (mem_uq.2 e))

set_option maxHeartbeats 8000000 in
set_option maxRecDepth 100000 in
theorem byApex (own : Prop) (A : Option Addr) (n c : Nat) (zs : List Zn) (P : Option Addr) (m d : Nat) (w : World) (hs : Rz own w w.heap.size A n zs) (hn : n ≤ 100000000) :
    Calls Tryd.prog 19 #[.agg #[.slice A n c, .slice P m d]] w fun e w' => ∃ b, e = .returned (.map (some b)) ∧ w.heap.size ≤ b ∧ Mp w' b (en (uq (aps zs)) (pl zs)) ∧ Below w.heap.size w w' := by
  have HS := Lib.hid hs
  have hmm := @run_makeMap Tryd.prog
  clear hs
  have X0 := Lib.hid ((fx_new w 31 (.slice A n c) (.slice P m d)).alloc (.map #[] 0))
  have L0 := Lib.hid (((Below.refl w.heap.size w).alloc (Nat.le_refl _) (.cells #[.slice A n c, .slice P m d] 31)).alloc (by simp) (.map #[] 0))
  have hz1 : (w.alloc (.cells #[.slice A n c, .slice P m d] 31)).heap.size = w.heap.size + 1 := by simp
  have M0 := Lib.hid (Mp.made (w.alloc (.cells #[.slice A n c, .slice P m d] 31)))
  rw [hz1] at M0
  clear hz1
  go_enter Tryd.func19, Tryd.ntmps19
  go_upto_region 2 with (fail)
  generalize (w.alloc (.cells #[.slice A n c, .slice P m d] 31)).alloc (.map #[] 0) = w1 at *
  obtain ⟨x0, x1⟩ := X0.out
  go_wp2
  go_loopw [12] (fun i wr => ∃ k : Nat, k ≤ n ∧ i = .int .i64 k ∧ Hid (Mp wr (w.heap.size + 1) (en (uq ((aps zs).take k)) (pl zs))) ∧ Hid (Below w.heap.size w wr)) (fun i _ => n - (intOf i).toNat)
  case atStart => exact ⟨0, Nat.zero_le _, rfl, M0.out, L0.out⟩
  case round =>
    clear M0 L0 X0 x0 x1
    obtain ⟨k, hk, rfl, HM, HL⟩ := hrel
    by_cases hlt : k < n
    · obtain ⟨b, off, rfl, hbB, hcs⟩ := HS.out.2 (by omega)
      have hkl : k < zs.length := by rw [HS.out.1]; exact hlt
      have hka : k < (aps zs).length := by rw [aps_len]; exact hkl
      obtain ⟨e0, A1, n1, c1, e1, _, _⟩ := (hcs k hkl).below HL.out hbB
      obtain ⟨u1, u2⟩ := uq_step (aps zs) k hka zs[k].apex (aps_at zs k hkl hka)
      have U1 := Lib.hid u1
      have U2 := Lib.hid u2
      clear hcs u1 u2
      generalize zs[k] = z at *
      have MA := Lib.hid (HM.out.alloc (.cells #[.string z.apex, .slice A1 n1 c1] 42))
      have LA := Lib.hid (HL.out.alloc HL.out.size (.cells #[.string z.apex, .slice A1 n1 c1] 42))
      have XB := Lib.hid (fx_new wr 42 (.string z.apex) (.slice A1 n1 c1))
      have EK := Lib.hid (en_key (uq ((aps zs).take k)) (pl zs))
      have EN := Lib.hid (en_nodup (v := pl zs) (nodup_uq ((aps zs).take k)))
      have KX : Hid (KS (.string z.apex)) := ⟨z.apex, rfl⟩
      clear HM HL
      go_upto_region 5 with (fail)
      generalize wr.alloc (.cells #[.string z.apex, .slice A1 n1 c1] 42) = w2 at *
      obtain ⟨b0, b1⟩ := XB.out
      by_cases hin : z.apex ∈ uq ((aps zs).take k)
      · have HU := Lib.hid (U1.out hin)
        have LK : Hid ((Instr.lookup 47 (.map (some (w.heap.size + 1))) (.string z.apex) true).run Tryd.prog w2 = .ok (.tuple #[.int .i64 (pl zs z.apex), .bool true]) w2) := MA.out.in KeyT.strings Tryd.underlying47 EK.out EN.out KX.out (en_in hin) true
        clear hin U1 U2
        go_wp2_with (at_lookup; refine wp_look rfl _ _ true rfl (.string z.apex) (.tuple #[.int .i64 (pl zs z.apex), .bool true]) rfl rfl LK.out ?_)
        go_roundw
        case rel => exact ⟨k + 1, by omega, by go_num, by rw [HU.out]; exact MA.out, LA.out⟩
        case measure => (simp [intOf] <;> omega)
      · have HU := Lib.hid (U2.out hin).1
        have HX := Lib.hid (U2.out hin).2
        have LK : Hid ((Instr.lookup 47 (.map (some (w.heap.size + 1))) (.string z.apex) true).run Tryd.prog w2 = .ok (.tuple #[.int .i64 0, .bool false]) w2) := MA.out.out KeyT.strings Tryd.underlying47 (zero _) EK.out KX.out (en_out hin) true
        have ST := Lib.hid (MA.out.new KeyT.strings Tryd.underlying47 EK.out (.int .i64 k) KX.out (en_out hin))
        clear hin U1 U2
        go_wp2_with (first | (at_lookup; refine wp_look rfl _ _ true rfl (.string z.apex) (.tuple #[.int .i64 0, .bool false]) rfl rfl LK.out ?_) | (at_mapUpdate; refine wp_store rfl _ _ _ rfl (.string z.apex) (.int .i64 k) rfl rfl rfl (en (uq ((aps zs).take k)) (pl zs) ++ [(.string z.apex, .int .i64 k)]) ST.out ?_))
        intro w3 m3 g3 s3
        have M3 := Lib.hid m3
        have L3 := Lib.hid (LA.out.grown g3 LA.out.size (fun j hj => by cases hj; omega))
        clear LK ST m3 g3 s3 MA LA b0 b1
        go_wp2
        go_roundw
        case rel =>
          refine ⟨k + 1, by omega, by go_num, ?_, L3.out⟩
          show Mp _ _ _
          rw [HU.out, en_snoc, show pl zs z.apex = (k : Int) by unfold pl; rw [HX.out]]
          exact M3.out
        case measure => (simp [intOf] <;> omega)
    · obtain rfl : n = k := by omega
      have HT := Lib.hid (take_all (n := n) (l := aps zs) (by rw [aps_len]; exact HS.out.1))
      go_wp2
      go_ret
      exact ⟨_, rfl, by omega, by have := HM.out; rw [HT.out] at this; exact this, HL.out⟩

theorem pl_all (zs : List Zn) {own : Prop} {w : World} {B n : Nat} {A : Option Addr} (h : Rz own w B A n zs) : (uq (aps zs)).length ≤ n := by
  have := len_uq (aps zs)
  rw [aps_len] at this
  rw [← h.1]
  exact this

theorem ap_mem {zs : List Zn} {a : ByteArray} (h : a ∈ aps zs) : ∃ z ∈ zs, z.apex = a := by
  obtain ⟨z, hz, e⟩ := List.mem_map.1 h
  exact ⟨z, hz, e⟩

set_option maxHeartbeats 4000000 in
set_option maxRecDepth 100000 in
/-- ZoneOf. -/
theorem zoneOf (own : Prop) (A : Option Addr) (n c : Nat) (zs : List Zn) (P : Option Addr) (m d : Nat) (nm : ByteArray) (w : World) (he : Env w) (hs : Rz own w w.heap.size A n zs) (hn : n ≤ 100000000) (hz : ∀ z ∈ zs, z.apex.size ≤ 400000000) (hnm : nm.size ≤ 400000000) :
    Calls Tryd.prog 8 #[.agg #[.slice A n c, .slice P m d], .string nm] w fun e w' => e = .returned (.int .i64 (zo nm (fun _ => true) (aps zs))) ∧ Below w.heap.size w w' := by
  have X0 := Lib.hid (fx_new w 31 (.slice A n c) (.slice P m d))
  have L0 := Lib.hid ((Below.refl w.heap.size w).alloc (Nat.le_refl _) (.cells #[.slice A n c, .slice P m d] 31))
  have C1 := Lib.hid (byApex own A n c zs P m d _ (hs.on L0.out) hn)
  have C2 := Lib.hid (fun b W hE h => low nm b (uq (aps zs)) (pl zs) W hE h (nodup_uq _) (fun a ha => by obtain ⟨z, hz', rfl⟩ := ap_mem (mem_uq.1 ha); exact hz z hz') (by have := pl_all zs hs; omega) hnm)
  have HE := Lib.hid he
  clear hs he hz
  obtain ⟨x0, x1⟩ := X0.out
  go_enter Tryd.func8, Tryd.ntmps8
  go_wp2_with fail
  refine C1.out.mono ?_
  rintro e w1 ⟨b, rfl, hb, hm, hl⟩
  have M1 := Lib.hid hm
  have L1 := Lib.hid (L0.out.trans (hl.mono L0.out.size))
  clear hm hl hb x0 x1 L0 X0
  go_wp2_with fail
  refine (C2.out b w1 (HE.out.below L1.out) M1.out).mono ?_
  rintro e w2 ⟨r, rfl, hr, hl⟩
  have HR := Lib.hid (lw_zo (nm := nm) (p := fun _ => true) (ap := aps zs) (fun a => by rw [mem_uq]; simp) hr)
  have L2 := Lib.hid (L1.out.trans (hl.mono L1.out.size))
  clear hr hl
  go_wp2
  go_ret
  exact ⟨by rw [HR.out]; rfl, L2.out⟩

theorem pk_step (ap : List ByteArray) (addr : Int) (ps : List Pst) (k : Nat) (h : k < ps.length) : (ps[k].apex ∈ ap ∧ ps[k].addr = addr → (ps[k].apex ∈ uq (pk ap addr (ps.take k)) → uq (pk ap addr (ps.take (k + 1))) = uq (pk ap addr (ps.take k))) ∧ (ps[k].apex ∉ uq (pk ap addr (ps.take k)) → uq (pk ap addr (ps.take (k + 1))) = uq (pk ap addr (ps.take k)) ++ [ps[k].apex])) ∧
    (¬ (ps[k].apex ∈ ap ∧ ps[k].addr = addr) → pk ap addr (ps.take (k + 1)) = pk ap addr (ps.take k)) := by
  refine ⟨fun hc => ⟨fun hm => ?_, fun hm => ?_⟩, fun hc => pk_out k h hc⟩
  · rw [pk_in k h hc, uq_snoc, add_in hm]
  · rw [pk_in k h hc, uq_snoc, add_out hm]

set_option maxHeartbeats 16000000 in
set_option maxRecDepth 100000 in
theorem at_ (own : Prop) (A : Option Addr) (n c : Nat) (zs : List Zn) (P : Option Addr) (m d : Nat) (ps : List Pst) (addr : Int) (w : World) (hs : Rz own w w.heap.size A n zs) (hp : Rp w w.heap.size P m ps) (hn : n ≤ 100000000) (hm : m ≤ 100000000) :
    Calls Tryd.prog 23 #[.agg #[.slice A n c, .slice P m d], .int .i64 addr] w fun e w' => ∃ b, e = .returned (.map (some b)) ∧ w.heap.size ≤ b ∧ Mp w' b (en (uq (pk (aps zs) addr ps)) (pl zs)) ∧ Below w.heap.size w w' := by
  have HP := Lib.hid hp
  have hmm := @run_makeMap Tryd.prog
  have X0 := Lib.hid (fx_new w 31 (.slice A n c) (.slice P m d))
  have L0 := Lib.hid ((Below.refl w.heap.size w).alloc (Nat.le_refl _) (.cells #[.slice A n c, .slice P m d] 31))
  have C1 := Lib.hid (byApex own A n c zs P m d _ (hs.on L0.out) hn)
  clear hs hp
  obtain ⟨x0, x1⟩ := X0.out
  go_enter Tryd.func23, Tryd.ntmps23
  go_wp2_with fail
  refine C1.out.mono ?_
  rintro e w1 ⟨b1, rfl, hb, hm1, hl⟩
  have hb1 : b1 < w1.heap.size := hm1.lt
  have M1 := Lib.hid (hm1.alloc (.map #[] 0))
  have L1 := Lib.hid ((L0.out.trans (hl.mono L0.out.size)).alloc (Nat.le_trans L0.out.size hl.size) (.map #[] 0))
  have X1 := Lib.hid ((X0.out.below hl).alloc (.map #[] 0))
  have N1 := Lib.hid (Mp.made w1)
  have hw1 : w.heap.size ≤ w1.heap.size := Nat.le_trans L0.out.size hl.size
  clear hm1 hl hb x0 x1 L0 X0 C1
  go_upto_region 2 with (fail)
  generalize hb2 : w1.heap.size = b2 at *
  generalize w1.alloc (.map #[] 0) = w2 at *
  obtain ⟨x0, x1⟩ := X1.out
  go_wp2
  go_loopw [17] (fun i wr => ∃ k : Nat, k ≤ m ∧ i = .int .i64 k ∧ Hid (Mp wr b1 (en (uq (aps zs)) (pl zs))) ∧ Hid (Mp wr b2 (en (uq (pk (aps zs) addr (ps.take k))) (pl zs))) ∧ Hid (Below w.heap.size w wr)) (fun i _ => m - (intOf i).toNat)
  case atStart => exact ⟨0, Nat.zero_le _, rfl, M1.out, N1.out, L1.out⟩
  case round =>
    clear M1 N1 L1 X1 x0 x1
    obtain ⟨k, hk, rfl, HM, HK, HL⟩ := hrel
    have EK1 := Lib.hid (en_key (uq (aps zs)) (pl zs))
    have EN1 := Lib.hid (en_nodup (v := pl zs) (nodup_uq (aps zs)))
    by_cases hlt : k < m
    · obtain ⟨b, off, rfl, hbB, hcs⟩ := HP.out.2 (by omega)
      have hkl : k < ps.length := by rw [HP.out.1]; exact hlt
      obtain ⟨e0, e1⟩ := (hcs k hkl).below HL.out hbB
      obtain ⟨u1, u2⟩ := pk_step (aps zs) addr ps k hkl
      have U1 := Lib.hid u1
      have U2 := Lib.hid u2
      clear hcs u1 u2
      generalize ps[k] = p at *
      have MA := Lib.hid (HM.out.alloc (.cells #[.int .i64 p.addr, .string p.apex] 63))
      have KA := Lib.hid (HK.out.alloc (.cells #[.int .i64 p.addr, .string p.apex] 63))
      have LA := Lib.hid (HL.out.alloc HL.out.size (.cells #[.int .i64 p.addr, .string p.apex] 63))
      have XB := Lib.hid (fx_new wr 63 (.int .i64 p.addr) (.string p.apex))
      have EK := Lib.hid (en_key (uq (pk (aps zs) addr (ps.take k))) (pl zs))
      have EN := Lib.hid (en_nodup (v := pl zs) (nodup_uq (pk (aps zs) addr (ps.take k))))
      have KX : Hid (KS (.string p.apex)) := ⟨p.apex, rfl⟩
      clear HM HL HK
      go_upto_region 5 with (fail)
      generalize wr.alloc (.cells #[.int .i64 p.addr, .string p.apex] 63) = w3 at *
      obtain ⟨y0, y1⟩ := XB.out
      by_cases hin : p.apex ∈ aps zs
      · have LK : Hid ((Instr.lookup 47 (.map (some b1)) (.string p.apex) true).run Tryd.prog w3 = .ok (.tuple #[.int .i64 (pl zs p.apex), .bool true]) w3) := MA.out.in KeyT.strings Tryd.underlying47 EK1.out EN1.out KX.out (en_in (mem_uq.2 hin)) true
        by_cases had : p.addr = addr
        · have hq : (p.addr == addr) = true := by simpa using had
          by_cases hin2 : p.apex ∈ uq (pk (aps zs) addr (ps.take k))
          · have HU := Lib.hid ((U1.out ⟨hin, had⟩).1 hin2)
            obtain ⟨j, hj⟩ := List.getElem?_of_mem hin2
            have ST := Lib.hid (KA.out.old KeyT.strings Tryd.underlying47 EK.out EN.out (.int .i64 (pl zs p.apex)) KX.out (en_at (v := pl zs) hj))
            have HSet : Hid ((en (uq (pk (aps zs) addr (ps.take k))) (pl zs)).set j (.string p.apex, .int .i64 (pl zs p.apex)) = en (uq (pk (aps zs) addr (ps.take k))) (pl zs)) := show _ = _ by
              obtain ⟨hl', he'⟩ := List.getElem?_eq_some_iff.1 (en_at (v := pl zs) hj)
              rw [← he', List.set_getElem_self]
            clear hin had hin2 U1 U2 hj
            go_wp2_with (first | (at_lookup; refine wp_look rfl _ _ true rfl (.string p.apex) (.tuple #[.int .i64 (pl zs p.apex), .bool true]) rfl rfl LK.out ?_) | (at_mapUpdate; refine wp_store rfl _ _ _ rfl (.string p.apex) (.int .i64 (pl zs p.apex)) rfl rfl rfl ((en (uq (pk (aps zs) addr (ps.take k))) (pl zs)).set j (.string p.apex, .int .i64 (pl zs p.apex))) ST.out ?_))
            intro w4 m4 g4 s4
            have K4 := Lib.hid (show Mp w4 b2 (en (uq (pk (aps zs) addr (ps.take k))) (pl zs)) from by rw [← HSet.out]; exact m4)
            have M4 := Lib.hid (MA.out.grown g4 (fun e => by have := Option.some.inj e; omega))
            have L4 := Lib.hid (LA.out.grown g4 LA.out.size (fun j hj => by cases hj; omega))
            clear LK ST m4 g4 s4 MA LA KA y0 y1
            go_wp2
            go_roundw
            case rel => exact ⟨k + 1, by omega, by go_num, M4.out, by rw [HU.out]; exact K4.out, L4.out⟩
            case measure => (simp [intOf] <;> omega)
          · have HU := Lib.hid ((U1.out ⟨hin, had⟩).2 hin2)
            have ST := Lib.hid (KA.out.new KeyT.strings Tryd.underlying47 EK.out (.int .i64 (pl zs p.apex)) KX.out (en_out hin2))
            clear hin had hin2 U1 U2
            go_wp2_with (first | (at_lookup; refine wp_look rfl _ _ true rfl (.string p.apex) (.tuple #[.int .i64 (pl zs p.apex), .bool true]) rfl rfl LK.out ?_) | (at_mapUpdate; refine wp_store rfl _ _ _ rfl (.string p.apex) (.int .i64 (pl zs p.apex)) rfl rfl rfl (en (uq (pk (aps zs) addr (ps.take k))) (pl zs) ++ [(.string p.apex, .int .i64 (pl zs p.apex))]) ST.out ?_))
            intro w4 m4 g4 s4
            have K4 := Lib.hid m4
            have M4 := Lib.hid (MA.out.grown g4 (fun e => by have := Option.some.inj e; omega))
            have L4 := Lib.hid (LA.out.grown g4 LA.out.size (fun j hj => by cases hj; omega))
            clear LK ST m4 g4 s4 MA LA KA y0 y1
            go_wp2
            go_roundw
            case rel => exact ⟨k + 1, by omega, by go_num, M4.out, by rw [HU.out, en_snoc]; exact K4.out, L4.out⟩
            case measure => (simp [intOf] <;> omega)
        · have hq : (p.addr == addr) = false := by simpa using had
          have HU := Lib.hid (U2.out (fun h => had h.2))
          clear hin had U1 U2
          go_wp2_with (at_lookup; refine wp_look rfl _ _ true rfl (.string p.apex) (.tuple #[.int .i64 (pl zs p.apex), .bool true]) rfl rfl LK.out ?_)
          go_roundw
          case rel => exact ⟨k + 1, by omega, by go_num, MA.out, by rw [HU.out]; exact KA.out, LA.out⟩
          case measure => (simp [intOf] <;> omega)
      · have LK : Hid ((Instr.lookup 47 (.map (some b1)) (.string p.apex) true).run Tryd.prog w3 = .ok (.tuple #[.int .i64 0, .bool false]) w3) := MA.out.out KeyT.strings Tryd.underlying47 (zero _) EK1.out KX.out (en_out (fun e => hin (mem_uq.1 e))) true
        have HU := Lib.hid (U2.out (fun h => hin h.1))
        clear hin U1 U2
        go_wp2_with (at_lookup; refine wp_look rfl _ _ true rfl (.string p.apex) (.tuple #[.int .i64 0, .bool false]) rfl rfl LK.out ?_)
        go_roundw
        case rel => exact ⟨k + 1, by omega, by go_num, MA.out, by rw [HU.out]; exact KA.out, LA.out⟩
        case measure => (simp [intOf] <;> omega)
    · obtain rfl : m = k := by omega
      have HT := Lib.hid (take_all (l := ps) HP.out.1)
      go_wp2
      go_ret
      exact ⟨_, rfl, by omega, by have := HK.out; rw [HT.out] at this; exact this, HL.out⟩

set_option maxHeartbeats 4000000 in
set_option maxRecDepth 100000 in
/-- ZoneAt. -/
theorem zoneAt (own : Prop) (A : Option Addr) (n c : Nat) (zs : List Zn) (P : Option Addr) (m d : Nat) (ps : List Pst) (addr : Int) (nm : ByteArray) (w : World) (he : Env w) (hs : Rz own w w.heap.size A n zs) (hp : Rp w w.heap.size P m ps) (hn : n ≤ 100000000) (hm : m ≤ 100000000) (hz : ∀ z ∈ zs, z.apex.size ≤ 400000000) (hnm : nm.size ≤ 400000000) :
    Calls Tryd.prog 11 #[.agg #[.slice A n c, .slice P m d], .int .i64 addr, .string nm] w fun e w' => e = .returned (.int .i64 (zo nm (psd addr ps) (aps zs))) ∧ Below w.heap.size w w' := by
  have X0 := Lib.hid (fx_new w 31 (.slice A n c) (.slice P m d))
  have L0 := Lib.hid ((Below.refl w.heap.size w).alloc (Nat.le_refl _) (.cells #[.slice A n c, .slice P m d] 31))
  have C1 := Lib.hid (at_ own A n c zs P m d ps addr _ (hs.on L0.out) (hp.on L0.out) hn hm)
  have hlen : (uq (pk (aps zs) addr ps)).length ≤ m := by
    have h1 := len_uq (pk (aps zs) addr ps)
    have h2 : (pk (aps zs) addr ps).length ≤ ps.length := by unfold pk; rw [List.length_map]; exact List.length_filter_le _ _
    rw [← hp.1]
    omega
  have C2 := Lib.hid (fun b W hE h => low nm b (uq (pk (aps zs) addr ps)) (pl zs) W hE h (nodup_uq _) (fun a ha => by obtain ⟨z, hz', rfl⟩ := ap_mem (pk_mem.1 (mem_uq.1 ha)).1; exact hz z hz') (by omega) hnm)
  have HE := Lib.hid he
  clear hs he hz hp
  obtain ⟨x0, x1⟩ := X0.out
  go_enter Tryd.func11, Tryd.ntmps11
  go_wp2_with fail
  refine C1.out.mono ?_
  rintro e w1 ⟨b, rfl, hb, hm1, hl⟩
  have M1 := Lib.hid hm1
  have L1 := Lib.hid (L0.out.trans (hl.mono L0.out.size))
  clear hm1 hl hb x0 x1 L0 X0
  go_wp2_with fail
  refine (C2.out b w1 (HE.out.below L1.out) M1.out).mono ?_
  rintro e w2 ⟨r, rfl, hr, hl⟩
  have HR := Lib.hid (lw_zo (nm := nm) (p := psd addr ps) (ap := aps zs) (fun a => by rw [mem_uq, pk_mem]) hr)
  have L2 := Lib.hid (L1.out.trans (hl.mono L1.out.size))
  clear hr hl
  go_wp2
  go_ret
  exact ⟨by rw [HR.out]; rfl, L2.out⟩
end Go.Proofs.YtmkcjjgicinggaaDoor.ZonI

/- The law FnExactZoneAt returns true at every name space, where the library's variable internal/bytealg.MaxLen holds an int, and turns nothing that was there: ZoneAt answers as its model. -/
namespace Go.Proofs.YtmkcjjgicinggaaDoor.LawZoneAt
open Go.RowKit Go.Proofs.YtmkcjjgicinggaaDoor.Mem Go.Proofs.YtmkcjjgicinggaaDoor.MemR Go.Proofs.YtmkcjjgicinggaaDoor.MemZ Go.Proofs.YtmkcjjgicinggaaDoor.MemF Go.Proofs.YtmkcjjgicinggaaDoor.SzZ Go.Proofs.YtmkcjjgicinggaaDoor.SzF Go.Proofs.YtmkcjjgicinggaaDoor.ToF Go.Proofs.YtmkcjjgicinggaaDoor.EqF Go.Proofs.YtmkcjjgicinggaaDoor.ForMath Go.Proofs.YtmkcjjgicinggaaDoor.Labels

theorem kept2f {w0 w w' : World} {g k : Nat} {x y x' y' : Value} (m : (Fx w g x y ∧ Fx w k x' y') ∧ Svz w0 w) (hl : Below w.heap.size w w') : (Fx w' g x y ∧ Fx w' k x' y') ∧ Svz w0 w' := ⟨⟨m.1.1.below hl, m.1.2.below hl⟩, m.2.trans (hl.mono m.2.size)⟩
theorem kept2f_draw {w0 w : World} {g k : Nat} {x y x' y' : Value} (m : (Fx w g x y ∧ Fx w k x' y') ∧ Svz w0 w) : (Fx w.drew g x y ∧ Fx w.drew k x' y') ∧ Svz w0 w.drew := kept2f m ((Below.refl _ _).drew)

set_option maxHeartbeats 8000000 in
theorem walk (A : Option Addr) (n c : Nat) (zs : List Zn) (P : Option Addr) (m d : Nat) (ps : List Pst) (a : Int) (s : ByteArray) (w : World) (he : Env w) (hs : Sf False w A n zs P m ps) (hn : n ≤ 9223372036854775807) (hm : m ≤ 9223372036854775807) (hz : ∀ z ∈ zs, SmallZ z) (hp : ∀ p ∈ ps, p.apex.size ≤ 9223372036854775807) :
    Calls Tryd.prog 4 #[.agg #[.slice A n c, .slice P m d], .int .i64 a, .string s] w fun e w' => e = .returned (.bool true) ∧ Below w.heap.size w w' := by
  have HE := Lib.hid he
  have S0 := Lib.hid hs
  have Z0 := Lib.hid hz
  have P0 := Lib.hid hp
  clear he hs hz hp
  have L0 := Lib.hid ((Below.refl w.heap.size w).alloc (Nat.le_refl _) (.cells #[.slice A n c, .slice P m d] 25))
  have J0 := Lib.hid (fx_new w 25 (.slice A n c) (.slice P m d))
  by_cases hbig : 1048576 < s.size
  · have hb' : (1048576 : Int) < (s.size : Int) := by omega
    go_enter Tryd.func4, Tryd.ntmps4
    go_wp2
    go_ret
    exact ⟨rfl, L0.out⟩
  have hb' : ¬ (1048576 : Int) < (s.size : Int) := by omega
  go_enter Tryd.func4, Tryd.ntmps4
  obtain ⟨x0, x1⟩ := J0.out
  go_wp2_with fail
  refine (szForest_any False A n c zs P m d ps 1048576 _ (by omega) (by omega) (S0.out.on L0.out) hn hm Z0.out P0.out).mono ?_
  rintro e w1 ⟨y, rfl, hy0, hy1, hy, hl⟩
  have Y0 := Lib.hid hy
  have L1 := Lib.hid (L0.out.trans (hl.mono L0.out.size))
  have J1 := Lib.hid (J0.out.below hl)
  clear hy hl L0 J0 x0 x1
  by_cases hneg : y < 0
  · go_wp2
    go_ret
    exact ⟨rfl, L1.out⟩
  have Y1 := Lib.hid (Y0.out (by omega))
  clear Y0
  have HN : Hid (zs.length = n) := S0.out.1.1
  have HM : Hid (ps.length = m) := S0.out.2.1
  have bn : n ≤ 1048576 := by have := Y1.out; have := HN.out; omega
  have bm : m ≤ 1048576 := by have := Y1.out; have := HM.out; omega
  have HZ : Hid (∀ z ∈ zs, z.apex.size ≤ 400000000 ∧ z.l.length ≤ 400000000) := fun z hz => by
    have := Y1.out
    have h1 := zws_le zs z hz
    unfold zw at h1
    constructor <;> omega
  clear Y1 Z0 P0
  have TR : Hid (∀ W : World, Below w.heap.size w W → Calls Tryd.prog 7 #[.agg #[.slice A n c, .slice P m d]] W fun e w' => ∃ g h, e = .returned (.agg #[.slice (some ⟨g, 0, none⟩) n n, .slice (some ⟨h, 0, none⟩) m m]) ∧ Sf True w' (some ⟨g, 0, none⟩) n zs (some ⟨h, 0, none⟩) m ps ∧ Below W.heap.size W w') :=
    fun W hW => (toForest_any False A n c zs P m d ps W (S0.out.on hW) (by omega) (by omega) (fun z hz => (HZ.out z hz).2)).mono fun e w' ⟨g, gs, h, h1, h2, h3, _, _, h6⟩ => ⟨g, h, by rw [h1, HN.out, HM.out], ⟨h2.sz HN.out, bk_sp0 h3 HM.out⟩, h6⟩
  have SP : Hid (∀ (g h : Nat) (W : World), Sf True W (some ⟨g, 0, none⟩) n zs (some ⟨h, 0, none⟩) m ps → Calls Tryd.prog 10 #[.agg #[.slice (some ⟨g, 0, none⟩) n n, .slice (some ⟨h, 0, none⟩) m m], .int .i64 a, .string s] W fun e w' => e = .returned (.int .i64 (zo s (psd a ps) (aps zs))) ∧ Below W.heap.size W w') :=
    fun g h W hW => ZonS.zoneAt True _ n n zs _ m m ps a s W hW (by omega) (by omega) (fun z hz => (HZ.out z hz).1) (by omega)
  have IM : Hid (∀ (g h : Nat) (W : World), Env W → Sf True W (some ⟨g, 0, none⟩) n zs (some ⟨h, 0, none⟩) m ps → Calls Tryd.prog 11 #[.agg #[.slice (some ⟨g, 0, none⟩) n n, .slice (some ⟨h, 0, none⟩) m m], .int .i64 a, .string s] W fun e w' => e = .returned (.int .i64 (zo s (psd a ps) (aps zs))) ∧ Below W.heap.size W w') :=
    fun g h W hE hW => ZonI.zoneAt True _ n n zs _ m m ps a s W hE hW.1 hW.2 (by omega) (by omega) (fun z hz => (HZ.out z hz).1) (by omega)
  generalize zo s (psd a ps) (aps zs) = v at *
  have hv : (v != v) = false := by simp
  obtain ⟨x0, x1⟩ := J1.out
  go_wp2_with fail
  refine (TR.out _ L1.out).mono ?_
  rintro e w2 ⟨gv, hv2, rfl, hb, hl⟩
  have V2 := Lib.hid hb
  have L2 := Lib.hid (L1.out.trans (hl.mono L1.out.size))
  have J2 := Lib.hid (J1.out.below hl)
  clear hl L1 J1 hb x0 x1
  go_wp2_with fail
  refine (SP.out _ _ w2 V2.out).mono ?_
  rintro e w3 ⟨rfl, hl⟩
  have L3 := Lib.hid (L2.out.trans (hl.mono L2.out.size))
  have J3 := Lib.hid (J2.out.below hl)
  clear hl L2 J2 V2
  obtain ⟨x0, x1⟩ := J3.out
  go_wp2_with fail
  refine (TR.out _ L3.out).mono ?_
  rintro e w4 ⟨gx, hx, rfl, hb, hl⟩
  have X4 := Lib.hid hb
  have L4 := Lib.hid (L3.out.trans (hl.mono L3.out.size))
  have J4 := Lib.hid (J3.out.below hl)
  clear hl L3 J3 hb x0 x1
  have al : Below w4.heap.size w4 (w4.alloc (.cells #[.slice (some ⟨gx, 0, none⟩) n n, .slice (some ⟨hx, 0, none⟩) m m] 31)) := (Below.refl _ _).alloc (Nat.le_refl _) _
  have L5 := Lib.hid (L4.out.trans (al.mono L4.out.size))
  have J5 := Lib.hid (J4.out.below al)
  have X5 := Lib.hid (X4.out.on al)
  have Q5 := Lib.hid (fx_new w4 31 (.slice (some ⟨gx, 0, none⟩) n n) (.slice (some ⟨hx, 0, none⟩) m m))
  clear al L4 J4 X4
  go_wp2_with fail
  refine (IM.out _ _ _ (HE.out.below L5.out) X5.out).mono ?_
  rintro e w6 ⟨rfl, hl⟩
  have L6 := Lib.hid (L5.out.trans (hl.mono L5.out.size))
  have J6 := Lib.hid (J5.out.below hl)
  have X6 := Lib.hid (X5.out.on hl)
  have Q6 := Lib.hid (Q5.out.below hl)
  clear hl L5 J5 X5 Q5
  generalize w4.heap.size = gq at *
  have TM : Hid (∀ W : World, (((W.cell? ⟨w.heap.size, 0, none⟩ = some (.slice A n c) ∧ W.cell? ⟨w.heap.size, 1, none⟩ = some (.slice P m d)) ∧ (W.cell? ⟨gq, 0, none⟩ = some (.slice (some ⟨gx, 0, none⟩) n n) ∧ W.cell? ⟨gq, 1, none⟩ = some (.slice (some ⟨hx, 0, none⟩) m m))) ∧ Svz w6 W) → Calls Tryd.prog 7 #[.agg #[.slice A n c, .slice P m d]] W fun e w' => ∃ g h, e = .returned (.agg #[.slice (some ⟨g, 0, none⟩) n n, .slice (some ⟨h, 0, none⟩) m m]) ∧ Sf True w' (some ⟨g, 0, none⟩) n zs (some ⟨h, 0, none⟩) m ps ∧ Below W.heap.size W w') := fun W hW => TR.out W (L6.out.trans ((show Below w6.heap.size w6 W from hW.2).mono L6.out.size))
  have EQZ : Hid (∀ (W : World) (s t : Nat), (((W.cell? ⟨w.heap.size, 0, none⟩ = some (.slice A n c) ∧ W.cell? ⟨w.heap.size, 1, none⟩ = some (.slice P m d)) ∧ (W.cell? ⟨gq, 0, none⟩ = some (.slice (some ⟨gx, 0, none⟩) n n) ∧ W.cell? ⟨gq, 1, none⟩ = some (.slice (some ⟨hx, 0, none⟩) m m))) ∧ Svz w6 W) → Sf True W (some ⟨s, 0, none⟩) n zs (some ⟨t, 0, none⟩) m ps → Calls Tryd.prog 9 #[.agg #[.slice (some ⟨gx, 0, none⟩) n n, .slice (some ⟨hx, 0, none⟩) m m], .agg #[.slice (some ⟨s, 0, none⟩) n n, .slice (some ⟨t, 0, none⟩) m m]] W fun e w' => e = .returned (.bool true) ∧ Below W.heap.size W w') := fun W s t hW ht => eqForest_same True True _ _ _ _ n n n m m m zs ps W (X6.out.on (show Below w6.heap.size w6 W from hW.2)) ht (by omega) (by omega) (fun z hz => (HZ.out z hz).2)
  have SS0 : ((w6.cell? ⟨w.heap.size, 0, none⟩ = some (.slice A n c) ∧ w6.cell? ⟨w.heap.size, 1, none⟩ = some (.slice P m d)) ∧ (w6.cell? ⟨gq, 0, none⟩ = some (.slice (some ⟨gx, 0, none⟩) n n) ∧ w6.cell? ⟨gq, 1, none⟩ = some (.slice (some ⟨hx, 0, none⟩) m m))) ∧ Svz w6 w6 := ⟨⟨J6.out, Q6.out⟩, Below.refl _ _⟩
  go_wp2
  go_region_held3 (fun w' => ((w'.cell? ⟨w.heap.size, 0, none⟩ = some (.slice A n c) ∧ w'.cell? ⟨w.heap.size, 1, none⟩ = some (.slice P m d)) ∧ (w'.cell? ⟨gq, 0, none⟩ = some (.slice (some ⟨gx, 0, none⟩) n n) ∧ w'.cell? ⟨gq, 1, none⟩ = some (.slice (some ⟨hx, 0, none⟩) m m))) ∧ Svz w6 w')
    (first | with_reducible exact SS0 | with_reducible assumption | exact kept2f (by assumption) hl | exact kept2f_draw (by assumption) | fail)
    (first
      | (go_at_call 7; (with_reducible refine (TM.out _ (by assumption)).mono ?_); rintro e wt6 ⟨t1, t2, rfl, hb1, hl⟩)
      | (go_at_call 9; (with_reducible refine (EQZ.out _ _ _ (by assumption) hb1).mono ?_); rintro e w7 ⟨rfl, hl⟩)
      | fail)
  rename_i hH
  have hz : Below w6.heap.size w6 w7 := hH.2
  clear hH hb1 hl SS0 TM EQZ
  have L7 := Lib.hid (L6.out.trans (hz.mono L6.out.size))
  clear hz L6 J6 X6 Q6
  go_wp2
  go_ret
  exact ⟨rfl, L7.out⟩

end Go.Proofs.YtmkcjjgicinggaaDoor.LawZoneAt

/- What the world's shape gives the walks of this seat, and one world in which the listed tables of unicode/utf8 read as their text lays them. -/
namespace Go.Proofs.YtmkcjjgicinggaaDoor.LaidU
open Go.RowKit Go.Proofs.YtmkcjjgicinggaaDoor.Labels

theorem env {W : World} (h : W.ShapedOpen Tryd.prog) : Env W := Tryd.laysM146.s1_3 W h

def acc : List Int := [128, 191, 160, 191, 128, 159, 144, 191, 128, 143, 0, 0, 0, 0, 0, 0, 0, 0, 0, 0, 0, 0, 0, 0, 0, 0, 0, 0, 0, 0, 0, 0]
theorem gFirst : Tryd.prog.globalNamed "unicode/utf8.first" = some 1 := by kernel_rfl
theorem gAcc : Tryd.prog.globalNamed "unicode/utf8.acceptRanges" = some 2 := by kernel_rfl
/-- A block of cells, with other cells in it. -/
def put (cs : Array Value) : Obj → Obj
  | .cells _ t frozen => .cells cs t frozen
  | o => o
/-- The settled world, the two tables holding what their text lays. -/
noncomputable def laidWorld (os : Os) : World :=
  { World.holding Tryd.prog os ⟨#[], #[], []⟩ with heap := ((World.holding Tryd.prog os ⟨#[], #[], []⟩).heap.modify 1 (put (Go.Pinned.utf8FirstZ.map (fun n : Nat => Value.int .u8 (n : Int))).toArray)).modify 2 (put (acc.map (Value.int .u8)).toArray) }
def two : List (String × DataW Unit) := [("unicode/utf8.acceptRanges", Rows.laid_unicode_utf8_acceptRanges), ("unicode/utf8.first", Rows.laid_unicode_utf8_first)]
theorem laid_met (os : Os) (args : Array Value) : laidMet Tryd.prog two ((laidWorld os).forCall (fun _ _ => 0) ⟨#[], args, []⟩).memory :=
  laidMet_of_run' 8 (by kernel_rfl) (by kernel_rfl)
end Go.Proofs.YtmkcjjgicinggaaDoor.LaidU

/- What a record that comes in, and a slice of records that comes in, read as. -/
namespace Go.Proofs.YtmkcjjgicinggaaDoor.RowR
open Go.Proofs.YtmkcjjgicinggaaDoor.Mem Go.Proofs.YtmkcjjgicinggaaDoor.MemR
open Go.ChangeShapes Go.WideShapes Go.ChangeAt Go.RowKit Go.Deep

/-- The texts of a record are no longer than any text. -/
def Small (r : Rec) : Prop := r.name.size ≤ 9223372036854775807 ∧ r.host.size ≤ 9223372036854775807 ∧ r.text.size ≤ 9223372036854775807
/-- The argument reads as records. -/
def IsRecs (w : World) (a : Option Addr) (len : Nat) (l : List Rec) : Prop :=
  Sr w w.heap.size a len l ∧ len ≤ 9223372036854775807 ∧ ∀ r ∈ l, Small r

section
variable {H : Type} {enc : TypeId × Value → H} {w : World} {base : Nat} {spare : Nat → Bool} {held : Bool}
theorem six_of {cs : List Value} {s0 s4 s5 : ByteArray} {x1 x2 x3 : Int} (h : cs.length = 6) (e0 : (cs.drop 0).take 1 = [.string s0]) (e1 : (cs.drop 1).take 1 = [.int .i64 x1]) (e2 : (cs.drop 2).take 1 = [.int .i64 x2])
    (e3 : (cs.drop 3).take 1 = [.int .i64 x3]) (e4 : (cs.drop 4).take 1 = [.string s4]) (e5 : (cs.drop 5).take 1 = [.string s5]) : cs = rc ⟨s0, x1, x2, x3, s4, s5⟩ := by
  match cs, h with
  | [c0, c1, c2, c3, c4, c5], _ =>
    simp only [List.drop_zero, List.drop_succ_cons, List.take_succ_cons, List.take_zero, List.cons.injEq, and_true] at e0 e1 e2 e3 e4 e5
    subst e0 e1 e2 e3 e4 e5
    rfl
theorem rec_of {fuel : Nat} {cs : List Value} {x : DataW H × List MemPlace} (h : DataW.trod enc Tryd.prog w base spare held fuel 94 cs = some x) : ∃ r : Rec, cs = rc r ∧ Small r := by
  obtain ⟨xs, n, _, _, hc, hl, hg⟩ := DataW.trod_struct Tryd.underlying94 h
  have h6 : cs.length = 6 := hc.trans (by kernel_rfl)
  have hx : xs.length = 6 := hl
  have ks : Tryd.prog.cellsOf 9 = 1 := by kernel_rfl
  have ki : Tryd.prog.cellsOf 3 = 1 := by kernel_rfl
  have g : ∀ i, i < 6 → xs[i]? = some (xs[i]!) := fun i hi => by rw [getElem!_pos xs i (by omega)]; exact List.getElem?_eq_getElem (by omega)
  have f0 := (hg 0 _ rfl).trans (g 0 (by omega))
  have f1 := (hg 1 _ rfl).trans (g 1 (by omega))
  have f2 := (hg 2 _ rfl).trans (g 2 (by omega))
  have f3 := (hg 3 _ rfl).trans (g 3 (by omega))
  have f4 := (hg 4 _ rfl).trans (g 4 (by omega))
  have f5 := (hg 5 _ rfl).trans (g 5 (by omega))
  obtain ⟨s0, e0, _, z0⟩ := DataW.trod_string Tryd.underlying9 f0
  obtain ⟨x1, e1, _⟩ := DataW.trod_int Tryd.underlying3 f1
  obtain ⟨x2, e2, _⟩ := DataW.trod_int Tryd.underlying3 f2
  obtain ⟨x3, e3, _⟩ := DataW.trod_int Tryd.underlying3 f3
  obtain ⟨s4, e4, _, z4⟩ := DataW.trod_string Tryd.underlying9 f4
  obtain ⟨s5, e5, _, z5⟩ := DataW.trod_string Tryd.underlying9 f5
  replace e0 : (cs.drop 0).take (Tryd.prog.cellsOf 9) = [.string s0] := e0
  replace e1 : (cs.drop 1).take (Tryd.prog.cellsOf 3) = [.int .i64 x1] := e1
  replace e2 : (cs.drop 2).take (Tryd.prog.cellsOf 3) = [.int .i64 x2] := e2
  replace e3 : (cs.drop 3).take (Tryd.prog.cellsOf 3) = [.int .i64 x3] := e3
  replace e4 : (cs.drop 4).take (Tryd.prog.cellsOf 9) = [.string s4] := e4
  replace e5 : (cs.drop 5).take (Tryd.prog.cellsOf 9) = [.string s5] := e5
  rw [ks] at e0 e4 e5
  rw [ki] at e1 e2 e3
  unfold maxLen at z0 z4 z5
  exact ⟨⟨s0, x1, x2, x3, s4, s5⟩, six_of h6 e0 e1 e2 e3 e4 e5, z0, z4, z5⟩
set_option maxRecDepth 100000 in
/-- A record that comes in. -/
theorem rec_in {r : Reach} {b0 : Nat} {v : Value} {d : DataW H} {p : List MemPlace} (hv : Value.okWide Tryd.prog w r b0 94 v) (h : DataW.Trod enc Tryd.prog w base spare held 94 v d p) :
    ∃ r : Rec, v = .agg #[.string r.name, .int .i64 r.ty, .int .i64 r.ttl, .int .i64 r.n, .string r.host, .string r.text] ∧ Small r := by
  obtain ⟨cs, rfl, _⟩ := okWide_struct Tryd.underlying94 hv
  obtain ⟨fuel, hf⟩ := h
  obtain ⟨r, hr, hz⟩ := rec_of hf
  refine ⟨r, ?_, hz⟩
  have e : cs.toList = rc r := hr
  rw [show cs = (rc r).toArray from by rw [← e]]
  rfl
end

section
variable {H : Type} {enc : TypeId × Value → H} {w : World}

set_option maxRecDepth 100000 in
/-- A slice of records that comes in. -/
theorem recs_in {a : Option Addr} {len cap : Nat} {d : DataW H} {p : List MemPlace} (h : DataW.Trod enc Tryd.prog w 0 (fun _ => true) true 54 (.slice a len cap) d p) : ∃ l, IsRecs w a len l := by
  obtain ⟨fuel, hf⟩ := h
  rcases open_slice Tryd.underlying54 hf with ⟨hcs, _⟩ | ⟨x, len', cap', m, n, D, Pl, hcs, _, hl, hm, hmm, _, hx⟩
  · simp [Value.cells] at hcs
    obtain ⟨rfl, rfl, rfl⟩ := hcs
    exact ⟨[], Sr.nil, by omega, fun r h => by simp at h⟩
  · simp [Value.cells] at hcs
    obtain ⟨rfl, rfl, rfl⟩ := hcs
    unfold maxLen at hm
    simp only [if_true] at hmm
    subst hmm
    have hC : Tryd.prog.cellsOf 94 = 6 := by kernel_rfl
    rw [hC] at hx
    obtain ⟨b, off, spot⟩ := x
    rcases Nat.eq_zero_or_pos len with h0 | h0
    · subst h0
      exact ⟨[], Sr.nil, by omega, fun r h => by simp at h⟩
    have hs : spot = none := by
      obtain ⟨cs', hc, _⟩ := hx 0 (by omega)
      obtain ⟨_, hl6, hat⟩ := World.cells?_some hc
      have c0 := hat 0 (by omega)
      rw [List.getElem?_eq_getElem (by omega)] at c0
      simpa [Addr.add] using World.cell?_spot c0
    subst hs
    have key : ∀ i : Nat, ∃ r : Rec, i < len → (b < w.heap.size ∧ Ce w b (off + i * 6) r ∧ Small r) := fun i => by
      by_cases hi : i < len
      · obtain ⟨cs', hc, ht⟩ := hx i (by omega)
        obtain ⟨r, rfl, hz⟩ := rec_of ht
        obtain ⟨_, _, hat⟩ := World.cells?_some hc
        refine ⟨r, fun _ => ?_⟩
        have hc : ∀ c, c < 6 → w.cell? ⟨b, off + i * 6 + c, none⟩ = (rc r)[c]? := fun c hc => by
          rw [← hat c hc, Addr.add_lit, Addr.add_lit]
        have c0 : w.cell? ⟨b, off + i * 6 + 0, none⟩ = some (.string r.name) := hc 0 (by omega)
        exact ⟨World.block_lt_of_cell? _ _ c0, ⟨c0, hc 1 (by omega), hc 2 (by omega), hc 3 (by omega), hc 4 (by omega), hc 5 (by omega)⟩, hz⟩
      · exact ⟨zr, fun h => absurd h hi⟩
    obtain ⟨f, hf⟩ := Classical.axiomOfChoice key
    refine ⟨(List.range len).map f, ⟨by simp, fun hn => ?_⟩, by omega, fun r hr => ?_⟩
    · refine ⟨b, off, rfl, (hf 0 hn).1, fun j hj => ?_⟩
      have hj' : j < len := by simpa using hj
      have := (hf j hj').2.1
      simpa using this
    · obtain ⟨i, hi, rfl⟩ := List.mem_map.1 hr
      exact (hf i (List.mem_range.1 hi)).2.2

end
end Go.Proofs.YtmkcjjgicinggaaDoor.RowR

/- What a zone that comes in reads as. -/
namespace Go.Proofs.YtmkcjjgicinggaaDoor.RowZ
open Go.Proofs.YtmkcjjgicinggaaDoor.Mem Go.Proofs.YtmkcjjgicinggaaDoor.MemR Go.Proofs.YtmkcjjgicinggaaDoor.RowR
open Go.ChangeShapes Go.WideShapes Go.ChangeAt Go.RowKit Go.Deep

section
variable {H : Type} {enc : TypeId × Value → H} {w : World} {base : Nat} {spare : Nat → Bool} {held : Bool}
theorem zone_cells {cs : List Value} {s0 : ByteArray} {v1 : Value} (h : cs.length = 2) (e0 : (cs.drop 0).take 1 = [.string s0]) (e1 : (cs.drop 1).take 1 = [v1]) : cs = [.string s0, v1] := by
  match cs, h with
  | [c0, c1], _ =>
    simp only [List.drop_zero, List.drop_succ_cons, List.take_succ_cons, List.take_zero, List.cons.injEq, and_true] at e0 e1
    subst e0 e1
    rfl

theorem slice_cells {fuel : Nat} {cs : List Value} {x : DataW H × List MemPlace} (h : DataW.trod enc Tryd.prog w base spare held fuel 54 cs = some x) : ∃ a len cap, cs = [.slice a len cap] := by
  rcases open_slice Tryd.underlying54 h with ⟨hcs, _⟩ | ⟨x, len', cap', m, n, D, Pl, hcs, _⟩
  · exact ⟨_, _, _, hcs⟩
  · exact ⟨_, _, _, hcs⟩
end

section
variable {H : Type} {enc : TypeId × Value → H} {w : World}

theorem recs_of {fuel : Nat} {cs : List Value} {x : DataW H × List MemPlace} (h : DataW.trod enc Tryd.prog w 0 (fun _ => true) true fuel 54 cs = some x) : ∃ a len cap l, cs = [.slice a len cap] ∧ IsRecs w a len l := by
  obtain ⟨a, len, cap, rfl⟩ := slice_cells h
  obtain ⟨d, p⟩ := x
  obtain ⟨l, hl⟩ := recs_in (a := a) (len := len) (cap := cap) (d := d) (p := p) ⟨fuel, h⟩
  exact ⟨a, len, cap, l, rfl, hl⟩

theorem zone_of {fuel : Nat} {cs : List Value} {x : DataW H × List MemPlace} (h : DataW.trod enc Tryd.prog w 0 (fun _ => true) true fuel 56 cs = some x) :
    ∃ (s : ByteArray) (a : Option Addr) (n c : Nat) (l : List Rec), cs = [.string s, .slice a n c] ∧ s.size ≤ 9223372036854775807 ∧ IsRecs w a n l := by
  obtain ⟨xs, n, _, _, hc, hl, hg⟩ := DataW.trod_struct Tryd.underlying56 h
  have h2 : cs.length = 2 := hc.trans (by kernel_rfl)
  have hx : xs.length = 2 := hl
  have ks : Tryd.prog.cellsOf 9 = 1 := by kernel_rfl
  have kr : Tryd.prog.cellsOf 54 = 1 := by kernel_rfl
  have g : ∀ i, i < 2 → xs[i]? = some (xs[i]!) := fun i hi => by rw [getElem!_pos xs i (by omega)]; exact List.getElem?_eq_getElem (by omega)
  have f0 := (hg 0 _ rfl).trans (g 0 (by omega))
  have f1 := (hg 1 _ rfl).trans (g 1 (by omega))
  obtain ⟨s0, e0, _, z0⟩ := DataW.trod_string Tryd.underlying9 f0
  obtain ⟨a1, n1, c1, l1, e1, z1⟩ := recs_of f1
  replace e0 : (cs.drop 0).take (Tryd.prog.cellsOf 9) = [.string s0] := e0
  replace e1 : (cs.drop 1).take (Tryd.prog.cellsOf 54) = [.slice a1 n1 c1] := e1
  rw [ks] at e0
  rw [kr] at e1
  unfold maxLen at z0
  exact ⟨s0, a1, n1, c1, l1, zone_cells h2 e0 e1, z0, z1⟩

set_option maxRecDepth 100000 in
/-- A zone that comes in. -/
theorem zone_in {r : Reach} {b0 : Nat} {v : Value} {d : DataW H} {p : List MemPlace} (hv : Value.okWide Tryd.prog w r b0 56 v) (h : DataW.Trod enc Tryd.prog w 0 (fun _ => true) true 56 v d p) :
    ∃ (s : ByteArray) (a : Option Addr) (n c : Nat) (l : List Rec), v = .agg #[.string s, .slice a n c] ∧ s.size ≤ 9223372036854775807 ∧ IsRecs w a n l := by
  obtain ⟨cs, rfl, _⟩ := okWide_struct Tryd.underlying56 hv
  obtain ⟨fuel, hf⟩ := h
  obtain ⟨s, a, n, c, l, hr, hz⟩ := zone_of hf
  refine ⟨s, a, n, c, l, ?_, hz⟩
  have e : cs.toList = [.string s, .slice a n c] := hr
  rw [show cs = ([.string s, .slice a n c] : List Value).toArray from by rw [← e]]

end
end Go.Proofs.YtmkcjjgicinggaaDoor.RowZ

/- What a name space that comes in reads as. -/
namespace Go.Proofs.YtmkcjjgicinggaaDoor.RowF
open Go.Proofs.YtmkcjjgicinggaaDoor.Mem Go.Proofs.YtmkcjjgicinggaaDoor.MemR Go.Proofs.YtmkcjjgicinggaaDoor.RowR Go.Proofs.YtmkcjjgicinggaaDoor.RowZ Go.Proofs.YtmkcjjgicinggaaDoor.MemF Go.Proofs.YtmkcjjgicinggaaDoor.SzF
open Go.ChangeShapes Go.WideShapes Go.ChangeAt Go.RowKit Go.Deep

section
variable {H : Type} {enc : TypeId × Value → H} {w : World}

theorem two_cells {cs : List Value} {v0 v1 : Value} (h : cs.length = 2) (e0 : (cs.drop 0).take 1 = [v0]) (e1 : (cs.drop 1).take 1 = [v1]) : cs = [v0, v1] := by
  match cs, h with
  | [c0, c1], _ =>
    simp only [List.drop_zero, List.drop_succ_cons, List.take_succ_cons, List.take_zero, List.cons.injEq, and_true] at e0 e1
    subst e0 e1
    rfl

theorem post_of {fuel : Nat} {cs : List Value} {x : DataW H × List MemPlace} (h : DataW.trod enc Tryd.prog w 0 (fun _ => true) true fuel 59 cs = some x) :
    ∃ p : Pst, cs = [.int .i64 p.addr, .string p.apex] ∧ p.apex.size ≤ 9223372036854775807 := by
  obtain ⟨xs, n, _, _, hc, hl, hg⟩ := DataW.trod_struct Tryd.underlying59 h
  have h2 : cs.length = 2 := hc.trans (by kernel_rfl)
  have hx : xs.length = 2 := hl
  have ks : Tryd.prog.cellsOf 9 = 1 := by kernel_rfl
  have ki : Tryd.prog.cellsOf 3 = 1 := by kernel_rfl
  have g : ∀ i, i < 2 → xs[i]? = some (xs[i]!) := fun i hi => by rw [getElem!_pos xs i (by omega)]; exact List.getElem?_eq_getElem (by omega)
  have f0 := (hg 0 _ rfl).trans (g 0 (by omega))
  have f1 := (hg 1 _ rfl).trans (g 1 (by omega))
  obtain ⟨x0, e0, _⟩ := DataW.trod_int Tryd.underlying3 f0
  obtain ⟨s1, e1, _, z1⟩ := DataW.trod_string Tryd.underlying9 f1
  replace e0 : (cs.drop 0).take (Tryd.prog.cellsOf 3) = [.int .i64 x0] := e0
  replace e1 : (cs.drop 1).take (Tryd.prog.cellsOf 9) = [.string s1] := e1
  rw [ki] at e0
  rw [ks] at e1
  unfold maxLen at z1
  exact ⟨⟨x0, s1⟩, two_cells h2 e0 e1, z1⟩

set_option maxRecDepth 100000 in
theorem posts_of {fuel : Nat} {cs : List Value} {x : DataW H × List MemPlace} (h : DataW.trod enc Tryd.prog w 0 (fun _ => true) true fuel 23 cs = some x) :
    ∃ a len cap ps, cs = [.slice a len cap] ∧ Rp w w.heap.size a len ps ∧ len ≤ 9223372036854775807 ∧ ∀ p ∈ ps, p.apex.size ≤ 9223372036854775807 := by
  rcases open_slice Tryd.underlying23 h with ⟨hcs, _⟩ | ⟨x, len, cap, m, n, D, Pl, hcs, _, hl, hm, hmm, _, hx⟩
  · exact ⟨none, 0, 0, [], hcs, Rp.nil, by omega, fun r h => by simp at h⟩
  · unfold maxLen at hm
    simp only [if_true] at hmm
    subst hmm
    have hC : Tryd.prog.cellsOf 59 = 2 := by kernel_rfl
    rw [hC] at hx
    obtain ⟨b, off, spot⟩ := x
    rcases Nat.eq_zero_or_pos len with h0 | h0
    · subst h0
      exact ⟨_, _, _, [], hcs, Rp.nil, by omega, fun r h => by simp at h⟩
    have hs : spot = none := by
      obtain ⟨cs', hc, _⟩ := hx 0 (by omega)
      obtain ⟨_, hl6, hat⟩ := World.cells?_some hc
      have c0 := hat 0 (by omega)
      rw [List.getElem?_eq_getElem (by omega)] at c0
      simpa [Addr.add] using World.cell?_spot c0
    subst hs
    have key : ∀ i : Nat, ∃ r : Pst, i < len → (b < w.heap.size ∧ Cp w b (off + i * 2) r ∧ r.apex.size ≤ 9223372036854775807) := fun i => by
      by_cases hi : i < len
      · obtain ⟨cs', hc, ht⟩ := hx i (by omega)
        obtain ⟨r, rfl, hz⟩ := post_of ht
        obtain ⟨_, _, hat⟩ := World.cells?_some hc
        refine ⟨r, fun _ => ?_⟩
        have hc : ∀ c, c < 2 → w.cell? ⟨b, off + i * 2 + c, none⟩ = ([.int .i64 r.addr, .string r.apex] : List Value)[c]? := fun c hc => by
          rw [← hat c hc, Addr.add_lit, Addr.add_lit]
        have c0 : w.cell? ⟨b, off + i * 2 + 0, none⟩ = some (.int .i64 r.addr) := hc 0 (by omega)
        exact ⟨World.block_lt_of_cell? _ _ c0, ⟨c0, hc 1 (by omega)⟩, hz⟩
      · exact ⟨⟨0, ⟨#[]⟩⟩, fun h => absurd h hi⟩
    obtain ⟨f, hf⟩ := Classical.axiomOfChoice key
    refine ⟨_, _, _, (List.range len).map f, hcs, ⟨by simp, fun hn => ?_⟩, by omega, fun r hr => ?_⟩
    · refine ⟨b, off, rfl, (hf 0 hn).1, fun j hj => ?_⟩
      have hj' : j < len := by simpa using hj
      have := (hf j hj').2.1
      simpa using this
    · obtain ⟨i, hi, rfl⟩ := List.mem_map.1 hr
      exact (hf i (List.mem_range.1 hi)).2.2

set_option maxRecDepth 100000 in
theorem zones_of {fuel : Nat} {cs : List Value} {x : DataW H × List MemPlace} (h : DataW.trod enc Tryd.prog w 0 (fun _ => true) true fuel 22 cs = some x) :
    ∃ a len cap zs, cs = [.slice a len cap] ∧ Rz False w w.heap.size a len zs ∧ len ≤ 9223372036854775807 ∧ ∀ z ∈ zs, SmallZ z := by
  rcases open_slice Tryd.underlying22 h with ⟨hcs, _⟩ | ⟨x, len, cap, m, n, D, Pl, hcs, _, hl, hm, hmm, _, hx⟩
  · exact ⟨none, 0, 0, [], hcs, Rz.nil, by omega, fun r h => by simp at h⟩
  · unfold maxLen at hm
    simp only [if_true] at hmm
    subst hmm
    have hC : Tryd.prog.cellsOf 56 = 2 := by kernel_rfl
    rw [hC] at hx
    obtain ⟨b, off, spot⟩ := x
    rcases Nat.eq_zero_or_pos len with h0 | h0
    · subst h0
      exact ⟨_, _, _, [], hcs, Rz.nil, by omega, fun r h => by simp at h⟩
    have hs : spot = none := by
      obtain ⟨cs', hc, _⟩ := hx 0 (by omega)
      obtain ⟨_, hl6, hat⟩ := World.cells?_some hc
      have c0 := hat 0 (by omega)
      rw [List.getElem?_eq_getElem (by omega)] at c0
      simpa [Addr.add] using World.cell?_spot c0
    subst hs
    have key : ∀ i : Nat, ∃ r : Zn, i < len → (b < w.heap.size ∧ Cz False w w.heap.size b (off + i * 2) r ∧ SmallZ r) := fun i => by
      by_cases hi : i < len
      · obtain ⟨cs', hc, ht⟩ := hx i (by omega)
        obtain ⟨s, a, n, c, l, rfl, hz, hr⟩ := zone_of ht
        obtain ⟨_, _, hat⟩ := World.cells?_some hc
        refine ⟨⟨s, l⟩, fun _ => ?_⟩
        have hc : ∀ c', c' < 2 → w.cell? ⟨b, off + i * 2 + c', none⟩ = ([.string s, .slice a n c] : List Value)[c']? := fun c' hc => by
          rw [← hat c' hc, Addr.add_lit, Addr.add_lit]
        have c0 : w.cell? ⟨b, off + i * 2 + 0, none⟩ = some (.string s) := hc 0 (by omega)
        exact ⟨World.block_lt_of_cell? _ _ c0, ⟨c0, a, n, c, hc 1 (by omega), hr.1, fun h => h.elim⟩, hz, by have := hr.1.1; have := hr.2.1; show l.length ≤ _; omega, hr.2.2⟩
      · exact ⟨⟨⟨#[]⟩, []⟩, fun h => absurd h hi⟩
    obtain ⟨f, hf⟩ := Classical.axiomOfChoice key
    refine ⟨_, _, _, (List.range len).map f, hcs, ⟨by simp, fun hn => ?_⟩, by omega, fun r hr => ?_⟩
    · refine ⟨b, off, rfl, (hf 0 hn).1, fun j hj => ?_⟩
      have hj' : j < len := by simpa using hj
      have := (hf j hj').2.1
      simpa using this
    · obtain ⟨i, hi, rfl⟩ := List.mem_map.1 hr
      exact (hf i (List.mem_range.1 hi)).2.2

/-- The arguments read as a name space. -/
def IsForest (w : World) (A : Option Addr) (n : Nat) (zs : List Zn) (P : Option Addr) (m : Nat) (ps : List Pst) : Prop :=
  Sf False w A n zs P m ps ∧ n ≤ 9223372036854775807 ∧ m ≤ 9223372036854775807 ∧ (∀ z ∈ zs, SmallZ z) ∧ ∀ p ∈ ps, p.apex.size ≤ 9223372036854775807

theorem forest_of {fuel : Nat} {cs : List Value} {x : DataW H × List MemPlace} (h : DataW.trod enc Tryd.prog w 0 (fun _ => true) true fuel 25 cs = some x) :
    ∃ (A : Option Addr) (n c : Nat) (zs : List Zn) (P : Option Addr) (m d : Nat) (ps : List Pst), cs = [.slice A n c, .slice P m d] ∧ IsForest w A n zs P m ps := by
  obtain ⟨xs, n, _, _, hc, hl, hg⟩ := DataW.trod_struct Tryd.underlying25 h
  have h2 : cs.length = 2 := hc.trans (by kernel_rfl)
  have hx : xs.length = 2 := hl
  have kz : Tryd.prog.cellsOf 22 = 1 := by kernel_rfl
  have kp : Tryd.prog.cellsOf 23 = 1 := by kernel_rfl
  have g : ∀ i, i < 2 → xs[i]? = some (xs[i]!) := fun i hi => by rw [getElem!_pos xs i (by omega)]; exact List.getElem?_eq_getElem (by omega)
  have f0 := (hg 0 _ rfl).trans (g 0 (by omega))
  have f1 := (hg 1 _ rfl).trans (g 1 (by omega))
  obtain ⟨a0, n0, c0, zs, e0, r0, b0, z0⟩ := zones_of f0
  obtain ⟨a1, n1, c1, ps, e1, r1, b1, z1⟩ := posts_of f1
  replace e0 : (cs.drop 0).take (Tryd.prog.cellsOf 22) = [.slice a0 n0 c0] := e0
  replace e1 : (cs.drop 1).take (Tryd.prog.cellsOf 23) = [.slice a1 n1 c1] := e1
  rw [kz] at e0
  rw [kp] at e1
  exact ⟨a0, n0, c0, zs, a1, n1, c1, ps, two_cells h2 e0 e1, ⟨r0, r1⟩, b0, b1, z0, z1⟩

set_option maxRecDepth 100000 in
/-- A name space that comes in. -/
theorem forest_in {r : Reach} {b0 : Nat} {v : Value} {d : DataW H} {p : List MemPlace} (hv : Value.okWide Tryd.prog w r b0 25 v) (h : DataW.Trod enc Tryd.prog w 0 (fun _ => true) true 25 v d p) :
    ∃ (A : Option Addr) (n c : Nat) (zs : List Zn) (P : Option Addr) (m d : Nat) (ps : List Pst), v = .agg #[.slice A n c, .slice P m d] ∧ IsForest w A n zs P m ps := by
  obtain ⟨cs, rfl, _⟩ := okWide_struct Tryd.underlying25 hv
  obtain ⟨fuel, hf⟩ := h
  obtain ⟨A, n, c, zs, P, m, d, ps, hr, hz⟩ := forest_of hf
  refine ⟨A, n, c, zs, P, m, d, ps, ?_, hz⟩
  have e : cs.toList = [.slice A n c, .slice P m d] := hr
  rw [show cs = ([.slice A n c, .slice P m d] : List Value).toArray from by rw [← e]]
end
end Go.Proofs.YtmkcjjgicinggaaDoor.RowF

/- The law FnExactZoneAt returns true at every name space, every address and every name, where the library variable internal/bytealg.MaxLen holds an int: ZoneAt answers as its model. -/
namespace Go.Proofs.YtmkcjjgicinggaaDoor.exactZoneAtCard
open Go.ChangeShapes Go.WideShapes Go.ChangeAt Go.RowKit Go.Proofs.YtmkcjjgicinggaaDoor.LaidU Go.Proofs.YtmkcjjgicinggaaDoor.Mem Go.Proofs.YtmkcjjgicinggaaDoor.RowF
open Go.ChangeMaps (open_string shut_string)

theorem own : ownKnob Tryd.prog.godebug = none := by kernel_rfl
theorem laidOut : laidOutB Tryd.prog = true := by kernel_rfl

set_option maxRecDepth 100000 in
theorem contract (H : Type) (enc : TypeId × Value → H) (W : World) (base : Nat) (args : Array Value) (ds gs : List (DataW H)) (before : List MemPlace)
    (hval0 : ∀ (j : Nat) t v, Tryd.f4.params[j]? = some t → args[j]? = some v → Value.okWide Tryd.prog W .any base t v)
    (hW : DataW.Whole enc Tryd.prog Tryd.f4.params.toList Rows.fnExactZoneAtSpec.vars false W args.toList ds gs before) (hsh : W.ShapedOpen Tryd.prog) :
    Calls Tryd.prog 4 args W fun e W' => ∃ v, e = .returned v ∧ Rows.fnExactZoneAtSpec.post enc Tryd.prog Tryd.f4 false true false false W args v W' := by
  have hval : ∀ (j : Nat) t v, Tryd.f4.params[j]? = some t → args[j]? = some v → Value.okWide Tryd.prog W .any base t v := hval0
  have hW' := hW
  obtain ⟨p, q, hA0, hV, rfl, _, _⟩ := hW
  have hA : DataW.TrodAll enc Tryd.prog W 0 (fun _ => true) true Tryd.f4.params.toList args.toList ds p := hA0
  rw [Tryd.params4] at hA hval
  obtain ⟨v0, vs0, d0, ds0, p0, q0, _, rfl, rfl, h0, r0⟩ := trodAll_cons hA
  obtain ⟨v1, vs1, d1, ds1, p1, q1, _, rfl, rfl, h1, r1⟩ := trodAll_cons r0
  obtain ⟨v2, vs2, d2, ds2, p2, q2, _, rfl, rfl, h2, r2⟩ := trodAll_cons r1
  obtain ⟨rfl, rfl, rfl⟩ := trodAll_nil r2
  obtain rfl : args = #[v0, v1, v2] := by cases args; simp_all
  obtain ⟨rfl, rfl⟩ := trodVars_none hV
  have k0 := h0
  have lt0 : ∀ x ∈ p0, x.block < W.heap.size := by obtain ⟨m, hm⟩ := k0; exact DataW.trod_lt m _ _ _ hm
  obtain ⟨a0, len0, cap0, zs0, P0, m0, d0, ps0, rfl, f0⟩ := forest_in (hval 0 25 v0 rfl rfl) h0
  obtain ⟨x1, rfl, rfl, rfl, hx1⟩ := open_int Tryd.underlying3 (hval 1 3 v1 rfl rfl) h1
  obtain ⟨x2, rfl, rfl, rfl, hx2⟩ := open_string Tryd.underlying9 (hval 2 9 v2 rfl rfl) h2
  clear hA0 hval0
  refine (LawZoneAt.walk a0 len0 cap0 zs0 P0 m0 d0 ps0 x1 x2 W (env hsh) f0.1 f0.2.1 f0.2.2.1 f0.2.2.2.1 f0.2.2.2.2).mono fun e W' ⟨he, bel⟩ => ?_
  subst he
  exact ⟨_, rfl, _, _, _, [], _, [], hW', trodAll_mk1 (shut_bool Tryd.underlying4 _), (trodAll_cons_mk (Below.trod laidOut (by kernel_rfl) (of_decide_eq_true (by kernel_rfl)) k0 bel lt0) (trodAll_cons_mk (shut_int Tryd.underlying3 hx1) (trodAll_cons_mk (shut_string Tryd.underlying9 hx2) trodAll_mk0))), rfl, bel.frame _, fun h => by cases h⟩

theorem reads (os : Os) {H : Type} (enc : TypeId × Value → H) : ∃ places, DataW.whole enc Tryd.prog ((laidWorld os).forCall (fun _ _ => 0) ⟨#[], #[.agg #[.slice none 0 0, .slice none 0 0], .int .i64 0, .string ⟨#[]⟩], []⟩).memory Tryd.f4.params.toList Rows.fnExactZoneAtSpec.vars false #[Value.agg #[.slice none 0 0, .slice none 0 0], Value.int .i64 0, Value.string ⟨#[]⟩].toList 8 = some ([.agg [.nil, .nil], .lit (.int .i64 0), .lit (.string [])], [], places) :=
  ⟨[], by kernel_rfl⟩

set_option maxRecDepth 100000 in
theorem lifted (os : Os) (started : os.Started) (H : Type) (enc : TypeId × Value → H) (F : Stop.Interp) :
    ReturnsInHanded {} Tryd.checked os 4 .any ((OpenSpec.ofChange Rows.fnExactZoneAtSpec).preRow enc Tryd.prog Tryd.f4 Rows.fnExactZoneAtRow.domain false Rows.fnExactZoneAtRow.laid) (((OpenSpec.ofChange Rows.fnExactZoneAtSpec).at F).post enc Tryd.prog Tryd.f4 false true false false) := by
  obtain ⟨places, hx⟩ := reads os enc
  refine returnsInHanded_of_row (C := Tryd.checked) (s := OpenSpec.ofChange Rows.fnExactZoneAtSpec) own started (by kernel_rfl) Tryd.func4
    (witness_row_at (enc := enc) (C := Tryd.checked) false (laidWorld os) #[.agg #[.slice none 0 0, .slice none 0 0], .int .i64 0, .string ⟨#[]⟩] rfl (by kernel_rfl) (by kernel_rfl) (by kernel_rfl)
      (OpenSpec.preRow_of_cond 8 hx (by kernel_rfl) (fun k hk => by cases hk) (by kernel_rfl) (laid_met os _))) ?_
  intro W base args ds gs before hval hW _ _ _ _ hsh _
  exact contract H enc W base args ds gs before hval hW hsh

theorem said : Rows.FnExactZoneAtSaid :=
  OpenClaim.holds_of_cond 4 Tryd.f4 rfl rfl rfl rfl rfl rfl rfl ⟨rfl, rfl, rfl, rfl, rfl⟩ rfl rfl rfl rfl rfl (by kernel_rfl) Tryd.func4 (by kernel_rfl)
    (of_decide_eq_true (by kernel_rfl)) (by unfold Func.isWrapper; first | (rw [if_pos (by decide +kernel)]; kernel_rfl) | (rw [if_neg (by decide +kernel)]; exact ⟨rfl, rfl⟩))
    (fun os started H enc _ F => by rw [OpenClaim.pre_eq_preRow]; exact lifted os started H enc F)

theorem plain (f : FuncId) (fn : Func) (hf : Tryd.pinned.checked.prog.funcNamed "loop.example/g00497/laws.FnExactZoneAt" = some f) (hfn : Tryd.pinned.checked.prog.funcs[f]? = some fn) :
    false = Tryd.pinned.checked.prog.looks [] ∧ ∀ (j : Nat) t, fn.params[j]? = some t → Tryd.pinned.checked.prog.wantsStandIn t = false := by
  obtain rfl : f = 4 := Option.some.inj ((show Tryd.prog.funcNamed "loop.example/g00497/laws.FnExactZoneAt" = some 4 by kernel_rfl).symm.trans hf) |>.symm
  obtain rfl : fn = Tryd.f4 := (Option.some.inj (Tryd.func4.symm.trans hfn)).symm
  refine ⟨by kernel_rfl, fun j t ht => ?_⟩
  rw [Tryd.params4] at ht
  have hm : t = 25 ∨ t = 3 ∨ t = 9 := by simpa using Array.mem_of_getElem? ht
  rcases hm with rfl | rfl | rfl
  · exact (show Tryd.prog.wantsStandIn 25 = false by kernel_rfl)
  · exact (show Tryd.prog.wantsStandIn 3 = false by kernel_rfl)
  · exact (show Tryd.prog.wantsStandIn 9 = false by kernel_rfl)

theorem card : Rows.FnExactZoneAtCardSaid :=
  Claim7.holds_tied_plain_at .later [] _ _ _ _ said (fun _ h => by cases h) (by kernel_rfl) (fun _ h => by cases h) fnExactZoneAt_row_tie rfl ⟨rfl, rfl⟩ (by kernel_rfl) rfl plain (by kernel_rfl)
end Go.Proofs.YtmkcjjgicinggaaDoor.exactZoneAtCard
namespace Go.Proofs.YtmkcjjgicinggaaDoor
theorem fnExactZoneAt_holds : Rows.FnExactZoneAtCardSaid := exactZoneAtCard.card
end Go.Proofs.YtmkcjjgicinggaaDoor
