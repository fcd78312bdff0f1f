/- What ZoneOf, ZoneAt and l12Posted do in the model. Condition: fewer than 400000001 zones and posts, at most 400000000 bytes in each name. -/
import Derived.Test.YtmkcjjgicinggaaGreatDoorUnder
import Derived.Test.YtmkcjjgicinggaaGreatDoorParts
import Derived.Test.YtmkcjjgicinggaaGreatDoorForMath
import Derived.Lib.QuietBelow
import Derived.Deep.DeepCutAuto
import Derived.BigQuiet
namespace Go.Proofs.YtmkcjjgicinggaaGreatDoor.ZonS
open Go.RowKit Go.Proofs.YtmkcjjgicinggaaGreatDoor.Mem Go.Proofs.YtmkcjjgicinggaaGreatDoor.MemR Go.Proofs.YtmkcjjgicinggaaGreatDoor.MemS Go.Proofs.YtmkcjjgicinggaaGreatDoor.MemZ Go.Proofs.YtmkcjjgicinggaaGreatDoor.MemF Go.Proofs.YtmkcjjgicinggaaGreatDoor.SetMath Go.Proofs.YtmkcjjgicinggaaGreatDoor.NameMath Go.Proofs.YtmkcjjgicinggaaGreatDoor.ForMath Go.Proofs.YtmkcjjgicinggaaGreatDoor.Split

theorem aps_len (zs : List Zn) : (aps zs).length = zs.length := List.length_map _

theorem aps_txt (zs : List Zn) (k : Nat) (h : k < zs.length) : txt (aps zs) k = zs[k].apex := by
  rw [txt_get (by rw [aps_len]; exact h)]
  simp [aps]

set_option maxHeartbeats 16000000 in
set_option maxRecDepth 100000 in
theorem zoneOf (own : Prop) (A : Option Addr) (n c : Nat) (zs : List Zn) (P : Option Addr) (m d : Nat) (nm : ByteArray) (w : World) (hs : Rz own w w.heap.size A n zs) (hn : n ≤ 400000000) (hz : ∀ z ∈ zs, z.apex.size ≤ 400000000) (hnm : nm.size ≤ 400000000) :
    Calls Tryz.prog 28 #[.agg #[.slice A n c, .slice P m d], .string nm] w fun e w' => e = .returned (.int .i64 (zo nm (fun _ => true) (aps zs))) ∧ Below w.heap.size w w' := by
  have mixed : Tryz.prog.follows .mixedOrders = true := by kernel_rfl
  have HS := Lib.hid hs
  have HZ := Lib.hid hz
  have HN := Lib.hid hnm
  have X0 := Lib.hid (fx_new w 27 (.slice A n c) (.slice P m d))
  have L0 := Lib.hid ((Below.refl w.heap.size w).alloc (Nat.le_refl _) (.cells #[.slice A n c, .slice P m d] 27))
  clear hs hz hnm
  go_enter Tryz.func28, Tryz.ntmps28
  go_wp2
  generalize w.alloc (.cells #[.slice A n c, .slice P m d] 27) = w1 at *
  go_loopw [5, 6] (fun a i wr => ∃ (k : Nat) (r : Int), k ≤ n ∧ i = .int .i64 k ∧ a = .int .i64 r ∧ Hid (Bs nm (fun _ => true) (aps zs) k r) ∧ Hid (Fx wr w.heap.size (.slice A n c) (.slice P m d)) ∧ Hid (Below w.heap.size w wr)) (fun _ i _ => n - (intOf i).toNat)
  case atStart => exact ⟨0, -1, Nat.zero_le _, rfl, rfl, bs_zero, X0.out, L0.out⟩
  case round =>
    clear X0 L0
    obtain ⟨k, r, hk, rfl, rfl, HB, HX, HL⟩ := hrel
    obtain ⟨x0, x1⟩ := HX.out
    by_cases hlt : k < n
    · obtain ⟨b, off, rfl, hbB, hcs⟩ := HS.out.2 (by omega)
      have hkl : k < zs.length := by rw [HS.out.1]; exact hlt
      obtain ⟨e0, _⟩ := (hcs k hkl).below HL.out hbB
      have ZK := Lib.hid (HZ.out _ (List.getElem_mem hkl))
      have TK := Lib.hid (aps_txt zs k hkl)
      have HU := Lib.hid (fun (W : World) => Under.spec nm zs[k].apex W HN.out ZK.out)
      have E0 := Lib.hid e0
      clear e0
      cases hu : Un nm zs[k].apex with
      | false =>
        rw [hu] at HU
        have HB2 := Lib.hid (bs_skip HB.out (fun c => by have := c.1; rw [TK.out, hu] at this; cases this))
        clear hu hcs HB TK
        generalize zs[k] = z at *
        go_upto_region 5 with (fail)
        have y0 : ∀ d os, (Sort.grow (redrawn wr d) os).cell? _ = some _ := cell_regrown x0
        have y2 : ∀ d os, (Sort.grow (redrawn wr d) os).cell? _ = some _ := cell_regrown E0.out
        clear x0 x1
        refine wp_region_quiet_below (by assumption) (by kernel_rfl) ?_
        repeat (go_big_quiet_step (first | (go_at_call 79; exact Calls.regrown_of (HU.out _))))
        refine wpQuiet_nil ?_
        intro w2 hw2
        have hb2 : Below wr.heap.size wr w2 := by obtain ⟨p, rfl⟩ := hw2; exact below_regrown _ _ _
        have L2 := Lib.hid (HL.out.trans (hb2.mono HL.out.size))
        have X2 := Lib.hid (HX.out.below hb2)
        clear hw2 y0 y2 hb2
        go_wp2
        go_roundw
        case rel => exact ⟨k + 1, r, by omega, by go_num, rfl, HB2.out, X2.out, L2.out⟩
        case measure => (simp [intOf] <;> omega)
      | true =>
        rw [hu] at HU
        have hcd : Cd nm (fun _ => true) (aps zs) k := ⟨by rw [TK.out]; exact hu, rfl⟩
        clear hu
        by_cases hr0 : r < 0
        · have HB2 := Lib.hid (bs_first HB.out hr0 hcd)
          clear hcs HB TK hcd
          generalize zs[k] = z at *
          go_upto_region 5 with (fail)
          have y0 : ∀ d os, (Sort.grow (redrawn wr d) os).cell? _ = some _ := cell_regrown x0
          have y2 : ∀ d os, (Sort.grow (redrawn wr d) os).cell? _ = some _ := cell_regrown E0.out
          clear x0 x1
          refine wp_region_quiet_below (by assumption) (by kernel_rfl) ?_
          repeat (go_big_quiet_step (first | (go_at_call 79; exact Calls.regrown_of (HU.out _))))
          refine wpQuiet_nil ?_
          intro w2 hw2
          have hb2 : Below wr.heap.size wr w2 := by obtain ⟨p, rfl⟩ := hw2; exact below_regrown _ _ _
          have L2 := Lib.hid (HL.out.trans (hb2.mono HL.out.size))
          have X2 := Lib.hid (HX.out.below hb2)
          clear hw2 y0 y2 hb2
          go_wp2
          go_roundw
          case rel => exact ⟨k + 1, k, by omega, by go_num, rfl, HB2.out, X2.out, L2.out⟩
          case measure => (simp [intOf] <;> omega)
        · obtain ⟨j, rfl⟩ : ∃ j : Nat, r = (j : Int) := ⟨r.toNat, by omega⟩
          have hj : j < n := by have := (bs_bound HB.out).2; omega
          have hjl : j < zs.length := by rw [HS.out.1]; exact hj
          obtain ⟨f0, _⟩ := (hcs j hjl).below HL.out hbB
          have ZJ := Lib.hid (HZ.out _ (List.getElem_mem hjl))
          have TJ := Lib.hid (aps_txt zs j hjl)
          have C1 := Lib.hid (fun (W : World) => Parts.spec zs[k].apex W ZK.out)
          have C2 := Lib.hid (fun (W : World) => Parts.spec zs[j].apex W ZJ.out)
          have PK : Hid (pts (txt (aps zs) k) = (Lab zs[k].apex).length) := show _ = _ by rw [TK.out]; rfl
          have PJ : Hid (pts (txt (aps zs) j) = (Lab zs[j].apex).length) := show _ = _ by rw [TJ.out]; rfl
          have F0 := Lib.hid f0
          clear f0 hcs TK TJ
          generalize zs[k] = z at *
          generalize zs[j] = y at *
          generalize (Lab z.apex).length = pa at *
          generalize (Lab y.apex).length = pb at *
          by_cases hgt : pb < pa
          · have HB2 := Lib.hid (bs_more HB.out (by omega) hcd (by rw [Int.toNat_natCast, PK.out, PJ.out]; exact hgt))
            have hgz : (pa : Int) > (pb : Int) := by omega
            clear HB hcd
            go_upto_region 5 with (fail)
            have y0 : ∀ d os, (Sort.grow (redrawn wr d) os).cell? _ = some _ := cell_regrown x0
            have y2 : ∀ d os, (Sort.grow (redrawn wr d) os).cell? _ = some _ := cell_regrown E0.out
            have y3 : ∀ d os, (Sort.grow (redrawn wr d) os).cell? _ = some _ := cell_regrown F0.out
            clear x0 x1
            refine wp_region_quiet_below (by assumption) (by kernel_rfl) ?_
            iterate 19 (go_big_quiet_step (first | (go_at_call 79; exact Calls.regrown_of (HU.out _)) | (go_at_call 80; exact Calls.regrown_of (C1.out _))))
            repeat (go_big_quiet_step (first | (go_at_call 80; exact Calls.regrown_of (C2.out _))))
            refine wpQuiet_nil ?_
            intro w2 hw2
            have hb2 : Below wr.heap.size wr w2 := by obtain ⟨p, rfl⟩ := hw2; exact below_regrown _ _ _
            have L2 := Lib.hid (HL.out.trans (hb2.mono HL.out.size))
            have X2 := Lib.hid (HX.out.below hb2)
            clear hw2 y0 y2 y3 hb2
            go_wp2
            go_roundw
            case rel => exact ⟨k + 1, k, by omega, by go_num, rfl, HB2.out, X2.out, L2.out⟩
            case measure => (simp [intOf] <;> omega)
          · have HB2 := Lib.hid (bs_less HB.out (by omega) (by rw [Int.toNat_natCast, PK.out, PJ.out]; exact hgt))
            have hgz : ¬ (pa : Int) > (pb : Int) := by omega
            clear HB hcd
            go_upto_region 5 with (fail)
            have y0 : ∀ d os, (Sort.grow (redrawn wr d) os).cell? _ = some _ := cell_regrown x0
            have y2 : ∀ d os, (Sort.grow (redrawn wr d) os).cell? _ = some _ := cell_regrown E0.out
            have y3 : ∀ d os, (Sort.grow (redrawn wr d) os).cell? _ = some _ := cell_regrown F0.out
            clear x0 x1
            refine wp_region_quiet_below (by assumption) (by kernel_rfl) ?_
            iterate 19 (go_big_quiet_step (first | (go_at_call 79; exact Calls.regrown_of (HU.out _)) | (go_at_call 80; exact Calls.regrown_of (C1.out _))))
            repeat (go_big_quiet_step (first | (go_at_call 80; exact Calls.regrown_of (C2.out _))))
            refine wpQuiet_nil ?_
            intro w2 hw2
            have hb2 : Below wr.heap.size wr w2 := by obtain ⟨p, rfl⟩ := hw2; exact below_regrown _ _ _
            have L2 := Lib.hid (HL.out.trans (hb2.mono HL.out.size))
            have X2 := Lib.hid (HX.out.below hb2)
            clear hw2 y0 y2 y3 hb2
            go_wp2
            go_roundw
            case rel => exact ⟨k + 1, j, by omega, by go_num, rfl, HB2.out, X2.out, L2.out⟩
            case measure => (simp [intOf] <;> omega)
    · obtain rfl : n = k := by omega
      have HF := Lib.hid (zo_of (by rw [aps_len, HS.out.1]; exact HB.out))
      go_wp2
      go_ret
      exact ⟨by rw [HF.out]; rfl, HL.out⟩

theorem psd_take (addr : Int) (ps : List Pst) (a : ByteArray) (k : Nat) (h : k < ps.length) : psd addr (ps.take (k + 1)) a = (psd addr (ps.take k) a || (decide (ps[k].addr = addr) && ps[k].apex.data.toList == a.data.toList)) := by
  unfold psd
  rw [List.take_succ_eq_append_getElem h, List.any_append]
  simp

theorem psd_hit (addr : Int) (ps : List Pst) (a : ByteArray) (k : Nat) (h : k < ps.length) (e1 : ps[k].addr = addr) (e2 : ps[k].apex = a) : psd addr ps a = true := psd_iff.2 ⟨ps[k], List.getElem_mem h, e1, e2⟩

theorem bytes_ne {a b : ByteArray} (h : ¬ a = b) : (a.data.toList == b.data.toList) = false := by
  cases e : (a.data.toList == b.data.toList) with
  | false => rfl
  | true => exact absurd ((same_iff _ _).1 e) h

set_option maxHeartbeats 4000000 in
theorem posted (own : Prop) (A : Option Addr) (n c : Nat) (zs : List Zn) (P : Option Addr) (m d : Nat) (ps : List Pst) (addr : Int) (a : ByteArray) (w : World) (hs : Sf own w A n zs P m ps) (hm : m ≤ 400000000) :
    Calls Tryz.prog 82 #[.agg #[.slice A n c, .slice P m d], .int .i64 addr, .string a] w fun e w' => e = .returned (.bool (psd addr ps a)) ∧ Below w.heap.size w w' := by
  have HP := Lib.hid hs.2
  have X0 := Lib.hid (fx_new w 27 (.slice A n c) (.slice P m d))
  have L0 := Lib.hid ((Below.refl w.heap.size w).alloc (Nat.le_refl _) (.cells #[.slice A n c, .slice P m d] 27))
  clear hs
  go_enter Tryz.func82, Tryz.ntmps82
  go_wp2
  generalize w.alloc (.cells #[.slice A n c, .slice P m d] 27) = w1 at *
  obtain ⟨x0, x1⟩ := X0.out
  go_loop [7] (fun i => ∃ k : Nat, k ≤ m ∧ i = .int .i64 k ∧ Hid (psd addr (ps.take k) a = false)) (fun i => m - (intOf i).toNat)
  case atStart => exact ⟨0, Nat.zero_le _, rfl, by show _ = _; simp [psd]⟩
  case round =>
    obtain ⟨k, hk, rfl, HF⟩ := hrel
    by_cases hlt : k < m
    · obtain ⟨b, off, rfl, hbB, hcs⟩ := HP.out.2 (by omega)
      have hkl : k < ps.length := by rw [HP.out.1]; exact hlt
      obtain ⟨e0, e1⟩ := (hcs k hkl).below L0.out hbB
      have HT := Lib.hid (psd_take addr ps a k hkl)
      have HH := Lib.hid (psd_hit addr ps a k hkl)
      clear hcs
      generalize ps[k] = p at *
      by_cases had : p.addr = addr
      · have q0 : (p.addr == addr) = true := by simpa using had
        by_cases hap : p.apex = a
        · have HR := Lib.hid (HH.out had hap)
          have q1 : (p.apex.toList == a.toList) = true := by rw [hap]; simp
          have q2 : (p.apex.data.toList == a.data.toList) = true := by rw [hap]; simp
          clear had hap
          go_wp2
          go_ret
          exact ⟨by rw [HR.out]; rfl, L0.out⟩
        · have q2 : (p.apex.data.toList == a.data.toList) = false := bytes_ne hap
          have q1 : (p.apex.toList == a.toList) = false := by rw [ByteArray.toList_eq, ByteArray.toList_eq]; exact q2
          have HF2 : Hid (psd addr (ps.take (k + 1)) a = false) := show _ = _ by rw [HT.out, HF.out, q2]; simp
          clear had hap
          go_wp2
          go_round
          case rel => exact ⟨k + 1, by omega, by go_num, HF2.out⟩
          case measure => (simp [intOf] <;> omega)
      · have q0 : (p.addr == addr) = false := by simpa using had
        have HF2 : Hid (psd addr (ps.take (k + 1)) a = false) := show _ = _ by rw [HT.out, HF.out, decide_eq_false had]; rfl
        clear had
        go_wp2
        go_round
        case rel => exact ⟨k + 1, by omega, by go_num, HF2.out⟩
        case measure => (simp [intOf] <;> omega)
    · obtain rfl : m = k := by omega
      have HR : Hid (psd addr ps a = false) := show _ = _ by have := HF.out; rwa [take_all HP.out.1] at this
      go_wp2
      go_ret
      exact ⟨by rw [HR.out]; rfl, L0.out⟩

set_option maxHeartbeats 16000000 in
set_option maxRecDepth 100000 in
theorem zoneAt (own : Prop) (A : Option Addr) (n c : Nat) (zs : List Zn) (P : Option Addr) (m d : Nat) (ps : List Pst) (addr : Int) (nm : ByteArray) (w : World) (hs : Sf own w A n zs P m ps) (hn : n ≤ 400000000) (hm : m ≤ 400000000) (hz : ∀ z ∈ zs, z.apex.size ≤ 400000000) (hnm : nm.size ≤ 400000000) :
    Calls Tryz.prog 31 #[.agg #[.slice A n c, .slice P m d], .int .i64 addr, .string nm] w fun e w' => e = .returned (.int .i64 (zo nm (psd addr ps) (aps zs))) ∧ Below w.heap.size w w' := by
  have mixed : Tryz.prog.follows .mixedOrders = true := by kernel_rfl
  have HF0 := Lib.hid hs
  have HS := Lib.hid hs.1
  have HZ := Lib.hid hz
  have HN := Lib.hid hnm
  have X0 := Lib.hid (fx_new w 27 (.slice A n c) (.slice P m d))
  have L0 := Lib.hid ((Below.refl w.heap.size w).alloc (Nat.le_refl _) (.cells #[.slice A n c, .slice P m d] 27))
  clear hs hz hnm
  go_enter Tryz.func31, Tryz.ntmps31
  go_wp2
  generalize w.alloc (.cells #[.slice A n c, .slice P m d] 27) = w1 at *
  go_loopw [7, 8] (fun a i wr => ∃ (k : Nat) (r : Int), k ≤ n ∧ i = .int .i64 k ∧ a = .int .i64 r ∧ Hid (Bs nm (psd addr ps) (aps zs) k r) ∧ Hid (Fx wr w.heap.size (.slice A n c) (.slice P m d)) ∧ Hid (Below w.heap.size w wr)) (fun _ i _ => n - (intOf i).toNat)
  case atStart => exact ⟨0, -1, Nat.zero_le _, rfl, rfl, bs_zero, X0.out, L0.out⟩
  case round =>
    clear X0 L0
    obtain ⟨k, r, hk, rfl, rfl, HB, HX, HL⟩ := hrel
    obtain ⟨x0, x1⟩ := HX.out
    by_cases hlt : k < n
    · obtain ⟨b, off, rfl, hbB, hcs⟩ := HS.out.2 (by omega)
      have hkl : k < zs.length := by rw [HS.out.1]; exact hlt
      obtain ⟨e0, _⟩ := (hcs k hkl).below HL.out hbB
      have ZK := Lib.hid (HZ.out _ (List.getElem_mem hkl))
      have TK := Lib.hid (aps_txt zs k hkl)
      have HU := Lib.hid (fun (W : World) => Under.spec nm zs[k].apex W HN.out ZK.out)
      have HPo := Lib.hid (fun (W : World) (hW : Below wr.heap.size wr W) => posted own (some ⟨b, off, none⟩) n c zs P m d ps addr zs[k].apex W (HF0.out.on (HL.out.trans (hW.mono HL.out.size))) hm)
      have CD : Hid (Cd nm (psd addr ps) (aps zs) k ↔ Un nm zs[k].apex = true ∧ psd addr ps zs[k].apex = true) := show _ ↔ _ by unfold Cd; rw [TK.out]
      by_cases hj0 : 0 ≤ r
      · obtain ⟨j, rfl⟩ : ∃ j : Nat, r = (j : Int) := ⟨r.toNat, by omega⟩
        have hj : j < n := by have := (bs_bound HB.out).2; omega
        have hjl : j < zs.length := by rw [HS.out.1]; exact hj
        obtain ⟨f0, _⟩ := (hcs j hjl).below HL.out hbB
        have ZJ := Lib.hid (HZ.out _ (List.getElem_mem hjl))
        have TJ := Lib.hid (aps_txt zs j hjl)
        have C1 := Lib.hid (fun (W : World) => Parts.spec zs[k].apex W ZK.out)
        have C2 := Lib.hid (fun (W : World) => Parts.spec zs[j].apex W ZJ.out)
        have PK : Hid (pts (txt (aps zs) k) = (Lab zs[k].apex).length) := show _ = _ by rw [TK.out]; rfl
        have PJ : Hid (pts (txt (aps zs) j) = (Lab zs[j].apex).length) := show _ = _ by rw [TJ.out]; rfl
        clear hcs TK TJ
        generalize zs[k] = z at *
        generalize zs[j] = y at *
        generalize (Lab z.apex).length = pa at *
        generalize (Lab y.apex).length = pb at *
        have hneg : ¬ (j : Int) < 0 := by omega
        cases hp : psd addr ps z.apex with
        | false =>
          have HB2 := Lib.hid (bs_skip HB.out (fun e => by have := (CD.out.1 e).2; rw [hp] at this; cases this))
          rw [hp] at HPo
          clear hp CD HB
          go_upto_region 6 with (fail)
          have y0 : ∀ d os, (Sort.grow (redrawn wr d) os).cell? _ = some _ := cell_regrown x0
          have y1 : ∀ d os, (Sort.grow (redrawn wr d) os).cell? _ = some _ := cell_regrown x1
          clear x0 x1 e0 f0
          refine wp_region_quiet_below (by assumption) (by kernel_rfl) ?_
          repeat (go_big_quiet_step (first | (go_at_call 82; exact Calls.regrown_of (HPo.out _ (below_regrown _ _ _)))))
          refine wpQuiet_nil ?_
          intro w2 hw2
          have hb2 : Below wr.heap.size wr w2 := by obtain ⟨p, rfl⟩ := hw2; exact below_regrown _ _ _
          have L2 := Lib.hid (HL.out.trans (hb2.mono HL.out.size))
          have X2 := Lib.hid (HX.out.below hb2)
          clear hw2 y0 y1 hb2
          go_wp2
          go_roundw
          case rel => exact ⟨k + 1, j, by omega, by go_num, rfl, HB2.out, X2.out, L2.out⟩
          case measure => (simp [intOf] <;> omega)
        | true =>
          rw [hp] at HPo
          cases hu : Un nm z.apex with
          | false =>
            have HB2 := Lib.hid (bs_skip HB.out (fun e => by have := (CD.out.1 e).1; rw [hu] at this; cases this))
            rw [hu] at HU
            clear hu hp CD HB
            go_upto_region 6 with (fail)
            have y0 : ∀ d os, (Sort.grow (redrawn wr d) os).cell? _ = some _ := cell_regrown x0
            have y1 : ∀ d os, (Sort.grow (redrawn wr d) os).cell? _ = some _ := cell_regrown x1
            clear x0 x1 e0 f0
            refine wp_region_quiet_below (by assumption) (by kernel_rfl) ?_
            repeat (go_big_quiet_step (first | (go_at_call 82; exact Calls.regrown_of (HPo.out _ (below_regrown _ _ _))) | (go_at_call 79; exact Calls.regrown_of (HU.out _))))
            refine wpQuiet_nil ?_
            intro w2 hw2
            have hb2 : Below wr.heap.size wr w2 := by obtain ⟨p, rfl⟩ := hw2; exact below_regrown _ _ _
            have L2 := Lib.hid (HL.out.trans (hb2.mono HL.out.size))
            have X2 := Lib.hid (HX.out.below hb2)
            clear hw2 y0 y1 hb2
            go_wp2
            go_roundw
            case rel => exact ⟨k + 1, j, by omega, by go_num, rfl, HB2.out, X2.out, L2.out⟩
            case measure => (simp [intOf] <;> omega)
          | true =>
            have hcd : Cd nm (psd addr ps) (aps zs) k := CD.out.2 ⟨hu, hp⟩
            rw [hu] at HU
            clear hu hp CD
            by_cases hgt : pb < pa
            · have HB2 := Lib.hid (bs_more HB.out (by omega) hcd (by rw [Int.toNat_natCast, PK.out, PJ.out]; exact hgt))
              have hgz : (pa : Int) > (pb : Int) := by omega
              clear HB hcd
              go_upto_region 6 with (fail)
              have y0 : ∀ d os, (Sort.grow (redrawn wr d) os).cell? _ = some _ := cell_regrown x0
              have y1 : ∀ d os, (Sort.grow (redrawn wr d) os).cell? _ = some _ := cell_regrown x1
              have y3 : ∀ d os, (Sort.grow (redrawn wr d) os).cell? _ = some _ := cell_regrown f0
              clear x0 x1 e0 f0
              refine wp_region_quiet_below (by assumption) (by kernel_rfl) ?_
              iterate 15 (go_big_quiet_step (first | (go_at_call 82; exact Calls.regrown_of (HPo.out _ (below_regrown _ _ _))) | (go_at_call 79; exact Calls.regrown_of (HU.out _)) | (go_at_call 80; exact Calls.regrown_of (C1.out _))))
              repeat (go_big_quiet_step (first | (go_at_call 80; exact Calls.regrown_of (C2.out _))))
              refine wpQuiet_nil ?_
              intro w2 hw2
              have hb2 : Below wr.heap.size wr w2 := by obtain ⟨p, rfl⟩ := hw2; exact below_regrown _ _ _
              have L2 := Lib.hid (HL.out.trans (hb2.mono HL.out.size))
              have X2 := Lib.hid (HX.out.below hb2)
              clear hw2 y0 y1 y3 hb2
              go_wp2
              go_roundw
              case rel => exact ⟨k + 1, k, by omega, by go_num, rfl, HB2.out, X2.out, L2.out⟩
              case measure => (simp [intOf] <;> omega)
            · have HB2 := Lib.hid (bs_less HB.out (by omega) (by rw [Int.toNat_natCast, PK.out, PJ.out]; exact hgt))
              have hgz : ¬ (pa : Int) > (pb : Int) := by omega
              clear HB hcd
              go_upto_region 6 with (fail)
              have y0 : ∀ d os, (Sort.grow (redrawn wr d) os).cell? _ = some _ := cell_regrown x0
              have y1 : ∀ d os, (Sort.grow (redrawn wr d) os).cell? _ = some _ := cell_regrown x1
              have y3 : ∀ d os, (Sort.grow (redrawn wr d) os).cell? _ = some _ := cell_regrown f0
              clear x0 x1 e0 f0
              refine wp_region_quiet_below (by assumption) (by kernel_rfl) ?_
              iterate 15 (go_big_quiet_step (first | (go_at_call 82; exact Calls.regrown_of (HPo.out _ (below_regrown _ _ _))) | (go_at_call 79; exact Calls.regrown_of (HU.out _)) | (go_at_call 80; exact Calls.regrown_of (C1.out _))))
              repeat (go_big_quiet_step (first | (go_at_call 80; exact Calls.regrown_of (C2.out _))))
              refine wpQuiet_nil ?_
              intro w2 hw2
              have hb2 : Below wr.heap.size wr w2 := by obtain ⟨p, rfl⟩ := hw2; exact below_regrown _ _ _
              have L2 := Lib.hid (HL.out.trans (hb2.mono HL.out.size))
              have X2 := Lib.hid (HX.out.below hb2)
              clear hw2 y0 y1 y3 hb2
              go_wp2
              go_roundw
              case rel => exact ⟨k + 1, j, by omega, by go_num, rfl, HB2.out, X2.out, L2.out⟩
              case measure => (simp [intOf] <;> omega)
      · have hr0 : r < 0 := by omega
        clear hj0 hcs TK
        generalize zs[k] = z at *
        cases hp : psd addr ps z.apex with
        | false =>
          have HB2 := Lib.hid (bs_skip HB.out (fun e => by have := (CD.out.1 e).2; rw [hp] at this; cases this))
          rw [hp] at HPo
          clear hp CD HB
          go_upto_region 6 with (fail)
          have y0 : ∀ d os, (Sort.grow (redrawn wr d) os).cell? _ = some _ := cell_regrown x0
          have y1 : ∀ d os, (Sort.grow (redrawn wr d) os).cell? _ = some _ := cell_regrown x1
          clear x0 x1 e0
          refine wp_region_quiet_below (by assumption) (by kernel_rfl) ?_
          repeat (go_big_quiet_step (first | (go_at_call 82; exact Calls.regrown_of (HPo.out _ (below_regrown _ _ _)))))
          refine wpQuiet_nil ?_
          intro w2 hw2
          have hb2 : Below wr.heap.size wr w2 := by obtain ⟨p, rfl⟩ := hw2; exact below_regrown _ _ _
          have L2 := Lib.hid (HL.out.trans (hb2.mono HL.out.size))
          have X2 := Lib.hid (HX.out.below hb2)
          clear hw2 y0 y1 hb2
          go_wp2
          go_roundw
          case rel => exact ⟨k + 1, r, by omega, by go_num, rfl, HB2.out, X2.out, L2.out⟩
          case measure => (simp [intOf] <;> omega)
        | true =>
          rw [hp] at HPo
          cases hu : Un nm z.apex with
          | false =>
            have HB2 := Lib.hid (bs_skip HB.out (fun e => by have := (CD.out.1 e).1; rw [hu] at this; cases this))
            rw [hu] at HU
            clear hu hp CD HB
            go_upto_region 6 with (fail)
            have y0 : ∀ d os, (Sort.grow (redrawn wr d) os).cell? _ = some _ := cell_regrown x0
            have y1 : ∀ d os, (Sort.grow (redrawn wr d) os).cell? _ = some _ := cell_regrown x1
            clear x0 x1 e0
            refine wp_region_quiet_below (by assumption) (by kernel_rfl) ?_
            repeat (go_big_quiet_step (first | (go_at_call 82; exact Calls.regrown_of (HPo.out _ (below_regrown _ _ _))) | (go_at_call 79; exact Calls.regrown_of (HU.out _))))
            refine wpQuiet_nil ?_
            intro w2 hw2
            have hb2 : Below wr.heap.size wr w2 := by obtain ⟨p, rfl⟩ := hw2; exact below_regrown _ _ _
            have L2 := Lib.hid (HL.out.trans (hb2.mono HL.out.size))
            have X2 := Lib.hid (HX.out.below hb2)
            clear hw2 y0 y1 hb2
            go_wp2
            go_roundw
            case rel => exact ⟨k + 1, r, by omega, by go_num, rfl, HB2.out, X2.out, L2.out⟩
            case measure => (simp [intOf] <;> omega)
          | true =>
            have HB2 := Lib.hid (bs_first HB.out hr0 (CD.out.2 ⟨hu, hp⟩))
            rw [hu] at HU
            clear hu hp CD HB
            go_upto_region 6 with (fail)
            have y0 : ∀ d os, (Sort.grow (redrawn wr d) os).cell? _ = some _ := cell_regrown x0
            have y1 : ∀ d os, (Sort.grow (redrawn wr d) os).cell? _ = some _ := cell_regrown x1
            clear x0 x1 e0
            refine wp_region_quiet_below (by assumption) (by kernel_rfl) ?_
            repeat (go_big_quiet_step (first | (go_at_call 82; exact Calls.regrown_of (HPo.out _ (below_regrown _ _ _))) | (go_at_call 79; exact Calls.regrown_of (HU.out _))))
            refine wpQuiet_nil ?_
            intro w2 hw2
            have hb2 : Below wr.heap.size wr w2 := by obtain ⟨p, rfl⟩ := hw2; exact below_regrown _ _ _
            have L2 := Lib.hid (HL.out.trans (hb2.mono HL.out.size))
            have X2 := Lib.hid (HX.out.below hb2)
            clear hw2 y0 y1 hb2
            go_wp2
            go_roundw
            case rel => exact ⟨k + 1, k, by omega, by go_num, rfl, HB2.out, X2.out, L2.out⟩
            case measure => (simp [intOf] <;> omega)
    · obtain rfl : n = k := by omega
      have HF := Lib.hid (zo_of (by rw [aps_len, HS.out.1]; exact HB.out))
      go_wp2
      go_ret
      exact ⟨by rw [HF.out]; rfl, HL.out⟩
end Go.Proofs.YtmkcjjgicinggaaGreatDoor.ZonS
