/- What the law's own helpers eqPost, eqPostS, eqZoneS and eqForest do on name spaces that are the same: they return true and turn nothing. -/
import Derived.Test.YtmkcjjgicinggaaGreatDoorEqZ
import Derived.Test.YtmkcjjgicinggaaGreatDoorMemF
namespace Go.Proofs.YtmkcjjgicinggaaGreatDoor.EqF
open Go.RowKit Go.Proofs.YtmkcjjgicinggaaGreatDoor.Mem Go.Proofs.YtmkcjjgicinggaaGreatDoor.MemR Go.Proofs.YtmkcjjgicinggaaGreatDoor.BoxR Go.Proofs.YtmkcjjgicinggaaGreatDoor.MemZ Go.Proofs.YtmkcjjgicinggaaGreatDoor.MemF Go.Proofs.YtmkcjjgicinggaaGreatDoor.EqR Go.Proofs.YtmkcjjgicinggaaGreatDoor.EqZ

set_option maxHeartbeats 1000000 in
theorem eqPost_same (a : Int) (s : ByteArray) (w : World) : Calls Tryz.prog 145 #[.agg #[.int .i64 a, .string s], .agg #[.int .i64 a, .string s]] w fun e w' => e = .returned (.bool true) ∧ Below w.heap.size w w' := by
  go_enter Tryz.func145, Tryz.ntmps145
  go_wp2
  go_ret
  exact ⟨rfl, ((Below.refl _ _).alloc (Nat.le_refl _) _).alloc (by simp) _⟩

set_option maxHeartbeats 1000000 in
theorem eqPostS_same (A A' : Option Addr) (n c c' : Nat) (l : List Pst) (w : World) (hs : Rp w w.heap.size A n l) (hs' : Rp w w.heap.size A' n l) (hn : n ≤ 400000000) :
    Calls Tryz.prog 92 #[.slice A n c, .slice A' n c'] w fun e w' => e = .returned (.bool true) ∧ Below w.heap.size w w' := by
  have mixed : Tryz.prog.follows .mixedOrders = true := by kernel_rfl
  have hd : ((n : Int) != (n : Int)) = false := by simp
  have HS := Lib.hid hs
  have HT := Lib.hid hs'
  clear hs hs'
  go_enter Tryz.func92, Tryz.ntmps92
  go_wp2
  go_loopw [5] (fun i wr => ∃ k : Nat, k ≤ n ∧ i = .int .i64 k ∧ Hid (Below w.heap.size w wr)) (fun i _ => n - (intOf i).toNat)
  case atStart => exact ⟨0, Nat.zero_le _, rfl, Below.refl _ _⟩
  case round =>
    obtain ⟨k, hk, rfl, HL⟩ := hrel
    by_cases hlt : k < n
    · obtain ⟨b, off, rfl, hbB, hcs⟩ := HS.out.2 (by omega)
      obtain ⟨b', off', rfl, hbB', hcs'⟩ := HT.out.2 (by omega)
      have hkl : k < l.length := by rw [HS.out.1]; exact hlt
      have E := (hcs k hkl).below HL.out hbB
      have E' := (hcs' k hkl).below HL.out hbB'
      clear hcs hcs'
      generalize l[k] = r at *
      have x0 : ∀ d os, (Sort.grow (redrawn wr d) os).cell? _ = some _ := cell_regrown E.1
      have x1 : ∀ d os, (Sort.grow (redrawn wr d) os).cell? _ = some _ := cell_regrown E.2
      have y0 : ∀ d os, (Sort.grow (redrawn wr d) os).cell? _ = some _ := cell_regrown E'.1
      have y1 : ∀ d os, (Sort.grow (redrawn wr d) os).cell? _ = some _ := cell_regrown E'.2
      clear E E'
      go_wp2_with fail
      refine wp_region_quiet_below (by assumption) (by kernel_rfl) ?_
      repeat (quiet_step (first | (go_at_call 145; exact Calls.regrown_of (eqPost_same _ _ _))))
      refine wpQuiet_nil ?_
      intro w2 hw2
      have L2 := Lib.hid (HL.out.trans ((show Below wr.heap.size wr w2 by obtain ⟨p, rfl⟩ := hw2; exact below_regrown _ _ _).mono HL.out.size))
      clear hw2 x0 x1 y0 y1
      go_wp2
      go_roundw
      case rel => exact ⟨k + 1, by omega, by go_num, L2.out⟩
      case measure => simp [intOf]; omega
    · go_wp2
      go_ret
      exact ⟨rfl, HL.out⟩

theorem eqZone_at {w : World} {s : ByteArray} {A A' : Option Addr} {n n' c c' B : Nat} {z : Zn} (h : Sr w B A n z.l) (h' : Sr w B A' n' z.l) (hB : B ≤ w.heap.size) (hn : z.l.length ≤ 400000000) :
    ∀ W, Below w.heap.size w W → Calls Tryz.prog 144 #[.agg #[.string s, .slice A n c], .agg #[.string s, .slice A' n' c']] W fun e w' => e = .returned (.bool true) ∧ Below W.heap.size W w' := fun W hW => by
  obtain rfl : z.l.length = n := h.1
  obtain rfl : z.l.length = n' := h'.1
  exact eqZone_same s A A' _ c c' z.l W ((h.wider hB).on hW) ((h'.wider hB).on hW) hn

set_option maxHeartbeats 1000000 in
theorem eqZoneS_same (own own' : Prop) (A A' : Option Addr) (n c c' : Nat) (l : List Zn) (w : World) (hs : Rz own w w.heap.size A n l) (hs' : Rz own' w w.heap.size A' n l) (hn : n ≤ 400000000) (hz : ∀ z ∈ l, z.l.length ≤ 400000000) :
    Calls Tryz.prog 91 #[.slice A n c, .slice A' n c'] w fun e w' => e = .returned (.bool true) ∧ Below w.heap.size w w' := by
  have mixed : Tryz.prog.follows .mixedOrders = true := by kernel_rfl
  have hd : ((n : Int) != (n : Int)) = false := by simp
  have HS := Lib.hid hs
  have HT := Lib.hid hs'
  have HZ := Lib.hid hz
  clear hs hs' hz
  go_enter Tryz.func91, Tryz.ntmps91
  go_wp2
  go_loopw [5] (fun i wr => ∃ k : Nat, k ≤ n ∧ i = .int .i64 k ∧ Hid (Below w.heap.size w wr)) (fun i _ => n - (intOf i).toNat)
  case atStart => exact ⟨0, Nat.zero_le _, rfl, Below.refl _ _⟩
  case round =>
    obtain ⟨k, hk, rfl, HL⟩ := hrel
    by_cases hlt : k < n
    · obtain ⟨b, off, rfl, hbB, hcs⟩ := HS.out.2 (by omega)
      obtain ⟨b', off', rfl, hbB', hcs'⟩ := HT.out.2 (by omega)
      have hkl : k < l.length := by rw [HS.out.1]; exact hlt
      have E := (hcs k hkl).below HL.out hbB
      have E' := (hcs' k hkl).below HL.out hbB'
      have hzk := HZ.out _ (List.getElem_mem hkl)
      clear hcs hcs'
      generalize l[k] = r at *
      obtain ⟨E0, An, nn, cn, E1, ER, _⟩ := E
      obtain ⟨E0', An', nn', cn', E1', ER', _⟩ := E'
      have HC := Lib.hid (fun (s : ByteArray) => eqZone_at (s := s) (c := cn) (c' := cn') ER ER' HL.out.size hzk)
      have x0 : ∀ d os, (Sort.grow (redrawn wr d) os).cell? _ = some _ := cell_regrown E0
      have x1 : ∀ d os, (Sort.grow (redrawn wr d) os).cell? _ = some _ := cell_regrown E1
      have y0 : ∀ d os, (Sort.grow (redrawn wr d) os).cell? _ = some _ := cell_regrown E0'
      have y1 : ∀ d os, (Sort.grow (redrawn wr d) os).cell? _ = some _ := cell_regrown E1'
      clear E0 E1 ER E0' E1' ER' hzk
      go_wp2_with fail
      refine wp_region_quiet_below (by assumption) (by kernel_rfl) ?_
      repeat (quiet_step (first | (go_at_call 144; exact in_class (HC.out _))))
      refine wpQuiet_nil ?_
      intro w2 hw2
      have L2 := Lib.hid (HL.out.trans ((show Below wr.heap.size wr w2 by obtain ⟨p, rfl⟩ := hw2; exact below_regrown _ _ _).mono HL.out.size))
      clear hw2 x0 x1 y0 y1
      go_wp2
      go_roundw
      case rel => exact ⟨k + 1, by omega, by go_num, L2.out⟩
      case measure => simp [intOf]; omega
    · go_wp2
      go_ret
      exact ⟨rfl, HL.out⟩

set_option maxHeartbeats 2000000 in
theorem eqForest_same (own own' : Prop) (A A' P P' : Option Addr) (n c c' m d d' : Nat) (zs : List Zn) (ps : List Pst) (w : World) (hs : Sf own w A n zs P m ps) (ht : Sf own' w A' n zs P' m ps) (hn : n ≤ 400000000) (hm : m ≤ 400000000) (hz : ∀ z ∈ zs, z.l.length ≤ 400000000) :
    Calls Tryz.prog 38 #[.agg #[.slice A n c, .slice P m d], .agg #[.slice A' n c', .slice P' m d']] w fun e w' => e = .returned (.bool true) ∧ Below w.heap.size w w' := by
  have L0 := Lib.hid (((Below.refl w.heap.size w).alloc (Nat.le_refl _) (.cells #[.slice A n c, .slice P m d] 27)).alloc (by simp) (.cells #[.slice A' n c', .slice P' m d'] 27))
  have X0 := Lib.hid ((fx_new w 27 (.slice A n c) (.slice P m d)).alloc (.cells #[.slice A' n c', .slice P' m d'] 27))
  have Y0 := Lib.hid (fx_new (w.alloc (.cells #[.slice A n c, .slice P m d] 27)) 27 (.slice A' n c') (.slice P' m d'))
  have S0 := Lib.hid (hs.on L0.out)
  have T0 := Lib.hid (ht.on L0.out)
  have Z := Lib.hid hz
  clear hs ht hz
  obtain ⟨x0, x1⟩ := X0.out
  obtain ⟨y0, y1⟩ := Y0.out
  rw [show (w.alloc (.cells #[.slice A n c, .slice P m d] 27)).heap.size = w.heap.size + 1 by simp] at y0 y1 Y0
  go_enter Tryz.func38, Tryz.ntmps38
  go_wp2_with fail
  refine (eqZoneS_same own own' A A' n c c' zs _ S0.out.1 T0.out.1 hn Z.out).mono ?_
  rintro e w2 ⟨rfl, hl⟩
  have X2 := Lib.hid (X0.out.below hl)
  have Y2 := Lib.hid (Y0.out.below hl)
  have S2 := Lib.hid (S0.out.on hl)
  have T2 := Lib.hid (T0.out.on hl)
  have L2 := Lib.hid (L0.out.trans (hl.mono L0.out.size))
  clear hl L0 X0 Y0 S0 T0 x0 x1 y0 y1
  obtain ⟨x0, x1⟩ := X2.out
  obtain ⟨y0, y1⟩ := Y2.out
  go_wp2_with fail
  refine (eqPostS_same P P' m d d' ps _ S2.out.2 T2.out.2 hm).mono ?_
  rintro e w3 ⟨rfl, hl⟩
  have L3 := Lib.hid (L2.out.trans (hl.mono L2.out.size))
  clear hl L2 X2 Y2 S2 T2 x0 x1 y0 y1
  go_wp2
  go_ret
  exact ⟨rfl, L3.out⟩
end Go.Proofs.YtmkcjjgicinggaaGreatDoor.EqF
