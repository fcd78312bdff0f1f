/- What a question and a message that come in read as. -/
import Derived.Test.YtkfibepejlgniaaGreatDoorMemR
import Derived.Lib.QuietBelow
import Derived.Test.YtkfibepejlgniaaGreatDoorResM
import Derived.Test.YtkfibepejlgniaaGreatDoorMemS
import Derived.Laws.IdiomStrings
import Derived.Deep.QuietTactic
import Derived.BigQuiet
import Derived.Deep.RegionLaw
import Derived.Test.YtkfibepejlgniaaGreatDoorBoxR
import Derived.Deep.Slices
import Derived.Deep.Fields
import Derived.ChangeSame
import Derived.ProofKit
import Derived.OpenShut
import Derived.Test.YtkfibepejlgniaaGreatDoorMemM
/- What the law's own helpers eqRecord and eqRecordS do on records that are the same: they return true and turn nothing. Condition: fewer than 400000001 records. -/
namespace Go.Proofs.YtkfibepejlgniaaGreatDoor.EqR
open Go.RowKit Go.Proofs.YtkfibepejlgniaaGreatDoor.Mem Go.Proofs.YtkfibepejlgniaaGreatDoor.MemR

set_option maxHeartbeats 1000000 in
theorem eqRecord_same (r : Rec) (w : World) : Calls Tryz.prog 151 #[.agg #[.string r.name, .int .i64 r.ty, .int .i64 r.ttl, .int .i64 r.n, .string r.host, .string r.text], .agg #[.string r.name, .int .i64 r.ty, .int .i64 r.ttl, .int .i64 r.n, .string r.host, .string r.text]] w fun e w' => e = .returned (.bool true) ∧ Below w.heap.size w w' := by
  obtain ⟨name, ty, ttl, n, host, text⟩ := r
  simp only
  go_enter Tryz.func151, Tryz.ntmps151
  go_wp2
  go_ret
  exact ⟨rfl, ((Below.refl _ _).alloc (Nat.le_refl _) _).alloc (by simp) _⟩

set_option maxHeartbeats 1000000 in
theorem eqRecordS_same (A A' : Option Addr) (n c c' : Nat) (l : List Rec) (w : World) (hs : Sr w w.heap.size A n l) (hs' : Sr w w.heap.size A' n l) (hn : n ≤ 400000000) :
    Calls Tryz.prog 106 #[.slice A n c, .slice A' n c'] w fun e w' => e = .returned (.bool true) ∧ Below w.heap.size w w' := by
  have mixed : Tryz.prog.follows .mixedOrders = true := by kernel_rfl
  have hd : ((n : Int) != (n : Int)) = false := by simp
  have HS := Lib.hid hs
  have HT := Lib.hid hs'
  clear hs hs'
  go_enter Tryz.func106, Tryz.ntmps106
  go_wp2
  go_loopw [5] (fun i wr => ∃ k : Nat, k ≤ n ∧ i = .int .i64 k ∧ Hid (Below w.heap.size w wr)) (fun i _ => n - (intOf i).toNat)
  case atStart => exact ⟨0, Nat.zero_le _, rfl, Below.refl _ _⟩
  case round =>
    obtain ⟨k, hk, rfl, HL⟩ := hrel
    by_cases hlt : k < n
    · obtain ⟨b, off, rfl, hbB, hcs⟩ := HS.out.2 (by omega)
      obtain ⟨b', off', rfl, hbB', hcs'⟩ := HT.out.2 (by omega)
      have hkl : k < l.length := by rw [HS.out.1]; exact hlt
      have E := (hcs k hkl).below HL.out hbB
      have E' := (hcs' k hkl).below HL.out hbB'
      clear hcs hcs'
      generalize l[k] = r at *
      have x0 : ∀ d os, (Sort.grow (redrawn wr d) os).cell? _ = some _ := cell_regrown E.1
      have x1 : ∀ d os, (Sort.grow (redrawn wr d) os).cell? _ = some _ := cell_regrown E.2.1
      have x2 : ∀ d os, (Sort.grow (redrawn wr d) os).cell? _ = some _ := cell_regrown E.2.2.1
      have x3 : ∀ d os, (Sort.grow (redrawn wr d) os).cell? _ = some _ := cell_regrown E.2.2.2.1
      have x4 : ∀ d os, (Sort.grow (redrawn wr d) os).cell? _ = some _ := cell_regrown E.2.2.2.2.1
      have x5 : ∀ d os, (Sort.grow (redrawn wr d) os).cell? _ = some _ := cell_regrown E.2.2.2.2.2
      have y0 : ∀ d os, (Sort.grow (redrawn wr d) os).cell? _ = some _ := cell_regrown E'.1
      have y1 : ∀ d os, (Sort.grow (redrawn wr d) os).cell? _ = some _ := cell_regrown E'.2.1
      have y2 : ∀ d os, (Sort.grow (redrawn wr d) os).cell? _ = some _ := cell_regrown E'.2.2.1
      have y3 : ∀ d os, (Sort.grow (redrawn wr d) os).cell? _ = some _ := cell_regrown E'.2.2.2.1
      have y4 : ∀ d os, (Sort.grow (redrawn wr d) os).cell? _ = some _ := cell_regrown E'.2.2.2.2.1
      have y5 : ∀ d os, (Sort.grow (redrawn wr d) os).cell? _ = some _ := cell_regrown E'.2.2.2.2.2
      clear E E'
      go_wp2_with fail
      refine wp_region_quiet_below (by assumption) (by kernel_rfl) ?_
      repeat (quiet_step (first | (go_at_call 151; exact Calls.regrown_of (eqRecord_same _ _))))
      refine wpQuiet_nil ?_
      intro w2 hw2
      have L2 := Lib.hid (HL.out.trans ((show Below wr.heap.size wr w2 by obtain ⟨p, rfl⟩ := hw2; exact below_regrown _ _ _).mono HL.out.size))
      clear hw2 x0 x1 x2 x3 x4 x5 y0 y1 y2 y3 y4 y5
      go_wp2
      go_roundw
      case rel => exact ⟨k + 1, by omega, by go_num, L2.out⟩
      case measure => simp [intOf]; omega
    · go_wp2
      go_ret
      exact ⟨rfl, HL.out⟩

end Go.Proofs.YtkfibepejlgniaaGreatDoor.EqR

/- What the law's own helpers eqQuest and eqMsg do on messages that are the same: they return true and turn nothing. Condition: fewer than 400000001 records in each section. -/
namespace Go.Proofs.YtkfibepejlgniaaGreatDoor.EqM
open Go.RowKit Go.Proofs.YtkfibepejlgniaaGreatDoor.Mem Go.Proofs.YtkfibepejlgniaaGreatDoor.MemR Go.Proofs.YtkfibepejlgniaaGreatDoor.BoxR Go.Proofs.YtkfibepejlgniaaGreatDoor.MemM Go.Proofs.YtkfibepejlgniaaGreatDoor.EqR Go.Proofs.YtkfibepejlgniaaGreatDoor.ResM

set_option maxHeartbeats 1000000 in
theorem eqQuest_same (s : ByteArray) (n : Int) (w : World) : Calls Tryz.prog 105 #[.agg #[.string s, .int .i64 n], .agg #[.string s, .int .i64 n]] w fun e w' => e = .returned (.bool true) ∧ Below w.heap.size w w' := by
  go_enter Tryz.func105, Tryz.ntmps105
  go_wp2
  go_ret
  exact ⟨rfl, ((Below.refl _ _).alloc (Nat.le_refl _) _).alloc (by simp) _⟩

set_option maxHeartbeats 4000000 in
theorem eqMsg_same (h : Hd) (A1 A1' : Option Addr) (n1 c1 c1' : Nat) (l1 : List Rec) (A2 A2' : Option Addr) (n2 c2 c2' : Nat) (l2 : List Rec) (A3 A3' : Option Addr) (n3 c3 c3' : Nat) (l3 : List Rec) (w : World)
    (s1 : Sr w w.heap.size A1 n1 l1) (t1 : Sr w w.heap.size A1' n1 l1) (m1 : n1 ≤ 400000000) (s2 : Sr w w.heap.size A2 n2 l2) (t2 : Sr w w.heap.size A2' n2 l2) (m2 : n2 ≤ 400000000) (s3 : Sr w w.heap.size A3 n3 l3) (t3 : Sr w w.heap.size A3' n3 l3) (m3 : n3 ≤ 400000000) :
    Calls Tryz.prog 46 #[.agg #[.int .i64 h.id, .bool h.rp, .bool h.au, .bool h.ct, .bool h.wa, .bool h.ca, .int .i64 h.code, .string h.qn, .int .i64 h.qt, .slice A1 n1 c1, .slice A2 n2 c2, .slice A3 n3 c3], .agg #[.int .i64 h.id, .bool h.rp, .bool h.au, .bool h.ct, .bool h.wa, .bool h.ca, .int .i64 h.code, .string h.qn, .int .i64 h.qt, .slice A1' n1 c1', .slice A2' n2 c2', .slice A3' n3 c3']] w fun e w' => e = .returned (.bool true) ∧ Below w.heap.size w w' := by
  have L0 := Lib.hid (((Below.refl w.heap.size w).alloc (Nat.le_refl _) (.cells #[.int .i64 h.id, .bool h.rp, .bool h.au, .bool h.ct, .bool h.wa, .bool h.ca, .int .i64 h.code, .string h.qn, .int .i64 h.qt, .slice A1 n1 c1, .slice A2 n2 c2, .slice A3 n3 c3] 28)).alloc (by simp) (.cells #[.int .i64 h.id, .bool h.rp, .bool h.au, .bool h.ct, .bool h.wa, .bool h.ca, .int .i64 h.code, .string h.qn, .int .i64 h.qt, .slice A1' n1 c1', .slice A2' n2 c2', .slice A3' n3 c3'] 28))
  have X0 := Lib.hid ((mx_new w 28 h (.slice A1 n1 c1) (.slice A2 n2 c2) (.slice A3 n3 c3)).alloc (.cells #[.int .i64 h.id, .bool h.rp, .bool h.au, .bool h.ct, .bool h.wa, .bool h.ca, .int .i64 h.code, .string h.qn, .int .i64 h.qt, .slice A1' n1 c1', .slice A2' n2 c2', .slice A3' n3 c3'] 28))
  have Y0 := Lib.hid (mx_of (h := h) (x := .slice A1' n1 c1') (y := .slice A2' n2 c2') (z := .slice A3' n3 c3') (at2 (w := w) (a := .cells #[.int .i64 h.id, .bool h.rp, .bool h.au, .bool h.ct, .bool h.wa, .bool h.ca, .int .i64 h.code, .string h.qn, .int .i64 h.qt, .slice A1 n1 c1, .slice A2 n2 c2, .slice A3 n3 c3] 28) (cs := #[.int .i64 h.id, .bool h.rp, .bool h.au, .bool h.ct, .bool h.wa, .bool h.ca, .int .i64 h.code, .string h.qn, .int .i64 h.qt, .slice A1' n1 c1', .slice A2' n2 c2', .slice A3' n3 c3']) (t := 28)))
  have S0 := Lib.hid (s1.on L0.out)
  have T0 := Lib.hid (s2.on L0.out)
  have U0 := Lib.hid (s3.on L0.out)
  have I0 := Lib.hid (t1.on L0.out)
  have J0 := Lib.hid (t2.on L0.out)
  have K0 := Lib.hid (t3.on L0.out)
  clear s1 s2 s3 t1 t2 t3
  go_enter Tryz.func46, Tryz.ntmps46
  go_wp2_with fail
  refine (eqQuest_same h.qn h.qt _).mono ?_
  rintro e w1 ⟨rfl, hl⟩
  have L1 := Lib.hid (L0.out.trans (hl.mono L0.out.size))
  have X1 := Lib.hid (X0.out.below hl)
  have Y1 := Lib.hid (Y0.out.below hl)
  have S1 := Lib.hid (S0.out.on hl)
  have T1 := Lib.hid (T0.out.on hl)
  have U1 := Lib.hid (U0.out.on hl)
  have I1 := Lib.hid (I0.out.on hl)
  have J1 := Lib.hid (J0.out.on hl)
  have K1 := Lib.hid (K0.out.on hl)
  clear hl L0 X0 Y0 S0 T0 U0 I0 J0 K0 
  obtain ⟨x0, x1, x2, x3, x4, x5, x6, x7, x8, x9, x10, x11⟩ := X1.out
  obtain ⟨y0, y1, y2, y3, y4, y5, y6, y7, y8, y9, y10, y11⟩ := Y1.out
  go_wp2_with fail
  refine (eqRecordS_same A1 A1' n1 c1 c1' l1 w1 S1.out I1.out m1).mono ?_
  rintro e w2 ⟨rfl, hl⟩
  have L2 := Lib.hid (L1.out.trans (hl.mono L1.out.size))
  have X2 := Lib.hid (X1.out.below hl)
  have Y2 := Lib.hid (Y1.out.below hl)
  have T2 := Lib.hid (T1.out.on hl)
  have U2 := Lib.hid (U1.out.on hl)
  have J2 := Lib.hid (J1.out.on hl)
  have K2 := Lib.hid (K1.out.on hl)
  clear hl L1 X1 Y1 S1 T1 U1 I1 J1 K1 x0 x1 x2 x3 x4 x5 x6 x7 x8 x9 x10 x11 y0 y1 y2 y3 y4 y5 y6 y7 y8 y9 y10 y11
  obtain ⟨x0, x1, x2, x3, x4, x5, x6, x7, x8, x9, x10, x11⟩ := X2.out
  obtain ⟨y0, y1, y2, y3, y4, y5, y6, y7, y8, y9, y10, y11⟩ := Y2.out
  go_wp2_with fail
  refine (eqRecordS_same A2 A2' n2 c2 c2' l2 w2 T2.out J2.out m2).mono ?_
  rintro e w3 ⟨rfl, hl⟩
  have L3 := Lib.hid (L2.out.trans (hl.mono L2.out.size))
  have X3 := Lib.hid (X2.out.below hl)
  have Y3 := Lib.hid (Y2.out.below hl)
  have U3 := Lib.hid (U2.out.on hl)
  have K3 := Lib.hid (K2.out.on hl)
  clear hl L2 X2 Y2 T2 U2 J2 K2 x0 x1 x2 x3 x4 x5 x6 x7 x8 x9 x10 x11 y0 y1 y2 y3 y4 y5 y6 y7 y8 y9 y10 y11
  obtain ⟨x0, x1, x2, x3, x4, x5, x6, x7, x8, x9, x10, x11⟩ := X3.out
  obtain ⟨y0, y1, y2, y3, y4, y5, y6, y7, y8, y9, y10, y11⟩ := Y3.out
  go_wp2_with fail
  refine (eqRecordS_same A3 A3' n3 c3 c3' l3 w3 U3.out K3.out m3).mono ?_
  rintro e w4 ⟨rfl, hl⟩
  have L4 := Lib.hid (L3.out.trans (hl.mono L3.out.size))
  clear hl L3 X3 Y3 U3 K3 x0 x1 x2 x3 x4 x5 x6 x7 x8 x9 x10 x11 y0 y1 y2 y3 y4 y5 y6 y7 y8 y9 y10 y11
  go_wp2
  go_ret
  exact ⟨rfl, L4.out⟩
end Go.Proofs.YtkfibepejlgniaaGreatDoor.EqM

/- What the law's own helpers markText, markStringS and heldStringS do: a text for each number; every element becomes the text of its number; they are found again. Condition: fewer than 2000001 texts. -/
namespace Go.Proofs.YtkfibepejlgniaaGreatDoor.MarkS
open Go.RowKit Go.Proofs.YtkfibepejlgniaaGreatDoor.Mem Go.Proofs.YtkfibepejlgniaaGreatDoor.MemS

/-- The last digit of v. -/
def dg (v : Nat) : UInt8 := UInt8.ofNat (48 + v % 10)
theorem dg_cell (v : Nat) : ((dg v).toNat : Int) = 48 + (v : Int) % 10 := by
  unfold dg
  rw [UInt8.toNat_ofNat_of_lt' (by simp [UInt8.size]; omega)]
  omega
/-- The digits of v, none for 0, in at most so many rounds. -/
def dsf : Nat → Nat → List UInt8
  | 0, _ => []
  | f + 1, v => if v = 0 then [] else dsf f (v / 10) ++ [dg v]
theorem dsf_same : ∀ (f g v : Nat), v ≤ f → v ≤ g → dsf f v = dsf g v
  | 0, 0, _, _, _ => rfl
  | 0, g + 1, v, h, _ => by rw [dsf, dsf, if_pos (by omega)]
  | f + 1, 0, v, _, h => by rw [dsf, dsf, if_pos (by omega)]
  | f + 1, g + 1, v, h1, h2 => by
    rw [dsf, dsf]
    by_cases h : v = 0
    · rw [if_pos h, if_pos h]
    · rw [if_neg h, if_neg h, dsf_same f g (v / 10) (by omega) (by omega)]
/-- The digits of v, none for 0. -/
def ds (v : Nat) : List UInt8 := dsf v v
theorem ds_zero : ds 0 = [] := rfl
theorem ds_step (v : Nat) (h : v ≠ 0) : ds v = ds (v / 10) ++ [dg v] := by
  obtain ⟨n, rfl⟩ : ∃ n, v = n + 1 := ⟨v - 1, by omega⟩
  rw [ds, ds, dsf, if_neg h, dsf_same n ((n + 1) / 10) ((n + 1) / 10) (by omega) (Nat.le_refl _)]
theorem ds_len (v : Nat) : (ds v).length ≤ v := by
  induction v using Nat.strongRecOn with
  | ind v ih =>
    by_cases h : v = 0
    · subst h; rw [ds_zero]; simp
    · rw [ds_step v h, List.length_append]
      have := ih (v / 10) (by omega)
      simp
      omega
theorem ds_tenth (v : Nat) : (ds v).length ≤ v / 10 + 1 := by
  by_cases h : v = 0
  · subst h; rw [ds_zero]; simp
  · rw [ds_step v h, List.length_append]
    have := ds_len (v / 10)
    simp
    omega
/-- The text of a number. A def, so that no step of a walk opens it. -/
def Mt (v : Nat) : ByteArray := ⟨(109 :: ds v).toArray⟩

/-- One byte in a new block, made a string. -/
theorem back (P : Program) (w : World) {src dst e : TypeId} (x : UInt8) (hs : P.underlying src = some (.slice e)) (he : P.underlying e = some (.int .u8)) (hd : P.underlying dst = some .string) :
    (convert src dst (.slice (some ⟨w.heap.size, 0, none⟩) 1 1)).run P (w.alloc (.cells #[.int .u8 (x.toNat : Int)] e)) = .ok (.string ⟨[x].toArray⟩) (w.alloc (.cells #[.int .u8 (x.toNat : Int)] e)) := by
  refine run_convert_bytes_back _ src dst e ⟨w.heap.size, 0, none⟩ 1 [x] hs he hd fun j hj => ?_
  have hj0 : j = 0 := by simp at hj; exact hj
  subst hj0
  rw [Addr.add_lit]
  have hb : Bk (w.alloc (.cells #[.int .u8 (x.toNat : Int)] e)) w.heap.size e [.int .u8 (x.toNat : Int)] := heap_alloc_new w _
  rw [hb.cell]
  rfl

set_option maxHeartbeats 400000 in
theorem markText_any (u : Nat) (h0 : 0 < u) (h1 : u ≤ 20000000) (w : World) :
    Calls Tryz.prog 152 #[.int .i64 (u : Int)] w fun e w' => e = .returned (.string (Mt u)) ∧ Below w.heap.size w w' := by
  have hz : ¬ (u : Int) ≤ 0 := by omega
  go_enter Tryz.func152, Tryz.ntmps152
  go_wp2
  go_loopw [0, 3] (fun x s wr => ∃ (v : Nat) (acc : List UInt8), v ≤ u ∧ x = .int .i64 (v : Int) ∧ s = .string ⟨acc.toArray⟩ ∧ Hid (ds v ++ acc = ds u) ∧ Hid (Below w.heap.size w wr)) (fun x _ _ => (intOf x).toNat)
  case atStart => exact ⟨u, [], Nat.le_refl _, rfl, rfl, by show _ = _; rw [List.append_nil], Below.refl _ _⟩
  case round =>
    obtain ⟨v, acc, hv, rfl, rfl, HA, HB⟩ := hrel
    have hsum : ((acc.length : Int)) ≤ 8388608 := by
      have h2 := ds_tenth u
      rw [← HA.out, List.length_append] at h2
      omega
    by_cases hv0 : v = 0
    · have hacc : Hid (acc = ds u) := by show _ = _; rw [← HA.out, hv0, ds_zero]; rfl
      have hle : ¬ (0 : Int) < (v : Int) := by omega
      have hcat := fun w => run_string_add_lists (P := Tryz.prog) w [109] acc (by simp) hsum
      clear hv0
      go_wp2
      go_ret
      exact ⟨by rw [hacc.out]; rfl, HB.out⟩
    · have hvp : 0 < v := by omega
      have hconv := fun w => back Tryz.prog w (dg v) Tryz.underlying22 Tryz.underlying5 Tryz.underlying9
      have hcat := fun w => run_string_add_lists (P := Tryz.prog) w [dg v] acc (by simp) hsum
      rw [dg_cell] at hconv
      go_wp2
      go_roundw
      case rel => exact ⟨v / 10, dg v :: acc, by omega, by go_num, rfl, by show _ = _; rw [← HA.out, ds_step v hv0, List.append_assoc]; rfl, HB.out.alloc HB.out.size _⟩
      case measure => simp [intOf]; omega

/-- The texts that markStringS lays: those of k, k + 1 and so on. -/
def marks : Nat → Nat → List ByteArray
  | _, 0 => []
  | k, n + 1 => Mt k :: marks (k + 1) n
theorem marks_length (k n : Nat) : (marks k n).length = n := by
  induction n generalizing k with
  | zero => rfl
  | succ n ih => simp [marks, ih]
theorem marks_at (k n j : Nat) (h : j < n) : (marks k n)[j]? = some (Mt (k + j)) := by
  induction n generalizing k j with
  | zero => omega
  | succ n ih =>
    cases j with
    | zero => simp [marks]
    | succ j => simp only [marks, List.getElem?_cons_succ]; rw [ih (k + 1) j (by omega), show k + 1 + j = k + (j + 1) by omega]
theorem marks_snoc (k n : Nat) : marks k (n + 1) = marks k n ++ [Mt (k + n)] := by
  induction n generalizing k with
  | zero => simp [marks]
  | succ n ih => rw [marks, ih (k + 1), marks, List.cons_append, show k + 1 + n = k + (n + 1) by omega]
theorem mark_step (cs : List Value) (k j n : Nat) (hj : j < n) (hn : n ≤ cs.length) :
    ((marks k j).map tv ++ cs.drop j).set j (Value.string (Mt (k + j))) = (marks k (j + 1)).map tv ++ cs.drop (j + 1) := by
  rw [List.set_append_right _ _ (by rw [List.length_map, marks_length]; omega), List.length_map, marks_length, Nat.sub_self, List.drop_eq_getElem_cons (by omega), List.set_cons_zero, marks_snoc, List.map_append, List.append_assoc]
  rfl
theorem mark_at (cs : List Value) (k j : Nat) (hj : j < cs.length) : ((marks k j).map tv ++ cs.drop j)[j]? = some cs[j] := by
  rw [List.getElem?_append_right (by rw [List.length_map, marks_length]; omega), List.length_map, marks_length, Nat.sub_self, List.drop_eq_getElem_cons hj]
  rfl
theorem grown_of_below {w w' : World} (h : Below w.heap.size w w') (r : Option Nat) : w.grownBy w' r := ⟨h.os, h.tape, h.output, h.size, fun k hk _ => h.block k hk⟩
theorem grown_trans {a b d : World} {r : Option Nat} (h : a.grownBy b r) (k : b.grownBy d r) : a.grownBy d r :=
  ⟨k.os.trans h.os, k.tape.trans h.tape, k.output.trans h.output, Nat.le_trans h.size k.size, fun i hi hne => (k.block i (Nat.lt_of_lt_of_le hi h.size) hne).trans (h.block i hi hne)⟩
theorem grown_set {w wr : World} {g : Nat} (h : w.grownBy wr (some g)) (j : Nat) (u : Value) : w.grownBy (wr.setCell ⟨g, j, none⟩ u) (some g) :=
  ⟨h.os, h.tape, h.output, by simpa [World.setCell] using h.size, fun k hk hne => by
    rw [Below.heap_setCell _ _ _ _ (fun e => hne (by simp [e]))]; exact h.block k hk hne⟩

end Go.Proofs.YtkfibepejlgniaaGreatDoor.MarkS

/- What the law's own helpers markRecordS and heldRecordS do: every field of every record is overwritten by a mark of its own; and the marks are found. Condition: fewer than 2000001 records. -/
namespace Go.Proofs.YtkfibepejlgniaaGreatDoor.MarkR
open Go.RowKit Go.Proofs.YtkfibepejlgniaaGreatDoor.Mem Go.Proofs.YtkfibepejlgniaaGreatDoor.MemR Go.Proofs.YtkfibepejlgniaaGreatDoor.MarkS Go.Proofs.YtkfibepejlgniaaGreatDoor.BoxR

/-- The record of marks from u on. -/
def mr (u : Nat) : Rec := ⟨Mt u, (u : Int) + 1, (u : Int) + 1 + 1, (u : Int) + 1 + 1 + 1, Mt (u + 4), Mt (u + 5)⟩
/-- So many of them. -/
def mks (n : Nat) : List Rec := (List.range n).map (fun j => mr (1 + 6 * j))
theorem mks_len (n : Nat) : (mks n).length = n := by simp [mks]
theorem mks_at (n j : Nat) (h : j < (mks n).length) : (mks n)[j] = mr (1 + 6 * j) := by simp [mks]
theorem mks_snoc (n : Nat) : mks (n + 1) = mks n ++ [mr (1 + 6 * n)] := by simp [mks, List.range_succ]
theorem mid_at (l : List Rec) (j : Nat) (h : j < l.length) : ∃ h' : j < (mks j ++ l.drop j).length, (mks j ++ l.drop j)[j] = l[j] := by
  refine ⟨by rw [List.length_append, mks_len, List.length_drop]; omega, ?_⟩
  rw [List.getElem_append_right (by rw [mks_len]; omega), List.getElem_drop]
  congr 1
  rw [mks_len]
  omega
theorem mid_set (l : List Rec) (j : Nat) (h : j < l.length) : (mks j ++ l.drop j).set j (mr (1 + 6 * j)) = mks (j + 1) ++ l.drop (j + 1) := by
  rw [List.set_append_right _ _ (by rw [mks_len]; omega), mks_len, Nat.sub_self, List.drop_eq_getElem_cons h, List.set_cons_zero, mks_snoc, List.append_assoc]
  rfl
theorem mid_len (l : List Rec) (j : Nat) (h : j ≤ l.length) : (mks j ++ l.drop j).length = l.length := by
  rw [List.length_append, mks_len, List.length_drop]; omega
theorem set_left (X r : List Value) (i : Nat) (u : Value) (h : i < X.length) : (X ++ r).set i u = X.set i u ++ r := List.set_append_left _ _ h
theorem put_r (L : List Rec) (r : List Value) (k : Nat) (x : Rec) (h : k < L.length) :
    ((((((fl L ++ r).set (k * 6) (.string x.name)).set (k * 6 + 1) (.int .i64 x.ty)).set (k * 6 + 2) (.int .i64 x.ttl)).set (k * 6 + 3) (.int .i64 x.n)).set (k * 6 + 4) (.string x.host)).set (k * 6 + 5) (.string x.text) = fl (L.set k x) ++ r := by
  have hl := fl_len L
  rw [set_left _ _ _ _ (by omega), set_left _ _ _ _ (by simp; omega), set_left _ _ _ _ (by simp; omega), set_left _ _ _ _ (by simp; omega), set_left _ _ _ _ (by simp; omega), set_left _ _ _ _ (by simp; omega), fl_put L k x h]

set_option maxHeartbeats 4000000 in
theorem markRecordS_one (g n c : Nat) (l : List Rec) (r : List Value) (w : World) (hb : Bk w g 117 (fl l ++ r)) (hl : l.length = n) (hn : n ≤ 2000000) :
    Calls Tryz.prog 107 #[.slice (some ⟨g, 0, none⟩) n c, .int .i64 1] w fun e w' => e = .returned (.int .i64 (1 + 6 * (n : Int))) ∧ Bk w' g 117 (fl (mks n) ++ r) ∧ w.grownBy w' (some g) := by
  have HB := Lib.hid hb
  have HL := Lib.hid hl
  clear hb hl
  go_enter Tryz.func107, Tryz.ntmps107
  go_wp2
  go_loopw [1, 5] (fun kk i wr => ∃ j u : Nat, j ≤ n ∧ i = .int .i64 j ∧ kk = .int .i64 (u : Int) ∧ Hid (u = 1 + 6 * j) ∧ Hid (Bk wr g 117 (fl (mks j ++ l.drop j) ++ r)) ∧ Hid (w.grownBy wr (some g))) (fun _ i _ => n - (intOf i).toNat)
  case atStart => exact ⟨0, 1, Nat.zero_le _, rfl, rfl, rfl, HB.out, World.grownBy.refl _ _⟩
  case round =>
    clear HB
    obtain ⟨j, u, hj, rfl, rfl, HU, HJ, HG⟩ := hrel
    have hu : u ≤ 12000001 := by have := HU.out; omega
    by_cases hlt : j < n
    · have hu0 : 0 < u := by have := HU.out; omega
      have hjl : j < l.length := by rw [HL.out]; exact hlt
      have HM := Lib.hid (mid_set l j hjl)
      have hML : j < (mks j ++ l.drop j).length := (mid_at l j hjl).1
      generalize mks j ++ l.drop j = M at *
      go_wp2_with fail
      refine (markText_any u hu0 (by omega) wr).mono ?_
      rintro e w1 ⟨rfl, hl1⟩
      have B1 := Lib.hid (HJ.out.below hl1 HJ.out.lt)
      have G1 := Lib.hid (grown_trans HG.out (grown_of_below hl1 (some g)))
      clear hl1 HJ HG
      obtain ⟨z0, z1, z2, z3, z4, z5⟩ := bk_ce B1.out j hML
      have f0 := B1.out.free (j * 6)
      have f1 := B1.out.free (j * 6 + 1)
      have f2 := B1.out.free (j * 6 + 2)
      have f3 := B1.out.free (j * 6 + 3)
      have Z4 : Hid ((fl M ++ r)[j * 6 + 4]? = some (.string M[j].host)) := (B1.out.cell (j * 6 + 4)).symm.trans z4
      have Z5 : Hid ((fl M ++ r)[j * 6 + 5]? = some (.string M[j].text)) := (B1.out.cell (j * 6 + 5)).symm.trans z5
      clear z4 z5
      have B2 := Lib.hid ((((B1.out.set (j * 6) (.string (Mt u))).set (j * 6 + 1) (.int .i64 ((u : Int) + 1))).set (j * 6 + 2) (.int .i64 ((u : Int) + 1 + 1))).set (j * 6 + 3) (.int .i64 ((u : Int) + 1 + 1 + 1)))
      have G2 := Lib.hid (grown_set (grown_set (grown_set (grown_set G1.out (j * 6) (.string (Mt u))) (j * 6 + 1) (.int .i64 ((u : Int) + 1))) (j * 6 + 2) (.int .i64 ((u : Int) + 1 + 1))) (j * 6 + 3) (.int .i64 ((u : Int) + 1 + 1 + 1)))
      have e4 : (u : Int) + 1 + 1 + 1 + 1 = ((u + 4 : Nat) : Int) := by omega
      have E4 := Lib.hid e4
      clear e4
      go_wp2_with fail
      rw [E4.out]
      refine (markText_any (u + 4) (by omega) (by omega) _).mono ?_
      rintro e w3 ⟨rfl, hl3⟩
      have B3 := Lib.hid (B2.out.below hl3 B2.out.lt)
      have G3 := Lib.hid (grown_trans G2.out (grown_of_below hl3 (some g)))
      clear hl3 B2 G2 z0 z1 z2 z3 f0 f1 f2 f3 B1 G1
      have z4 : w3.cell? ⟨g, j * 6 + 4, none⟩ = some (.string M[j].host) := by
        rw [B3.out.cell, List.getElem?_set_ne (by omega), List.getElem?_set_ne (by omega), List.getElem?_set_ne (by omega), List.getElem?_set_ne (by omega)]
        exact Z4.out
      have f4 := B3.out.free (j * 6 + 4)
      have B4 := Lib.hid (B3.out.set (j * 6 + 4) (.string (Mt (u + 4))))
      have G4 := Lib.hid (grown_set G3.out (j * 6 + 4) (.string (Mt (u + 4))))
      go_wp2_with fail
      have e5 : Hid ((u : Int) + 4 + 1 = ((u + 5 : Nat) : Int)) := show _ = _ by omega
      rw [e5.out]
      refine (markText_any (u + 5) (by omega) (by omega) _).mono ?_
      rintro e w5 ⟨rfl, hl5⟩
      have B5 := Lib.hid (B4.out.below hl5 B4.out.lt)
      have G5 := Lib.hid (grown_trans G4.out (grown_of_below hl5 (some g)))
      clear hl5 B3 G3 B4 G4 z4 f4
      have z5 : w5.cell? ⟨g, j * 6 + 5, none⟩ = some (.string M[j].text) := by
        rw [B5.out.cell, List.getElem?_set_ne (by omega), List.getElem?_set_ne (by omega), List.getElem?_set_ne (by omega), List.getElem?_set_ne (by omega), List.getElem?_set_ne (by omega)]
        exact Z5.out
      have f5 := B5.out.free (j * 6 + 5)
      have B6 := Lib.hid (B5.out.set (j * 6 + 5) (.string (Mt (u + 5))))
      have G6 := Lib.hid (grown_set G5.out (j * 6 + 5) (.string (Mt (u + 5))))
      go_wp2
      go_roundw
      case rel =>
        refine ⟨j + 1, u + 6, by omega, by go_num, by go_num, show _ = _ by have := HU.out; omega, ?_, G6.out⟩
        show Bk _ _ _ _
        have h := B6.out
        have hp := put_r M r j (mr u) hML
        have hq : mr u = mr (1 + 6 * j) := by rw [HU.out]
        rw [hq, HM.out, ← hq] at hp
        have hx := hp.symm
        rw [hx]
        exact h
      case measure => simp [intOf]; omega
    · have hje : j = n := by omega
      subst hje
      go_wp2
      go_ret
      refine ⟨?_, ?_, HG.out⟩
      · rw [HU.out]
        push_cast
        rfl
      · have h := HJ.out
        rw [List.drop_eq_nil_of_le (by rw [HL.out]; exact Nat.le_refl _), List.append_nil] at h
        exact h

theorem mark_at (z : Int) (v : Nat) (hz : z = (v : Int)) (h0 : 0 < v) (h1 : v ≤ 20000000) (w : World) :
    Calls Tryz.prog 152 #[.int .i64 z] w fun e w' => e = .returned (.string (Mt v)) ∧ Below w.heap.size w w' := by
  subst hz
  exact markText_any v h0 h1 w

set_option maxHeartbeats 4000000 in
theorem heldRecordS_one (g n c : Nat) (r : List Value) (w : World) (hb : Bk w g 117 (fl (mks n) ++ r)) (hn : n ≤ 2000000) :
    Calls Tryz.prog 108 #[.slice (some ⟨g, 0, none⟩) n c, .int .i64 1] w fun e w' => e = .returned (.int .i64 (1 + 6 * (n : Int))) ∧ Below w.heap.size w w' := by
  have mixed : Tryz.prog.follows .mixedOrders = true := by kernel_rfl
  have HB := Lib.hid hb
  clear hb
  go_enter Tryz.func108, Tryz.ntmps108
  go_wp2
  go_loopw [1, 5] (fun kk i wr => ∃ j u : Nat, j ≤ n ∧ i = .int .i64 j ∧ kk = .int .i64 (u : Int) ∧ Hid (u = 1 + 6 * j) ∧ Hid (Below w.heap.size w wr)) (fun _ i _ => n - (intOf i).toNat)
  case atStart => exact ⟨0, 1, Nat.zero_le _, rfl, rfl, rfl, Below.refl _ _⟩
  case round =>
    obtain ⟨j, u, hj, rfl, rfl, HU, HG⟩ := hrel
    have hu : u ≤ 12000001 := by have := HU.out; omega
    by_cases hlt : j < n
    · have hu0 : 0 < u := by have := HU.out; omega
      have hjl : j < (mks n).length := by rw [mks_len]; exact hlt
      have C : Hid (Ce wr g (j * 6) (mr u)) := by
        have h := bk_ce (HB.out.below HG.out HB.out.lt) j hjl
        rw [mks_at n j hjl, ← HU.out] at h
        exact h
      have x0 : ∀ d os, (Sort.grow (redrawn wr d) os).cell? ⟨g, j * 6, none⟩ = some (.string (Mt u)) := cell_regrown C.out.1
      go_wp2_with fail
      refine wp_region_quiet_below (by assumption) (by kernel_rfl) ?_
      repeat (quiet_step (first | (go_at_call 152; exact in_class (fun W _ => markText_any u hu0 (by omega) W))))
      refine wpQuiet_nil ?_
      intro w2 hw2
      have L2 := Lib.hid (of_class hw2)
      clear hw2 x0
      have C2 : Hid (Ce w2 g (j * 6) (mr u)) := C.out.below L2.out (Nat.lt_of_lt_of_le HB.out.lt HG.out.size)
      have G2 := Lib.hid (HG.out.trans (L2.out.mono HG.out.size))
      clear L2 C HG
      have z1 : w2.cell? ⟨g, j * 6 + 1, none⟩ = some (.int .i64 ((u : Int) + 1)) := C2.out.2.1
      have z2 : w2.cell? ⟨g, j * 6 + 2, none⟩ = some (.int .i64 ((u : Int) + 1 + 1)) := C2.out.2.2.1
      have z3 : w2.cell? ⟨g, j * 6 + 3, none⟩ = some (.int .i64 ((u : Int) + 1 + 1 + 1)) := C2.out.2.2.2.1
      have x4 : ∀ d os, (Sort.grow (redrawn w2 d) os).cell? ⟨g, j * 6 + 4, none⟩ = some (.string (Mt (u + 4))) := cell_regrown C2.out.2.2.2.2.1
      go_wp2_with fail
      refine wp_region_quiet_below (by assumption) (by kernel_rfl) ?_
      repeat (quiet_step (first | (go_at_call 152; exact in_class (fun W _ => mark_at _ (u + 4) (by omega) (by omega) (by omega) W))))
      refine wpQuiet_nil ?_
      intro w4 hw4
      have L4 := Lib.hid (of_class hw4)
      clear hw4 x4 z1 z2 z3
      have C4 : Hid (Ce w4 g (j * 6) (mr u)) := C2.out.below L4.out (Nat.lt_of_lt_of_le HB.out.lt G2.out.size)
      have G4 := Lib.hid (G2.out.trans (L4.out.mono G2.out.size))
      clear L4 C2 G2
      have x5 : ∀ d os, (Sort.grow (redrawn w4 d) os).cell? ⟨g, j * 6 + 5, none⟩ = some (.string (Mt (u + 5))) := cell_regrown C4.out.2.2.2.2.2
      go_wp2_with fail
      refine wp_region_quiet_below (by assumption) (by kernel_rfl) ?_
      repeat (quiet_step (first | (go_at_call 152; exact in_class (fun W _ => mark_at _ (u + 5) (by omega) (by omega) (by omega) W))))
      refine wpQuiet_nil ?_
      intro w6 hw6
      have L6 := Lib.hid (of_class hw6)
      clear hw6 x5
      have G6 := Lib.hid (G4.out.trans (L6.out.mono G4.out.size))
      clear L6 C4 G4
      go_wp2
      go_roundw
      case rel => exact ⟨j + 1, u + 6, by omega, by go_num, by go_num, show _ = _ by have := HU.out; omega, G6.out⟩
      case measure => simp [intOf]; omega
    · have hje : j = n := by omega
      subst hje
      go_wp2
      go_ret
      refine ⟨?_, HG.out⟩
      rw [HU.out]
      push_cast
      rfl

end Go.Proofs.YtkfibepejlgniaaGreatDoor.MarkR

/- What the law's own helpers markRecordS and heldRecordS do from any first mark on: every field of every record is overwritten by a mark of its own; and the marks are found. Condition: no mark is above 20000000. -/
namespace Go.Proofs.YtkfibepejlgniaaGreatDoor.MarkR3
open Go.RowKit Go.Proofs.YtkfibepejlgniaaGreatDoor.Mem Go.Proofs.YtkfibepejlgniaaGreatDoor.MemR Go.Proofs.YtkfibepejlgniaaGreatDoor.MarkS Go.Proofs.YtkfibepejlgniaaGreatDoor.MarkR Go.Proofs.YtkfibepejlgniaaGreatDoor.BoxR

/-- So many records of marks, from u on. -/
def mkf (u n : Nat) : List Rec := (List.range n).map (fun j => mr (u + 6 * j))
theorem mkf_len (u n : Nat) : (mkf u n).length = n := by simp [mkf]
theorem mkf_at (u n j : Nat) (h : j < (mkf u n).length) : (mkf u n)[j] = mr (u + 6 * j) := by simp [mkf]
theorem mkf_snoc (u n : Nat) : mkf u (n + 1) = mkf u n ++ [mr (u + 6 * n)] := by simp [mkf, List.range_succ]
theorem mid_at (u : Nat) (l : List Rec) (j : Nat) (h : j < l.length) : ∃ h' : j < (mkf u j ++ l.drop j).length, (mkf u j ++ l.drop j)[j] = l[j] := by
  refine ⟨by rw [List.length_append, mkf_len, List.length_drop]; omega, ?_⟩
  rw [List.getElem_append_right (by rw [mkf_len]; omega), List.getElem_drop]
  congr 1
  rw [mkf_len]
  omega
theorem mid_set (u : Nat) (l : List Rec) (j : Nat) (h : j < l.length) : (mkf u j ++ l.drop j).set j (mr (u + 6 * j)) = mkf u (j + 1) ++ l.drop (j + 1) := by
  rw [List.set_append_right _ _ (by rw [mkf_len]; omega), mkf_len, Nat.sub_self, List.drop_eq_getElem_cons h, List.set_cons_zero, mkf_snoc, List.append_assoc]
  rfl

theorem mark_none (k : Int) (w : World) : Calls Tryz.prog 107 #[.slice none 0 0, .int .i64 k] w fun e w' => e = .returned (.int .i64 k) ∧ w = w' := by
  go_enter Tryz.func107, Tryz.ntmps107
  go_wp2
  go_loop [1, 5] (fun kk i => kk = .int .i64 k ∧ i = .int .i64 0) (fun _ _ => 0)
  case atStart => exact ⟨rfl, rfl⟩
  case round =>
    obtain ⟨rfl, rfl⟩ := hrel
    go_wp2
    go_ret
    exact ⟨rfl, rfl⟩

theorem held_none (k : Int) (w : World) : Calls Tryz.prog 108 #[.slice none 0 0, .int .i64 k] w fun e w' => e = .returned (.int .i64 k) ∧ w = w' := by
  go_enter Tryz.func108, Tryz.ntmps108
  go_wp2
  go_loop [1, 5] (fun kk i => kk = .int .i64 k ∧ i = .int .i64 0) (fun _ _ => 0)
  case atStart => exact ⟨rfl, rfl⟩
  case round =>
    obtain ⟨rfl, rfl⟩ := hrel
    go_wp2
    go_ret
    exact ⟨rfl, rfl⟩

set_option maxHeartbeats 4000000 in
theorem markRecordS_at (g n c u0 : Nat) (l : List Rec) (r : List Value) (w : World) (hb : Bk w g 117 (fl l ++ r)) (hl : l.length = n) (hp : 0 < u0) (hn : u0 + 6 * n ≤ 20000000) :
    Calls Tryz.prog 107 #[.slice (some ⟨g, 0, none⟩) n c, .int .i64 (u0 : Int)] w fun e w' => e = .returned (.int .i64 ((u0 : Int) + 6 * (n : Int))) ∧ Bk w' g 117 (fl (mkf u0 n) ++ r) ∧ w.grownBy w' (some g) := by
  have HB := Lib.hid hb
  have HL := Lib.hid hl
  clear hb hl
  go_enter Tryz.func107, Tryz.ntmps107
  go_wp2
  go_loopw [1, 5] (fun kk i wr => ∃ j u : Nat, j ≤ n ∧ i = .int .i64 j ∧ kk = .int .i64 (u : Int) ∧ Hid (u = u0 + 6 * j) ∧ Hid (Bk wr g 117 (fl (mkf u0 j ++ l.drop j) ++ r)) ∧ Hid (w.grownBy wr (some g))) (fun _ i _ => n - (intOf i).toNat)
  case atStart => exact ⟨0, u0, Nat.zero_le _, rfl, rfl, rfl, HB.out, World.grownBy.refl _ _⟩
  case round =>
    clear HB
    obtain ⟨j, u, hj, rfl, rfl, HU, HJ, HG⟩ := hrel
    have hu : u ≤ 20000000 := by have := HU.out; omega
    by_cases hlt : j < n
    · have hu0 : 0 < u := by have := HU.out; omega
      have hu6 : u + 6 ≤ 20000000 := by have := HU.out; omega
      have hjl : j < l.length := by rw [HL.out]; exact hlt
      have HM := Lib.hid (mid_set u0 l j hjl)
      have hML : j < (mkf u0 j ++ l.drop j).length := (mid_at u0 l j hjl).1
      generalize mkf u0 j ++ l.drop j = M at *
      go_wp2_with fail
      refine (markText_any u hu0 (by omega) wr).mono ?_
      rintro e w1 ⟨rfl, hl1⟩
      have B1 := Lib.hid (HJ.out.below hl1 HJ.out.lt)
      have G1 := Lib.hid (grown_trans HG.out (grown_of_below hl1 (some g)))
      clear hl1 HJ HG
      obtain ⟨z0, z1, z2, z3, z4, z5⟩ := bk_ce B1.out j hML
      have f0 := B1.out.free (j * 6)
      have f1 := B1.out.free (j * 6 + 1)
      have f2 := B1.out.free (j * 6 + 2)
      have f3 := B1.out.free (j * 6 + 3)
      have Z4 : Hid ((fl M ++ r)[j * 6 + 4]? = some (.string M[j].host)) := (B1.out.cell (j * 6 + 4)).symm.trans z4
      have Z5 : Hid ((fl M ++ r)[j * 6 + 5]? = some (.string M[j].text)) := (B1.out.cell (j * 6 + 5)).symm.trans z5
      clear z4 z5
      have B2 := Lib.hid ((((B1.out.set (j * 6) (.string (Mt u))).set (j * 6 + 1) (.int .i64 ((u : Int) + 1))).set (j * 6 + 2) (.int .i64 ((u : Int) + 1 + 1))).set (j * 6 + 3) (.int .i64 ((u : Int) + 1 + 1 + 1)))
      have G2 := Lib.hid (grown_set (grown_set (grown_set (grown_set G1.out (j * 6) (.string (Mt u))) (j * 6 + 1) (.int .i64 ((u : Int) + 1))) (j * 6 + 2) (.int .i64 ((u : Int) + 1 + 1))) (j * 6 + 3) (.int .i64 ((u : Int) + 1 + 1 + 1)))
      have e4 : (u : Int) + 1 + 1 + 1 + 1 = ((u + 4 : Nat) : Int) := by omega
      have E4 := Lib.hid e4
      clear e4
      go_wp2_with fail
      rw [E4.out]
      refine (markText_any (u + 4) (by omega) (by omega) _).mono ?_
      rintro e w3 ⟨rfl, hl3⟩
      have B3 := Lib.hid (B2.out.below hl3 B2.out.lt)
      have G3 := Lib.hid (grown_trans G2.out (grown_of_below hl3 (some g)))
      clear hl3 B2 G2 z0 z1 z2 z3 f0 f1 f2 f3 B1 G1
      have z4 : w3.cell? ⟨g, j * 6 + 4, none⟩ = some (.string M[j].host) := by
        rw [B3.out.cell, List.getElem?_set_ne (by omega), List.getElem?_set_ne (by omega), List.getElem?_set_ne (by omega), List.getElem?_set_ne (by omega)]
        exact Z4.out
      have f4 := B3.out.free (j * 6 + 4)
      have B4 := Lib.hid (B3.out.set (j * 6 + 4) (.string (Mt (u + 4))))
      have G4 := Lib.hid (grown_set G3.out (j * 6 + 4) (.string (Mt (u + 4))))
      go_wp2_with fail
      have e5 : Hid ((u : Int) + 4 + 1 = ((u + 5 : Nat) : Int)) := show _ = _ by omega
      rw [e5.out]
      refine (markText_any (u + 5) (by omega) (by omega) _).mono ?_
      rintro e w5 ⟨rfl, hl5⟩
      have B5 := Lib.hid (B4.out.below hl5 B4.out.lt)
      have G5 := Lib.hid (grown_trans G4.out (grown_of_below hl5 (some g)))
      clear hl5 B3 G3 B4 G4 z4 f4
      have z5 : w5.cell? ⟨g, j * 6 + 5, none⟩ = some (.string M[j].text) := by
        rw [B5.out.cell, List.getElem?_set_ne (by omega), List.getElem?_set_ne (by omega), List.getElem?_set_ne (by omega), List.getElem?_set_ne (by omega), List.getElem?_set_ne (by omega)]
        exact Z5.out
      have f5 := B5.out.free (j * 6 + 5)
      have B6 := Lib.hid (B5.out.set (j * 6 + 5) (.string (Mt (u + 5))))
      have G6 := Lib.hid (grown_set G5.out (j * 6 + 5) (.string (Mt (u + 5))))
      go_wp2
      go_roundw
      case rel =>
        refine ⟨j + 1, u + 6, by omega, by go_num, by go_num, show _ = _ by have := HU.out; omega, ?_, G6.out⟩
        show Bk _ _ _ _
        have h := B6.out
        have hp := put_r M r j (mr u) hML
        have hq : mr u = mr (u0 + 6 * j) := by rw [HU.out]
        rw [hq, HM.out, ← hq] at hp
        have hx := hp.symm
        rw [hx]
        exact h
      case measure => simp [intOf]; omega
    · have hje : j = n := by omega
      subst hje
      go_wp2
      go_ret
      refine ⟨?_, ?_, HG.out⟩
      · rw [HU.out]
        push_cast
        rfl
      · have h := HJ.out
        rw [List.drop_eq_nil_of_le (by rw [HL.out]; exact Nat.le_refl _), List.append_nil] at h
        exact h

set_option maxHeartbeats 4000000 in
theorem heldRecordS_at (g n c u0 : Nat) (r : List Value) (w : World) (hb : Bk w g 117 (fl (mkf u0 n) ++ r)) (hp : 0 < u0) (hn : u0 + 6 * n ≤ 20000000) :
    Calls Tryz.prog 108 #[.slice (some ⟨g, 0, none⟩) n c, .int .i64 (u0 : Int)] w fun e w' => e = .returned (.int .i64 ((u0 : Int) + 6 * (n : Int))) ∧ Below w.heap.size w w' := by
  have mixed : Tryz.prog.follows .mixedOrders = true := by kernel_rfl
  have HB := Lib.hid hb
  clear hb
  go_enter Tryz.func108, Tryz.ntmps108
  go_wp2
  go_loopw [1, 5] (fun kk i wr => ∃ j u : Nat, j ≤ n ∧ i = .int .i64 j ∧ kk = .int .i64 (u : Int) ∧ Hid (u = u0 + 6 * j) ∧ Hid (Below w.heap.size w wr)) (fun _ i _ => n - (intOf i).toNat)
  case atStart => exact ⟨0, u0, Nat.zero_le _, rfl, rfl, rfl, Below.refl _ _⟩
  case round =>
    obtain ⟨j, u, hj, rfl, rfl, HU, HG⟩ := hrel
    have hu : u ≤ 20000000 := by have := HU.out; omega
    by_cases hlt : j < n
    · have hu0 : 0 < u := by have := HU.out; omega
      have hu6 : u + 6 ≤ 20000000 := by have := HU.out; omega
      have hjl : j < (mkf u0 n).length := by rw [mkf_len]; exact hlt
      have C : Hid (Ce wr g (j * 6) (mr u)) := by
        have h := bk_ce (HB.out.below HG.out HB.out.lt) j hjl
        rw [mkf_at u0 n j hjl, ← HU.out] at h
        exact h
      have x0 : ∀ d os, (Sort.grow (redrawn wr d) os).cell? ⟨g, j * 6, none⟩ = some (.string (Mt u)) := cell_regrown C.out.1
      go_wp2_with fail
      refine wp_region_quiet_below (by assumption) (by kernel_rfl) ?_
      repeat (quiet_step (first | (go_at_call 152; exact in_class (fun W _ => markText_any u hu0 (by omega) W))))
      refine wpQuiet_nil ?_
      intro w2 hw2
      have L2 := Lib.hid (of_class hw2)
      clear hw2 x0
      have C2 : Hid (Ce w2 g (j * 6) (mr u)) := C.out.below L2.out (Nat.lt_of_lt_of_le HB.out.lt HG.out.size)
      have G2 := Lib.hid (HG.out.trans (L2.out.mono HG.out.size))
      clear L2 C HG
      have z1 : w2.cell? ⟨g, j * 6 + 1, none⟩ = some (.int .i64 ((u : Int) + 1)) := C2.out.2.1
      have z2 : w2.cell? ⟨g, j * 6 + 2, none⟩ = some (.int .i64 ((u : Int) + 1 + 1)) := C2.out.2.2.1
      have z3 : w2.cell? ⟨g, j * 6 + 3, none⟩ = some (.int .i64 ((u : Int) + 1 + 1 + 1)) := C2.out.2.2.2.1
      have x4 : ∀ d os, (Sort.grow (redrawn w2 d) os).cell? ⟨g, j * 6 + 4, none⟩ = some (.string (Mt (u + 4))) := cell_regrown C2.out.2.2.2.2.1
      go_wp2_with fail
      refine wp_region_quiet_below (by assumption) (by kernel_rfl) ?_
      repeat (quiet_step (first | (go_at_call 152; exact in_class (fun W _ => mark_at _ (u + 4) (by omega) (by omega) (by omega) W))))
      refine wpQuiet_nil ?_
      intro w4 hw4
      have L4 := Lib.hid (of_class hw4)
      clear hw4 x4 z1 z2 z3
      have C4 : Hid (Ce w4 g (j * 6) (mr u)) := C2.out.below L4.out (Nat.lt_of_lt_of_le HB.out.lt G2.out.size)
      have G4 := Lib.hid (G2.out.trans (L4.out.mono G2.out.size))
      clear L4 C2 G2
      have x5 : ∀ d os, (Sort.grow (redrawn w4 d) os).cell? ⟨g, j * 6 + 5, none⟩ = some (.string (Mt (u + 5))) := cell_regrown C4.out.2.2.2.2.2
      go_wp2_with fail
      refine wp_region_quiet_below (by assumption) (by kernel_rfl) ?_
      repeat (quiet_step (first | (go_at_call 152; exact in_class (fun W _ => mark_at _ (u + 5) (by omega) (by omega) (by omega) W))))
      refine wpQuiet_nil ?_
      intro w6 hw6
      have L6 := Lib.hid (of_class hw6)
      clear hw6 x5
      have G6 := Lib.hid (G4.out.trans (L6.out.mono G4.out.size))
      clear L6 C4 G4
      go_wp2
      go_roundw
      case rel => exact ⟨j + 1, u + 6, by omega, by go_num, by go_num, show _ = _ by have := HU.out; omega, G6.out⟩
      case measure => simp [intOf]; omega
    · have hje : j = n := by omega
      subst hje
      go_wp2
      go_ret
      refine ⟨?_, HG.out⟩
      rw [HU.out]
      push_cast
      rfl

end Go.Proofs.YtkfibepejlgniaaGreatDoor.MarkR3

/- What the law's own helpers markMsg and heldMsg do on a message with three slices of its own: every field of every record is overwritten by a mark of its own; and the marks are found. Condition: no mark is above 20000000. -/
namespace Go.Proofs.YtkfibepejlgniaaGreatDoor.MarkM
open Go.RowKit Go.Proofs.YtkfibepejlgniaaGreatDoor.Mem Go.Proofs.YtkfibepejlgniaaGreatDoor.MemR Go.Proofs.YtkfibepejlgniaaGreatDoor.BoxR Go.Proofs.YtkfibepejlgniaaGreatDoor.MemM Go.Proofs.YtkfibepejlgniaaGreatDoor.MarkS Go.Proofs.YtkfibepejlgniaaGreatDoor.MarkR3 Go.Proofs.YtkfibepejlgniaaGreatDoor.ResM

/-- Only the blocks g1, g2, g3 of w have been turned. -/
def Turned (w w' : World) (g1 g2 g3 : Nat) : Prop := w.heap.size ≤ w'.heap.size ∧ (∀ g, g < w.heap.size → g ≠ g1 → g ≠ g2 → g ≠ g3 → w'.heap[g]? = w.heap[g]?) ∧ ∃ w1 w2 w3, Below w.heap.size w w1 ∧ w1.grownBy w2 (some g1) ∧ w2.grownBy w3 (some g2) ∧ w3.grownBy w' (some g3)
theorem Turned.bk {w w' : World} {g1 g2 g3 g : Nat} {t : TypeId} {cs : List Value} (h : Turned w w' g1 g2 g3) (k : Bk w g t cs) (e1 : g ≠ g1) (e2 : g ≠ g2) (e3 : g ≠ g3) : Bk w' g t cs := (h.2.1 g k.lt e1 e2 e3).trans k
theorem Turned.mx {w w' : World} {g1 g2 g3 g : Nat} {h : Hd} {x y z : Value} (k : Turned w w' g1 g2 g3) (m : Mx w g h x y z) (e1 : g ≠ g1) (e2 : g ≠ g2) (e3 : g ≠ g3) : Mx w' g h x y z := m.move fun _ => World.cell?_of_block (k.2.1 g m.lt e1 e2 e3)
theorem Turned.below {w0 w w' : World} {g1 g2 g3 : Nat} (h : Turned w w' g1 g2 g3) (hb : Below w0.heap.size w0 w) (e1 : w0.heap.size ≤ g1) (e2 : w0.heap.size ≤ g2) (e3 : w0.heap.size ≤ g3) : Below w0.heap.size w0 w' := by
  obtain ⟨_, _, w1, w2, w3, h0, h1, h2, h3⟩ := h
  have b1 := hb.trans (h0.mono hb.size)
  have b2 := b1.grown h1 b1.size (fun j hj => by cases hj; exact e1)
  have b3 := b2.grown h2 b2.size (fun j hj => by cases hj; exact e2)
  exact b3.grown h3 b3.size (fun j hj => by cases hj; exact e3)

theorem markMsg_none (h : Hd) (k : Int) (w : World) : Calls Tryz.prog 47 #[.agg #[.int .i64 h.id, .bool h.rp, .bool h.au, .bool h.ct, .bool h.wa, .bool h.ca, .int .i64 h.code, .string h.qn, .int .i64 h.qt, .slice none 0 0, .slice none 0 0, .slice none 0 0], .int .i64 k] w fun e w' => e = .returned (.int .i64 k) ∧ Below w.heap.size w w' := by
  go_enter Tryz.func47, Tryz.ntmps47
  go_wp2_with (go_at_call 107; refine (mark_none k _).mono ?_; rintro e w' ⟨rfl, rfl⟩)
  go_ret
  exact ⟨rfl, (Below.refl _ _).alloc (Nat.le_refl _) _⟩

theorem heldMsg_none (h : Hd) (k : Int) (w : World) (hk : 0 ≤ k) : Calls Tryz.prog 51 #[.agg #[.int .i64 h.id, .bool h.rp, .bool h.au, .bool h.ct, .bool h.wa, .bool h.ca, .int .i64 h.code, .string h.qn, .int .i64 h.qt, .slice none 0 0, .slice none 0 0, .slice none 0 0], .int .i64 k] w fun e w' => e = .returned (.int .i64 k) ∧ Below w.heap.size w w' := by
  have hk' : ¬ k < 0 := by omega
  go_enter Tryz.func51, Tryz.ntmps51
  go_wp2_with (go_at_call 108; refine (held_none k _).mono ?_; rintro e w' ⟨rfl, rfl⟩)
  go_ret
  exact ⟨rfl, (Below.refl _ _).alloc (Nat.le_refl _) _⟩

set_option maxHeartbeats 4000000 in
theorem markMsg_at (h : Hd) (g1 n1 c1 g2 n2 c2 g3 n3 c3 u : Nat) (l1 l2 l3 : List Rec) (r1 r2 r3 : List Value) (w : World) (b1 : Bk w g1 117 (fl l1 ++ r1)) (b2 : Bk w g2 117 (fl l2 ++ r2)) (b3 : Bk w g3 117 (fl l3 ++ r3))
    (k1 : l1.length = n1) (k2 : l2.length = n2) (k3 : l3.length = n3) (e12 : g1 < g2) (e23 : g2 < g3) (hp : 0 < u) (hn : u + 6 * (n1 + n2 + n3) ≤ 20000000) :
    Calls Tryz.prog 47 #[.agg #[.int .i64 h.id, .bool h.rp, .bool h.au, .bool h.ct, .bool h.wa, .bool h.ca, .int .i64 h.code, .string h.qn, .int .i64 h.qt, .slice (some ⟨g1, 0, none⟩) n1 c1, .slice (some ⟨g2, 0, none⟩) n2 c2, .slice (some ⟨g3, 0, none⟩) n3 c3], .int .i64 (u : Int)] w fun e w' => e = .returned (.int .i64 ((u + 6 * (n1 + n2 + n3) : Nat) : Int)) ∧ Bk w' g1 117 (fl (mkf u n1) ++ r1) ∧ Bk w' g2 117 (fl (mkf (u + 6 * n1) n2) ++ r2) ∧ Bk w' g3 117 (fl (mkf (u + 6 * n1 + 6 * n2) n3) ++ r3) ∧ Turned w w' g1 g2 g3 := by
  have L0 := Lib.hid ((Below.refl w.heap.size w).alloc (Nat.le_refl _) (.cells #[.int .i64 h.id, .bool h.rp, .bool h.au, .bool h.ct, .bool h.wa, .bool h.ca, .int .i64 h.code, .string h.qn, .int .i64 h.qt, .slice (some ⟨g1, 0, none⟩) n1 c1, .slice (some ⟨g2, 0, none⟩) n2 c2, .slice (some ⟨g3, 0, none⟩) n3 c3] 28))
  have X0 := Lib.hid (mx_new w 28 h (.slice (some ⟨g1, 0, none⟩) n1 c1) (.slice (some ⟨g2, 0, none⟩) n2 c2) (.slice (some ⟨g3, 0, none⟩) n3 c3))
  have lt1 := b1.lt
  have lt2 := b2.lt
  have lt3 := b3.lt
  have C0 := Lib.hid (b1.alloc (.cells #[.int .i64 h.id, .bool h.rp, .bool h.au, .bool h.ct, .bool h.wa, .bool h.ca, .int .i64 h.code, .string h.qn, .int .i64 h.qt, .slice (some ⟨g1, 0, none⟩) n1 c1, .slice (some ⟨g2, 0, none⟩) n2 c2, .slice (some ⟨g3, 0, none⟩) n3 c3] 28))
  have D0 := Lib.hid (b2.alloc (.cells #[.int .i64 h.id, .bool h.rp, .bool h.au, .bool h.ct, .bool h.wa, .bool h.ca, .int .i64 h.code, .string h.qn, .int .i64 h.qt, .slice (some ⟨g1, 0, none⟩) n1 c1, .slice (some ⟨g2, 0, none⟩) n2 c2, .slice (some ⟨g3, 0, none⟩) n3 c3] 28))
  have E0 := Lib.hid (b3.alloc (.cells #[.int .i64 h.id, .bool h.rp, .bool h.au, .bool h.ct, .bool h.wa, .bool h.ca, .int .i64 h.code, .string h.qn, .int .i64 h.qt, .slice (some ⟨g1, 0, none⟩) n1 c1, .slice (some ⟨g2, 0, none⟩) n2 c2, .slice (some ⟨g3, 0, none⟩) n3 c3] 28))
  have K1 := Lib.hid k1
  have K2 := Lib.hid k2
  have K3 := Lib.hid k3
  clear b1 b2 b3 k1 k2 k3
  go_enter Tryz.func47, Tryz.ntmps47
  go_wp2_with fail
  refine (markRecordS_at g1 n1 c1 u l1 r1 _ C0.out K1.out hp (by omega)).mono ?_
  rintro e w1 ⟨rfl, hb, hg⟩
  have G1 := Lib.hid hg
  have C1 := Lib.hid hb
  have X1 := Lib.hid (X0.out.grown hg (fun e => by have := Option.some.inj e; omega))
  have D1 := Lib.hid (D0.out.grown hg (fun e => by have := Option.some.inj e; omega))
  have E1 := Lib.hid (E0.out.grown hg (fun e => by have := Option.some.inj e; omega))
  have U1 : Hid ((u : Int) + 6 * (n1 : Int) = ((u + 6 * n1 : Nat) : Int)) := by show _ = _; omega
  rw [U1.out]
  clear hb hg X0 C0 D0 E0
  obtain ⟨x0, x1, x2, x3, x4, x5, x6, x7, x8, x9, x10, x11⟩ := X1.out
  generalize hu1 : u + 6 * n1 = u1 at *
  have V1 := Lib.hid hu1
  have v1 : u1 ≤ u + 6 * n1 ∧ u + 6 * n1 ≤ u1 := by omega
  clear hu1
  go_wp2_with fail
  refine (markRecordS_at g2 n2 c2 u1 l2 r2 w1 D1.out K2.out (by omega) (by omega)).mono ?_
  rintro e w2 ⟨rfl, hb, hg⟩
  have G2 := Lib.hid hg
  have D2 := Lib.hid hb
  have X2 := Lib.hid (X1.out.grown hg (fun e => by have := Option.some.inj e; omega))
  have C2 := Lib.hid (C1.out.grown hg (fun e => by have := Option.some.inj e; omega))
  have E2 := Lib.hid (E1.out.grown hg (fun e => by have := Option.some.inj e; omega))
  have U2 : Hid ((u1 : Int) + 6 * (n2 : Int) = ((u1 + 6 * n2 : Nat) : Int)) := by show _ = _; omega
  rw [U2.out]
  clear hb hg X1 C1 D1 E1 x0 x1 x2 x3 x4 x5 x6 x7 x8 x9 x10 x11
  obtain ⟨x0, x1, x2, x3, x4, x5, x6, x7, x8, x9, x10, x11⟩ := X2.out
  generalize hu2 : u1 + 6 * n2 = u2 at *
  have V2 := Lib.hid hu2
  have v2 : u2 ≤ u1 + 6 * n2 ∧ u1 + 6 * n2 ≤ u2 := by omega
  clear hu2
  go_wp2_with fail
  refine (markRecordS_at g3 n3 c3 u2 l3 r3 w2 E2.out K3.out (by omega) (by omega)).mono ?_
  rintro e w3 ⟨rfl, hb, hg⟩
  have G3 := Lib.hid hg
  have E3 := Lib.hid hb
  have C3 := Lib.hid (C2.out.grown hg (fun e => by have := Option.some.inj e; omega))
  have D3 := Lib.hid (D2.out.grown hg (fun e => by have := Option.some.inj e; omega))
  have U3 : Hid ((u2 : Int) + 6 * (n3 : Int) = ((u + 6 * (n1 + n2 + n3) : Nat) : Int)) := by show _ = _; omega
  rw [U3.out]
  clear hb hg X2 C2 D2 E2 x0 x1 x2 x3 x4 x5 x6 x7 x8 x9 x10 x11
  go_wp2
  go_ret
  have s1 := G1.out.size
  have s2 := G2.out.size
  have s3 := G3.out.size
  simp at s1
  refine ⟨rfl, C3.out, ?_, ?_, by omega, fun g hg n1 n2 n3 => ?_, _, w1, w2, L0.out, G1.out, G2.out, G3.out⟩
  · rw [V1.out]; exact D3.out
  · rw [V1.out, V2.out]; exact E3.out
  · exact (G3.out.block g (by omega) (fun e => n3 (Option.some.inj e))).trans ((G2.out.block g (by omega) (fun e => n2 (Option.some.inj e))).trans ((G1.out.block g (by simp; omega) (fun e => n1 (Option.some.inj e))).trans (L0.out.block g hg)))

set_option maxHeartbeats 4000000 in
theorem heldMsg_at (h : Hd) (g1 n1 c1 g2 n2 c2 g3 n3 c3 u : Nat) (r1 r2 r3 : List Value) (w : World) (b1 : Bk w g1 117 (fl (mkf u n1) ++ r1)) (b2 : Bk w g2 117 (fl (mkf (u + 6 * n1) n2) ++ r2)) (b3 : Bk w g3 117 (fl (mkf (u + 6 * n1 + 6 * n2) n3) ++ r3))
    (hp : 0 < u) (hn : u + 6 * (n1 + n2 + n3) ≤ 20000000) :
    Calls Tryz.prog 51 #[.agg #[.int .i64 h.id, .bool h.rp, .bool h.au, .bool h.ct, .bool h.wa, .bool h.ca, .int .i64 h.code, .string h.qn, .int .i64 h.qt, .slice (some ⟨g1, 0, none⟩) n1 c1, .slice (some ⟨g2, 0, none⟩) n2 c2, .slice (some ⟨g3, 0, none⟩) n3 c3], .int .i64 (u : Int)] w fun e w' => e = .returned (.int .i64 ((u + 6 * (n1 + n2 + n3) : Nat) : Int)) ∧ Below w.heap.size w w' := by
  have L0 := Lib.hid ((Below.refl w.heap.size w).alloc (Nat.le_refl _) (.cells #[.int .i64 h.id, .bool h.rp, .bool h.au, .bool h.ct, .bool h.wa, .bool h.ca, .int .i64 h.code, .string h.qn, .int .i64 h.qt, .slice (some ⟨g1, 0, none⟩) n1 c1, .slice (some ⟨g2, 0, none⟩) n2 c2, .slice (some ⟨g3, 0, none⟩) n3 c3] 28))
  have X0 := Lib.hid (mx_new w 28 h (.slice (some ⟨g1, 0, none⟩) n1 c1) (.slice (some ⟨g2, 0, none⟩) n2 c2) (.slice (some ⟨g3, 0, none⟩) n3 c3))
  have C0 := Lib.hid (b1.alloc (.cells #[.int .i64 h.id, .bool h.rp, .bool h.au, .bool h.ct, .bool h.wa, .bool h.ca, .int .i64 h.code, .string h.qn, .int .i64 h.qt, .slice (some ⟨g1, 0, none⟩) n1 c1, .slice (some ⟨g2, 0, none⟩) n2 c2, .slice (some ⟨g3, 0, none⟩) n3 c3] 28))
  have D0 := Lib.hid (b2.alloc (.cells #[.int .i64 h.id, .bool h.rp, .bool h.au, .bool h.ct, .bool h.wa, .bool h.ca, .int .i64 h.code, .string h.qn, .int .i64 h.qt, .slice (some ⟨g1, 0, none⟩) n1 c1, .slice (some ⟨g2, 0, none⟩) n2 c2, .slice (some ⟨g3, 0, none⟩) n3 c3] 28))
  have E0 := Lib.hid (b3.alloc (.cells #[.int .i64 h.id, .bool h.rp, .bool h.au, .bool h.ct, .bool h.wa, .bool h.ca, .int .i64 h.code, .string h.qn, .int .i64 h.qt, .slice (some ⟨g1, 0, none⟩) n1 c1, .slice (some ⟨g2, 0, none⟩) n2 c2, .slice (some ⟨g3, 0, none⟩) n3 c3] 28))
  clear b1 b2 b3
  go_enter Tryz.func51, Tryz.ntmps51
  go_wp2_with fail
  refine (heldRecordS_at g1 n1 c1 u r1 _ C0.out hp (by omega)).mono ?_
  rintro e w1 ⟨rfl, hl⟩
  have L1 := Lib.hid (L0.out.trans (hl.mono L0.out.size))
  have X1 := Lib.hid (X0.out.below hl)
  have D1 := Lib.hid (D0.out.below hl D0.out.lt)
  have E1 := Lib.hid (E0.out.below hl E0.out.lt)
  have U1 : Hid ((u : Int) + 6 * (n1 : Int) = ((u + 6 * n1 : Nat) : Int)) := by show _ = _; omega
  rw [U1.out]
  clear hl L0 X0 C0 D0 E0
  obtain ⟨x0, x1, x2, x3, x4, x5, x6, x7, x8, x9, x10, x11⟩ := X1.out
  generalize hu1 : u + 6 * n1 = u1 at *
  have v1 : u1 ≤ u + 6 * n1 ∧ u + 6 * n1 ≤ u1 := by omega
  have p1 : ¬ (u1 : Int) < 0 := by omega
  clear hu1
  go_wp2_with fail
  refine (heldRecordS_at g2 n2 c2 u1 r2 w1 D1.out (by omega) (by omega)).mono ?_
  rintro e w2 ⟨rfl, hl⟩
  have L2 := Lib.hid (L1.out.trans (hl.mono L1.out.size))
  have X2 := Lib.hid (X1.out.below hl)
  have E2 := Lib.hid (E1.out.below hl E1.out.lt)
  have U2 : Hid ((u1 : Int) + 6 * (n2 : Int) = ((u1 + 6 * n2 : Nat) : Int)) := by show _ = _; omega
  rw [U2.out]
  clear hl L1 X1 D1 E1 x0 x1 x2 x3 x4 x5 x6 x7 x8 x9 x10 x11
  obtain ⟨x0, x1, x2, x3, x4, x5, x6, x7, x8, x9, x10, x11⟩ := X2.out
  generalize hu2 : u1 + 6 * n2 = u2 at *
  have v2 : u2 ≤ u1 + 6 * n2 ∧ u1 + 6 * n2 ≤ u2 := by omega
  have p2 : ¬ (u2 : Int) < 0 := by omega
  clear hu2
  go_wp2_with fail
  refine (heldRecordS_at g3 n3 c3 u2 r3 w2 E2.out (by omega) (by omega)).mono ?_
  rintro e w3 ⟨rfl, hl⟩
  have L3 := Lib.hid (L2.out.trans (hl.mono L2.out.size))
  have U3 : Hid ((u2 : Int) + 6 * (n3 : Int) = ((u + 6 * (n1 + n2 + n3) : Nat) : Int)) := by show _ = _; omega
  rw [U3.out]
  clear hl L2 X2 E2 x0 x1 x2 x3 x4 x5 x6 x7 x8 x9 x10 x11
  obtain ⟨u3, hu3⟩ : ∃ u3, u + 6 * (n1 + n2 + n3) = u3 := ⟨_, rfl⟩
  rw [hu3]
  have p3 : ¬ (u3 : Int) < 0 := by omega
  have V3 := Lib.hid hu3
  clear hu3
  go_wp2
  go_ret
  exact ⟨by rw [V3.out]; rfl, L3.out⟩

theorem markMsg_one (h : Hd) (g1 n1 c1 g2 n2 c2 g3 n3 c3 : Nat) (l1 l2 l3 : List Rec) (r1 r2 r3 : List Value) (w : World) (b1 : Bk w g1 117 (fl l1 ++ r1)) (b2 : Bk w g2 117 (fl l2 ++ r2)) (b3 : Bk w g3 117 (fl l3 ++ r3))
    (k1 : l1.length = n1) (k2 : l2.length = n2) (k3 : l3.length = n3) (e12 : g1 < g2) (e23 : g2 < g3) (hn : 1 + 6 * (n1 + n2 + n3) ≤ 20000000) :
    Calls Tryz.prog 47 #[.agg #[.int .i64 h.id, .bool h.rp, .bool h.au, .bool h.ct, .bool h.wa, .bool h.ca, .int .i64 h.code, .string h.qn, .int .i64 h.qt, .slice (some ⟨g1, 0, none⟩) n1 c1, .slice (some ⟨g2, 0, none⟩) n2 c2, .slice (some ⟨g3, 0, none⟩) n3 c3], .int .i64 1] w fun e w' => e = .returned (.int .i64 ((1 + 6 * (n1 + n2 + n3) : Nat) : Int)) ∧ Bk w' g1 117 (fl (mkf 1 n1) ++ r1) ∧ Bk w' g2 117 (fl (mkf (1 + 6 * n1) n2) ++ r2) ∧ Bk w' g3 117 (fl (mkf (1 + 6 * n1 + 6 * n2) n3) ++ r3) ∧ Turned w w' g1 g2 g3 :=
  markMsg_at h g1 n1 c1 g2 n2 c2 g3 n3 c3 1 l1 l2 l3 r1 r2 r3 w b1 b2 b3 k1 k2 k3 e12 e23 (by omega) hn

theorem heldMsg_one (h : Hd) (g1 n1 c1 g2 n2 c2 g3 n3 c3 : Nat) (r1 r2 r3 : List Value) (w : World) (b1 : Bk w g1 117 (fl (mkf 1 n1) ++ r1)) (b2 : Bk w g2 117 (fl (mkf (1 + 6 * n1) n2) ++ r2)) (b3 : Bk w g3 117 (fl (mkf (1 + 6 * n1 + 6 * n2) n3) ++ r3))
    (hn : 1 + 6 * (n1 + n2 + n3) ≤ 20000000) :
    Calls Tryz.prog 51 #[.agg #[.int .i64 h.id, .bool h.rp, .bool h.au, .bool h.ct, .bool h.wa, .bool h.ca, .int .i64 h.code, .string h.qn, .int .i64 h.qt, .slice (some ⟨g1, 0, none⟩) n1 c1, .slice (some ⟨g2, 0, none⟩) n2 c2, .slice (some ⟨g3, 0, none⟩) n3 c3], .int .i64 1] w fun e w' => e = .returned (.int .i64 ((1 + 6 * (n1 + n2 + n3) : Nat) : Int)) ∧ Below w.heap.size w w' :=
  heldMsg_at h g1 n1 c1 g2 n2 c2 g3 n3 c3 1 r1 r2 r3 w b1 b2 b3 (by omega) hn
end Go.Proofs.YtkfibepejlgniaaGreatDoor.MarkM

/- What a record that comes in, and a slice of records that comes in, read as. -/
namespace Go.Proofs.YtkfibepejlgniaaGreatDoor.RowR
open Go.Proofs.YtkfibepejlgniaaGreatDoor.Mem Go.Proofs.YtkfibepejlgniaaGreatDoor.MemR
open Go.ChangeShapes Go.WideShapes Go.ChangeAt Go.RowKit Go.Deep

/-- The texts of a record are no longer than any text. -/
def Small (r : Rec) : Prop := r.name.size ≤ 9223372036854775807 ∧ r.host.size ≤ 9223372036854775807 ∧ r.text.size ≤ 9223372036854775807
/-- The argument reads as records. -/
def IsRecs (w : World) (a : Option Addr) (len : Nat) (l : List Rec) : Prop :=
  Sr w w.heap.size a len l ∧ len ≤ 9223372036854775807 ∧ ∀ r ∈ l, Small r

section
variable {H : Type} {enc : TypeId × Value → H} {w : World} {base : Nat} {spare : Nat → Bool} {held : Bool}
theorem six_of {cs : List Value} {s0 s4 s5 : ByteArray} {x1 x2 x3 : Int} (h : cs.length = 6) (e0 : (cs.drop 0).take 1 = [.string s0]) (e1 : (cs.drop 1).take 1 = [.int .i64 x1]) (e2 : (cs.drop 2).take 1 = [.int .i64 x2])
    (e3 : (cs.drop 3).take 1 = [.int .i64 x3]) (e4 : (cs.drop 4).take 1 = [.string s4]) (e5 : (cs.drop 5).take 1 = [.string s5]) : cs = rc ⟨s0, x1, x2, x3, s4, s5⟩ := by
  match cs, h with
  | [c0, c1, c2, c3, c4, c5], _ =>
    simp only [List.drop_zero, List.drop_succ_cons, List.take_succ_cons, List.take_zero, List.cons.injEq, and_true] at e0 e1 e2 e3 e4 e5
    subst e0 e1 e2 e3 e4 e5
    rfl
theorem rec_of {fuel : Nat} {cs : List Value} {x : DataW H × List MemPlace} (h : DataW.trod enc Tryz.prog w base spare held fuel 151 cs = some x) : ∃ r : Rec, cs = rc r ∧ Small r := by
  obtain ⟨xs, n, _, _, hc, hl, hg⟩ := DataW.trod_struct Tryz.underlying151 h
  have h6 : cs.length = 6 := hc.trans (by kernel_rfl)
  have hx : xs.length = 6 := hl
  have ks : Tryz.prog.cellsOf 9 = 1 := by kernel_rfl
  have ki : Tryz.prog.cellsOf 3 = 1 := by kernel_rfl
  have g : ∀ i, i < 6 → xs[i]? = some (xs[i]!) := fun i hi => by rw [getElem!_pos xs i (by omega)]; exact List.getElem?_eq_getElem (by omega)
  have f0 := (hg 0 _ rfl).trans (g 0 (by omega))
  have f1 := (hg 1 _ rfl).trans (g 1 (by omega))
  have f2 := (hg 2 _ rfl).trans (g 2 (by omega))
  have f3 := (hg 3 _ rfl).trans (g 3 (by omega))
  have f4 := (hg 4 _ rfl).trans (g 4 (by omega))
  have f5 := (hg 5 _ rfl).trans (g 5 (by omega))
  obtain ⟨s0, e0, _, z0⟩ := DataW.trod_string Tryz.underlying9 f0
  obtain ⟨x1, e1, _⟩ := DataW.trod_int Tryz.underlying3 f1
  obtain ⟨x2, e2, _⟩ := DataW.trod_int Tryz.underlying3 f2
  obtain ⟨x3, e3, _⟩ := DataW.trod_int Tryz.underlying3 f3
  obtain ⟨s4, e4, _, z4⟩ := DataW.trod_string Tryz.underlying9 f4
  obtain ⟨s5, e5, _, z5⟩ := DataW.trod_string Tryz.underlying9 f5
  replace e0 : (cs.drop 0).take (Tryz.prog.cellsOf 9) = [.string s0] := e0
  replace e1 : (cs.drop 1).take (Tryz.prog.cellsOf 3) = [.int .i64 x1] := e1
  replace e2 : (cs.drop 2).take (Tryz.prog.cellsOf 3) = [.int .i64 x2] := e2
  replace e3 : (cs.drop 3).take (Tryz.prog.cellsOf 3) = [.int .i64 x3] := e3
  replace e4 : (cs.drop 4).take (Tryz.prog.cellsOf 9) = [.string s4] := e4
  replace e5 : (cs.drop 5).take (Tryz.prog.cellsOf 9) = [.string s5] := e5
  rw [ks] at e0 e4 e5
  rw [ki] at e1 e2 e3
  unfold maxLen at z0 z4 z5
  exact ⟨⟨s0, x1, x2, x3, s4, s5⟩, six_of h6 e0 e1 e2 e3 e4 e5, z0, z4, z5⟩
set_option maxRecDepth 100000 in
/-- A record that comes in. -/
theorem rec_in {r : Reach} {b0 : Nat} {v : Value} {d : DataW H} {p : List MemPlace} (hv : Value.okWide Tryz.prog w r b0 151 v) (h : DataW.Trod enc Tryz.prog w base spare held 151 v d p) :
    ∃ r : Rec, v = .agg #[.string r.name, .int .i64 r.ty, .int .i64 r.ttl, .int .i64 r.n, .string r.host, .string r.text] ∧ Small r := by
  obtain ⟨cs, rfl, _⟩ := okWide_struct Tryz.underlying151 hv
  obtain ⟨fuel, hf⟩ := h
  obtain ⟨r, hr, hz⟩ := rec_of hf
  refine ⟨r, ?_, hz⟩
  have e : cs.toList = rc r := hr
  rw [show cs = (rc r).toArray from by rw [← e]]
  rfl
end

section
variable {H : Type} {enc : TypeId × Value → H} {w : World}

set_option maxRecDepth 100000 in
/-- A slice of records that comes in. -/
theorem recs_in {a : Option Addr} {len cap : Nat} {d : DataW H} {p : List MemPlace} (h : DataW.Trod enc Tryz.prog w 0 (fun _ => true) true 54 (.slice a len cap) d p) : ∃ l, IsRecs w a len l := by
  obtain ⟨fuel, hf⟩ := h
  rcases open_slice Tryz.underlying54 hf with ⟨hcs, _⟩ | ⟨x, len', cap', m, n, D, Pl, hcs, _, hl, hm, hmm, _, hx⟩
  · simp [Value.cells] at hcs
    obtain ⟨rfl, rfl, rfl⟩ := hcs
    exact ⟨[], Sr.nil, by omega, fun r h => by simp at h⟩
  · simp [Value.cells] at hcs
    obtain ⟨rfl, rfl, rfl⟩ := hcs
    unfold maxLen at hm
    simp only [if_true] at hmm
    subst hmm
    have hC : Tryz.prog.cellsOf 151 = 6 := by kernel_rfl
    rw [hC] at hx
    obtain ⟨b, off, spot⟩ := x
    rcases Nat.eq_zero_or_pos len with h0 | h0
    · subst h0
      exact ⟨[], Sr.nil, by omega, fun r h => by simp at h⟩
    have hs : spot = none := by
      obtain ⟨cs', hc, _⟩ := hx 0 (by omega)
      obtain ⟨_, hl6, hat⟩ := World.cells?_some hc
      have c0 := hat 0 (by omega)
      rw [List.getElem?_eq_getElem (by omega)] at c0
      simpa [Addr.add] using World.cell?_spot c0
    subst hs
    have key : ∀ i : Nat, ∃ r : Rec, i < len → (b < w.heap.size ∧ Ce w b (off + i * 6) r ∧ Small r) := fun i => by
      by_cases hi : i < len
      · obtain ⟨cs', hc, ht⟩ := hx i (by omega)
        obtain ⟨r, rfl, hz⟩ := rec_of ht
        obtain ⟨_, _, hat⟩ := World.cells?_some hc
        refine ⟨r, fun _ => ?_⟩
        have hc : ∀ c, c < 6 → w.cell? ⟨b, off + i * 6 + c, none⟩ = (rc r)[c]? := fun c hc => by
          rw [← hat c hc, Addr.add_lit, Addr.add_lit]
        have c0 : w.cell? ⟨b, off + i * 6 + 0, none⟩ = some (.string r.name) := hc 0 (by omega)
        exact ⟨World.block_lt_of_cell? _ _ c0, ⟨c0, hc 1 (by omega), hc 2 (by omega), hc 3 (by omega), hc 4 (by omega), hc 5 (by omega)⟩, hz⟩
      · exact ⟨zr, fun h => absurd h hi⟩
    obtain ⟨f, hf⟩ := Classical.axiomOfChoice key
    refine ⟨(List.range len).map f, ⟨by simp, fun hn => ?_⟩, by omega, fun r hr => ?_⟩
    · refine ⟨b, off, rfl, (hf 0 hn).1, fun j hj => ?_⟩
      have hj' : j < len := by simpa using hj
      have := (hf j hj').2.1
      simpa using this
    · obtain ⟨i, hi, rfl⟩ := List.mem_map.1 hr
      exact (hf i (List.mem_range.1 hi)).2.2

end
end Go.Proofs.YtkfibepejlgniaaGreatDoor.RowR

/- What a question and a message that come in read as. -/
namespace Go.Proofs.YtkfibepejlgniaaGreatDoor.RowM
open Go.Proofs.YtkfibepejlgniaaGreatDoor.Mem Go.Proofs.YtkfibepejlgniaaGreatDoor.MemR Go.Proofs.YtkfibepejlgniaaGreatDoor.MemM Go.Proofs.YtkfibepejlgniaaGreatDoor.RowR
open Go.ChangeShapes Go.WideShapes Go.ChangeAt Go.RowKit Go.Deep

section
variable {H : Type} {enc : TypeId × Value → H} {w : World} {base : Nat} {spare : Nat → Bool} {held : Bool}
theorem two_of {cs : List Value} {s0 : ByteArray} {x1 : Int} (h : cs.length = 2) (e0 : (cs.drop 0).take 1 = [.string s0]) (e1 : (cs.drop 1).take 1 = [.int .i64 x1]) : cs = [.string s0, .int .i64 x1] := by
  match cs, h with
  | [c0, c1], _ =>
    simp only [List.drop_zero, List.drop_succ_cons, List.take_succ_cons, List.take_zero, List.cons.injEq, and_true] at e0 e1
    subst e0 e1
    rfl

theorem quest_of {fuel : Nat} {cs : List Value} {x : DataW H × List MemPlace} (h : DataW.trod enc Tryz.prog w base spare held fuel 53 cs = some x) : ∃ (s : ByteArray) (n : Int), cs = [.string s, .int .i64 n] ∧ s.size ≤ 9223372036854775807 := by
  obtain ⟨xs, n, _, _, hc, hl, hg⟩ := DataW.trod_struct Tryz.underlying53 h
  have h2 : cs.length = 2 := hc.trans (by kernel_rfl)
  have hx : xs.length = 2 := hl
  have ks : Tryz.prog.cellsOf 9 = 1 := by kernel_rfl
  have ki : Tryz.prog.cellsOf 3 = 1 := by kernel_rfl
  have g : ∀ i, i < 2 → xs[i]? = some (xs[i]!) := fun i hi => by rw [getElem!_pos xs i (by omega)]; exact List.getElem?_eq_getElem (by omega)
  have f0 := (hg 0 _ rfl).trans (g 0 (by omega))
  have f1 := (hg 1 _ rfl).trans (g 1 (by omega))
  obtain ⟨s0, e0, _, z0⟩ := DataW.trod_string Tryz.underlying9 f0
  obtain ⟨x1, e1, _⟩ := DataW.trod_int Tryz.underlying3 f1
  replace e0 : (cs.drop 0).take (Tryz.prog.cellsOf 9) = [.string s0] := e0
  replace e1 : (cs.drop 1).take (Tryz.prog.cellsOf 3) = [.int .i64 x1] := e1
  rw [ks] at e0
  rw [ki] at e1
  unfold maxLen at z0
  exact ⟨s0, x1, two_of h2 e0 e1, z0⟩

set_option maxRecDepth 100000 in
/-- A question that comes in. -/
theorem quest_in {r : Reach} {b0 : Nat} {v : Value} {d : DataW H} {p : List MemPlace} (hv : Value.okWide Tryz.prog w r b0 53 v) (h : DataW.Trod enc Tryz.prog w base spare held 53 v d p) :
    ∃ (s : ByteArray) (n : Int), v = .agg #[.string s, .int .i64 n] ∧ s.size ≤ 9223372036854775807 := by
  obtain ⟨cs, rfl, _⟩ := okWide_struct Tryz.underlying53 hv
  obtain ⟨fuel, hf⟩ := h
  obtain ⟨s, n, hr, hz⟩ := quest_of hf
  refine ⟨s, n, ?_, hz⟩
  have e : cs.toList = [.string s, .int .i64 n] := hr
  rw [show cs = ([.string s, .int .i64 n] : List Value).toArray from by rw [← e]]

theorem twelve_of {cs : List Value} {x0 x6 x8 : Int} {b1 b2 b3 b4 b5 : Bool} {s7 : ByteArray} {v1 v2 v3 : Value} (h : cs.length = 12)
    (e0 : (cs.drop 0).take 1 = [.int .i64 x0]) (e1 : (cs.drop 1).take 1 = [.bool b1]) (e2 : (cs.drop 2).take 1 = [.bool b2]) (e3 : (cs.drop 3).take 1 = [.bool b3]) (e4 : (cs.drop 4).take 1 = [.bool b4]) (e5 : (cs.drop 5).take 1 = [.bool b5]) (e6 : (cs.drop 6).take 1 = [.int .i64 x6]) (e7 : (cs.drop 7).take 2 = [.string s7, .int .i64 x8])
    (e9 : (cs.drop 9).take 1 = [v1]) (e10 : (cs.drop 10).take 1 = [v2]) (e11 : (cs.drop 11).take 1 = [v3]) : cs = mc ⟨x0, b1, b2, b3, b4, b5, x6, s7, x8⟩ v1 v2 v3 := by
  match cs, h with
  | [c0, c1, c2, c3, c4, c5, c6, c7, c8, c9, c10, c11], _ =>
    simp only [List.drop_zero, List.drop_succ_cons, List.take_succ_cons, List.take_zero, List.cons.injEq, and_true] at e0 e1 e2 e3 e4 e5 e6 e7 e9 e10 e11
    obtain ⟨e7, e8⟩ := e7
    subst e0 e1 e2 e3 e4 e5 e6 e7 e8 e9 e10 e11
    rfl

theorem slice_cells {fuel : Nat} {cs : List Value} {x : DataW H × List MemPlace} (h : DataW.trod enc Tryz.prog w base spare held fuel 54 cs = some x) : ∃ a len cap, cs = [.slice a len cap] := by
  rcases open_slice Tryz.underlying54 h with ⟨hcs, _⟩ | ⟨x, len', cap', m, n, D, Pl, hcs, _⟩
  · exact ⟨_, _, _, hcs⟩
  · exact ⟨_, _, _, hcs⟩
end

section
variable {H : Type} {enc : TypeId × Value → H} {w : World}

theorem recs_of {fuel : Nat} {cs : List Value} {x : DataW H × List MemPlace} (h : DataW.trod enc Tryz.prog w 0 (fun _ => true) true fuel 54 cs = some x) : ∃ a len cap l, cs = [.slice a len cap] ∧ IsRecs w a len l := by
  obtain ⟨a, len, cap, rfl⟩ := slice_cells h
  obtain ⟨d, p⟩ := x
  obtain ⟨l, hl⟩ := recs_in (a := a) (len := len) (cap := cap) (d := d) (p := p) ⟨fuel, h⟩
  exact ⟨a, len, cap, l, rfl, hl⟩

set_option maxRecDepth 100000 in
set_option maxHeartbeats 1000000 in
theorem msg_of {fuel : Nat} {cs : List Value} {x : DataW H × List MemPlace} (h : DataW.trod enc Tryz.prog w 0 (fun _ => true) true fuel 56 cs = some x) :
    ∃ (hd : Hd) (a1 : Option Addr) (n1 c1 : Nat) (l1 : List Rec) (a2 : Option Addr) (n2 c2 : Nat) (l2 : List Rec) (a3 : Option Addr) (n3 c3 : Nat) (l3 : List Rec),
      cs = mc hd (.slice a1 n1 c1) (.slice a2 n2 c2) (.slice a3 n3 c3) ∧ hd.qn.size ≤ 9223372036854775807 ∧ IsRecs w a1 n1 l1 ∧ IsRecs w a2 n2 l2 ∧ IsRecs w a3 n3 l3 := by
  obtain ⟨xs, n, _, _, hc, hl, hg⟩ := DataW.trod_struct Tryz.underlying56 h
  have h12 : cs.length = 12 := hc.trans (by kernel_rfl)
  have hx : xs.length = 11 := hl
  have kb : Tryz.prog.cellsOf 4 = 1 := by kernel_rfl
  have ki : Tryz.prog.cellsOf 3 = 1 := by kernel_rfl
  have kq : Tryz.prog.cellsOf 53 = 2 := by kernel_rfl
  have kr : Tryz.prog.cellsOf 54 = 1 := by kernel_rfl
  have g : ∀ i, i < 11 → xs[i]? = some (xs[i]!) := fun i hi => by rw [getElem!_pos xs i (by omega)]; exact List.getElem?_eq_getElem (by omega)
  have f0 := (hg 0 _ rfl).trans (g 0 (by omega))
  have f1 := (hg 1 _ rfl).trans (g 1 (by omega))
  have f2 := (hg 2 _ rfl).trans (g 2 (by omega))
  have f3 := (hg 3 _ rfl).trans (g 3 (by omega))
  have f4 := (hg 4 _ rfl).trans (g 4 (by omega))
  have f5 := (hg 5 _ rfl).trans (g 5 (by omega))
  have f6 := (hg 6 _ rfl).trans (g 6 (by omega))
  have f7 := (hg 7 _ rfl).trans (g 7 (by omega))
  have f8 := (hg 8 _ rfl).trans (g 8 (by omega))
  have f9 := (hg 9 _ rfl).trans (g 9 (by omega))
  have f10 := (hg 10 _ rfl).trans (g 10 (by omega))
  obtain ⟨x0, e0, _⟩ := DataW.trod_int Tryz.underlying3 f0
  obtain ⟨x1, e1, _⟩ := DataW.trod_bool Tryz.underlying4 f1
  obtain ⟨x2, e2, _⟩ := DataW.trod_bool Tryz.underlying4 f2
  obtain ⟨x3, e3, _⟩ := DataW.trod_bool Tryz.underlying4 f3
  obtain ⟨x4, e4, _⟩ := DataW.trod_bool Tryz.underlying4 f4
  obtain ⟨x5, e5, _⟩ := DataW.trod_bool Tryz.underlying4 f5
  obtain ⟨x6, e6, _⟩ := DataW.trod_int Tryz.underlying3 f6
  obtain ⟨s7, x7, e7, z7⟩ := quest_of f7
  obtain ⟨a8, n8, c8, l8, e8, z8⟩ := recs_of f8
  obtain ⟨a9, n9, c9, l9, e9, z9⟩ := recs_of f9
  obtain ⟨a10, n10, c10, l10, e10, z10⟩ := recs_of f10
  replace e0 : (cs.drop 0).take (Tryz.prog.cellsOf 3) = [.int .i64 x0] := e0
  replace e1 : (cs.drop 1).take (Tryz.prog.cellsOf 4) = [.bool x1] := e1
  replace e2 : (cs.drop 2).take (Tryz.prog.cellsOf 4) = [.bool x2] := e2
  replace e3 : (cs.drop 3).take (Tryz.prog.cellsOf 4) = [.bool x3] := e3
  replace e4 : (cs.drop 4).take (Tryz.prog.cellsOf 4) = [.bool x4] := e4
  replace e5 : (cs.drop 5).take (Tryz.prog.cellsOf 4) = [.bool x5] := e5
  replace e6 : (cs.drop 6).take (Tryz.prog.cellsOf 3) = [.int .i64 x6] := e6
  replace e7 : (cs.drop 7).take (Tryz.prog.cellsOf 53) = [.string s7, .int .i64 x7] := e7
  replace e8 : (cs.drop 9).take (Tryz.prog.cellsOf 54) = [.slice a8 n8 c8] := e8
  replace e9 : (cs.drop 10).take (Tryz.prog.cellsOf 54) = [.slice a9 n9 c9] := e9
  replace e10 : (cs.drop 11).take (Tryz.prog.cellsOf 54) = [.slice a10 n10 c10] := e10
  rw [ki] at e0 e6
  rw [kb] at e1 e2 e3 e4 e5
  rw [kq] at e7
  rw [kr] at e8 e9 e10
  exact ⟨⟨x0, x1, x2, x3, x4, x5, x6, s7, x7⟩, a8, n8, c8, l8, a9, n9, c9, l9, a10, n10, c10, l10, twelve_of h12 e0 e1 e2 e3 e4 e5 e6 e7 e8 e9 e10, z7, z8, z9, z10⟩

set_option maxRecDepth 100000 in
/-- A message that comes in. -/
theorem msg_in {r : Reach} {b0 : Nat} {v : Value} {d : DataW H} {p : List MemPlace} (hv : Value.okWide Tryz.prog w r b0 56 v) (h : DataW.Trod enc Tryz.prog w 0 (fun _ => true) true 56 v d p) :
    ∃ (hd : Hd) (a1 : Option Addr) (n1 c1 : Nat) (l1 : List Rec) (a2 : Option Addr) (n2 c2 : Nat) (l2 : List Rec) (a3 : Option Addr) (n3 c3 : Nat) (l3 : List Rec),
      v = .agg #[.int .i64 hd.id, .bool hd.rp, .bool hd.au, .bool hd.ct, .bool hd.wa, .bool hd.ca, .int .i64 hd.code, .string hd.qn, .int .i64 hd.qt, .slice a1 n1 c1, .slice a2 n2 c2, .slice a3 n3 c3] ∧ hd.qn.size ≤ 9223372036854775807 ∧ IsRecs w a1 n1 l1 ∧ IsRecs w a2 n2 l2 ∧ IsRecs w a3 n3 l3 := by
  obtain ⟨cs, rfl, _⟩ := okWide_struct Tryz.underlying56 hv
  obtain ⟨fuel, hf⟩ := h
  obtain ⟨hd, a1, n1, c1, l1, a2, n2, c2, l2, a3, n3, c3, l3, hr, hz⟩ := msg_of hf
  refine ⟨hd, a1, n1, c1, l1, a2, n2, c2, l2, a3, n3, c3, l3, ?_, hz⟩
  have e : cs.toList = mc hd (.slice a1 n1 c1) (.slice a2 n2 c2) (.slice a3 n3 c3) := hr
  rw [show cs = (mc hd (.slice a1 n1 c1) (.slice a2 n2 c2) (.slice a3 n3 c3)).toArray from by rw [← e]]
  rfl

end
end Go.Proofs.YtkfibepejlgniaaGreatDoor.RowM
