/- What the law's own helpers toQuest and toMsg do: the same question; the same message with new slices of the same records. Condition: fewer than 400000001 records in each section. -/
import Derived.Test.YtmkcjjgicinggaaGreatDoorCopyR
import Derived.Test.YtmkcjjgicinggaaGreatDoorResM
namespace Go.Proofs.YtmkcjjgicinggaaGreatDoor.ToM
open Go.RowKit Go.Proofs.YtmkcjjgicinggaaGreatDoor.Mem Go.Proofs.YtmkcjjgicinggaaGreatDoor.MemR Go.Proofs.YtmkcjjgicinggaaGreatDoor.BoxR Go.Proofs.YtmkcjjgicinggaaGreatDoor.MemM Go.Proofs.YtmkcjjgicinggaaGreatDoor.CopyR Go.Proofs.YtmkcjjgicinggaaGreatDoor.ResM

set_option maxHeartbeats 1000000 in
theorem toQuest_any (s : ByteArray) (n : Int) (w : World) : Calls Tryz.prog 97 #[.agg #[.string s, .int .i64 n]] w fun e w' => e = .returned (.agg #[.string s, .int .i64 n]) ∧ Below w.heap.size w w' := by
  go_enter Tryz.func97, Tryz.ntmps97
  go_wp2
  refine bodyPost_ret (v := .agg #[.string s, .int .i64 n]) (by simp [results, Tryz.results97, go_sem]) rfl ⟨rfl, ?_⟩
  repeat (first | exact Below.refl _ _ | refine Below.setCell ?_ (by simp; try omega) _ | refine Below.alloc ?_ (by simp; try omega) _)

theorem toRecordS_g (A : Option Addr) (n c : Nat) (l : List Rec) (w : World) (hs : Sr w w.heap.size A n l) (hn : n ≤ 400000000) :
    Calls Tryz.prog 98 #[.slice A n c] w fun e w' => ∃ g, e = .returned (.slice (some ⟨g, 0, none⟩) n n) ∧ Bk w' g 93 (fl l) ∧ w.heap.size ≤ g ∧ Below w.heap.size w w' :=
  (toRecordS_any A n c l w hs hn).mono fun _ _ ⟨h1, h2, h3⟩ => ⟨_, h1, h2, Nat.le_refl _, h3⟩

set_option maxRecDepth 100000 in
set_option maxHeartbeats 4000000 in
theorem toMsg_any (h : Hd) (A1 : Option Addr) (n1 c1 : Nat) (l1 : List Rec) (A2 : Option Addr) (n2 c2 : Nat) (l2 : List Rec) (A3 : Option Addr) (n3 c3 : Nat) (l3 : List Rec) (w : World)
    (s1 : Sr w w.heap.size A1 n1 l1) (m1 : n1 ≤ 400000000) (s2 : Sr w w.heap.size A2 n2 l2) (m2 : n2 ≤ 400000000) (s3 : Sr w w.heap.size A3 n3 l3) (m3 : n3 ≤ 400000000) :
    Calls Tryz.prog 43 #[.agg #[.int .i64 h.id, .bool h.rp, .bool h.au, .bool h.ct, .bool h.wa, .bool h.ca, .int .i64 h.code, .string h.qn, .int .i64 h.qt, .slice A1 n1 c1, .slice A2 n2 c2, .slice A3 n3 c3]] w (GivesM w h n1 n2 n3 l1 l2 l3) := by
  have S0 := Lib.hid s1
  have T0 := Lib.hid s2
  have U0 := Lib.hid s3
  clear s1 s2 s3
  have P0 := Lib.hid (((mx_new w 73 h (.slice A1 n1 c1) (.slice A2 n2 c2) (.slice A3 n3 c3)).alloc (.cells #[.int .i64 0, .bool false, .bool false, .bool false, .bool false, .bool false, .int .i64 0, .string ⟨#[]⟩, .int .i64 0, .slice none 0 0, .slice none 0 0, .slice none 0 0] 45)).alloc (.cells #[.int .i64 h.id, .bool h.rp, .bool h.au, .bool h.ct, .bool h.wa, .bool h.ca, .int .i64 h.code, .string ⟨#[]⟩, .int .i64 0, .slice none 0 0, .slice none 0 0, .slice none 0 0] 45))
  have R0 := Lib.hid ((at2 (w := w) (a := .cells #[.int .i64 h.id, .bool h.rp, .bool h.au, .bool h.ct, .bool h.wa, .bool h.ca, .int .i64 h.code, .string h.qn, .int .i64 h.qt, .slice A1 n1 c1, .slice A2 n2 c2, .slice A3 n3 c3] 73) (cs := #[.int .i64 0, .bool false, .bool false, .bool false, .bool false, .bool false, .int .i64 0, .string ⟨#[]⟩, .int .i64 0, .slice none 0 0, .slice none 0 0, .slice none 0 0]) (t := 45)).alloc (.cells #[.int .i64 h.id, .bool h.rp, .bool h.au, .bool h.ct, .bool h.wa, .bool h.ca, .int .i64 h.code, .string ⟨#[]⟩, .int .i64 0, .slice none 0 0, .slice none 0 0, .slice none 0 0] 45))
  have O0 := Lib.hid (at3 (w := w) (a := .cells #[.int .i64 h.id, .bool h.rp, .bool h.au, .bool h.ct, .bool h.wa, .bool h.ca, .int .i64 h.code, .string h.qn, .int .i64 h.qt, .slice A1 n1 c1, .slice A2 n2 c2, .slice A3 n3 c3] 73) (b := .cells #[.int .i64 0, .bool false, .bool false, .bool false, .bool false, .bool false, .int .i64 0, .string ⟨#[]⟩, .int .i64 0, .slice none 0 0, .slice none 0 0, .slice none 0 0] 45) (cs := #[.int .i64 h.id, .bool h.rp, .bool h.au, .bool h.ct, .bool h.wa, .bool h.ca, .int .i64 h.code, .string ⟨#[]⟩, .int .i64 0, .slice none 0 0, .slice none 0 0, .slice none 0 0]) (t := 45))
  have L0 := Lib.hid ((((Below.refl w.heap.size w).alloc (Nat.le_refl _) (.cells #[.int .i64 h.id, .bool h.rp, .bool h.au, .bool h.ct, .bool h.wa, .bool h.ca, .int .i64 h.code, .string h.qn, .int .i64 h.qt, .slice A1 n1 c1, .slice A2 n2 c2, .slice A3 n3 c3] 73)).alloc (by simp) (.cells #[.int .i64 0, .bool false, .bool false, .bool false, .bool false, .bool false, .int .i64 0, .string ⟨#[]⟩, .int .i64 0, .slice none 0 0, .slice none 0 0, .slice none 0 0] 45)).alloc (by simp; omega) (.cells #[.int .i64 h.id, .bool h.rp, .bool h.au, .bool h.ct, .bool h.wa, .bool h.ca, .int .i64 h.code, .string ⟨#[]⟩, .int .i64 0, .slice none 0 0, .slice none 0 0, .slice none 0 0] 45))
  go_enter Tryz.func43, Tryz.ntmps43
  go_wp2_with fail
  refine (toQuest_any h.qn h.qt _).mono ?_
  rintro e w1 ⟨rfl, hl⟩
  have P1 := Lib.hid (P0.out.below hl)
  have R1 := Lib.hid (R0.out.below hl R0.out.lt)
  have O1 := Lib.hid (O0.out.below hl O0.out.lt)
  have L1 := Lib.hid (L0.out.trans (hl.mono L0.out.size))
  clear hl P0 R0 O0 L0
  have z7 : w1.cell? ⟨w.heap.size + 1 + 1, 7, none⟩ = some (.string ⟨#[]⟩) := O1.out.cell 7
  have z8 : w1.cell? ⟨w.heap.size + 1 + 1, 8, none⟩ = some (.int .i64 0) := O1.out.cell 8
  have f7 := O1.out.free 7
  have f8 := O1.out.free 8
  have O2 := Lib.hid ((O1.out.set 7 (.string h.qn)).set 8 (.int .i64 h.qt))
  have R2 := Lib.hid ((R1.out.other (p := ⟨w.heap.size + 1 + 1, 7, none⟩) (by simp) (.string h.qn)).other (p := ⟨w.heap.size + 1 + 1, 8, none⟩) (by simp) (.int .i64 h.qt))
  have L2 := Lib.hid ((L1.out.setCell (p := ⟨w.heap.size + 1 + 1, 7, none⟩) (by simp; omega) (.string h.qn)).setCell (p := ⟨w.heap.size + 1 + 1, 8, none⟩) (by simp; omega) (.int .i64 h.qt))
  have P2 := Lib.hid (P1.out.set2 (p := ⟨w.heap.size + 1 + 1, 7, none⟩) (q := ⟨w.heap.size + 1 + 1, 8, none⟩) (show w.heap.size ≠ w.heap.size + 1 + 1 by omega) (show w.heap.size ≠ w.heap.size + 1 + 1 by omega) (.string h.qn) (.int .i64 h.qt))
  obtain ⟨x0, x1, x2, x3, x4, x5, x6, x7, x8, x9, x10, x11⟩ := P1.out
  go_wp2_with fail
  refine (toRecordS_g A1 n1 c1 l1 _ (S0.out.on L2.out) m1).mono ?_
  rintro e w3 ⟨g1, rfl, hb, hg, hl⟩
  have Ng1 : Hid (w.heap.size + 1 + 1 < g1) := Nat.lt_of_lt_of_le O2.out.lt hg
  have Bg13 := Lib.hid hb
  have P3 := Lib.hid (P2.out.below hl)
  have R3 := Lib.hid (R2.out.below hl R2.out.lt)
  have O3 := Lib.hid (O2.out.below hl O2.out.lt)
  have L3 := Lib.hid (L2.out.trans (hl.mono L2.out.size))
  clear hb hg hl P2 R2 O2 L2 x0 x1 x2 x3 x4 x5 x6 x7 x8 x9 x10 x11 z7 z8 f7 f8  P1 R1 O1 L1
  have z9 : w3.cell? ⟨w.heap.size + 1 + 1, 9, none⟩ = some (.slice none 0 0) := O3.out.cell 9
  have f9 := O3.out.free 9
  have O4 := Lib.hid (O3.out.set 9 (.slice (some ⟨g1, 0, none⟩) n1 n1))
  have R4 := Lib.hid (R3.out.other (p := ⟨w.heap.size + 1 + 1, 9, none⟩) (by simp) (.slice (some ⟨g1, 0, none⟩) n1 n1))
  have L4 := Lib.hid (L3.out.setCell (p := ⟨w.heap.size + 1 + 1, 9, none⟩) (by simp; omega) (.slice (some ⟨g1, 0, none⟩) n1 n1))
  have P4 := Lib.hid (P3.out.set1 (p := ⟨w.heap.size + 1 + 1, 9, none⟩) (show w.heap.size ≠ w.heap.size + 1 + 1 by omega) (.slice (some ⟨g1, 0, none⟩) n1 n1))
  have Bg14 := Lib.hid (Bg13.out.other (p := ⟨w.heap.size + 1 + 1, 9, none⟩) (Nat.ne_of_gt Ng1.out) (.slice (some ⟨g1, 0, none⟩) n1 n1))
  obtain ⟨x0, x1, x2, x3, x4, x5, x6, x7, x8, x9, x10, x11⟩ := P3.out
  go_wp2_with fail
  refine (toRecordS_g A2 n2 c2 l2 _ (T0.out.on L4.out) m2).mono ?_
  rintro e w5 ⟨g2, rfl, hb, hg, hl⟩
  have Ng2 : Hid (w.heap.size + 1 + 1 < g2) := Nat.lt_of_lt_of_le O4.out.lt hg
  have Bg25 := Lib.hid hb
  have Qg1g2 := Lib.hid (Nat.lt_of_lt_of_le Bg14.out.lt hg)
  have Bg15 := Lib.hid (Bg14.out.below hl Bg14.out.lt)
  have P5 := Lib.hid (P4.out.below hl)
  have R5 := Lib.hid (R4.out.below hl R4.out.lt)
  have O5 := Lib.hid (O4.out.below hl O4.out.lt)
  have L5 := Lib.hid (L4.out.trans (hl.mono L4.out.size))
  clear hb hg hl P4 R4 O4 L4 x0 x1 x2 x3 x4 x5 x6 x7 x8 x9 x10 x11 z9 f9 Bg14 P3 R3 O3 L3 Bg13
  have z10 : w5.cell? ⟨w.heap.size + 1 + 1, 10, none⟩ = some (.slice none 0 0) := O5.out.cell 10
  have f10 := O5.out.free 10
  have O6 := Lib.hid (O5.out.set 10 (.slice (some ⟨g2, 0, none⟩) n2 n2))
  have R6 := Lib.hid (R5.out.other (p := ⟨w.heap.size + 1 + 1, 10, none⟩) (by simp) (.slice (some ⟨g2, 0, none⟩) n2 n2))
  have L6 := Lib.hid (L5.out.setCell (p := ⟨w.heap.size + 1 + 1, 10, none⟩) (by simp; omega) (.slice (some ⟨g2, 0, none⟩) n2 n2))
  have P6 := Lib.hid (P5.out.set1 (p := ⟨w.heap.size + 1 + 1, 10, none⟩) (show w.heap.size ≠ w.heap.size + 1 + 1 by omega) (.slice (some ⟨g2, 0, none⟩) n2 n2))
  have Bg16 := Lib.hid (Bg15.out.other (p := ⟨w.heap.size + 1 + 1, 10, none⟩) (Nat.ne_of_gt Ng1.out) (.slice (some ⟨g2, 0, none⟩) n2 n2))
  have Bg26 := Lib.hid (Bg25.out.other (p := ⟨w.heap.size + 1 + 1, 10, none⟩) (Nat.ne_of_gt Ng2.out) (.slice (some ⟨g2, 0, none⟩) n2 n2))
  obtain ⟨x0, x1, x2, x3, x4, x5, x6, x7, x8, x9, x10, x11⟩ := P5.out
  go_wp2_with fail
  refine (toRecordS_g A3 n3 c3 l3 _ (U0.out.on L6.out) m3).mono ?_
  rintro e w7 ⟨g3, rfl, hb, hg, hl⟩
  have Ng3 : Hid (w.heap.size + 1 + 1 < g3) := Nat.lt_of_lt_of_le O6.out.lt hg
  have Bg37 := Lib.hid hb
  have Qg1g3 := Lib.hid (Nat.lt_of_lt_of_le Bg16.out.lt hg)
  have Qg2g3 := Lib.hid (Nat.lt_of_lt_of_le Bg26.out.lt hg)
  have Bg17 := Lib.hid (Bg16.out.below hl Bg16.out.lt)
  have Bg27 := Lib.hid (Bg26.out.below hl Bg26.out.lt)
  have P7 := Lib.hid (P6.out.below hl)
  have R7 := Lib.hid (R6.out.below hl R6.out.lt)
  have O7 := Lib.hid (O6.out.below hl O6.out.lt)
  have L7 := Lib.hid (L6.out.trans (hl.mono L6.out.size))
  clear hb hg hl P6 R6 O6 L6 x0 x1 x2 x3 x4 x5 x6 x7 x8 x9 x10 x11 z10 f10 Bg16 Bg26 P5 R5 O5 L5 Bg15 Bg25
  have z11 : w7.cell? ⟨w.heap.size + 1 + 1, 11, none⟩ = some (.slice none 0 0) := O7.out.cell 11
  have f11 := O7.out.free 11
  have O8 := Lib.hid (O7.out.set 11 (.slice (some ⟨g3, 0, none⟩) n3 n3))
  have R8 := Lib.hid (R7.out.other (p := ⟨w.heap.size + 1 + 1, 11, none⟩) (by simp) (.slice (some ⟨g3, 0, none⟩) n3 n3))
  have L8 := Lib.hid (L7.out.setCell (p := ⟨w.heap.size + 1 + 1, 11, none⟩) (by simp; omega) (.slice (some ⟨g3, 0, none⟩) n3 n3))
  have P8 := Lib.hid (P7.out.set1 (p := ⟨w.heap.size + 1 + 1, 11, none⟩) (show w.heap.size ≠ w.heap.size + 1 + 1 by omega) (.slice (some ⟨g3, 0, none⟩) n3 n3))
  have Bg18 := Lib.hid (Bg17.out.other (p := ⟨w.heap.size + 1 + 1, 11, none⟩) (Nat.ne_of_gt Ng1.out) (.slice (some ⟨g3, 0, none⟩) n3 n3))
  have Bg28 := Lib.hid (Bg27.out.other (p := ⟨w.heap.size + 1 + 1, 11, none⟩) (Nat.ne_of_gt Ng2.out) (.slice (some ⟨g3, 0, none⟩) n3 n3))
  have Bg38 := Lib.hid (Bg37.out.other (p := ⟨w.heap.size + 1 + 1, 11, none⟩) (Nat.ne_of_gt Ng3.out) (.slice (some ⟨g3, 0, none⟩) n3 n3))
  obtain ⟨x0, x1, x2, x3, x4, x5, x6, x7, x8, x9, x10, x11⟩ := P7.out
  have o0 : w7.cell? ⟨w.heap.size + 1 + 1, 0, none⟩ = some (.int .i64 h.id) := O7.out.cell 0
  have o1 : w7.cell? ⟨w.heap.size + 1 + 1, 1, none⟩ = some (.bool h.rp) := O7.out.cell 1
  have o2 : w7.cell? ⟨w.heap.size + 1 + 1, 2, none⟩ = some (.bool h.au) := O7.out.cell 2
  have o3 : w7.cell? ⟨w.heap.size + 1 + 1, 3, none⟩ = some (.bool h.ct) := O7.out.cell 3
  have o4 : w7.cell? ⟨w.heap.size + 1 + 1, 4, none⟩ = some (.bool h.wa) := O7.out.cell 4
  have o5 : w7.cell? ⟨w.heap.size + 1 + 1, 5, none⟩ = some (.bool h.ca) := O7.out.cell 5
  have o6 : w7.cell? ⟨w.heap.size + 1 + 1, 6, none⟩ = some (.int .i64 h.code) := O7.out.cell 6
  have o7 : w7.cell? ⟨w.heap.size + 1 + 1, 7, none⟩ = some (.string h.qn) := O7.out.cell 7
  have o8 : w7.cell? ⟨w.heap.size + 1 + 1, 8, none⟩ = some (.int .i64 h.qt) := O7.out.cell 8
  have o9 : w7.cell? ⟨w.heap.size + 1 + 1, 9, none⟩ = some (.slice (some ⟨g1, 0, none⟩) n1 n1) := O7.out.cell 9
  have o10 : w7.cell? ⟨w.heap.size + 1 + 1, 10, none⟩ = some (.slice (some ⟨g2, 0, none⟩) n2 n2) := O7.out.cell 10
  have r0 : w7.cell? ⟨w.heap.size + 1, 0, none⟩ = some (.int .i64 0) := R7.out.cell 0
  have q0 := R7.out.free 0
  have r1 : w7.cell? ⟨w.heap.size + 1, 1, none⟩ = some (.bool false) := R7.out.cell 1
  have q1 := R7.out.free 1
  have r2 : w7.cell? ⟨w.heap.size + 1, 2, none⟩ = some (.bool false) := R7.out.cell 2
  have q2 := R7.out.free 2
  have r3 : w7.cell? ⟨w.heap.size + 1, 3, none⟩ = some (.bool false) := R7.out.cell 3
  have q3 := R7.out.free 3
  have r4 : w7.cell? ⟨w.heap.size + 1, 4, none⟩ = some (.bool false) := R7.out.cell 4
  have q4 := R7.out.free 4
  have r5 : w7.cell? ⟨w.heap.size + 1, 5, none⟩ = some (.bool false) := R7.out.cell 5
  have q5 := R7.out.free 5
  have r6 : w7.cell? ⟨w.heap.size + 1, 6, none⟩ = some (.int .i64 0) := R7.out.cell 6
  have q6 := R7.out.free 6
  have r7 : w7.cell? ⟨w.heap.size + 1, 7, none⟩ = some (.string ⟨#[]⟩) := R7.out.cell 7
  have q7 := R7.out.free 7
  have r8 : w7.cell? ⟨w.heap.size + 1, 8, none⟩ = some (.int .i64 0) := R7.out.cell 8
  have q8 := R7.out.free 8
  have r9 : w7.cell? ⟨w.heap.size + 1, 9, none⟩ = some (.slice none 0 0) := R7.out.cell 9
  have q9 := R7.out.free 9
  have r10 : w7.cell? ⟨w.heap.size + 1, 10, none⟩ = some (.slice none 0 0) := R7.out.cell 10
  have q10 := R7.out.free 10
  have r11 : w7.cell? ⟨w.heap.size + 1, 11, none⟩ = some (.slice none 0 0) := R7.out.cell 11
  have q11 := R7.out.free 11
  have F := Lib.hid (filM_bk (h0 := zh) (x0 := .slice none 0 0) (y0 := .slice none 0 0) (z0 := .slice none 0 0) R8.out h (.slice (some ⟨g1, 0, none⟩) n1 n1) (.slice (some ⟨g2, 0, none⟩) n2 n2) (.slice (some ⟨g3, 0, none⟩) n3 n3))
  have E := Lib.hid (filM_below L8.out (g := w.heap.size + 1) (by omega) h (.slice (some ⟨g1, 0, none⟩) n1 n1) (.slice (some ⟨g2, 0, none⟩) n2 n2) (.slice (some ⟨g3, 0, none⟩) n3 n3))
  have I1 := Lib.hid (filM_other Bg18.out (g := w.heap.size + 1) (by have := Ng1.out; omega) h (.slice (some ⟨g1, 0, none⟩) n1 n1) (.slice (some ⟨g2, 0, none⟩) n2 n2) (.slice (some ⟨g3, 0, none⟩) n3 n3))
  have I2 := Lib.hid (filM_other Bg28.out (g := w.heap.size + 1) (by have := Ng2.out; omega) h (.slice (some ⟨g1, 0, none⟩) n1 n1) (.slice (some ⟨g2, 0, none⟩) n2 n2) (.slice (some ⟨g3, 0, none⟩) n3 n3))
  have I3 := Lib.hid (filM_other Bg38.out (g := w.heap.size + 1) (by have := Ng3.out; omega) h (.slice (some ⟨g1, 0, none⟩) n1 n1) (.slice (some ⟨g2, 0, none⟩) n2 n2) (.slice (some ⟨g3, 0, none⟩) n3 n3))
  go_wp2
  refine bodyPost_ret (v := .agg #[.int .i64 h.id, .bool h.rp, .bool h.au, .bool h.ct, .bool h.wa, .bool h.ca, .int .i64 h.code, .string h.qn, .int .i64 h.qt, .slice (some ⟨g1, 0, none⟩) n1 n1, .slice (some ⟨g2, 0, none⟩) n2 n2, .slice (some ⟨g3, 0, none⟩) n3 n3]) (res1M rfl F.out rfl) rfl ⟨g1, n1, [], g2, n2, [], g3, n3, [], rfl, ?_, ?_, ?_, ?_, Qg1g2.out, Qg2g3.out, E.out⟩
  · rw [List.append_nil]; exact I1.out
  · rw [List.append_nil]; exact I2.out
  · rw [List.append_nil]; exact I3.out
  · have := Ng1.out; omega
end Go.Proofs.YtmkcjjgicinggaaGreatDoor.ToM
