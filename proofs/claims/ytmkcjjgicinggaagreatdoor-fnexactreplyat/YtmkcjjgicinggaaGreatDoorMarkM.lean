/- What the law's own helpers markMsg and heldMsg do on a message with three slices of its own: every field of every record is overwritten by a mark of its own; and the marks are found. Condition: no mark is above 20000000. -/
import Derived.Test.YtmkcjjgicinggaaGreatDoorMarkR3
import Derived.Test.YtmkcjjgicinggaaGreatDoorResM
namespace Go.Proofs.YtmkcjjgicinggaaGreatDoor.MarkM
open Go.RowKit Go.Proofs.YtmkcjjgicinggaaGreatDoor.Mem Go.Proofs.YtmkcjjgicinggaaGreatDoor.MemR Go.Proofs.YtmkcjjgicinggaaGreatDoor.BoxR Go.Proofs.YtmkcjjgicinggaaGreatDoor.MemM Go.Proofs.YtmkcjjgicinggaaGreatDoor.MarkS Go.Proofs.YtmkcjjgicinggaaGreatDoor.MarkR3 Go.Proofs.YtmkcjjgicinggaaGreatDoor.ResM

/-- Only the blocks g1, g2, g3 of w have been turned. -/
def Turned (w w' : World) (g1 g2 g3 : Nat) : Prop := w.heap.size ≤ w'.heap.size ∧ (∀ g, g < w.heap.size → g ≠ g1 → g ≠ g2 → g ≠ g3 → w'.heap[g]? = w.heap[g]?) ∧ ∃ w1 w2 w3, Below w.heap.size w w1 ∧ w1.grownBy w2 (some g1) ∧ w2.grownBy w3 (some g2) ∧ w3.grownBy w' (some g3)
theorem Turned.bk {w w' : World} {g1 g2 g3 g : Nat} {t : TypeId} {cs : List Value} (h : Turned w w' g1 g2 g3) (k : Bk w g t cs) (e1 : g ≠ g1) (e2 : g ≠ g2) (e3 : g ≠ g3) : Bk w' g t cs := (h.2.1 g k.lt e1 e2 e3).trans k
theorem Turned.mx {w w' : World} {g1 g2 g3 g : Nat} {h : Hd} {x y z : Value} (k : Turned w w' g1 g2 g3) (m : Mx w g h x y z) (e1 : g ≠ g1) (e2 : g ≠ g2) (e3 : g ≠ g3) : Mx w' g h x y z := m.move fun _ => World.cell?_of_block (k.2.1 g m.lt e1 e2 e3)
theorem Turned.below {w0 w w' : World} {g1 g2 g3 : Nat} (h : Turned w w' g1 g2 g3) (hb : Below w0.heap.size w0 w) (e1 : w0.heap.size ≤ g1) (e2 : w0.heap.size ≤ g2) (e3 : w0.heap.size ≤ g3) : Below w0.heap.size w0 w' := by
  obtain ⟨_, _, w1, w2, w3, h0, h1, h2, h3⟩ := h
  have b1 := hb.trans (h0.mono hb.size)
  have b2 := b1.grown h1 b1.size (fun j hj => by cases hj; exact e1)
  have b3 := b2.grown h2 b2.size (fun j hj => by cases hj; exact e2)
  exact b3.grown h3 b3.size (fun j hj => by cases hj; exact e3)

theorem markMsg_none (h : Hd) (k : Int) (w : World) : Calls Tryz.prog 45 #[.agg #[.int .i64 h.id, .bool h.rp, .bool h.au, .bool h.ct, .bool h.wa, .bool h.ca, .int .i64 h.code, .string h.qn, .int .i64 h.qt, .slice none 0 0, .slice none 0 0, .slice none 0 0], .int .i64 k] w fun e w' => e = .returned (.int .i64 k) ∧ Below w.heap.size w w' := by
  go_enter Tryz.func45, Tryz.ntmps45
  go_wp2_with (go_at_call 101; refine (mark_none k _).mono ?_; rintro e w' ⟨rfl, rfl⟩)
  go_ret
  exact ⟨rfl, (Below.refl _ _).alloc (Nat.le_refl _) _⟩

theorem heldMsg_none (h : Hd) (k : Int) (w : World) (hk : 0 ≤ k) : Calls Tryz.prog 46 #[.agg #[.int .i64 h.id, .bool h.rp, .bool h.au, .bool h.ct, .bool h.wa, .bool h.ca, .int .i64 h.code, .string h.qn, .int .i64 h.qt, .slice none 0 0, .slice none 0 0, .slice none 0 0], .int .i64 k] w fun e w' => e = .returned (.int .i64 k) ∧ Below w.heap.size w w' := by
  have hk' : ¬ k < 0 := by omega
  go_enter Tryz.func46, Tryz.ntmps46
  go_wp2_with (go_at_call 102; refine (held_none k _).mono ?_; rintro e w' ⟨rfl, rfl⟩)
  go_ret
  exact ⟨rfl, (Below.refl _ _).alloc (Nat.le_refl _) _⟩

set_option maxHeartbeats 4000000 in
theorem markMsg_at (h : Hd) (g1 n1 c1 g2 n2 c2 g3 n3 c3 u : Nat) (l1 l2 l3 : List Rec) (r1 r2 r3 : List Value) (w : World) (b1 : Bk w g1 93 (fl l1 ++ r1)) (b2 : Bk w g2 93 (fl l2 ++ r2)) (b3 : Bk w g3 93 (fl l3 ++ r3))
    (k1 : l1.length = n1) (k2 : l2.length = n2) (k3 : l3.length = n3) (e12 : g1 < g2) (e23 : g2 < g3) (hp : 0 < u) (hn : u + 6 * (n1 + n2 + n3) ≤ 20000000) :
    Calls Tryz.prog 45 #[.agg #[.int .i64 h.id, .bool h.rp, .bool h.au, .bool h.ct, .bool h.wa, .bool h.ca, .int .i64 h.code, .string h.qn, .int .i64 h.qt, .slice (some ⟨g1, 0, none⟩) n1 c1, .slice (some ⟨g2, 0, none⟩) n2 c2, .slice (some ⟨g3, 0, none⟩) n3 c3], .int .i64 (u : Int)] w fun e w' => e = .returned (.int .i64 ((u + 6 * (n1 + n2 + n3) : Nat) : Int)) ∧ Bk w' g1 93 (fl (mkf u n1) ++ r1) ∧ Bk w' g2 93 (fl (mkf (u + 6 * n1) n2) ++ r2) ∧ Bk w' g3 93 (fl (mkf (u + 6 * n1 + 6 * n2) n3) ++ r3) ∧ Turned w w' g1 g2 g3 := by
  have L0 := Lib.hid ((Below.refl w.heap.size w).alloc (Nat.le_refl _) (.cells #[.int .i64 h.id, .bool h.rp, .bool h.au, .bool h.ct, .bool h.wa, .bool h.ca, .int .i64 h.code, .string h.qn, .int .i64 h.qt, .slice (some ⟨g1, 0, none⟩) n1 c1, .slice (some ⟨g2, 0, none⟩) n2 c2, .slice (some ⟨g3, 0, none⟩) n3 c3] 45))
  have X0 := Lib.hid (mx_new w 45 h (.slice (some ⟨g1, 0, none⟩) n1 c1) (.slice (some ⟨g2, 0, none⟩) n2 c2) (.slice (some ⟨g3, 0, none⟩) n3 c3))
  have lt1 := b1.lt
  have lt2 := b2.lt
  have lt3 := b3.lt
  have C0 := Lib.hid (b1.alloc (.cells #[.int .i64 h.id, .bool h.rp, .bool h.au, .bool h.ct, .bool h.wa, .bool h.ca, .int .i64 h.code, .string h.qn, .int .i64 h.qt, .slice (some ⟨g1, 0, none⟩) n1 c1, .slice (some ⟨g2, 0, none⟩) n2 c2, .slice (some ⟨g3, 0, none⟩) n3 c3] 45))
  have D0 := Lib.hid (b2.alloc (.cells #[.int .i64 h.id, .bool h.rp, .bool h.au, .bool h.ct, .bool h.wa, .bool h.ca, .int .i64 h.code, .string h.qn, .int .i64 h.qt, .slice (some ⟨g1, 0, none⟩) n1 c1, .slice (some ⟨g2, 0, none⟩) n2 c2, .slice (some ⟨g3, 0, none⟩) n3 c3] 45))
  have E0 := Lib.hid (b3.alloc (.cells #[.int .i64 h.id, .bool h.rp, .bool h.au, .bool h.ct, .bool h.wa, .bool h.ca, .int .i64 h.code, .string h.qn, .int .i64 h.qt, .slice (some ⟨g1, 0, none⟩) n1 c1, .slice (some ⟨g2, 0, none⟩) n2 c2, .slice (some ⟨g3, 0, none⟩) n3 c3] 45))
  have K1 := Lib.hid k1
  have K2 := Lib.hid k2
  have K3 := Lib.hid k3
  clear b1 b2 b3 k1 k2 k3
  go_enter Tryz.func45, Tryz.ntmps45
  go_wp2_with fail
  refine (markRecordS_at g1 n1 c1 u l1 r1 _ C0.out K1.out hp (by omega)).mono ?_
  rintro e w1 ⟨rfl, hb, hg⟩
  have G1 := Lib.hid hg
  have C1 := Lib.hid hb
  have X1 := Lib.hid (X0.out.grown hg (fun e => by have := Option.some.inj e; omega))
  have D1 := Lib.hid (D0.out.grown hg (fun e => by have := Option.some.inj e; omega))
  have E1 := Lib.hid (E0.out.grown hg (fun e => by have := Option.some.inj e; omega))
  have U1 : Hid ((u : Int) + 6 * (n1 : Int) = ((u + 6 * n1 : Nat) : Int)) := by show _ = _; omega
  rw [U1.out]
  clear hb hg X0 C0 D0 E0
  obtain ⟨x0, x1, x2, x3, x4, x5, x6, x7, x8, x9, x10, x11⟩ := X1.out
  generalize hu1 : u + 6 * n1 = u1 at *
  have V1 := Lib.hid hu1
  have v1 : u1 ≤ u + 6 * n1 ∧ u + 6 * n1 ≤ u1 := by omega
  clear hu1
  go_wp2_with fail
  refine (markRecordS_at g2 n2 c2 u1 l2 r2 w1 D1.out K2.out (by omega) (by omega)).mono ?_
  rintro e w2 ⟨rfl, hb, hg⟩
  have G2 := Lib.hid hg
  have D2 := Lib.hid hb
  have X2 := Lib.hid (X1.out.grown hg (fun e => by have := Option.some.inj e; omega))
  have C2 := Lib.hid (C1.out.grown hg (fun e => by have := Option.some.inj e; omega))
  have E2 := Lib.hid (E1.out.grown hg (fun e => by have := Option.some.inj e; omega))
  have U2 : Hid ((u1 : Int) + 6 * (n2 : Int) = ((u1 + 6 * n2 : Nat) : Int)) := by show _ = _; omega
  rw [U2.out]
  clear hb hg X1 C1 D1 E1 x0 x1 x2 x3 x4 x5 x6 x7 x8 x9 x10 x11
  obtain ⟨x0, x1, x2, x3, x4, x5, x6, x7, x8, x9, x10, x11⟩ := X2.out
  generalize hu2 : u1 + 6 * n2 = u2 at *
  have V2 := Lib.hid hu2
  have v2 : u2 ≤ u1 + 6 * n2 ∧ u1 + 6 * n2 ≤ u2 := by omega
  clear hu2
  go_wp2_with fail
  refine (markRecordS_at g3 n3 c3 u2 l3 r3 w2 E2.out K3.out (by omega) (by omega)).mono ?_
  rintro e w3 ⟨rfl, hb, hg⟩
  have G3 := Lib.hid hg
  have E3 := Lib.hid hb
  have C3 := Lib.hid (C2.out.grown hg (fun e => by have := Option.some.inj e; omega))
  have D3 := Lib.hid (D2.out.grown hg (fun e => by have := Option.some.inj e; omega))
  have U3 : Hid ((u2 : Int) + 6 * (n3 : Int) = ((u + 6 * (n1 + n2 + n3) : Nat) : Int)) := by show _ = _; omega
  rw [U3.out]
  clear hb hg X2 C2 D2 E2 x0 x1 x2 x3 x4 x5 x6 x7 x8 x9 x10 x11
  go_wp2
  go_ret
  have s1 := G1.out.size
  have s2 := G2.out.size
  have s3 := G3.out.size
  simp at s1
  refine ⟨rfl, C3.out, ?_, ?_, by omega, fun g hg n1 n2 n3 => ?_, _, w1, w2, L0.out, G1.out, G2.out, G3.out⟩
  · rw [V1.out]; exact D3.out
  · rw [V1.out, V2.out]; exact E3.out
  · exact (G3.out.block g (by omega) (fun e => n3 (Option.some.inj e))).trans ((G2.out.block g (by omega) (fun e => n2 (Option.some.inj e))).trans ((G1.out.block g (by simp; omega) (fun e => n1 (Option.some.inj e))).trans (L0.out.block g hg)))

set_option maxHeartbeats 4000000 in
theorem heldMsg_at (h : Hd) (g1 n1 c1 g2 n2 c2 g3 n3 c3 u : Nat) (r1 r2 r3 : List Value) (w : World) (b1 : Bk w g1 93 (fl (mkf u n1) ++ r1)) (b2 : Bk w g2 93 (fl (mkf (u + 6 * n1) n2) ++ r2)) (b3 : Bk w g3 93 (fl (mkf (u + 6 * n1 + 6 * n2) n3) ++ r3))
    (hp : 0 < u) (hn : u + 6 * (n1 + n2 + n3) ≤ 20000000) :
    Calls Tryz.prog 46 #[.agg #[.int .i64 h.id, .bool h.rp, .bool h.au, .bool h.ct, .bool h.wa, .bool h.ca, .int .i64 h.code, .string h.qn, .int .i64 h.qt, .slice (some ⟨g1, 0, none⟩) n1 c1, .slice (some ⟨g2, 0, none⟩) n2 c2, .slice (some ⟨g3, 0, none⟩) n3 c3], .int .i64 (u : Int)] w fun e w' => e = .returned (.int .i64 ((u + 6 * (n1 + n2 + n3) : Nat) : Int)) ∧ Below w.heap.size w w' := by
  have L0 := Lib.hid ((Below.refl w.heap.size w).alloc (Nat.le_refl _) (.cells #[.int .i64 h.id, .bool h.rp, .bool h.au, .bool h.ct, .bool h.wa, .bool h.ca, .int .i64 h.code, .string h.qn, .int .i64 h.qt, .slice (some ⟨g1, 0, none⟩) n1 c1, .slice (some ⟨g2, 0, none⟩) n2 c2, .slice (some ⟨g3, 0, none⟩) n3 c3] 45))
  have X0 := Lib.hid (mx_new w 45 h (.slice (some ⟨g1, 0, none⟩) n1 c1) (.slice (some ⟨g2, 0, none⟩) n2 c2) (.slice (some ⟨g3, 0, none⟩) n3 c3))
  have C0 := Lib.hid (b1.alloc (.cells #[.int .i64 h.id, .bool h.rp, .bool h.au, .bool h.ct, .bool h.wa, .bool h.ca, .int .i64 h.code, .string h.qn, .int .i64 h.qt, .slice (some ⟨g1, 0, none⟩) n1 c1, .slice (some ⟨g2, 0, none⟩) n2 c2, .slice (some ⟨g3, 0, none⟩) n3 c3] 45))
  have D0 := Lib.hid (b2.alloc (.cells #[.int .i64 h.id, .bool h.rp, .bool h.au, .bool h.ct, .bool h.wa, .bool h.ca, .int .i64 h.code, .string h.qn, .int .i64 h.qt, .slice (some ⟨g1, 0, none⟩) n1 c1, .slice (some ⟨g2, 0, none⟩) n2 c2, .slice (some ⟨g3, 0, none⟩) n3 c3] 45))
  have E0 := Lib.hid (b3.alloc (.cells #[.int .i64 h.id, .bool h.rp, .bool h.au, .bool h.ct, .bool h.wa, .bool h.ca, .int .i64 h.code, .string h.qn, .int .i64 h.qt, .slice (some ⟨g1, 0, none⟩) n1 c1, .slice (some ⟨g2, 0, none⟩) n2 c2, .slice (some ⟨g3, 0, none⟩) n3 c3] 45))
  clear b1 b2 b3
  go_enter Tryz.func46, Tryz.ntmps46
  go_wp2_with fail
  refine (heldRecordS_at g1 n1 c1 u r1 _ C0.out hp (by omega)).mono ?_
  rintro e w1 ⟨rfl, hl⟩
  have L1 := Lib.hid (L0.out.trans (hl.mono L0.out.size))
  have X1 := Lib.hid (X0.out.below hl)
  have D1 := Lib.hid (D0.out.below hl D0.out.lt)
  have E1 := Lib.hid (E0.out.below hl E0.out.lt)
  have U1 : Hid ((u : Int) + 6 * (n1 : Int) = ((u + 6 * n1 : Nat) : Int)) := by show _ = _; omega
  rw [U1.out]
  clear hl L0 X0 C0 D0 E0
  obtain ⟨x0, x1, x2, x3, x4, x5, x6, x7, x8, x9, x10, x11⟩ := X1.out
  generalize hu1 : u + 6 * n1 = u1 at *
  have v1 : u1 ≤ u + 6 * n1 ∧ u + 6 * n1 ≤ u1 := by omega
  have p1 : ¬ (u1 : Int) < 0 := by omega
  clear hu1
  go_wp2_with fail
  refine (heldRecordS_at g2 n2 c2 u1 r2 w1 D1.out (by omega) (by omega)).mono ?_
  rintro e w2 ⟨rfl, hl⟩
  have L2 := Lib.hid (L1.out.trans (hl.mono L1.out.size))
  have X2 := Lib.hid (X1.out.below hl)
  have E2 := Lib.hid (E1.out.below hl E1.out.lt)
  have U2 : Hid ((u1 : Int) + 6 * (n2 : Int) = ((u1 + 6 * n2 : Nat) : Int)) := by show _ = _; omega
  rw [U2.out]
  clear hl L1 X1 D1 E1 x0 x1 x2 x3 x4 x5 x6 x7 x8 x9 x10 x11
  obtain ⟨x0, x1, x2, x3, x4, x5, x6, x7, x8, x9, x10, x11⟩ := X2.out
  generalize hu2 : u1 + 6 * n2 = u2 at *
  have v2 : u2 ≤ u1 + 6 * n2 ∧ u1 + 6 * n2 ≤ u2 := by omega
  have p2 : ¬ (u2 : Int) < 0 := by omega
  clear hu2
  go_wp2_with fail
  refine (heldRecordS_at g3 n3 c3 u2 r3 w2 E2.out (by omega) (by omega)).mono ?_
  rintro e w3 ⟨rfl, hl⟩
  have L3 := Lib.hid (L2.out.trans (hl.mono L2.out.size))
  have U3 : Hid ((u2 : Int) + 6 * (n3 : Int) = ((u + 6 * (n1 + n2 + n3) : Nat) : Int)) := by show _ = _; omega
  rw [U3.out]
  clear hl L2 X2 E2 x0 x1 x2 x3 x4 x5 x6 x7 x8 x9 x10 x11
  obtain ⟨u3, hu3⟩ : ∃ u3, u + 6 * (n1 + n2 + n3) = u3 := ⟨_, rfl⟩
  rw [hu3]
  have p3 : ¬ (u3 : Int) < 0 := by omega
  have V3 := Lib.hid hu3
  clear hu3
  go_wp2
  go_ret
  exact ⟨by rw [V3.out]; rfl, L3.out⟩

theorem markMsg_one (h : Hd) (g1 n1 c1 g2 n2 c2 g3 n3 c3 : Nat) (l1 l2 l3 : List Rec) (r1 r2 r3 : List Value) (w : World) (b1 : Bk w g1 93 (fl l1 ++ r1)) (b2 : Bk w g2 93 (fl l2 ++ r2)) (b3 : Bk w g3 93 (fl l3 ++ r3))
    (k1 : l1.length = n1) (k2 : l2.length = n2) (k3 : l3.length = n3) (e12 : g1 < g2) (e23 : g2 < g3) (hn : 1 + 6 * (n1 + n2 + n3) ≤ 20000000) :
    Calls Tryz.prog 45 #[.agg #[.int .i64 h.id, .bool h.rp, .bool h.au, .bool h.ct, .bool h.wa, .bool h.ca, .int .i64 h.code, .string h.qn, .int .i64 h.qt, .slice (some ⟨g1, 0, none⟩) n1 c1, .slice (some ⟨g2, 0, none⟩) n2 c2, .slice (some ⟨g3, 0, none⟩) n3 c3], .int .i64 1] w fun e w' => e = .returned (.int .i64 ((1 + 6 * (n1 + n2 + n3) : Nat) : Int)) ∧ Bk w' g1 93 (fl (mkf 1 n1) ++ r1) ∧ Bk w' g2 93 (fl (mkf (1 + 6 * n1) n2) ++ r2) ∧ Bk w' g3 93 (fl (mkf (1 + 6 * n1 + 6 * n2) n3) ++ r3) ∧ Turned w w' g1 g2 g3 :=
  markMsg_at h g1 n1 c1 g2 n2 c2 g3 n3 c3 1 l1 l2 l3 r1 r2 r3 w b1 b2 b3 k1 k2 k3 e12 e23 (by omega) hn

theorem heldMsg_one (h : Hd) (g1 n1 c1 g2 n2 c2 g3 n3 c3 : Nat) (r1 r2 r3 : List Value) (w : World) (b1 : Bk w g1 93 (fl (mkf 1 n1) ++ r1)) (b2 : Bk w g2 93 (fl (mkf (1 + 6 * n1) n2) ++ r2)) (b3 : Bk w g3 93 (fl (mkf (1 + 6 * n1 + 6 * n2) n3) ++ r3))
    (hn : 1 + 6 * (n1 + n2 + n3) ≤ 20000000) :
    Calls Tryz.prog 46 #[.agg #[.int .i64 h.id, .bool h.rp, .bool h.au, .bool h.ct, .bool h.wa, .bool h.ca, .int .i64 h.code, .string h.qn, .int .i64 h.qt, .slice (some ⟨g1, 0, none⟩) n1 c1, .slice (some ⟨g2, 0, none⟩) n2 c2, .slice (some ⟨g3, 0, none⟩) n3 c3], .int .i64 1] w fun e w' => e = .returned (.int .i64 ((1 + 6 * (n1 + n2 + n3) : Nat) : Int)) ∧ Below w.heap.size w w' :=
  heldMsg_at h g1 n1 c1 g2 n2 c2 g3 n3 c3 1 r1 r2 r3 w b1 b2 b3 (by omega) hn
end Go.Proofs.YtmkcjjgicinggaaGreatDoor.MarkM
