/- What CutsOf does in the model: the names of the cuts, each once. Condition: fewer than 400000001 records, no name of more than 400000000 bytes. -/
import Derived.Test.YtjgmocmaeadjdaaCpyR
import Derived.Test.YtjgmocmaeadjdaaKindsP2
import Derived.Deep.RegionHeld3
import Derived.Laws.Tables
import Derived.Test.YtjgmocmaeadjdaaZoneMath
import Derived.Test.YtjgmocmaeadjdaaResR
import Derived.Test.YtjgmocmaeadjdaaWt
import Derived.Test.YtjgmocmaeadjdaaKindsP1
import Derived.Test.YtjgmocmaeadjdaaAppS
import Derived.Test.YtjgmocmaeadjdaaMemZ
/- What ReplyTo does in the program and in the model: a reply with new slices of the same records. Condition: fewer than 400000001 records in each section. -/
namespace Go.Proofs.Ytjgmocmaeadjdaa.RepM
open Go.RowKit Go.Proofs.Ytjgmocmaeadjdaa.Mem Go.Proofs.Ytjgmocmaeadjdaa.MemR Go.Proofs.Ytjgmocmaeadjdaa.BoxR Go.Proofs.Ytjgmocmaeadjdaa.MemM Go.Proofs.Ytjgmocmaeadjdaa.CpyR Go.Proofs.Ytjgmocmaeadjdaa.ResM

/-- The head of a reply. -/
def rph (h : Hd) (code : Int) (au : Bool) : Hd := ⟨h.id, true, au, false, h.wa, false, code, h.qn, h.qt⟩
/-- The box g holds a message. A def, so that no step of a walk opens it. -/
def RB (w : World) (g : Nat) : Prop := ∃ cs : List Value, cs.length = 12 ∧ Bk w g 32 cs
/-- What a cell of the box holds. -/
def cv (w : World) (g j : Nat) : Value := (w.cell? ⟨g, j, none⟩).getD undef
theorem RB.below {w w' : World} {g : Nat} (k : RB w g) (hb : Below w.heap.size w w') : RB w' g := by
  obtain ⟨cs, hc, k⟩ := k
  exact ⟨cs, hc, k.below hb k.lt⟩
theorem RB.cell {w : World} {g : Nat} (k : RB w g) (j : Nat) (hj : j < 12) : w.cell? ⟨g, j, none⟩ = some (cv w g j) := by
  obtain ⟨cs, hc, k⟩ := k
  unfold cv
  rw [k.cell, List.getElem?_eq_getElem (show j < cs.length by omega)]
  rfl
theorem RB.free {w : World} {g : Nat} (k : RB w g) (j : Nat) : w.frozen? ⟨g, j, none⟩ = false := by
  obtain ⟨cs, hc, k⟩ := k
  exact k.free j
theorem twelve {cs : List Value} (h : cs.length = 12) : ∃ a0 a1 a2 a3 a4 a5 a6 a7 a8 a9 a10 a11 : Value, cs = [a0, a1, a2, a3, a4, a5, a6, a7, a8, a9, a10, a11] := by
  match cs, h with
  | [a0, a1, a2, a3, a4, a5, a6, a7, a8, a9, a10, a11], _ => exact ⟨a0, a1, a2, a3, a4, a5, a6, a7, a8, a9, a10, a11, rfl⟩
theorem RB.fil {w : World} {g : Nat} (k : RB w g) (h : Hd) (x y z : Value) : Bk (filM w g h x y z) g 32 (mc h x y z) := by
  obtain ⟨cs, hc, k⟩ := k
  obtain ⟨a0, a1, a2, a3, a4, a5, a6, a7, a8, a9, a10, a11, rfl⟩ := twelve hc
  exact ((((((((((((k.set 0 (.int .i64 h.id)).set 1 (.bool h.rp)).set 2 (.bool h.au)).set 3 (.bool h.ct)).set 4 (.bool h.wa)).set 5 (.bool h.ca)).set 6 (.int .i64 h.code)).set 7 (.string h.qn)).set 8 (.int .i64 h.qt)).set 9 (x)).set 10 (y)).set 11 (z))
theorem keptR {w w1 w2 : World} {h : Hd} (k : (w1.cell? ⟨w.heap.size, 0, none⟩ = some (.int .i64 h.id) ∧ w1.cell? ⟨w.heap.size, 4, none⟩ = some (.bool h.wa) ∧ w1.cell? ⟨w.heap.size, 7, none⟩ = some (.string h.qn) ∧ w1.cell? ⟨w.heap.size, 8, none⟩ = some (.int .i64 h.qt)) ∧ RB w1 (w.heap.size + 1) ∧ Sv w w1) (hl : Below w1.heap.size w1 w2) : (w2.cell? ⟨w.heap.size, 0, none⟩ = some (.int .i64 h.id) ∧ w2.cell? ⟨w.heap.size, 4, none⟩ = some (.bool h.wa) ∧ w2.cell? ⟨w.heap.size, 7, none⟩ = some (.string h.qn) ∧ w2.cell? ⟨w.heap.size, 8, none⟩ = some (.int .i64 h.qt)) ∧ RB w2 (w.heap.size + 1) ∧ Sv w w2 := by
  have a : w.heap.size < w1.heap.size := World.block_lt_of_cell? _ _ k.1.1
  exact ⟨⟨(hl.cell (p := ⟨w.heap.size, 0, none⟩) a).trans k.1.1, (hl.cell (p := ⟨w.heap.size, 4, none⟩) a).trans k.1.2.1, (hl.cell (p := ⟨w.heap.size, 7, none⟩) a).trans k.1.2.2.1, (hl.cell (p := ⟨w.heap.size, 8, none⟩) a).trans k.1.2.2.2⟩, k.2.1.below hl, k.2.2.trans (hl.mono k.2.2.size)⟩
theorem keptR_draw {w w1 : World} {h : Hd} (k : (w1.cell? ⟨w.heap.size, 0, none⟩ = some (.int .i64 h.id) ∧ w1.cell? ⟨w.heap.size, 4, none⟩ = some (.bool h.wa) ∧ w1.cell? ⟨w.heap.size, 7, none⟩ = some (.string h.qn) ∧ w1.cell? ⟨w.heap.size, 8, none⟩ = some (.int .i64 h.qt)) ∧ RB w1 (w.heap.size + 1) ∧ Sv w w1) : (w1.drew.cell? ⟨w.heap.size, 0, none⟩ = some (.int .i64 h.id) ∧ w1.drew.cell? ⟨w.heap.size, 4, none⟩ = some (.bool h.wa) ∧ w1.drew.cell? ⟨w.heap.size, 7, none⟩ = some (.string h.qn) ∧ w1.drew.cell? ⟨w.heap.size, 8, none⟩ = some (.int .i64 h.qt)) ∧ RB w1.drew (w.heap.size + 1) ∧ Sv w w1.drew := keptR k ((Below.refl _ _).drew)
theorem RB.put {w : World} {g : Nat} (k : RB w g) (j : Nat) (v : Value) : RB (w.setCell ⟨g, j, none⟩ v) g := by
  obtain ⟨cs, hc, k⟩ := k
  exact ⟨cs.set j v, by rw [List.length_set]; exact hc, k.set j v⟩
theorem keptR_put {w w1 : World} {h : Hd} (k : (w1.cell? ⟨w.heap.size, 0, none⟩ = some (.int .i64 h.id) ∧ w1.cell? ⟨w.heap.size, 4, none⟩ = some (.bool h.wa) ∧ w1.cell? ⟨w.heap.size, 7, none⟩ = some (.string h.qn) ∧ w1.cell? ⟨w.heap.size, 8, none⟩ = some (.int .i64 h.qt)) ∧ RB w1 (w.heap.size + 1) ∧ Sv w w1) (j : Nat) (v : Value) : ((w1.setCell ⟨w.heap.size + 1, j, none⟩ v).cell? ⟨w.heap.size, 0, none⟩ = some (.int .i64 h.id) ∧ (w1.setCell ⟨w.heap.size + 1, j, none⟩ v).cell? ⟨w.heap.size, 4, none⟩ = some (.bool h.wa) ∧ (w1.setCell ⟨w.heap.size + 1, j, none⟩ v).cell? ⟨w.heap.size, 7, none⟩ = some (.string h.qn) ∧ (w1.setCell ⟨w.heap.size + 1, j, none⟩ v).cell? ⟨w.heap.size, 8, none⟩ = some (.int .i64 h.qt)) ∧ RB (w1.setCell ⟨w.heap.size + 1, j, none⟩ v) (w.heap.size + 1) ∧ Sv w (w1.setCell ⟨w.heap.size + 1, j, none⟩ v) := by
  have e : ∀ i, (w1.setCell ⟨w.heap.size + 1, j, none⟩ v).cell? ⟨w.heap.size, i, none⟩ = w1.cell? ⟨w.heap.size, i, none⟩ := fun i =>
    ((Below.refl (w.heap.size + 1) w1).setCell (p := ⟨w.heap.size + 1, j, none⟩) (Nat.le_refl _) v).cell (p := ⟨w.heap.size, i, none⟩) (Nat.lt_succ_self _)
  exact ⟨⟨(e 0).trans k.1.1, (e 4).trans k.1.2.1, (e 7).trans k.1.2.2.1, (e 8).trans k.1.2.2.2⟩, k.2.1.put j v, Below.setCell k.2.2 (p := ⟨w.heap.size + 1, j, none⟩) (Nat.le_succ _) v⟩
theorem keptR_fil {w w1 : World} {h : Hd} (k : (w1.cell? ⟨w.heap.size, 0, none⟩ = some (.int .i64 h.id) ∧ w1.cell? ⟨w.heap.size, 4, none⟩ = some (.bool h.wa) ∧ w1.cell? ⟨w.heap.size, 7, none⟩ = some (.string h.qn) ∧ w1.cell? ⟨w.heap.size, 8, none⟩ = some (.int .i64 h.qt)) ∧ RB w1 (w.heap.size + 1) ∧ Sv w w1) (v0 v1 v2 v3 v4 v5 v6 v7 v8 v9 v10 v11 : Value) : (((((((((((((w1.setCell ⟨w.heap.size + 1, 0, none⟩ v0).setCell ⟨w.heap.size + 1, 1, none⟩ v1).setCell ⟨w.heap.size + 1, 2, none⟩ v2).setCell ⟨w.heap.size + 1, 3, none⟩ v3).setCell ⟨w.heap.size + 1, 4, none⟩ v4).setCell ⟨w.heap.size + 1, 5, none⟩ v5).setCell ⟨w.heap.size + 1, 6, none⟩ v6).setCell ⟨w.heap.size + 1, 7, none⟩ v7).setCell ⟨w.heap.size + 1, 8, none⟩ v8).setCell ⟨w.heap.size + 1, 9, none⟩ v9).setCell ⟨w.heap.size + 1, 10, none⟩ v10).setCell ⟨w.heap.size + 1, 11, none⟩ v11).cell? ⟨w.heap.size, 0, none⟩ = some (.int .i64 h.id) ∧ ((((((((((((w1.setCell ⟨w.heap.size + 1, 0, none⟩ v0).setCell ⟨w.heap.size + 1, 1, none⟩ v1).setCell ⟨w.heap.size + 1, 2, none⟩ v2).setCell ⟨w.heap.size + 1, 3, none⟩ v3).setCell ⟨w.heap.size + 1, 4, none⟩ v4).setCell ⟨w.heap.size + 1, 5, none⟩ v5).setCell ⟨w.heap.size + 1, 6, none⟩ v6).setCell ⟨w.heap.size + 1, 7, none⟩ v7).setCell ⟨w.heap.size + 1, 8, none⟩ v8).setCell ⟨w.heap.size + 1, 9, none⟩ v9).setCell ⟨w.heap.size + 1, 10, none⟩ v10).setCell ⟨w.heap.size + 1, 11, none⟩ v11).cell? ⟨w.heap.size, 4, none⟩ = some (.bool h.wa) ∧ ((((((((((((w1.setCell ⟨w.heap.size + 1, 0, none⟩ v0).setCell ⟨w.heap.size + 1, 1, none⟩ v1).setCell ⟨w.heap.size + 1, 2, none⟩ v2).setCell ⟨w.heap.size + 1, 3, none⟩ v3).setCell ⟨w.heap.size + 1, 4, none⟩ v4).setCell ⟨w.heap.size + 1, 5, none⟩ v5).setCell ⟨w.heap.size + 1, 6, none⟩ v6).setCell ⟨w.heap.size + 1, 7, none⟩ v7).setCell ⟨w.heap.size + 1, 8, none⟩ v8).setCell ⟨w.heap.size + 1, 9, none⟩ v9).setCell ⟨w.heap.size + 1, 10, none⟩ v10).setCell ⟨w.heap.size + 1, 11, none⟩ v11).cell? ⟨w.heap.size, 7, none⟩ = some (.string h.qn) ∧ ((((((((((((w1.setCell ⟨w.heap.size + 1, 0, none⟩ v0).setCell ⟨w.heap.size + 1, 1, none⟩ v1).setCell ⟨w.heap.size + 1, 2, none⟩ v2).setCell ⟨w.heap.size + 1, 3, none⟩ v3).setCell ⟨w.heap.size + 1, 4, none⟩ v4).setCell ⟨w.heap.size + 1, 5, none⟩ v5).setCell ⟨w.heap.size + 1, 6, none⟩ v6).setCell ⟨w.heap.size + 1, 7, none⟩ v7).setCell ⟨w.heap.size + 1, 8, none⟩ v8).setCell ⟨w.heap.size + 1, 9, none⟩ v9).setCell ⟨w.heap.size + 1, 10, none⟩ v10).setCell ⟨w.heap.size + 1, 11, none⟩ v11).cell? ⟨w.heap.size, 8, none⟩ = some (.int .i64 h.qt)) ∧ RB ((((((((((((w1.setCell ⟨w.heap.size + 1, 0, none⟩ v0).setCell ⟨w.heap.size + 1, 1, none⟩ v1).setCell ⟨w.heap.size + 1, 2, none⟩ v2).setCell ⟨w.heap.size + 1, 3, none⟩ v3).setCell ⟨w.heap.size + 1, 4, none⟩ v4).setCell ⟨w.heap.size + 1, 5, none⟩ v5).setCell ⟨w.heap.size + 1, 6, none⟩ v6).setCell ⟨w.heap.size + 1, 7, none⟩ v7).setCell ⟨w.heap.size + 1, 8, none⟩ v8).setCell ⟨w.heap.size + 1, 9, none⟩ v9).setCell ⟨w.heap.size + 1, 10, none⟩ v10).setCell ⟨w.heap.size + 1, 11, none⟩ v11) (w.heap.size + 1) ∧ Sv w ((((((((((((w1.setCell ⟨w.heap.size + 1, 0, none⟩ v0).setCell ⟨w.heap.size + 1, 1, none⟩ v1).setCell ⟨w.heap.size + 1, 2, none⟩ v2).setCell ⟨w.heap.size + 1, 3, none⟩ v3).setCell ⟨w.heap.size + 1, 4, none⟩ v4).setCell ⟨w.heap.size + 1, 5, none⟩ v5).setCell ⟨w.heap.size + 1, 6, none⟩ v6).setCell ⟨w.heap.size + 1, 7, none⟩ v7).setCell ⟨w.heap.size + 1, 8, none⟩ v8).setCell ⟨w.heap.size + 1, 9, none⟩ v9).setCell ⟨w.heap.size + 1, 10, none⟩ v10).setCell ⟨w.heap.size + 1, 11, none⟩ v11) :=
  (keptR_put (keptR_put (keptR_put (keptR_put (keptR_put (keptR_put (keptR_put (keptR_put (keptR_put (keptR_put (keptR_put (keptR_put k 0 v0) 1 v1) 2 v2) 3 v3) 4 v4) 5 v5) 6 v6) 7 v7) 8 v8) 9 v9) 10 v10) 11 v11)

set_option maxRecDepth 100000 in
set_option maxHeartbeats 8000000 in
theorem impl (h : Hd) (A1 A2 A3 : Option Addr) (n1 c1 n2 c2 n3 c3 : Nat) (code : Int) (au : Bool) (b1 o1 m1 d1 : Nat) (l1 : List Rec) (b2 o2 m2 d2 : Nat) (l2 : List Rec) (b3 o3 m3 d3 : Nat) (l3 : List Rec) (w : World)
    (s1 : Sr w w.heap.size (some ⟨b1, o1, none⟩) m1 l1) (z1 : m1 ≤ 400000000) (s2 : Sr w w.heap.size (some ⟨b2, o2, none⟩) m2 l2) (z2 : m2 ≤ 400000000) (s3 : Sr w w.heap.size (some ⟨b3, o3, none⟩) m3 l3) (z3 : m3 ≤ 400000000) :
    Calls Try.prog 39 #[.agg #[.int .i64 h.id, .bool h.rp, .bool h.au, .bool h.ct, .bool h.wa, .bool h.ca, .int .i64 h.code, .string h.qn, .int .i64 h.qt, .slice A1 n1 c1, .slice A2 n2 c2, .slice A3 n3 c3], .int .i64 code, .bool au, .slice (some ⟨b1, o1, none⟩) m1 d1, .slice (some ⟨b2, o2, none⟩) m2 d2, .slice (some ⟨b3, o3, none⟩) m3 d3] w (GivesM w (rph h code au) m1 m2 m3 l1 l2 l3) := by
  have C1 : Hid (∀ W : World, ((W.cell? ⟨w.heap.size, 0, none⟩ = some (.int .i64 h.id) ∧ W.cell? ⟨w.heap.size, 4, none⟩ = some (.bool h.wa) ∧ W.cell? ⟨w.heap.size, 7, none⟩ = some (.string h.qn) ∧ W.cell? ⟨w.heap.size, 8, none⟩ = some (.int .i64 h.qt)) ∧ RB W (w.heap.size + 1) ∧ Sv w W) → Calls Try.prog 61 #[.slice (some ⟨b1, o1, none⟩) m1 d1] W (GivesC W m1 l1)) := fun W hW => copyI b1 o1 m1 d1 l1 W (s1.on hW.2.2) z1
  have C2 : Hid (∀ W : World, ((W.cell? ⟨w.heap.size, 0, none⟩ = some (.int .i64 h.id) ∧ W.cell? ⟨w.heap.size, 4, none⟩ = some (.bool h.wa) ∧ W.cell? ⟨w.heap.size, 7, none⟩ = some (.string h.qn) ∧ W.cell? ⟨w.heap.size, 8, none⟩ = some (.int .i64 h.qt)) ∧ RB W (w.heap.size + 1) ∧ Sv w W) → Calls Try.prog 61 #[.slice (some ⟨b2, o2, none⟩) m2 d2] W (GivesC W m2 l2)) := fun W hW => copyI b2 o2 m2 d2 l2 W (s2.on hW.2.2) z2
  have C3 : Hid (∀ W : World, ((W.cell? ⟨w.heap.size, 0, none⟩ = some (.int .i64 h.id) ∧ W.cell? ⟨w.heap.size, 4, none⟩ = some (.bool h.wa) ∧ W.cell? ⟨w.heap.size, 7, none⟩ = some (.string h.qn) ∧ W.cell? ⟨w.heap.size, 8, none⟩ = some (.int .i64 h.qt)) ∧ RB W (w.heap.size + 1) ∧ Sv w W) → Calls Try.prog 61 #[.slice (some ⟨b3, o3, none⟩) m3 d3] W (GivesC W m3 l3)) := fun W hW => copyI b3 o3 m3 d3 l3 W (s3.on hW.2.2) z3
  have X0 := Lib.hid ((mx_new w 32 h (.slice A1 n1 c1) (.slice A2 n2 c2) (.slice A3 n3 c3)).alloc (.cells #[.int .i64 0, .bool false, .bool false, .bool false, .bool false, .bool false, .int .i64 0, .string ⟨#[]⟩, .int .i64 0, .slice none 0 0, .slice none 0 0, .slice none 0 0] 32))
  have R0 := Lib.hid (at2 (w := w) (a := .cells #[.int .i64 h.id, .bool h.rp, .bool h.au, .bool h.ct, .bool h.wa, .bool h.ca, .int .i64 h.code, .string h.qn, .int .i64 h.qt, .slice A1 n1 c1, .slice A2 n2 c2, .slice A3 n3 c3] 32) (cs := #[.int .i64 0, .bool false, .bool false, .bool false, .bool false, .bool false, .int .i64 0, .string ⟨#[]⟩, .int .i64 0, .slice none 0 0, .slice none 0 0, .slice none 0 0]) (t := 32))
  have L0 := Lib.hid (((Below.refl w.heap.size w).alloc (Nat.le_refl _) (.cells #[.int .i64 h.id, .bool h.rp, .bool h.au, .bool h.ct, .bool h.wa, .bool h.ca, .int .i64 h.code, .string h.qn, .int .i64 h.qt, .slice A1 n1 c1, .slice A2 n2 c2, .slice A3 n3 c3] 32)).alloc (by simp) (.cells #[.int .i64 0, .bool false, .bool false, .bool false, .bool false, .bool false, .int .i64 0, .string ⟨#[]⟩, .int .i64 0, .slice none 0 0, .slice none 0 0, .slice none 0 0] 32))
  have S0 : (((w.alloc (.cells #[.int .i64 h.id, .bool h.rp, .bool h.au, .bool h.ct, .bool h.wa, .bool h.ca, .int .i64 h.code, .string h.qn, .int .i64 h.qt, .slice A1 n1 c1, .slice A2 n2 c2, .slice A3 n3 c3] 32)).alloc (.cells #[.int .i64 0, .bool false, .bool false, .bool false, .bool false, .bool false, .int .i64 0, .string ⟨#[]⟩, .int .i64 0, .slice none 0 0, .slice none 0 0, .slice none 0 0] 32)).cell? ⟨w.heap.size, 0, none⟩ = some (.int .i64 h.id) ∧ ((w.alloc (.cells #[.int .i64 h.id, .bool h.rp, .bool h.au, .bool h.ct, .bool h.wa, .bool h.ca, .int .i64 h.code, .string h.qn, .int .i64 h.qt, .slice A1 n1 c1, .slice A2 n2 c2, .slice A3 n3 c3] 32)).alloc (.cells #[.int .i64 0, .bool false, .bool false, .bool false, .bool false, .bool false, .int .i64 0, .string ⟨#[]⟩, .int .i64 0, .slice none 0 0, .slice none 0 0, .slice none 0 0] 32)).cell? ⟨w.heap.size, 4, none⟩ = some (.bool h.wa) ∧ ((w.alloc (.cells #[.int .i64 h.id, .bool h.rp, .bool h.au, .bool h.ct, .bool h.wa, .bool h.ca, .int .i64 h.code, .string h.qn, .int .i64 h.qt, .slice A1 n1 c1, .slice A2 n2 c2, .slice A3 n3 c3] 32)).alloc (.cells #[.int .i64 0, .bool false, .bool false, .bool false, .bool false, .bool false, .int .i64 0, .string ⟨#[]⟩, .int .i64 0, .slice none 0 0, .slice none 0 0, .slice none 0 0] 32)).cell? ⟨w.heap.size, 7, none⟩ = some (.string h.qn) ∧ ((w.alloc (.cells #[.int .i64 h.id, .bool h.rp, .bool h.au, .bool h.ct, .bool h.wa, .bool h.ca, .int .i64 h.code, .string h.qn, .int .i64 h.qt, .slice A1 n1 c1, .slice A2 n2 c2, .slice A3 n3 c3] 32)).alloc (.cells #[.int .i64 0, .bool false, .bool false, .bool false, .bool false, .bool false, .int .i64 0, .string ⟨#[]⟩, .int .i64 0, .slice none 0 0, .slice none 0 0, .slice none 0 0] 32)).cell? ⟨w.heap.size, 8, none⟩ = some (.int .i64 h.qt)) ∧ RB ((w.alloc (.cells #[.int .i64 h.id, .bool h.rp, .bool h.au, .bool h.ct, .bool h.wa, .bool h.ca, .int .i64 h.code, .string h.qn, .int .i64 h.qt, .slice A1 n1 c1, .slice A2 n2 c2, .slice A3 n3 c3] 32)).alloc (.cells #[.int .i64 0, .bool false, .bool false, .bool false, .bool false, .bool false, .int .i64 0, .string ⟨#[]⟩, .int .i64 0, .slice none 0 0, .slice none 0 0, .slice none 0 0] 32)) (w.heap.size + 1) ∧ Sv w ((w.alloc (.cells #[.int .i64 h.id, .bool h.rp, .bool h.au, .bool h.ct, .bool h.wa, .bool h.ca, .int .i64 h.code, .string h.qn, .int .i64 h.qt, .slice A1 n1 c1, .slice A2 n2 c2, .slice A3 n3 c3] 32)).alloc (.cells #[.int .i64 0, .bool false, .bool false, .bool false, .bool false, .bool false, .int .i64 0, .string ⟨#[]⟩, .int .i64 0, .slice none 0 0, .slice none 0 0, .slice none 0 0] 32)) :=
    ⟨⟨X0.out.1, X0.out.2.2.2.2.1, X0.out.2.2.2.2.2.2.2.1, X0.out.2.2.2.2.2.2.2.2.1⟩, ⟨_, rfl, R0.out⟩, L0.out⟩
  clear s1 s2 s3
  generalize hW0 : ((w.alloc (.cells #[.int .i64 h.id, .bool h.rp, .bool h.au, .bool h.ct, .bool h.wa, .bool h.ca, .int .i64 h.code, .string h.qn, .int .i64 h.qt, .slice A1 n1 c1, .slice A2 n2 c2, .slice A3 n3 c3] 32)).alloc (.cells #[.int .i64 0, .bool false, .bool false, .bool false, .bool false, .bool false, .int .i64 0, .string ⟨#[]⟩, .int .i64 0, .slice none 0 0, .slice none 0 0, .slice none 0 0] 32)) = W0 at S0 R0 X0 L0
  go_enter Try.func39, Try.ntmps39
  go_wp2
  go_region_held3 (fun w' => (w'.cell? ⟨w.heap.size, 0, none⟩ = some (.int .i64 h.id) ∧ w'.cell? ⟨w.heap.size, 4, none⟩ = some (.bool h.wa) ∧ w'.cell? ⟨w.heap.size, 7, none⟩ = some (.string h.qn) ∧ w'.cell? ⟨w.heap.size, 8, none⟩ = some (.int .i64 h.qt)) ∧ RB w' (w.heap.size + 1) ∧ Sv w w')
    (first | with_reducible exact keptR_fil (w1 := w13) (by assumption) _ _ _ _ _ _ _ _ _ _ _ _ | with_reducible exact S0 | with_reducible assumption | with_reducible exact keptR (by assumption) hl | with_reducible exact keptR_draw (by assumption) | fail)
    (first
      | (go_at_call 61; (with_reducible refine (C1.out _ (by assumption)).mono ?_); rintro e w11 ⟨g1, e1, r1, rfl, -, hg1, hb1, hl⟩; have y1 := hl)
      | (go_at_call 61; (with_reducible refine (C2.out _ (by assumption)).mono ?_); rintro e w12 ⟨g2, e2, r2, rfl, -, hg2, hb2, hl⟩; have y2 := hl)
      | (go_at_call 61; (with_reducible refine (C3.out _ (by assumption)).mono ?_); rintro e w13 ⟨g3, e3, r3, rfl, -, hg3, hb3, hl⟩; have y3 := hl; have HR := (keptR (h := h) (by assumption) hl).2.1; have p0 := HR.cell 0 (by decide); have f0 := HR.free 0; have p1 := HR.cell 1 (by decide); have f1 := HR.free 1; have p2 := HR.cell 2 (by decide); have f2 := HR.free 2; have p3 := HR.cell 3 (by decide); have f3 := HR.free 3; have p4 := HR.cell 4 (by decide); have f4 := HR.free 4; have p5 := HR.cell 5 (by decide); have f5 := HR.free 5; have p6 := HR.cell 6 (by decide); have f6 := HR.free 6; have p7 := HR.cell 7 (by decide); have f7 := HR.free 7; have p8 := HR.cell 8 (by decide); have f8 := HR.free 8; have p9 := HR.cell 9 (by decide); have f9 := HR.free 9; have p10 := HR.cell 10 (by decide); have f10 := HR.free 10; have p11 := HR.cell 11 (by decide); have f11 := HR.free 11; clear HR)
      | fail)
  rename_i hH
  have a0 : Below w.heap.size w W0.drew := L0.out.drew
  have a1 := a0.trans (y1.mono a0.size)
  have a2 := a1.trans (y2.mono a1.size)
  have a3 := a2.trans (y3.mono a2.size)
  have RA : Bk w13 (w.heap.size + 1) 32 (mc zh (.slice none 0 0) (.slice none 0 0) (.slice none 0 0)) := by
    have b0 : Bk W0.drew (w.heap.size + 1) 32 (mc zh (.slice none 0 0) (.slice none 0 0) (.slice none 0 0)) := R0.out
    have b1 := b0.below y1 b0.lt
    have b2 := b1.below y2 b1.lt
    exact b2.below y3 b2.lt
  have n1 : w.heap.size + 1 < g1 := Nat.lt_of_lt_of_le R0.out.lt hg1
  have n2 : g1 < g2 := Nat.lt_of_lt_of_le hb1.lt hg2
  have n3 : g2 < g3 := Nat.lt_of_lt_of_le hb2.lt hg3
  have B1 := hb1.below y2 hb1.lt
  have F := Lib.hid (filM_bk RA (rph h code au) (.slice (some ⟨g1, 0, none⟩) m1 e1) (.slice (some ⟨g2, 0, none⟩) m2 e2) (.slice (some ⟨g3, 0, none⟩) m3 e3))
  have E := Lib.hid (filM_below a3 (g := w.heap.size + 1) (by omega) (rph h code au) (.slice (some ⟨g1, 0, none⟩) m1 e1) (.slice (some ⟨g2, 0, none⟩) m2 e2) (.slice (some ⟨g3, 0, none⟩) m3 e3))
  have I1 := Lib.hid (filM_other (B1.below y3 B1.lt) (g := w.heap.size + 1) (by omega) (rph h code au) (.slice (some ⟨g1, 0, none⟩) m1 e1) (.slice (some ⟨g2, 0, none⟩) m2 e2) (.slice (some ⟨g3, 0, none⟩) m3 e3))
  have I2 := Lib.hid (filM_other (hb2.below y3 hb2.lt) (g := w.heap.size + 1) (by omega) (rph h code au) (.slice (some ⟨g1, 0, none⟩) m1 e1) (.slice (some ⟨g2, 0, none⟩) m2 e2) (.slice (some ⟨g3, 0, none⟩) m3 e3))
  have I3 := Lib.hid (filM_other hb3 (g := w.heap.size + 1) (by omega) (rph h code au) (.slice (some ⟨g1, 0, none⟩) m1 e1) (.slice (some ⟨g2, 0, none⟩) m2 e2) (.slice (some ⟨g3, 0, none⟩) m3 e3))
  clear hH S0 R0 X0 L0 C1 C2 C3 a0 a1 a2 a3 RA B1 hb1 hb2 hb3 hg1 hg2 hg3 y1 y2 y3 hl hW0 p0 f0 p1 f1 p2 f2 p3 f3 p4 f4 p5 f5 p6 f6 p7 f7 p8 f8 p9 f9 p10 f10 p11 f11
  go_wp2
  exact bodyPost_ret (v := .agg #[.int .i64 (rph h code au).id, .bool (rph h code au).rp, .bool (rph h code au).au, .bool (rph h code au).ct, .bool (rph h code au).wa, .bool (rph h code au).ca, .int .i64 (rph h code au).code, .string (rph h code au).qn, .int .i64 (rph h code au).qt, .slice (some ⟨g1, 0, none⟩) m1 e1, .slice (some ⟨g2, 0, none⟩) m2 e2, .slice (some ⟨g3, 0, none⟩) m3 e3]) (res1M rfl F.out rfl) rfl ⟨g1, e1, r1, g2, e2, r2, g3, e3, r3, rfl, I1.out, I2.out, I3.out, by omega, n2, n3, E.out⟩

set_option maxRecDepth 100000 in
set_option maxHeartbeats 8000000 in
theorem spec (h : Hd) (A1 A2 A3 : Option Addr) (n1 c1 n2 c2 n3 c3 : Nat) (code : Int) (au : Bool) (b1 o1 m1 d1 : Nat) (l1 : List Rec) (b2 o2 m2 d2 : Nat) (l2 : List Rec) (b3 o3 m3 d3 : Nat) (l3 : List Rec) (w : World)
    (s1 : Sr w w.heap.size (some ⟨b1, o1, none⟩) m1 l1) (z1 : m1 ≤ 400000000) (s2 : Sr w w.heap.size (some ⟨b2, o2, none⟩) m2 l2) (z2 : m2 ≤ 400000000) (s3 : Sr w w.heap.size (some ⟨b3, o3, none⟩) m3 l3) (z3 : m3 ≤ 400000000) :
    Calls Try.prog 41 #[.agg #[.int .i64 h.id, .bool h.rp, .bool h.au, .bool h.ct, .bool h.wa, .bool h.ca, .int .i64 h.code, .string h.qn, .int .i64 h.qt, .slice A1 n1 c1, .slice A2 n2 c2, .slice A3 n3 c3], .int .i64 code, .bool au, .slice (some ⟨b1, o1, none⟩) m1 d1, .slice (some ⟨b2, o2, none⟩) m2 d2, .slice (some ⟨b3, o3, none⟩) m3 d3] w (GivesM w (rph h code au) m1 m2 m3 l1 l2 l3) := by
  have C1 : Hid (∀ W : World, ((W.cell? ⟨w.heap.size, 0, none⟩ = some (.int .i64 h.id) ∧ W.cell? ⟨w.heap.size, 4, none⟩ = some (.bool h.wa) ∧ W.cell? ⟨w.heap.size, 7, none⟩ = some (.string h.qn) ∧ W.cell? ⟨w.heap.size, 8, none⟩ = some (.int .i64 h.qt)) ∧ RB W (w.heap.size + 1) ∧ Sv w W) → Calls Try.prog 63 #[.slice (some ⟨b1, o1, none⟩) m1 d1] W (GivesC W m1 l1)) := fun W hW => copyS b1 o1 m1 d1 l1 W (s1.on hW.2.2) z1
  have C2 : Hid (∀ W : World, ((W.cell? ⟨w.heap.size, 0, none⟩ = some (.int .i64 h.id) ∧ W.cell? ⟨w.heap.size, 4, none⟩ = some (.bool h.wa) ∧ W.cell? ⟨w.heap.size, 7, none⟩ = some (.string h.qn) ∧ W.cell? ⟨w.heap.size, 8, none⟩ = some (.int .i64 h.qt)) ∧ RB W (w.heap.size + 1) ∧ Sv w W) → Calls Try.prog 63 #[.slice (some ⟨b2, o2, none⟩) m2 d2] W (GivesC W m2 l2)) := fun W hW => copyS b2 o2 m2 d2 l2 W (s2.on hW.2.2) z2
  have C3 : Hid (∀ W : World, ((W.cell? ⟨w.heap.size, 0, none⟩ = some (.int .i64 h.id) ∧ W.cell? ⟨w.heap.size, 4, none⟩ = some (.bool h.wa) ∧ W.cell? ⟨w.heap.size, 7, none⟩ = some (.string h.qn) ∧ W.cell? ⟨w.heap.size, 8, none⟩ = some (.int .i64 h.qt)) ∧ RB W (w.heap.size + 1) ∧ Sv w W) → Calls Try.prog 63 #[.slice (some ⟨b3, o3, none⟩) m3 d3] W (GivesC W m3 l3)) := fun W hW => copyS b3 o3 m3 d3 l3 W (s3.on hW.2.2) z3
  have X0 := Lib.hid ((mx_new w 32 h (.slice A1 n1 c1) (.slice A2 n2 c2) (.slice A3 n3 c3)).alloc (.cells #[.int .i64 0, .bool false, .bool false, .bool false, .bool false, .bool false, .int .i64 0, .string ⟨#[]⟩, .int .i64 0, .slice none 0 0, .slice none 0 0, .slice none 0 0] 32))
  have R0 := Lib.hid (at2 (w := w) (a := .cells #[.int .i64 h.id, .bool h.rp, .bool h.au, .bool h.ct, .bool h.wa, .bool h.ca, .int .i64 h.code, .string h.qn, .int .i64 h.qt, .slice A1 n1 c1, .slice A2 n2 c2, .slice A3 n3 c3] 32) (cs := #[.int .i64 0, .bool false, .bool false, .bool false, .bool false, .bool false, .int .i64 0, .string ⟨#[]⟩, .int .i64 0, .slice none 0 0, .slice none 0 0, .slice none 0 0]) (t := 32))
  have L0 := Lib.hid (((Below.refl w.heap.size w).alloc (Nat.le_refl _) (.cells #[.int .i64 h.id, .bool h.rp, .bool h.au, .bool h.ct, .bool h.wa, .bool h.ca, .int .i64 h.code, .string h.qn, .int .i64 h.qt, .slice A1 n1 c1, .slice A2 n2 c2, .slice A3 n3 c3] 32)).alloc (by simp) (.cells #[.int .i64 0, .bool false, .bool false, .bool false, .bool false, .bool false, .int .i64 0, .string ⟨#[]⟩, .int .i64 0, .slice none 0 0, .slice none 0 0, .slice none 0 0] 32))
  have S0 : (((w.alloc (.cells #[.int .i64 h.id, .bool h.rp, .bool h.au, .bool h.ct, .bool h.wa, .bool h.ca, .int .i64 h.code, .string h.qn, .int .i64 h.qt, .slice A1 n1 c1, .slice A2 n2 c2, .slice A3 n3 c3] 32)).alloc (.cells #[.int .i64 0, .bool false, .bool false, .bool false, .bool false, .bool false, .int .i64 0, .string ⟨#[]⟩, .int .i64 0, .slice none 0 0, .slice none 0 0, .slice none 0 0] 32)).cell? ⟨w.heap.size, 0, none⟩ = some (.int .i64 h.id) ∧ ((w.alloc (.cells #[.int .i64 h.id, .bool h.rp, .bool h.au, .bool h.ct, .bool h.wa, .bool h.ca, .int .i64 h.code, .string h.qn, .int .i64 h.qt, .slice A1 n1 c1, .slice A2 n2 c2, .slice A3 n3 c3] 32)).alloc (.cells #[.int .i64 0, .bool false, .bool false, .bool false, .bool false, .bool false, .int .i64 0, .string ⟨#[]⟩, .int .i64 0, .slice none 0 0, .slice none 0 0, .slice none 0 0] 32)).cell? ⟨w.heap.size, 4, none⟩ = some (.bool h.wa) ∧ ((w.alloc (.cells #[.int .i64 h.id, .bool h.rp, .bool h.au, .bool h.ct, .bool h.wa, .bool h.ca, .int .i64 h.code, .string h.qn, .int .i64 h.qt, .slice A1 n1 c1, .slice A2 n2 c2, .slice A3 n3 c3] 32)).alloc (.cells #[.int .i64 0, .bool false, .bool false, .bool false, .bool false, .bool false, .int .i64 0, .string ⟨#[]⟩, .int .i64 0, .slice none 0 0, .slice none 0 0, .slice none 0 0] 32)).cell? ⟨w.heap.size, 7, none⟩ = some (.string h.qn) ∧ ((w.alloc (.cells #[.int .i64 h.id, .bool h.rp, .bool h.au, .bool h.ct, .bool h.wa, .bool h.ca, .int .i64 h.code, .string h.qn, .int .i64 h.qt, .slice A1 n1 c1, .slice A2 n2 c2, .slice A3 n3 c3] 32)).alloc (.cells #[.int .i64 0, .bool false, .bool false, .bool false, .bool false, .bool false, .int .i64 0, .string ⟨#[]⟩, .int .i64 0, .slice none 0 0, .slice none 0 0, .slice none 0 0] 32)).cell? ⟨w.heap.size, 8, none⟩ = some (.int .i64 h.qt)) ∧ RB ((w.alloc (.cells #[.int .i64 h.id, .bool h.rp, .bool h.au, .bool h.ct, .bool h.wa, .bool h.ca, .int .i64 h.code, .string h.qn, .int .i64 h.qt, .slice A1 n1 c1, .slice A2 n2 c2, .slice A3 n3 c3] 32)).alloc (.cells #[.int .i64 0, .bool false, .bool false, .bool false, .bool false, .bool false, .int .i64 0, .string ⟨#[]⟩, .int .i64 0, .slice none 0 0, .slice none 0 0, .slice none 0 0] 32)) (w.heap.size + 1) ∧ Sv w ((w.alloc (.cells #[.int .i64 h.id, .bool h.rp, .bool h.au, .bool h.ct, .bool h.wa, .bool h.ca, .int .i64 h.code, .string h.qn, .int .i64 h.qt, .slice A1 n1 c1, .slice A2 n2 c2, .slice A3 n3 c3] 32)).alloc (.cells #[.int .i64 0, .bool false, .bool false, .bool false, .bool false, .bool false, .int .i64 0, .string ⟨#[]⟩, .int .i64 0, .slice none 0 0, .slice none 0 0, .slice none 0 0] 32)) :=
    ⟨⟨X0.out.1, X0.out.2.2.2.2.1, X0.out.2.2.2.2.2.2.2.1, X0.out.2.2.2.2.2.2.2.2.1⟩, ⟨_, rfl, R0.out⟩, L0.out⟩
  clear s1 s2 s3
  generalize hW0 : ((w.alloc (.cells #[.int .i64 h.id, .bool h.rp, .bool h.au, .bool h.ct, .bool h.wa, .bool h.ca, .int .i64 h.code, .string h.qn, .int .i64 h.qt, .slice A1 n1 c1, .slice A2 n2 c2, .slice A3 n3 c3] 32)).alloc (.cells #[.int .i64 0, .bool false, .bool false, .bool false, .bool false, .bool false, .int .i64 0, .string ⟨#[]⟩, .int .i64 0, .slice none 0 0, .slice none 0 0, .slice none 0 0] 32)) = W0 at S0 R0 X0 L0
  go_enter Try.func41, Try.ntmps41
  go_wp2
  go_region_held3 (fun w' => (w'.cell? ⟨w.heap.size, 0, none⟩ = some (.int .i64 h.id) ∧ w'.cell? ⟨w.heap.size, 4, none⟩ = some (.bool h.wa) ∧ w'.cell? ⟨w.heap.size, 7, none⟩ = some (.string h.qn) ∧ w'.cell? ⟨w.heap.size, 8, none⟩ = some (.int .i64 h.qt)) ∧ RB w' (w.heap.size + 1) ∧ Sv w w')
    (first | with_reducible exact keptR_fil (w1 := w13) (by assumption) _ _ _ _ _ _ _ _ _ _ _ _ | with_reducible exact S0 | with_reducible assumption | with_reducible exact keptR (by assumption) hl | with_reducible exact keptR_draw (by assumption) | fail)
    (first
      | (go_at_call 63; (with_reducible refine (C1.out _ (by assumption)).mono ?_); rintro e w11 ⟨g1, e1, r1, rfl, -, hg1, hb1, hl⟩; have y1 := hl)
      | (go_at_call 63; (with_reducible refine (C2.out _ (by assumption)).mono ?_); rintro e w12 ⟨g2, e2, r2, rfl, -, hg2, hb2, hl⟩; have y2 := hl)
      | (go_at_call 63; (with_reducible refine (C3.out _ (by assumption)).mono ?_); rintro e w13 ⟨g3, e3, r3, rfl, -, hg3, hb3, hl⟩; have y3 := hl; have HR := (keptR (h := h) (by assumption) hl).2.1; have p0 := HR.cell 0 (by decide); have f0 := HR.free 0; have p1 := HR.cell 1 (by decide); have f1 := HR.free 1; have p2 := HR.cell 2 (by decide); have f2 := HR.free 2; have p3 := HR.cell 3 (by decide); have f3 := HR.free 3; have p4 := HR.cell 4 (by decide); have f4 := HR.free 4; have p5 := HR.cell 5 (by decide); have f5 := HR.free 5; have p6 := HR.cell 6 (by decide); have f6 := HR.free 6; have p7 := HR.cell 7 (by decide); have f7 := HR.free 7; have p8 := HR.cell 8 (by decide); have f8 := HR.free 8; have p9 := HR.cell 9 (by decide); have f9 := HR.free 9; have p10 := HR.cell 10 (by decide); have f10 := HR.free 10; have p11 := HR.cell 11 (by decide); have f11 := HR.free 11; clear HR)
      | fail)
  rename_i hH
  have a0 : Below w.heap.size w W0.drew := L0.out.drew
  have a1 := a0.trans (y1.mono a0.size)
  have a2 := a1.trans (y2.mono a1.size)
  have a3 := a2.trans (y3.mono a2.size)
  have RA : Bk w13 (w.heap.size + 1) 32 (mc zh (.slice none 0 0) (.slice none 0 0) (.slice none 0 0)) := by
    have b0 : Bk W0.drew (w.heap.size + 1) 32 (mc zh (.slice none 0 0) (.slice none 0 0) (.slice none 0 0)) := R0.out
    have b1 := b0.below y1 b0.lt
    have b2 := b1.below y2 b1.lt
    exact b2.below y3 b2.lt
  have n1 : w.heap.size + 1 < g1 := Nat.lt_of_lt_of_le R0.out.lt hg1
  have n2 : g1 < g2 := Nat.lt_of_lt_of_le hb1.lt hg2
  have n3 : g2 < g3 := Nat.lt_of_lt_of_le hb2.lt hg3
  have B1 := hb1.below y2 hb1.lt
  have F := Lib.hid (filM_bk RA (rph h code au) (.slice (some ⟨g1, 0, none⟩) m1 e1) (.slice (some ⟨g2, 0, none⟩) m2 e2) (.slice (some ⟨g3, 0, none⟩) m3 e3))
  have E := Lib.hid (filM_below a3 (g := w.heap.size + 1) (by omega) (rph h code au) (.slice (some ⟨g1, 0, none⟩) m1 e1) (.slice (some ⟨g2, 0, none⟩) m2 e2) (.slice (some ⟨g3, 0, none⟩) m3 e3))
  have I1 := Lib.hid (filM_other (B1.below y3 B1.lt) (g := w.heap.size + 1) (by omega) (rph h code au) (.slice (some ⟨g1, 0, none⟩) m1 e1) (.slice (some ⟨g2, 0, none⟩) m2 e2) (.slice (some ⟨g3, 0, none⟩) m3 e3))
  have I2 := Lib.hid (filM_other (hb2.below y3 hb2.lt) (g := w.heap.size + 1) (by omega) (rph h code au) (.slice (some ⟨g1, 0, none⟩) m1 e1) (.slice (some ⟨g2, 0, none⟩) m2 e2) (.slice (some ⟨g3, 0, none⟩) m3 e3))
  have I3 := Lib.hid (filM_other hb3 (g := w.heap.size + 1) (by omega) (rph h code au) (.slice (some ⟨g1, 0, none⟩) m1 e1) (.slice (some ⟨g2, 0, none⟩) m2 e2) (.slice (some ⟨g3, 0, none⟩) m3 e3))
  clear hH S0 R0 X0 L0 C1 C2 C3 a0 a1 a2 a3 RA B1 hb1 hb2 hb3 hg1 hg2 hg3 y1 y2 y3 hl hW0 p0 f0 p1 f1 p2 f2 p3 f3 p4 f4 p5 f5 p6 f6 p7 f7 p8 f8 p9 f9 p10 f10 p11 f11
  go_wp2
  exact bodyPost_ret (v := .agg #[.int .i64 (rph h code au).id, .bool (rph h code au).rp, .bool (rph h code au).au, .bool (rph h code au).ct, .bool (rph h code au).wa, .bool (rph h code au).ca, .int .i64 (rph h code au).code, .string (rph h code au).qn, .int .i64 (rph h code au).qt, .slice (some ⟨g1, 0, none⟩) m1 e1, .slice (some ⟨g2, 0, none⟩) m2 e2, .slice (some ⟨g3, 0, none⟩) m3 e3]) (res1M rfl F.out rfl) rfl ⟨g1, e1, r1, g2, e2, r2, g3, e3, r3, rfl, I1.out, I2.out, I3.out, by omega, n2, n3, E.out⟩

end Go.Proofs.Ytjgmocmaeadjdaa.RepM

/- What AskMsg does in the program and in the model: a query with this Id and question and nothing else. No condition. -/
namespace Go.Proofs.Ytjgmocmaeadjdaa.AskM
open Go.RowKit Go.Proofs.Ytjgmocmaeadjdaa.Mem Go.Proofs.Ytjgmocmaeadjdaa.MemR Go.Proofs.Ytjgmocmaeadjdaa.BoxR Go.Proofs.Ytjgmocmaeadjdaa.MemM Go.Proofs.Ytjgmocmaeadjdaa.ResM

/-- The head of a query. -/
def askh (id : Int) (s : ByteArray) (n : Int) : Hd := ⟨id, false, false, false, false, false, 0, s, n⟩

set_option maxHeartbeats 1000000 in
theorem spec (id : Int) (s : ByteArray) (n : Int) (w : World) : Calls Try.prog 24 #[.int .i64 id, .agg #[.string s, .int .i64 n]] w fun e w' => e = .returned (.agg #[.int .i64 (askh id s n).id, .bool (askh id s n).rp, .bool (askh id s n).au, .bool (askh id s n).ct, .bool (askh id s n).wa, .bool (askh id s n).ca, .int .i64 (askh id s n).code, .string (askh id s n).qn, .int .i64 (askh id s n).qt, .slice none 0 0, .slice none 0 0, .slice none 0 0]) ∧ Below w.heap.size w w' := by
  go_enter Try.func24, Try.ntmps24
  go_wp2
  refine bodyPost_ret (v := .agg #[.int .i64 (askh id s n).id, .bool (askh id s n).rp, .bool (askh id s n).au, .bool (askh id s n).ct, .bool (askh id s n).wa, .bool (askh id s n).ca, .int .i64 (askh id s n).code, .string (askh id s n).qn, .int .i64 (askh id s n).qt, .slice none 0 0, .slice none 0 0, .slice none 0 0]) (by simp [results, Try.results24, go_sem, askh]) rfl ⟨rfl, ?_⟩
  repeat (first | exact Below.refl _ _ | refine Below.setCell ?_ (by simp; try omega) _ | refine Below.alloc ?_ (by simp; try omega) _)

end Go.Proofs.Ytjgmocmaeadjdaa.AskM

/- What the model's draw DrawServe does: a zone of at most 9 records of short texts and a message that asks for a short name; nothing that was there is turned. -/
namespace Go.Proofs.Ytjgmocmaeadjdaa.DrawSm
open Go.RowKit Go.Proofs.Ytjgmocmaeadjdaa.Mem Go.Proofs.Ytjgmocmaeadjdaa.MemR Go.Proofs.Ytjgmocmaeadjdaa.MemZ Go.Proofs.Ytjgmocmaeadjdaa.MemM Go.Proofs.Ytjgmocmaeadjdaa.BoxR Go.Proofs.Ytjgmocmaeadjdaa.ResR Go.Proofs.Ytjgmocmaeadjdaa.ResZ Go.Proofs.Ytjgmocmaeadjdaa.ResM Go.Proofs.Ytjgmocmaeadjdaa.RepM Go.Proofs.Ytjgmocmaeadjdaa.AskM Go.Proofs.Ytjgmocmaeadjdaa.Draw Go.Proofs.Ytjgmocmaeadjdaa.DrawS Go.Proofs.Ytjgmocmaeadjdaa.DrawL Go.Proofs.Ytjgmocmaeadjdaa.DrawN Go.Proofs.Ytjgmocmaeadjdaa.ZoneL Go.Proofs.Ytjgmocmaeadjdaa.DrawZ Go.Proofs.Ytjgmocmaeadjdaa.DrawY Go.Proofs.Ytjgmocmaeadjdaa.DrawR Go.Proofs.Ytjgmocmaeadjdaa.DrawZk Go.Proofs.Ytjgmocmaeadjdaa.DrawPr

theorem load_zm {w : World} {g : Nat} {t : TypeId} {h : Hd} (k : Bk w g t (mc h (.slice none 0 0) (.slice none 0 0) (.slice none 0 0))) : (loadVar 32 ⟨g, 0, none⟩).run Try.prog w = .ok (.agg #[.int .i64 h.id, .bool h.rp, .bool h.au, .bool h.ct, .bool h.wa, .bool h.ca, .int .i64 h.code, .string h.qn, .int .i64 h.qt, .slice none 0 0, .slice none 0 0, .slice none 0 0]) w := load_msg k

theorem bl_new (w : World) : Bk (w.alloc (.cells #[.int .i64 0, .bool false, .bool false, .bool false, .bool false, .bool false, .int .i64 0, .string ⟨#[]⟩, .int .i64 0, .slice none 0 0, .slice none 0 0, .slice none 0 0] 32)) w.heap.size 32 (mc zh (.slice none 0 0) (.slice none 0 0) (.slice none 0 0)) := heap_alloc_new w _

theorem rb_bl {w : World} {g : Nat} (h : Bk w g 32 (mc zh (.slice none 0 0) (.slice none 0 0) (.slice none 0 0))) : RB w g := ⟨_, rfl, h⟩

theorem resZM {fn : Func} {p q : Tmp} {w : World} {g k : Nat} {t u : TypeId} {s : ByteArray} {A : Option Addr} {n c : Nat} {h : Hd} {tmps : Array Value} (hf : fn.results = #[.cell p 26, .cell q 32]) (hz : Bk w g t (zc s (.slice A n c))) (hm : Bk w k u (mc h (.slice none 0 0) (.slice none 0 0) (.slice none 0 0))) (h4 : tmps.getD p undef = .pointer (some ⟨g, 0, none⟩)) (h5 : tmps.getD q undef = .pointer (some ⟨k, 0, none⟩)) :
    (results fn tmps).run Try.prog w = .ok (.tuple #[.agg #[.string s, .slice A n c], .agg #[.int .i64 h.id, .bool h.rp, .bool h.au, .bool h.ct, .bool h.wa, .bool h.ca, .int .i64 h.code, .string h.qn, .int .i64 h.qt, .slice none 0 0, .slice none 0 0, .slice none 0 0]]) w := by
  rw [results_cell2 hf, h4, h5, as_addr]
  simp only [Result.andThen, load_z hz, as_addr, load_zm hm]

/-- What is kept while a message is drawn: the results' boxes, the cursor, the zone's box, the question's box, the records. -/
def Dm (w : World) (g gz gq : Nat) (s : ByteArray) (b o m cap : Nat) (L : List Rec) (nm : ByteArray) (ty : Int) (v : World) : Prop :=
  (w.heap.size + 1 < g ∧ g < gz ∧ gz < gq ∧ g < b) ∧ Cur v g ∧ Below w.heap.size w v ∧ Bk v w.heap.size 26 (zc ⟨#[]⟩ (.slice none 0 0)) ∧ Bk v (w.heap.size + 1) 32 (mc zh (.slice none 0 0) (.slice none 0 0) (.slice none 0 0)) ∧ Zx v gz s (.slice (some ⟨b, o, none⟩) m cap) ∧ Bk v gq 28 [.string nm, .int .i64 ty] ∧ Sr v v.heap.size (some ⟨b, o, none⟩) m L

section
variable {w v v' : World} {g gz gq b o m cap : Nat} {s nm : ByteArray} {L : List Rec} {ty : Int}

theorem Dm.step (h : Dm w g gz gq s b o m cap L nm ty v) (hc : Cur v' g) (hg : v.grownBy v' (some g)) : Dm w g gz gq s b o m cap L nm ty v' := by
  obtain ⟨⟨h1, h2, h3, h4⟩, _, hb, k1, k2, k3, k4, ks⟩ := h
  exact ⟨⟨h1, h2, h3, h4⟩, hc, hb.grown hg hb.size (fun j hj => by cases hj; omega), k1.grown hg (fun e => by have := Option.some.inj e; omega), k2.grown hg (fun e => by have := Option.some.inj e; omega), k3.grown hg (fun e => by have := Option.some.inj e; omega), k4.grown hg (fun e => by have := Option.some.inj e; omega), sr_gr ks hg (fun _ => by omega)⟩

theorem Dm.below (h : Dm w g gz gq s b o m cap L nm ty v) (hl : Below v.heap.size v v') : Dm w g gz gq s b o m cap L nm ty v' := by
  obtain ⟨h0, hc, hb, k1, k2, k3, k4, ks⟩ := h
  exact ⟨h0, cur_below hc hl, hb.trans (hl.mono hb.size), k1.below hl k1.lt, k2.below hl k2.lt, k3.below hl, k4.below hl k4.lt, ks.on hl⟩

theorem Dm.alloc (h : Dm w g gz gq s b o m cap L nm ty v) (x : Obj) : Dm w g gz gq s b o m cap L nm ty (v.alloc x) := h.below ((Below.refl _ _).alloc (Nat.le_refl _) _)

theorem Dm.drew (h : Dm w g gz gq s b o m cap L nm ty v) : Dm w g gz gq s b o m cap L nm ty v.drew := h.below ((Below.refl _ _).drew)

theorem Dm.set (h : Dm w g gz gq s b o m cap L nm ty v) {k : Nat} (hk : gq < k) (hb : 0 < m → b ≠ k) (i : Nat) (u : Value) : Dm w g gz gq s b o m cap L nm ty (v.setCell ⟨k, i, none⟩ u) := by
  obtain ⟨⟨h1, h2, h3, h4⟩, hc, hl, k1, k2, k3, k4, ks⟩ := h
  exact ⟨⟨h1, h2, h3, h4⟩, cur_new hc (by omega) i u, hl.setCell (p := ⟨k, i, none⟩) (show w.heap.size ≤ k by omega) u, k1.other (p := ⟨k, i, none⟩) (show w.heap.size ≠ k by omega) u, k2.other (p := ⟨k, i, none⟩) (show w.heap.size + 1 ≠ k by omega) u, k3.set1 (p := ⟨k, i, none⟩) (show gz ≠ k by omega) u, k4.other (p := ⟨k, i, none⟩) (show gq ≠ k by omega) u, sr_cell ks hb u⟩

theorem Dm.fills (h : Dm w g gz gq s b o m cap L nm ty v) {k : Nat} (hk : gq < k) (hb : 0 < m → b ≠ k) (hd : Hd) (x y z : Value) : Dm w g gz gq s b o m cap L nm ty (filM v k hd x y z) := by
  unfold filM
  exact ((((((((((((h.set hk hb 0 _).set hk hb 1 _).set hk hb 2 _).set hk hb 3 _).set hk hb 4 _).set hk hb 5 _).set hk hb 6 _).set hk hb 7 _).set hk hb 8 _).set hk hb 9 _).set hk hb 10 _).set hk hb 11 _)

/-- The end: the results' boxes are filled. -/
theorem Dm.ends (h : Dm w g gz gq s b o m cap L nm ty v) (hd : Hd) : Bk (filM (filZ v w.heap.size s (.slice (some ⟨b, o, none⟩) m cap)) (w.heap.size + 1) hd (.slice none 0 0) (.slice none 0 0) (.slice none 0 0)) w.heap.size 26 (zc s (.slice (some ⟨b, o, none⟩) m cap)) ∧ Bk (filM (filZ v w.heap.size s (.slice (some ⟨b, o, none⟩) m cap)) (w.heap.size + 1) hd (.slice none 0 0) (.slice none 0 0) (.slice none 0 0)) (w.heap.size + 1) 32 (mc hd (.slice none 0 0) (.slice none 0 0) (.slice none 0 0)) ∧ Sr (filM (filZ v w.heap.size s (.slice (some ⟨b, o, none⟩) m cap)) (w.heap.size + 1) hd (.slice none 0 0) (.slice none 0 0) (.slice none 0 0)) (filM (filZ v w.heap.size s (.slice (some ⟨b, o, none⟩) m cap)) (w.heap.size + 1) hd (.slice none 0 0) (.slice none 0 0) (.slice none 0 0)).heap.size (some ⟨b, o, none⟩) m L ∧ Below w.heap.size w (filM (filZ v w.heap.size s (.slice (some ⟨b, o, none⟩) m cap)) (w.heap.size + 1) hd (.slice none 0 0) (.slice none 0 0) (.slice none 0 0)) := by
  obtain ⟨⟨h1, h2, h3, h4⟩, hc, hl, k1, k2, k3, k4, ks⟩ := h
  have n1 : 0 < m → b ≠ w.heap.size := fun _ => by omega
  have n2 : 0 < m → b ≠ w.heap.size + 1 := fun _ => by omega
  have hz : Bk (filZ v w.heap.size s (.slice (some ⟨b, o, none⟩) m cap)) w.heap.size 26 (zc s (.slice (some ⟨b, o, none⟩) m cap)) := (k1.set 0 (.string s)).set 1 _
  have hm : Bk (filZ v w.heap.size s (.slice (some ⟨b, o, none⟩) m cap)) (w.heap.size + 1) 32 (mc zh (.slice none 0 0) (.slice none 0 0) (.slice none 0 0)) := (k2.other (p := ⟨w.heap.size, 0, none⟩) (show w.heap.size + 1 ≠ w.heap.size by omega) _).other (p := ⟨w.heap.size, 1, none⟩) (show w.heap.size + 1 ≠ w.heap.size by omega) _
  have hb : Below w.heap.size w (filZ v w.heap.size s (.slice (some ⟨b, o, none⟩) m cap)) := (hl.setCell (p := ⟨w.heap.size, 0, none⟩) (Nat.le_refl _) _).setCell (p := ⟨w.heap.size, 1, none⟩) (Nat.le_refl _) _
  have hs : Sr (filZ v w.heap.size s (.slice (some ⟨b, o, none⟩) m cap)) (filZ v w.heap.size s (.slice (some ⟨b, o, none⟩) m cap)).heap.size (some ⟨b, o, none⟩) m L := sr_cell (sr_cell ks n1 _) n1 _
  generalize filZ v w.heap.size s (.slice (some ⟨b, o, none⟩) m cap) = v1 at *
  refine ⟨filM_other hz (by omega) hd _ _ _, filM_bk hm hd _ _ _, ?_, filM_below hb (Nat.le_succ _) hd _ _ _⟩
  unfold filM
  exact sr_cell (sr_cell (sr_cell (sr_cell (sr_cell (sr_cell (sr_cell (sr_cell (sr_cell (sr_cell (sr_cell (sr_cell hs n2 _) n2 _) n2 _) n2 _) n2 _) n2 _) n2 _) n2 _) n2 _) n2 _) n2 _) n2 _

theorem Dm.endsD (h : Dm w g gz gq s b o m cap L nm ty v) (hd : Hd) : Bk (filM (filZ v w.heap.size s (.slice (some ⟨b, o, none⟩) m cap)) (w.heap.size + 1) hd (.slice none 0 0) (.slice none 0 0) (.slice none 0 0)).drew w.heap.size 26 (zc s (.slice (some ⟨b, o, none⟩) m cap)) ∧ Bk (filM (filZ v w.heap.size s (.slice (some ⟨b, o, none⟩) m cap)) (w.heap.size + 1) hd (.slice none 0 0) (.slice none 0 0) (.slice none 0 0)).drew (w.heap.size + 1) 32 (mc hd (.slice none 0 0) (.slice none 0 0) (.slice none 0 0)) ∧ Sr (filM (filZ v w.heap.size s (.slice (some ⟨b, o, none⟩) m cap)) (w.heap.size + 1) hd (.slice none 0 0) (.slice none 0 0) (.slice none 0 0)).drew (filM (filZ v w.heap.size s (.slice (some ⟨b, o, none⟩) m cap)) (w.heap.size + 1) hd (.slice none 0 0) (.slice none 0 0) (.slice none 0 0)).drew.heap.size (some ⟨b, o, none⟩) m L ∧ Below w.heap.size w (filM (filZ v w.heap.size s (.slice (some ⟨b, o, none⟩) m cap)) (w.heap.size + 1) hd (.slice none 0 0) (.slice none 0 0) (.slice none 0 0)).drew := by
  obtain ⟨e1, e2, e3, e4⟩ := h.ends hd
  exact ⟨bk_drew e1, bk_drew e2, sr_drew e3, e4.drew⟩
end

/-- A zone and a message that are drawn; nothing that was there is turned. -/
def Zm (w : World) (e : Ending) (w' : World) : Prop :=
  ∃ (s : ByteArray) (b o n c : Nat) (L : List Rec) (h : Hd), e = .returned (.tuple #[.agg #[.string s, .slice (some ⟨b, o, none⟩) n c], .agg #[.int .i64 h.id, .bool h.rp, .bool h.au, .bool h.ct, .bool h.wa, .bool h.ca, .int .i64 h.code, .string h.qn, .int .i64 h.qt, .slice none 0 0, .slice none 0 0, .slice none 0 0]]) ∧ s.size ≤ 20 ∧ h.qn.size ≤ 60 ∧ n ≤ 9 ∧ (∀ r ∈ L, Sml r) ∧ Sr w' w'.heap.size (some ⟨b, o, none⟩) n L ∧ Below w.heap.size w w'

set_option maxHeartbeats 8000000 in
set_option maxRecDepth 100000 in
theorem drawServe_any (A : Option Addr) (n c : Nat) (l : List UInt8) (w : World) (hs : Sl w w.heap.size A n l) (hn : n ≤ 1048576) : Calls Try.prog 6 #[.slice A n c] w (Zm w) := by
  have mixed : Try.prog.follows .mixedOrders = true := by kernel_rfl
  have HS := Lib.hid hs
  have K0 : Hid (Bk ((w.alloc (.cells #[.string ⟨#[]⟩, .slice none 0 0] 26)).alloc (.cells #[.int .i64 0, .bool false, .bool false, .bool false, .bool false, .bool false, .int .i64 0, .string ⟨#[]⟩, .int .i64 0, .slice none 0 0, .slice none 0 0, .slice none 0 0] 32)) w.heap.size 26 (zc ⟨#[]⟩ (.slice none 0 0))) := (show Bk (w.alloc (.cells #[.string ⟨#[]⟩, .slice none 0 0] 26)) w.heap.size 26 (zc ⟨#[]⟩ (.slice none 0 0)) from heap_alloc_new w _).alloc _
  have Q0 : Hid (Bk ((w.alloc (.cells #[.string ⟨#[]⟩, .slice none 0 0] 26)).alloc (.cells #[.int .i64 0, .bool false, .bool false, .bool false, .bool false, .bool false, .int .i64 0, .string ⟨#[]⟩, .int .i64 0, .slice none 0 0, .slice none 0 0, .slice none 0 0] 32)) (w.heap.size + 1) 32 (mc zh (.slice none 0 0) (.slice none 0 0) (.slice none 0 0))) := at2
  have L0 := Lib.hid (((Below.refl w.heap.size w).alloc (Nat.le_refl _) (.cells #[.string ⟨#[]⟩, .slice none 0 0] 26)).alloc (by simp) (.cells #[.int .i64 0, .bool false, .bool false, .bool false, .bool false, .bool false, .int .i64 0, .string ⟨#[]⟩, .int .i64 0, .slice none 0 0, .slice none 0 0, .slice none 0 0] 32))
  have N0 : Hid (w.heap.size + 1 < ((w.alloc (.cells #[.string ⟨#[]⟩, .slice none 0 0] 26)).alloc (.cells #[.int .i64 0, .bool false, .bool false, .bool false, .bool false, .bool false, .int .i64 0, .string ⟨#[]⟩, .int .i64 0, .slice none 0 0, .slice none 0 0, .slice none 0 0] 32)).heap.size) := by show _ < _; simp
  clear hs
  go_enter Try.func6, Try.ntmps6
  go_upto_region 1 with (fail)
  generalize (w.alloc (.cells #[.string ⟨#[]⟩, .slice none 0 0] 26)).alloc (.cells #[.int .i64 0, .bool false, .bool false, .bool false, .bool false, .bool false, .int .i64 0, .string ⟨#[]⟩, .int .i64 0, .slice none 0 0, .slice none 0 0, .slice none 0 0] 32) = w0 at *
  go_wp2_with fail
  refine (l1New_any A n c l w0 ((HS.out.below L0.out).wider L0.out.size) hn).mono ?_
  rintro e w1 ⟨rfl, hc1, hg1⟩
  have C1 := Lib.hid hc1
  have L1 := Lib.hid (L0.out.trans ((below_of_grown hg1).mono L0.out.size))
  have K1 := Lib.hid (K0.out.grown hg1 (fun e => by cases e))
  have Q1 := Lib.hid (Q0.out.grown hg1 (fun e => by cases e))
  clear hc1 hg1 K0 Q0 L0 HS
  generalize w0.heap.size = g at *
  have NG := N0.out
  have GA := C1.out.lt
  go_wp2_with fail
  refine (pair_any g w1 C1.out).mono ?_
  rintro e w2 ⟨s, b, o, m, cap, L, nm, ty, rfl, hs20, hn60, hm9, hsm, hbw, hsr, hc2, hg2⟩
  have SM := Lib.hid hsm
  have HNM := Lib.hid hn60
  have K2 := Lib.hid (K1.out.grown hg2 (fun e => by have := Option.some.inj e; omega))
  have Q2 := Lib.hid (Q1.out.grown hg2 (fun e => by have := Option.some.inj e; omega))
  have L2 := Lib.hid (L1.out.grown hg2 L1.out.size (fun j hj => by cases hj; omega))
  have GB : Hid (g < w2.heap.size) := Nat.lt_of_lt_of_le GA hg2.size
  have hz1 : (w2.alloc (.cells #[.string s, (.slice (some ⟨b, o, none⟩) m cap)] 26)).heap.size = w2.heap.size + 1 := by simp
  have X2 : Hid (Zx ((w2.alloc (.cells #[.string s, (.slice (some ⟨b, o, none⟩) m cap)] 26)).alloc (.cells #[.string nm, .int .i64 ty] 28)) w2.heap.size s (.slice (some ⟨b, o, none⟩) m cap)) := (zx_new w2 26 s (.slice (some ⟨b, o, none⟩) m cap)).alloc _
  have Y2 : Hid (Bk ((w2.alloc (.cells #[.string s, (.slice (some ⟨b, o, none⟩) m cap)] 26)).alloc (.cells #[.string nm, .int .i64 ty] 28)) (w2.heap.size + 1) 28 [.string nm, .int .i64 ty]) := at2
  have BB := ((Below.refl w2.heap.size w2).alloc (Nat.le_refl _) (.cells #[.string s, (.slice (some ⟨b, o, none⟩) m cap)] 26)).alloc (by simp) (.cells #[.string nm, .int .i64 ty] 28)
  have D3 : Hid (Dm w g w2.heap.size (w2.heap.size + 1) s b o m cap L nm ty ((w2.alloc (.cells #[.string s, (.slice (some ⟨b, o, none⟩) m cap)] 26)).alloc (.cells #[.string nm, .int .i64 ty] 28))) :=
    ⟨⟨NG, GB.out, by omega, by omega⟩, cur_below hc2 BB, L2.out.trans (BB.mono L2.out.size), K2.out.below BB K2.out.lt, Q2.out.below BB Q2.out.lt, X2.out, Y2.out, hsr.on BB⟩
  clear hsm hsr hc2 hg2 hn60 hbw C1 L1 K1 Q1 K2 Q2 L2 X2 Y2 BB hz1 GA GB NG N0
  go_upto_region 3 with (fail)
  generalize (w2.alloc (.cells #[.string s, (.slice (some ⟨b, o, none⟩) m cap)] 26)).alloc (.cells #[.string nm, .int .i64 ty] 28) = w5 at *
  generalize w2.heap.size + 1 = gq at *
  generalize w2.heap.size = gz at *
  have DD := Lib.hid D3.out.drew
  have DA := Lib.hid (D3.out.alloc (.cells #[.int .i64 0, .bool false, .bool false, .bool false, .bool false, .bool false, .int .i64 0, .string ⟨#[]⟩, .int .i64 0, .slice none 0 0, .slice none 0 0, .slice none 0 0] 32)).drew
  have CD := Lib.hid DD.out.2.1
  have CA := Lib.hid DA.out.2.1
  have A5 : Hid (Bk (w5.alloc (.cells #[.int .i64 0, .bool false, .bool false, .bool false, .bool false, .bool false, .int .i64 0, .string ⟨#[]⟩, .int .i64 0, .slice none 0 0, .slice none 0 0, .slice none 0 0] 32)).drew w5.heap.size 32 (mc zh (.slice none 0 0) (.slice none 0 0) (.slice none 0 0))) := heap_alloc_new w5 _
  have NGA : some w5.heap.size ≠ some g := fun e => by have h1 := D3.out.2.1.lt; have := Option.some.inj e; omega
  have LQ : Hid (gq < w5.heap.size) := D3.out.2.2.2.2.2.2.1.lt
  have LB : Hid (0 < m → b ≠ w5.heap.size) := fun h0 => by have := sr_lt D3.out.2.2.2.2.2.2.2 h0; omega
  have z0 : w5.drew.cell? ⟨gq, 0, none⟩ = some (.string nm) := DD.out.2.2.2.2.2.2.1.cell 0
  have z1 : w5.drew.cell? ⟨gq, 1, none⟩ = some (.int .i64 ty) := DD.out.2.2.2.2.2.2.1.cell 1
  have y0 : (w5.alloc (.cells #[.int .i64 0, .bool false, .bool false, .bool false, .bool false, .bool false, .int .i64 0, .string ⟨#[]⟩, .int .i64 0, .slice none 0 0, .slice none 0 0, .slice none 0 0] 32)).drew.cell? ⟨gq, 0, none⟩ = some (.string nm) := DA.out.2.2.2.2.2.2.1.cell 0
  have y1 : (w5.alloc (.cells #[.int .i64 0, .bool false, .bool false, .bool false, .bool false, .bool false, .int .i64 0, .string ⟨#[]⟩, .int .i64 0, .slice none 0 0, .slice none 0 0, .slice none 0 0] 32)).drew.cell? ⟨gq, 1, none⟩ = some (.int .i64 ty) := DA.out.2.2.2.2.2.2.1.cell 1
  go_cut [7] (fun a wx => ∃ (gm : Nat) (id : Int), a = .pointer (some ⟨gm, 0, none⟩) ∧ Hid (gq < gm ∧ (0 < m → b ≠ gm)) ∧ Hid (Bk wx gm 32 (mc (askh id nm ty) (.slice none 0 0) (.slice none 0 0) (.slice none 0 0))) ∧ Hid (Dm w g gz gq s b o m cap L nm ty wx))
  case first =>
    go_region_law (first
      | (go_simp; go_at_call 25; (first | with_reducible refine (l1Below_any g 9 w5.drew CD.out (by omega) (by omega)).mono ?_ | with_reducible refine (l1Below_any g 9 (w5.alloc (.cells #[.int .i64 0, .bool false, .bool false, .bool false, .bool false, .bool false, .int .i64 0, .string ⟨#[]⟩, .int .i64 0, .slice none 0 0, .slice none 0 0, .slice none 0 0] 32)).drew CA.out (by omega) (by omega)).mono ?_); rintro e w6 ⟨x, rfl, hx0, hx1, hc6, hg6⟩; (first | with_reducible have D6 := Lib.hid (DD.out.step hc6 hg6) | with_reducible have D6 := Lib.hid (DA.out.step hc6 hg6)); have x0 : w6.cell? ⟨gq, 0, none⟩ = some (.string nm) := D6.out.2.2.2.2.2.2.1.cell 0; have x1 : w6.cell? ⟨gq, 1, none⟩ = some (.int .i64 ty) := D6.out.2.2.2.2.2.2.1.cell 1; have D6a := Lib.hid (D6.out.alloc (.cells #[.int .i64 0, .bool false, .bool false, .bool false, .bool false, .bool false, .int .i64 0, .string ⟨#[]⟩, .int .i64 0, .slice none 0 0, .slice none 0 0, .slice none 0 0] 32)); have x2 : (w6.alloc (.cells #[.int .i64 0, .bool false, .bool false, .bool false, .bool false, .bool false, .int .i64 0, .string ⟨#[]⟩, .int .i64 0, .slice none 0 0, .slice none 0 0, .slice none 0 0] 32)).cell? ⟨gq, 0, none⟩ = some (.string nm) := D6a.out.2.2.2.2.2.2.1.cell 0; have x3 : (w6.alloc (.cells #[.int .i64 0, .bool false, .bool false, .bool false, .bool false, .bool false, .int .i64 0, .string ⟨#[]⟩, .int .i64 0, .slice none 0 0, .slice none 0 0, .slice none 0 0] 32)).cell? ⟨gq, 1, none⟩ = some (.int .i64 ty) := D6a.out.2.2.2.2.2.2.1.cell 1; try (with_reducible have A6 := Lib.hid (A5.out.grown hg6 NGA)))
      | (go_simp; go_at_call 24; (refine (AskM.spec x nm ty _).mono ?_); rintro e w7 ⟨rfl, hl⟩; (first | (with_reducible have RBx : RB w7 w5.heap.size := rb_bl (A6.out.below hl A6.out.lt)) | (with_reducible have RBx : RB w7 w6.heap.size := rb_bl ((bl_new w6).below hl (bl_new w6).lt)) | skip); (first | with_reducible have D7 := Lib.hid (D6.out.below hl) | with_reducible have D7 := Lib.hid (D6a.out.below hl)); try (have p0 := RBx.cell 0 (by decide); have f0 := RBx.free 0; have p1 := RBx.cell 1 (by decide); have f1 := RBx.free 1; have p2 := RBx.cell 2 (by decide); have f2 := RBx.free 2; have p3 := RBx.cell 3 (by decide); have f3 := RBx.free 3; have p4 := RBx.cell 4 (by decide); have f4 := RBx.free 4; have p5 := RBx.cell 5 (by decide); have f5 := RBx.free 5; have p6 := RBx.cell 6 (by decide); have f6 := RBx.free 6; have p7 := RBx.cell 7 (by decide); have f7 := RBx.free 7; have p8 := RBx.cell 8 (by decide); have f8 := RBx.free 8; have p9 := RBx.cell 9 (by decide); have f9 := RBx.free 9; have p10 := RBx.cell 10 (by decide); have f10 := RBx.free 10; have p11 := RBx.cell 11 (by decide); have f11 := RBx.free 11)))
    all_goals
      go_wp2_with fail
      go_meet
      case rel =>
        first
          | (refine ⟨w7.heap.size, x, rfl, ?_, ?_, ?_⟩
             · exact ⟨D7.out.2.2.2.2.2.2.1.lt, fun h0 => by have := sr_lt D7.out.2.2.2.2.2.2.2 h0; omega⟩
             · exact heap_alloc_new w7 _
             · exact D7.out.alloc _)
          | (refine ⟨w5.heap.size, x, rfl, ⟨LQ.out, LB.out⟩, ?_, ?_⟩
             · exact RBx.fil (askh x nm ty) _ _ _
             · exact D7.out.fills LQ.out LB.out (askh x nm ty) _ _ _)
          | (have LQ6 : gq < w6.heap.size := D6.out.2.2.2.2.2.2.1.lt
             have LB6 : 0 < m → b ≠ w6.heap.size := fun h0 => by have := sr_lt D6.out.2.2.2.2.2.2.2 h0; omega
             refine ⟨w6.heap.size, x, rfl, ⟨LQ6, LB6⟩, ?_, ?_⟩
             · exact RBx.fil (askh x nm ty) _ _ _
             · exact D7.out.fills LQ6 LB6 (askh x nm ty) _ _ _)
  case rest =>
    obtain ⟨gm, id, rfl, HG, HM, HD⟩ := hcut
    clear DD DA CD CA A5 NGA LQ LB D3 z0 z1 y0 y1
    go_wp2_with fail
    refine (l1Once_any g 2 wc HD.out.2.1 (by omega) (by omega)).mono ?_
    rintro e w8 ⟨bb, rfl, hc8, hg8⟩
    have D8 := Lib.hid (HD.out.step hc8 hg8)
    have M8 := Lib.hid (HM.out.grown hg8 (fun e => by have h1 := HD.out.1.2.1; have h2 := HD.out.1.2.2.1; have h3 := HG.out.1; have := Option.some.inj e; omega))
    have p4 : w8.cell? ⟨gm, 4, none⟩ = some (.bool false) := M8.out.cell 4
    have f4 := M8.out.free 4
    have D9 : Hid (Dm w g gz gq s b o m cap L nm ty (w8.setCell ⟨gm, 4, none⟩ (.bool bb))) := D8.out.set HG.out.1 HG.out.2 4 _
    have M9 : Hid (Bk (w8.setCell ⟨gm, 4, none⟩ (.bool bb)) gm 32 (mc ⟨id, false, false, false, bb, false, 0, nm, ty⟩ (.slice none 0 0) (.slice none 0 0) (.slice none 0 0))) := M8.out.set 4 _
    clear hc8 hg8 HD HM D8 M8
    go_upto_region 5 with (fail)
    clear p4 f4
    generalize w8.setCell ⟨gm, 4, none⟩ (.bool bb) = w9 at *
    obtain ⟨⟨i1, i2, i3, -⟩, -, -, k1, k2, k3, -, -⟩ := D9.out
    have i4 := HG.out.1
    have j1 : gm ≠ w.heap.size := by omega
    have j2 : gm ≠ w.heap.size + 1 := by omega
    have j3 : gz ≠ w.heap.size := by omega
    have j4 : gz ≠ w.heap.size + 1 := by omega
    obtain ⟨z0, z1⟩ := k3
    obtain ⟨m0, m1, m2, m3, m4, m5, m6, m7, m8, m9, m10, m11⟩ := mx_of M9.out
    have a0 := k1.cell 0
    have a1 := k1.cell 1
    have c0 := k1.free 0
    have c1 := k1.free 1
    obtain ⟨b0, b1, b2, b3, b4, b5, b6, b7, b8, b9, b10, b11⟩ := mx_of k2
    have d0 := k2.free 0
    have d1 := k2.free 1
    have d2 := k2.free 2
    have d3 := k2.free 3
    have d4 := k2.free 4
    have d5 := k2.free 5
    have d6 := k2.free 6
    have d7 := k2.free 7
    have d8 := k2.free 8
    have d9 := k2.free 9
    have d10 := k2.free 10
    have d11 := k2.free 11
    simp only [zc, List.getElem?_cons_zero, List.getElem?_cons_succ] at a0 a1
    clear k1 k2
    go_region
    all_goals
      have FN := Lib.hid (D9.out.endsD ⟨id, false, false, false, bb, false, 0, nm, ty⟩)
      go_wp2
      exact bodyPost_ret (v := .tuple #[.agg #[.string s, (.slice (some ⟨b, o, none⟩) m cap)], .agg #[.int .i64 ((⟨id, false, false, false, bb, false, 0, nm, ty⟩ : Hd)).id, .bool ((⟨id, false, false, false, bb, false, 0, nm, ty⟩ : Hd)).rp, .bool ((⟨id, false, false, false, bb, false, 0, nm, ty⟩ : Hd)).au, .bool ((⟨id, false, false, false, bb, false, 0, nm, ty⟩ : Hd)).ct, .bool ((⟨id, false, false, false, bb, false, 0, nm, ty⟩ : Hd)).wa, .bool ((⟨id, false, false, false, bb, false, 0, nm, ty⟩ : Hd)).ca, .int .i64 ((⟨id, false, false, false, bb, false, 0, nm, ty⟩ : Hd)).code, .string ((⟨id, false, false, false, bb, false, 0, nm, ty⟩ : Hd)).qn, .int .i64 ((⟨id, false, false, false, bb, false, 0, nm, ty⟩ : Hd)).qt, .slice none 0 0, .slice none 0 0, .slice none 0 0]]) (resZM rfl FN.out.1 FN.out.2.1 rfl rfl) rfl ⟨s, b, o, m, cap, L, ⟨id, false, false, false, bb, false, 0, nm, ty⟩, rfl, hs20, HNM.out, hm9, SM.out, FN.out.2.2.1, FN.out.2.2.2⟩

end Go.Proofs.Ytjgmocmaeadjdaa.DrawSm

/- Plain mathematics of a server with a zone: the kind of a question, the three sections of its reply. -/
namespace Go.Proofs.Ytjgmocmaeadjdaa.ServeMath
open Go.RowKit Go.Proofs.Ytjgmocmaeadjdaa.MemR Go.Proofs.Ytjgmocmaeadjdaa.SetMath Go.Proofs.Ytjgmocmaeadjdaa.NameMath Go.Proofs.Ytjgmocmaeadjdaa.ZoneMath

/-- Which kind of reply a question has: not, down, alias, set, nodata, noname. -/
noncomputable def kd (s nm : ByteArray) (ty : Int) (l : List Rec) : Int :=
  if Un nm s = false then 0 else if (co nm (uq (cn s l))).isSome = true then 1 else if ty ≠ 5 ∧ 0 < (sf nm 5 l).length then 2 else if 0 < (sf nm ty l).length then 3 else if ex nm l = true then 4 else 5

/-- The cut of a name, or the empty name. -/
noncomputable def cu (s nm : ByteArray) (l : List Rec) : ByteArray := (co nm (uq (cn s l))).getD ⟨#[]⟩

/-- The answers. -/
noncomputable def anl (k : Int) (nm : ByteArray) (ty : Int) (l : List Rec) : List Rec := if k = 2 then sf nm 5 l else if k = 3 then sf nm ty l else []

/-- The servers of the cut, or the start. -/
noncomputable def mol (k : Int) (s nm : ByteArray) (l : List Rec) : List Rec := if k = 1 then sf (cu s nm l) 2 l else if k = 4 ∨ k = 5 then [st l] else []

/-- The addresses of the cut's servers. -/
noncomputable def hel (k : Int) (s nm : ByteArray) (l : List Rec) : List Rec := if k = 1 then gl (uq (hl (sf (cu s nm l) 2 l))) l else []

theorem kd_six (s nm : ByteArray) (ty : Int) (l : List Rec) : kd s nm ty l = 0 ∨ kd s nm ty l = 1 ∨ kd s nm ty l = 2 ∨ kd s nm ty l = 3 ∨ kd s nm ty l = 4 ∨ kd s nm ty l = 5 := by
  unfold kd
  repeat' split
  all_goals simp

theorem kd0 {s nm : ByteArray} {ty : Int} {l : List Rec} (h : Un nm s = false) : kd s nm ty l = 0 := if_pos h

theorem kd1 {s nm : ByteArray} {ty : Int} {l : List Rec} (h : Un nm s = true) (h1 : (co nm (uq (cn s l))).isSome = true) : kd s nm ty l = 1 := by
  unfold kd; rw [if_neg (by simp [h]), if_pos h1]

theorem kd2 {s nm : ByteArray} {ty : Int} {l : List Rec} (h : Un nm s = true) (h1 : co nm (uq (cn s l)) = none) (h2 : ty ≠ 5) (h3 : 0 < (sf nm 5 l).length) : kd s nm ty l = 2 := by
  unfold kd; rw [if_neg (by simp [h]), if_neg (by simp [h1]), if_pos ⟨h2, h3⟩]

theorem kd3 {s nm : ByteArray} {ty : Int} {l : List Rec} (h : Un nm s = true) (h1 : co nm (uq (cn s l)) = none) (h2 : ty = 5 ∨ (sf nm 5 l).length = 0) (h3 : 0 < (sf nm ty l).length) : kd s nm ty l = 3 := by
  unfold kd; rw [if_neg (by simp [h]), if_neg (by simp [h1]), if_neg (fun e => by rcases h2 with h | h; exact e.1 h; omega), if_pos h3]

theorem kd4 {s nm : ByteArray} {ty : Int} {l : List Rec} (h : Un nm s = true) (h1 : co nm (uq (cn s l)) = none) (h2 : ty = 5 ∨ (sf nm 5 l).length = 0) (h3 : (sf nm ty l).length = 0) (h4 : ex nm l = true) : kd s nm ty l = 4 := by
  unfold kd; rw [if_neg (by simp [h]), if_neg (by simp [h1]), if_neg (fun e => by rcases h2 with h | h; exact e.1 h; omega), if_neg (by omega), if_pos h4]

theorem kd5 {s nm : ByteArray} {ty : Int} {l : List Rec} (h : Un nm s = true) (h1 : co nm (uq (cn s l)) = none) (h2 : ty = 5 ∨ (sf nm 5 l).length = 0) (h3 : (sf nm ty l).length = 0) (h4 : ex nm l = false) : kd s nm ty l = 5 := by
  unfold kd; rw [if_neg (by simp [h]), if_neg (by simp [h1]), if_neg (fun e => by rcases h2 with h | h; exact e.1 h; omega), if_neg (by omega), if_neg (by simp [h4])]

theorem anl_len (k : Int) (nm : ByteArray) (ty : Int) (l : List Rec) : (anl k nm ty l).length ≤ l.length := by
  unfold anl
  split
  · exact sf_len _ _ _
  · split
    · exact sf_len _ _ _
    · simp

theorem mol_len (k : Int) (s nm : ByteArray) (l : List Rec) : (mol k s nm l).length ≤ l.length + 1 := by
  unfold mol
  split
  · have := sf_len (cu s nm l) 2 l; omega
  · split <;> simp

theorem hel_len (k : Int) (s nm : ByteArray) (l : List Rec) : (hel k s nm l).length ≤ l.length * l.length := by
  unfold hel
  split
  · refine Nat.le_trans (gl_len _ _) (Nat.mul_le_mul ?_ (Nat.le_refl _))
    have h1 := len_uq (hl (sf (cu s nm l) 2 l))
    have h2 := hl_len (sf (cu s nm l) 2 l)
    have h3 := sf_len (cu s nm l) 2 l
    omega
  · simp

/-- The code of a reply of a kind. -/
def rcd (k : Int) : Int := if k = 0 then 5 else if k = 5 then 3 else 0

/-- Whether a reply of a kind is authoritative. -/
def aut (k : Int) : Bool := decide (k ≠ 0 ∧ k ≠ 1)

end Go.Proofs.Ytjgmocmaeadjdaa.ServeMath

/- Plain mathematics of the kinds of replies: where answers and servers are. -/
namespace Go.Proofs.Ytjgmocmaeadjdaa.KnMath
open Go.RowKit Go.Proofs.Ytjgmocmaeadjdaa.MemR Go.Proofs.Ytjgmocmaeadjdaa.SetMath Go.Proofs.Ytjgmocmaeadjdaa.NameMath Go.Proofs.Ytjgmocmaeadjdaa.ZoneMath Go.Proofs.Ytjgmocmaeadjdaa.ServeMath

/-- The kind is alias or set just where there are answers. -/
theorem anl_pos (s nm : ByteArray) (ty : Int) (l : List Rec) : 0 < (anl (kd s nm ty l) nm ty l).length ↔ (kd s nm ty l = 2 ∨ kd s nm ty l = 3) := by
  constructor
  · intro h
    unfold anl at h
    split at h
    · exact Or.inl (by assumption)
    · split at h
      · exact Or.inr (by assumption)
      · simp at h
  · intro h
    unfold kd at h ⊢
    unfold anl
    by_cases h0 : Un nm s = false
    · simp [h0] at h
    · rw [if_neg h0] at h ⊢
      by_cases h1 : (co nm (uq (cn s l))).isSome = true
      · rw [if_pos h1] at h; simp at h
      · rw [if_neg h1] at h ⊢
        by_cases h2 : ty ≠ 5 ∧ 0 < (sf nm 5 l).length
        · rw [if_pos h2]; exact h2.2
        · rw [if_neg h2] at h ⊢
          by_cases h3 : 0 < (sf nm ty l).length
          · rw [if_pos h3]; exact h3
          · rw [if_neg h3] at h
            split at h <;> simp at h

theorem cut_set {s x : ByteArray} {l : List Rec} (h : x ∈ uq (cn s l)) : 0 < (sf x 2 l).length := by
  obtain ⟨r, hr, rfl⟩ := List.mem_map.1 (mem_uq.1 h)
  obtain ⟨h1, h2⟩ := List.mem_filter.1 hr
  have h3 : r.ty = 2 ∧ r.name ≠ s ∧ Un r.name s = true := Classical.byContradiction fun hn => by rw [isc_false hn] at h2; cases h2
  exact List.length_pos_of_mem (List.mem_filter.2 ⟨h1, isk_true ⟨rfl, h3.1⟩⟩)

theorem mol_pos (s nm : ByteArray) (ty : Int) (l : List Rec) (h : kd s nm ty l = 1) : 0 < (mol (kd s nm ty l) s nm l).length := by
  have hc : (co nm (uq (cn s l))).isSome = true := by
    unfold kd at h
    by_cases h0 : Un nm s = false
    · rw [if_pos h0] at h; simp at h
    · rw [if_neg h0] at h
      by_cases h1 : (co nm (uq (cn s l))).isSome = true
      · exact h1
      · rw [if_neg h1] at h
        repeat' split at h
        all_goals simp at h
  rw [h]
  unfold mol
  rw [if_pos rfl]
  obtain ⟨x, hx⟩ := Option.isSome_iff_exists.1 hc
  have e : cu s nm l = x := by unfold cu; rw [hx]; rfl
  rw [e]
  exact cut_set (List.mem_of_find?_eq_some hx)

end Go.Proofs.Ytjgmocmaeadjdaa.KnMath

/- A content that a call gives back lies in a box of its own, made first and filled at the return: what the box reads as, and what the result is; a section, perhaps nil. -/
namespace Go.Proofs.Ytjgmocmaeadjdaa.ResC
open Go.RowKit Go.Proofs.Ytjgmocmaeadjdaa.Mem Go.Proofs.Ytjgmocmaeadjdaa.MemR Go.Proofs.Ytjgmocmaeadjdaa.ResR Go.Proofs.Ytjgmocmaeadjdaa.ServeMath Go.Proofs.Ytjgmocmaeadjdaa.Wt

/-- A content as cells. -/
def cc (d : Int) (a : Bool) (x y z : Value) : List Value := [.int .i64 d, .bool a, x, y, z]

/-- The box g filled with a content. -/
def filC (w : World) (g : Nat) (d : Int) (a : Bool) (x y z : Value) : World := ((((w.setCell ⟨g, 0, none⟩ (.int .i64 d)).setCell ⟨g, 1, none⟩ (.bool a)).setCell ⟨g, 2, none⟩ (x)).setCell ⟨g, 3, none⟩ (y)).setCell ⟨g, 4, none⟩ (z)

section
variable {w w1 : World} {g B : Nat} {t : TypeId} {d d0 : Int} {a a0 : Bool} {x y z x0 y0 z0 : Value}

theorem filC_bk (k : Bk w g t (cc d0 a0 x0 y0 z0)) (d : Int) (a : Bool) (x y z : Value) : Bk (filC w g d a x y z) g t (cc d a x y z) := (((((k.set 0 (.int .i64 d)).set 1 (.bool a)).set 2 (x)).set 3 (y)).set 4 (z))

theorem filC_below (k : Below B w w1) (hg : B ≤ g) (d : Int) (a : Bool) (x y z : Value) : Below B w (filC w1 g d a x y z) := (((((k.setCell (p := ⟨g, 0, none⟩) hg (.int .i64 d)).setCell (p := ⟨g, 1, none⟩) hg (.bool a)).setCell (p := ⟨g, 2, none⟩) hg (x)).setCell (p := ⟨g, 3, none⟩) hg (y)).setCell (p := ⟨g, 4, none⟩) hg (z))

theorem filC_other {j : Nat} {u : TypeId} {cs : List Value} (k : Bk w j u cs) (hk : j ≠ g) (d : Int) (a : Bool) (x y z : Value) : Bk (filC w g d a x y z) j u cs := (((((k.other (p := ⟨g, 0, none⟩) hk (.int .i64 d)).other (p := ⟨g, 1, none⟩) hk (.bool a)).other (p := ⟨g, 2, none⟩) hk (x)).other (p := ⟨g, 3, none⟩) hk (y)).other (p := ⟨g, 4, none⟩) hk (z))
end

theorem load_con {w : World} {g : Nat} {t : TypeId} {d : Int} {a : Bool} {A1 A2 A3 : Option Addr} {n1 c1 n2 c2 n3 c3 : Nat} (k : Bk w g t (cc d a (.slice A1 n1 c1) (.slice A2 n2 c2) (.slice A3 n3 c3))) :
    (loadVar 58 ⟨g, 0, none⟩).run Try.prog w = .ok (.agg #[.int .i64 d, .bool a, .slice A1 n1 c1, .slice A2 n2 c2, .slice A3 n3 c3]) w := by
  have e0 : w.cell? ⟨g, 0, none⟩ = some (.int .i64 d) := k.cell 0
  have e1 : w.cell? ⟨g, 1, none⟩ = some (.bool a) := k.cell 1
  have e2 : w.cell? ⟨g, 2, none⟩ = some (.slice A1 n1 c1) := k.cell 2
  have e3 : w.cell? ⟨g, 3, none⟩ = some (.slice A2 n2 c2) := k.cell 3
  have e4 : w.cell? ⟨g, 4, none⟩ = some (.slice A3 n3 c3) := k.cell 4
  simp [go_sem, e0, e1, e2, e3, e4]

theorem res1C {fn : Func} {p : Tmp} {w : World} {g : Nat} {t : TypeId} {d : Int} {a : Bool} {A1 A2 A3 : Option Addr} {n1 c1 n2 c2 n3 c3 : Nat} {tmps : Array Value} (hf : fn.results = #[.cell p 58])
    (k : Bk w g t (cc d a (.slice A1 n1 c1) (.slice A2 n2 c2) (.slice A3 n3 c3))) (h4 : tmps.getD p undef = .pointer (some ⟨g, 0, none⟩)) :
    (results fn tmps).run Try.prog w = .ok (.agg #[.int .i64 d, .bool a, .slice A1 n1 c1, .slice A2 n2 c2, .slice A3 n3 c3]) w := by
  rw [results_cell hf, h4, as_addr]
  simp only [Result.andThen, load_con k]

/-- A section: nil, or a new block that reads as the records (room behind them let in). -/
def Sec (B : Nat) (w : World) (A : Option Addr) (m c : Nat) (L : List Rec) : Prop :=
  (A = none ∧ m = 0 ∧ c = 0 ∧ L = []) ∨ ∃ g r, A = some ⟨g, 0, none⟩ ∧ L.length = m ∧ m ≤ c ∧ B ≤ g ∧ Bk w g 56 (fl L ++ r)

theorem Sec.nil {B : Nat} {w : World} : Sec B w none 0 0 [] := .inl ⟨rfl, rfl, rfl, rfl⟩

theorem Sec.below {B : Nat} {w w' : World} {A : Option Addr} {m c : Nat} {L : List Rec} (h : Sec B w A m c L) (hb : Below w.heap.size w w') : Sec B w' A m c L := by
  rcases h with h | ⟨g, r, h1, h2, h3, h4, h5⟩
  · exact .inl h
  · exact .inr ⟨g, r, h1, h2, h3, h4, h5.below hb h5.lt⟩

theorem Sec.low {B B' : Nat} {w : World} {A : Option Addr} {m c : Nat} {L : List Rec} (h : Sec B w A m c L) (hb : B' ≤ B) : Sec B' w A m c L := by
  rcases h with h | ⟨g, r, h1, h2, h3, h4, h5⟩
  · exact .inl h
  · exact .inr ⟨g, r, h1, h2, h3, Nat.le_trans hb h4, h5⟩

theorem Sec.fil {B : Nat} {w : World} {A : Option Addr} {m c : Nat} {L : List Rec} (h : Sec B w A m c L) {g : Nat} (hg : g < B) (d : Int) (a : Bool) (x y z : Value) : Sec B (filC w g d a x y z) A m c L := by
  rcases h with h | ⟨k, r, h1, h2, h3, h4, h5⟩
  · exact .inl h
  · exact .inr ⟨k, r, h1, h2, h3, h4, filC_other h5 (by omega) d a x y z⟩

theorem Sec.len {B : Nat} {w : World} {A : Option Addr} {m c : Nat} {L : List Rec} (h : Sec B w A m c L) : L.length = m := by
  rcases h with ⟨_, h, _, rfl⟩ | ⟨g, r, _, h2, _⟩
  · exact h.symm
  · exact h2

theorem Sec.cap {B : Nat} {w : World} {A : Option Addr} {m c : Nat} {L : List Rec} (h : Sec B w A m c L) : m ≤ c := by
  rcases h with ⟨_, h, h', _⟩ | ⟨g, r, _, _, h3, _⟩
  · omega
  · exact h3

theorem Sec.sr {B : Nat} {w : World} {A : Option Addr} {m c : Nat} {L : List Rec} (h : Sec B w A m c L) : Sr w w.heap.size A m L := by
  rcases h with ⟨rfl, rfl, _, rfl⟩ | ⟨g, r, rfl, h2, _, _, h5⟩
  · exact Sr.nil
  · exact bk_sr h5 h2

/-- The call returned a content with this code, flag and sections, and turned nothing that was there. -/
def GivesK (w : World) (d : Int) (a : Bool) (L1 L2 L3 : List Rec) (e : Ending) (w' : World) : Prop :=
  ∃ A1 m1 c1 A2 m2 c2 A3 m3 c3, e = .returned (.agg #[.int .i64 d, .bool a, .slice A1 m1 c1, .slice A2 m2 c2, .slice A3 m3 c3]) ∧ Sec w.heap.size w' A1 m1 c1 L1 ∧ Sec w.heap.size w' A2 m2 c2 L2 ∧ Sec w.heap.size w' A3 m3 c3 L3 ∧ Below w.heap.size w w'

end Go.Proofs.Ytjgmocmaeadjdaa.ResC

/- What Hosts does in the model. Condition: fewer than 400000001 records. -/
namespace Go.Proofs.Ytjgmocmaeadjdaa.HostS
open Go.RowKit Go.Proofs.Ytjgmocmaeadjdaa.Mem Go.Proofs.Ytjgmocmaeadjdaa.MemR Go.Proofs.Ytjgmocmaeadjdaa.SetMath Go.Proofs.Ytjgmocmaeadjdaa.Isin Go.Proofs.Ytjgmocmaeadjdaa.MemS Go.Proofs.Ytjgmocmaeadjdaa.AppS

theorem grown_of_below {w w' : World} (h : Below w.heap.size w w') (r : Option Nat) : w.grownBy w' r := ⟨h.os, h.tape, h.output, h.size, fun k hk _ => h.block k hk⟩

set_option maxHeartbeats 1000000 in
theorem has (A : Option Addr) (n c : Nat) (l : List ByteArray) (x : ByteArray) (w : World) (hs : Ss w w.heap.size A n l) (hn : n ≤ 400000000) :
    Calls Try.prog 60 #[.slice A n c, .string x] w fun e w' => e = .returned (.bool (isin l x)) ∧ Below w.heap.size w w' := by
  have HS := Lib.hid hs
  clear hs
  go_enter Try.func60, Try.ntmps60
  go_wp2
  go_loopw [5] (fun i wr => ∃ k : Nat, k ≤ n ∧ i = .int .i64 k ∧ Hid (x ∉ l.take k) ∧ Hid (Below w.heap.size w wr)) (fun i _ => n - (intOf i).toNat)
  case atStart => exact ⟨0, Nat.zero_le _, rfl, not_zero l x, Below.refl _ _⟩
  case round =>
    obtain ⟨k, hk, rfl, HX, HL⟩ := hrel
    by_cases hlt : k < n
    · obtain ⟨b, off, rfl, hbB, hcs⟩ := HS.out.2 (by omega)
      have hkl : k < l.length := by rw [HS.out.1]; exact hlt
      have e0 : wr.cell? ⟨b, off + k, none⟩ = some (.string l[k]) := (HL.out.cell (p := ⟨b, off + k, none⟩) hbB).trans (hcs k hkl)
      clear hcs
      have HI := Lib.hid (isin_at l x k hkl)
      have HO := Lib.hid (not_next l x k hkl)
      generalize l[k] = y at *
      by_cases hne : y = x
      · have HT := Lib.hid (HI.out hne)
        subst hne
        have q1 : (y.toList == y.toList) = true := by simp
        have q2 : (y.data.toList == y.data.toList) = true := by simp
        go_wp2
        go_ret
        exact ⟨by rw [HT.out]; rfl, HL.out⟩
      · have HN := Lib.hid (HO.out HX.out hne)
        have q1 : (y.toList == x.toList) = false := bytes_ne hne
        have q2 : (y.data.toList == x.data.toList) = false := by rw [← ByteArray.toList_eq, ← ByteArray.toList_eq]; exact q1
        clear hne
        go_wp2
        go_roundw
        case rel => exact ⟨k + 1, by omega, by go_num, HN.out, HL.out⟩
        case measure => simp [intOf]; omega
    · obtain rfl : n = k := by omega
      have HF : Hid (isin l x = false) := isin_false (by rw [take_all HS.out.1] at HX; exact HX.out)
      go_wp2
      go_ret
      exact ⟨by rw [HF.out]; rfl, HL.out⟩

set_option maxHeartbeats 4000000 in
theorem spec (b0 o0 n c : Nat) (l : List Rec) (w : World) (hs : Sr w w.heap.size (some ⟨b0, o0, none⟩) n l) (hn : n ≤ 400000000) : Calls Try.prog 38 #[.slice (some ⟨b0, o0, none⟩) n c] w (GivesS w (uq (hl l))) := by
  obtain ⟨i0, hi, hz0, hz1, hz2⟩ := info_parts info
  have HS := Lib.hid hs
  clear hs
  have P0 := Lib.hid (owns_new w)
  have L0 := Lib.hid ((Below.refl w.heap.size w).alloc (Nat.le_refl _) (.cells #[] 9))
  go_enter Try.func38, Try.ntmps38
  go_wp2
  generalize w.alloc (.cells #[] 9) = w0 at *
  go_loopw [3, 4] (fun out i wr => ∃ k g m cap : Nat, k ≤ n ∧ m ≤ k ∧ i = .int .i64 k ∧ out = .slice (some ⟨g, 0, none⟩) m cap ∧ Hid (wr.ownsRow w.heap.size 9 1 (.slice (some ⟨g, 0, none⟩) m cap) m ((uq (hl (l.take k))).map tv)) ∧ Hid (Below w.heap.size w wr)) (fun _ i _ => n - (intOf i).toNat)
  case atStart => exact ⟨0, w.heap.size, 0, 0, Nat.zero_le _, Nat.le_refl _, rfl, rfl, P0.out, L0.out⟩
  case round =>
    clear P0 L0
    obtain ⟨k, g, m, cap, hk, hm, rfl, rfl, HO, HL⟩ := hrel
    by_cases hlt : k < n
    · obtain ⟨b, off, hA, hbB, hcs⟩ := HS.out.2 (by omega)
      obtain ⟨rfl, rfl⟩ : b0 = b ∧ o0 = off := by simp at hA; exact hA
      clear hA
      have hkl : k < l.length := by rw [HS.out.1]; exact hlt
      obtain ⟨e0, e1, e2, e3, e4, e5⟩ := (hcs k hkl).below HL.out hbB
      clear hcs
      have HT := Lib.hid (hl_take l k hkl)
      generalize l[k] = r at *
      by_cases hty : ¬ r.ty = 2
      · have HA := Lib.hid (show uq (hl (l.take (k + 1))) = uq (hl (l.take k)) from by rw [HT.out, if_neg hty, List.append_nil])
        have t0 : (r.ty == 2) = false := by simpa using hty
        clear hty
        go_wp2
        go_roundw
        case rel => exact ⟨k + 1, g, m, cap, by omega, by omega, by go_num, rfl, by rw [HA.out]; exact HO.out, HL.out⟩
        case measure => simp [intOf]; omega
      replace hty : r.ty = 2 := Classical.not_not.1 hty
      have HU := Lib.hid (show uq (hl (l.take (k + 1))) = add (uq (hl (l.take k))) r.host from by rw [HT.out, if_pos hty, uq_snoc])
      have t0 : (r.ty == 2) = true := by simpa using hty
      clear hty
      have HZ : Hid ((uq (hl (l.take k))).length = m) := show _ = _ by have := HO.out.1; simpa using this
      have SS : Hid (∀ W : World, W.ownsRow w.heap.size 9 1 (.slice (some ⟨g, 0, none⟩) m cap) m ((uq (hl (l.take k))).map tv) → Calls Try.prog 60 #[.slice (some ⟨g, 0, none⟩) m cap, .string r.host] W fun e w' => e = .returned (.bool (isin (uq (hl (l.take k))) (r.host))) ∧ Below W.heap.size W w') :=
        fun W O => has _ m cap (uq (hl (l.take k))) (r.host) W (show Ss W W.heap.size (some ⟨g, 0, none⟩) m (uq (hl (l.take k))) from by obtain ⟨r', hb, _, _⟩ := bk_of_owns O; exact bk_ssw hb HZ.out) (by omega)
      go_wp2_with fail
      refine (SS.out _ HO.out).mono ?_
      rintro e w1 ⟨rfl, hl⟩
      have O1 := Lib.hid (HO.out.kept (grown_of_below hl none) (Or.inr (fun e => by cases e)))
      have L1 := Lib.hid (HL.out.trans (hl.mono HL.out.size))
      have C1 := (show Ce w1 b0 (o0 + k * 6) r from ⟨(hl.cell (p := ⟨b0, o0 + k * 6, none⟩) (Nat.lt_of_lt_of_le hbB HL.out.size)).trans e0, (hl.cell (p := ⟨b0, o0 + k * 6 + 1, none⟩) (Nat.lt_of_lt_of_le hbB HL.out.size)).trans e1, (hl.cell (p := ⟨b0, o0 + k * 6 + 2, none⟩) (Nat.lt_of_lt_of_le hbB HL.out.size)).trans e2, (hl.cell (p := ⟨b0, o0 + k * 6 + 3, none⟩) (Nat.lt_of_lt_of_le hbB HL.out.size)).trans e3, (hl.cell (p := ⟨b0, o0 + k * 6 + 4, none⟩) (Nat.lt_of_lt_of_le hbB HL.out.size)).trans e4, (hl.cell (p := ⟨b0, o0 + k * 6 + 5, none⟩) (Nat.lt_of_lt_of_le hbB HL.out.size)).trans e5⟩)
      clear hl e0 e1 e2 e3 e4 e5 SS
      obtain ⟨e0, e1, e2, e3, e4, e5⟩ := C1
      by_cases hin : r.host ∈ uq (hl (l.take k))
      · have HA := Lib.hid (HU.out.trans (add_in hin))
        have HB := Lib.hid (isin_true hin)
        clear hin
        rw [HB.out]
        go_wp2
        go_roundw
        case rel => exact ⟨k + 1, g, m, cap, by omega, by omega, by go_num, rfl, by rw [HA.out]; exact O1.out, L1.out⟩
        case measure => simp [intOf]; omega
      · have HA := Lib.hid (HU.out.trans (add_out hin))
        have HB := Lib.hid (isin_false hin)
        clear hin
        rw [HB.out]
        go_wp2_with (at_builtin; refine append_one (w := w1) rfl (.tmp 28) (.tmp 34) 62 rfl w.heap.size 9 i0 _ Try.underlying62 hi hz0 hz1 hz2 rfl g m cap (uq (hl (l.take k))) rfl O1.out r.host rfl (by omega) (by have h1 := O1.out.lt g rfl; omega) ?_)
        intro g' cap' w3 hown hgrow
        have O3 := Lib.hid hown
        have L3 := Lib.hid ((L1.out.alloc L1.out.size (.cells #[.string r.host] 9)).grown hgrow (Nat.le_trans L1.out.size (by simp)) (fun j hj => by cases hj; have h1 := O1.out.lt g rfl; omega))
        clear hown hgrow
        go_wp2
        go_roundw
        case rel => exact ⟨k + 1, g', m + 1, cap', by omega, by omega, by go_num, rfl, by rw [HA.out, List.map_append]; exact O3.out, L3.out⟩
        case measure => simp [intOf]; omega
    · obtain rfl : n = k := by omega
      have HN := Lib.hid (take_all HS.out.1)
      go_wp2
      go_ret
      have ho := HO.out
      rw [HN.out] at ho
      exact gives_of_owns ho HL.out
end Go.Proofs.Ytjgmocmaeadjdaa.HostS

/- What CutsOf does in the model: the names of the cuts, each once. Condition: fewer than 400000001 records, no name of more than 400000000 bytes. -/
namespace Go.Proofs.Ytjgmocmaeadjdaa.CutsS
open Go.RowKit Go.Proofs.Ytjgmocmaeadjdaa.Mem Go.Proofs.Ytjgmocmaeadjdaa.MemR Go.Proofs.Ytjgmocmaeadjdaa.BoxR Go.Proofs.Ytjgmocmaeadjdaa.SetMath Go.Proofs.Ytjgmocmaeadjdaa.NameMath Go.Proofs.Ytjgmocmaeadjdaa.ZoneMath Go.Proofs.Ytjgmocmaeadjdaa.MemZ Go.Proofs.Ytjgmocmaeadjdaa.Isin Go.Proofs.Ytjgmocmaeadjdaa.MemS Go.Proofs.Ytjgmocmaeadjdaa.AppS Go.Proofs.Ytjgmocmaeadjdaa.HostS

set_option maxHeartbeats 8000000 in
theorem spec (s : ByteArray) (b0 o0 n c : Nat) (l : List Rec) (w : World) (hs : Sr w w.heap.size (some ⟨b0, o0, none⟩) n l) (hn : n ≤ 400000000) (hm : s.size ≤ 400000000) (hz : ∀ r ∈ l, r.name.size ≤ 400000000) :
    Calls Try.prog 52 #[.agg #[.string s, .slice (some ⟨b0, o0, none⟩) n c]] w (GivesS w (uq (cn s l))) := by
  obtain ⟨i0, hi, hz0, hz1, hz2⟩ := info_parts info
  have Z0 := Lib.hid ((zx_new w 26 s (.slice (some ⟨b0, o0, none⟩) n c)).alloc (.cells #[] 9))
  have L0 := Lib.hid (((Below.refl w.heap.size w).alloc (Nat.le_refl _) (.cells #[.string s, .slice (some ⟨b0, o0, none⟩) n c] 26)).alloc (by simp) (.cells #[] 9))
  have P0 := Lib.hid (owns_new (w.alloc (.cells #[.string s, .slice (some ⟨b0, o0, none⟩) n c] 26)))
  rw [show (w.alloc (.cells #[.string s, .slice (some ⟨b0, o0, none⟩) n c] 26)).heap.size = w.heap.size + 1 by simp] at P0
  have HS := Lib.hid hs
  have HZ := Lib.hid hz
  clear hs hz
  go_enter Try.func52, Try.ntmps52
  go_wp2
  generalize (w.alloc (.cells #[.string s, .slice (some ⟨b0, o0, none⟩) n c] 26)).alloc (.cells #[] 9) = w0 at *
  go_loopw [3, 4] (fun out i wr => ∃ k g m cap : Nat, k ≤ n ∧ m ≤ k ∧ i = .int .i64 k ∧ out = .slice (some ⟨g, 0, none⟩) m cap ∧ Hid (wr.ownsRow (w.heap.size + 1) 9 1 (.slice (some ⟨g, 0, none⟩) m cap) m ((uq (cn s (l.take k))).map tv)) ∧ Hid (Zx wr w.heap.size s (.slice (some ⟨b0, o0, none⟩) n c)) ∧ Hid (Below w.heap.size w wr)) (fun _ i _ => n - (intOf i).toNat)
  case atStart => exact ⟨0, w.heap.size + 1, 0, 0, Nat.zero_le _, Nat.le_refl _, rfl, rfl, P0.out, Z0.out, L0.out⟩
  case round =>
    clear Z0 L0 P0
    obtain ⟨k, g, m, cap, hk, hm', rfl, rfl, HO, HX, HL⟩ := hrel
    obtain ⟨z0, z1⟩ := HX.out
    have ltz := HX.out.lt
    by_cases hlt : k < n
    · obtain ⟨b, off, hA, hbB, hcs⟩ := HS.out.2 (by omega)
      obtain ⟨rfl, rfl⟩ : b0 = b ∧ o0 = off := by simp at hA; exact hA
      clear hA
      have hkl : k < l.length := by rw [HS.out.1]; exact hlt
      obtain ⟨e0, e1, e2, e3, e4, e5⟩ := (hcs k hkl).below HL.out hbB
      clear hcs
      have HT := Lib.hid (cn_take s l k hkl)
      have HM := Lib.hid (HZ.out _ (List.getElem_mem hkl))
      generalize l[k] = r at *
      have R0 := Lib.hid (bx_new wr 56 r)
      have O0 := Lib.hid (HO.out.alloc (.cells #[.string r.name, .int .i64 r.ty, .int .i64 r.ttl, .int .i64 r.n, .string r.host, .string r.text] 56))
      have X0 := Lib.hid (HX.out.alloc (.cells #[.string r.name, .int .i64 r.ty, .int .i64 r.ttl, .int .i64 r.n, .string r.host, .string r.text] 56))
      have L0 := Lib.hid (HL.out.alloc HL.out.size (.cells #[.string r.name, .int .i64 r.ty, .int .i64 r.ttl, .int .i64 r.n, .string r.host, .string r.text] 56))
      by_cases hty : ¬ r.ty = 2
      · have HA := Lib.hid (show uq (cn s (l.take (k + 1))) = uq (cn s (l.take k)) from by rw [HT.out, isc_false (fun h => hty h.1), if_neg (by decide), List.append_nil])
        have t0 : (r.ty == 2) = false := by simpa using hty
        clear hty
        go_wp2
        go_roundw
        case rel => exact ⟨k + 1, g, m, cap, by omega, by omega, by go_num, rfl, by rw [HA.out]; exact O0.out, X0.out, L0.out⟩
        case measure => simp [intOf]; omega
      replace hty : r.ty = 2 := Classical.not_not.1 hty
      have t0 : (r.ty == 2) = true := by simpa using hty
      by_cases hnm : r.name = s
      · have HA := Lib.hid (show uq (cn s (l.take (k + 1))) = uq (cn s (l.take k)) from by rw [HT.out, isc_false (fun h => h.2.1 hnm), if_neg (by decide), List.append_nil])
        have t1 : (r.name.toList == s.toList) = true := by rw [hnm]; simp
        have t2 : (r.name.data.toList == s.data.toList) = true := by rw [hnm]; simp
        clear hty hnm
        go_wp2
        go_roundw
        case rel => exact ⟨k + 1, g, m, cap, by omega, by omega, by go_num, rfl, by rw [HA.out]; exact O0.out, X0.out, L0.out⟩
        case measure => simp [intOf]; omega
      have t1 : (r.name.toList == s.toList) = false := bytes_ne hnm
      have t2 : (r.name.data.toList == s.data.toList) = false := by rw [← ByteArray.toList_eq, ← ByteArray.toList_eq]; exact t1
      have US := Lib.hid (fun W => Under.spec r.name s W HM.out hm)
      have HU : Hid (Un r.name s = true → uq (cn s (l.take (k + 1))) = add (uq (cn s (l.take k))) r.name) := fun hu => by rw [HT.out, isc_true ⟨hty, hnm, hu⟩, if_pos rfl, uq_snoc]
      have HV : Hid (Un r.name s = false → uq (cn s (l.take (k + 1))) = uq (cn s (l.take k))) := fun hu => by rw [HT.out, isc_false (fun h => by rw [hu] at h; exact absurd h.2.2 (by decide)), if_neg (by decide), List.append_nil]
      generalize Un r.name s = u at *
      clear hty hnm HT
      have HZ2 : Hid ((uq (cn s (l.take k))).length = m) := show _ = _ by have := HO.out.1; simpa using this
      have SS : Hid (∀ W : World, W.ownsRow (w.heap.size + 1) 9 1 (.slice (some ⟨g, 0, none⟩) m cap) m ((uq (cn s (l.take k))).map tv) → Calls Try.prog 60 #[.slice (some ⟨g, 0, none⟩) m cap, .string r.name] W fun e w' => e = .returned (.bool (isin (uq (cn s (l.take k))) (r.name))) ∧ Below W.heap.size W w') :=
        fun W O => has _ m cap (uq (cn s (l.take k))) (r.name) W (show Ss W W.heap.size (some ⟨g, 0, none⟩) m (uq (cn s (l.take k))) from by obtain ⟨r', hb, _, _⟩ := bk_of_owns O; exact bk_ssw hb HZ2.out) (by omega)
      go_wp2_with fail
      refine (US.out _).mono ?_
      rintro e w1 ⟨rfl, hl⟩
      have L1 := Lib.hid (L0.out.trans (hl.mono L0.out.size))
      have X1 := Lib.hid (X0.out.below hl)
      have R1 := Lib.hid (R0.out.below hl)
      have O1 := Lib.hid (O0.out.kept (grown_of_below hl none) (Or.inr (fun e => by cases e)))
      clear hl US z0 z1 e0 e1 e2 e3 e4 e5 L0 X0 R0 O0
      obtain ⟨z0, z1⟩ := X1.out
      obtain ⟨r0, r1, r2, r3, r4, r5⟩ := R1.out
      cases u with
      | false =>
        have HA := Lib.hid (HV.out rfl)
        go_wp2
        go_roundw
        case rel => exact ⟨k + 1, g, m, cap, by omega, by omega, by go_num, rfl, by rw [HA.out]; exact O1.out, X1.out, L1.out⟩
        case measure => simp [intOf]; omega
      | true =>
        have HB := Lib.hid (HU.out rfl)
        clear HU HV
        go_wp2_with fail
        refine (SS.out _ O1.out).mono ?_
        rintro e w2 ⟨rfl, hl⟩
        have L2 := Lib.hid (L1.out.trans (hl.mono L1.out.size))
        have X2 := Lib.hid (X1.out.below hl)
        have R2 := Lib.hid (R1.out.below hl)
        have O2 := Lib.hid (O1.out.kept (grown_of_below hl none) (Or.inr (fun e => by cases e)))
        clear hl SS z0 z1 r0 r1 r2 r3 r4 r5 L1 X1 R1 O1
        obtain ⟨z0, z1⟩ := X2.out
        obtain ⟨r0, r1, r2, r3, r4, r5⟩ := R2.out
        by_cases hin : r.name ∈ uq (cn s (l.take k))
        · have HA := Lib.hid (HB.out.trans (add_in hin))
          have HC := Lib.hid (isin_true hin)
          clear hin
          rw [HC.out]
          go_wp2
          go_roundw
          case rel => exact ⟨k + 1, g, m, cap, by omega, by omega, by go_num, rfl, by rw [HA.out]; exact O2.out, X2.out, L2.out⟩
          case measure => simp [intOf]; omega
        · have HA := Lib.hid (HB.out.trans (add_out hin))
          have HC := Lib.hid (isin_false hin)
          clear hin
          have gge : w.heap.size + 1 ≤ g := by obtain ⟨r', _, _, h⟩ := bk_of_owns O2.out; exact h
          rw [HC.out]
          go_wp2_with (at_builtin; refine append_one (w := w2) rfl (.tmp 43) (.tmp 46) 62 rfl (w.heap.size + 1) 9 i0 _ Try.underlying62 hi hz0 hz1 hz2 rfl g m cap (uq (cn s (l.take k))) rfl O2.out r.name rfl (by omega) (by have h1 := O2.out.lt g rfl; omega) ?_)
          intro g' cap' w3 hown hgrow
          have O3 := Lib.hid hown
          have X3 := Lib.hid ((X2.out.alloc (.cells #[.string r.name] 9)).grown hgrow (fun e => by have := Option.some.inj e; omega))
          have L3 := Lib.hid ((L2.out.alloc L2.out.size (.cells #[.string r.name] 9)).grown hgrow (Nat.le_trans L2.out.size (by simp)) (fun j hj => by cases hj; omega))
          clear hown hgrow
          go_wp2
          go_roundw
          case rel => exact ⟨k + 1, g', m + 1, cap', by omega, by omega, by go_num, rfl, by rw [HA.out, List.map_append]; exact O3.out, X3.out, L3.out⟩
          case measure => simp [intOf]; omega
    · obtain rfl : n = k := by omega
      have HN := Lib.hid (take_all HS.out.1)
      go_wp2
      go_ret
      have ho := HO.out
      rw [HN.out] at ho
      obtain ⟨r', hb, hc, hg⟩ := bk_of_owns ho
      exact ⟨g, m, cap, r', rfl, by have := ho.1; simpa using this, by rw [← hc, List.length_append]; have := ho.1; omega, by omega, hb, HL.out⟩
end Go.Proofs.Ytjgmocmaeadjdaa.CutsS
