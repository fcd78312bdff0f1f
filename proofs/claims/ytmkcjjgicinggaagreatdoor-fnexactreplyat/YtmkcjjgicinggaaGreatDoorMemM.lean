/- Plain facts on memory: messages, and what a message in a box of its own reads as. -/
import Derived.Test.YtmkcjjgicinggaaGreatDoorBoxR
namespace Go.Proofs.YtmkcjjgicinggaaGreatDoor.MemM
open Go.RowKit Go.Proofs.YtmkcjjgicinggaaGreatDoor.Mem Go.Proofs.YtmkcjjgicinggaaGreatDoor.MemR Go.Proofs.YtmkcjjgicinggaaGreatDoor.BoxR

/-- A message without its sections. -/
structure Hd where
  id : Int
  rp : Bool
  au : Bool
  ct : Bool
  wa : Bool
  ca : Bool
  code : Int
  qn : ByteArray
  qt : Int
/-- The cells that hold a message. -/
def mc (h : Hd) (x y z : Value) : List Value := [.int .i64 h.id, .bool h.rp, .bool h.au, .bool h.ct, .bool h.wa, .bool h.ca, .int .i64 h.code, .string h.qn, .int .i64 h.qt, x, y, z]
/-- The head with nothing in it. -/
def zh : Hd := ⟨0, false, false, false, false, false, 0, ⟨#[]⟩, 0⟩
/-- The message in a box of its own: its cells. -/
def Mx (w : World) (g : Nat) (h : Hd) (x y z : Value) : Prop :=
  w.cell? ⟨g, 0, none⟩ = some (.int .i64 h.id) ∧ w.cell? ⟨g, 1, none⟩ = some (.bool h.rp) ∧ w.cell? ⟨g, 2, none⟩ = some (.bool h.au) ∧ w.cell? ⟨g, 3, none⟩ = some (.bool h.ct) ∧ w.cell? ⟨g, 4, none⟩ = some (.bool h.wa) ∧ w.cell? ⟨g, 5, none⟩ = some (.bool h.ca) ∧ w.cell? ⟨g, 6, none⟩ = some (.int .i64 h.code) ∧ w.cell? ⟨g, 7, none⟩ = some (.string h.qn) ∧ w.cell? ⟨g, 8, none⟩ = some (.int .i64 h.qt) ∧ w.cell? ⟨g, 9, none⟩ = some (x) ∧ w.cell? ⟨g, 10, none⟩ = some (y) ∧ w.cell? ⟨g, 11, none⟩ = some (z)
section
variable {w w' : World} {g B : Nat} {t : TypeId} {h : Hd} {x y z : Value}
theorem mx_of (k : Bk w g t (mc h x y z)) : Mx w g h x y z := ⟨k.cell 0, k.cell 1, k.cell 2, k.cell 3, k.cell 4, k.cell 5, k.cell 6, k.cell 7, k.cell 8, k.cell 9, k.cell 10, k.cell 11⟩
theorem Mx.lt (k : Mx w g h x y z) : g < w.heap.size := World.block_lt_of_cell? _ _ k.1
theorem Mx.move (k : Mx w g h x y z) (e : ∀ j, w'.cell? ⟨g, j, none⟩ = w.cell? ⟨g, j, none⟩) : Mx w' g h x y z :=
  ⟨(e 0).trans k.1, (e 1).trans k.2.1, (e 2).trans k.2.2.1, (e 3).trans k.2.2.2.1, (e 4).trans k.2.2.2.2.1, (e 5).trans k.2.2.2.2.2.1, (e 6).trans k.2.2.2.2.2.2.1, (e 7).trans k.2.2.2.2.2.2.2.1, (e 8).trans k.2.2.2.2.2.2.2.2.1, (e 9).trans k.2.2.2.2.2.2.2.2.2.1, (e 10).trans k.2.2.2.2.2.2.2.2.2.2.1, (e 11).trans k.2.2.2.2.2.2.2.2.2.2.2⟩
theorem Mx.below (k : Mx w g h x y z) (hb : Below w.heap.size w w') : Mx w' g h x y z := k.move fun j => hb.cell (p := ⟨g, j, none⟩) k.lt
theorem mx_new (w : World) (t : TypeId) (h : Hd) (x y z : Value) : Mx (w.alloc (.cells #[.int .i64 h.id, .bool h.rp, .bool h.au, .bool h.ct, .bool h.wa, .bool h.ca, .int .i64 h.code, .string h.qn, .int .i64 h.qt, x, y, z] t)) w.heap.size h x y z :=
  mx_of (t := t) (heap_alloc_new w _)
theorem Mx.alloc (k : Mx w g h x y z) (o : Obj) : Mx (w.alloc o) g h x y z := k.below ((Below.refl _ _).alloc (Nat.le_refl _) _)
theorem Mx.grown {row : Option Nat} (k : Mx w g h x y z) (hb : w.grownBy w' row) (hg : some g ≠ row) : Mx w' g h x y z :=
  k.move fun _ => World.cell?_of_block (hb.block g k.lt hg)
theorem Mx.set1 (k : Mx w g h x y z) {p : Addr} (hp : g ≠ p.block) (u : Value) : Mx (w.setCell p u) g h x y z := k.move fun _ => World.cell?_of_block (Below.heap_setCell w p u g hp)
theorem Mx.set2 (k : Mx w g h x y z) {p q : Addr} (hp : g ≠ p.block) (hq : g ≠ q.block) (u v : Value) : Mx ((w.setCell p u).setCell q v) g h x y z := (k.set1 hp u).set1 hq v
theorem Mx.drawn (k : Mx w g h x y z) (d : Nat) (os : Array Obj) : Mx (Sort.grow (redrawn w d) os) g h x y z := k.below (below_regrown w d os)
end
/-- A question in a box of its own: its cells. -/
def Qx (w : World) (g : Nat) (s : ByteArray) (n : Int) : Prop := w.cell? ⟨g, 0, none⟩ = some (.string s) ∧ w.cell? ⟨g, 1, none⟩ = some (.int .i64 n)
section
variable {w w' : World} {g : Nat} {s : ByteArray} {n : Int}
theorem Qx.lt (k : Qx w g s n) : g < w.heap.size := World.block_lt_of_cell? _ _ k.1
theorem Qx.below (k : Qx w g s n) (hb : Below w.heap.size w w') : Qx w' g s n := ⟨(hb.cell (p := ⟨g, 0, none⟩) k.lt).trans k.1, (hb.cell (p := ⟨g, 1, none⟩) k.lt).trans k.2⟩
theorem qx_new (w : World) (t : TypeId) (s : ByteArray) (n : Int) : Qx (w.alloc (.cells #[.string s, .int .i64 n] t)) w.heap.size s n := by
  have b : Bk (w.alloc (.cells #[.string s, .int .i64 n] t)) w.heap.size t [.string s, .int .i64 n] := heap_alloc_new w _
  exact ⟨b.cell 0, b.cell 1⟩
end
/-- The call returned a message with the head h and three new slices that read as these records, and turned nothing that was there. -/
def GivesM (w : World) (h : Hd) (n1 n2 n3 : Nat) (l1 l2 l3 : List Rec) (e : Ending) (w' : World) : Prop :=
  ∃ g1 c1 r1 g2 c2 r2 g3 c3 r3, e = .returned (.agg #[.int .i64 h.id, .bool h.rp, .bool h.au, .bool h.ct, .bool h.wa, .bool h.ca, .int .i64 h.code, .string h.qn, .int .i64 h.qt, .slice (some ⟨g1, 0, none⟩) n1 c1, .slice (some ⟨g2, 0, none⟩) n2 c2, .slice (some ⟨g3, 0, none⟩) n3 c3]) ∧
    Bk w' g1 93 (fl l1 ++ r1) ∧ Bk w' g2 93 (fl l2 ++ r2) ∧ Bk w' g3 93 (fl l3 ++ r3) ∧ w.heap.size ≤ g1 ∧ g1 < g2 ∧ g2 < g3 ∧ Below w.heap.size w w'
/-- Nothing of w has been turned. A def, so that no step of a walk opens it. -/
def Sv (w w' : World) : Prop := Below w.heap.size w w'
section
variable {w0 w w' : World} {g k : Nat} {h j : Hd} {x y z a b c : Value}
/-- Two boxes with messages, kept through a call that turns nothing. -/
theorem kept2 (m : (Mx w g h x y z ∧ Mx w k j a b c) ∧ Sv w0 w) (hl : Below w.heap.size w w') : (Mx w' g h x y z ∧ Mx w' k j a b c) ∧ Sv w0 w' := ⟨⟨m.1.1.below hl, m.1.2.below hl⟩, m.2.trans (hl.mono m.2.size)⟩
theorem kept2_draw (m : (Mx w g h x y z ∧ Mx w k j a b c) ∧ Sv w0 w) : (Mx w.drew g h x y z ∧ Mx w.drew k j a b c) ∧ Sv w0 w.drew := kept2 m ((Below.refl _ _).drew)
end
end Go.Proofs.YtmkcjjgicinggaaGreatDoor.MemM
