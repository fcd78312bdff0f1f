/- Plain facts on memory: zones, and what a zone in a box of its own reads as. -/
import Derived.Test.YtmkcjjgicinggaaGreatDoorBoxR
namespace Go.Proofs.YtmkcjjgicinggaaGreatDoor.MemZ
open Go.RowKit Go.Proofs.YtmkcjjgicinggaaGreatDoor.Mem Go.Proofs.YtmkcjjgicinggaaGreatDoor.MemR Go.Proofs.YtmkcjjgicinggaaGreatDoor.BoxR

/-- The cells that hold a zone. -/
def zc (s : ByteArray) (x : Value) : List Value := [.string s, x]
/-- The zone in a box of its own: its cells. -/
def Zx (w : World) (g : Nat) (s : ByteArray) (x : Value) : Prop := w.cell? ⟨g, 0, none⟩ = some (.string s) ∧ w.cell? ⟨g, 1, none⟩ = some x
section
variable {w w' : World} {g B : Nat} {t : TypeId} {s : ByteArray} {x : Value}
theorem zx_of (k : Bk w g t (zc s x)) : Zx w g s x := ⟨k.cell 0, k.cell 1⟩
theorem Zx.lt (k : Zx w g s x) : g < w.heap.size := World.block_lt_of_cell? _ _ k.1
theorem Zx.move (k : Zx w g s x) (e : ∀ j, w'.cell? ⟨g, j, none⟩ = w.cell? ⟨g, j, none⟩) : Zx w' g s x := ⟨(e 0).trans k.1, (e 1).trans k.2⟩
theorem Zx.below (k : Zx w g s x) (hb : Below w.heap.size w w') : Zx w' g s x := k.move fun j => hb.cell (p := ⟨g, j, none⟩) k.lt
theorem zx_new (w : World) (t : TypeId) (s : ByteArray) (x : Value) : Zx (w.alloc (.cells #[.string s, x] t)) w.heap.size s x :=
  zx_of (t := t) (heap_alloc_new w _)
theorem Zx.alloc (k : Zx w g s x) (o : Obj) : Zx (w.alloc o) g s x := k.below ((Below.refl _ _).alloc (Nat.le_refl _) _)
theorem Zx.grown {row : Option Nat} (k : Zx w g s x) (hb : w.grownBy w' row) (hg : some g ≠ row) : Zx w' g s x :=
  k.move fun _ => World.cell?_of_block (hb.block g k.lt hg)
theorem Zx.set1 (k : Zx w g s x) {p : Addr} (hp : g ≠ p.block) (u : Value) : Zx (w.setCell p u) g s x := k.move fun _ => World.cell?_of_block (Below.heap_setCell w p u g hp)
theorem Zx.drawn (k : Zx w g s x) (d : Nat) (os : Array Obj) : Zx (Sort.grow (redrawn w d) os) g s x := k.below (below_regrown w d os)
end
/-- The box g filled with a zone. -/
def filZ (w : World) (g : Nat) (s : ByteArray) (x : Value) : World := (w.setCell ⟨g, 0, none⟩ (.string s)).setCell ⟨g, 1, none⟩ x
section
variable {w w1 : World} {g B : Nat} {t : TypeId} {s s0 : ByteArray} {x x0 : Value}
theorem filZ_bk (k : Bk w g t (zc s0 x0)) (s : ByteArray) (x : Value) : Bk (filZ w g s x) g t (zc s x) := (k.set 0 (.string s)).set 1 x
theorem filZ_below (k : Below B w w1) (hg : B ≤ g) (s : ByteArray) (x : Value) : Below B w (filZ w1 g s x) := (k.setCell (p := ⟨g, 0, none⟩) hg (.string s)).setCell (p := ⟨g, 1, none⟩) hg x
theorem filZ_other {j : Nat} {u : TypeId} {cs : List Value} (k : Bk w j u cs) (hk : j ≠ g) (s : ByteArray) (x : Value) : Bk (filZ w g s x) j u cs := (k.other (p := ⟨g, 0, none⟩) hk (.string s)).other (p := ⟨g, 1, none⟩) hk x
end
/-- The call returned a zone with this apex and a new slice that reads as these records, and turned nothing that was there. -/
def GivesZ (w : World) (s : ByteArray) (n : Nat) (l : List Rec) (e : Ending) (w' : World) : Prop :=
  ∃ g, e = .returned (.agg #[.string s, .slice (some ⟨g, 0, none⟩) n n]) ∧ Bk w' g 93 (fl l) ∧ w.heap.size ≤ g ∧ Below w.heap.size w w'
/-- Nothing of w has been turned. A def, so that no step of a walk opens it. -/
def Svz (w w' : World) : Prop := Below w.heap.size w w'
section
variable {w0 w w' : World} {g k : Nat} {s t : ByteArray} {x y : Value}
/-- Two boxes with zones, kept through a call that turns nothing. -/
theorem kept2z (m : (Zx w g s x ∧ Zx w k t y) ∧ Svz w0 w) (hl : Below w.heap.size w w') : (Zx w' g s x ∧ Zx w' k t y) ∧ Svz w0 w' := ⟨⟨m.1.1.below hl, m.1.2.below hl⟩, m.2.trans (hl.mono m.2.size)⟩
theorem kept2z_draw (m : (Zx w g s x ∧ Zx w k t y) ∧ Svz w0 w) : (Zx w.drew g s x ∧ Zx w.drew k t y) ∧ Svz w0 w.drew := kept2z m ((Below.refl _ _).drew)
end
end Go.Proofs.YtmkcjjgicinggaaGreatDoor.MemZ
