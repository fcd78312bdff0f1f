/- Records in boxes of their own: what they read as, also in every world that came of this one by draws and new blocks. -/
import Derived.Test.YtmkcjjgicinggaaGreatDoorMemR
import Derived.Lib.QuietBelow
namespace Go.Proofs.YtmkcjjgicinggaaGreatDoor.BoxR
open Go.RowKit Go.Proofs.YtmkcjjgicinggaaGreatDoor.Mem Go.Proofs.YtmkcjjgicinggaaGreatDoor.MemR

/-- The cells of a record in a box of its own. -/
def Bx (w : World) (g : Nat) (r : Rec) : Prop :=
  w.cell? ⟨g, 0, none⟩ = some (.string r.name) ∧ w.cell? ⟨g, 1, none⟩ = some (.int .i64 r.ty) ∧ w.cell? ⟨g, 2, none⟩ = some (.int .i64 r.ttl) ∧
  w.cell? ⟨g, 3, none⟩ = some (.int .i64 r.n) ∧ w.cell? ⟨g, 4, none⟩ = some (.string r.host) ∧ w.cell? ⟨g, 5, none⟩ = some (.string r.text)
section
variable {w w' : World} {g B : Nat} {t : TypeId} {r : Rec}
theorem bx_of (h : Bk w g t (rc r)) : Bx w g r := ⟨h.cell 0, h.cell 1, h.cell 2, h.cell 3, h.cell 4, h.cell 5⟩
theorem Bx.lt (h : Bx w g r) : g < w.heap.size := World.block_lt_of_cell? _ _ h.1
theorem Bx.below (h : Bx w g r) (hb : Below w.heap.size w w') : Bx w' g r :=
  ⟨(hb.cell (p := ⟨g, 0, none⟩) h.lt).trans h.1, (hb.cell (p := ⟨g, 1, none⟩) h.lt).trans h.2.1, (hb.cell (p := ⟨g, 2, none⟩) h.lt).trans h.2.2.1, (hb.cell (p := ⟨g, 3, none⟩) h.lt).trans h.2.2.2.1, (hb.cell (p := ⟨g, 4, none⟩) h.lt).trans h.2.2.2.2.1, (hb.cell (p := ⟨g, 5, none⟩) h.lt).trans h.2.2.2.2.2⟩
theorem bx_new (w : World) (t : TypeId) (r : Rec) : Bx (w.alloc (.cells #[.string r.name, .int .i64 r.ty, .int .i64 r.ttl, .int .i64 r.n, .string r.host, .string r.text] t)) w.heap.size r :=
  bx_of (t := t) (heap_alloc_new w _)
theorem Bx.alloc (h : Bx w g r) (o : Obj) : Bx (w.alloc o) g r := h.below ((Below.refl _ _).alloc (Nat.le_refl _) _)
theorem Bx.grown {row : Option Nat} (h : Bx w g r) (hb : w.grownBy w' row) (hg : some g ≠ row) : Bx w' g r := by
  have e : ∀ j, w'.cell? ⟨g, j, none⟩ = w.cell? ⟨g, j, none⟩ := fun j => World.cell?_of_block (hb.block g h.lt hg)
  exact ⟨(e 0).trans h.1, (e 1).trans h.2.1, (e 2).trans h.2.2.1, (e 3).trans h.2.2.2.1, (e 4).trans h.2.2.2.2.1, (e 5).trans h.2.2.2.2.2⟩
theorem Bx.drawn (h : Bx w g r) (d : Nat) (os : Array Obj) : Bx (Sort.grow (redrawn w d) os) g r := h.below (below_regrown w d os)
end
/-- A callee's contract that ends in Below, met in a world that came of w by draws and new blocks. -/
theorem in_class {P : Program} {f : FuncId} {args : Array Value} {w : World} {d : Nat} {os : Array Obj} {v : Value} (h : ∀ W, Below w.heap.size w W → Calls P f args W fun e w' => e = .returned v ∧ Below W.heap.size W w') :
    Calls P f args (Sort.grow (redrawn w d) os) fun e w'' => e = .returned v ∧ ∃ p : Regrown, w'' = Sort.grow (redrawn w p.d) p.os :=
  Calls.regrown_of (h _ (below_regrown w d os))
theorem of_class {w w' : World} (h : ∃ p : Regrown, w' = Sort.grow (redrawn w p.d) p.os) : Below w.heap.size w w' := by
  obtain ⟨p, rfl⟩ := h
  exact below_regrown _ _ _
end Go.Proofs.YtmkcjjgicinggaaGreatDoor.BoxR
