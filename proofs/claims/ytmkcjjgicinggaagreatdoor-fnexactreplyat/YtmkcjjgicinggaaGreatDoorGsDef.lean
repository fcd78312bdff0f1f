/- Sorting through a comparison and an exchange that are function values: what the row holds, what the two are asked; the comparison may make memory. -/
import Derived.Test.YtmkcjjgicinggaaGreatDoorMem
import Derived.Shelf.GgSortFunc.SW
namespace Go.Proofs.YtmkcjjgicinggaaGreatDoor.GsDef
open Go.RowKit Go.Sort Go.Lib Go.Proofs.YtmkcjjgicinggaaGreatDoor.Mem

section
variable {α : Type} [Inhabited α]

/-- In W the row holds dk; but for the row, for new blocks and for draws, W is w0. -/
def St (enc : α → Value) (w0 : World) (blk off : Nat) (dk : Array α) (W : World) : Prop := (w0.grownBy W (some blk) ∧ Holds enc W blk off dk) ∧ blk < w0.heap.size

/-- Two cells in a box of their own. -/
def Tw (w : World) (g : Nat) (x y : Value) : Prop := w.cell? ⟨g, 0, none⟩ = some x ∧ w.cell? ⟨g, 1, none⟩ = some y

theorem gr_trans {a b d : World} {r : Option Nat} (h : a.grownBy b r) (k : b.grownBy d r) : a.grownBy d r :=
  ⟨k.os.trans h.os, k.tape.trans h.tape, k.output.trans h.output, Nat.le_trans h.size k.size, fun i hi hn => (k.block i (Nat.lt_of_lt_of_le hi h.size) hn).trans (h.block i hi hn)⟩

theorem gr_refl (w : World) (r : Option Nat) : w.grownBy w r := ⟨rfl, rfl, rfl, Nat.le_refl _, fun _ _ _ => rfl⟩

theorem gr_below {w w' : World} (h : Below w.heap.size w w') (r : Option Nat) : w.grownBy w' r := ⟨h.os, h.tape, h.output, h.size, fun k hk _ => h.block k hk⟩

theorem gr_set (w : World) (g j : Nat) (u : Value) : w.grownBy (w.setCell ⟨g, j, none⟩ u) (some g) :=
  ⟨rfl, rfl, rfl, by simp [World.setCell], fun k _ hn => Below.heap_setCell w ⟨g, j, none⟩ u k (fun e => hn (by rw [e]))⟩

section
variable {w w' : World} {g : Nat} {x y : Value} {r : Option Nat}
theorem Tw.lt (k : Tw w g x y) : g < w.heap.size := World.block_lt_of_cell? _ _ k.1
theorem Tw.grown (k : Tw w g x y) (h : w.grownBy w' r) (hn : some g ≠ r) : Tw w' g x y := ⟨h.cell k.1 hn, h.cell k.2 hn⟩
theorem Tw.below (k : Tw w g x y) (h : Below w.heap.size w w') : Tw w' g x y := k.grown (gr_below h none) (fun e => by cases e)
theorem tw_new (w : World) (t : TypeId) (x y : Value) : Tw (w.alloc (.cells #[x, y] t)) w.heap.size x y := ⟨by simp, by simp⟩
end

section
variable {enc : α → Value} {w0 W W' : World} {blk off size i j : Nat} {dk : Array α}

theorem St.lt (h : St enc w0 blk off dk W) : blk < W.heap.size := Nat.lt_of_lt_of_le h.2 h.1.1.size

theorem St.start (h : Holds enc W blk off dk) (hb : blk < W.heap.size) : St enc W blk off dk W := ⟨⟨gr_refl _ _, h⟩, hb⟩

theorem St.below (h : St enc w0 blk off dk W) (hb : Below W.heap.size W W') : St enc w0 blk off dk W' := by
  refine ⟨⟨gr_trans h.1.1 (gr_below hb _), fun t ht => ?_⟩, h.2⟩
  have hl := h.lt
  exact ⟨(hb.cell (p := ⟨blk, off + t, none⟩) hl).trans (h.1.2 t ht).1, (World.frozen?_of_block (hb.block blk hl)).trans (h.1.2 t ht).2⟩

theorem St.alloc (h : St enc w0 blk off dk W) (o : Obj) : St enc w0 blk off dk (W.alloc o) := h.below ((Below.refl _ _).alloc (Nat.le_refl _) _)

/-- The world behind an exchange. -/
def xch (enc : α → Value) (W : World) (blk off : Nat) (dk : Array α) (i j : Nat) : World := (W.setCell ⟨blk, off + i, none⟩ (enc dk[j]!)).setCell ⟨blk, off + j, none⟩ (enc dk[i]!)

theorem xch_grown (enc : α → Value) (W : World) (blk off : Nat) (dk : Array α) (i j : Nat) : W.grownBy (xch enc W blk off dk i j) (some blk) := gr_trans (gr_set W blk (off + i) _) (gr_set _ blk (off + j) _)

theorem St.swap (h : St enc w0 blk off dk W) (hi : i < dk.size) (hj : j < dk.size) : St enc w0 blk off (swp dk i j) (xch enc W blk off dk i j) := by
  have hS := (SW.start h.1.2).swap h.lt i j hi hj
  exact ⟨⟨gr_trans h.1.1 (xch_grown _ _ _ _ _ _ _), hS.holds h.lt h.1.2 (size_swp _ _ _)⟩, h.2⟩

/-- What is given by the library's own contracts. -/
theorem St.sorted (h : St enc w0 blk off dk W) {d' : Array α} (hs : d'.size = dk.size) (n : Nat) (os : Array Obj) : St enc w0 blk off d' (sortWorld enc W blk off n d' os) := by
  have hg : W.grownBy (sortWorld enc W blk off n d' os) (some blk) := by
    unfold sortWorld
    refine ⟨rfl, rfl, rfl, ?_, fun k hk hn => ?_⟩
    · rw [size_grow, size_putRow]; exact Nat.le_add_right _ _
    · rw [heap_grow_old _ _ (by rw [size_putRow]; exact hk)]
      have hne : blk ≠ k := fun e => hn (by rw [e])
      simp [putRow, mapBlock, Sort.ahead, Array.getElem?_modify, hne]
  exact ⟨⟨gr_trans h.1.1 hg, holds_sortWorld enc W blk off n dk d' os h.lt h.1.2 hs⟩, h.2⟩

theorem sort_grown (enc : α → Value) (W : World) (blk off n : Nat) (d' : Array α) (os : Array Obj) : W.grownBy (sortWorld enc W blk off n d' os) (some blk) := by
  unfold sortWorld
  refine ⟨rfl, rfl, rfl, ?_, fun k hk hn => ?_⟩
  · rw [size_grow, size_putRow]; exact Nat.le_add_right _ _
  · rw [heap_grow_old _ _ (by rw [size_putRow]; exact hk)]
    have hne : blk ≠ k := fun e => hn (by rw [e])
    simp [putRow, mapBlock, Sort.ahead, Array.getElem?_modify, hne]
end

/-- The comparison, called in whatever world of the sort's, answers by lt; it may make memory, and turns nothing that was there. -/
def Lss (P : Program) (g : Nat) (lb : Array Value) (enc : α → Value) (lt : α → α → Bool) (blk off size : Nat) (w0 : World) : Prop :=
  ∀ (W : World) (dk : Array α), St enc w0 blk off dk W → dk.size = size → ∀ i j : Nat, i < size → j < size →
    Calls P g (#[.int .i64 i, .int .i64 j] ++ lb) W fun e w' => e = .returned (.bool (lt dk[i]! dk[j]!)) ∧ Below W.heap.size W w'

/-- What the sort asks. -/
structure En (P : Program) (g : Nat) (lb : Array Value) (sf : Nat) (sb : Array Value) (enc : α → Value) (lt : α → α → Bool) (blk off size : Nat) (w0 : World) : Prop where
  eg : ∀ args w, (callFunc g args).run P w = .ok (.enter g args) w
  less : Lss P g lb enc lt blk off size w0
  swap : SwapSwaps P sf sb enc blk off size
  small : size < 4611686018427387904

/-- The exchange, as the walk meets it. -/
theorem En.swp {P : Program} {g : Nat} {lb : Array Value} {sf : Nat} {sb : Array Value} {enc : α → Value} {lt : α → α → Bool} {blk off size : Nat} {w0 W : World} {dk : Array α} (E : En P g lb sf sb enc lt blk off size w0)
    (h : St enc w0 blk off dk W) (hs : dk.size = size) (i j : Nat) (hi : i < size) (hj : j < size) :
    (callFunc sf (#[.int .i64 i, .int .i64 j] ++ sb)).run P W = .ok (.value (.tuple #[])) (xch enc W blk off dk i j) := E.swap W dk h.1.2 hs i j hi hj

/-- The call returned nothing, the row holds d', and nothing else was turned. -/
def Did (enc : α → Value) (w0 : World) (blk off : Nat) (d' : Array α) (W : World) (e : Ending) (w' : World) : Prop := e = .returned (.tuple #[]) ∧ St enc w0 blk off d' w' ∧ W.grownBy w' (some blk)
end
end Go.Proofs.YtmkcjjgicinggaaGreatDoor.GsDef
