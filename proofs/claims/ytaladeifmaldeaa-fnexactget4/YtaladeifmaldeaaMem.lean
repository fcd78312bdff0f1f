/- Plain facts on memory that the walks of this seat share: what a byte slice reads as, a block that is known whole. Nothing of the program is named here but the seat itself. -/
import Derived.Test.YtaladeifmaldeaaRows
import Derived.WalkKit
import Derived.WalkSpells
import Derived.WalkLawsBesides
import Derived.Lib.Hide
import Derived.Deep.Draws
namespace Go.Proofs.Ytaladeifmaldeaa.Mem
open Go.RowKit

/-- A byte as the cell that holds it. -/
def bv (x : UInt8) : Value := .int .u8 (x.toNat : Int)

/-- The slice with address A and n elements reads, in w, as the bytes l, all of them in a block below B. -/
def Sl (w : World) (B : Nat) (A : Option Addr) (n : Nat) (l : List UInt8) : Prop :=
  l.length = n ∧ (0 < n → ∃ b off, A = some ⟨b, off, none⟩ ∧ b < B ∧ ∀ j (h : j < l.length), w.cell? ⟨b, off + j, none⟩ = some (.int .u8 (l[j].toNat : Int)))

/-- Block g of w is just these cells, of element type t, none of them frozen. -/
def Bk (w : World) (g : Nat) (t : TypeId) (cs : List Value) : Prop := w.heap[g]? = some (.cells cs.toArray t (0, 0))

section
variable {w w' : World} {B B' n g : Nat} {A : Option Addr} {l : List UInt8} {t : TypeId} {cs : List Value}

theorem Sl.len (h : Sl w B A n l) : l.length = n := h.1
theorem Sl.nil : Sl w B A 0 [] := ⟨rfl, fun h => absurd h (Nat.lt_irrefl _)⟩
theorem Sl.of (b off : Nat) (hA : A = some ⟨b, off, none⟩) (hn : l.length = n) (hb : b < B) (hc : ∀ j (h : j < l.length), w.cell? ⟨b, off + j, none⟩ = some (.int .u8 (l[j].toNat : Int))) : Sl w B A n l :=
  ⟨hn, fun _ => ⟨b, off, hA, hb, hc⟩⟩
theorem Sl.move (h : Sl w B A n l) (hk : ∀ p : Addr, p.block < B → w'.cell? p = w.cell? p) : Sl w' B A n l := by
  refine ⟨h.1, fun hn => ?_⟩
  obtain ⟨b, off, hA, hb, hc⟩ := h.2 hn
  exact ⟨b, off, hA, hb, fun j hj => (hk _ hb).trans (hc j hj)⟩
theorem Sl.below (h : Sl w B A n l) (hb : Below B w w') : Sl w' B A n l := h.move fun _ hp => hb.cell hp
theorem Sl.wider (h : Sl w B A n l) (hB : B ≤ B') : Sl w B' A n l := by
  refine ⟨h.1, fun hn => ?_⟩
  obtain ⟨b, off, hA, hb, hc⟩ := h.2 hn
  exact ⟨b, off, hA, Nat.lt_of_lt_of_le hb hB, hc⟩
theorem Sl.drewN (h : Sl w B A n l) (k : Nat) : Sl (w.drewN k) B A n l := h

theorem drewN_below (w : World) (k B : Nat) : Below B w (w.drewN k) := ⟨rfl, rfl, rfl, Nat.le_refl _, fun _ _ => rfl⟩

theorem Bk.lt (h : Bk w g t cs) : g < w.heap.size := by
  unfold Bk at h
  rcases Nat.lt_or_ge g w.heap.size with hl | hl
  · exact hl
  · rw [Array.getElem?_eq_none hl] at h; cases h
theorem Bk.cell (h : Bk w g t cs) (j : Nat) : w.cell? ⟨g, j, none⟩ = cs[j]? := by
  rw [cell_of_row w g j cs.toArray t (0, 0) h]; simp
theorem Bk.free (h : Bk w g t cs) (j : Nat) : w.frozen? ⟨g, j, none⟩ = false := by
  unfold Bk at h
  simp [World.frozen?, h]
theorem Bk.below (h : Bk w g t cs) (hb : Below B w w') (hg : g < B) : Bk w' g t cs := (hb.block g hg).trans h
theorem Bk.drewN (h : Bk w g t cs) (k : Nat) : Bk (w.drewN k) g t cs := h
theorem Bk.set (h : Bk w g t cs) (j : Nat) (u : Value) : Bk (w.setCell ⟨g, j, none⟩ u) g t (cs.set j u) := by
  unfold Bk at h ⊢
  simp [World.setCell, Array.getElem?_modify, h]
theorem Bk.other (h : Bk w g t cs) {p : Addr} (hp : g ≠ p.block) (u : Value) : Bk (w.setCell p u) g t cs := (Below.heap_setCell w p u g hp).trans h
theorem Bk.alloc (h : Bk w g t cs) (o : Obj) : Bk (w.alloc o) g t cs := (Below.heap_alloc w o g h.lt).trans h
theorem Bk.grown {row : Option Nat} (h : Bk w g t cs) (hb : w.grownBy w' row) (hg : some g ≠ row) : Bk w' g t cs := (hb.block g h.lt hg).trans h
/-- A block of bytes, read as a slice over its head. -/
theorem Bk.sl (h : Bk w g t (l.map bv)) : Sl w (g + 1) (some ⟨g, 0, none⟩) l.length l := by
  refine Sl.of g 0 rfl rfl (Nat.lt_succ_self _) fun j hj => ?_
  rw [Nat.zero_add, h.cell j]
  simp [bv, hj]
/-- The head of a block of bytes with room behind. -/
theorem Bk.sl' {r : List Value} (h : Bk w g t (l.map bv ++ r)) : Sl w (g + 1) (some ⟨g, 0, none⟩) l.length l := by
  refine Sl.of g 0 rfl rfl (Nat.lt_succ_self _) fun j hj => ?_
  rw [Nat.zero_add, h.cell j]
  rw [List.getElem?_append_left (by simpa using hj)]
  simp [bv, hj]
/-- What the call owns as a row is such a block. -/
theorem bk_of_owns {base : Nat} {cap : Nat} {xs : List Value} (h : w.ownsRow base t 1 (.slice (some ⟨g, 0, none⟩) n cap) n xs) : ∃ r, Bk w g t (xs ++ r) ∧ (xs ++ r).length = cap ∧ base ≤ g := by
  rcases h.2 with ⟨h1, _⟩ | ⟨g', cap', cur, hv, hb, hh, _, _, hs, ht⟩
  · cases h1
  · simp only [Value.slice.injEq, Option.some.injEq, Addr.mk.injEq, true_and, and_true] at hv
    obtain ⟨rfl, rfl⟩ := hv
    refine ⟨cur.toList.drop n, ?_, ?_, hb⟩
    · unfold Bk; rw [hh, ← ht]; simp
    · rw [← ht]; simp; omega
/-- A slice of bytes that came in, as the row's reading gives it, reads as bytes. -/
theorem sl_of_row {len cap : Nat} {zs : List Int} {a : Option Addr} (h : (a = none ∧ len = 0 ∧ cap = 0 ∧ zs = []) ∨
    ∃ x, a = some x ∧ len ≤ cap ∧ cap ≤ maxLen ∧ zs.length = cap ∧ (∀ i, i < zs.length → w.cell? (x.add i) = some (.int .u8 (zs.getD i 0))) ∧ ∀ n ∈ zs, (Lit.int .u8 n).wf = true) :
    ∃ l : List UInt8, Sl w w.heap.size a len l ∧ len ≤ cap := by
  rcases h with ⟨rfl, rfl, rfl, rfl⟩ | ⟨x, rfl, hl, hm, hz, hcell, hwz⟩
  · exact ⟨[], Sl.nil, Nat.le_refl _⟩
  · refine ⟨(zs.take len).map (fun z => UInt8.ofNat z.toNat), ⟨by simp; omega, fun hn => ?_⟩, hl⟩
    obtain ⟨b, off, spot⟩ := x
    have h0 := hcell 0 (by omega)
    have hspot : spot = none := by simpa [Addr.add] using World.cell?_spot h0
    subst hspot
    have hlt := World.block_lt_of_cell? _ _ h0
    refine ⟨b, off, rfl, by simpa [Addr.add] using hlt, fun j hj => ?_⟩
    have hj' : j < zs.length := by simp at hj; omega
    have hc := hcell j hj'
    rw [Addr.add_lit] at hc
    rw [hc]
    have hw := hwz (zs[j]) (List.getElem_mem hj')
    simp [Lit.wf] at hw
    have hb : 0 ≤ zs[j] ∧ zs[j] < 256 := by
      have e1 : IntKind.u8.min = 0 := by decide
      have e2 : IntKind.u8.max = 255 := by decide
      omega
    simp only [List.getElem_map, List.getElem_take, List.getD_eq_getElem?_getD, List.getElem?_eq_getElem hj', Option.getD_some]
    rw [UInt8.toNat_ofNat_of_lt' (by have := hb.2; simp [UInt8.size]; omega)]
    rw [Int.toNat_of_nonneg hb.1]
end
end Go.Proofs.Ytaladeifmaldeaa.Mem
