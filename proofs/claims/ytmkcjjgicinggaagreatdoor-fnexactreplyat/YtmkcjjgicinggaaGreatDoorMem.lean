/- Plain facts on memory that the walks of this seat share: what a byte slice reads as, a block that is known whole. Nothing of the program is named here but the seat itself. -/
import Derived.Test.YtmkcjjgicinggaaGreatDoorRows
import Derived.WalkKit
import Derived.WalkSpells
import Derived.WalkLawsBesides
import Derived.Lib.Hide
import Derived.Laws.AppendOwnNone
import Derived.Deep.Draws
namespace Go.Proofs.YtmkcjjgicinggaaGreatDoor.Mem
open Go.RowKit

/-- A byte as the cell that holds it. -/
def bv (x : UInt8) : Value := .int .u8 (x.toNat : Int)

/-- The slice with address A and n elements reads, in w, as the bytes l, all of them in a block below B. -/
def Sl (w : World) (B : Nat) (A : Option Addr) (n : Nat) (l : List UInt8) : Prop :=
  l.length = n ∧ (0 < n → ∃ b off, A = some ⟨b, off, none⟩ ∧ b < B ∧ ∀ j (h : j < l.length), w.cell? ⟨b, off + j, none⟩ = some (.int .u8 (l[j].toNat : Int)))

/-- Block g of w is just these cells, of element type t, none of them frozen. -/
def Bk (w : World) (g : Nat) (t : TypeId) (cs : List Value) : Prop := w.heap[g]? = some (.cells cs.toArray t (0, 0))

section
variable {w w' : World} {B B' n g : Nat} {A : Option Addr} {l : List UInt8} {t : TypeId} {cs : List Value}

theorem Sl.len (h : Sl w B A n l) : l.length = n := h.1
theorem Sl.nil : Sl w B A 0 [] := ⟨rfl, fun h => absurd h (Nat.lt_irrefl _)⟩
theorem Sl.of (b off : Nat) (hA : A = some ⟨b, off, none⟩) (hn : l.length = n) (hb : b < B) (hc : ∀ j (h : j < l.length), w.cell? ⟨b, off + j, none⟩ = some (.int .u8 (l[j].toNat : Int))) : Sl w B A n l :=
  ⟨hn, fun _ => ⟨b, off, hA, hb, hc⟩⟩
theorem Sl.move (h : Sl w B A n l) (hk : ∀ p : Addr, p.block < B → w'.cell? p = w.cell? p) : Sl w' B A n l := by
  refine ⟨h.1, fun hn => ?_⟩
  obtain ⟨b, off, hA, hb, hc⟩ := h.2 hn
  exact ⟨b, off, hA, hb, fun j hj => (hk _ hb).trans (hc j hj)⟩
theorem Sl.below (h : Sl w B A n l) (hb : Below B w w') : Sl w' B A n l := h.move fun _ hp => hb.cell hp
theorem Sl.wider (h : Sl w B A n l) (hB : B ≤ B') : Sl w B' A n l := by
  refine ⟨h.1, fun hn => ?_⟩
  obtain ⟨b, off, hA, hb, hc⟩ := h.2 hn
  exact ⟨b, off, hA, Nat.lt_of_lt_of_le hb hB, hc⟩
theorem Sl.drewN (h : Sl w B A n l) (k : Nat) : Sl (w.drewN k) B A n l := h

theorem drewN_below (w : World) (k B : Nat) : Below B w (w.drewN k) := ⟨rfl, rfl, rfl, Nat.le_refl _, fun _ _ => rfl⟩

theorem Bk.lt (h : Bk w g t cs) : g < w.heap.size := by
  unfold Bk at h
  rcases Nat.lt_or_ge g w.heap.size with hl | hl
  · exact hl
  · rw [Array.getElem?_eq_none hl] at h; cases h
theorem Bk.cell (h : Bk w g t cs) (j : Nat) : w.cell? ⟨g, j, none⟩ = cs[j]? := by
  rw [cell_of_row w g j cs.toArray t (0, 0) h]; simp
theorem Bk.free (h : Bk w g t cs) (j : Nat) : w.frozen? ⟨g, j, none⟩ = false := by
  unfold Bk at h
  simp [World.frozen?, h]
theorem Bk.below (h : Bk w g t cs) (hb : Below B w w') (hg : g < B) : Bk w' g t cs := (hb.block g hg).trans h
theorem Bk.drewN (h : Bk w g t cs) (k : Nat) : Bk (w.drewN k) g t cs := h
theorem Bk.set (h : Bk w g t cs) (j : Nat) (u : Value) : Bk (w.setCell ⟨g, j, none⟩ u) g t (cs.set j u) := by
  unfold Bk at h ⊢
  simp [World.setCell, Array.getElem?_modify, h]
theorem Bk.other (h : Bk w g t cs) {p : Addr} (hp : g ≠ p.block) (u : Value) : Bk (w.setCell p u) g t cs := (Below.heap_setCell w p u g hp).trans h
theorem Bk.alloc (h : Bk w g t cs) (o : Obj) : Bk (w.alloc o) g t cs := (Below.heap_alloc w o g h.lt).trans h
theorem Bk.grown {row : Option Nat} (h : Bk w g t cs) (hb : w.grownBy w' row) (hg : some g ≠ row) : Bk w' g t cs := (hb.block g h.lt hg).trans h
/-- A block of bytes, read as a slice over its head. -/
theorem Bk.sl (h : Bk w g t (l.map bv)) : Sl w (g + 1) (some ⟨g, 0, none⟩) l.length l := by
  refine Sl.of g 0 rfl rfl (Nat.lt_succ_self _) fun j hj => ?_
  rw [Nat.zero_add, h.cell j]
  simp [bv, hj]
/-- The head of a block of bytes with room behind. -/
theorem Bk.sl' {r : List Value} (h : Bk w g t (l.map bv ++ r)) : Sl w (g + 1) (some ⟨g, 0, none⟩) l.length l := by
  refine Sl.of g 0 rfl rfl (Nat.lt_succ_self _) fun j hj => ?_
  rw [Nat.zero_add, h.cell j]
  rw [List.getElem?_append_left (by simpa using hj)]
  simp [bv, hj]
/-- What the call owns as a row is such a block. -/
theorem bk_of_owns {base : Nat} {cap : Nat} {xs : List Value} (h : w.ownsRow base t 1 (.slice (some ⟨g, 0, none⟩) n cap) n xs) : ∃ r, Bk w g t (xs ++ r) ∧ (xs ++ r).length = cap ∧ base ≤ g := by
  rcases h.2 with ⟨h1, _⟩ | ⟨g', cap', cur, hv, hb, hh, _, _, hs, ht⟩
  · cases h1
  · simp only [Value.slice.injEq, Option.some.injEq, Addr.mk.injEq, true_and, and_true] at hv
    obtain ⟨rfl, rfl⟩ := hv
    refine ⟨cur.toList.drop n, ?_, ?_, hb⟩
    · unfold Bk; rw [hh, ← ht]; simp
    · rw [← ht]; simp; omega
/-- The call returned a new slice that reads as l (room behind it let in), and turned nothing that was there. -/
def Gives (w : World) (l : List UInt8) (e : Ending) (w' : World) : Prop :=
  ∃ g m c r, e = .returned (.slice (some ⟨g, 0, none⟩) m c) ∧ l.length = m ∧ m ≤ c ∧ w.heap.size ≤ g ∧ Bk w' g 5 (l.map bv ++ r) ∧ Below w.heap.size w w'

/-- What a callee gave in a later world, it gives in the earlier one. -/
theorem Gives.later {w0 : World} {e : Ending} (h : Gives w l e w') (hb : Below w0.heap.size w0 w) : Gives w0 l e w' := by
  obtain ⟨g, m, c, r, he, hm, hc, hg, hk, hl⟩ := h
  exact ⟨g, m, c, r, he, hm, hc, Nat.le_trans hb.size hg, hk, hb.trans (hl.mono hb.size)⟩

theorem oneCells (l : List UInt8) : ∀ u ∈ l.map bv, u.oneCell' = true := by
  intro u hu
  obtain ⟨x, _, rfl⟩ := List.mem_map.1 hu
  rfl

/-- The cells of a slice that reads as bytes, as the laws on append ask for them. -/
theorem cells_of (hs : Sl w B A n l) : ∀ ad, A = some ad → ∀ j u, (l.map bv)[j]? = some u → w.cell? (ad.add j) = some u := by
  intro ad hA j u hu
  have hj : j < l.length := by
    have := (List.getElem?_eq_some_iff.1 hu).1
    simpa using this
  obtain ⟨b, off, hA', _, hc⟩ := hs.2 (by have := hs.1; omega)
  rw [hA] at hA'
  obtain rfl := Option.some.inj hA'
  rw [Addr.add_lit, hc j hj]
  rw [List.getElem?_map, List.getElem?_eq_getElem hj] at hu
  exact hu

/-- append of a slice that reads as bytes, nil or not, onto a row of the call's own. -/
theorem append_src {P : Program} {w : World} {ops : Array Oper} {rest : List Oper} {o : Oper} {a : Act} {Q : Exit → Act → World → Prop} (hgd : o.guard = none) (s x : Operand) (t : TypeId)
    (ho : o.op = .call { callee := .builtin .append, args := #[s, x], argTypes := #[t, t] })
    (base : Nat) (e : TypeId) (i : TypeInfo) (z : Value) (ht : P.underlying t = some (.slice e)) (hi : P.info? e = some i) (hz : i.zero = some z)
    (hsize : i.size = 1) (hby : i.bytes = 1) (hzs : z.cells.size = 1)
    (g n cap : Nat) (xs : List Value) (hs : a.eval s = .slice (some ⟨g, 0, none⟩) n cap) (hown : w.ownsRow base e 1 (.slice (some ⟨g, 0, none⟩) n cap) n xs)
    (A : Option Addr) (m c B : Nat) (l : List UInt8) (hx : a.eval x = .slice A m c) (hl : Sl w B A m l) (hnil : A = none → m = 0 ∧ c = 0)
    (hn : n ≤ 800000000) (hm : m ≤ 800000000) (hbase : base ≤ w.heap.size)
    (h : ∀ g' cap' w', w'.ownsRow base e 1 (.slice (some ⟨g', 0, none⟩) (n + m) cap') (n + m) (xs ++ l.map bv) → w.grownBy w' (some g) → wpList P ops Q rest (a.put o.dst (.slice (some ⟨g', 0, none⟩) (n + m) cap')) w') : wpList P ops Q (o :: rest) a w := by
  cases A with
  | none =>
    obtain ⟨rfl, rfl⟩ := hnil rfl
    have hl0 : l = [] := List.eq_nil_of_length_eq_zero hl.1
    subst hl0
    exact wpList_append_own_none hgd s x t ho base e i 1 ht hi _ n xs hs hown hx (by simpa using h g cap w (by simpa using hown) ⟨rfl, rfl, rfl, Nat.le_refl _, fun _ _ _ => rfl⟩)
  | some ad =>
    exact wpList_append_own w hgd s x t ho base e i z 1 1 ht hi hz hsize hby hzs (by decide) _ n xs hs hown ad m c (l.map bv) hx (by simp [hl.1]) (cells_of hl ad rfl) (oneCells l) (by unfold maxLen; omega) (by omega) hbase
      (fun v' w' h1 h2 h3 => by
        rcases h1.2 with ⟨hv, _⟩ | ⟨g', cap', cur, hv, _⟩
        · have := (h3.1 hv).1
          cases this
        · subst hv
          exact h g' cap' w' h1 h2)

/-- What the call owns as a row of bytes, and has not given up to nil, is a slice that Gives speaks of. -/
theorem gives_of_owns {cap : Nat} (h : w'.ownsRow w.heap.size 5 1 (.slice (some ⟨g, 0, none⟩) n cap) n (l.map bv)) (hb : Below w.heap.size w w') : Gives w l (.returned (.slice (some ⟨g, 0, none⟩) n cap)) w' := by
  rcases h.2 with ⟨h1, _⟩ | ⟨g', cap', cur, hv, hg, hh, hle, _, _, ht⟩
  · cases h1
  · simp only [Value.slice.injEq, Option.some.injEq, Addr.mk.injEq, true_and, and_true] at hv
    obtain ⟨rfl, rfl⟩ := hv
    have hl : l.length = n := by have := h.1; simpa using this
    refine ⟨g, n, cap, cur.toList.drop n, rfl, hl, hle, hg, ?_, hb⟩
    unfold Bk
    rw [hh, ← ht]
    simp

/-- A slice of bytes that came in, as the row's reading gives it, reads as bytes. -/
theorem sl_of_row {len cap : Nat} {zs : List Int} {a : Option Addr} (h : (a = none ∧ len = 0 ∧ cap = 0 ∧ zs = []) ∨
    ∃ x, a = some x ∧ len ≤ cap ∧ cap ≤ maxLen ∧ zs.length = cap ∧ (∀ i, i < zs.length → w.cell? (x.add i) = some (.int .u8 (zs.getD i 0))) ∧ ∀ n ∈ zs, (Lit.int .u8 n).wf = true) :
    ∃ l : List UInt8, Sl w w.heap.size a len l ∧ len ≤ cap ∧ (a = none → len = 0 ∧ cap = 0) := by
  rcases h with ⟨rfl, rfl, rfl, rfl⟩ | ⟨x, rfl, hl, hm, hz, hcell, hwz⟩
  · exact ⟨[], Sl.nil, Nat.le_refl _, fun _ => ⟨rfl, rfl⟩⟩
  · refine ⟨(zs.take len).map (fun z => UInt8.ofNat z.toNat), ⟨by simp; omega, fun hn => ?_⟩, hl, fun h => by cases h⟩
    obtain ⟨b, off, spot⟩ := x
    have h0 := hcell 0 (by omega)
    have hspot : spot = none := by simpa [Addr.add] using World.cell?_spot h0
    subst hspot
    have hlt := World.block_lt_of_cell? _ _ h0
    refine ⟨b, off, rfl, by simpa [Addr.add] using hlt, fun j hj => ?_⟩
    have hj' : j < zs.length := by simp at hj; omega
    have hc := hcell j hj'
    rw [Addr.add_lit] at hc
    rw [hc]
    have hw := hwz (zs[j]) (List.getElem_mem hj')
    simp [Lit.wf] at hw
    have hb : 0 ≤ zs[j] ∧ zs[j] < 256 := by
      have e1 : IntKind.u8.min = 0 := by decide
      have e2 : IntKind.u8.max = 255 := by decide
      omega
    simp only [List.getElem_map, List.getElem_take, List.getD_eq_getElem?_getD, List.getElem?_eq_getElem hj', Option.getD_some]
    rw [UInt8.toNat_ofNat_of_lt' (by have := hb.2; simp [UInt8.size]; omega)]
    rw [Int.toNat_of_nonneg hb.1]
end
end Go.Proofs.YtmkcjjgicinggaaGreatDoor.Mem
