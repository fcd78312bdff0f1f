/- What the program's own helper appended does (a new slice with the bytes of both), and a law on append of a text's bytes. -/
import Derived.Test.YtlakegeabnjegaaGreatDoorCopy
import Derived.Lib.AppendStr
namespace Go.Proofs.YtlakegeabnjegaaGreatDoor.App
open Go.RowKit Go.Proofs.YtlakegeabnjegaaGreatDoor.Mem

/-- A new block of bytes reads as a slice. -/
theorem sl_new (w : World) (cs : Array Value) (m : List UInt8) (h : cs.toList = m.map bv) : Sl (w.alloc (.cells cs 5)) (w.alloc (.cells cs 5)).heap.size (some ⟨w.heap.size, 0, none⟩) m.length m := by
  have hb : Bk (w.alloc (.cells cs 5)) w.heap.size 5 (m.map bv) := by
    unfold Bk
    rw [heap_alloc_new, ← h]
  exact hb.sl.wider hb.lt
theorem sl_alloc {w : World} {A : Option Addr} {n : Nat} {l : List UInt8} (h : Sl w w.heap.size A n l) (o : Obj) : Sl (w.alloc o) (w.alloc o).heap.size A n l :=
  (h.below ((Below.refl _ _).alloc (Nat.le_refl _) o)).wider (by simp)

theorem owns_new (w : World) : (w.alloc (.cells #[] 5)).ownsRow w.heap.size 5 1 (.slice (some ⟨w.heap.size, 0, none⟩) 0 0) 0 [] :=
  World.ownsRow_made w #[] 0 (Nat.le_refl _) (Nat.zero_le _) (by simp)

/-- A block of bytes with its room is a row of the call's own. -/
theorem owns_of_bk {w : World} {base g n cap : Nat} {l : List UInt8} {r : List Value} (h : Bk w g 5 (l.map bv ++ r)) (hb : base ≤ g) (hl : l.length = n) (hc : (l.map bv ++ r).length = cap) (hm : cap ≤ maxLen) :
    w.ownsRow base 5 1 (.slice (some ⟨g, 0, none⟩) n cap) n (l.map bv) := by
  refine ⟨by simp [hl], .inr ⟨g, cap, _, rfl, hb, h, ?_, hm, by simpa using hc, ?_⟩⟩
  · rw [← hc, ← hl]; simp
  · rw [← hl]; simp

/-- append of a text's bytes onto a row of the call's own. -/
theorem append_str {P : Program} {w : World} {ops : Array Oper} {rest : List Oper} {o : Oper} {a : Act} {Q : Exit → Act → World → Prop} (hgd : o.guard = none) (sl x : Operand) (t u : TypeId)
    (ho : o.op = .call { callee := .builtin .append, args := #[sl, x], argTypes := #[t, u] })
    (base : Nat) (e : TypeId) (i : TypeInfo) (ht : P.underlying t = some (.slice e)) (hu : P.underlying u = some .string) (hi : P.info? e = some i) (hz : i.zero = some (.int .u8 0))
    (hsize : i.size = 1) (hby : i.bytes = 1)
    (g n cap : Nat) (xs : List Value) (hs : a.eval sl = .slice (some ⟨g, 0, none⟩) n cap) (hown : w.ownsRow base e 1 (.slice (some ⟨g, 0, none⟩) n cap) n xs) (s : ByteArray) (hx : a.eval x = .string s)
    (hn : n ≤ 800000000) (hm : s.size ≤ 800000000) (hbase : base ≤ w.heap.size)
    (h : ∀ g' cap' w', w'.ownsRow base e 1 (.slice (some ⟨g', 0, none⟩) (n + s.size) cap') (n + s.size) (xs ++ s.data.toList.map bv) → w.grownBy w' (some g) → wpList P ops Q rest (a.put o.dst (.slice (some ⟨g', 0, none⟩) (n + s.size) cap')) w') : wpList P ops Q (o :: rest) a w :=
  Lib.wpList_append_own_string w hgd sl x t u ho base e i ht hu hi hz hsize hby _ n xs hs hown s hx (by unfold maxLen; omega) (by omega) hbase
    (fun v' w' h1 h2 h3 => by
      rcases h1.2 with ⟨hv, _⟩ | ⟨g', cap', cur, hv, _⟩
      · have := (h3.1 hv).1
        cases this
      · subst hv
        exact h g' cap' w' h1 h2)

/-- The call returned a row of bytes of its own that reads as l, and turned nothing that was there. -/
def GivesO (w : World) (l : List UInt8) (e : Ending) (w' : World) : Prop :=
  ∃ g cap, e = .returned (.slice (some ⟨g, 0, none⟩) l.length cap) ∧ w'.ownsRow w.heap.size 5 1 (.slice (some ⟨g, 0, none⟩) l.length cap) l.length (l.map bv) ∧ Below w.heap.size w w'
theorem givesO_of {w w' : World} {g n cap : Nat} {l : List UInt8} (h : w'.ownsRow w.heap.size 5 1 (.slice (some ⟨g, 0, none⟩) n cap) n (l.map bv)) (hb : Below w.heap.size w w') : GivesO w l (.returned (.slice (some ⟨g, 0, none⟩) n cap)) w' := by
  have hl : l.length = n := by have := h.1; simpa using this
  subst hl
  exact ⟨g, cap, rfl, h, hb⟩
theorem GivesO.gives {w w' : World} {l : List UInt8} {e : Ending} (h : GivesO w l e w') : Gives w l e w' := by
  obtain ⟨g, cap, rfl, ho, hb⟩ := h
  exact gives_of_owns ho hb
theorem owns_base {w : World} {b b' : Nat} {t : TypeId} {k n : Nat} {v : Value} {xs : List Value} (h : w.ownsRow b t k v n xs) (hb : b' ≤ b) : w.ownsRow b' t k v n xs := by
  refine ⟨h.1, ?_⟩
  rcases h.2 with h1 | ⟨g, cap, cur, hv, hg, h2⟩
  · exact Or.inl h1
  · exact Or.inr ⟨g, cap, cur, hv, Nat.le_trans hb hg, h2⟩
end Go.Proofs.YtlakegeabnjegaaGreatDoor.App
