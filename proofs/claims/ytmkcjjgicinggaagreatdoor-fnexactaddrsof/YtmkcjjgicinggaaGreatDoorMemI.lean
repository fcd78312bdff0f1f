/- Plain facts on memory: what a slice of ints reads as; a new slice of ints that a call gives back; a law on append of one int. -/
import Derived.Test.YtmkcjjgicinggaaGreatDoorMem
import Derived.Deep.AppendLies
namespace Go.Proofs.YtmkcjjgicinggaaGreatDoor.MemI
open Go.RowKit Go.Proofs.YtmkcjjgicinggaaGreatDoor.Mem

/-- An int as the cell that holds it. -/
def iv (x : Int) : Value := .int .i64 x

theorem iv_get (l : List Int) (j : Nat) (h : j < l.length) : (l.map iv)[j]? = some (.int .i64 l[j]) := by simp [iv, h]

/-- The slice with address A and n elements reads, in w, as the ints l. -/
def Si (w : World) (A : Option Addr) (n : Nat) (l : List Int) : Prop :=
  l.length = n ∧ (0 < n → ∃ b off, A = some ⟨b, off, none⟩ ∧ b < w.heap.size ∧ ∀ j (h : j < l.length), w.cell? ⟨b, off + j, none⟩ = some (.int .i64 l[j]))
section
variable {w w' : World} {n g : Nat} {A : Option Addr} {l : List Int} {t : TypeId}

theorem Si.nil : Si w A 0 [] := ⟨rfl, fun h => absurd h (Nat.lt_irrefl _)⟩

theorem Si.on (h : Si w A n l) (hb : Below w.heap.size w w') : Si w' A n l := by
  refine ⟨h.1, fun hn => ?_⟩
  obtain ⟨b, off, hA, hl, hc⟩ := h.2 hn
  exact ⟨b, off, hA, Nat.lt_of_lt_of_le hl hb.size, fun j hj => (hb.cell (p := ⟨b, off + j, none⟩) hl).trans (hc j hj)⟩

/-- A block of ints with room behind, read as a slice over its head. -/
theorem bk_si {r : List Value} (h : Bk w g t (l.map iv ++ r)) (hn : l.length = n) : Si w (some ⟨g, 0, none⟩) n l :=
  ⟨hn, fun _ => ⟨g, 0, rfl, h.lt, fun j hj => by rw [Nat.zero_add, h.cell j, List.getElem?_append_left (by simpa using hj), iv_get l j hj]⟩⟩
end

theorem info : (Tryz.prog.info? 3).map (fun i => (i.zero, i.size, i.bytes)) = some (some (.int .i64 0), 1, 8) := by kernel_rfl

/-- The call returned a new slice that reads as the ints l (room behind it let in), and turned nothing that was there. -/
def GivesI (w : World) (l : List Int) (e : Ending) (w' : World) : Prop :=
  ∃ g m c r, e = .returned (.slice (some ⟨g, 0, none⟩) m c) ∧ l.length = m ∧ m ≤ c ∧ w.heap.size ≤ g ∧ Bk w' g 3 (l.map iv ++ r) ∧ Below w.heap.size w w'

theorem owns_new (w : World) : (w.alloc (.cells #[] 3)).ownsRow w.heap.size 3 1 (.slice (some ⟨w.heap.size, 0, none⟩) 0 0) 0 [] :=
  World.ownsRow_made w #[] 0 (Nat.le_refl _) (Nat.zero_le _) (by simp)

/-- append of one new int onto a row of the call's own. -/
theorem append_one {w : World} {ops : Array Oper} {rest : List Oper} {o : Oper} {a : Act} {Q : Exit → Act → World → Prop} (hgd : o.guard = none) (s x : Operand)
    (ho : o.op = .call { callee := .builtin .append, args := #[s, x], argTypes := #[42, 42] })
    (base g n cap : Nat) (l : List Int) (hs : a.eval s = .slice (some ⟨g, 0, none⟩) n cap) (hown : w.ownsRow base 3 1 (.slice (some ⟨g, 0, none⟩) n cap) n (l.map iv))
    (y : Int) (hx : a.eval x = .slice (some ⟨w.heap.size, 0, none⟩) 1 1) (hn : n ≤ 800000000) (hbase : base ≤ w.heap.size)
    (h : ∀ g' cap' w', w'.ownsRow base 3 1 (.slice (some ⟨g', 0, none⟩) (n + 1) cap') (n + 1) ((l ++ [y]).map iv) → (w.alloc (.cells #[.int .i64 y] 3)).grownBy w' (some g) → (g = g' ∨ g' = w.heap.size + 1) → wpList Tryz.prog ops Q rest (a.put o.dst (.slice (some ⟨g', 0, none⟩) (n + 1) cap')) w') : wpList Tryz.prog ops Q (o :: rest) a (w.alloc (.cells #[.int .i64 y] 3)) := by
  obtain ⟨i0, hi, hz0, hz1, hz2⟩ := info_parts info
  exact wpList_append_lies (w.alloc (.cells #[.int .i64 y] 3)) hgd s x 42 ho base 3 i0 _ 1 8 Tryz.underlying42 hi hz0 hz1 hz2 rfl (by decide) _ n (l.map iv) hs (hown.alloc _) ⟨w.heap.size, 0, none⟩ 1 1 [.int .i64 y] hx rfl
    (cell_one_new _ _ _) (fun u hu => by simp at hu; subst hu; rfl) (by decide) (by unfold maxLen; omega) (by omega) (by simp; omega) (w.heap.size + 1) (by simp)
    (fun g' cap' w' h1 h2 h3 _ => h g' cap' w' (by rw [List.map_append]; exact h1) h2 (h3.imp (fun e => Option.some.inj e) id))

/-- What the call owns as a row of ints is a slice that GivesI speaks of. -/
theorem gives_of_owns {w w' : World} {g n cap : Nat} {l : List Int} (h : w'.ownsRow w.heap.size 3 1 (.slice (some ⟨g, 0, none⟩) n cap) n (l.map iv)) (hb : Below w.heap.size w w') : GivesI w l (.returned (.slice (some ⟨g, 0, none⟩) n cap)) w' := by
  have hl : l.length = n := by have := h.1; simpa using this
  obtain ⟨r, hk, hr, hg⟩ := bk_of_owns h
  exact ⟨g, n, cap, r, rfl, hl, by rw [← hr, List.length_append, List.length_map, hl]; omega, hg, hk, hb⟩
end Go.Proofs.YtmkcjjgicinggaaGreatDoor.MemI
