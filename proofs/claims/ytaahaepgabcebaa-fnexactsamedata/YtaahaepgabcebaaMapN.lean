/- len of a map, and a range over a map that nothing is laid into: the laws at the operations. -/
import Derived.Test.YtaahaepgabcebaaMapK
namespace Go.Proofs.Ytaahaepgabcebaa.MapN
open Go.RowKit Go.Proofs.Ytaahaepgabcebaa.Mem Go.Proofs.Ytaahaepgabcebaa.MapK
open Go.ChangeMaps (setBlock heap_setBlock_same heap_setBlock_other)

section
variable {P : Program} {w w' : World} {b r bm clock : Nat} {l : List (Value × Value)} {k e t : TypeId} {es : Array MapEntry} {seen : Array Nat}
theorem Mp.len (h : Mp w b l) (ht : P.underlying t = some (.map k e)) (ty : TypeId) : (Builtin.len_ #[t] ty #[.map (some b)]).run P w = .ok (.int .i64 (l.length : Nat)) w := by
  obtain ⟨es, clock, hb, hl, _⟩ := h
  have e1 : l.length = es.size := by rw [← hl]; simp
  simp [Builtin.len_, run_underlying ht, MapKept.run_getObj_map hb, goInt, Result.andThen, e1]
/-- 'len(m)' at the operation. -/
theorem wp_len {ops : Array Oper} {rest : List Oper} {o : Oper} {a : Act} {Q : Exit → Act → World → Prop} (hg : o.guard = none) (m : Operand) (hop : o.op = Op.call { callee := Callee.builtin Builtin.len, args := #[m], argTypes := #[t] })
    (hm : a.eval m = .map (some b)) (h : Mp w b l) (ht : P.underlying t = some (.map k e)) (hK : wpList P ops Q rest (a.put o.dst (.int .i64 (l.length : Nat))) w) : wpList P ops Q (o :: rest) a w := by
  refine wpList_plain hg fun K' hK' => ?_
  unfold Oper.wp
  simp [execOp, hop, resolve, invoke, builtin, hm, Mp.len h ht o.type, Result.andThen]
  exact hK' _ _ hK

/-- Block r is an iterator over block bm, which holds these entries; what it has seen. -/
def It (w : World) (r bm : Nat) (es : Array MapEntry) (clock : Nat) (seen : Array Nat) : Prop :=
  w.heap[r]? = some (.mapIter (some bm) clock seen clock) ∧ w.heap[bm]? = some (.map es clock)
theorem It.grown {row : Option Nat} (h : It w r bm es clock seen) (hg : w.grownBy w' row) (h1 : some r ≠ row) (h2 : some bm ≠ row) : It w' r bm es clock seen :=
  ⟨(hg.block r (Array.getElem?_eq_some_iff.1 h.1).1 h1).trans h.1, (hg.block bm (Array.getElem?_eq_some_iff.1 h.2).1 h2).trans h.2⟩
theorem It.alloc (h : It w r bm es clock seen) (o : Obj) : It (w.alloc o) r bm es clock seen := h.grown (World.grownBy_alloc w o none) (by simp) (by simp)
theorem It.made (hb : w.heap[bm]? = some (.map es clock)) : It (w.alloc (.mapIter (some bm) clock #[] clock)) w.heap.size bm es clock #[] :=
  ⟨heap_alloc_new w _, (heap_alloc_old w _ (Array.getElem?_eq_some_iff.1 hb).1).trans hb⟩
/-- How many entries are left. -/
def lft (w : World) (r bm : Nat) : Nat :=
  match w.heap[r]?, w.heap[bm]? with
  | some (.mapIter _ _ seen _), some (.map es _) => (leftOf es seen).size
  | _, _ => 0
theorem It.left (h : It w r bm es clock seen) : lft w r bm = (leftOf es seen).size := by unfold lft; rw [h.1, h.2]
theorem mem_left {e : MapEntry} : e ∈ (leftOf es seen).toList ↔ e ∈ es.toList ∧ e.born ∉ seen := by
  unfold leftOf
  simp
theorem left_less {e : MapEntry} (he : e ∈ (leftOf es seen).toList) : (leftOf es (seen.push e.born)).size < (leftOf es seen).size := by
  have h1 : (leftOf es (seen.push e.born)).toList = (leftOf es seen).toList.filter (fun x => !(x.born == e.born)) := by
    unfold leftOf
    simp only [Array.toList_filter]
    rw [List.filter_filter]
    refine List.filter_congr (fun x _ => ?_)
    simp only [Array.contains_push]
    cases seen.contains x.born <;> cases h : x.born == e.born <;> simp_all
  rw [← Array.length_toList, ← Array.length_toList, h1]
  refine List.length_filter_lt_length_iff_exists.2 ⟨e, he, by simp⟩
theorem left_none (h : (leftOf es seen).size = 0) : ∀ e ∈ es.toList, e.born ∈ seen := by
  intro e he
  by_cases hc : e.born ∈ seen
  · exact hc
  · have hm : e ∈ (leftOf es seen).toList := mem_left.2 ⟨he, hc⟩
    have : (leftOf es seen).toList.length = 0 := by rw [Array.length_toList]; exact h
    rw [List.eq_nil_of_length_eq_zero this] at hm
    cases hm

/-- 'next' at the operation: nothing is left, or one entry comes out, whichever. -/
theorem wp_next {ops : Array Oper} {rest : List Oper} {o : Oper} {a : Act} {Q : Exit → Act → World → Prop} (hg : o.guard = none) (x : Operand) (hop : o.op = Op.next x false)
    (hx : a.eval x = .pointer (some ⟨r, 0, none⟩)) (h : It w r bm es clock seen) (hold : ∀ e ∈ es.toList, e.born < clock)
    (h0 : (leftOf es seen).size = 0 → wpList P ops Q rest (a.put o.dst (.tuple #[.bool false])) w)
    (h1 : ∀ e ∈ (leftOf es seen).toList, ∀ w', It w' r bm es clock (seen.push e.born) → w.grownBy w' (some r) → w'.heap.size = w.heap.size → wpList P ops Q rest (a.put o.dst (.tuple #[.bool true, e.key, e.val])) w') : wpList P ops Q (o :: rest) a w := by
  refine wpList_plain hg fun K' hK' => ?_
  have hne : bm ≠ r := fun e => by have h1 := h.1; have h2 := h.2; rw [e, h1] at h2; cases h2
  rcases run_next_at (P := P) w o.type r bm clock clock seen es clock h.1 h.2 hold (Nat.le_refl _) with ⟨hz, hrun⟩ | ⟨e, he, w1, hw1, hrun⟩
  · unfold Oper.wp
    simp [execOp, hop, hx, hrun, Result.andThen]
    exact hK' _ _ (h0 hz)
  · unfold Oper.wp
    simp [execOp, hop, hx, hrun, Result.andThen]
    have hr1 : w1.heap[r]? = some (.mapIter (some bm) clock seen clock) := by rcases hw1 with rfl | rfl <;> exact h.1
    have hb1 : w1.heap[bm]? = some (.map es clock) := by rcases hw1 with rfl | rfl <;> exact h.2
    have hsame : (setBlock w1 r (.mapIter (some bm) clock (seen.push e.born) clock)).heap[r]? = some (.mapIter (some bm) clock (seen.push e.born) clock) := by
      have hlt := (Array.getElem?_eq_some_iff.1 hr1).1
      simp [setBlock, hlt]
    have hother : ∀ i, i ≠ r → (setBlock w1 r (.mapIter (some bm) clock (seen.push e.born) clock)).heap[i]? = w1.heap[i]? := fun i hi => by
      simp [setBlock, hi.symm]
    refine hK' _ _ (h1 e he _ ⟨hsame, (hother bm hne).trans hb1⟩ ⟨?_, ?_, ?_, ?_, ?_⟩ ?_)
    · rcases hw1 with rfl | rfl <;> rfl
    · rcases hw1 with rfl | rfl <;> rfl
    · rcases hw1 with rfl | rfl <;> rfl
    · rcases hw1 with rfl | rfl <;> simp [setBlock]
    · intro i _ hi
      have h2 := hother i (fun e => hi (by rw [e]))
      rw [h2]
      rcases hw1 with rfl | rfl <;> rfl
    · rcases hw1 with rfl | rfl <;> simp [setBlock]
/-- The round's key and value at the operation. -/
theorem wp_pair {ops : Array Oper} {rest : List Oper} {o : Oper} {a : Act} {Q : Exit → Act → World → Prop} (hg : o.guard = none) (x : Operand) (hop : o.op = Op.entry x)
    (hx : a.eval x = .pointer (some ⟨r, 0, none⟩)) (e : MapEntry) (h : It w r bm es clock (seen.push e.born)) (he : e ∈ es.toList) (hn : (es.toList.map (·.born)).Nodup)
    (hK : wpList P ops Q rest (a.put o.dst (.tuple #[e.key, e.val])) w) : wpList P ops Q (o :: rest) a w := by
  refine wpList_plain hg fun K' hK' => ?_
  have hrun := run_entry_at (P := P) w r bm clock seen es clock e h.1 h.2 he hn
  unfold Oper.wp
  simp [execOp, hop, hx, hrun, Result.andThen]
  exact hK' _ _ hK
end
end Go.Proofs.Ytaahaepgabcebaa.MapN
