/- What the model's Labels does: a new slice with the pieces of the text between its dots, none for the empty text. Condition: at most 400000000 bytes. -/
import Derived.Test.YtaahaepgabcebaaSplit
import Derived.Test.YtaahaepgabcebaaAppS
namespace Go.Proofs.Ytaahaepgabcebaa.Labels
open Go.RowKit Go.Proofs.Ytaahaepgabcebaa.Mem Go.Proofs.Ytaahaepgabcebaa.MemS Go.Proofs.Ytaahaepgabcebaa.AppS Go.Proofs.Ytaahaepgabcebaa.Split

/-- What the model's loop has done before its round k: the pieces L, and the next one begins at f. -/
def Inv (l : List UInt8) (k f : Nat) (L : List ByteArray) : Prop :=
  (k ≤ l.length ∧ f ≤ k ∧ L.map (·.data.toList) ++ spa ((l.drop f).take (k - f)) (l.drop k) = spa [] l) ∨ (k = l.length + 1 ∧ L.map (·.data.toList) = spa [] l)
theorem extract_list (s : ByteArray) (f k : Nat) : (s.extract f k).data.toList = (s.data.toList.drop f).take (k - f) := Lib.extract_data s f k
theorem Inv.start (l : List UInt8) : Inv l 0 0 [] := Or.inl ⟨Nat.zero_le _, Nat.le_refl _, by simp⟩
theorem Inv.here {l : List UInt8} {k f : Nat} {L : List ByteArray} (h : Inv l k f L) (hk : k ≤ l.length) : f ≤ k ∧ L.map (·.data.toList) ++ spa ((l.drop f).take (k - f)) (l.drop k) = spa [] l := by
  rcases h with ⟨_, h1, h2⟩ | ⟨h1, _⟩
  · exact ⟨h1, h2⟩
  · omega
theorem Inv.last {s : ByteArray} {k f f' : Nat} {L : List ByteArray} (h : Inv s.data.toList k f L) (hk : k = s.data.toList.length) : Inv s.data.toList (k + 1) f' (L ++ [s.extract f k]) := by
  obtain ⟨h1, h2⟩ := h.here (by omega)
  refine Or.inr ⟨by omega, ?_⟩
  rw [List.map_append, List.map_cons, List.map_nil, extract_list]
  rw [hk, List.drop_length, spa] at h2
  rw [hk]
  exact h2
theorem Inv.dot {s : ByteArray} {k f : Nat} {L : List ByteArray} (h : Inv s.data.toList k f L) (hk : k < s.data.toList.length) (hd : s.data.toList[k] = 46) : Inv s.data.toList (k + 1) (k + 1) (L ++ [s.extract f k]) := by
  obtain ⟨h1, h2⟩ := h.here (by omega)
  refine Or.inl ⟨by omega, Nat.le_refl _, ?_⟩
  rw [List.drop_eq_getElem_cons hk, hd, spa_dot] at h2
  rw [List.map_append, List.map_cons, List.map_nil, extract_list, Nat.sub_self, List.take_zero, List.append_assoc, List.singleton_append]
  exact h2
theorem Inv.other {s : ByteArray} {k f : Nat} {L : List ByteArray} (h : Inv s.data.toList k f L) (hk : k < s.data.toList.length) (hd : s.data.toList[k] ≠ 46) : Inv s.data.toList (k + 1) f L := by
  obtain ⟨h1, h2⟩ := h.here (by omega)
  refine Or.inl ⟨by omega, by omega, ?_⟩
  rw [List.drop_eq_getElem_cons hk, spa_other _ _ _ hd] at h2
  have e : (s.data.toList.drop f).take (k + 1 - f) = (s.data.toList.drop f).take (k - f) ++ [s.data.toList[k]] := by
    rw [show k + 1 - f = (k - f) + 1 by omega, List.take_succ_eq_append_getElem (by rw [List.length_drop]; omega), List.getElem_drop]
    congr 3
    omega
  rw [e]
  exact h2
theorem map_inj : ∀ (x y : List ByteArray), x.map (·.data.toList) = y.map (·.data.toList) → x = y
  | [], [], _ => rfl
  | [], _ :: _, h => by simp at h
  | _ :: _, [], h => by simp at h
  | a :: x, b :: y, h => by
    simp only [List.map_cons, List.cons.injEq] at h
    rw [text_ext h.1, map_inj x y h.2]
theorem Inv.fin {s : ByteArray} {k f : Nat} {L : List ByteArray} (h : Inv s.data.toList k f L) (hk : s.data.toList.length < k) (hs : s.size ≠ 0) : L = Lab s := by
  rcases h with ⟨h1, _⟩ | ⟨_, h1⟩
  · omega
  · exact map_inj _ _ (by rw [h1, lab_list s hs])

theorem not_empty (s : ByteArray) (h : s.size ≠ 0) : s.toList.isEmpty = false := by
  rw [ByteArray.toList_eq]
  cases e : s.data.toList with
  | nil =>
    have hz : s.data.toList.length = s.size := by simp
    rw [e] at hz
    exact absurd hz.symm h
  | cons => rfl

/-- The library's variable internal/bytealg.MaxLen holds an int. -/
def Env (w : World) : Prop := ∃ m : Int, w.cell? ⟨0, 0, none⟩ = some (.int .i64 m)
theorem Env.lt {w : World} (h : Env w) : 0 < w.heap.size := by
  obtain ⟨m, hm⟩ := h
  exact World.block_lt_of_cell? _ _ hm
theorem Env.below {w w' : World} (h : Env w) (hb : Below w.heap.size w w') : Env w' := by
  have hlt := h.lt
  obtain ⟨m, hm⟩ := h
  exact ⟨m, (hb.cell (p := ⟨0, 0, none⟩) hlt).trans hm⟩
end Go.Proofs.Ytaahaepgabcebaa.Labels
