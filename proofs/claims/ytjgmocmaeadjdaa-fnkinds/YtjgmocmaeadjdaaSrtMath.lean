/- Plain mathematics: lists of records in order, and that there is but one for each list. -/
import Derived.Test.YtjgmocmaeadjdaaLessMath
namespace Go.Proofs.Ytjgmocmaeadjdaa.SrtMath
open Go.Proofs.Ytjgmocmaeadjdaa.MemR Go.Proofs.Ytjgmocmaeadjdaa.LessR Go.Proofs.Ytjgmocmaeadjdaa.LessMath

/-- No later one less than an earlier one. -/
def Inc (l : List Rec) : Prop := l.Pairwise (fun x y => lr y x = false)
/-- L is l in order. -/
def Srt (l L : List Rec) : Prop := L.Perm l ∧ Inc L
theorem inc_unique : ∀ (l m : List Rec), l.Perm m → Inc l → Inc m → l = m
  | [], m, h, _, _ => h.nil_eq
  | x :: l, [], h, _, _ => h.eq_nil
  | x :: l, y :: m, h, h1, h2 => by
    have h1' := List.pairwise_cons.1 h1
    have h2' := List.pairwise_cons.1 h2
    have hxy : x = y := by
      apply Classical.byContradiction
      intro hne
      have hx : x ∈ m := (List.mem_cons.1 (h.mem_iff.1 (List.mem_cons_self ..))).resolve_left hne
      have hy : y ∈ l := (List.mem_cons.1 (h.mem_iff.2 (List.mem_cons_self ..))).resolve_left (Ne.symm hne)
      have a := h1'.1 y hy
      have b := rec_ord.tot _ _ (Ne.symm hne) a
      have c := h2'.1 x hx
      rw [b] at c
      cases c
    subst hxy
    rw [inc_unique l m (h.cons_inv) h1'.2 h2'.2]
theorem Srt.unique {l L M : List Rec} (h : Srt l L) (k : Srt l M) : L = M := inc_unique L M (h.1.trans k.1.symm) h.2 k.2
theorem Srt.length {l L : List Rec} (h : Srt l L) : L.length = l.length := h.1.length_eq
theorem srt_nil : Srt [] [] := ⟨List.Perm.refl _, List.Pairwise.nil⟩
/-- One more put in its place. -/
theorem srt_insert {l L : List Rec} {x : Rec} {k : Nat} (h : Srt l L) (hk : k ≤ L.length) (h1 : ∀ j (hj : j < L.length), k ≤ j → lr x L[j] = true) (h2 : k = 0 ∨ ∃ hk' : k - 1 < L.length, lr x L[k - 1] = false) : Srt (l ++ [x]) (L.take k ++ [x] ++ L.drop k) := by
  refine ⟨?_, ?_⟩
  · rw [List.append_assoc]
    refine (List.perm_middle (a := x) (l₁ := L.take k) (l₂ := L.drop k)).trans ?_
    rw [List.take_append_drop]
    exact (h.1.cons x).trans (List.perm_append_singleton x l).symm
  · have hp := h.2
    unfold Inc at hp ⊢
    rw [List.append_assoc, List.pairwise_append]
    have hw : (L.take k ++ L.drop k).Pairwise (fun x y => lr y x = false) := by rw [List.take_append_drop]; exact hp
    rw [List.pairwise_append] at hw
    have low : ∀ a ∈ L.take k, lr x a = false := fun a ha => by
      obtain ⟨i, hi, rfl⟩ := List.mem_iff_getElem.1 ha
      have hik : i < k := by simp at hi; omega
      rcases h2 with h0 | ⟨hk', hx⟩
      · omega
      · have hget : (L.take k)[i] = L[i]'(by omega) := List.getElem_take
        rw [hget]
        by_cases e : i = k - 1
        · subst e; exact hx
        · have := List.pairwise_iff_getElem.1 hp i (k - 1) (by omega) hk' (by omega)
          exact (swo (fun r : Rec => r)).ntrans _ _ _ hx this
    refine ⟨hw.1, ?_, fun a ha b hb => ?_⟩
    · rw [List.singleton_append, List.pairwise_cons]
      refine ⟨fun b hb => ?_, hw.2.1⟩
      obtain ⟨i, hi, rfl⟩ := List.mem_iff_getElem.1 hb
      have hget : (L.drop k)[i] = L[k + i]'(by simp at hi; omega) := List.getElem_drop
      rw [hget]
      exact rec_ord.asym (h1 (k + i) (by simp at hi; omega) (by omega))
    · rw [List.singleton_append] at hb
      rcases List.mem_cons.1 hb with rfl | hb
      · exact low a ha
      · exact hw.2.2 a ha b hb
end Go.Proofs.Ytjgmocmaeadjdaa.SrtMath
