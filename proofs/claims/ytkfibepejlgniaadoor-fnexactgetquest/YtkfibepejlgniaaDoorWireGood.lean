/- Plain mathematics: a name that is read is valid, ends behind its offset and inside the bytes, and follows no more pointers than there are bytes. -/
import Derived.Test.YtkfibepejlgniaaDoorWireMath
namespace Go.Proofs.YtkfibepejlgniaaDoor.WireGood
open Go.Proofs.YtkfibepejlgniaaDoor.JoinSpec Go.Proofs.YtkfibepejlgniaaDoor.GetLabel Go.Proofs.YtkfibepejlgniaaDoor.NameOk Go.Proofs.YtkfibepejlgniaaDoor.WireMath

/-- What is known on the way from offset o. -/
def Way (l : List UInt8) (o k m : Int) (j : Nat) (x : Int) : Prop :=
  (x = -1 ∧ o ≤ k ∧ j = 0 ∧ m = o) ∨ (0 ≤ x ∧ o < x ∧ x ≤ (l.length : Int) ∧ 0 ≤ m ∧ (j : Int) + m ≤ (l.length : Int))
theorem go_good (l : List UInt8) (o : Int) (L' : List ByteArray) (x' : Int) (j' : Nat) : ∀ f L k m j x, go l f L k m j x = (0, L', x', j') → okL L = true → Nm (Jo L) = true → Way l o k m j x →
    okL L' = true ∧ Nm (Jo L') = true ∧ o < x' ∧ x' ≤ (l.length : Int) ∧ (j' : Int) ≤ (l.length : Int)
  | 0, L, k, m, j, x, h, _, _, _ => by simp [go] at h
  | f + 1, L, k, m, j, x, h, hok, hnm, hw => by
    unfold go at h
    split at h
    · simp at h
    · rename_i hk
      split at h
      · simp only [Prod.mk.injEq, true_and] at h
        obtain ⟨rfl, rfl, rfl⟩ := h
        refine ⟨hok, hnm, ?_⟩
        rcases hw with ⟨rfl, h1, rfl, rfl⟩ | ⟨h0, h1, h2, h3, h4⟩
        · rw [if_pos (by omega)]
          omega
        · rw [if_neg (by omega)]
          omega
      · rename_i h0
        split at h
        · rename_i h192
          split at h
          · simp at h
          · rename_i h1
            split at h
            · simp at h
            · rename_i h2
              have ht := tg_pos l k h192
              refine go_good l o L' x' j' f L _ _ _ _ h hok hnm (Or.inr ?_)
              rcases hw with ⟨rfl, h3, rfl, rfl⟩ | ⟨h3, h4, h5, h6, h7⟩
              · rw [if_pos (by omega)]
                omega
              · rw [if_neg (by omega)]
                omega
        · cases hh : has l k with
          | none =>
            rw [hh] at h
            simp only [Prod.mk.injEq] at h
            have := h.1
            split at this <;> omega
          | some q =>
            obtain ⟨p, e⟩ := q
            rw [hh] at h
            dsimp only at h
            split at h
            · rename_i h3
              have hs := has_some hh
              refine go_good l o L' x' j' f _ _ _ _ _ h (okL_snoc hok hs.2.2.2.1) h3 ?_
              rcases hw with ⟨rfl, h4, h5, h6⟩ | h4
              · exact Or.inl ⟨rfl, by omega, h5, h6⟩
              · exact Or.inr h4
            · simp at h
theorem rn_good {l : List UInt8} {k : Int} {L' : List ByteArray} {x' : Int} {j' : Nat} (h : rn l [] k k 0 (-1) = (0, L', x', j')) :
    okL L' = true ∧ Nm (Jo L') = true ∧ k < x' ∧ x' ≤ (l.length : Int) ∧ (j' : Int) ≤ (l.length : Int) :=
  go_good l k L' x' j' _ _ _ _ _ _ h rfl rfl (Or.inl ⟨rfl, Int.le_refl _, rfl, rfl⟩)
end Go.Proofs.YtkfibepejlgniaaDoor.WireGood
