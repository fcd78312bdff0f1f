/- Plain mathematics: what the model's l10Uniq makes of records in order: of alike ones one, and of one key one time to live. -/
import Derived.Test.YtjgmocmaeadjdaaZokMath
import Derived.Test.YtjgmocmaeadjdaaSrtMath
namespace Go.Proofs.Ytjgmocmaeadjdaa.UqzMath
open Go.RowKit Go.Proofs.Ytjgmocmaeadjdaa.MemR Go.Proofs.Ytjgmocmaeadjdaa.SetMath Go.Proofs.Ytjgmocmaeadjdaa.ZokMath

/-- One more record behind those so far. -/
noncomputable def ust (out : List Rec) (r : Rec) : List Rec :=
  match out.getLast? with
  | none => out ++ [r]
  | some p => if dec (p.name = r.name ∧ p.ty = r.ty) = true then (if dec (p = SetMath.wr p.ttl r) = true then out else out ++ [SetMath.wr p.ttl r]) else out ++ [r]

/-- The records so thinned. A def, so that no step of a walk opens it. -/
noncomputable def uqz (S : List Rec) : List Rec := S.foldl ust []

theorem uqz_take (S : List Rec) (k : Nat) (h : k < S.length) : uqz (S.take (k + 1)) = ust (uqz (S.take k)) S[k] := by
  unfold uqz
  rw [List.take_succ_eq_append_getElem h, List.foldl_append]
  rfl

theorem ust_nil (r : Rec) : ust [] r = [r] := rfl

theorem ust_other {out : List Rec} {p r : Rec} (h : out.getLast? = some p) (e : ¬ (p.name = r.name ∧ p.ty = r.ty)) : ust out r = out ++ [r] := by
  simp only [ust, h]
  rw [dec_false e, if_neg (by decide)]

theorem ust_same {out : List Rec} {p r : Rec} (h : out.getLast? = some p) (e : p.name = r.name ∧ p.ty = r.ty) (k : p = SetMath.wr p.ttl r) : ust out r = out := by
  simp only [ust, h]
  rw [dec_true e, if_pos rfl, dec_true k, if_pos rfl]

theorem ust_key {out : List Rec} {p r : Rec} (h : out.getLast? = some p) (e : p.name = r.name ∧ p.ty = r.ty) (k : ¬ p = SetMath.wr p.ttl r) : ust out r = out ++ [SetMath.wr p.ttl r] := by
  simp only [ust, h]
  rw [dec_true e, if_pos rfl, dec_false k, if_neg (by decide)]

theorem ust_len (out : List Rec) (r : Rec) : (ust out r).length ≤ out.length + 1 := by
  unfold ust
  split
  · simp
  · split
    · split <;> simp
    · simp

theorem uqz_len_take (S : List Rec) : ∀ k, k ≤ S.length → (uqz (S.take k)).length ≤ k
  | 0, _ => by simp [uqz]
  | k + 1, h => by
    rw [uqz_take S k h]
    have := uqz_len_take S k (by omega)
    have := ust_len (uqz (S.take k)) S[k]
    omega

/-- Where no neighbours have one key, nothing is thinned. -/
theorem uqz_all (S : List Rec) (h : ∀ i, i + 1 < S.length → ¬ ((at0 S i).name = (at0 S (i + 1)).name ∧ (at0 S i).ty = (at0 S (i + 1)).ty)) : uqz S = S := by
  have key : ∀ k, k ≤ S.length → uqz (S.take k) = S.take k := by
    intro k
    induction k with
    | zero => intro _; simp [uqz]
    | succ k ih =>
      intro hk
      rw [uqz_take S k hk, ih (by omega), List.take_succ_eq_append_getElem hk]
      cases k with
      | zero => rfl
      | succ q =>
        have hl : (S.take (q + 1)).getLast? = some (at0 S q) := by
          rw [List.take_succ_eq_append_getElem (show q < S.length by omega), List.getLast?_append, at0_get (show q < S.length by omega)]
          rfl
        refine ust_other hl ?_
        have := h q hk
        rw [at0_get hk] at this
        exact this
  have := key S.length (Nat.le_refl _)
  rwa [List.take_length] at this

theorem ust_mem {P : Rec → Prop} (hP : ∀ (r : Rec) (t : Int), P r → P (SetMath.wr t r)) {out : List Rec} {r : Rec} (h : ∀ x ∈ out, P x) (hr : P r) : ∀ x ∈ ust out r, P x := by
  have h1 : ∀ y, P y → ∀ x ∈ out ++ [y], P x := fun y hy x hx => by
    rcases List.mem_append.1 hx with hx | hx
    · exact h x hx
    · rw [List.mem_singleton.1 hx]; exact hy
  unfold ust
  split
  · exact h1 r hr
  · split
    · split
      · exact h
      · exact h1 _ (hP r _ hr)
    · exact h1 r hr

theorem uqz_mem {P : Rec → Prop} (hP : ∀ (r : Rec) (t : Int), P r → P (SetMath.wr t r)) {S : List Rec} (h : ∀ x ∈ S, P x) : ∀ x ∈ uqz S, P x := by
  have key : ∀ k, k ≤ S.length → ∀ x ∈ uqz (S.take k), P x := by
    intro k
    induction k with
    | zero => intro _ x hx; simp [uqz] at hx
    | succ k ih =>
      intro hk
      rw [uqz_take S k hk]
      exact ust_mem hP (ih (by omega)) (h _ (List.getElem_mem hk))
  have := key S.length (Nat.le_refl _)
  rwa [List.take_length] at this

end Go.Proofs.Ytjgmocmaeadjdaa.UqzMath
