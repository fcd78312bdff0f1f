/- Plain mathematics: whether two lists of records have the same data, their times to live left out. -/
import Derived.Test.YtaahaepgabcebaaIsin
namespace Go.Proofs.Ytaahaepgabcebaa.DataM
open Go.Proofs.Ytaahaepgabcebaa.MemR Go.Proofs.Ytaahaepgabcebaa.SetMath Go.Proofs.Ytaahaepgabcebaa.Isin

/-- The records without their times to live. -/
def zs (l : List Rec) : List Rec := l.map (wr 0)
/-- Whether each record of the first stands in the second, but for its time to live. -/
noncomputable def sub (l m : List Rec) : Bool := @decide (∀ x ∈ zs l, x ∈ zs m) (Classical.propDecidable _)
theorem sub_true {l m : List Rec} (h : ∀ x ∈ zs l, x ∈ zs m) : sub l m = true := @decide_eq_true _ (Classical.propDecidable _) h
theorem sub_false {l m : List Rec} (h : ¬ ∀ x ∈ zs l, x ∈ zs m) : sub l m = false := @decide_eq_false _ (Classical.propDecidable _) h
theorem sub_iff {l m : List Rec} : sub l m = true ↔ ∀ x ∈ zs l, x ∈ zs m := by
  by_cases h : ∀ x ∈ zs l, x ∈ zs m
  · exact ⟨fun _ => h, sub_true⟩
  · rw [sub_false h]; exact ⟨fun e => absurd e (by decide), fun e => absurd e h⟩
/-- Whether the two have the same data. -/
noncomputable def sd (l m : List Rec) : Bool := sub l m && sub m l
theorem sd_iff {l m : List Rec} : sd l m = true ↔ ∀ x, x ∈ zs l ↔ x ∈ zs m := by
  unfold sd
  rw [Bool.and_eq_true, sub_iff, sub_iff]
  exact ⟨fun h x => ⟨h.1 x, h.2 x⟩, fun h => ⟨fun x => (h x).1, fun x => (h x).2⟩⟩
theorem sd_symm (l m : List Rec) : sd l m = sd m l := Bool.and_comm _ _
/-- A record without its time to live. -/
def zt (r : Rec) : Rec := wr 0 r
theorem zs_at (l : List Rec) (k : Nat) (h : k < (zs l).length) (h' : k < l.length) : (zs l)[k] = zt l[k] := by simp [zs, zt]
theorem zs_len (l : List Rec) : (zs l).length = l.length := List.length_map _
theorem wr_wr (s t : Int) (r : Rec) : wr s (wr t r) = wr s r := rfl
/-- The model compares with the other's time to live. -/
theorem wr_iff (x r : Rec) : wr r.ttl x = r ↔ wr 0 x = wr 0 r := by
  constructor
  · intro h; rw [← h]; rfl
  · intro h
    have := congrArg (wr r.ttl) h
    exact this
/-- The record with the other's time to live. -/
def wt (t : Int) (r : Rec) : Rec := wr t r
theorem wt_yes {x r : Rec} (h : wt r.ttl x = r) : zt x = zt r := (wr_iff x r).1 h
theorem wt_no {x r : Rec} (h : ¬ wt r.ttl x = r) : ¬ zt x = zt r := fun e => h ((wr_iff x r).2 e)
theorem len_le {α : Type} : ∀ {l m : List α}, l.Nodup → (∀ x ∈ l, x ∈ m) → l.length ≤ m.length
  | [], _, _, _ => Nat.zero_le _
  | x :: l, m, hn, hs => by
    obtain ⟨h1, h2⟩ := List.nodup_cons.1 hn
    obtain ⟨a, b, rfl⟩ := List.append_of_mem (hs x (by simp))
    have h3 : ∀ y ∈ l, y ∈ a ++ b := fun y hy => by
      have hne : y ≠ x := fun e => h1 (e ▸ hy)
      have := hs y (by simp [hy])
      simp only [List.mem_append, List.mem_cons] at this ⊢
      rcases this with h | h | h
      · exact Or.inl h
      · exact absurd h hne
      · exact Or.inr h
    have := len_le h2 h3
    simp only [List.length_append, List.length_cons] at this ⊢
    omega
theorem sub_back {α : Type} {l m : List α} (hl : l.Nodup) (hlen : l.length = m.length) (hs : ∀ x ∈ l, x ∈ m) : ∀ y ∈ m, y ∈ l := by
  intro y hy
  by_cases h : y ∈ l
  · exact h
  · have hn : (y :: l).Nodup := List.nodup_cons.2 ⟨h, hl⟩
    have := len_le hn (m := m) (fun x hx => by
      rcases List.mem_cons.1 hx with rfl | hx
      · exact hy
      · exact hs x hx)
    simp only [List.length_cons] at this
    omega
/-- The keys of the two maps. -/
theorem sd_len {l m : List Rec} (h : (uq (zs l)).length ≠ (uq (zs m)).length) : sd l m = false := by
  cases e : sd l m with
  | false => rfl
  | true =>
    have hi := sd_iff.1 e
    have h1 := len_le (nodup_uq (zs l)) (m := uq (zs m)) (fun x hx => mem_uq.2 ((hi x).1 (mem_uq.1 hx)))
    have h2 := len_le (nodup_uq (zs m)) (m := uq (zs l)) (fun x hx => mem_uq.2 ((hi x).2 (mem_uq.1 hx)))
    omega
theorem sd_out {l m : List Rec} {x : Rec} (hx : x ∈ uq (zs l)) (h : x ∉ uq (zs m)) : sd l m = false := by
  cases e : sd l m with
  | false => rfl
  | true => exact absurd (mem_uq.2 ((sd_iff.1 e x).1 (mem_uq.1 hx))) h
theorem sd_all {l m : List Rec} (hlen : (uq (zs l)).length = (uq (zs m)).length) (h : ∀ x ∈ uq (zs l), x ∈ uq (zs m)) : sd l m = true := by
  have hb := sub_back (nodup_uq (zs l)) hlen h
  exact sd_iff.2 (fun x => ⟨fun hx => mem_uq.1 (h x (mem_uq.2 hx)), fun hx => mem_uq.1 (hb x (mem_uq.2 hx))⟩)
theorem sd_refl (l : List Rec) : sd l l = true := sd_iff.2 (fun _ => Iff.rfl)
end Go.Proofs.Ytaahaepgabcebaa.DataM
