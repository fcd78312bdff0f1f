/- Plain mathematics: the order of records is a strict total order. -/
import Derived.Test.YtmkcjjgicinggaaGreatDoorLessR
import Derived.Sort.Statements
namespace Go.Proofs.YtmkcjjgicinggaaGreatDoor.LessMath
open Go.Proofs.YtmkcjjgicinggaaGreatDoor.MemS Go.Proofs.YtmkcjjgicinggaaGreatDoor.MemR Go.Proofs.YtmkcjjgicinggaaGreatDoor.Split Go.Proofs.YtmkcjjgicinggaaGreatDoor.NameMath Go.Proofs.YtmkcjjgicinggaaGreatDoor.LessR
open Go.Op (bytesLess)

/-- A strict total order. -/
structure Ord {β : Type} (less : β → β → Bool) : Prop where
  irr : ∀ x, less x x = false
  tr : ∀ x y z, less x y = true → less y z = true → less x z = true
  tot : ∀ x y, x ≠ y → less x y = false → less y x = true
section
variable {β γ : Type} {less : β → β → Bool} {R : γ → γ → Bool}
theorem Ord.asym (h : Ord less) {x y : β} (k : less x y = true) : less y x = false := by
  cases e : less y x with
  | false => rfl
  | true =>
    have := h.tr x y x k e
    rw [h.irr] at this
    cases this
theorem Ord.ne (h : Ord less) {x y : β} (k : less x y = true) : x ≠ y := fun e => by
  subst e
  rw [h.irr] at k
  cases k
/-- By the first, and where those are the same by the second. -/
noncomputable def lex (less : β → β → Bool) (R : γ → γ → Bool) (p q : β × γ) : Bool := @ite _ (p.1 = q.1) (Classical.propDecidable _) (R p.2 q.2) (less p.1 q.1)
theorem lex_same (x : β) (u v : γ) : lex less R (x, u) (x, v) = R u v := @if_pos _ (Classical.propDecidable _) rfl _ _ _
theorem lex_diff {x y : β} (h : x ≠ y) (u v : γ) : lex less R (x, u) (y, v) = less x y := @if_neg _ (Classical.propDecidable _) h _ _ _
theorem lex_ord (A : Ord less) (B : Ord R) : Ord (lex less R) := by
  refine ⟨fun ⟨x, u⟩ => by rw [lex_same]; exact B.irr u, fun ⟨x, u⟩ ⟨y, v⟩ ⟨z, t⟩ h1 h2 => ?_, fun ⟨x, u⟩ ⟨y, v⟩ hn h => ?_⟩
  · by_cases e1 : x = y
    · subst e1
      rw [lex_same] at h1
      by_cases e2 : x = z
      · subst e2
        rw [lex_same] at h2 ⊢
        exact B.tr _ _ _ h1 h2
      · rw [lex_diff e2] at h2 ⊢
        exact h2
    · rw [lex_diff e1] at h1
      by_cases e2 : y = z
      · subst e2
        rw [lex_diff e1]
        exact h1
      · rw [lex_diff e2] at h2
        have h3 := A.tr _ _ _ h1 h2
        rw [lex_diff (A.ne h3)]
        exact h3
  · by_cases e1 : x = y
    · subst e1
      rw [lex_same] at h ⊢
      exact B.tot _ _ (fun e => hn (by rw [e])) h
    · rw [lex_diff e1] at h
      rw [lex_diff (Ne.symm e1)]
      exact A.tot _ _ e1 h
end
theorem int_ord : Ord (fun x y : Int => decide (x < y)) :=
  ⟨fun x => decide_eq_false (by omega), fun x y z h k => decide_eq_true (by have := of_decide_eq_true h; have := of_decide_eq_true k; omega), fun x y h k => decide_eq_true (by have := of_decide_eq_false k; omega)⟩
theorem bl_trans : ∀ x y z : List UInt8, bytesLess x y = true → bytesLess y z = true → bytesLess x z = true
  | _, _, [], _, h => by simp [bytesLess] at h
  | _, [], _ :: _, h, _ => by simp [bytesLess] at h
  | [], _ :: _, _ :: _, _, _ => rfl
  | a :: x, b :: y, c :: z, h, k => by
    rw [bytesLess, Bool.or_eq_true, Bool.and_eq_true] at h k ⊢
    rcases h with h | ⟨h, h'⟩
    · have h := UInt8.lt_iff_toNat_lt.1 (of_decide_eq_true h)
      rcases k with k | ⟨k, k'⟩
      · have k := UInt8.lt_iff_toNat_lt.1 (of_decide_eq_true k)
        exact Or.inl (decide_eq_true (UInt8.lt_iff_toNat_lt.2 (by omega)))
      · obtain rfl := eq_of_beq k
        exact Or.inl (decide_eq_true (UInt8.lt_iff_toNat_lt.2 h))
    · obtain rfl := eq_of_beq h
      rcases k with k | ⟨k, k'⟩
      · exact Or.inl k
      · exact Or.inr ⟨k, bl_trans x y z h' k'⟩
theorem text_ord : Ord (fun x y : ByteArray => bytesLess x.data.toList y.data.toList) :=
  ⟨fun _ => bl_irr _, fun _ _ _ h k => bl_trans _ _ _ h k, fun _ _ h k => bl_tot _ _ (ne_list h) k⟩
theorem ln_trans : ∀ x y z : List ByteArray, ln x y = true → ln y z = true → ln x z = true
  | _, _, [], _, h => by simp [ln] at h
  | _, [], _ :: _, h, _ => by simp [ln] at h
  | [], _ :: _, _ :: _, _, _ => rfl
  | a :: x, b :: y, c :: z, h, k => by
    by_cases e1 : a = b
    · subst e1
      rw [ln, if_pos (beq_self_eq_true _)] at h
      by_cases e2 : a = c
      · subst e2
        rw [ln, if_pos (beq_self_eq_true _)] at k ⊢
        exact ln_trans x y z h k
      · rw [ln, if_neg (fun q => e2 ((same_iff a c).1 q))] at k ⊢
        exact k
    · rw [ln, if_neg (fun q => e1 ((same_iff a b).1 q))] at h
      by_cases e2 : b = c
      · subst e2
        rw [ln, if_neg (fun q => e1 ((same_iff a b).1 q))]
        exact h
      · rw [ln, if_neg (fun q => e2 ((same_iff b c).1 q))] at k
        have h3 := bl_trans _ _ _ h k
        rw [ln, if_neg (fun q => text_ord.ne (x := a) (y := c) h3 ((same_iff a c).1 q))]
        exact h3
theorem name_ord : Ord Ls := ⟨ls_irr, fun _ _ _ h k => ln_trans _ _ _ h k, fun _ _ h k => ls_tot h k⟩
/-- What records are ordered by, in this order. -/
def key (r : Rec) : ByteArray × Int × Int × ByteArray × ByteArray × Int := (r.name, r.ty, r.n, r.host, r.text, r.ttl)
theorem lr_key (a b : Rec) : lr a b = lex Ls (lex (fun x y : Int => decide (x < y)) (lex (fun x y : Int => decide (x < y)) (lex Ls (lex (fun x y : ByteArray => bytesLess x.data.toList y.data.toList) (fun x y : Int => decide (x < y)))))) (key a) (key b) := by
  obtain ⟨n1, t1, l1, m1, h1, x1⟩ := a
  obtain ⟨n2, t2, l2, m2, h2, x2⟩ := b
  unfold key
  by_cases c0 : n1 = n2
  · subst c0
    rw [lex_same]
    by_cases c1 : t1 = t2
    · subst c1
      rw [lex_same]
      by_cases c2 : m1 = m2
      · subst c2
        rw [lex_same]
        by_cases c3 : h1 = h2
        · subst c3
          rw [lex_same]
          by_cases c4 : x1 = x2
          · subst c4
            rw [lex_same, lr_ttl]
          · rw [lex_diff c4, lr_text c4]
        · rw [lex_diff c3, lr_host c3]
      · rw [lex_diff c2, lr_n c2]
    · rw [lex_diff c1, lr_ty c1]
  · rw [lex_diff c0, lr_name c0]
theorem key_inj {a b : Rec} (h : key a = key b) : a = b := by
  obtain ⟨n1, t1, l1, m1, h1, x1⟩ := a
  obtain ⟨n2, t2, l2, m2, h2, x2⟩ := b
  simp only [key, Prod.mk.injEq] at h
  obtain ⟨rfl, rfl, rfl, rfl, rfl, rfl⟩ := h
  rfl
theorem key_ord : Ord (lex Ls (lex (fun x y : Int => decide (x < y)) (lex (fun x y : Int => decide (x < y)) (lex Ls (lex (fun x y : ByteArray => bytesLess x.data.toList y.data.toList) (fun x y : Int => decide (x < y))))))) :=
  lex_ord name_ord (lex_ord int_ord (lex_ord int_ord (lex_ord name_ord (lex_ord text_ord int_ord))))
theorem rec_ord : Ord lr :=
  ⟨fun x => by rw [lr_key]; exact key_ord.irr _, fun x y z h k => by rw [lr_key] at h k ⊢; exact key_ord.tr _ _ _ h k, fun x y h k => by rw [lr_key] at k ⊢; exact key_ord.tot _ _ (fun e => h (key_inj e)) k⟩
/-- So it is what a sort asks for, over whatever records. -/
theorem swo {β : Type} (f : β → Rec) : Sort.SWO (fun x y => lr (f x) (f y)) := by
  refine ⟨fun x => rec_ord.irr _, fun x y z h k => rec_ord.tr _ _ _ h k, fun x y z h k => ?_⟩
  cases e : lr (f x) (f z) with
  | false => rfl
  | true =>
    by_cases c : f x = f y
    · rw [c, k] at e
      cases e
    · have h1 := rec_ord.tot _ _ c h
      have h2 := rec_ord.tr _ _ _ h1 e
      rw [k] at h2
      cases h2
end Go.Proofs.YtmkcjjgicinggaaGreatDoor.LessMath
