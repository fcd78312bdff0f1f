/- Plain mathematics: names by their labels: which lie under which, and which is less. Nothing of the program is named here but the seat itself. -/
import Derived.Test.YtmkcjjgicinggaaGreatDoorJoinLab
namespace Go.Proofs.YtmkcjjgicinggaaGreatDoor.NameMath
open Go.Proofs.YtmkcjjgicinggaaGreatDoor.MemS Go.Proofs.YtmkcjjgicinggaaGreatDoor.JoinSpec Go.Proofs.YtmkcjjgicinggaaGreatDoor.Split Go.Proofs.YtmkcjjgicinggaaGreatDoor.JoinLab
open Go.Op (bytesLess)

theorem lab_inj {a b : ByteArray} (h : Lab a = Lab b) : a = b := by rw [← jo_lab a, ← jo_lab b, h]
theorem lab_nil {a : ByteArray} (h : a.size = 0) : Lab a = [] := if_pos h
theorem lab_ne {a : ByteArray} (h : a.size ≠ 0) : Lab a ≠ [] := by
  intro e
  have := lab_list a h
  rw [e] at this
  exact spa_ne _ _ this.symm
theorem spa_more : ∀ (y acc b : List UInt8), spa acc (y ++ 46 :: b) = spa acc y ++ spa [] b
  | [], acc, b => by rw [List.nil_append, spa_dot, spa]; rfl
  | c :: y, acc, b => by
    by_cases hc : c = 46
    · subst hc
      rw [List.cons_append, spa_dot, spa_dot, spa_more y [] b]
      rfl
    · rw [List.cons_append, spa_other _ _ _ hc, spa_other _ _ _ hc, spa_more y _ b]
theorem map_inj : ∀ (x y : List ByteArray), x.map (·.data.toList) = y.map (·.data.toList) → x = y
  | [], [], _ => rfl
  | [], _ :: _, h => by simp at h
  | _ :: _, [], h => by simp at h
  | a :: x, b :: y, h => by
    simp only [List.map_cons, List.cons.injEq] at h
    rw [text_ext h.1, map_inj x y h.2]
theorem same_iff (p q : ByteArray) : (p.data.toList == q.data.toList) = true ↔ p = q :=
  ⟨fun h => text_ext (eq_of_beq h), fun h => by rw [h]; exact beq_self_eq_true _⟩

/-- Whether the second list begins with the first. -/
def pfx : List ByteArray → List ByteArray → Bool
  | [], _ => true
  | _ :: _, [] => false
  | q :: y, p :: x => p.data.toList == q.data.toList && pfx y x
theorem pfx_iff : ∀ (y x : List ByteArray), pfx y x = true ↔ y <+: x
  | [], x => by simp [pfx]
  | q :: y, [] => by simp [pfx]
  | q :: y, p :: x => by
    rw [pfx, Bool.and_eq_true, same_iff, pfx_iff y x, List.cons_prefix_cons]
    exact ⟨fun h => ⟨h.1.symm, h.2⟩, fun h => ⟨h.1.symm, h.2⟩⟩
theorem pfx_long {y x : List ByteArray} (h : x.length < y.length) : pfx y x = false := by
  cases e : pfx y x with
  | false => rfl
  | true =>
    have := ((pfx_iff y x).1 e).length_le
    omega

/-- Whether the labels of b end those of a. A def, so that no step of a walk opens it. -/
def Un (a b : ByteArray) : Bool := pfx (Lab b).reverse (Lab a).reverse
theorem un_iff (a b : ByteArray) : Un a b = true ↔ Lab b <:+ Lab a := by
  rw [Un, pfx_iff, List.reverse_prefix]
theorem un_root {a b : ByteArray} (h : b.size = 0) : Un a b = true := by
  rw [un_iff, lab_nil h]
  exact List.nil_suffix
theorem un_self (a : ByteArray) : Un a a = true := (un_iff a a).2 (List.suffix_refl _)
theorem join_append (X Y : List (List UInt8)) (hx : X ≠ []) (hy : Y ≠ []) : Lib.join (X ++ Y) [46] = Lib.join X [46] ++ 46 :: Lib.join Y [46] := by
  induction X with
  | nil => exact absurd rfl hx
  | cons a X ih =>
    cases X with
    | nil => rw [List.singleton_append, join_more _ _ hy, Lib.join_one]
    | cons b X =>
      rw [List.cons_append, join_more a (b :: X ++ Y) (by simp), ih (by simp), join_more a (b :: X) (by simp)]
      simp
theorem un_else {a b : ByteArray} (hb : b.size ≠ 0) (h : a ≠ b) : Un a b = Lib.hasSuffix a.data.toList (46 :: b.data.toList) := by
  rw [Bool.eq_iff_iff, un_iff, Lib.hasSuffix, List.isSuffixOf_iff_suffix]
  constructor
  · rintro ⟨X, hX⟩
    have hne : X ≠ [] := fun e => h (lab_inj (by rw [← hX, e]; rfl))
    have ha : a.data.toList = jo (X ++ Lab b) := by rw [hX, ← Jo_list, jo_lab]
    have hbj : jo (Lab b) = b.data.toList := by rw [← Jo_list, jo_lab]
    rw [ha, jo, List.map_append, join_append _ _ (by simpa using hne) (by simpa using lab_ne hb)]
    refine ⟨Lib.join (X.map (·.data.toList)) [46], ?_⟩
    rw [← hbj]
    rfl
  · rintro ⟨y, hy⟩
    have hz : a.data.toList.length = a.size := by simp
    have ha : a.size ≠ 0 := by
      rw [← hz, ← hy]
      simp
    have e := spa_more y [] b.data.toList
    rw [hy, ← lab_list a ha, ← lab_list b hb] at e
    refine ⟨(spa [] y).map (fun l => ⟨l.toArray⟩), map_inj _ _ ?_⟩
    rw [List.map_append, List.map_map, e]
    congr 1
    conv => rhs; rw [← List.map_id (spa [] y)]
    exact List.map_congr_left fun l _ => by simp

theorem bl_irr : ∀ x : List UInt8, bytesLess x x = false
  | [] => rfl
  | a :: x => by
    rw [bytesLess, bl_irr x]
    simp
theorem bl_asym : ∀ x y : List UInt8, bytesLess x y = true → bytesLess y x = false
  | _, [], h => by simp [bytesLess] at h
  | [], _ :: _, _ => rfl
  | a :: x, b :: y, h => by
    rw [bytesLess, Bool.or_eq_true, Bool.and_eq_true] at h
    rw [bytesLess, Bool.or_eq_false_iff, Bool.and_eq_false_iff]
    rcases h with h | ⟨h, h'⟩
    · have h := of_decide_eq_true h
      have hn := UInt8.lt_iff_toNat_lt.1 h
      refine ⟨decide_eq_false fun k => ?_, Or.inl (beq_eq_false_iff_ne.2 fun k => ?_)⟩
      · have := UInt8.lt_iff_toNat_lt.1 k
        omega
      · rw [k] at hn
        omega
    · obtain rfl := eq_of_beq h
      refine ⟨decide_eq_false fun k => ?_, Or.inr (bl_asym x y h')⟩
      have := UInt8.lt_iff_toNat_lt.1 k
      omega
theorem bl_tot : ∀ x y : List UInt8, x ≠ y → bytesLess x y = false → bytesLess y x = true
  | [], [], h, _ => absurd rfl h
  | _ :: _, [], _, _ => rfl
  | [], _ :: _, _, h => by simp [bytesLess] at h
  | a :: x, b :: y, h, h' => by
    rw [bytesLess, Bool.or_eq_false_iff, Bool.and_eq_false_iff] at h'
    rw [bytesLess, Bool.or_eq_true, Bool.and_eq_true]
    obtain ⟨h1, h2⟩ := h'
    have h1 := of_decide_eq_false h1
    have hn : ¬ a.toNat < b.toNat := fun k => h1 (UInt8.lt_iff_toNat_lt.2 k)
    by_cases e : a = b
    · subst e
      refine Or.inr ⟨beq_self_eq_true _, bl_tot x y (fun e => h (by rw [e])) (h2.resolve_left (by simp))⟩
    · refine Or.inl (decide_eq_true (UInt8.lt_iff_toNat_lt.2 ?_))
      have : a.toNat ≠ b.toNat := fun k => e (UInt8.toNat_inj.1 k)
      omega

/-- Which of two lists of labels is less, from their heads on. -/
def ln : List ByteArray → List ByteArray → Bool
  | _, [] => false
  | [], _ :: _ => true
  | p :: x, q :: y => if p.data.toList == q.data.toList then ln x y else bytesLess p.data.toList q.data.toList
/-- Which of two names is less. A def, so that no step of a walk opens it. -/
def Ls (a b : ByteArray) : Bool := ln (Lab a).reverse (Lab b).reverse
theorem ln_irr : ∀ x : List ByteArray, ln x x = false
  | [] => rfl
  | p :: x => by rw [ln, if_pos (beq_self_eq_true _), ln_irr x]
theorem ln_asym : ∀ x y : List ByteArray, ln x y = true → ln y x = false
  | _, [], h => by simp [ln] at h
  | [], _ :: _, _ => rfl
  | p :: x, q :: y, h => by
    by_cases e : p = q
    · subst e
      rw [ln, if_pos (beq_self_eq_true _)] at h ⊢
      exact ln_asym x y h
    · rw [ln, if_neg (fun k => e ((same_iff p q).1 k))] at h
      rw [ln, if_neg (fun k => e ((same_iff q p).1 k).symm)]
      exact bl_asym _ _ h
theorem ln_tot : ∀ x y : List ByteArray, x ≠ y → ln x y = false → ln y x = true
  | [], [], h, _ => absurd rfl h
  | _ :: _, [], _, _ => rfl
  | [], _ :: _, _, h => by simp [ln] at h
  | p :: x, q :: y, h, h' => by
    by_cases e : p = q
    · subst e
      rw [ln, if_pos (beq_self_eq_true _)] at h' ⊢
      exact ln_tot x y (fun e => h (by rw [e])) h'
    · rw [ln, if_neg (fun k => e ((same_iff p q).1 k))] at h'
      rw [ln, if_neg (fun k => e ((same_iff q p).1 k).symm)]
      exact bl_tot _ _ (fun k => e (text_ext k)) h'
theorem ln_pfx : ∀ y x : List ByteArray, pfx y x = true → x ≠ y → ln y x = true
  | [], [], _, h => absurd rfl h
  | [], _ :: _, _, _ => rfl
  | _ :: _, [], h, _ => by simp [pfx] at h
  | q :: y, p :: x, h, hn => by
    rw [pfx, Bool.and_eq_true] at h
    obtain rfl := (same_iff p q).1 h.1
    rw [ln, if_pos (beq_self_eq_true _)]
    exact ln_pfx y x h.2 (fun e => hn (by rw [e]))
theorem ls_irr (a : ByteArray) : Ls a a = false := ln_irr _
theorem ls_asym {a b : ByteArray} (h : Ls a b = true) : Ls b a = false := ln_asym _ _ h
theorem ls_tot {a b : ByteArray} (h : a ≠ b) (k : Ls a b = false) : Ls b a = true :=
  ln_tot _ _ (fun e => h (lab_inj (List.reverse_inj.1 e))) k
theorem ls_under {a b : ByteArray} (h : Un a b = true) (k : a ≠ b) : Ls b a = true :=
  ln_pfx _ _ h (fun e => k (lab_inj (List.reverse_inj.1 e)))

theorem rev_drop (L : List ByteArray) (j k : Nat) (h : j + k + 1 = L.length) : L.reverse.drop k = (L[j]'(by omega)) :: L.reverse.drop (k + 1) := by
  rw [List.drop_eq_getElem_cons (by simp; omega), List.getElem_reverse]
  congr 2
  omega
theorem rev_end (L : List ByteArray) (k : Nat) (h : L.length ≤ k) : L.reverse.drop k = [] := List.drop_of_length_le (by simpa using h)
end Go.Proofs.YtmkcjjgicinggaaGreatDoor.NameMath
