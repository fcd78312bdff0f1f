/- Plain mathematics: joining the labels of a text gives the text; the labels of joined labels are these. -/
import Derived.Test.YtmkcjjgicinggaaGreatDoorSplit
import Derived.Test.YtmkcjjgicinggaaGreatDoorLabel
namespace Go.Proofs.YtmkcjjgicinggaaGreatDoor.JoinLab
open Go.Proofs.YtmkcjjgicinggaaGreatDoor.MemS Go.Proofs.YtmkcjjgicinggaaGreatDoor.JoinSpec Go.Proofs.YtmkcjjgicinggaaGreatDoor.Split Go.Proofs.YtmkcjjgicinggaaGreatDoor.Label

theorem join_more (a : List UInt8) (X : List (List UInt8)) (h : X ≠ []) : Lib.join (a :: X) [46] = a ++ 46 :: Lib.join X [46] := by
  cases X with
  | nil => exact absurd rfl h
  | cons y r =>
    rw [Lib.join_cons, Lib.join_cons]
    simp [Lib.joinTail]
theorem spa_ne : ∀ (l acc : List UInt8), spa acc l ≠ []
  | [], acc => by simp [spa]
  | c :: l, acc => by
    unfold spa
    split
    · simp
    · exact spa_ne l _
theorem join_spa : ∀ (l acc : List UInt8), Lib.join (spa acc l) [46] = acc ++ l
  | [], acc => by rw [spa, Lib.join_one, List.append_nil]
  | c :: l, acc => by
    by_cases hc : c = 46
    · subst hc
      rw [spa_dot, join_more _ _ (spa_ne l []), join_spa l []]
      rfl
    · rw [spa_other acc l c hc, join_spa l]
      simp
theorem jo_lab (s : ByteArray) : Jo (Lab s) = s := by
  apply text_ext
  rw [Jo_list]
  by_cases h : s.size = 0
  · have hz : s.data.toList.length = s.size := by simp
    have e : s.data.toList = [] := List.eq_nil_of_length_eq_zero (by omega)
    rw [Lab, if_pos h, e]
    rfl
  · rw [jo, lab_list s h, join_spa, List.nil_append]
theorem no_dot {l : List UInt8} (h : lok l = true) : 46 ∉ l := by
  rw [lok, Bool.and_eq_true] at h
  intro hm
  have := List.all_eq_true.1 h.2 46 hm
  exact absurd this (by decide)
theorem lok_ne {l : List UInt8} (h : lok l = true) : 0 < l.length := by
  rw [lok, Bool.and_eq_true] at h
  have := of_decide_eq_true h.1
  omega
theorem spa_jo : ∀ (L : List ByteArray), L ≠ [] → (∀ x ∈ L, lok x.data.toList = true) → spa [] (jo L) = L.map (·.data.toList)
  | [], h, _ => absurd rfl h
  | [x], _, h => by
    rw [jo, List.map_cons, List.map_nil, Lib.join_one, spa_none _ _ (no_dot (h x (by simp)))]
    rfl
  | x :: y :: r, _, h => by
    have ih := spa_jo (y :: r) (by simp) (fun z hz => h z (by simp at hz ⊢; exact Or.inr hz))
    have e : jo (x :: y :: r) = x.data.toList ++ 46 :: jo (y :: r) := by
      rw [jo, List.map_cons, join_more _ _ (by simp)]
      rfl
    rw [e, spa_some _ _ _ (no_dot (h x (by simp))), ih]
    rfl
theorem lab_jo (L : List ByteArray) (h : ∀ x ∈ L, lok x.data.toList = true) : Lab (Jo L) = L := by
  cases L with
  | nil => rfl
  | cons x r =>
    have hx := lok_ne (h x (by simp))
    have hs : (Jo (x :: r)).size ≠ 0 := by
      rw [Jo_size, jo, List.map_cons, Lib.join_cons, List.length_append]
      omega
    have e : (Lab (Jo (x :: r))).map (·.data.toList) = (x :: r).map (·.data.toList) := by
      rw [lab_list _ hs, Jo_list, spa_jo (x :: r) (by simp) h]
    have inj : ∀ (a b : List ByteArray), a.map (·.data.toList) = b.map (·.data.toList) → a = b := by
      intro a
      induction a with
      | nil => intro b hb; cases b with
        | nil => rfl
        | cons => simp at hb
      | cons p a ih => intro b hb; cases b with
        | nil => simp at hb
        | cons q b =>
          simp only [List.map_cons, List.cons.injEq] at hb
          rw [text_ext hb.1, ih b hb.2]
    exact inj _ _ e
/-- How great the joined text is. -/
theorem jo_short (L : List ByteArray) (n : Nat) (h : ∀ x ∈ L, x.size ≤ n) : (L.map (·.size)).sum ≤ L.length * n := by
  induction L with
  | nil => simp
  | cons x r ih =>
    have h1 := ih (fun y hy => h y (by simp [hy]))
    have h2 := h x (by simp)
    rw [List.map_cons, List.sum_cons, List.length_cons, Nat.add_mul]
    omega
end Go.Proofs.YtmkcjjgicinggaaGreatDoor.JoinLab
