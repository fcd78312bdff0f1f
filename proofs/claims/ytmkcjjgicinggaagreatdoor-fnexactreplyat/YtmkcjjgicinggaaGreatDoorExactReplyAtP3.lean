/- What copyRecords in the program and l7Copy in the model do: a new slice with the same records. Condition: fewer than 400000001 records. -/
import Derived.Test.YtmkcjjgicinggaaGreatDoorExactReplyAtP2
import Derived.Sort.Statements
import Derived.Test.YtmkcjjgicinggaaGreatDoorMemF
import Derived.Test.YtmkcjjgicinggaaGreatDoorExactReplyAtP1
import Derived.Test.YtmkcjjgicinggaaGreatDoorGsSlice
import Derived.Lib.QuietBelow
import Derived.Test.YtmkcjjgicinggaaGreatDoorMemR
import Derived.Test.YtmkcjjgicinggaaGreatDoorCopyR
/- Plain mathematics: the order of records is a strict total order. -/
namespace Go.Proofs.YtmkcjjgicinggaaGreatDoor.LessMath
open Go.Proofs.YtmkcjjgicinggaaGreatDoor.MemS Go.Proofs.YtmkcjjgicinggaaGreatDoor.MemR Go.Proofs.YtmkcjjgicinggaaGreatDoor.Split Go.Proofs.YtmkcjjgicinggaaGreatDoor.NameMath Go.Proofs.YtmkcjjgicinggaaGreatDoor.LessR
open Go.Op (bytesLess)

/-- A strict total order. -/
structure Ord {β : Type} (less : β → β → Bool) : Prop where
  irr : ∀ x, less x x = false
  tr : ∀ x y z, less x y = true → less y z = true → less x z = true
  tot : ∀ x y, x ≠ y → less x y = false → less y x = true
section
variable {β γ : Type} {less : β → β → Bool} {R : γ → γ → Bool}
theorem Ord.asym (h : Ord less) {x y : β} (k : less x y = true) : less y x = false := by
  cases e : less y x with
  | false => rfl
  | true =>
    have := h.tr x y x k e
    rw [h.irr] at this
    cases this
theorem Ord.ne (h : Ord less) {x y : β} (k : less x y = true) : x ≠ y := fun e => by
  subst e
  rw [h.irr] at k
  cases k
/-- By the first, and where those are the same by the second. -/
noncomputable def lex (less : β → β → Bool) (R : γ → γ → Bool) (p q : β × γ) : Bool := @ite _ (p.1 = q.1) (Classical.propDecidable _) (R p.2 q.2) (less p.1 q.1)
theorem lex_same (x : β) (u v : γ) : lex less R (x, u) (x, v) = R u v := @if_pos _ (Classical.propDecidable _) rfl _ _ _
theorem lex_diff {x y : β} (h : x ≠ y) (u v : γ) : lex less R (x, u) (y, v) = less x y := @if_neg _ (Classical.propDecidable _) h _ _ _
theorem lex_ord (A : Ord less) (B : Ord R) : Ord (lex less R) := by
  refine ⟨fun ⟨x, u⟩ => by rw [lex_same]; exact B.irr u, fun ⟨x, u⟩ ⟨y, v⟩ ⟨z, t⟩ h1 h2 => ?_, fun ⟨x, u⟩ ⟨y, v⟩ hn h => ?_⟩
  · by_cases e1 : x = y
    · subst e1
      rw [lex_same] at h1
      by_cases e2 : x = z
      · subst e2
        rw [lex_same] at h2 ⊢
        exact B.tr _ _ _ h1 h2
      · rw [lex_diff e2] at h2 ⊢
        exact h2
    · rw [lex_diff e1] at h1
      by_cases e2 : y = z
      · subst e2
        rw [lex_diff e1]
        exact h1
      · rw [lex_diff e2] at h2
        have h3 := A.tr _ _ _ h1 h2
        rw [lex_diff (A.ne h3)]
        exact h3
  · by_cases e1 : x = y
    · subst e1
      rw [lex_same] at h ⊢
      exact B.tot _ _ (fun e => hn (by rw [e])) h
    · rw [lex_diff e1] at h
      rw [lex_diff (Ne.symm e1)]
      exact A.tot _ _ e1 h
end
theorem int_ord : Ord (fun x y : Int => decide (x < y)) :=
  ⟨fun x => decide_eq_false (by omega), fun x y z h k => decide_eq_true (by have := of_decide_eq_true h; have := of_decide_eq_true k; omega), fun x y h k => decide_eq_true (by have := of_decide_eq_false k; omega)⟩
theorem bl_trans : ∀ x y z : List UInt8, bytesLess x y = true → bytesLess y z = true → bytesLess x z = true
  | _, _, [], _, h => by simp [bytesLess] at h
  | _, [], _ :: _, h, _ => by simp [bytesLess] at h
  | [], _ :: _, _ :: _, _, _ => rfl
  | a :: x, b :: y, c :: z, h, k => by
    rw [bytesLess, Bool.or_eq_true, Bool.and_eq_true] at h k ⊢
    rcases h with h | ⟨h, h'⟩
    · have h := UInt8.lt_iff_toNat_lt.1 (of_decide_eq_true h)
      rcases k with k | ⟨k, k'⟩
      · have k := UInt8.lt_iff_toNat_lt.1 (of_decide_eq_true k)
        exact Or.inl (decide_eq_true (UInt8.lt_iff_toNat_lt.2 (by omega)))
      · obtain rfl := eq_of_beq k
        exact Or.inl (decide_eq_true (UInt8.lt_iff_toNat_lt.2 h))
    · obtain rfl := eq_of_beq h
      rcases k with k | ⟨k, k'⟩
      · exact Or.inl k
      · exact Or.inr ⟨k, bl_trans x y z h' k'⟩
theorem text_ord : Ord (fun x y : ByteArray => bytesLess x.data.toList y.data.toList) :=
  ⟨fun _ => bl_irr _, fun _ _ _ h k => bl_trans _ _ _ h k, fun _ _ h k => bl_tot _ _ (ne_list h) k⟩
theorem ln_trans : ∀ x y z : List ByteArray, ln x y = true → ln y z = true → ln x z = true
  | _, _, [], _, h => by simp [ln] at h
  | _, [], _ :: _, h, _ => by simp [ln] at h
  | [], _ :: _, _ :: _, _, _ => rfl
  | a :: x, b :: y, c :: z, h, k => by
    by_cases e1 : a = b
    · subst e1
      rw [ln, if_pos (beq_self_eq_true _)] at h
      by_cases e2 : a = c
      · subst e2
        rw [ln, if_pos (beq_self_eq_true _)] at k ⊢
        exact ln_trans x y z h k
      · rw [ln, if_neg (fun q => e2 ((same_iff a c).1 q))] at k ⊢
        exact k
    · rw [ln, if_neg (fun q => e1 ((same_iff a b).1 q))] at h
      by_cases e2 : b = c
      · subst e2
        rw [ln, if_neg (fun q => e1 ((same_iff a b).1 q))]
        exact h
      · rw [ln, if_neg (fun q => e2 ((same_iff b c).1 q))] at k
        have h3 := bl_trans _ _ _ h k
        rw [ln, if_neg (fun q => text_ord.ne (x := a) (y := c) h3 ((same_iff a c).1 q))]
        exact h3
theorem name_ord : Ord Ls := ⟨ls_irr, fun _ _ _ h k => ln_trans _ _ _ h k, fun _ _ h k => ls_tot h k⟩
/-- What records are ordered by, in this order. -/
def key (r : Rec) : ByteArray × Int × Int × ByteArray × ByteArray × Int := (r.name, r.ty, r.n, r.host, r.text, r.ttl)
theorem lr_key (a b : Rec) : lr a b = lex Ls (lex (fun x y : Int => decide (x < y)) (lex (fun x y : Int => decide (x < y)) (lex Ls (lex (fun x y : ByteArray => bytesLess x.data.toList y.data.toList) (fun x y : Int => decide (x < y)))))) (key a) (key b) := by
  obtain ⟨n1, t1, l1, m1, h1, x1⟩ := a
  obtain ⟨n2, t2, l2, m2, h2, x2⟩ := b
  unfold key
  by_cases c0 : n1 = n2
  · subst c0
    rw [lex_same]
    by_cases c1 : t1 = t2
    · subst c1
      rw [lex_same]
      by_cases c2 : m1 = m2
      · subst c2
        rw [lex_same]
        by_cases c3 : h1 = h2
        · subst c3
          rw [lex_same]
          by_cases c4 : x1 = x2
          · subst c4
            rw [lex_same, lr_ttl]
          · rw [lex_diff c4, lr_text c4]
        · rw [lex_diff c3, lr_host c3]
      · rw [lex_diff c2, lr_n c2]
    · rw [lex_diff c1, lr_ty c1]
  · rw [lex_diff c0, lr_name c0]
theorem key_inj {a b : Rec} (h : key a = key b) : a = b := by
  obtain ⟨n1, t1, l1, m1, h1, x1⟩ := a
  obtain ⟨n2, t2, l2, m2, h2, x2⟩ := b
  simp only [key, Prod.mk.injEq] at h
  obtain ⟨rfl, rfl, rfl, rfl, rfl, rfl⟩ := h
  rfl
theorem key_ord : Ord (lex Ls (lex (fun x y : Int => decide (x < y)) (lex (fun x y : Int => decide (x < y)) (lex Ls (lex (fun x y : ByteArray => bytesLess x.data.toList y.data.toList) (fun x y : Int => decide (x < y))))))) :=
  lex_ord name_ord (lex_ord int_ord (lex_ord int_ord (lex_ord name_ord (lex_ord text_ord int_ord))))
theorem rec_ord : Ord lr :=
  ⟨fun x => by rw [lr_key]; exact key_ord.irr _, fun x y z h k => by rw [lr_key] at h k ⊢; exact key_ord.tr _ _ _ h k, fun x y h k => by rw [lr_key] at k ⊢; exact key_ord.tot _ _ (fun e => h (key_inj e)) k⟩
/-- So it is what a sort asks for, over whatever records. -/
theorem swo {β : Type} (f : β → Rec) : Sort.SWO (fun x y => lr (f x) (f y)) := by
  refine ⟨fun x => rec_ord.irr _, fun x y z h k => rec_ord.tr _ _ _ h k, fun x y z h k => ?_⟩
  cases e : lr (f x) (f z) with
  | false => rfl
  | true =>
    by_cases c : f x = f y
    · rw [c, k] at e
      cases e
    · have h1 := rec_ord.tot _ _ c h
      have h2 := rec_ord.tr _ _ _ h1 e
      rw [k] at h2
      cases h2
end Go.Proofs.YtmkcjjgicinggaaGreatDoor.LessMath

/- Plain mathematics of a name space: the zone of a name among those that are admitted, the posts, the root's addresses. -/
namespace Go.Proofs.YtmkcjjgicinggaaGreatDoor.ForMath
open Go.RowKit Go.Proofs.YtmkcjjgicinggaaGreatDoor.MemR Go.Proofs.YtmkcjjgicinggaaGreatDoor.MemS Go.Proofs.YtmkcjjgicinggaaGreatDoor.MemF Go.Proofs.YtmkcjjgicinggaaGreatDoor.SetMath Go.Proofs.YtmkcjjgicinggaaGreatDoor.NameMath Go.Proofs.YtmkcjjgicinggaaGreatDoor.Split Go.Proofs.YtmkcjjgicinggaaGreatDoor.LessMath

/-- How many labels. -/
def pts (s : ByteArray) : Nat := (Lab s).length

/-- The i-th text. -/
def txt (ap : List ByteArray) (i : Nat) : ByteArray := ap.getD i ⟨#[]⟩

theorem txt_get {ap : List ByteArray} {i : Nat} (h : i < ap.length) : txt ap i = ap[i] := by simp [txt, h]

/-- The i-th apex has the name, and is admitted. -/
def Cd (nm : ByteArray) (p : ByteArray → Bool) (ap : List ByteArray) (i : Nat) : Prop := Un nm (txt ap i) = true ∧ p (txt ap i) = true

/-- b is the best among the first k: the most labels, the first of several; -1: none. -/
def Bs (nm : ByteArray) (p : ByteArray → Bool) (ap : List ByteArray) (k : Nat) (b : Int) : Prop :=
  (b = -1 ∧ ∀ i, i < k → ¬ Cd nm p ap i) ∨
  ∃ j : Nat, b = (j : Int) ∧ j < k ∧ Cd nm p ap j ∧ (∀ i, i < k → Cd nm p ap i → pts (txt ap i) ≤ pts (txt ap j)) ∧ ∀ i, i < j → Cd nm p ap i → pts (txt ap i) < pts (txt ap j)

section
variable {nm : ByteArray} {p : ByteArray → Bool} {ap : List ByteArray} {k : Nat} {b b' : Int}

theorem bs_zero : Bs nm p ap 0 (-1) := Or.inl ⟨rfl, fun _ h => absurd h (Nat.not_lt_zero _)⟩

theorem bs_skip (h : Bs nm p ap k b) (hc : ¬ Cd nm p ap k) : Bs nm p ap (k + 1) b := by
  rcases h with ⟨h1, h2⟩ | ⟨j, h1, h2, h3, h4, h5⟩
  · exact Or.inl ⟨h1, fun i hi => by rcases Nat.lt_succ_iff_lt_or_eq.1 hi with h | rfl; exact h2 i h; exact hc⟩
  · exact Or.inr ⟨j, h1, by omega, h3, fun i hi c => by rcases Nat.lt_succ_iff_lt_or_eq.1 hi with h | rfl; exact h4 i h c; exact absurd c hc, h5⟩

theorem bs_first (h : Bs nm p ap k b) (hb : b < 0) (hc : Cd nm p ap k) : Bs nm p ap (k + 1) (k : Int) := by
  rcases h with ⟨h1, h2⟩ | ⟨j, h1, _⟩
  · refine Or.inr ⟨k, rfl, by omega, hc, fun i hi c => ?_, fun i hi c => absurd c (h2 i hi)⟩
    rcases Nat.lt_succ_iff_lt_or_eq.1 hi with h | rfl
    · exact absurd c (h2 i h)
    · exact Nat.le_refl _
  · omega

theorem bs_more (h : Bs nm p ap k b) (hb : 0 ≤ b) (hc : Cd nm p ap k) (hl : pts (txt ap b.toNat) < pts (txt ap k)) : Bs nm p ap (k + 1) (k : Int) := by
  rcases h with ⟨h1, h2⟩ | ⟨j, rfl, h2, h3, h4, h5⟩
  · omega
  · rw [Int.toNat_natCast] at hl
    refine Or.inr ⟨k, rfl, by omega, hc, fun i hi c => ?_, fun i hi c => Nat.lt_of_le_of_lt (h4 i hi c) hl⟩
    rcases Nat.lt_succ_iff_lt_or_eq.1 hi with h | rfl
    · exact Nat.le_of_lt (Nat.lt_of_le_of_lt (h4 i h c) hl)
    · exact Nat.le_refl _

theorem bs_less (h : Bs nm p ap k b) (hb : 0 ≤ b) (hl : ¬ pts (txt ap b.toNat) < pts (txt ap k)) : Bs nm p ap (k + 1) b := by
  rcases h with ⟨h1, h2⟩ | ⟨j, rfl, h2, h3, h4, h5⟩
  · omega
  · rw [Int.toNat_natCast] at hl
    refine Or.inr ⟨j, rfl, by omega, h3, fun i hi c => ?_, h5⟩
    rcases Nat.lt_succ_iff_lt_or_eq.1 hi with h | rfl
    · exact h4 i h c
    · omega

theorem bs_one (h : Bs nm p ap k b) (h' : Bs nm p ap k b') : b = b' := by
  rcases h with ⟨h1, h2⟩ | ⟨j, rfl, h2, h3, h4, h5⟩ <;> rcases h' with ⟨g1, g2⟩ | ⟨i, rfl, g2, g3, g4, g5⟩
  · omega
  · exact absurd g3 (h2 i g2)
  · exact absurd h3 (g2 j h2)
  · have e1 := h4 i g2 g3
    have e2 := g4 j h2 h3
    rcases Nat.lt_trichotomy i j with h | rfl | h
    · have := h5 i h g3; omega
    · rfl
    · have := g5 j h h3; omega

theorem bs_bound (h : Bs nm p ap k b) : -1 ≤ b ∧ b < (k : Int) := by
  rcases h with ⟨h1, h2⟩ | ⟨j, rfl, h2, _⟩ <;> omega
end

/-- The zone of a name among those that p admits. -/
noncomputable def zo (nm : ByteArray) (p : ByteArray → Bool) (ap : List ByteArray) : Int := @dite _ (∃ b, Bs nm p ap ap.length b) (Classical.propDecidable _) (fun h => Classical.choose h) (fun _ => -1)

theorem zo_of {nm : ByteArray} {p : ByteArray → Bool} {ap : List ByteArray} {b : Int} (h : Bs nm p ap ap.length b) : zo nm p ap = b := by
  unfold zo
  rw [@dif_pos _ (Classical.propDecidable _) ⟨b, h⟩]
  exact bs_one (Classical.choose_spec (⟨b, h⟩ : ∃ b, Bs nm p ap ap.length b)) h

/-- There is always a best. -/
theorem bs_some (nm : ByteArray) (p : ByteArray → Bool) (ap : List ByteArray) : ∀ k, ∃ b, Bs nm p ap k b
  | 0 => ⟨-1, bs_zero⟩
  | k + 1 => by
    obtain ⟨b, h⟩ := bs_some nm p ap k
    by_cases hc : Cd nm p ap k
    · by_cases hb : b < 0
      · exact ⟨_, bs_first h hb hc⟩
      · by_cases hl : pts (txt ap b.toNat) < pts (txt ap k)
        · exact ⟨_, bs_more h (by omega) hc hl⟩
        · exact ⟨_, bs_less h (by omega) hl⟩
    · exact ⟨_, bs_skip h hc⟩

theorem zo_bs (nm : ByteArray) (p : ByteArray → Bool) (ap : List ByteArray) : Bs nm p ap ap.length (zo nm p ap) := by
  obtain ⟨b, h⟩ := bs_some nm p ap ap.length
  rw [zo_of h]
  exact h

theorem zo_bound (nm : ByteArray) (p : ByteArray → Bool) (ap : List ByteArray) : -1 ≤ zo nm p ap ∧ zo nm p ap < (ap.length : Int) := bs_bound (zo_bs nm p ap)

/-- Of two that have the name, the one with less labels is less. -/
theorem chain {nm a c : ByteArray} (ha : Un nm a = true) (hc : Un nm c = true) (h : Ls a c = true) : pts a < pts c := by
  have h1 := (un_iff _ _).1 ha
  have h2 := (un_iff _ _).1 hc
  unfold pts
  refine Nat.lt_of_not_le fun hle => ?_
  have h3 : Lab c <:+ Lab a := List.suffix_of_suffix_length_le h2 h1 hle
  have h4 : Un a c = true := (un_iff _ _).2 h3
  by_cases e : a = c
  · rw [e, ls_irr] at h; cases h
  · have := ls_under h4 e
    rw [ls_asym h] at this
    cases this

theorem same_pts {nm a c : ByteArray} (ha : Un nm a = true) (hc : Un nm c = true) (h : pts a = pts c) : a = c := by
  have h1 := (un_iff _ _).1 ha
  have h2 := (un_iff _ _).1 hc
  unfold pts at h
  have h3 : Lab c <:+ Lab a := List.suffix_of_suffix_length_le h2 h1 (by omega)
  exact lab_inj (h3.eq_of_length h.symm).symm

/-- Where an apex stands first. -/
def ix (ap : List ByteArray) (a : ByteArray) : Nat := ap.findIdx (fun x => x.data.toList == a.data.toList)

theorem ix_lt {ap : List ByteArray} {a : ByteArray} (h : a ∈ ap) : ix ap a < ap.length := List.findIdx_lt_length_of_exists ⟨a, h, by simp⟩

theorem ix_at {ap : List ByteArray} {a : ByteArray} (h : a ∈ ap) : txt ap (ix ap a) = a := by
  rw [txt_get (ix_lt h)]
  exact (same_iff _ _).1 (List.findIdx_getElem (w := ix_lt h))

theorem ix_before {ap : List ByteArray} {a : ByteArray} {j : Nat} (h : j < ix ap a) : txt ap j ≠ a := by
  intro e
  have hl : j < ap.length := Nat.lt_of_lt_of_le h (List.findIdx_le_length)
  have := List.not_of_lt_findIdx (p := fun x : ByteArray => x.data.toList == a.data.toList) (xs := ap) h
  rw [txt_get hl] at e
  rw [e] at this
  simp at this

theorem ix_new {ap : List ByteArray} {k : Nat} (hk : k < ap.length) (h : ap[k] ∉ ap.take k) : ix ap ap[k] = k := by
  have hm : ap[k] ∈ ap := List.getElem_mem hk
  have h1 := ix_lt hm
  have h2 := ix_at hm
  rw [txt_get h1] at h2
  rcases Nat.lt_trichotomy (ix ap ap[k]) k with h3 | h3 | h3
  · refine absurd ?_ h
    refine List.mem_iff_getElem.2 ⟨ix ap ap[k], by rw [List.length_take]; omega, ?_⟩
    rw [List.getElem_take]
    exact h2
  · exact h3
  · exact absurd (txt_get hk) (ix_before h3)

/-- What the program finds among apexes with their places: none has the name, or one that has it and as many labels as any. -/
def Lw (K : List ByteArray) (v : ByteArray → Int) (nm : ByteArray) (r : Int) : Prop :=
  (r = -1 ∧ ∀ a ∈ K, Un nm a = false) ∨ ∃ c ∈ K, Un nm c = true ∧ r = v c ∧ ∀ a ∈ K, Un nm a = true → pts a ≤ pts c

theorem lw_zo {nm : ByteArray} {p : ByteArray → Bool} {ap K : List ByteArray} {r : Int} (hK : ∀ a, a ∈ K ↔ a ∈ ap ∧ p a = true) (h : Lw K (fun a => (ix ap a : Int)) nm r) : zo nm p ap = r := by
  refine zo_of ?_
  have hin : ∀ i, i < ap.length → p (txt ap i) = true → txt ap i ∈ K := fun i hi hp => (hK _).2 ⟨by rw [txt_get hi]; exact List.getElem_mem hi, hp⟩
  rcases h with ⟨rfl, h⟩ | ⟨c, hc, hu, rfl, hm⟩
  · refine Or.inl ⟨rfl, fun i hi hc => ?_⟩
    have := h _ (hin i hi hc.2)
    rw [hc.1] at this
    cases this
  · obtain ⟨c1, c2⟩ := (hK c).1 hc
    refine Or.inr ⟨ix ap c, rfl, ix_lt c1, ⟨by rw [ix_at c1]; exact hu, by rw [ix_at c1]; exact c2⟩, fun i hi hcd => ?_, fun i hi hcd => ?_⟩
    · rw [ix_at c1]
      exact hm _ (hin i hi hcd.2) hcd.1
    · rw [ix_at c1]
      have h1 := hm _ (hin i (Nat.lt_trans hi (ix_lt c1)) hcd.2) hcd.1
      refine Nat.lt_of_le_of_ne h1 fun e => ?_
      exact ix_before hi (same_pts hcd.1 hu e)

/-- The zone is served at the address. -/
def psd (addr : Int) (ps : List Pst) (a : ByteArray) : Bool := ps.any (fun p => decide (p.addr = addr) && p.apex.data.toList == a.data.toList)

theorem psd_iff {addr : Int} {ps : List Pst} {a : ByteArray} : psd addr ps a = true ↔ ∃ p ∈ ps, p.addr = addr ∧ p.apex = a := by
  unfold psd
  rw [List.any_eq_true]
  refine exists_congr fun p => and_congr_right fun _ => ?_
  rw [Bool.and_eq_true, decide_eq_true_iff, same_iff]

/-- The apexes of the posts at an address that a zone has. -/
noncomputable def pk (ap : List ByteArray) (addr : Int) (ps : List Pst) : List ByteArray := (ps.filter (fun p => @decide (p.apex ∈ ap ∧ p.addr = addr) (Classical.propDecidable _))).map (·.apex)

theorem pk_mem {ap : List ByteArray} {addr : Int} {ps : List Pst} {a : ByteArray} : a ∈ pk ap addr ps ↔ a ∈ ap ∧ psd addr ps a = true := by
  unfold pk
  rw [List.mem_map, psd_iff]
  constructor
  · rintro ⟨p, hp, rfl⟩
    obtain ⟨h1, h2⟩ := List.mem_filter.1 hp
    have h3 := @of_decide_eq_true _ (Classical.propDecidable _) h2
    exact ⟨h3.1, p, h1, h3.2, rfl⟩
  · rintro ⟨h1, p, hp, h2, rfl⟩
    exact ⟨p, List.mem_filter.2 ⟨hp, @decide_eq_true _ (Classical.propDecidable _) ⟨h1, h2⟩⟩, rfl⟩

theorem pk_in {ap : List ByteArray} {addr : Int} {ps : List Pst} (k : Nat) (h : k < ps.length) (hc : ps[k].apex ∈ ap ∧ ps[k].addr = addr) : pk ap addr (ps.take (k + 1)) = pk ap addr (ps.take k) ++ [ps[k].apex] := by
  unfold pk
  rw [filter_take _ _ _ h, List.map_append, if_pos (@decide_eq_true _ (Classical.propDecidable _) hc)]
  rfl

theorem pk_out {ap : List ByteArray} {addr : Int} {ps : List Pst} (k : Nat) (h : k < ps.length) (hc : ¬ (ps[k].apex ∈ ap ∧ ps[k].addr = addr)) : pk ap addr (ps.take (k + 1)) = pk ap addr (ps.take k) := by
  unfold pk
  rw [filter_take _ _ _ h, List.map_append, if_neg (by rw [@decide_eq_false _ (Classical.propDecidable _) hc]; decide), List.map_nil, List.append_nil]
end Go.Proofs.YtmkcjjgicinggaaGreatDoor.ForMath

/- What lowest does: of the names that are keys of a map it finds the one with the most labels that a name is under, and gives its place. Conditions: fewer than 100000001 entries, at most 400000000 bytes in each name; the library's variable internal/bytealg.MaxLen holds an int. -/
namespace Go.Proofs.YtmkcjjgicinggaaGreatDoor.GsLow
open Go.RowKit Go.Sort Go.Proofs.YtmkcjjgicinggaaGreatDoor.Mem Go.Proofs.YtmkcjjgicinggaaGreatDoor.MemS Go.Proofs.YtmkcjjgicinggaaGreatDoor.MapK Go.Proofs.YtmkcjjgicinggaaGreatDoor.Labels Go.Proofs.YtmkcjjgicinggaaGreatDoor.GsDef Go.Proofs.YtmkcjjgicinggaaGreatDoor.GsKeys Go.Proofs.YtmkcjjgicinggaaGreatDoor.NameMath Go.Proofs.YtmkcjjgicinggaaGreatDoor.LessMath Go.Proofs.YtmkcjjgicinggaaGreatDoor.ForMath Go.Proofs.YtmkcjjgicinggaaGreatDoor.KeyT

/-- A text that is not too long. -/
def cut (s : ByteArray) : ByteArray := if s.size ≤ 400000000 then s else ⟨#[]⟩

theorem cut_size (s : ByteArray) : (cut s).size ≤ 400000000 := by
  unfold cut
  split
  · assumption
  · exact Nat.zero_le _

theorem cut_self {s : ByteArray} (h : s.size ≤ 400000000) : cut s = s := if_pos h

/-- How a name lies in a cell. -/
def ec (s : ByteArray) : Value := .string (cut s)

/-- Which of two names is less. -/
def lc (a b : ByteArray) : Bool := Ls (cut a) (cut b)

theorem swo : SWO lc where
  irrefl x := ls_irr _
  trans x y z h k := name_ord.tr _ _ _ h k
  ntrans x y z h k := by
    unfold lc at *
    cases e : Ls (cut x) (cut z) with
    | false => rfl
    | true =>
      by_cases hxy : cut x = cut y
      · rw [← hxy] at k; rw [k] at e; cases e
      · have h1 := ls_tot hxy h
        have h2 := name_ord.tr _ _ _ h1 e
        rw [k] at h2
        cases h2

set_option maxHeartbeats 4000000 in
set_option maxRecDepth 100000 in
theorem less (blk Bs n cap : Nat) (G : Nat → ByteArray) (W : World) (hE : Env W) (hb : W.cell? ⟨Bs, 0, none⟩ = some (.slice (some ⟨blk, 0, none⟩) n cap)) (hc : ∀ t, t < n → W.cell? ⟨blk, t, none⟩ = some (.string (G t))) (hG : ∀ t, (G t).size ≤ 400000000) (i j : Nat) (hi : i < n) (hj : j < n) :
    Calls Tryz.prog 111 #[.int .i64 i, .int .i64 j, .pointer (some ⟨Bs, 0, none⟩)] W fun e w' => e = .returned (.bool (Ls (G i) (G j))) ∧ Below W.heap.size W w' := by
  have mixed : Tryz.prog.follows .mixedOrders = true := by kernel_rfl
  have ci := hc i hi
  have cj := hc j hj
  have HC := Lib.hid (fun (W' : World) (h : Below W.heap.size W W') => Less.impl (G i) (G j) W' (hE.below h) (hG i) (hG j))
  clear hc hG hE
  generalize G i = x at *
  generalize G j = y at *
  go_enter Tryz.func111, Tryz.ntmps111
  go_wp2_with fail
  have x0 : ∀ d os, (Sort.grow (redrawn W d) os).cell? _ = some _ := cell_regrown hb
  have x1 : ∀ d os, (Sort.grow (redrawn W d) os).cell? _ = some _ := cell_regrown ci
  have x2 : ∀ d os, (Sort.grow (redrawn W d) os).cell? _ = some _ := cell_regrown cj
  refine wp_region_quiet_below (by assumption) (by kernel_rfl) ?_
  repeat (quiet_step (first | (go_at_call 112; exact Calls.regrown_of (HC.out _ (below_regrown _ _ _)))))
  refine wpQuiet_nil ?_
  intro w2 hw2
  have L2 := Lib.hid (show Below W.heap.size W w2 by obtain ⟨p, rfl⟩ := hw2; exact below_regrown _ _ _)
  clear hw2 x0 x1 x2
  go_wp2
  go_ret
  exact ⟨rfl, L2.out⟩

theorem Env.of_grown {w w' : World} {r : Option Nat} (h : Env w) (hg : w.grownBy w' r) (hn : some 0 ≠ r) : Env w' := by
  obtain ⟨m, hm⟩ := h
  exact ⟨m, hg.cell hm hn⟩

/-- What the loop has found among the first k. -/
def LwP (G : Nat → ByteArray) (k : Nat) (v : ByteArray → Int) (nm : ByteArray) (r : Int) : Prop :=
  (r = -1 ∧ ∀ i, i < k → Un nm (G i) = false) ∨ ∃ j, j < k ∧ Un nm (G j) = true ∧ r = v (G j) ∧ ∀ i, j < i → i < k → Un nm (G i) = false

section
variable {G : Nat → ByteArray} {k n : Nat} {v : ByteArray → Int} {nm : ByteArray} {r : Int} {K : List ByteArray}
theorem lwp_zero : LwP G 0 v nm (-1) := Or.inl ⟨rfl, fun _ h => absurd h (Nat.not_lt_zero _)⟩

theorem lwp_hit (h : Un nm (G k) = true) : LwP G (k + 1) v nm (v (G k)) := Or.inr ⟨k, Nat.lt_succ_self _, h, rfl, fun _ h1 h2 => by omega⟩

theorem lwp_skip (hp : LwP G k v nm r) (h : Un nm (G k) = false) : LwP G (k + 1) v nm r := by
  rcases hp with ⟨h1, h2⟩ | ⟨j, h1, h2, h3, h4⟩
  · exact Or.inl ⟨h1, fun i hi => by rcases Nat.lt_succ_iff_lt_or_eq.1 hi with h' | rfl; exact h2 i h'; exact h⟩
  · exact Or.inr ⟨j, by omega, h2, h3, fun i hi hk => by rcases Nat.lt_succ_iff_lt_or_eq.1 hk with h' | rfl; exact h4 i hi h'; exact h⟩

theorem lwp_end (hK : ∀ a, a ∈ K ↔ ∃ t, t < n ∧ G t = a) (hinj : ∀ i j, i < n → j < n → G i = G j → i = j) (hs : ∀ i j, i < j → j < n → Ls (G j) (G i) = false) (h : LwP G n v nm r) : Lw K v nm r := by
  rcases h with ⟨h1, h2⟩ | ⟨j, h1, h2, h3, h4⟩
  · refine Or.inl ⟨h1, fun a ha => ?_⟩
    obtain ⟨t, ht, rfl⟩ := (hK a).1 ha
    exact h2 t ht
  · refine Or.inr ⟨G j, (hK _).2 ⟨j, h1, rfl⟩, h2, h3, fun a ha hu => ?_⟩
    obtain ⟨t, ht, rfl⟩ := (hK a).1 ha
    rcases Nat.lt_trichotomy t j with hlt | rfl | hgt
    · have h5 := hs t j hlt h1
      have hne : G j ≠ G t := fun e => by have := hinj j t h1 ht e; omega
      exact Nat.le_of_lt (chain hu h2 (ls_tot hne h5))
    · exact Nat.le_refl _
    · rw [h4 t hgt ht] at hu
      cases hu
end

/-- The entries of a map from names to places. -/
def en (K : List ByteArray) (v : ByteArray → Int) : List (Value × Value) := K.map fun a => (.string a, .int .i64 (v a))

theorem en_key (K : List ByteArray) (v : ByteArray → Int) : ∀ p ∈ en K v, KS p.1 := by
  intro p hp
  obtain ⟨a, _, rfl⟩ := List.mem_map.1 hp
  exact ⟨a, rfl⟩

theorem en_nodup {K : List ByteArray} {v : ByteArray → Int} (h : K.Nodup) : ((en K v).map Prod.fst).Nodup := by
  unfold en
  rw [List.map_map]
  exact List.pairwise_map.2 (h.imp fun h e => h (by simpa using e))

theorem en_in {K : List ByteArray} {v : ByteArray → Int} {a : ByteArray} (h : a ∈ K) : (.string a, .int .i64 (v a)) ∈ en K v := List.mem_map.2 ⟨a, h, rfl⟩

theorem en_out {K : List ByteArray} {v : ByteArray → Int} {a : ByteArray} (h : a ∉ K) : ∀ p ∈ en K v, p.1 ≠ .string a := by
  intro p hp e
  obtain ⟨b, hb, rfl⟩ := List.mem_map.1 hp
  simp only [Value.string.injEq] at e
  exact h (e ▸ hb)

set_option maxHeartbeats 8000000 in
set_option maxRecDepth 100000 in
theorem low (nm : ByteArray) (b : Nat) (K : List ByteArray) (v : ByteArray → Int) (w : World) (he : Env w) (h : Mp w b (en K v)) (nd : K.Nodup) (hz : ∀ a ∈ K, a.size ≤ 400000000) (hl : K.length ≤ 100000000) (hnm : nm.size ≤ 400000000) :
    Calls Tryz.prog 50 #[.map (some b), .string nm] w fun e w' => ∃ r : Int, e = .returned (.int .i64 r) ∧ Lw K v nm r ∧ Below w.heap.size w w' := by
  have HKe := Lib.hid (keys (some b) w)
  have L1 : Hid (Below w.heap.size w (w.alloc (.cells #[.map (some b)] 84))) := (Below.refl _ _).alloc (Nat.le_refl _) _
  have M1 := Lib.hid (h.alloc (.cells #[.map (some b)] 84))
  have HCo := Lib.hid (collect (Bm := w.heap.size) (v := fun a => .int .i64 (v a)) M1.out nd hz hl (by simp))
  have HE := Lib.hid he
  have ND := Lib.hid nd
  have HZ := Lib.hid hz
  have EK := Lib.hid (en_key K v)
  have EN := Lib.hid (en_nodup (v := v) nd)
  have hbw := h.lt
  have HN := Lib.hid hnm
  clear h he nd hz hnm
  go_enter Tryz.func50, Tryz.ntmps50
  go_wp2_with fail
  refine HKe.out.mono ?_
  rintro e w1 ⟨rfl, rfl⟩
  go_wp2_with fail
  refine HCo.out.mono ?_
  rintro e w2 ⟨x, L, rfl, hperm, ⟨hrow, _⟩, hl2⟩
  have L2 := Lib.hid (L1.out.trans (hl2.mono L1.out.size))
  have M2 := Lib.hid (M1.out.below hl2 M1.out.lt)
  have hL : L.length ≤ 100000000 := by rw [hperm.length_eq]; exact hl
  have hlow : w.heap.size < w2.heap.size := Nat.lt_of_lt_of_le (by simp) hl2.size
  clear HKe HCo L1 M1
  rcases hrow.2 with ⟨rfl, h0⟩ | ⟨g, cap, cur, rfl, hg, hgg, hcap, _, hcs, htk⟩
  · obtain rfl : L = [] := List.eq_nil_of_length_eq_zero h0
    obtain rfl : K = [] := hperm.nil_eq.symm
    clear hperm hrow hl2 h0
    have C := Lib.hid (GsSlice.none_nil (.func 111) #[] #[.pointer (some ⟨w2.heap.size, 0, none⟩)])
    have B3 : Hid (Bk (w2.alloc (.cells #[.slice none 0 0] 39)) w2.heap.size 39 [.slice none 0 0]) := heap_alloc_new w2 _
    have L3 := Lib.hid (L2.out.alloc L2.out.size (.cells #[.slice none 0 0] 39))
    go_upto_region 2 with (fail)
    generalize w2.alloc (.cells #[.slice none 0 0] 39) = w3 at *
    have c0 : w3.cell? ⟨w2.heap.size, 0, none⟩ = some (.slice none 0 0) := B3.out.cell 0
    go_wp2_with fail
    refine (C.out w3).mono ?_
    rintro e w4 ⟨rfl, hl4⟩
    have L4 := Lib.hid (L3.out.trans (hl4.mono L3.out.size))
    have B5 := Lib.hid (B3.out.below hl4 B3.out.lt)
    clear hl4 c0 L3 B3 C
    have c0 : w4.cell? ⟨w2.heap.size, 0, none⟩ = some (.slice none 0 0) := B5.out.cell 0
    go_wp2
    go_loop [6, 18] (fun a i => a = .int .i64 (-1) ∧ i = .int .i64 0) (fun _ _ => 0)
    case atStart => exact ⟨rfl, rfl⟩
    case round =>
      obtain ⟨rfl, rfl⟩ := hrel
      go_wp2
      go_ret
      exact ⟨-1, rfl, Or.inl ⟨rfl, fun a ha => by cases ha⟩, L4.out⟩
  · obtain ⟨r, hb0, _, _⟩ := bk_of_owns hrow
    have HPm := Lib.hid hperm
    have hgw : w.heap.size + 1 ≤ g := by simpa using hg
    have hg2 : g < w2.heap.size := hb0.lt
    clear hrow hg hgg hcap hcs htk hperm hl2
    generalize hn : L.length = n at *
    have HLn := Lib.hid hn
    clear hn
    have B3 : Hid (Bk (w2.alloc (.cells #[.slice (some ⟨g, 0, none⟩) n cap] 39)) w2.heap.size 39 [.slice (some ⟨g, 0, none⟩) n cap]) := heap_alloc_new w2 _
    have R3 := Lib.hid (hb0.alloc (.cells #[.slice (some ⟨g, 0, none⟩) n cap] 39))
    have L3 := Lib.hid (L2.out.alloc L2.out.size (.cells #[.slice (some ⟨g, 0, none⟩) n cap] 39))
    have M3 := Lib.hid (M2.out.alloc (.cells #[.slice (some ⟨g, 0, none⟩) n cap] 39))
    clear hb0 L2 M2
    go_upto_region 2 with (fail)
    generalize w2.alloc (.cells #[.slice (some ⟨g, 0, none⟩) n cap] 39) = w3 at *
    have HE3 := Lib.hid ((show Env w3 from by obtain ⟨m, hm⟩ := HE.out; exact ⟨m, (L3.out.cell (p := ⟨0, 0, none⟩) (World.block_lt_of_cell? _ _ hm)).trans hm⟩))
    have NG : Hid (some w2.heap.size ≠ some g) := fun e => by have := Option.some.inj e; omega
    have hH : Holds ec w3 g 0 L.toArray := fun j hj => by
      have hj' : j < L.length := by simpa using hj
      have hm : L[j] ∈ K := HPm.out.subset (List.getElem_mem hj')
      refine ⟨?_, R3.out.free _⟩
      rw [Nat.zero_add, R3.out.cell, List.getElem?_append_left (by simpa using hj'), tv_get L j hj', getElem!_pos L.toArray j hj, List.getElem_toArray]
      unfold ec
      rw [cut_self (HZ.out _ hm)]
    have hLs : Lss Tryz.prog 111 #[.pointer (some ⟨w2.heap.size, 0, none⟩)] ec lc g 0 L.toArray.size w3 := fun W dk S hs i j hi hj => by
      have hs' : L.toArray.size = n := by simpa using HLn.out
      have hE' : Env W := Env.of_grown HE3.out S.1.1 (fun e => by have := Option.some.inj e; omega)
      have h := less g w2.heap.size n cap (fun t => cut dk[t]!) W hE' (S.1.1.cell (B3.out.cell 0) NG.out) (fun t ht => by have := (S.1.2 t (by omega)).1; rw [Nat.zero_add] at this; exact this) (fun t => cut_size _) i j (by omega) (by omega)
      exact h
    have hS := GsSlice.slice ec (fun _ => rfl) lc swo 111 #[.pointer (some ⟨w2.heap.size, 0, none⟩)] (enters_of Tryz.func111 (by kernel_rfl) rfl) g 0 cap L.toArray (by have := HLn.out; simp; omega) w3 hH R3.out.lt hLs
    rw [show L.toArray.size = n by simpa using HLn.out] at hS
    have C := Lib.hid hS
    clear hS hLs hH
    have c0 : w3.cell? ⟨w2.heap.size, 0, none⟩ = some (.slice (some ⟨g, 0, none⟩) n cap) := B3.out.cell 0
    go_wp2_with fail
    refine C.out.mono ?_
    rintro e w4 ⟨rfl, d', hpm, hso, hst⟩
    have hds : d'.size = n := by rw [hpm.1]; simpa using HLn.out
    have hpl : d'.toList.Perm L := by
      have := hpm.2.2
      rw [Array.extract_eq_self_of_le (by omega), Array.extract_eq_self_of_le (by have := HLn.out; simp; omega)] at this
      exact this
    have hcut : ∀ t, t < n → cut d'[t]! = d'[t]! ∧ d'[t]! ∈ K := fun t ht => by
      have hm : d'[t]! ∈ K := HPm.out.subset (hpl.subset (by rw [getElem!_pos d' t (by omega)]; simp))
      exact ⟨cut_self (HZ.out _ hm), hm⟩
    have hK : Hid (∀ a, a ∈ K ↔ ∃ t, t < n ∧ cut d'[t]! = a) := fun a => by
      constructor
      · intro ha
        have := (hpl.trans HPm.out).symm.subset ha
        obtain ⟨t, ht, e⟩ := List.getElem_of_mem this
        have ht' : t < d'.size := by simpa using ht
        refine ⟨t, by omega, ?_⟩
        rw [(hcut t (by omega)).1, getElem!_pos d' t ht']
        simpa using e
      · rintro ⟨t, ht, rfl⟩
        rw [(hcut t ht).1]
        exact (hcut t ht).2
    have hinj : Hid (∀ i j, i < n → j < n → cut d'[i]! = cut d'[j]! → i = j) := fun i j hi hj e => by
      rw [(hcut i hi).1, (hcut j hj).1, getElem!_pos d' i (by omega), getElem!_pos d' j (by omega)] at e
      have hnd : d'.toList.Nodup := (hpl.trans HPm.out).nodup_iff.2 ND.out
      exact nodup_inj hnd (a := d'[i]'(by omega)) (by simp [show i < d'.size by omega]) (by simp [show j < d'.size by omega, e])
    have hsorted : Hid (∀ i j, i < j → j < n → Ls (cut d'[j]!) (cut d'[i]!) = false) := fun i j hij hj => hso i j (Nat.zero_le _) hij hj
    have HC4 : Hid (∀ t, t < n → w4.cell? ⟨g, t, none⟩ = some (.string (cut d'[t]!))) := fun t ht => by
      have := (hst.1.2 t (by omega)).1
      rw [Nat.zero_add] at this
      exact this
    have B4 := Lib.hid (hst.1.1.cell (B3.out.cell 0) NG.out)
    have M4 := Lib.hid (M3.out.grown hst.1.1 (fun e => by have := Option.some.inj e; omega))
    have L4 := Lib.hid (L3.out.grown hst.1.1 L3.out.size (fun j hj => by cases hj; omega))
    have HIN : Hid (∀ t, t < n → cut d'[t]! ∈ K) := fun t ht => (hK.out _).2 ⟨t, ht, rfl⟩
    have HS1 : Hid (∀ t : Nat, (cut d'[t]!).size ≤ 400000000) := fun t => cut_size _
    clear hpm hso hst hds hpl hcut C c0 L3 M3 B3 R3 HE3
    obtain ⟨G, hG⟩ : ∃ G : Nat → ByteArray, ∀ t : Nat, cut d'[t]! = G t := ⟨fun t => cut d'[t]!, fun _ => rfl⟩
    simp only [hG] at hK hinj hsorted HC4 HIN HS1
    clear hG
    have c0 := B4.out
    go_wp2
    go_loop [6, 18] (fun a i => ∃ (k : Nat) (r : Int), k ≤ n ∧ i = .int .i64 k ∧ a = .int .i64 r ∧ Hid (LwP G k v nm r)) (fun _ i => n - (intOf i).toNat)
    case atStart => exact ⟨0, -1, Nat.zero_le _, rfl, rfl, lwp_zero⟩
    case round =>
      obtain ⟨k, r, hk, rfl, rfl, HLW⟩ := hrel
      by_cases hlt : k < n
      · have c1 := HC4.out k hlt
        have C := Lib.hid (UnderImpl.impl nm (G k) w4 HN.out (HS1.out k))
        cases hu : Un nm (G k) with
        | true =>
          rw [hu] at C
          have LK : Hid ((Instr.lookup 84 (.map (some b)) (.string (G k)) false).run Tryz.prog w4 = .ok (.int .i64 (v (G k))) w4) := M4.out.in KeyT.strings Tryz.underlying84 EK.out EN.out ⟨G k, rfl⟩ (en_in (HIN.out k hlt)) false
          have HLW2 := Lib.hid (lwp_hit (v := v) hu)
          clear hu
          generalize G k = a at *
          go_wp2_with fail
          refine C.out.mono ?_
          rintro e w5 ⟨rfl, rfl⟩
          go_wp2_with (at_lookup; refine wp_look rfl _ _ false rfl (.string a) (.int .i64 (v a)) rfl rfl LK.out ?_)
          go_roundw
          case rel => exact ⟨k + 1, v a, by omega, by go_num, rfl, HLW2.out⟩
          case measure => (simp [intOf] <;> omega)
        | false =>
          rw [hu] at C
          have HLW2 := Lib.hid (lwp_skip HLW.out hu)
          clear hu
          generalize G k = a at *
          go_wp2_with fail
          refine C.out.mono ?_
          rintro e w5 ⟨rfl, rfl⟩
          go_wp2
          go_roundw
          case rel => exact ⟨k + 1, r, by omega, by go_num, rfl, HLW2.out⟩
          case measure => (simp [intOf] <;> omega)
      · obtain rfl : n = k := by omega
        go_wp2
        go_ret
        exact ⟨r, rfl, lwp_end hK.out hinj.out hsorted.out HLW.out, L4.out⟩
end Go.Proofs.YtmkcjjgicinggaaGreatDoor.GsLow

/- What zonesByApex, zonesAt, ZoneOf and ZoneAt do in the program: a map from the apexes to their places; the zone of a name, of those served at an address. Conditions: fewer than 100000001 zones and posts, at most 400000000 bytes in each name; the library's variable internal/bytealg.MaxLen holds an int. -/
namespace Go.Proofs.YtmkcjjgicinggaaGreatDoor.ZonI
open Go.RowKit Go.Proofs.YtmkcjjgicinggaaGreatDoor.Mem Go.Proofs.YtmkcjjgicinggaaGreatDoor.MemR Go.Proofs.YtmkcjjgicinggaaGreatDoor.MemS Go.Proofs.YtmkcjjgicinggaaGreatDoor.MemZ Go.Proofs.YtmkcjjgicinggaaGreatDoor.MemF Go.Proofs.YtmkcjjgicinggaaGreatDoor.MapK Go.Proofs.YtmkcjjgicinggaaGreatDoor.Labels Go.Proofs.YtmkcjjgicinggaaGreatDoor.SetMath Go.Proofs.YtmkcjjgicinggaaGreatDoor.NameMath Go.Proofs.YtmkcjjgicinggaaGreatDoor.ForMath Go.Proofs.YtmkcjjgicinggaaGreatDoor.KeyT Go.Proofs.YtmkcjjgicinggaaGreatDoor.GsLow

/-- The place of an apex. -/
def pl (zs : List Zn) (a : ByteArray) : Int := (ix (aps zs) a : Nat)

theorem aps_len (zs : List Zn) : (aps zs).length = zs.length := List.length_map _

theorem aps_at (zs : List Zn) (k : Nat) (h : k < zs.length) (h' : k < (aps zs).length) : (aps zs)[k] = zs[k].apex := by simp [aps]

theorem zero (w : World) : (zeroValue 3).run Tryz.prog w = .ok (.int .i64 0) w := by kernel_rfl

theorem en_snoc (K : List ByteArray) (v : ByteArray → Int) (a : ByteArray) : en (K ++ [a]) v = en K v ++ [(.string a, .int .i64 (v a))] := by simp [en]

theorem en_at {K : List ByteArray} {v : ByteArray → Int} {j : Nat} {a : ByteArray} (h : K[j]? = some a) : (en K v)[j]? = some (.string a, .int .i64 (v a)) := by
  unfold en
  rw [List.getElem?_map, h]
  rfl

theorem uq_step (ap : List ByteArray) (k : Nat) (h : k < ap.length) (x : ByteArray) (hx : ap[k] = x) : (x ∈ uq (ap.take k) → uq (ap.take (k + 1)) = uq (ap.take k)) ∧ (x ∉ uq (ap.take k) → uq (ap.take (k + 1)) = uq (ap.take k) ++ [x] ∧ ix ap x = k) := by
  rw [uq_take ap k h, hx]
  refine ⟨fun hm => add_in hm, fun hm => ⟨add_out hm, ?_⟩⟩
  rw [← hx]
  exact ix_new h (by rw [hx]; exact fun e => hm (mem_uq.2 e))

set_option maxHeartbeats 8000000 in
set_option maxRecDepth 100000 in
theorem byApex (own : Prop) (A : Option Addr) (n c : Nat) (zs : List Zn) (P : Option Addr) (m d : Nat) (w : World) (hs : Rz own w w.heap.size A n zs) (hn : n ≤ 100000000) :
    Calls Tryz.prog 51 #[.agg #[.slice A n c, .slice P m d]] w fun e w' => ∃ b, e = .returned (.map (some b)) ∧ w.heap.size ≤ b ∧ Mp w' b (en (uq (aps zs)) (pl zs)) ∧ Below w.heap.size w w' := by
  have HS := Lib.hid hs
  have hmm := @run_makeMap Tryz.prog
  clear hs
  have X0 := Lib.hid ((fx_new w 27 (.slice A n c) (.slice P m d)).alloc (.map #[] 0))
  have L0 := Lib.hid (((Below.refl w.heap.size w).alloc (Nat.le_refl _) (.cells #[.slice A n c, .slice P m d] 27)).alloc (by simp) (.map #[] 0))
  have hz1 : (w.alloc (.cells #[.slice A n c, .slice P m d] 27)).heap.size = w.heap.size + 1 := by simp
  have M0 := Lib.hid (Mp.made (w.alloc (.cells #[.slice A n c, .slice P m d] 27)))
  rw [hz1] at M0
  clear hz1
  go_enter Tryz.func51, Tryz.ntmps51
  go_upto_region 2 with (fail)
  generalize (w.alloc (.cells #[.slice A n c, .slice P m d] 27)).alloc (.map #[] 0) = w1 at *
  obtain ⟨x0, x1⟩ := X0.out
  go_wp2
  go_loopw [12] (fun i wr => ∃ k : Nat, k ≤ n ∧ i = .int .i64 k ∧ Hid (Mp wr (w.heap.size + 1) (en (uq ((aps zs).take k)) (pl zs))) ∧ Hid (Below w.heap.size w wr)) (fun i _ => n - (intOf i).toNat)
  case atStart => exact ⟨0, Nat.zero_le _, rfl, M0.out, L0.out⟩
  case round =>
    clear M0 L0 X0 x0 x1
    obtain ⟨k, hk, rfl, HM, HL⟩ := hrel
    by_cases hlt : k < n
    · obtain ⟨b, off, rfl, hbB, hcs⟩ := HS.out.2 (by omega)
      have hkl : k < zs.length := by rw [HS.out.1]; exact hlt
      have hka : k < (aps zs).length := by rw [aps_len]; exact hkl
      obtain ⟨e0, A1, n1, c1, e1, _, _⟩ := (hcs k hkl).below HL.out hbB
      obtain ⟨u1, u2⟩ := uq_step (aps zs) k hka zs[k].apex (aps_at zs k hkl hka)
      have U1 := Lib.hid u1
      have U2 := Lib.hid u2
      clear hcs u1 u2
      generalize zs[k] = z at *
      have MA := Lib.hid (HM.out.alloc (.cells #[.string z.apex, .slice A1 n1 c1] 37))
      have LA := Lib.hid (HL.out.alloc HL.out.size (.cells #[.string z.apex, .slice A1 n1 c1] 37))
      have XB := Lib.hid (fx_new wr 37 (.string z.apex) (.slice A1 n1 c1))
      have EK := Lib.hid (en_key (uq ((aps zs).take k)) (pl zs))
      have EN := Lib.hid (en_nodup (v := pl zs) (nodup_uq ((aps zs).take k)))
      have KX : Hid (KS (.string z.apex)) := ⟨z.apex, rfl⟩
      clear HM HL
      go_upto_region 5 with (fail)
      generalize wr.alloc (.cells #[.string z.apex, .slice A1 n1 c1] 37) = w2 at *
      obtain ⟨b0, b1⟩ := XB.out
      by_cases hin : z.apex ∈ uq ((aps zs).take k)
      · have HU := Lib.hid (U1.out hin)
        have LK : Hid ((Instr.lookup 84 (.map (some (w.heap.size + 1))) (.string z.apex) true).run Tryz.prog w2 = .ok (.tuple #[.int .i64 (pl zs z.apex), .bool true]) w2) := MA.out.in KeyT.strings Tryz.underlying84 EK.out EN.out KX.out (en_in hin) true
        clear hin U1 U2
        go_wp2_with (at_lookup; refine wp_look rfl _ _ true rfl (.string z.apex) (.tuple #[.int .i64 (pl zs z.apex), .bool true]) rfl rfl LK.out ?_)
        go_roundw
        case rel => exact ⟨k + 1, by omega, by go_num, by rw [HU.out]; exact MA.out, LA.out⟩
        case measure => (simp [intOf] <;> omega)
      · have HU := Lib.hid (U2.out hin).1
        have HX := Lib.hid (U2.out hin).2
        have LK : Hid ((Instr.lookup 84 (.map (some (w.heap.size + 1))) (.string z.apex) true).run Tryz.prog w2 = .ok (.tuple #[.int .i64 0, .bool false]) w2) := MA.out.out KeyT.strings Tryz.underlying84 (zero _) EK.out KX.out (en_out hin) true
        have ST := Lib.hid (MA.out.new KeyT.strings Tryz.underlying84 EK.out (.int .i64 k) KX.out (en_out hin))
        clear hin U1 U2
        go_wp2_with (first | (at_lookup; refine wp_look rfl _ _ true rfl (.string z.apex) (.tuple #[.int .i64 0, .bool false]) rfl rfl LK.out ?_) | (at_mapUpdate; refine wp_store rfl _ _ _ rfl (.string z.apex) (.int .i64 k) rfl rfl rfl (en (uq ((aps zs).take k)) (pl zs) ++ [(.string z.apex, .int .i64 k)]) ST.out ?_))
        intro w3 m3 g3 s3
        have M3 := Lib.hid m3
        have L3 := Lib.hid (LA.out.grown g3 LA.out.size (fun j hj => by cases hj; omega))
        clear LK ST m3 g3 s3 MA LA b0 b1
        go_wp2
        go_roundw
        case rel =>
          refine ⟨k + 1, by omega, by go_num, ?_, L3.out⟩
          show Mp _ _ _
          rw [HU.out, en_snoc, show pl zs z.apex = (k : Int) by unfold pl; rw [HX.out]]
          exact M3.out
        case measure => (simp [intOf] <;> omega)
    · obtain rfl : n = k := by omega
      have HT := Lib.hid (take_all (n := n) (l := aps zs) (by rw [aps_len]; exact HS.out.1))
      go_wp2
      go_ret
      exact ⟨_, rfl, by omega, by have := HM.out; rw [HT.out] at this; exact this, HL.out⟩

theorem pl_all (zs : List Zn) {own : Prop} {w : World} {B n : Nat} {A : Option Addr} (h : Rz own w B A n zs) : (uq (aps zs)).length ≤ n := by
  have := len_uq (aps zs)
  rw [aps_len] at this
  rw [← h.1]
  exact this

theorem ap_mem {zs : List Zn} {a : ByteArray} (h : a ∈ aps zs) : ∃ z ∈ zs, z.apex = a := by
  obtain ⟨z, hz, e⟩ := List.mem_map.1 h
  exact ⟨z, hz, e⟩

set_option maxHeartbeats 4000000 in
set_option maxRecDepth 100000 in
/-- ZoneOf. -/
theorem zoneOf (own : Prop) (A : Option Addr) (n c : Nat) (zs : List Zn) (P : Option Addr) (m d : Nat) (nm : ByteArray) (w : World) (he : Env w) (hs : Rz own w w.heap.size A n zs) (hn : n ≤ 100000000) (hz : ∀ z ∈ zs, z.apex.size ≤ 400000000) (hnm : nm.size ≤ 400000000) :
    Calls Tryz.prog 10 #[.agg #[.slice A n c, .slice P m d], .string nm] w fun e w' => e = .returned (.int .i64 (zo nm (fun _ => true) (aps zs))) ∧ Below w.heap.size w w' := by
  have X0 := Lib.hid (fx_new w 27 (.slice A n c) (.slice P m d))
  have L0 := Lib.hid ((Below.refl w.heap.size w).alloc (Nat.le_refl _) (.cells #[.slice A n c, .slice P m d] 27))
  have C1 := Lib.hid (byApex own A n c zs P m d _ (hs.on L0.out) hn)
  have C2 := Lib.hid (fun b W hE h => low nm b (uq (aps zs)) (pl zs) W hE h (nodup_uq _) (fun a ha => by obtain ⟨z, hz', rfl⟩ := ap_mem (mem_uq.1 ha); exact hz z hz') (by have := pl_all zs hs; omega) hnm)
  have HE := Lib.hid he
  clear hs he hz
  obtain ⟨x0, x1⟩ := X0.out
  go_enter Tryz.func10, Tryz.ntmps10
  go_wp2_with fail
  refine C1.out.mono ?_
  rintro e w1 ⟨b, rfl, hb, hm, hl⟩
  have M1 := Lib.hid hm
  have L1 := Lib.hid (L0.out.trans (hl.mono L0.out.size))
  clear hm hl hb x0 x1 L0 X0
  go_wp2_with fail
  refine (C2.out b w1 (HE.out.below L1.out) M1.out).mono ?_
  rintro e w2 ⟨r, rfl, hr, hl⟩
  have HR := Lib.hid (lw_zo (nm := nm) (p := fun _ => true) (ap := aps zs) (fun a => by rw [mem_uq]; simp) hr)
  have L2 := Lib.hid (L1.out.trans (hl.mono L1.out.size))
  clear hr hl
  go_wp2
  go_ret
  exact ⟨by rw [HR.out]; rfl, L2.out⟩

theorem pk_step (ap : List ByteArray) (addr : Int) (ps : List Pst) (k : Nat) (h : k < ps.length) : (ps[k].apex ∈ ap ∧ ps[k].addr = addr → (ps[k].apex ∈ uq (pk ap addr (ps.take k)) → uq (pk ap addr (ps.take (k + 1))) = uq (pk ap addr (ps.take k))) ∧ (ps[k].apex ∉ uq (pk ap addr (ps.take k)) → uq (pk ap addr (ps.take (k + 1))) = uq (pk ap addr (ps.take k)) ++ [ps[k].apex])) ∧
    (¬ (ps[k].apex ∈ ap ∧ ps[k].addr = addr) → pk ap addr (ps.take (k + 1)) = pk ap addr (ps.take k)) := by
  refine ⟨fun hc => ⟨fun hm => ?_, fun hm => ?_⟩, fun hc => pk_out k h hc⟩
  · rw [pk_in k h hc, uq_snoc, add_in hm]
  · rw [pk_in k h hc, uq_snoc, add_out hm]

set_option maxHeartbeats 16000000 in
set_option maxRecDepth 100000 in
theorem at_ (own : Prop) (A : Option Addr) (n c : Nat) (zs : List Zn) (P : Option Addr) (m d : Nat) (ps : List Pst) (addr : Int) (w : World) (hs : Rz own w w.heap.size A n zs) (hp : Rp w w.heap.size P m ps) (hn : n ≤ 100000000) (hm : m ≤ 100000000) :
    Calls Tryz.prog 66 #[.agg #[.slice A n c, .slice P m d], .int .i64 addr] w fun e w' => ∃ b, e = .returned (.map (some b)) ∧ w.heap.size ≤ b ∧ Mp w' b (en (uq (pk (aps zs) addr ps)) (pl zs)) ∧ Below w.heap.size w w' := by
  have HP := Lib.hid hp
  have hmm := @run_makeMap Tryz.prog
  have X0 := Lib.hid (fx_new w 27 (.slice A n c) (.slice P m d))
  have L0 := Lib.hid ((Below.refl w.heap.size w).alloc (Nat.le_refl _) (.cells #[.slice A n c, .slice P m d] 27))
  have C1 := Lib.hid (byApex own A n c zs P m d _ (hs.on L0.out) hn)
  clear hs hp
  obtain ⟨x0, x1⟩ := X0.out
  go_enter Tryz.func66, Tryz.ntmps66
  go_wp2_with fail
  refine C1.out.mono ?_
  rintro e w1 ⟨b1, rfl, hb, hm1, hl⟩
  have hb1 : b1 < w1.heap.size := hm1.lt
  have M1 := Lib.hid (hm1.alloc (.map #[] 0))
  have L1 := Lib.hid ((L0.out.trans (hl.mono L0.out.size)).alloc (Nat.le_trans L0.out.size hl.size) (.map #[] 0))
  have X1 := Lib.hid ((X0.out.below hl).alloc (.map #[] 0))
  have N1 := Lib.hid (Mp.made w1)
  have hw1 : w.heap.size ≤ w1.heap.size := Nat.le_trans L0.out.size hl.size
  clear hm1 hl hb x0 x1 L0 X0 C1
  go_upto_region 2 with (fail)
  generalize hb2 : w1.heap.size = b2 at *
  generalize w1.alloc (.map #[] 0) = w2 at *
  obtain ⟨x0, x1⟩ := X1.out
  go_wp2
  go_loopw [17] (fun i wr => ∃ k : Nat, k ≤ m ∧ i = .int .i64 k ∧ Hid (Mp wr b1 (en (uq (aps zs)) (pl zs))) ∧ Hid (Mp wr b2 (en (uq (pk (aps zs) addr (ps.take k))) (pl zs))) ∧ Hid (Below w.heap.size w wr)) (fun i _ => m - (intOf i).toNat)
  case atStart => exact ⟨0, Nat.zero_le _, rfl, M1.out, N1.out, L1.out⟩
  case round =>
    clear M1 N1 L1 X1 x0 x1
    obtain ⟨k, hk, rfl, HM, HK, HL⟩ := hrel
    have EK1 := Lib.hid (en_key (uq (aps zs)) (pl zs))
    have EN1 := Lib.hid (en_nodup (v := pl zs) (nodup_uq (aps zs)))
    by_cases hlt : k < m
    · obtain ⟨b, off, rfl, hbB, hcs⟩ := HP.out.2 (by omega)
      have hkl : k < ps.length := by rw [HP.out.1]; exact hlt
      obtain ⟨e0, e1⟩ := (hcs k hkl).below HL.out hbB
      obtain ⟨u1, u2⟩ := pk_step (aps zs) addr ps k hkl
      have U1 := Lib.hid u1
      have U2 := Lib.hid u2
      clear hcs u1 u2
      generalize ps[k] = p at *
      have MA := Lib.hid (HM.out.alloc (.cells #[.int .i64 p.addr, .string p.apex] 103))
      have KA := Lib.hid (HK.out.alloc (.cells #[.int .i64 p.addr, .string p.apex] 103))
      have LA := Lib.hid (HL.out.alloc HL.out.size (.cells #[.int .i64 p.addr, .string p.apex] 103))
      have XB := Lib.hid (fx_new wr 103 (.int .i64 p.addr) (.string p.apex))
      have EK := Lib.hid (en_key (uq (pk (aps zs) addr (ps.take k))) (pl zs))
      have EN := Lib.hid (en_nodup (v := pl zs) (nodup_uq (pk (aps zs) addr (ps.take k))))
      have KX : Hid (KS (.string p.apex)) := ⟨p.apex, rfl⟩
      clear HM HL HK
      go_upto_region 5 with (fail)
      generalize wr.alloc (.cells #[.int .i64 p.addr, .string p.apex] 103) = w3 at *
      obtain ⟨y0, y1⟩ := XB.out
      by_cases hin : p.apex ∈ aps zs
      · have LK : Hid ((Instr.lookup 84 (.map (some b1)) (.string p.apex) true).run Tryz.prog w3 = .ok (.tuple #[.int .i64 (pl zs p.apex), .bool true]) w3) := MA.out.in KeyT.strings Tryz.underlying84 EK1.out EN1.out KX.out (en_in (mem_uq.2 hin)) true
        by_cases had : p.addr = addr
        · have hq : (p.addr == addr) = true := by simpa using had
          by_cases hin2 : p.apex ∈ uq (pk (aps zs) addr (ps.take k))
          · have HU := Lib.hid ((U1.out ⟨hin, had⟩).1 hin2)
            obtain ⟨j, hj⟩ := List.getElem?_of_mem hin2
            have ST := Lib.hid (KA.out.old KeyT.strings Tryz.underlying84 EK.out EN.out (.int .i64 (pl zs p.apex)) KX.out (en_at (v := pl zs) hj))
            have HSet : Hid ((en (uq (pk (aps zs) addr (ps.take k))) (pl zs)).set j (.string p.apex, .int .i64 (pl zs p.apex)) = en (uq (pk (aps zs) addr (ps.take k))) (pl zs)) := show _ = _ by
              obtain ⟨hl', he'⟩ := List.getElem?_eq_some_iff.1 (en_at (v := pl zs) hj)
              rw [← he', List.set_getElem_self]
            clear hin had hin2 U1 U2 hj
            go_wp2_with (first | (at_lookup; refine wp_look rfl _ _ true rfl (.string p.apex) (.tuple #[.int .i64 (pl zs p.apex), .bool true]) rfl rfl LK.out ?_) | (at_mapUpdate; refine wp_store rfl _ _ _ rfl (.string p.apex) (.int .i64 (pl zs p.apex)) rfl rfl rfl ((en (uq (pk (aps zs) addr (ps.take k))) (pl zs)).set j (.string p.apex, .int .i64 (pl zs p.apex))) ST.out ?_))
            intro w4 m4 g4 s4
            have K4 := Lib.hid (show Mp w4 b2 (en (uq (pk (aps zs) addr (ps.take k))) (pl zs)) from by rw [← HSet.out]; exact m4)
            have M4 := Lib.hid (MA.out.grown g4 (fun e => by have := Option.some.inj e; omega))
            have L4 := Lib.hid (LA.out.grown g4 LA.out.size (fun j hj => by cases hj; omega))
            clear LK ST m4 g4 s4 MA LA KA y0 y1
            go_wp2
            go_roundw
            case rel => exact ⟨k + 1, by omega, by go_num, M4.out, by rw [HU.out]; exact K4.out, L4.out⟩
            case measure => (simp [intOf] <;> omega)
          · have HU := Lib.hid ((U1.out ⟨hin, had⟩).2 hin2)
            have ST := Lib.hid (KA.out.new KeyT.strings Tryz.underlying84 EK.out (.int .i64 (pl zs p.apex)) KX.out (en_out hin2))
            clear hin had hin2 U1 U2
            go_wp2_with (first | (at_lookup; refine wp_look rfl _ _ true rfl (.string p.apex) (.tuple #[.int .i64 (pl zs p.apex), .bool true]) rfl rfl LK.out ?_) | (at_mapUpdate; refine wp_store rfl _ _ _ rfl (.string p.apex) (.int .i64 (pl zs p.apex)) rfl rfl rfl (en (uq (pk (aps zs) addr (ps.take k))) (pl zs) ++ [(.string p.apex, .int .i64 (pl zs p.apex))]) ST.out ?_))
            intro w4 m4 g4 s4
            have K4 := Lib.hid m4
            have M4 := Lib.hid (MA.out.grown g4 (fun e => by have := Option.some.inj e; omega))
            have L4 := Lib.hid (LA.out.grown g4 LA.out.size (fun j hj => by cases hj; omega))
            clear LK ST m4 g4 s4 MA LA KA y0 y1
            go_wp2
            go_roundw
            case rel => exact ⟨k + 1, by omega, by go_num, M4.out, by rw [HU.out, en_snoc]; exact K4.out, L4.out⟩
            case measure => (simp [intOf] <;> omega)
        · have hq : (p.addr == addr) = false := by simpa using had
          have HU := Lib.hid (U2.out (fun h => had h.2))
          clear hin had U1 U2
          go_wp2_with (at_lookup; refine wp_look rfl _ _ true rfl (.string p.apex) (.tuple #[.int .i64 (pl zs p.apex), .bool true]) rfl rfl LK.out ?_)
          go_roundw
          case rel => exact ⟨k + 1, by omega, by go_num, MA.out, by rw [HU.out]; exact KA.out, LA.out⟩
          case measure => (simp [intOf] <;> omega)
      · have LK : Hid ((Instr.lookup 84 (.map (some b1)) (.string p.apex) true).run Tryz.prog w3 = .ok (.tuple #[.int .i64 0, .bool false]) w3) := MA.out.out KeyT.strings Tryz.underlying84 (zero _) EK1.out KX.out (en_out (fun e => hin (mem_uq.1 e))) true
        have HU := Lib.hid (U2.out (fun h => hin h.1))
        clear hin U1 U2
        go_wp2_with (at_lookup; refine wp_look rfl _ _ true rfl (.string p.apex) (.tuple #[.int .i64 0, .bool false]) rfl rfl LK.out ?_)
        go_roundw
        case rel => exact ⟨k + 1, by omega, by go_num, MA.out, by rw [HU.out]; exact KA.out, LA.out⟩
        case measure => (simp [intOf] <;> omega)
    · obtain rfl : m = k := by omega
      have HT := Lib.hid (take_all (l := ps) HP.out.1)
      go_wp2
      go_ret
      exact ⟨_, rfl, by omega, by have := HK.out; rw [HT.out] at this; exact this, HL.out⟩

set_option maxHeartbeats 4000000 in
set_option maxRecDepth 100000 in
/-- ZoneAt. -/
theorem zoneAt (own : Prop) (A : Option Addr) (n c : Nat) (zs : List Zn) (P : Option Addr) (m d : Nat) (ps : List Pst) (addr : Int) (nm : ByteArray) (w : World) (he : Env w) (hs : Rz own w w.heap.size A n zs) (hp : Rp w w.heap.size P m ps) (hn : n ≤ 100000000) (hm : m ≤ 100000000) (hz : ∀ z ∈ zs, z.apex.size ≤ 400000000) (hnm : nm.size ≤ 400000000) :
    Calls Tryz.prog 19 #[.agg #[.slice A n c, .slice P m d], .int .i64 addr, .string nm] w fun e w' => e = .returned (.int .i64 (zo nm (psd addr ps) (aps zs))) ∧ Below w.heap.size w w' := by
  have X0 := Lib.hid (fx_new w 27 (.slice A n c) (.slice P m d))
  have L0 := Lib.hid ((Below.refl w.heap.size w).alloc (Nat.le_refl _) (.cells #[.slice A n c, .slice P m d] 27))
  have C1 := Lib.hid (at_ own A n c zs P m d ps addr _ (hs.on L0.out) (hp.on L0.out) hn hm)
  have hlen : (uq (pk (aps zs) addr ps)).length ≤ m := by
    have h1 := len_uq (pk (aps zs) addr ps)
    have h2 : (pk (aps zs) addr ps).length ≤ ps.length := by unfold pk; rw [List.length_map]; exact List.length_filter_le _ _
    rw [← hp.1]
    omega
  have C2 := Lib.hid (fun b W hE h => low nm b (uq (pk (aps zs) addr ps)) (pl zs) W hE h (nodup_uq _) (fun a ha => by obtain ⟨z, hz', rfl⟩ := ap_mem (pk_mem.1 (mem_uq.1 ha)).1; exact hz z hz') (by omega) hnm)
  have HE := Lib.hid he
  clear hs he hz hp
  obtain ⟨x0, x1⟩ := X0.out
  go_enter Tryz.func19, Tryz.ntmps19
  go_wp2_with fail
  refine C1.out.mono ?_
  rintro e w1 ⟨b, rfl, hb, hm1, hl⟩
  have M1 := Lib.hid hm1
  have L1 := Lib.hid (L0.out.trans (hl.mono L0.out.size))
  clear hm1 hl hb x0 x1 L0 X0
  go_wp2_with fail
  refine (C2.out b w1 (HE.out.below L1.out) M1.out).mono ?_
  rintro e w2 ⟨r, rfl, hr, hl⟩
  have HR := Lib.hid (lw_zo (nm := nm) (p := psd addr ps) (ap := aps zs) (fun a => by rw [mem_uq, pk_mem]) hr)
  have L2 := Lib.hid (L1.out.trans (hl.mono L1.out.size))
  clear hr hl
  go_wp2
  go_ret
  exact ⟨by rw [HR.out]; rfl, L2.out⟩
end Go.Proofs.YtmkcjjgicinggaaGreatDoor.ZonI

/- Plain mathematics of zones: which names are there, the cuts, the cut of a name, the start, the glue. -/
namespace Go.Proofs.YtmkcjjgicinggaaGreatDoor.ZoneMath
open Go.RowKit Go.Proofs.YtmkcjjgicinggaaGreatDoor.MemR Go.Proofs.YtmkcjjgicinggaaGreatDoor.SetMath Go.Proofs.YtmkcjjgicinggaaGreatDoor.NameMath

/-- A record's name is the name, or under it. -/
def ex (nm : ByteArray) (l : List Rec) : Bool := l.any (fun r => Un r.name nm)

theorem ex_take (nm : ByteArray) (l : List Rec) (k : Nat) (h : k < l.length) : ex nm (l.take (k + 1)) = (ex nm (l.take k) || Un l[k].name nm) := by
  unfold ex
  rw [List.take_succ_eq_append_getElem h, List.any_append]
  simp

theorem ex_hit (nm : ByteArray) (l : List Rec) (k : Nat) (h : k < l.length) (e : Un l[k].name nm = true) : ex nm l = true := by
  unfold ex
  rw [List.any_eq_true]
  exact ⟨l[k], List.getElem_mem h, e⟩

/-- The record is of a cut of the zone s. -/
noncomputable def isc (s : ByteArray) (r : Rec) : Bool := @decide (r.ty = 2 ∧ r.name ≠ s ∧ Un r.name s = true) (Classical.propDecidable _)

theorem isc_true {s : ByteArray} {r : Rec} (h : r.ty = 2 ∧ r.name ≠ s ∧ Un r.name s = true) : isc s r = true := @decide_eq_true _ (Classical.propDecidable _) h

theorem isc_false {s : ByteArray} {r : Rec} (h : ¬ (r.ty = 2 ∧ r.name ≠ s ∧ Un r.name s = true)) : isc s r = false := @decide_eq_false _ (Classical.propDecidable _) h

/-- The names of the cuts, as the records stand. -/
noncomputable def cn (s : ByteArray) (l : List Rec) : List ByteArray := (l.filter (isc s)).map (·.name)

theorem cn_take (s : ByteArray) (l : List Rec) (k : Nat) (h : k < l.length) : cn s (l.take (k + 1)) = cn s (l.take k) ++ (if isc s l[k] = true then [l[k].name] else []) := by
  unfold cn
  rw [filter_take _ _ _ h, List.map_append]
  split <;> rfl

theorem cn_len (s : ByteArray) (l : List Rec) : (cn s l).length ≤ l.length := by rw [cn, List.length_map]; exact List.length_filter_le _ _

theorem cn_len_take (s : ByteArray) (l : List Rec) (k : Nat) : (cn s (l.take k)).length ≤ k := Nat.le_trans (cn_len _ _) (by simp; omega)

theorem cn_mem {s : ByteArray} {l : List Rec} {x : ByteArray} (h : x ∈ cn s l) : ∃ r ∈ l, r.name = x := by
  obtain ⟨r, hr, rfl⟩ := List.mem_map.1 h
  exact ⟨r, (List.mem_filter.1 hr).1, rfl⟩

/-- The cut that has the name, of those in the list. -/
def co (nm : ByteArray) (L : List ByteArray) : Option ByteArray := L.find? (fun x => Un nm x)

theorem co_hit (nm : ByteArray) (L : List ByteArray) (k : Nat) (h : k < L.length) (e : Un nm L[k] = true) (h0 : co nm (L.take k) = none) : co nm L = some L[k] := by
  unfold co at *
  conv => lhs; rw [← List.take_append_drop k L]
  rw [List.find?_append, h0, List.drop_eq_getElem_cons h, List.find?_cons, e]
  rfl

theorem co_next (nm : ByteArray) (L : List ByteArray) (k : Nat) (h : k < L.length) (e : Un nm L[k] = false) (h0 : co nm (L.take k) = none) : co nm (L.take (k + 1)) = none := by
  unfold co at *
  rw [List.take_succ_eq_append_getElem h, List.find?_append, h0, List.find?_cons, e]
  rfl

/-- What CutOf gives back. -/
def cv : Option ByteArray → Value
  | some x => .tuple #[.string x, .bool true]
  | none => .tuple #[.string ⟨#[]⟩, .bool false]

/-- The zone's start, or a record with nothing in it. -/
def st (l : List Rec) : Rec := (l.find? (fun r => decide (r.ty = 6))).getD zr

theorem st_hit (l : List Rec) (k : Nat) (h : k < l.length) (e : l[k].ty = 6) (h0 : ∀ r ∈ l.take k, r.ty ≠ 6) : st l = l[k] := by
  unfold st
  conv => lhs; rw [← List.take_append_drop k l]
  rw [List.find?_append, List.find?_eq_none.2 (fun x hx => by simpa using h0 x hx), List.drop_eq_getElem_cons h, List.find?_cons]
  simp [e]

theorem st_next (l : List Rec) (k : Nat) (h : k < l.length) (e : l[k].ty ≠ 6) (h0 : ∀ r ∈ l.take k, r.ty ≠ 6) : ∀ r ∈ l.take (k + 1), r.ty ≠ 6 := by
  intro r hr
  rw [List.take_succ_eq_append_getElem h, List.mem_append, List.mem_singleton] at hr
  rcases hr with hr | rfl
  · exact h0 r hr
  · exact e

theorem st_none (l : List Rec) (h0 : ∀ r ∈ l, r.ty ≠ 6) : st l = zr := by
  unfold st
  rw [List.find?_eq_none.2 (fun x hx => by simpa using h0 x hx)]
  rfl

/-- The addresses of the hosts, in their order. -/
noncomputable def gl (L : List ByteArray) (l : List Rec) : List Rec := L.flatMap (fun h => sf h 1 l)

theorem gl_take (L : List ByteArray) (l : List Rec) (k : Nat) (h : k < L.length) : gl (L.take (k + 1)) l = gl (L.take k) l ++ sf L[k] 1 l := by
  unfold gl
  rw [List.take_succ_eq_append_getElem h, List.flatMap_append]
  simp

theorem gl_len (L : List ByteArray) (l : List Rec) : (gl L l).length ≤ L.length * l.length := by
  unfold gl
  induction L with
  | nil => simp
  | cons x L ih =>
    rw [List.flatMap_cons, List.length_append, List.length_cons, Nat.add_mul, Nat.one_mul]
    have := sf_len x 1 l
    omega

end Go.Proofs.YtmkcjjgicinggaaGreatDoor.ZoneMath

/- Plain mathematics of a server with a zone: the kind of a question, the three sections of its reply. -/
namespace Go.Proofs.YtmkcjjgicinggaaGreatDoor.ServeMath
open Go.RowKit Go.Proofs.YtmkcjjgicinggaaGreatDoor.MemR Go.Proofs.YtmkcjjgicinggaaGreatDoor.SetMath Go.Proofs.YtmkcjjgicinggaaGreatDoor.NameMath Go.Proofs.YtmkcjjgicinggaaGreatDoor.ZoneMath

/-- Which kind of reply a question has: not, down, alias, set, nodata, noname. -/
noncomputable def kd (s nm : ByteArray) (ty : Int) (l : List Rec) : Int :=
  if Un nm s = false then 0 else if (co nm (uq (cn s l))).isSome = true then 1 else if ty ≠ 5 ∧ 0 < (sf nm 5 l).length then 2 else if 0 < (sf nm ty l).length then 3 else if ex nm l = true then 4 else 5

/-- The cut of a name, or the empty name. -/
noncomputable def cu (s nm : ByteArray) (l : List Rec) : ByteArray := (co nm (uq (cn s l))).getD ⟨#[]⟩

/-- The answers. -/
noncomputable def anl (k : Int) (nm : ByteArray) (ty : Int) (l : List Rec) : List Rec := if k = 2 then sf nm 5 l else if k = 3 then sf nm ty l else []

/-- The servers of the cut, or the start. -/
noncomputable def mol (k : Int) (s nm : ByteArray) (l : List Rec) : List Rec := if k = 1 then sf (cu s nm l) 2 l else if k = 4 ∨ k = 5 then [st l] else []

/-- The addresses of the cut's servers. -/
noncomputable def hel (k : Int) (s nm : ByteArray) (l : List Rec) : List Rec := if k = 1 then gl (uq (hl (sf (cu s nm l) 2 l))) l else []

theorem kd_six (s nm : ByteArray) (ty : Int) (l : List Rec) : kd s nm ty l = 0 ∨ kd s nm ty l = 1 ∨ kd s nm ty l = 2 ∨ kd s nm ty l = 3 ∨ kd s nm ty l = 4 ∨ kd s nm ty l = 5 := by
  unfold kd
  repeat' split
  all_goals simp

theorem kd0 {s nm : ByteArray} {ty : Int} {l : List Rec} (h : Un nm s = false) : kd s nm ty l = 0 := if_pos h

theorem kd1 {s nm : ByteArray} {ty : Int} {l : List Rec} (h : Un nm s = true) (h1 : (co nm (uq (cn s l))).isSome = true) : kd s nm ty l = 1 := by
  unfold kd; rw [if_neg (by simp [h]), if_pos h1]

theorem kd2 {s nm : ByteArray} {ty : Int} {l : List Rec} (h : Un nm s = true) (h1 : co nm (uq (cn s l)) = none) (h2 : ty ≠ 5) (h3 : 0 < (sf nm 5 l).length) : kd s nm ty l = 2 := by
  unfold kd; rw [if_neg (by simp [h]), if_neg (by simp [h1]), if_pos ⟨h2, h3⟩]

theorem kd3 {s nm : ByteArray} {ty : Int} {l : List Rec} (h : Un nm s = true) (h1 : co nm (uq (cn s l)) = none) (h2 : ty = 5 ∨ (sf nm 5 l).length = 0) (h3 : 0 < (sf nm ty l).length) : kd s nm ty l = 3 := by
  unfold kd; rw [if_neg (by simp [h]), if_neg (by simp [h1]), if_neg (fun e => by rcases h2 with h | h; exact e.1 h; omega), if_pos h3]

theorem kd4 {s nm : ByteArray} {ty : Int} {l : List Rec} (h : Un nm s = true) (h1 : co nm (uq (cn s l)) = none) (h2 : ty = 5 ∨ (sf nm 5 l).length = 0) (h3 : (sf nm ty l).length = 0) (h4 : ex nm l = true) : kd s nm ty l = 4 := by
  unfold kd; rw [if_neg (by simp [h]), if_neg (by simp [h1]), if_neg (fun e => by rcases h2 with h | h; exact e.1 h; omega), if_neg (by omega), if_pos h4]

theorem kd5 {s nm : ByteArray} {ty : Int} {l : List Rec} (h : Un nm s = true) (h1 : co nm (uq (cn s l)) = none) (h2 : ty = 5 ∨ (sf nm 5 l).length = 0) (h3 : (sf nm ty l).length = 0) (h4 : ex nm l = false) : kd s nm ty l = 5 := by
  unfold kd; rw [if_neg (by simp [h]), if_neg (by simp [h1]), if_neg (fun e => by rcases h2 with h | h; exact e.1 h; omega), if_neg (by omega), if_neg (by simp [h4])]

theorem anl_len (k : Int) (nm : ByteArray) (ty : Int) (l : List Rec) : (anl k nm ty l).length ≤ l.length := by
  unfold anl
  split
  · exact sf_len _ _ _
  · split
    · exact sf_len _ _ _
    · simp

theorem mol_len (k : Int) (s nm : ByteArray) (l : List Rec) : (mol k s nm l).length ≤ l.length + 1 := by
  unfold mol
  split
  · have := sf_len (cu s nm l) 2 l; omega
  · split <;> simp

theorem hel_len (k : Int) (s nm : ByteArray) (l : List Rec) : (hel k s nm l).length ≤ l.length * l.length := by
  unfold hel
  split
  · refine Nat.le_trans (gl_len _ _) (Nat.mul_le_mul ?_ (Nat.le_refl _))
    have h1 := len_uq (hl (sf (cu s nm l) 2 l))
    have h2 := hl_len (sf (cu s nm l) 2 l)
    have h3 := sf_len (cu s nm l) 2 l
    omega
  · simp

/-- The code of a reply of a kind. -/
def rcd (k : Int) : Int := if k = 0 then 5 else if k = 5 then 3 else 0

/-- Whether a reply of a kind is authoritative. -/
def aut (k : Int) : Bool := decide (k ≠ 0 ∧ k ≠ 1)

end Go.Proofs.YtmkcjjgicinggaaGreatDoor.ServeMath

/- A new slice of records that a call gives back, and laws on append of records. -/
namespace Go.Proofs.YtmkcjjgicinggaaGreatDoor.AppR
open Go.RowKit Go.Proofs.YtmkcjjgicinggaaGreatDoor.Mem Go.Proofs.YtmkcjjgicinggaaGreatDoor.MemR

theorem owns_new (w : World) : (w.alloc (.cells #[] 93)).ownsRow w.heap.size 93 6 (.slice (some ⟨w.heap.size, 0, none⟩) 0 0) 0 [] :=
  World.ownsRow_made w #[] 0 (Nat.le_refl _) (Nat.zero_le _) (by simp)
theorem one_fl (l : List Rec) : ∀ u ∈ fl l, u.oneCell' = true := by
  intro u hu
  obtain ⟨r, _, hr⟩ := List.mem_flatMap.1 hu
  simp [rc] at hr
  rcases hr with rfl | rfl | rfl | rfl | rfl | rfl <;> rfl
/-- The cells of a slice that reads as records, as the laws on append ask for them. -/
theorem cells_of {w : World} {B b off n : Nat} {l : List Rec} (hs : Sr w B (some ⟨b, off, none⟩) n l) : ∀ j u, (fl l)[j]? = some u → w.cell? ((⟨b, off, none⟩ : Addr).add j) = some u := by
  intro j u hu
  have hj : j < l.length * 6 := by
    have := (List.getElem?_eq_some_iff.1 hu).1
    rwa [fl_len] at this
  obtain ⟨b', off', hA, _, hc⟩ := hs.2 (by have := hs.1; omega)
  simp only [Option.some.injEq, Addr.mk.injEq, and_true] at hA
  obtain ⟨rfl, rfl⟩ := hA
  have hd : j / 6 < l.length := by omega
  have h6 : j % 6 < 6 := by omega
  have e : j = j / 6 * 6 + j % 6 := by omega
  have hg := fl_get l (j / 6) (j % 6) hd h6
  rw [← e, hu] at hg
  obtain ⟨c0, c1, c2, c3, c4, c5⟩ := hc (j / 6) hd
  rw [Addr.add_lit, show off + j = off + j / 6 * 6 + j % 6 by omega, hg]
  generalize j % 6 = c at h6 ⊢
  rcases c with _ | _ | _ | _ | _ | _ | c
  · exact c0
  · exact c1
  · exact c2
  · exact c3
  · exact c4
  · exact c5
  · omega
/-- append of a slice of records onto a row of the call's own. -/
theorem append_recs {w : World} {ops : Array Oper} {rest : List Oper} {o : Oper} {a : Act} {Q : Exit → Act → World → Prop} (hgd : o.guard = none) (s x : Operand)
    (ho : o.op = .call { callee := .builtin .append, args := #[s, x], argTypes := #[35, 35] })
    (base g n cap : Nat) (L : List Rec) (hs : a.eval s = .slice (some ⟨g, 0, none⟩) n cap) (hown : w.ownsRow base 93 6 (.slice (some ⟨g, 0, none⟩) n cap) n (fl L))
    (b off m c B : Nat) (l : List Rec) (hx : a.eval x = .slice (some ⟨b, off, none⟩) m c) (hl : Sr w B (some ⟨b, off, none⟩) m l)
    (hn : n ≤ 800000000) (hm : m ≤ 800000000) (hbase : base ≤ w.heap.size)
    (h : ∀ g' cap' w', w'.ownsRow base 93 6 (.slice (some ⟨g', 0, none⟩) (n + m) cap') (n + m) (fl (L ++ l)) → w.grownBy w' (some g) → wpList Tryz.prog ops Q rest (a.put o.dst (.slice (some ⟨g', 0, none⟩) (n + m) cap')) w') : wpList Tryz.prog ops Q (o :: rest) a w := by
  obtain ⟨i0, hi, hz0, hz1, hz2⟩ := info_parts CopyR.info
  exact wpList_append_own w hgd s x 35 ho base 93 i0 _ 6 72 Tryz.underlying35 hi hz0 hz1 hz2 rfl (by decide) _ n (fl L) hs hown ⟨b, off, none⟩ m c (fl l) hx (by rw [fl_len, hl.1]) (cells_of hl) (one_fl l) (by unfold maxLen; omega) (by omega) hbase
    (fun v' w' h1 h2 h3 => by
      rcases h1.2 with ⟨hv, _⟩ | ⟨g', cap', cur, hv, _⟩
      · have := (h3.1 hv).1
        cases this
      · subst hv
        exact h g' cap' w' (by rw [fl_append]; exact h1) h2)
end Go.Proofs.YtmkcjjgicinggaaGreatDoor.AppR

/- What copyRecords in the program and l7Copy in the model do: a new slice with the same records. Condition: fewer than 400000001 records. -/
namespace Go.Proofs.YtmkcjjgicinggaaGreatDoor.CpyR
open Go.RowKit Go.Proofs.YtmkcjjgicinggaaGreatDoor.Mem Go.Proofs.YtmkcjjgicinggaaGreatDoor.MemR Go.Proofs.YtmkcjjgicinggaaGreatDoor.AppR

/-- The call returned a new slice with the n records of l, and turned nothing that was there. -/
def GivesC (w : World) (n : Nat) (l : List Rec) (e : Ending) (w' : World) : Prop :=
  ∃ g c r, e = .returned (.slice (some ⟨g, 0, none⟩) n c) ∧ n ≤ c ∧ w.heap.size ≤ g ∧ Bk w' g 93 (fl l ++ r) ∧ Below w.heap.size w w'

set_option maxHeartbeats 2000000 in
theorem copyI (b off n c : Nat) (l : List Rec) (w : World) (hs : Sr w w.heap.size (some ⟨b, off, none⟩) n l) (hn : n ≤ 400000000) : Calls Tryz.prog 61 #[.slice (some ⟨b, off, none⟩) n c] w (GivesC w n l) := by
  have L0 := Lib.hid ((Below.refl w.heap.size w).alloc (Nat.le_refl _) (.cells #[] 93))
  have S0 := Lib.hid (hs.on ((Below.refl w.heap.size w).alloc (Nat.le_refl _) (.cells #[] 93)))
  have O0 := Lib.hid (owns_new w)
  clear hs
  go_enter Tryz.func61, Tryz.ntmps61
  go_wp2_with (at_builtin; refine append_recs (w := w.alloc (.cells #[] 93)) rfl (.tmp 3) (.tmp 4) rfl w.heap.size w.heap.size 0 0 [] rfl O0.out b off n c _ l rfl S0.out (by omega) (by omega) (by simp) ?_)
  intro g' cap' w1 hown hgrow
  obtain ⟨r, hb, hr, hcap, hg⟩ := bk_of_owns6 hown
  have L1 := Lib.hid (L0.out.grown hgrow L0.out.size (fun k hk => by cases hk; exact Nat.le_refl _))
  have B1 := Lib.hid hb
  have G1 := Lib.hid hg
  clear hown hgrow hb hr hg L0 S0 O0
  go_wp2
  go_ret
  exact ⟨g', cap', r, rfl, hcap, G1.out, B1.out, L1.out⟩

set_option maxHeartbeats 2000000 in
theorem copyS (b off n c : Nat) (l : List Rec) (w : World) (hs : Sr w w.heap.size (some ⟨b, off, none⟩) n l) (hn : n ≤ 400000000) : Calls Tryz.prog 134 #[.slice (some ⟨b, off, none⟩) n c] w (GivesC w n l) := by
  have L0 := Lib.hid ((Below.refl w.heap.size w).alloc (Nat.le_refl _) (.cells #[] 93))
  have S0 := Lib.hid (hs.on ((Below.refl w.heap.size w).alloc (Nat.le_refl _) (.cells #[] 93)))
  have O0 := Lib.hid (owns_new w)
  clear hs
  go_enter Tryz.func134, Tryz.ntmps134
  go_wp2_with (at_builtin; refine append_recs (w := w.alloc (.cells #[] 93)) rfl (.tmp 3) (.tmp 4) rfl w.heap.size w.heap.size 0 0 [] rfl O0.out b off n c _ l rfl S0.out (by omega) (by omega) (by simp) ?_)
  intro g' cap' w1 hown hgrow
  obtain ⟨r, hb, hr, hcap, hg⟩ := bk_of_owns6 hown
  have L1 := Lib.hid (L0.out.grown hgrow L0.out.size (fun k hk => by cases hk; exact Nat.le_refl _))
  have B1 := Lib.hid hb
  have G1 := Lib.hid hg
  clear hown hgrow hb hr hg L0 S0 O0
  go_wp2
  go_ret
  exact ⟨g', cap', r, rfl, hcap, G1.out, B1.out, L1.out⟩

end Go.Proofs.YtmkcjjgicinggaaGreatDoor.CpyR
