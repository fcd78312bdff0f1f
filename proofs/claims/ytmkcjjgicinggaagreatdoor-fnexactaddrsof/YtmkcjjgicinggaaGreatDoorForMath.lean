/- Plain mathematics of a name space: the zone of a name among those that are admitted, the posts, the root's addresses. -/
import Derived.Test.YtmkcjjgicinggaaGreatDoorMemF
import Derived.Test.YtmkcjjgicinggaaGreatDoorLessMath
import Derived.Test.YtmkcjjgicinggaaGreatDoorSetMath
namespace Go.Proofs.YtmkcjjgicinggaaGreatDoor.ForMath
open Go.RowKit Go.Proofs.YtmkcjjgicinggaaGreatDoor.MemR Go.Proofs.YtmkcjjgicinggaaGreatDoor.MemS Go.Proofs.YtmkcjjgicinggaaGreatDoor.MemF Go.Proofs.YtmkcjjgicinggaaGreatDoor.SetMath Go.Proofs.YtmkcjjgicinggaaGreatDoor.NameMath Go.Proofs.YtmkcjjgicinggaaGreatDoor.Split Go.Proofs.YtmkcjjgicinggaaGreatDoor.LessMath

/-- How many labels. -/
def pts (s : ByteArray) : Nat := (Lab s).length

/-- The i-th text. -/
def txt (ap : List ByteArray) (i : Nat) : ByteArray := ap.getD i ⟨#[]⟩

theorem txt_get {ap : List ByteArray} {i : Nat} (h : i < ap.length) : txt ap i = ap[i] := by simp [txt, h]

/-- The i-th apex has the name, and is admitted. -/
def Cd (nm : ByteArray) (p : ByteArray → Bool) (ap : List ByteArray) (i : Nat) : Prop := Un nm (txt ap i) = true ∧ p (txt ap i) = true

/-- b is the best among the first k: the most labels, the first of several; -1: none. -/
def Bs (nm : ByteArray) (p : ByteArray → Bool) (ap : List ByteArray) (k : Nat) (b : Int) : Prop :=
  (b = -1 ∧ ∀ i, i < k → ¬ Cd nm p ap i) ∨
  ∃ j : Nat, b = (j : Int) ∧ j < k ∧ Cd nm p ap j ∧ (∀ i, i < k → Cd nm p ap i → pts (txt ap i) ≤ pts (txt ap j)) ∧ ∀ i, i < j → Cd nm p ap i → pts (txt ap i) < pts (txt ap j)

section
variable {nm : ByteArray} {p : ByteArray → Bool} {ap : List ByteArray} {k : Nat} {b b' : Int}

theorem bs_zero : Bs nm p ap 0 (-1) := Or.inl ⟨rfl, fun _ h => absurd h (Nat.not_lt_zero _)⟩

theorem bs_skip (h : Bs nm p ap k b) (hc : ¬ Cd nm p ap k) : Bs nm p ap (k + 1) b := by
  rcases h with ⟨h1, h2⟩ | ⟨j, h1, h2, h3, h4, h5⟩
  · exact Or.inl ⟨h1, fun i hi => by rcases Nat.lt_succ_iff_lt_or_eq.1 hi with h | rfl; exact h2 i h; exact hc⟩
  · exact Or.inr ⟨j, h1, by omega, h3, fun i hi c => by rcases Nat.lt_succ_iff_lt_or_eq.1 hi with h | rfl; exact h4 i h c; exact absurd c hc, h5⟩

theorem bs_first (h : Bs nm p ap k b) (hb : b < 0) (hc : Cd nm p ap k) : Bs nm p ap (k + 1) (k : Int) := by
  rcases h with ⟨h1, h2⟩ | ⟨j, h1, _⟩
  · refine Or.inr ⟨k, rfl, by omega, hc, fun i hi c => ?_, fun i hi c => absurd c (h2 i hi)⟩
    rcases Nat.lt_succ_iff_lt_or_eq.1 hi with h | rfl
    · exact absurd c (h2 i h)
    · exact Nat.le_refl _
  · omega

theorem bs_more (h : Bs nm p ap k b) (hb : 0 ≤ b) (hc : Cd nm p ap k) (hl : pts (txt ap b.toNat) < pts (txt ap k)) : Bs nm p ap (k + 1) (k : Int) := by
  rcases h with ⟨h1, h2⟩ | ⟨j, rfl, h2, h3, h4, h5⟩
  · omega
  · rw [Int.toNat_natCast] at hl
    refine Or.inr ⟨k, rfl, by omega, hc, fun i hi c => ?_, fun i hi c => Nat.lt_of_le_of_lt (h4 i hi c) hl⟩
    rcases Nat.lt_succ_iff_lt_or_eq.1 hi with h | rfl
    · exact Nat.le_of_lt (Nat.lt_of_le_of_lt (h4 i h c) hl)
    · exact Nat.le_refl _

theorem bs_less (h : Bs nm p ap k b) (hb : 0 ≤ b) (hl : ¬ pts (txt ap b.toNat) < pts (txt ap k)) : Bs nm p ap (k + 1) b := by
  rcases h with ⟨h1, h2⟩ | ⟨j, rfl, h2, h3, h4, h5⟩
  · omega
  · rw [Int.toNat_natCast] at hl
    refine Or.inr ⟨j, rfl, by omega, h3, fun i hi c => ?_, h5⟩
    rcases Nat.lt_succ_iff_lt_or_eq.1 hi with h | rfl
    · exact h4 i h c
    · omega

theorem bs_one (h : Bs nm p ap k b) (h' : Bs nm p ap k b') : b = b' := by
  rcases h with ⟨h1, h2⟩ | ⟨j, rfl, h2, h3, h4, h5⟩ <;> rcases h' with ⟨g1, g2⟩ | ⟨i, rfl, g2, g3, g4, g5⟩
  · omega
  · exact absurd g3 (h2 i g2)
  · exact absurd h3 (g2 j h2)
  · have e1 := h4 i g2 g3
    have e2 := g4 j h2 h3
    rcases Nat.lt_trichotomy i j with h | rfl | h
    · have := h5 i h g3; omega
    · rfl
    · have := g5 j h h3; omega

theorem bs_bound (h : Bs nm p ap k b) : -1 ≤ b ∧ b < (k : Int) := by
  rcases h with ⟨h1, h2⟩ | ⟨j, rfl, h2, _⟩ <;> omega
end

/-- The zone of a name among those that p admits. -/
noncomputable def zo (nm : ByteArray) (p : ByteArray → Bool) (ap : List ByteArray) : Int := @dite _ (∃ b, Bs nm p ap ap.length b) (Classical.propDecidable _) (fun h => Classical.choose h) (fun _ => -1)

theorem zo_of {nm : ByteArray} {p : ByteArray → Bool} {ap : List ByteArray} {b : Int} (h : Bs nm p ap ap.length b) : zo nm p ap = b := by
  unfold zo
  rw [@dif_pos _ (Classical.propDecidable _) ⟨b, h⟩]
  exact bs_one (Classical.choose_spec (⟨b, h⟩ : ∃ b, Bs nm p ap ap.length b)) h

/-- There is always a best. -/
theorem bs_some (nm : ByteArray) (p : ByteArray → Bool) (ap : List ByteArray) : ∀ k, ∃ b, Bs nm p ap k b
  | 0 => ⟨-1, bs_zero⟩
  | k + 1 => by
    obtain ⟨b, h⟩ := bs_some nm p ap k
    by_cases hc : Cd nm p ap k
    · by_cases hb : b < 0
      · exact ⟨_, bs_first h hb hc⟩
      · by_cases hl : pts (txt ap b.toNat) < pts (txt ap k)
        · exact ⟨_, bs_more h (by omega) hc hl⟩
        · exact ⟨_, bs_less h (by omega) hl⟩
    · exact ⟨_, bs_skip h hc⟩

theorem zo_bs (nm : ByteArray) (p : ByteArray → Bool) (ap : List ByteArray) : Bs nm p ap ap.length (zo nm p ap) := by
  obtain ⟨b, h⟩ := bs_some nm p ap ap.length
  rw [zo_of h]
  exact h

theorem zo_bound (nm : ByteArray) (p : ByteArray → Bool) (ap : List ByteArray) : -1 ≤ zo nm p ap ∧ zo nm p ap < (ap.length : Int) := bs_bound (zo_bs nm p ap)

/-- Of two that have the name, the one with less labels is less. -/
theorem chain {nm a c : ByteArray} (ha : Un nm a = true) (hc : Un nm c = true) (h : Ls a c = true) : pts a < pts c := by
  have h1 := (un_iff _ _).1 ha
  have h2 := (un_iff _ _).1 hc
  unfold pts
  refine Nat.lt_of_not_le fun hle => ?_
  have h3 : Lab c <:+ Lab a := List.suffix_of_suffix_length_le h2 h1 hle
  have h4 : Un a c = true := (un_iff _ _).2 h3
  by_cases e : a = c
  · rw [e, ls_irr] at h; cases h
  · have := ls_under h4 e
    rw [ls_asym h] at this
    cases this

theorem same_pts {nm a c : ByteArray} (ha : Un nm a = true) (hc : Un nm c = true) (h : pts a = pts c) : a = c := by
  have h1 := (un_iff _ _).1 ha
  have h2 := (un_iff _ _).1 hc
  unfold pts at h
  have h3 : Lab c <:+ Lab a := List.suffix_of_suffix_length_le h2 h1 (by omega)
  exact lab_inj (h3.eq_of_length h.symm).symm

/-- Where an apex stands first. -/
def ix (ap : List ByteArray) (a : ByteArray) : Nat := ap.findIdx (fun x => x.data.toList == a.data.toList)

theorem ix_lt {ap : List ByteArray} {a : ByteArray} (h : a ∈ ap) : ix ap a < ap.length := List.findIdx_lt_length_of_exists ⟨a, h, by simp⟩

theorem ix_at {ap : List ByteArray} {a : ByteArray} (h : a ∈ ap) : txt ap (ix ap a) = a := by
  rw [txt_get (ix_lt h)]
  exact (same_iff _ _).1 (List.findIdx_getElem (w := ix_lt h))

theorem ix_before {ap : List ByteArray} {a : ByteArray} {j : Nat} (h : j < ix ap a) : txt ap j ≠ a := by
  intro e
  have hl : j < ap.length := Nat.lt_of_lt_of_le h (List.findIdx_le_length)
  have := List.not_of_lt_findIdx (p := fun x : ByteArray => x.data.toList == a.data.toList) (xs := ap) h
  rw [txt_get hl] at e
  rw [e] at this
  simp at this

theorem ix_new {ap : List ByteArray} {k : Nat} (hk : k < ap.length) (h : ap[k] ∉ ap.take k) : ix ap ap[k] = k := by
  have hm : ap[k] ∈ ap := List.getElem_mem hk
  have h1 := ix_lt hm
  have h2 := ix_at hm
  rw [txt_get h1] at h2
  rcases Nat.lt_trichotomy (ix ap ap[k]) k with h3 | h3 | h3
  · refine absurd ?_ h
    refine List.mem_iff_getElem.2 ⟨ix ap ap[k], by rw [List.length_take]; omega, ?_⟩
    rw [List.getElem_take]
    exact h2
  · exact h3
  · exact absurd (txt_get hk) (ix_before h3)

/-- What the program finds among apexes with their places: none has the name, or one that has it and as many labels as any. -/
def Lw (K : List ByteArray) (v : ByteArray → Int) (nm : ByteArray) (r : Int) : Prop :=
  (r = -1 ∧ ∀ a ∈ K, Un nm a = false) ∨ ∃ c ∈ K, Un nm c = true ∧ r = v c ∧ ∀ a ∈ K, Un nm a = true → pts a ≤ pts c

theorem lw_zo {nm : ByteArray} {p : ByteArray → Bool} {ap K : List ByteArray} {r : Int} (hK : ∀ a, a ∈ K ↔ a ∈ ap ∧ p a = true) (h : Lw K (fun a => (ix ap a : Int)) nm r) : zo nm p ap = r := by
  refine zo_of ?_
  have hin : ∀ i, i < ap.length → p (txt ap i) = true → txt ap i ∈ K := fun i hi hp => (hK _).2 ⟨by rw [txt_get hi]; exact List.getElem_mem hi, hp⟩
  rcases h with ⟨rfl, h⟩ | ⟨c, hc, hu, rfl, hm⟩
  · refine Or.inl ⟨rfl, fun i hi hc => ?_⟩
    have := h _ (hin i hi hc.2)
    rw [hc.1] at this
    cases this
  · obtain ⟨c1, c2⟩ := (hK c).1 hc
    refine Or.inr ⟨ix ap c, rfl, ix_lt c1, ⟨by rw [ix_at c1]; exact hu, by rw [ix_at c1]; exact c2⟩, fun i hi hcd => ?_, fun i hi hcd => ?_⟩
    · rw [ix_at c1]
      exact hm _ (hin i hi hcd.2) hcd.1
    · rw [ix_at c1]
      have h1 := hm _ (hin i (Nat.lt_trans hi (ix_lt c1)) hcd.2) hcd.1
      refine Nat.lt_of_le_of_ne h1 fun e => ?_
      exact ix_before hi (same_pts hcd.1 hu e)

/-- The zone is served at the address. -/
def psd (addr : Int) (ps : List Pst) (a : ByteArray) : Bool := ps.any (fun p => decide (p.addr = addr) && p.apex.data.toList == a.data.toList)

theorem psd_iff {addr : Int} {ps : List Pst} {a : ByteArray} : psd addr ps a = true ↔ ∃ p ∈ ps, p.addr = addr ∧ p.apex = a := by
  unfold psd
  rw [List.any_eq_true]
  refine exists_congr fun p => and_congr_right fun _ => ?_
  rw [Bool.and_eq_true, decide_eq_true_iff, same_iff]

/-- The apexes of the posts at an address that a zone has. -/
noncomputable def pk (ap : List ByteArray) (addr : Int) (ps : List Pst) : List ByteArray := (ps.filter (fun p => @decide (p.apex ∈ ap ∧ p.addr = addr) (Classical.propDecidable _))).map (·.apex)

theorem pk_mem {ap : List ByteArray} {addr : Int} {ps : List Pst} {a : ByteArray} : a ∈ pk ap addr ps ↔ a ∈ ap ∧ psd addr ps a = true := by
  unfold pk
  rw [List.mem_map, psd_iff]
  constructor
  · rintro ⟨p, hp, rfl⟩
    obtain ⟨h1, h2⟩ := List.mem_filter.1 hp
    have h3 := @of_decide_eq_true _ (Classical.propDecidable _) h2
    exact ⟨h3.1, p, h1, h3.2, rfl⟩
  · rintro ⟨h1, p, hp, h2, rfl⟩
    exact ⟨p, List.mem_filter.2 ⟨hp, @decide_eq_true _ (Classical.propDecidable _) ⟨h1, h2⟩⟩, rfl⟩

theorem pk_in {ap : List ByteArray} {addr : Int} {ps : List Pst} (k : Nat) (h : k < ps.length) (hc : ps[k].apex ∈ ap ∧ ps[k].addr = addr) : pk ap addr (ps.take (k + 1)) = pk ap addr (ps.take k) ++ [ps[k].apex] := by
  unfold pk
  rw [filter_take _ _ _ h, List.map_append, if_pos (@decide_eq_true _ (Classical.propDecidable _) hc)]
  rfl

theorem pk_out {ap : List ByteArray} {addr : Int} {ps : List Pst} (k : Nat) (h : k < ps.length) (hc : ¬ (ps[k].apex ∈ ap ∧ ps[k].addr = addr)) : pk ap addr (ps.take (k + 1)) = pk ap addr (ps.take k) := by
  unfold pk
  rw [filter_take _ _ _ h, List.map_append, if_neg (by rw [@decide_eq_false _ (Classical.propDecidable _) hc]; decide), List.map_nil, List.append_nil]
end Go.Proofs.YtmkcjjgicinggaaGreatDoor.ForMath
