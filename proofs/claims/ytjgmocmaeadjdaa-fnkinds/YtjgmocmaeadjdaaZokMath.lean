/- Plain mathematics: when a zone is valid, as the model asks it and as the program asks it, and that both ask the same. -/
import Derived.Test.YtjgmocmaeadjdaaZoneMath
import Derived.Test.YtjgmocmaeadjdaaRecOk
import Derived.Test.YtjgmocmaeadjdaaLessMath
namespace Go.Proofs.Ytjgmocmaeadjdaa.ZokMath
open Go.RowKit Go.Proofs.Ytjgmocmaeadjdaa.MemR Go.Proofs.Ytjgmocmaeadjdaa.SetMath Go.Proofs.Ytjgmocmaeadjdaa.NameMath Go.Proofs.Ytjgmocmaeadjdaa.NameOk Go.Proofs.Ytjgmocmaeadjdaa.ZoneMath Go.Proofs.Ytjgmocmaeadjdaa.RecOk Go.Proofs.Ytjgmocmaeadjdaa.LessR Go.Proofs.Ytjgmocmaeadjdaa.LessMath

/-- Whether a proposition holds. A def, so that no step of a walk opens it. -/
noncomputable def dec (P : Prop) : Bool := @decide P (Classical.propDecidable _)

theorem dec_true {P : Prop} (h : P) : dec P = true := @decide_eq_true _ (Classical.propDecidable _) h

theorem dec_false {P : Prop} (h : ¬ P) : dec P = false := @decide_eq_false _ (Classical.propDecidable _) h

theorem dec_iff {P : Prop} : dec P = true ↔ P := ⟨fun h => @of_decide_eq_true _ (Classical.propDecidable _) h, dec_true⟩

theorem dec_no {P : Prop} (h : dec P = false) : ¬ P := fun k => by rw [dec_true k] at h; cases h

theorem dec_same {P Q : Prop} (h : P ↔ Q) : dec P = dec Q := by rw [propext h]

theorem dec_bool (b : Bool) : dec (b = true) = b := by
  cases b
  · exact dec_false (by simp)
  · exact dec_true rfl

/-- All up to n. A def, so that no step of a walk opens it. -/
def Alln (n : Nat) (P : Nat → Prop) : Prop := ∀ i, i < n → P i

theorem alln_zero {P : Nat → Prop} : Alln 0 P := fun _ h => absurd h (Nat.not_lt_zero _)

theorem alln_next {P : Nat → Prop} {k : Nat} (h : Alln k P) (e : P k) : Alln (k + 1) P := fun i hi => by
  rcases Nat.lt_succ_iff_lt_or_eq.1 hi with h1 | rfl
  · exact h i h1
  · exact e

theorem alln_not {P : Nat → Prop} {k n : Nat} (h : k < n) (e : ¬ P k) : ¬ Alln n P := fun g => e (g k h)

def at0 (l : List Rec) (i : Nat) : Rec := l.getD i zr

theorem at0_get {l : List Rec} {i : Nat} (h : i < l.length) : at0 l i = l[i] := by
  simp [at0, h]

theorem at0_mem {l : List Rec} {i : Nat} (h : i < l.length) : at0 l i ∈ l := by rw [at0_get h]; exact List.getElem_mem h

theorem mem_at0 {l : List Rec} {r : Rec} (h : r ∈ l) : ∃ i, i < l.length ∧ at0 l i = r := by
  obtain ⟨i, hi, e⟩ := List.getElem_of_mem h
  exact ⟨i, hi, by rw [at0_get hi]; exact e⟩

/-- The name stands under the apex. -/
def Pu (s : ByteArray) (l : List Rec) (i : Nat) : Prop := Un (at0 l i).name s = true

/-- The record comes behind the one ahead of it, and both have one time to live if they have one key. -/
def Po (l : List Rec) (i : Nat) : Prop := i = 0 ∨ (lr (at0 l (i - 1)) (at0 l i) = true ∧ ¬ ((at0 l (i - 1)).name = (at0 l i).name ∧ (at0 l (i - 1)).ty = (at0 l i).ty ∧ (at0 l (i - 1)).ttl ≠ (at0 l i).ttl))

/-- A start is the one start. -/
def Pt (l : List Rec) (t : Rec) (i : Nat) : Prop := (at0 l i).ty = 6 → at0 l i = t

/-- Another record with the name of an alias. -/
def Pn (l : List Rec) (r : Rec) (k : Nat) : Prop := ¬ ((at0 l k).name = r.name ∧ at0 l k ≠ r)

/-- An alias stands alone, and not at the apex. -/
def Pa (s : ByteArray) (l : List Rec) (i : Nat) : Prop := (at0 l i).ty = 5 → (at0 l i).name ≠ s ∧ Alln l.length (Pn l (at0 l i))

/-- What lies under a cut: its servers, and addresses. -/
noncomputable def Pc (s : ByteArray) (l : List Rec) (i : Nat) : Prop := ∀ c, co (at0 l i).name (uq (cn s l)) = some c → (at0 l i).ty ≠ 1 → ((at0 l i).name = c ∧ (at0 l i).ty = 2)

/-- The apex has one start and a server. -/
noncomputable def Ap (s : ByteArray) (l : List Rec) : Prop := ((st l).name = s ∧ (st l).ty = 6) ∧ Alln l.length (Pt l (st l)) ∧ sf s 2 l ≠ []

/-- No other record than the i-th has an alias' name. -/
def Pk (l : List Rec) (i k : Nat) : Prop := ¬ ((at0 l i).ty = 5 ∧ k ≠ i ∧ (at0 l k).name = (at0 l i).name)

/-- A record may stand in a zone, and behind the one ahead of it. -/
noncomputable def Ps (s : ByteArray) (l : List Rec) (i : Nat) : Prop :=
  (rok (at0 l i) = true ∧ Pu s l i) ∧ Po l i ∧ (¬ ((at0 l i).ty = 6 ∧ (at0 l i).name ≠ s) ∧ ¬ ((at0 l i).ty = 5 ∧ (at0 l i).name = s)) ∧ Alln l.length (Pk l i) ∧ Pc s l i

/-- How many starts there are. -/
def n6 (l : List Rec) : Nat := (l.filter (fun r => decide (r.ty = 6))).length

theorem n6_take (l : List Rec) (k : Nat) (h : k < l.length) : n6 (l.take (k + 1)) = n6 (l.take k) + (if l[k].ty = 6 then 1 else 0) := by
  unfold n6
  rw [filter_take _ _ _ h, List.length_append]
  by_cases e : l[k].ty = 6 <;> simp [e]

theorem n6_le (l : List Rec) : n6 l ≤ l.length := List.length_filter_le _ _

theorem n2_take (s : ByteArray) (l : List Rec) (k : Nat) (h : k < l.length) : (sf s 2 (l.take (k + 1))).length = (sf s 2 (l.take k)).length + (if isk s 2 l[k] = true then 1 else 0) := by
  rw [sf_take _ _ _ _ h, List.length_append]
  split <;> rfl

/-- A valid zone, as the model asks it. -/
noncomputable def Zok (s : ByteArray) (l : List Rec) : Prop := (Nm s = true ∧ l.length ≤ 20) ∧ Alln l.length (Ps s l) ∧ n6 l = 1 ∧ 0 < (sf s 2 l).length

/-- A valid zone, as the program asks it. -/
noncomputable def Zki (s : ByteArray) (l : List Rec) : Prop := (Nm s = true ∧ (l.length ≤ 20 ∧ ∀ r ∈ l, rok r = true)) ∧ Alln l.length (Pu s l) ∧ Alln l.length (Po l) ∧ Ap s l ∧ Alln l.length (Pa s l) ∧ Alln l.length (Pc s l)

theorem chain {l : List Rec} (h : Alln l.length (Po l)) : ∀ i j, i < j → j < l.length → lr (at0 l i) (at0 l j) = true := by
  intro i j
  induction j with
  | zero => intro h1; omega
  | succ j ih =>
    intro h1 h2
    have hp := h (j + 1) h2
    rcases hp with hp | ⟨hp, _⟩
    · omega
    · rw [Nat.add_sub_cancel] at hp
      by_cases e : i = j
      · subst e; exact hp
      · exact rec_ord.tr _ _ _ (ih (by omega) (by omega)) hp

theorem inj {l : List Rec} (h : Alln l.length (Po l)) {i j : Nat} (hi : i < l.length) (hj : j < l.length) (e : at0 l i = at0 l j) : i = j := by
  rcases Nat.lt_trichotomy i j with h1 | h1 | h1
  · exact absurd e (rec_ord.ne (chain h i j h1 hj))
  · exact h1
  · exact absurd e.symm (rec_ord.ne (chain h j i h1 hi))

theorem nodup {l : List Rec} (h : Alln l.length (Po l)) : l.Nodup := by
  refine List.pairwise_iff_getElem.2 fun i j hi hj hij e => ?_
  have := inj h hi hj (by rw [at0_get hi, at0_get hj]; exact e)
  omega

theorem st_ty {l : List Rec} (h : (st l).ty = 6) : st l ∈ l := by
  unfold st at *
  cases hf : l.find? (fun r => decide (r.ty = 6)) with
  | none => rw [hf] at h; exact absurd h (by decide)
  | some r => exact List.mem_of_find?_eq_some hf

theorem st_of {l : List Rec} {r : Rec} (h : l.filter (fun r => decide (r.ty = 6)) = [r]) : st l = r := by
  unfold st
  rw [← List.head?_filter, h]
  rfl

theorem one_of {L : List Rec} {a : Rec} (hall : ∀ x ∈ L, x = a) (hin : a ∈ L) (hd : L.Nodup) : L.length = 1 := by
  match L, hall, hin, hd with
  | [], _, hin, _ => cases hin
  | [_], _, _, _ => rfl
  | x :: y :: t, hall, _, hnd =>
    have ha := hall x (by simp)
    have hb := hall y (by simp)
    rw [List.nodup_cons] at hnd
    exact absurd (by rw [ha, hb]; simp) hnd.1

theorem one_start {s : ByteArray} {l : List Rec} (hd : l.Nodup) : (n6 l = 1 ∧ ∀ i, i < l.length → ¬ ((at0 l i).ty = 6 ∧ (at0 l i).name ≠ s)) ↔ (((st l).name = s ∧ (st l).ty = 6) ∧ Alln l.length (Pt l (st l))) := by
  constructor
  · rintro ⟨h1, h2⟩
    obtain ⟨r, hr⟩ := List.length_eq_one_iff.1 h1
    have hs := st_of hr
    have hm : r ∈ l.filter (fun r => decide (r.ty = 6)) := by rw [hr]; exact List.mem_singleton.2 rfl
    obtain ⟨hm1, hm2⟩ := List.mem_filter.1 hm
    have hty : r.ty = 6 := by simpa using hm2
    obtain ⟨i, hi, he⟩ := mem_at0 hm1
    refine ⟨⟨?_, by rw [hs]; exact hty⟩, fun i hi ht => ?_⟩
    · rw [hs, ← he]
      refine Classical.byContradiction fun hn => h2 i hi ⟨by rw [he]; exact hty, hn⟩
    · have : at0 l i ∈ l.filter (fun r => decide (r.ty = 6)) := List.mem_filter.2 ⟨at0_mem hi, by simpa using ht⟩
      rw [hr, List.mem_singleton] at this
      rw [hs, this]
  · rintro ⟨⟨h1, h2⟩, h3⟩
    have hm := st_ty h2
    have hall : ∀ x ∈ l.filter (fun r => decide (r.ty = 6)), x = st l := fun x hx => by
      obtain ⟨hx1, hx2⟩ := List.mem_filter.1 hx
      obtain ⟨i, hi, rfl⟩ := mem_at0 hx1
      exact h3 i hi (by simpa using hx2)
    have hin : st l ∈ l.filter (fun r => decide (r.ty = 6)) := List.mem_filter.2 ⟨hm, by simpa using h2⟩
    have hnd : (l.filter (fun r => decide (r.ty = 6))).Nodup := hd.filter _
    constructor
    · unfold n6
      exact one_of hall hin hnd
    · rintro i hi ⟨ht, hn⟩
      exact hn (by rw [h3 i hi ht]; exact h1)

theorem alias_iff {s : ByteArray} {l : List Rec} (ho : Alln l.length (Po l)) {i : Nat} (hi : i < l.length) : (¬ ((at0 l i).ty = 5 ∧ (at0 l i).name = s) ∧ Alln l.length (Pk l i)) ↔ Pa s l i := by
  constructor
  · rintro ⟨h1, h2⟩ ht
    refine ⟨fun e => h1 ⟨ht, e⟩, fun k hk hn => ?_⟩
    obtain ⟨hn, hd⟩ := hn
    exact h2 k hk ⟨ht, fun e => hd (by rw [e]), hn⟩
  · intro h
    refine ⟨fun ⟨ht, e⟩ => (h ht).1 e, fun k hk ⟨ht, hne, hn⟩ => ?_⟩
    exact (h ht).2 k hk ⟨hn, fun e => hne (inj ho hk hi e)⟩

theorem zok_iff {s : ByteArray} {l : List Rec} : Zok s l ↔ Zki s l := by
  constructor
  · rintro ⟨⟨h1, h2⟩, h3, h4, h5⟩
    have ho : Alln l.length (Po l) := fun i hi => (h3 i hi).2.1
    have hs := (one_start (s := s) (nodup ho)).1 ⟨h4, fun i hi => (h3 i hi).2.2.1.1⟩
    refine ⟨⟨h1, h2, fun r hr => ?_⟩, fun i hi => (h3 i hi).1.2, ho, ⟨hs.1, hs.2, fun e => by rw [e] at h5; cases h5⟩, fun i hi => ?_, fun i hi => (h3 i hi).2.2.2.2⟩
    · obtain ⟨i, hi, rfl⟩ := mem_at0 hr
      exact (h3 i hi).1.1
    · exact (alias_iff ho hi).1 ⟨(h3 i hi).2.2.1.2, (h3 i hi).2.2.2.1⟩
  · rintro ⟨⟨h1, h2, h2'⟩, h3, ho, ⟨h4, h5, h6⟩, h7, h8⟩
    have hs := (one_start (s := s) (nodup ho)).2 ⟨h4, h5⟩
    refine ⟨⟨h1, h2⟩, fun i hi => ?_, hs.1, List.length_pos_iff.2 h6⟩
    have ha := (alias_iff (s := s) ho hi).2 (h7 i hi)
    exact ⟨⟨h2' _ (at0_mem hi), h3 i hi⟩, ho i hi, ⟨hs.2 i hi, ha.1⟩, ha.2, h8 i hi⟩

/-- Whether a zone is valid. -/
noncomputable def zok (s : ByteArray) (l : List Rec) : Bool := dec (Zok s l)

end Go.Proofs.Ytjgmocmaeadjdaa.ZokMath
