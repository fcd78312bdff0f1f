/- A map of slices of records, one for each key: what it is, and that it is so again behind one more record. -/
import Derived.Test.YtmabbeefeipnaaaMapE
import Derived.Test.YtmabbeefeipnaaaMemQ
import Derived.Test.YtmabbeefeipnaaaAppR
namespace Go.Proofs.Ytmabbeefeipnaaa.GrpM
open Go.RowKit Go.Proofs.Ytmabbeefeipnaaa.Mem Go.Proofs.Ytmabbeefeipnaaa.MemR Go.Proofs.Ytmabbeefeipnaaa.SetMath Go.Proofs.Ytmabbeefeipnaaa.MemQ Go.Proofs.Ytmabbeefeipnaaa.MapK Go.Proofs.Ytmabbeefeipnaaa.MapE

/-- An entry: the key, the block of the slice, its length and its capacity. -/
structure Ge where
  q : Key
  g : Nat
  m : Nat
  cap : Nat

/-- Its slice. -/
def sv (e : Ge) : Value := .slice (some ⟨e.g, 0, none⟩) e.m e.cap

/-- The entries as the map holds them. -/
def ev (es : List Ge) : List (Value × Value) := es.map (fun e => (qv e.q, sv e))

/-- The records of a key. -/
noncomputable def sq (q : Key) (l : List Rec) : List Rec := sf q.name q.ty l

theorem sq_snoc (q : Key) (l : List Rec) (r : Rec) : sq q (l ++ [r]) = sq q l ++ (if isk q.name q.ty r = true then [r] else []) := by
  rw [sq, sf, List.filter_append, List.filter_cons, List.filter_nil]; rfl

theorem sq_same (l : List Rec) (r : Rec) : sq (ky r) (l ++ [r]) = sq (ky r) l ++ [r] := by
  rw [sq_snoc, show isk (ky r).name (ky r).ty r = true from isk_true ⟨rfl, rfl⟩, if_pos rfl]

theorem sq_other {q : Key} (l : List Rec) {r : Rec} (h : q ≠ ky r) : sq q (l ++ [r]) = sq q l := by
  rw [sq_snoc, isk_false (fun e => h (by obtain ⟨a, b⟩ := q; simp only at e; rw [ky, e.1, e.2])), if_neg (by decide), List.append_nil]

theorem sq_none {q : Key} {l : List Rec} (h : q ∉ kl l) : sq q l = [] := by
  refine List.filter_eq_nil_iff.2 (fun r hr hk => h ?_)
  refine List.mem_map.2 ⟨r, hr, ?_⟩
  obtain ⟨h1, h2⟩ := isk_iff.1 hk
  obtain ⟨a, b⟩ := q
  rw [ky, h1, h2]

theorem uq_kl (l : List Rec) (r : Rec) : uq (kl (l ++ [r])) = add (uq (kl l)) (ky r) := by
  rw [show kl (l ++ [r]) = kl l ++ [ky r] from by rw [kl, List.map_append]; rfl, uq_snoc]

/-- Block b is a map that holds, for each key of the records l, its records in a row of the call's own, from base on; no two in one row. -/
def Gr (w : World) (base b : Nat) (l : List Rec) : Prop := ∃ es : List Ge, Mp w b (ev es) ∧ es.map (·.q) = uq (kl l) ∧
  (∀ (i : Nat) (e : Ge), es[i]? = some e → w.ownsRow base 68 6 (sv e) e.m (fl (sq e.q l))) ∧ (∀ (i i' : Nat) (e e' : Ge), es[i]? = some e → es[i']? = some e' → i ≠ i' → e.g ≠ e'.g)

section
variable {w w' w2 w3 w4 : World} {base b g' cap' : Nat} {l : List Rec} {es : List Ge}

theorem ev_key (es : List Ge) : ∀ p ∈ ev es, ∃ q : Key, p.1 = qv q := by
  intro p hp
  obtain ⟨e, _, rfl⟩ := List.mem_map.1 hp
  exact ⟨_, rfl⟩

theorem qv_inj {q p : Key} (h : qv q = qv p) : q = p := by
  obtain ⟨a, b⟩ := q
  obtain ⟨c, d⟩ := p
  simp [qv] at h
  rw [h.1, h.2]

theorem ev_nodup : ∀ {es : List Ge}, (es.map (·.q)).Nodup → ((ev es).map Prod.fst).Nodup
  | [], _ => by simp [ev]
  | e :: es, h => by
    rw [List.map_cons] at h
    obtain ⟨h1, h2⟩ := List.nodup_cons.1 h
    show (qv e.q :: (ev es).map Prod.fst).Nodup
    refine List.nodup_cons.2 ⟨fun hm => ?_, ev_nodup h2⟩
    obtain ⟨p, hp, he⟩ := List.mem_map.1 hm
    obtain ⟨e', he', rfl⟩ := List.mem_map.1 hp
    exact h1 (List.mem_map.2 ⟨e', he', qv_inj he⟩)

theorem ev_out {q : Key} (h : q ∉ es.map (·.q)) : ∀ p ∈ ev es, p.1 ≠ qv q := by
  intro p hp e
  obtain ⟨e', he', rfl⟩ := List.mem_map.1 hp
  exact h (List.mem_map.2 ⟨e', he', qv_inj e⟩)

theorem ev_at {i : Nat} {e : Ge} (h : es[i]? = some e) : (ev es)[i]? = some (qv e.q, sv e) := by rw [ev, List.getElem?_map, h]; rfl

theorem own_kept {e : Ge} {xs : List Value} {row : Option Nat} (h : w.ownsRow base 68 6 (sv e) e.m xs) (hg : w.grownBy w' row) (hne : some e.g ≠ row) : w'.ownsRow base 68 6 (sv e) e.m xs := h.kept hg (Or.inr hne)

theorem own_lt {e : Ge} {xs : List Value} (h : w.ownsRow base 68 6 (sv e) e.m xs) : base ≤ e.g ∧ e.g < w.heap.size := h.lt e.g rfl

theorem own_m {e : Ge} (h : w.ownsRow base 68 6 (sv e) e.m (fl (sq e.q l))) : (sq e.q l).length = e.m := by have := h.1; rw [fl_len] at this; omega

/-- Nothing of the groups is turned by what turns other blocks. -/
theorem rows_kept {row : Option Nat} (h : ∀ (i : Nat) (e : Ge), es[i]? = some e → w.ownsRow base 68 6 (sv e) e.m (fl (sq e.q l))) (hg : w.grownBy w' row) (hne : ∀ g, base ≤ g → g < w.heap.size → some g ≠ row) :
    ∀ (i : Nat) (e : Ge), es[i]? = some e → w'.ownsRow base 68 6 (sv e) e.m (fl (sq e.q l)) := fun i e he => by
  have h1 := own_lt (h i e he)
  exact own_kept (h i e he) hg (hne _ h1.1 h1.2)

/-- One more record of a key that is there. -/
theorem gr_old (hq : es.map (·.q) = uq (kl l)) (ho : ∀ (i : Nat) (e : Ge), es[i]? = some e → w2.ownsRow base 68 6 (sv e) e.m (fl (sq e.q l))) (hd : ∀ (i i' : Nat) (e e' : Ge), es[i]? = some e → es[i']? = some e' → i ≠ i' → e.g ≠ e'.g)
    {j : Nat} {e : Ge} {r : Rec} (hj : es[j]? = some e) (hk : e.q = ky r) (hgr : w2.grownBy w3 (some e.g)) (hown : w3.ownsRow base 68 6 (.slice (some ⟨g', 0, none⟩) (e.m + 1) cap') (e.m + 1) (fl (sq e.q l) ++ fl [r])) (hl : e.g = g' ∨ g' = w2.heap.size)
    (hb : b < base) (h4 : w3.grownBy w4 (some b)) (hm : Mp w4 b ((ev es).set j (qv (ky r), .slice (some ⟨g', 0, none⟩) (e.m + 1) cap'))) : Gr w4 base b (l ++ [r]) := by
  have hnd : (es.map (·.q)).Nodup := hq ▸ nodup_uq _
  have hjl : j < es.length := (List.getElem?_eq_some_iff.1 hj).1
  have hin : ky r ∈ uq (kl l) := by rw [← hq, ← hk]; exact List.mem_map.2 ⟨e, List.mem_of_getElem? hj, rfl⟩
  have hother : ∀ (i : Nat) (e' : Ge), es[i]? = some e' → i ≠ j → e'.q ≠ ky r := fun i e' he' hne hqq => hne (nodup_inj hnd (a := ky r) (by rw [List.getElem?_map, he', Option.map_some, hqq]) (by rw [List.getElem?_map, hj, Option.map_some, hk]))
  have hg' : base ≤ g' := (hown.lt g' rfl).1
  refine ⟨es.set j ⟨ky r, g', e.m + 1, cap'⟩, ?_, ?_, ?_, ?_⟩
  · have : ev (es.set j ⟨ky r, g', e.m + 1, cap'⟩) = (ev es).set j (qv (ky r), .slice (some ⟨g', 0, none⟩) (e.m + 1) cap') := by rw [ev, List.map_set]; rfl
    rw [this]; exact hm
  · rw [List.map_set, uq_kl, add_in hin]
    show (es.map (·.q)).set j (ky r) = uq (kl l)
    rw [hq]
    refine List.ext_getElem? fun i => ?_
    rw [List.getElem?_set]
    by_cases hi : j = i
    · subst hi
      have h1 : j < (uq (kl l)).length := by rw [← hq, List.length_map]; exact hjl
      have h2 : (uq (kl l))[j]? = some (ky r) := by rw [← hq, List.getElem?_map, hj, Option.map_some, hk]
      rw [if_pos rfl, if_pos h1, h2]
    · rw [if_neg hi]
  · intro i e' he'
    rw [List.getElem?_set] at he'
    by_cases hi : j = i
    · subst hi
      simp [hjl] at he'
      subst he'
      have h5 : w4.ownsRow base 68 6 (.slice (some ⟨g', 0, none⟩) (e.m + 1) cap') (e.m + 1) (fl (sq e.q l) ++ fl [r]) := hown.kept h4 (Or.inr (fun h => by have h6 : g' = b := Option.some.inj h; omega))
      rw [hk, ← fl_append, ← sq_same] at h5
      exact h5
    · simp [hi] at he'
      have h5 := own_kept (ho i e' he') hgr (fun h => hd i j e' e he' hj (fun h => hi h.symm) (Option.some.inj h))
      have h7 := own_lt h5
      have h6 := own_kept h5 h4 (fun h => by have h8 : e'.g = b := Option.some.inj h; omega)
      rw [sq_other l (hother i e' he' (fun h => hi h.symm))]
      exact h6
  · intro i i' e1 e2 h1 h2 hne
    rw [List.getElem?_set] at h1 h2
    have aux : ∀ (i : Nat) (e' : Ge), es[i]? = some e' → i ≠ j → g' ≠ e'.g := fun i e' he' hi h => by
      rcases hl with hl | hl
      · exact hd j i e e' hj he' (fun h => hi h.symm) (hl.trans h)
      · have := own_lt (ho i e' he'); omega
    by_cases hi : j = i
    · subst hi
      simp [hjl] at h1
      subst h1
      simp [hne] at h2
      exact aux i' e2 h2 (fun h => hne h.symm)
    · simp [hi] at h1
      by_cases hi' : j = i'
      · subst hi'
        simp [hjl] at h2
        subst h2
        exact fun h => aux i e1 h1 (fun h => hi h.symm) h.symm
      · simp [hi'] at h2
        exact hd i i' e1 e2 h1 h2 hne

/-- One more record of a key that is not there. -/
theorem gr_new (hq : es.map (·.q) = uq (kl l)) (ho : ∀ (i : Nat) (e : Ge), es[i]? = some e → w2.ownsRow base 68 6 (sv e) e.m (fl (sq e.q l))) (hd : ∀ (i i' : Nat) (e e' : Ge), es[i]? = some e → es[i']? = some e' → i ≠ i' → e.g ≠ e'.g)
    {r : Rec} (hk : ky r ∉ uq (kl l)) (hgr : w2.grownBy w3 none) (hown : w3.ownsRow base 68 6 (.slice (some ⟨g', 0, none⟩) 1 cap') 1 (fl [r])) (hl : g' = w2.heap.size)
    (hb : b < base) (h4 : w3.grownBy w4 (some b)) (hm : Mp w4 b (ev es ++ [(qv (ky r), .slice (some ⟨g', 0, none⟩) 1 cap')])) : Gr w4 base b (l ++ [r]) := by
  have hother : ∀ (i : Nat) (e' : Ge), es[i]? = some e' → e'.q ≠ ky r := fun i e' he' hqq => hk (by rw [← hq, ← hqq]; exact List.mem_map.2 ⟨e', List.mem_of_getElem? he', rfl⟩)
  have hg' : base ≤ g' := (hown.lt g' rfl).1
  have hcase : ∀ (i : Nat) (e' : Ge), (es ++ [(⟨ky r, g', 1, cap'⟩ : Ge)])[i]? = some e' → (i < es.length ∧ es[i]? = some e') ∨ (i = es.length ∧ e' = ⟨ky r, g', 1, cap'⟩) := by
    intro i e' h
    by_cases hi : i < es.length
    · rw [List.getElem?_append_left hi] at h; exact Or.inl ⟨hi, h⟩
    · rw [List.getElem?_append_right (by omega)] at h
      have h0 : i - es.length = 0 := by
        have := (List.getElem?_eq_some_iff.1 h).1
        simpa using this
      rw [h0] at h
      exact Or.inr ⟨by omega, by simpa using h.symm⟩
  refine ⟨es ++ [⟨ky r, g', 1, cap'⟩], ?_, ?_, ?_, ?_⟩
  · have : ev (es ++ [⟨ky r, g', 1, cap'⟩]) = ev es ++ [(qv (ky r), .slice (some ⟨g', 0, none⟩) 1 cap')] := by rw [ev, List.map_append]; rfl
    rw [this]; exact hm
  · rw [List.map_append, uq_kl]
    show es.map (·.q) ++ [ky r] = add (uq (kl l)) (ky r)
    rw [add_out hk, hq]
  · intro i e' he'
    rcases hcase i e' he' with ⟨_, h⟩ | ⟨_, rfl⟩
    · have h5 := own_kept (ho i e' h) hgr (by simp)
      have h7 := own_lt h5
      have h6 := own_kept h5 h4 (fun h => by have h8 : e'.g = b := Option.some.inj h; omega)
      rw [sq_other l (hother i e' h)]
      exact h6
    · have h5 : w4.ownsRow base 68 6 (.slice (some ⟨g', 0, none⟩) 1 cap') 1 (fl [r]) := hown.kept h4 (Or.inr (fun h => by have h6 : g' = b := Option.some.inj h; omega))
      have h6 : sq (ky r) (l ++ [r]) = [r] := by rw [sq_same, sq_none (fun h => hk (mem_uq.2 h)), List.nil_append]
      show w4.ownsRow base 68 6 (.slice (some ⟨g', 0, none⟩) 1 cap') 1 (fl (sq (ky r) (l ++ [r])))
      rw [h6]
      exact h5
  · intro i i' e1 e2 h1 h2 hne
    rcases hcase i e1 h1 with ⟨hi, h1⟩ | ⟨hi, rfl⟩
    · rcases hcase i' e2 h2 with ⟨_, h2⟩ | ⟨_, rfl⟩
      · exact hd i i' e1 e2 h1 h2 hne
      · have := own_lt (ho i e1 h1)
        intro h
        have h8 : e1.g = g' := h
        omega
    · rcases hcase i' e2 h2 with ⟨_, h2⟩ | ⟨hi', rfl⟩
      · have := own_lt (ho i' e2 h2)
        intro h
        have h8 : g' = e2.g := h
        omega
      · omega
end
end Go.Proofs.Ytmabbeefeipnaaa.GrpM
