/- What a record that comes in, and a slice of records that comes in, read as. -/
import Derived.Test.YtmabbeefeipnaaaMapE
import Derived.Test.YtmabbeefeipnaaaMemQ
import Derived.Test.YtmabbeefeipnaaaAppR
import Derived.Test.YtmabbeefeipnaaaKeyT
import Derived.Test.YtmabbeefeipnaaaWt
import Derived.Deep.DeepCutAuto
import Derived.Test.YtmabbeefeipnaaaZoneMath
import Derived.Test.YtmabbeefeipnaaaMemZ
import Derived.Test.YtmabbeefeipnaaaMemS
import Derived.Test.YtmabbeefeipnaaaServeMath
import Derived.Test.YtmabbeefeipnaaaInZoneI
import Derived.Test.YtmabbeefeipnaaaExistsI
import Derived.Test.YtmabbeefeipnaaaKindS
import Derived.Test.YtmabbeefeipnaaaSzZ
import Derived.Test.YtmabbeefeipnaaaToZ
import Derived.Test.YtmabbeefeipnaaaEqZ
import Derived.Test.YtmabbeefeipnaaaSzM
import Derived.Test.YtmabbeefeipnaaaToM
import Derived.Test.YtmabbeefeipnaaaMarkZ
import Derived.Deep.RegionHeld3
import Derived.Test.YtmabbeefeipnaaaMemR
import Derived.Deep.Slices
import Derived.Deep.Fields
import Derived.ChangeSame
import Derived.ProofKit
import Derived.OpenShut
/- A map of slices of records, one for each key: what it is, and that it is so again behind one more record. -/
namespace Go.Proofs.Ytmabbeefeipnaaa.GrpM
open Go.RowKit Go.Proofs.Ytmabbeefeipnaaa.Mem Go.Proofs.Ytmabbeefeipnaaa.MemR Go.Proofs.Ytmabbeefeipnaaa.SetMath Go.Proofs.Ytmabbeefeipnaaa.MemQ Go.Proofs.Ytmabbeefeipnaaa.MapK Go.Proofs.Ytmabbeefeipnaaa.MapE

/-- An entry: the key, the block of the slice, its length and its capacity. -/
structure Ge where
  q : Key
  g : Nat
  m : Nat
  cap : Nat

/-- Its slice. -/
def sv (e : Ge) : Value := .slice (some ⟨e.g, 0, none⟩) e.m e.cap

/-- The entries as the map holds them. -/
def ev (es : List Ge) : List (Value × Value) := es.map (fun e => (qv e.q, sv e))

/-- The records of a key. -/
noncomputable def sq (q : Key) (l : List Rec) : List Rec := sf q.name q.ty l

theorem sq_snoc (q : Key) (l : List Rec) (r : Rec) : sq q (l ++ [r]) = sq q l ++ (if isk q.name q.ty r = true then [r] else []) := by
  rw [sq, sf, List.filter_append, List.filter_cons, List.filter_nil]; rfl

theorem sq_same (l : List Rec) (r : Rec) : sq (ky r) (l ++ [r]) = sq (ky r) l ++ [r] := by
  rw [sq_snoc, show isk (ky r).name (ky r).ty r = true from isk_true ⟨rfl, rfl⟩, if_pos rfl]

theorem sq_other {q : Key} (l : List Rec) {r : Rec} (h : q ≠ ky r) : sq q (l ++ [r]) = sq q l := by
  rw [sq_snoc, isk_false (fun e => h (by obtain ⟨a, b⟩ := q; simp only at e; rw [ky, e.1, e.2])), if_neg (by decide), List.append_nil]

theorem sq_none {q : Key} {l : List Rec} (h : q ∉ kl l) : sq q l = [] := by
  refine List.filter_eq_nil_iff.2 (fun r hr hk => h ?_)
  refine List.mem_map.2 ⟨r, hr, ?_⟩
  obtain ⟨h1, h2⟩ := isk_iff.1 hk
  obtain ⟨a, b⟩ := q
  rw [ky, h1, h2]

theorem uq_kl (l : List Rec) (r : Rec) : uq (kl (l ++ [r])) = add (uq (kl l)) (ky r) := by
  rw [show kl (l ++ [r]) = kl l ++ [ky r] from by rw [kl, List.map_append]; rfl, uq_snoc]

/-- Block b is a map that holds, for each key of the records l, its records in a row of the call's own, from base on; no two in one row. -/
def Gr (w : World) (base b : Nat) (l : List Rec) : Prop := ∃ es : List Ge, Mp w b (ev es) ∧ es.map (·.q) = uq (kl l) ∧
  (∀ (i : Nat) (e : Ge), es[i]? = some e → w.ownsRow base 68 6 (sv e) e.m (fl (sq e.q l))) ∧ (∀ (i i' : Nat) (e e' : Ge), es[i]? = some e → es[i']? = some e' → i ≠ i' → e.g ≠ e'.g)

section
variable {w w' w2 w3 w4 : World} {base b g' cap' : Nat} {l : List Rec} {es : List Ge}

theorem ev_key (es : List Ge) : ∀ p ∈ ev es, ∃ q : Key, p.1 = qv q := by
  intro p hp
  obtain ⟨e, _, rfl⟩ := List.mem_map.1 hp
  exact ⟨_, rfl⟩

theorem qv_inj {q p : Key} (h : qv q = qv p) : q = p := by
  obtain ⟨a, b⟩ := q
  obtain ⟨c, d⟩ := p
  simp [qv] at h
  rw [h.1, h.2]

theorem ev_nodup : ∀ {es : List Ge}, (es.map (·.q)).Nodup → ((ev es).map Prod.fst).Nodup
  | [], _ => by simp [ev]
  | e :: es, h => by
    rw [List.map_cons] at h
    obtain ⟨h1, h2⟩ := List.nodup_cons.1 h
    show (qv e.q :: (ev es).map Prod.fst).Nodup
    refine List.nodup_cons.2 ⟨fun hm => ?_, ev_nodup h2⟩
    obtain ⟨p, hp, he⟩ := List.mem_map.1 hm
    obtain ⟨e', he', rfl⟩ := List.mem_map.1 hp
    exact h1 (List.mem_map.2 ⟨e', he', qv_inj he⟩)

theorem ev_out {q : Key} (h : q ∉ es.map (·.q)) : ∀ p ∈ ev es, p.1 ≠ qv q := by
  intro p hp e
  obtain ⟨e', he', rfl⟩ := List.mem_map.1 hp
  exact h (List.mem_map.2 ⟨e', he', qv_inj e⟩)

theorem ev_at {i : Nat} {e : Ge} (h : es[i]? = some e) : (ev es)[i]? = some (qv e.q, sv e) := by rw [ev, List.getElem?_map, h]; rfl

theorem own_kept {e : Ge} {xs : List Value} {row : Option Nat} (h : w.ownsRow base 68 6 (sv e) e.m xs) (hg : w.grownBy w' row) (hne : some e.g ≠ row) : w'.ownsRow base 68 6 (sv e) e.m xs := h.kept hg (Or.inr hne)

theorem own_lt {e : Ge} {xs : List Value} (h : w.ownsRow base 68 6 (sv e) e.m xs) : base ≤ e.g ∧ e.g < w.heap.size := h.lt e.g rfl

theorem own_m {e : Ge} (h : w.ownsRow base 68 6 (sv e) e.m (fl (sq e.q l))) : (sq e.q l).length = e.m := by have := h.1; rw [fl_len] at this; omega

/-- Nothing of the groups is turned by what turns other blocks. -/
theorem rows_kept {row : Option Nat} (h : ∀ (i : Nat) (e : Ge), es[i]? = some e → w.ownsRow base 68 6 (sv e) e.m (fl (sq e.q l))) (hg : w.grownBy w' row) (hne : ∀ g, base ≤ g → g < w.heap.size → some g ≠ row) :
    ∀ (i : Nat) (e : Ge), es[i]? = some e → w'.ownsRow base 68 6 (sv e) e.m (fl (sq e.q l)) := fun i e he => by
  have h1 := own_lt (h i e he)
  exact own_kept (h i e he) hg (hne _ h1.1 h1.2)

/-- One more record of a key that is there. -/
theorem gr_old (hq : es.map (·.q) = uq (kl l)) (ho : ∀ (i : Nat) (e : Ge), es[i]? = some e → w2.ownsRow base 68 6 (sv e) e.m (fl (sq e.q l))) (hd : ∀ (i i' : Nat) (e e' : Ge), es[i]? = some e → es[i']? = some e' → i ≠ i' → e.g ≠ e'.g)
    {j : Nat} {e : Ge} {r : Rec} (hj : es[j]? = some e) (hk : e.q = ky r) (hgr : w2.grownBy w3 (some e.g)) (hown : w3.ownsRow base 68 6 (.slice (some ⟨g', 0, none⟩) (e.m + 1) cap') (e.m + 1) (fl (sq e.q l) ++ fl [r])) (hl : e.g = g' ∨ g' = w2.heap.size)
    (hb : b < base) (h4 : w3.grownBy w4 (some b)) (hm : Mp w4 b ((ev es).set j (qv (ky r), .slice (some ⟨g', 0, none⟩) (e.m + 1) cap'))) : Gr w4 base b (l ++ [r]) := by
  have hnd : (es.map (·.q)).Nodup := hq ▸ nodup_uq _
  have hjl : j < es.length := (List.getElem?_eq_some_iff.1 hj).1
  have hin : ky r ∈ uq (kl l) := by rw [← hq, ← hk]; exact List.mem_map.2 ⟨e, List.mem_of_getElem? hj, rfl⟩
  have hother : ∀ (i : Nat) (e' : Ge), es[i]? = some e' → i ≠ j → e'.q ≠ ky r := fun i e' he' hne hqq => hne (nodup_inj hnd (a := ky r) (by rw [List.getElem?_map, he', Option.map_some, hqq]) (by rw [List.getElem?_map, hj, Option.map_some, hk]))
  have hg' : base ≤ g' := (hown.lt g' rfl).1
  refine ⟨es.set j ⟨ky r, g', e.m + 1, cap'⟩, ?_, ?_, ?_, ?_⟩
  · have : ev (es.set j ⟨ky r, g', e.m + 1, cap'⟩) = (ev es).set j (qv (ky r), .slice (some ⟨g', 0, none⟩) (e.m + 1) cap') := by rw [ev, List.map_set]; rfl
    rw [this]; exact hm
  · rw [List.map_set, uq_kl, add_in hin]
    show (es.map (·.q)).set j (ky r) = uq (kl l)
    rw [hq]
    refine List.ext_getElem? fun i => ?_
    rw [List.getElem?_set]
    by_cases hi : j = i
    · subst hi
      have h1 : j < (uq (kl l)).length := by rw [← hq, List.length_map]; exact hjl
      have h2 : (uq (kl l))[j]? = some (ky r) := by rw [← hq, List.getElem?_map, hj, Option.map_some, hk]
      rw [if_pos rfl, if_pos h1, h2]
    · rw [if_neg hi]
  · intro i e' he'
    rw [List.getElem?_set] at he'
    by_cases hi : j = i
    · subst hi
      simp [hjl] at he'
      subst he'
      have h5 : w4.ownsRow base 68 6 (.slice (some ⟨g', 0, none⟩) (e.m + 1) cap') (e.m + 1) (fl (sq e.q l) ++ fl [r]) := hown.kept h4 (Or.inr (fun h => by have h6 : g' = b := Option.some.inj h; omega))
      rw [hk, ← fl_append, ← sq_same] at h5
      exact h5
    · simp [hi] at he'
      have h5 := own_kept (ho i e' he') hgr (fun h => hd i j e' e he' hj (fun h => hi h.symm) (Option.some.inj h))
      have h7 := own_lt h5
      have h6 := own_kept h5 h4 (fun h => by have h8 : e'.g = b := Option.some.inj h; omega)
      rw [sq_other l (hother i e' he' (fun h => hi h.symm))]
      exact h6
  · intro i i' e1 e2 h1 h2 hne
    rw [List.getElem?_set] at h1 h2
    have aux : ∀ (i : Nat) (e' : Ge), es[i]? = some e' → i ≠ j → g' ≠ e'.g := fun i e' he' hi h => by
      rcases hl with hl | hl
      · exact hd j i e e' hj he' (fun h => hi h.symm) (hl.trans h)
      · have := own_lt (ho i e' he'); omega
    by_cases hi : j = i
    · subst hi
      simp [hjl] at h1
      subst h1
      simp [hne] at h2
      exact aux i' e2 h2 (fun h => hne h.symm)
    · simp [hi] at h1
      by_cases hi' : j = i'
      · subst hi'
        simp [hjl] at h2
        subst h2
        exact fun h => aux i e1 h1 (fun h => hi h.symm) h.symm
      · simp [hi'] at h2
        exact hd i i' e1 e2 h1 h2 hne

/-- One more record of a key that is not there. -/
theorem gr_new (hq : es.map (·.q) = uq (kl l)) (ho : ∀ (i : Nat) (e : Ge), es[i]? = some e → w2.ownsRow base 68 6 (sv e) e.m (fl (sq e.q l))) (hd : ∀ (i i' : Nat) (e e' : Ge), es[i]? = some e → es[i']? = some e' → i ≠ i' → e.g ≠ e'.g)
    {r : Rec} (hk : ky r ∉ uq (kl l)) (hgr : w2.grownBy w3 none) (hown : w3.ownsRow base 68 6 (.slice (some ⟨g', 0, none⟩) 1 cap') 1 (fl [r])) (hl : g' = w2.heap.size)
    (hb : b < base) (h4 : w3.grownBy w4 (some b)) (hm : Mp w4 b (ev es ++ [(qv (ky r), .slice (some ⟨g', 0, none⟩) 1 cap')])) : Gr w4 base b (l ++ [r]) := by
  have hother : ∀ (i : Nat) (e' : Ge), es[i]? = some e' → e'.q ≠ ky r := fun i e' he' hqq => hk (by rw [← hq, ← hqq]; exact List.mem_map.2 ⟨e', List.mem_of_getElem? he', rfl⟩)
  have hg' : base ≤ g' := (hown.lt g' rfl).1
  have hcase : ∀ (i : Nat) (e' : Ge), (es ++ [(⟨ky r, g', 1, cap'⟩ : Ge)])[i]? = some e' → (i < es.length ∧ es[i]? = some e') ∨ (i = es.length ∧ e' = ⟨ky r, g', 1, cap'⟩) := by
    intro i e' h
    by_cases hi : i < es.length
    · rw [List.getElem?_append_left hi] at h; exact Or.inl ⟨hi, h⟩
    · rw [List.getElem?_append_right (by omega)] at h
      have h0 : i - es.length = 0 := by
        have := (List.getElem?_eq_some_iff.1 h).1
        simpa using this
      rw [h0] at h
      exact Or.inr ⟨by omega, by simpa using h.symm⟩
  refine ⟨es ++ [⟨ky r, g', 1, cap'⟩], ?_, ?_, ?_, ?_⟩
  · have : ev (es ++ [⟨ky r, g', 1, cap'⟩]) = ev es ++ [(qv (ky r), .slice (some ⟨g', 0, none⟩) 1 cap')] := by rw [ev, List.map_append]; rfl
    rw [this]; exact hm
  · rw [List.map_append, uq_kl]
    show es.map (·.q) ++ [ky r] = add (uq (kl l)) (ky r)
    rw [add_out hk, hq]
  · intro i e' he'
    rcases hcase i e' he' with ⟨_, h⟩ | ⟨_, rfl⟩
    · have h5 := own_kept (ho i e' h) hgr (by simp)
      have h7 := own_lt h5
      have h6 := own_kept h5 h4 (fun h => by have h8 : e'.g = b := Option.some.inj h; omega)
      rw [sq_other l (hother i e' h)]
      exact h6
    · have h5 : w4.ownsRow base 68 6 (.slice (some ⟨g', 0, none⟩) 1 cap') 1 (fl [r]) := hown.kept h4 (Or.inr (fun h => by have h6 : g' = b := Option.some.inj h; omega))
      have h6 : sq (ky r) (l ++ [r]) = [r] := by rw [sq_same, sq_none (fun h => hk (mem_uq.2 h)), List.nil_append]
      show w4.ownsRow base 68 6 (.slice (some ⟨g', 0, none⟩) 1 cap') 1 (fl (sq (ky r) (l ++ [r])))
      rw [h6]
      exact h5
  · intro i i' e1 e2 h1 h2 hne
    rcases hcase i e1 h1 with ⟨hi, h1⟩ | ⟨hi, rfl⟩
    · rcases hcase i' e2 h2 with ⟨_, h2⟩ | ⟨_, rfl⟩
      · exact hd i i' e1 e2 h1 h2 hne
      · have := own_lt (ho i e1 h1)
        intro h
        have h8 : e1.g = g' := h
        omega
    · rcases hcase i' e2 h2 with ⟨_, h2⟩ | ⟨hi', rfl⟩
      · have := own_lt (ho i' e2 h2)
        intro h
        have h8 : g' = e2.g := h
        omega
      · omega
end
end Go.Proofs.Ytmabbeefeipnaaa.GrpM

/- What firstsOf does at questions: a new slice with the questions, each once, in the order of the first occurrences. Condition: fewer than 400000001 of them. -/
namespace Go.Proofs.Ytmabbeefeipnaaa.FstQ
open Go.RowKit Go.Proofs.Ytmabbeefeipnaaa.Mem Go.Proofs.Ytmabbeefeipnaaa.SetMath Go.Proofs.Ytmabbeefeipnaaa.MapK Go.Proofs.Ytmabbeefeipnaaa.KeyT Go.Proofs.Ytmabbeefeipnaaa.MemQ

/-- The entries of a set. -/
def en (l : List Key) : List (Value × Value) := l.map (fun x => (qv x, .bool true))

theorem en_key (l : List Key) : ∀ p ∈ en l, KQ p.1 := by
  intro p hp
  obtain ⟨x, _, rfl⟩ := List.mem_map.1 hp
  exact ⟨x, rfl⟩

theorem val_inj {x y : Key} (h : (qv x : Value) = qv y) : x = y := by exact qv_inj h

theorem en_out {l : List Key} {x : Key} (h : x ∉ l) : ∀ p ∈ en l, p.1 ≠ qv x := by
  intro p hp e
  obtain ⟨y, hy, rfl⟩ := List.mem_map.1 hp
  exact h (val_inj e ▸ hy)

theorem en_in {l : List Key} {x : Key} (h : x ∈ l) : (qv x, Value.bool true) ∈ en l := List.mem_map.2 ⟨x, h, rfl⟩

theorem en_nodup : ∀ {l : List Key}, l.Nodup → ((en l).map Prod.fst).Nodup
  | [], _ => by simp [en]
  | x :: l, h => by
    obtain ⟨h1, h2⟩ := List.nodup_cons.1 h
    show (qv x :: (en l).map Prod.fst).Nodup
    refine List.nodup_cons.2 ⟨fun hm => ?_, en_nodup h2⟩
    obtain ⟨p, hp, he⟩ := List.mem_map.1 hm
    exact en_out h1 p hp he

theorem en_snoc (l : List Key) (x : Key) : en (l ++ [x]) = en l ++ [(qv x, .bool true)] := by simp [en]

theorem zero (w : World) : (zeroValue 4).run Try.prog w = .ok (.bool false) w := by kernel_rfl

theorem made_own (w : World) : ((w.alloc (.map #[] 0)).alloc (.cells #[] 34)).ownsRow (w.heap.size + 1) 34 2 (.slice (some ⟨w.heap.size + 1, 0, none⟩) 0 0) 0 [] := by
  have e : (w.alloc (.map #[] 0)).heap.size = w.heap.size + 1 := by simp
  have := owns_new (w.alloc (.map #[] 0))
  rwa [e] at this

end Go.Proofs.Ytmabbeefeipnaaa.FstQ

/- What keyOf and KeysOf do in the program: the name and the type of a record; the keys of all records, each once. Condition: fewer than 400000001 records. -/
namespace Go.Proofs.Ytmabbeefeipnaaa.KeyI
open Go.RowKit Go.Proofs.Ytmabbeefeipnaaa.Mem Go.Proofs.Ytmabbeefeipnaaa.MemR Go.Proofs.Ytmabbeefeipnaaa.SetMath Go.Proofs.Ytmabbeefeipnaaa.MemQ

set_option maxHeartbeats 1000000 in
theorem keyOf (r : Rec) (w : World) : Calls Try.prog 62 #[.agg #[.string r.name, .int .i64 r.ty, .int .i64 r.ttl, .int .i64 r.n, .string r.host, .string r.text]] w fun e w' => e = .returned (.agg #[.string r.name, .int .i64 r.ty]) ∧ Below w.heap.size w w' := by
  go_enter Try.func62, Try.ntmps62
  go_wp2
  refine bodyPost_ret (v := .agg #[.string r.name, .int .i64 r.ty]) (by simp [results, Try.results62, go_sem]) rfl ⟨rfl, ?_⟩
  repeat (first | exact Below.refl _ _ | refine Below.setCell ?_ (by simp; try omega) _ | refine Below.alloc ?_ (by simp; try omega) _)

end Go.Proofs.Ytmabbeefeipnaaa.KeyI

/- What setsOf and SetOf do in the program: a map of slices, one for each name and type; the records of a name and a type, in order. Condition: fewer than 100000001 records. -/
namespace Go.Proofs.Ytmabbeefeipnaaa.SetI
open Go.RowKit Go.Proofs.Ytmabbeefeipnaaa.Mem Go.Proofs.Ytmabbeefeipnaaa.MemR Go.Proofs.Ytmabbeefeipnaaa.SetMath Go.Proofs.Ytmabbeefeipnaaa.MemQ Go.Proofs.Ytmabbeefeipnaaa.MapK Go.Proofs.Ytmabbeefeipnaaa.MapE Go.Proofs.Ytmabbeefeipnaaa.GrpM Go.Proofs.Ytmabbeefeipnaaa.AppR Go.Proofs.Ytmabbeefeipnaaa.Wt

/-- The call returned a map of groups, and turned nothing that was there. -/
def GivesG (w : World) (l : List Rec) (e : Ending) (w' : World) : Prop :=
  ∃ b, e = .returned (.map (some b)) ∧ w.heap.size ≤ b ∧ Gr w' (w.heap.size + 1) b l ∧ Below w.heap.size w w'

theorem zero (w : World) : (zeroValue 30).run Try.prog w = .ok (.slice none 0 0) w := by kernel_rfl

theorem gr_zero {w : World} {base b : Nat} {l : List Rec} (h : Mp w b []) : Gr w base b (l.take 0) :=
  ⟨[], h, rfl, fun i e he => by simp at he, fun i i' e e' he => by simp at he⟩

set_option maxHeartbeats 2000000 in
/-- copyRecords of nil. -/
theorem copyNil (w : World) : Calls Try.prog 74 #[.slice none 0 0] w (CpyR.GivesC w 0 []) := by
  have L0 := Lib.hid ((Below.refl w.heap.size w).alloc (Nat.le_refl _) (.cells #[] 68))
  have O0 := Lib.hid (AppR.owns_new w)
  go_enter Try.func74, Try.ntmps74
  obtain ⟨i0, hi, hz0, hz1, hz2⟩ := info_parts CopyR.info
  go_wp2_with (at_builtin; refine wpList_append_own_none rfl (.tmp 3) (.tmp 4) 30 rfl w.heap.size 68 i0 6 Try.underlying30 hi hz1 _ 0 [] rfl O0.out rfl ?_)
  go_wp2
  go_ret
  obtain ⟨r, hb, _, _, hg⟩ := bk_of_owns6 O0.out
  exact ⟨w.heap.size, 0, r, rfl, Nat.le_refl _, hg, hb, L0.out⟩

set_option maxRecDepth 100000 in
set_option maxHeartbeats 4000000 in
theorem sets (b0 o0 n c : Nat) (l : List Rec) (w : World) (hs : Sr w w.heap.size (some ⟨b0, o0, none⟩) n l) (hn : n ≤ 100000000) : Calls Try.prog 41 #[.slice (some ⟨b0, o0, none⟩) n c] w (GivesG w l) := by
  have HS := Lib.hid hs
  clear hs
  have hmm := @run_makeMap Try.prog
  obtain ⟨i0, hi, hz0, hz1, hz2⟩ := info_parts CopyR.info
  have P0 := Lib.hid (gr_zero (base := w.heap.size + 1) (l := l) (Mp.made w))
  have L0 := Lib.hid ((Below.refl w.heap.size w).alloc (Nat.le_refl _) (.map #[] 0))
  go_enter Try.func41, Try.ntmps41
  go_wp2
  generalize w.alloc (.map #[] 0) = w0 at *
  go_loopw [10] (fun i wr => ∃ k : Nat, k ≤ n ∧ i = .int .i64 k ∧ Hid (Gr wr (w.heap.size + 1) w.heap.size (l.take k)) ∧ Hid (Below w.heap.size w wr)) (fun i _ => n - (intOf i).toNat)
  case atStart => exact ⟨0, Nat.zero_le _, rfl, P0.out, L0.out⟩
  case round =>
    clear P0 L0
    obtain ⟨k, hk, rfl, HO, HL⟩ := hrel
    by_cases hlt : k < n
    · obtain ⟨b, off, hA, hbB, hcs⟩ := HS.out.2 (by omega)
      obtain ⟨rfl, rfl⟩ : b0 = b ∧ o0 = off := by simp at hA; exact hA
      clear hA
      have hkl : k < l.length := by rw [HS.out.1]; exact hlt
      obtain ⟨e0, e1, e2, e3, e4, e5⟩ := (hcs k hkl).below HL.out hbB
      clear hcs
      have HT := Lib.hid (List.take_succ_eq_append_getElem hkl)
      have HTL : Hid ((l.take k).length = k) := show _ = _ by simp; omega
      generalize l[k] = r at *
      obtain ⟨es, hm, hq, ho, hd⟩ := HO.out
      clear HO
      have HM := Lib.hid hm
      have HQ := Lib.hid hq
      have HR := Lib.hid ho
      have HD := Lib.hid hd
      clear hm hq ho hd
      have B1 : Hid (Bk (wr.alloc (.cells #[.string r.name, .int .i64 r.ty, .int .i64 r.ttl, .int .i64 r.n, .string r.host, .string r.text] 68)) wr.heap.size 68 (rc r)) := heap_alloc_new wr _
      have hgB : w.heap.size ≤ wr.heap.size := HL.out.size
      go_wp2_with fail
      refine (KeyI.keyOf r _).mono ?_
      rintro e w1 ⟨rfl, hl⟩
      have hlA : Below wr.heap.size wr w1 := ((Below.refl wr.heap.size wr).alloc (Nat.le_refl _) _).trans (hl.mono (by simp))
      have M1 := Lib.hid ((HM.out.below hlA HM.out.lt).alloc (.cells #[.string r.name, .int .i64 r.ty] 34))
      have R1 := Lib.hid (rows_kept HR.out (row := none) (w' := w1.alloc (.cells #[.string r.name, .int .i64 r.ty] 34)) (World.grownBy.trans ⟨hlA.os, hlA.tape, hlA.output, hlA.size, fun k hk _ => hlA.block k hk⟩ (World.grownBy_alloc w1 _ none)) (by simp))
      have L1 := Lib.hid ((HL.out.trans (hlA.mono HL.out.size)).alloc (Nat.le_trans HL.out.size hlA.size) (.cells #[.string r.name, .int .i64 r.ty] 34))
      have X1 := Lib.hid ((B1.out.below hl (by simp)).alloc (.cells #[.string r.name, .int .i64 r.ty] 34))
      have Y1 : Hid (Bk (w1.alloc (.cells #[.string r.name, .int .i64 r.ty] 34)) w1.heap.size 34 [.string r.name, .int .i64 r.ty]) := heap_alloc_new w1 _
      clear hl hlA HM HR HL B1 e0 e1 e2 e3 e4 e5
      go_upto_region 6 with (fail)
      generalize w1.alloc (.cells #[.string r.name, .int .i64 r.ty] 34) = w2 at *
      generalize w1.heap.size = gk at *
      have x0 := Y1.out.cell 0
      have x1 := Y1.out.cell 1
      have y0 : w2.cell? ⟨wr.heap.size, 0, none⟩ = some (.string r.name) := X1.out.cell 0
      have y1 : w2.cell? ⟨wr.heap.size, 1, none⟩ = some (.int .i64 r.ty) := X1.out.cell 1
      have y2 : w2.cell? ⟨wr.heap.size, 2, none⟩ = some (.int .i64 r.ttl) := X1.out.cell 2
      have y3 : w2.cell? ⟨wr.heap.size, 3, none⟩ = some (.int .i64 r.n) := X1.out.cell 3
      have y4 : w2.cell? ⟨wr.heap.size, 4, none⟩ = some (.string r.host) := X1.out.cell 4
      have y5 : w2.cell? ⟨wr.heap.size, 5, none⟩ = some (.string r.text) := X1.out.cell 5
      have KT := KeyT.quests
      have M3 := Lib.hid (M1.out.alloc (.cells #[.string r.name, .int .i64 r.ty, .int .i64 r.ttl, .int .i64 r.n, .string r.host, .string r.text] 68))
      have R3 := Lib.hid (rows_kept R1.out (World.grownBy_alloc w2 (.cells #[.string r.name, .int .i64 r.ty, .int .i64 r.ttl, .int .i64 r.n, .string r.host, .string r.text] 68) none) (by simp))
      have L3 := Lib.hid (L1.out.alloc L1.out.size (.cells #[.string r.name, .int .i64 r.ty, .int .i64 r.ttl, .int .i64 r.n, .string r.host, .string r.text] 68))
      have N3 : Hid (Bk (w2.alloc (.cells #[.string r.name, .int .i64 r.ty, .int .i64 r.ttl, .int .i64 r.n, .string r.host, .string r.text] 68)) w2.heap.size 68 (fl [r])) := heap_alloc_new w2 _
      have HB : Hid (w.heap.size < w2.heap.size) := M1.out.lt
      have HS' := Lib.hid (ev_key es)
      have HND := Lib.hid (ev_nodup (es := es) (by rw [HQ.out]; exact nodup_uq _))
      have HX : Hid (KeyT.KQ (qv (ky r))) := ⟨ky r, rfl⟩
      clear M1 R1 L1 X1 Y1 hgB
      by_cases hin : ky r ∈ uq (kl (l.take k))
      · obtain ⟨j, e, hj, hk'⟩ : ∃ (j : Nat) (e : Ge), es[j]? = some e ∧ e.q = ky r := by
          rw [← HQ.out] at hin
          obtain ⟨e, he, hq⟩ := List.mem_map.1 hin
          obtain ⟨j, hj⟩ := List.getElem?_of_mem he
          exact ⟨j, e, hj, hq⟩
        have HJ := Lib.hid hj
        have HK := Lib.hid hk'
        have hem : e.m ≤ k := by
          have h1 := own_m (R3.out j e hj)
          have h2 := sf_len_take e.q.name e.q.ty l k
          have h3 : (sq e.q (l.take k)).length ≤ k := h2
          omega
        have EN := Lib.hid (entry_old M3.out KT Try.underlying61 HS'.out HND.out HX.out (show (ev es)[j]? = some (qv (ky r), sv e) from by rw [← hk']; exact ev_at hj))
        clear hin hj hk'
        go_wp2_with (guard_target =~ wpList _ _ _ ({ dst := _, op := Op.mapEntry _ _ _, type := _, pos := _, after := _, guard := _ } :: _) _ _; refine wp_entry rfl (.tmp 16) (.tmp 17) rfl (qv (ky r)) (sv e) rfl rfl (ev es) j EN.out ?_)
        intro w4 st m4 g4 s4
        have M4 := Lib.hid m4
        have R4 := Lib.hid (rows_kept R3.out g4 (fun g hg _ h => by have h8 : g = w.heap.size := Option.some.inj h; omega))
        have L4 := Lib.hid (L3.out.grown g4 L3.out.size (fun j hj => by cases hj; exact Nat.le_refl _))
        have N4 := Lib.hid (N3.out.grown g4 (fun h => by have h8 : w2.heap.size = w.heap.size := Option.some.inj h; have := HB.out; omega))
        have S4 : Hid (w4.heap.size = w2.heap.size + 1) := s4
        clear m4 g4 s4 EN M3 R3 L3 N3 x0 x1 y0 y1 y2 y3 y4 y5
        go_wp2_with (at_builtin; refine wpList_append_lies w4 rfl (.tmp 18) (.tmp 20) 30 rfl (w.heap.size + 1) 68 i0 _ 6 72 Try.underlying30 hi hz0 hz1 hz2 rfl (by decide) (sv e) e.m (fl (sq e.q (l.take k))) rfl (R4.out j e HJ.out) ⟨w2.heap.size, 0, none⟩ 1 1 (fl [r]) rfl rfl (World.news_of_block N4.out) (one_fl [r]) (by decide) (by unfold maxLen; omega) (by omega) (by have h1 := HB.out; have h2 := S4.out; omega) w4.heap.size rfl ?_)
        intro g' cap' w5 hown hgrow hlies hlt5
        have O5 := Lib.hid hown
        have G5 : Hid (w4.grownBy w5 (some e.g)) := hgrow
        have LI : Hid (e.g = g' ∨ g' = w4.heap.size) := hlies.imp (fun h => Option.some.inj h) id
        have NB : Hid (some w.heap.size ≠ some e.g) := fun h => by
          have h8 : w.heap.size = e.g := Option.some.inj h
          have := own_lt (R4.out j e HJ.out)
          omega
        have ST := Lib.hid ((M4.out.grown G5.out NB.out).store (P := Try.prog) 61 (show (ev es)[j]? = some (qv e.q, sv e) from ev_at HJ.out) (.slice (some ⟨g', 0, none⟩) (e.m + 1) cap'))
        have L5 := Lib.hid (L4.out.grown G5.out L4.out.size (fun i hi => by cases hi; have := own_lt (R4.out j e HJ.out); omega))
        clear hown hgrow hlies hlt5 M4 N4 L4
        rw [HK.out] at ST
        go_wp2_with (guard_target =~ wpList _ _ _ ({ dst := _, op := Op.entryStore _ _ _ _, type := _, pos := _, after := _, guard := _ } :: _) _ _; refine wp_stamp rfl (.tmp 16) (.tmp 23) (.tmp 22) rfl (.slice (some ⟨g', 0, none⟩) (e.m + 1) cap') rfl rfl rfl ((ev es).set j (qv (ky r), .slice (some ⟨g', 0, none⟩) (e.m + 1) cap')) ST.out ?_)
        intro w6 m6 g6 s6
        have GG : Hid (Gr w6 (w.heap.size + 1) w.heap.size (l.take k ++ [r])) := gr_old HQ.out R4.out HD.out HJ.out HK.out G5.out O5.out LI.out (Nat.lt_succ_self _) g6 m6
        have L6 := Lib.hid (L5.out.grown g6 L5.out.size (fun j hj => by cases hj; exact Nat.le_refl _))
        clear m6 g6 s6 ST L5 O5 G5 LI NB R4
        go_wp2
        go_roundw
        case rel => exact ⟨k + 1, by omega, by go_num, by rw [HT.out]; exact GG.out, L6.out⟩
        case measure => simp [intOf]; omega
      · have HI := Lib.hid hin
        have HO' : Hid (∀ p ∈ ev es, p.1 ≠ qv (ky r)) := ev_out (by rw [HQ.out]; exact hin)
        have EN := Lib.hid (entry_new M3.out KT Try.underlying61 (zero _) HS'.out HX.out HO'.out)
        clear hin
        go_wp2_with (guard_target =~ wpList _ _ _ ({ dst := _, op := Op.mapEntry _ _ _, type := _, pos := _, after := _, guard := _ } :: _) _ _; refine wp_entry rfl (.tmp 16) (.tmp 17) rfl (qv (ky r)) (.slice none 0 0) rfl rfl (ev es ++ [(qv (ky r), .slice none 0 0)]) (ev es).length EN.out ?_)
        intro w4 st m4 g4 s4
        have M4 := Lib.hid m4
        have R4 := Lib.hid (rows_kept R3.out g4 (fun g hg _ h => by have h8 : g = w.heap.size := Option.some.inj h; omega))
        have L4 := Lib.hid (L3.out.grown g4 L3.out.size (fun j hj => by cases hj; exact Nat.le_refl _))
        have N4 := Lib.hid (N3.out.grown g4 (fun h => by have h8 : w2.heap.size = w.heap.size := Option.some.inj h; have := HB.out; omega))
        have S4 : Hid (w4.heap.size = w2.heap.size + 1) := s4
        clear m4 g4 s4 EN M3 R3 L3 N3 x0 x1 y0 y1 y2 y3 y4 y5
        go_wp2_with (at_builtin; refine wpList_append_lies w4 rfl (.tmp 18) (.tmp 20) 30 rfl (w.heap.size + 1) 68 i0 _ 6 72 Try.underlying30 hi hz0 hz1 hz2 rfl (by decide) (.slice none 0 0) 0 [] rfl (World.ownsRow_nil w4 _ _ _) ⟨w2.heap.size, 0, none⟩ 1 1 (fl [r]) rfl rfl (World.news_of_block N4.out) (one_fl [r]) (by decide) (by unfold maxLen; omega) (by omega) (by have h1 := HB.out; have h2 := S4.out; omega) w4.heap.size rfl ?_)
        intro g' cap' w5 hown hgrow hlies hlt5
        have O5 : Hid (w5.ownsRow (w.heap.size + 1) 68 6 (.slice (some ⟨g', 0, none⟩) 1 cap') 1 (fl [r])) := hown
        have G5 : Hid (w4.grownBy w5 none) := hgrow
        have LI : Hid (g' = w4.heap.size) := hlies.elim (fun h => by cases h) id
        have ST := Lib.hid ((M4.out.grown G5.out (by simp)).store (P := Try.prog) 61 (show (ev es ++ [(qv (ky r), Value.slice none 0 0)])[(ev es).length]? = some (qv (ky r), .slice none 0 0) from by rw [List.getElem?_append_right (Nat.le_refl _), Nat.sub_self]; rfl) (.slice (some ⟨g', 0, none⟩) 1 cap'))
        have L5 := Lib.hid (L4.out.grown G5.out L4.out.size (fun i hi => by cases hi))
        have EQ : Hid ((ev es ++ [(qv (ky r), Value.slice none 0 0)]).set (ev es).length (qv (ky r), Value.slice (some ⟨g', 0, none⟩) 1 cap') = ev es ++ [(qv (ky r), Value.slice (some ⟨g', 0, none⟩) 1 cap')]) := show _ = _ by
          rw [List.set_append_right _ _ (Nat.le_refl _), Nat.sub_self]; rfl
        clear hown hgrow hlies hlt5 M4 N4 L4
        rw [EQ.out] at ST
        go_wp2_with (guard_target =~ wpList _ _ _ ({ dst := _, op := Op.entryStore _ _ _ _, type := _, pos := _, after := _, guard := _ } :: _) _ _; refine wp_stamp rfl (.tmp 16) (.tmp 23) (.tmp 22) rfl (.slice (some ⟨g', 0, none⟩) 1 cap') rfl rfl rfl (ev es ++ [(qv (ky r), .slice (some ⟨g', 0, none⟩) 1 cap')]) ST.out ?_)
        intro w6 m6 g6 s6
        have GG : Hid (Gr w6 (w.heap.size + 1) w.heap.size (l.take k ++ [r])) := gr_new HQ.out R4.out HD.out HI.out G5.out O5.out LI.out (Nat.lt_succ_self _) g6 m6
        have L6 := Lib.hid (L5.out.grown g6 L5.out.size (fun j hj => by cases hj; exact Nat.le_refl _))
        clear m6 g6 s6 ST L5 O5 G5 LI EQ R4
        go_wp2
        go_roundw
        case rel => exact ⟨k + 1, by omega, by go_num, by rw [HT.out]; exact GG.out, L6.out⟩
        case measure => simp [intOf]; omega
    · obtain rfl : n = k := by omega
      have HN := Lib.hid (take_all HS.out.1)
      go_wp2
      go_ret
      exact ⟨w.heap.size, rfl, Nat.le_refl _, by have := HO.out; rw [HN.out] at this; exact this, HL.out⟩

set_option maxHeartbeats 4000000 in
theorem impl (s : ByteArray) (t : Int) (b0 o0 n c : Nat) (l : List Rec) (w : World) (hs : Sr w w.heap.size (some ⟨b0, o0, none⟩) n l) (hn : n ≤ 100000000) : Calls Try.prog 78 #[.slice (some ⟨b0, o0, none⟩) n c, .string s, .int .i64 t] w (GivesL w (sf s t l)) := by
  have SE := Lib.hid (sets b0 o0 n c l w hs hn)
  have HN := Lib.hid hs.1
  clear hs
  go_enter Try.func78, Try.ntmps78
  go_wp2_with fail
  refine SE.out.mono ?_
  rintro e w1 ⟨b, rfl, hb, ⟨es, hm, hq, ho, hd⟩, hl⟩
  have M1 := Lib.hid hm
  have HQ := Lib.hid hq
  have R1 := Lib.hid ho
  have L1 := Lib.hid hl
  have HS' := Lib.hid (ev_key es)
  have HND := Lib.hid (ev_nodup (es := es) (by rw [hq]; exact nodup_uq _))
  have HX : Hid (KeyT.KQ (qv ⟨s, t⟩)) := ⟨⟨s, t⟩, rfl⟩
  have KT := KeyT.quests
  clear hm hq ho hd hl SE hb
  by_cases hin : (⟨s, t⟩ : Key) ∈ uq (kl l)
  · obtain ⟨j, e, hj, hk'⟩ : ∃ (j : Nat) (e : Ge), es[j]? = some e ∧ e.q = ⟨s, t⟩ := by
      rw [← HQ.out] at hin
      obtain ⟨e, he, hq⟩ := List.mem_map.1 hin
      obtain ⟨j, hj⟩ := List.getElem?_of_mem he
      exact ⟨j, e, hj, hq⟩
    have OW := Lib.hid (R1.out j e hj)
    have HE : Hid (sq e.q l = sf s t l) := show _ = _ by rw [hk']; rfl
    have HM := Lib.hid (own_m OW.out)
    have hm : e.m ≤ n := by
      have h1 := HM.out
      have h2 := sf_len e.q.name e.q.ty l
      have h3 : (sq e.q l).length ≤ l.length := h2
      have := HN.out
      omega
    have LK : Hid ((Instr.lookup 61 (.map (some b)) (.agg #[.string s, .int .i64 t]) false).run Try.prog w1 = .ok (.slice (some ⟨e.g, 0, none⟩) e.m e.cap) w1) := M1.out.in KT Try.underlying61 HS'.out HND.out HX.out (show (qv ⟨s, t⟩, sv e) ∈ ev es from by rw [← hk']; exact List.mem_of_getElem? (ev_at hj)) false
    have SR : Hid (Sr w1 w1.heap.size (some ⟨e.g, 0, none⟩) e.m (sf s t l)) := by
      obtain ⟨r', hb, _⟩ := bk_of_owns6 OW.out
      rw [HE.out] at hb HM
      exact bk_sr hb HM.out
    clear hin hj hk'
    go_wp2_with (at_lookup; refine wp_look rfl _ _ false rfl (.agg #[.string s, .int .i64 t]) (.slice (some ⟨e.g, 0, none⟩) e.m e.cap) rfl rfl LK.out ?_)
    refine (CpyR.copyI e.g 0 e.m e.cap (sf s t l) w1 SR.out (by omega)).mono ?_
    rintro e' w2 ⟨g, cp, r, rfl, hcap, hg, hb, hl⟩
    have B2 := Lib.hid hb
    have G2 := Lib.hid (Nat.le_trans L1.out.size hg)
    have L2 := Lib.hid (L1.out.trans (hl.mono L1.out.size))
    have C2 := Lib.hid hcap
    have H2 : Hid ((sf s t l).length = e.m) := by rw [HE.out] at HM; exact HM
    clear hb hg hl hcap
    go_wp2
    go_ret
    exact ⟨g, e.m, cp, r, rfl, H2.out, C2.out, G2.out, B2.out, L2.out⟩
  · have HE : Hid (sf s t l = []) := sq_none (q := ⟨s, t⟩) (fun h => hin (mem_uq.2 h))
    have LK : Hid ((Instr.lookup 61 (.map (some b)) (.agg #[.string s, .int .i64 t]) false).run Try.prog w1 = .ok (.slice none 0 0) w1) := M1.out.out KT Try.underlying61 (zero _) HS'.out HX.out (ev_out (by rw [HQ.out]; exact hin)) false
    clear hin
    go_wp2_with (at_lookup; refine wp_look rfl _ _ false rfl (.agg #[.string s, .int .i64 t]) (.slice none 0 0) rfl rfl LK.out ?_)
    refine (copyNil w1).mono ?_
    rintro e' w2 ⟨g, cp, r, rfl, hcap, hg, hb, hl⟩
    have B2 := Lib.hid hb
    have G2 := Lib.hid (Nat.le_trans L1.out.size hg)
    have L2 := Lib.hid (L1.out.trans (hl.mono L1.out.size))
    have C2 := Lib.hid hcap
    clear hb hg hl hcap
    go_wp2
    go_ret
    rw [HE.out]
    exact ⟨g, 0, cp, r, rfl, rfl, C2.out, G2.out, B2.out, L2.out⟩
end Go.Proofs.Ytmabbeefeipnaaa.SetI

/- What Glue does in the program: the addresses of the hosts, in their order, out of a map of groups. Condition: at most 1048576 records and as many hosts (so the result may have many more). -/
namespace Go.Proofs.Ytmabbeefeipnaaa.GlueI
open Go.RowKit Go.Proofs.Ytmabbeefeipnaaa.Mem Go.Proofs.Ytmabbeefeipnaaa.MemR Go.Proofs.Ytmabbeefeipnaaa.SetMath Go.Proofs.Ytmabbeefeipnaaa.ZoneMath Go.Proofs.Ytmabbeefeipnaaa.MemZ Go.Proofs.Ytmabbeefeipnaaa.MemS Go.Proofs.Ytmabbeefeipnaaa.MemQ Go.Proofs.Ytmabbeefeipnaaa.MapK Go.Proofs.Ytmabbeefeipnaaa.MapE Go.Proofs.Ytmabbeefeipnaaa.GrpM Go.Proofs.Ytmabbeefeipnaaa.AppR Go.Proofs.Ytmabbeefeipnaaa.Wt Go.Proofs.Ytmabbeefeipnaaa.SetI

/-- append of a slice of records onto a row of the call's own, up to many records. -/
theorem append_wide {w : World} {ops : Array Oper} {rest : List Oper} {o : Oper} {a : Act} {Q : Exit → Act → World → Prop} (hgd : o.guard = none) (s x : Operand)
    (ho : o.op = .call { callee := .builtin .append, args := #[s, x], argTypes := #[30, 30] })
    (base g n cap : Nat) (L : List Rec) (hs : a.eval s = .slice (some ⟨g, 0, none⟩) n cap) (hown : w.ownsRow base 68 6 (.slice (some ⟨g, 0, none⟩) n cap) n (fl L))
    (b off m c B : Nat) (l : List Rec) (hx : a.eval x = .slice (some ⟨b, off, none⟩) m c) (hl : Sr w B (some ⟨b, off, none⟩) m l)
    (hnm : n + m ≤ 1900000000000) (hbase : base ≤ w.heap.size)
    (h : ∀ g' cap' w', w'.ownsRow base 68 6 (.slice (some ⟨g', 0, none⟩) (n + m) cap') (n + m) (fl (L ++ l)) → w.grownBy w' (some g) → wpList Try.prog ops Q rest (a.put o.dst (.slice (some ⟨g', 0, none⟩) (n + m) cap')) w') : wpList Try.prog ops Q (o :: rest) a w := by
  obtain ⟨i0, hi, hz0, hz1, hz2⟩ := info_parts CopyR.info
  exact wpList_append_own w hgd s x 30 ho base 68 i0 _ 6 72 Try.underlying30 hi hz0 hz1 hz2 rfl (by decide) _ n (fl L) hs hown ⟨b, off, none⟩ m c (fl l) hx (by rw [fl_len, hl.1]) (cells_of hl) (one_fl l) (by unfold maxLen; omega) (by omega) hbase
    (fun v' w' h1 h2 h3 => by
      rcases h1.2 with ⟨hv, _⟩ | ⟨g', cap', cur, hv, _⟩
      · have := (h3.1 hv).1
        cases this
      · subst hv
        exact h g' cap' w' (by rw [fl_append]; exact h1) h2)

set_option maxRecDepth 100000 in
set_option maxHeartbeats 8000000 in
theorem impl (s : ByteArray) (b0 o0 n c : Nat) (l : List Rec) (b1 o1 nh ch : Nat) (H : List ByteArray) (w : World) (hs : Sr w w.heap.size (some ⟨b0, o0, none⟩) n l) (hh : Ss w w.heap.size (some ⟨b1, o1, none⟩) nh H) (hn : n ≤ 1048576) (hnh : nh ≤ 1048576) :
    Calls Try.prog 79 #[.agg #[.string s, .slice (some ⟨b0, o0, none⟩) n c], .slice (some ⟨b1, o1, none⟩) nh ch] w (GivesL w (gl H l)) := by
  have L0 := Lib.hid ((Below.refl w.heap.size w).alloc (Nat.le_refl _) (.cells #[.string s, .slice (some ⟨b0, o0, none⟩) n c] 32))
  have X0 := Lib.hid (zx_new w 32 s (.slice (some ⟨b0, o0, none⟩) n c))
  have SE := Lib.hid (fun W hW => SetI.sets b0 o0 n c l W hW (by omega))
  have S0 := Lib.hid (hs.on L0.out)
  have HH := Lib.hid hh
  have HN := Lib.hid hs.1
  clear hs hh
  obtain ⟨x0, x1⟩ := X0.out
  go_enter Try.func79, Try.ntmps79
  obtain ⟨i0, hi, hz0, hz1, hz2⟩ := info_parts CopyR.info
  go_wp2_with fail
  refine (SE.out _ S0.out).mono ?_
  rintro e w1 ⟨bm, rfl, hbm, ⟨es, hm, hq, ho, hd⟩, hl⟩
  have L1 := Lib.hid (L0.out.trans (hl.mono L0.out.size))
  have M1 := Lib.hid hm
  have HQ := Lib.hid hq
  have HS' := Lib.hid (ev_key es)
  have HND := Lib.hid (ev_nodup (es := es) (by rw [hq]; exact nodup_uq _))
  have R1 : Hid (∀ (j : Nat) (e : Ge), es[j]? = some e → (sq e.q l).length = e.m ∧ Sr w1 w1.heap.size (some ⟨e.g, 0, none⟩) e.m (sq e.q l)) := fun j e hj => by
    have hz := own_m (ho j e hj)
    obtain ⟨r', hb, _⟩ := bk_of_owns6 (ho j e hj)
    exact ⟨hz, bk_sr hb hz⟩
  have KT := KeyT.quests
  have P2 := Lib.hid (AppR.owns_new w1)
  have L2 := Lib.hid ((Below.refl w1.heap.size w1).alloc (Nat.le_refl _) (.cells #[] 68))
  clear hm hq ho hd hl SE hbm L0 X0 S0 x0 x1
  go_wp2
  generalize w1.alloc (.cells #[] 68) = w2 at *
  go_loopw [6, 15] (fun out i wr => ∃ k g m cap : Nat, k ≤ nh ∧ m ≤ k * n ∧ i = .int .i64 k ∧ out = .slice (some ⟨g, 0, none⟩) m cap ∧ Hid (wr.ownsRow w1.heap.size 68 6 (.slice (some ⟨g, 0, none⟩) m cap) m (fl (gl (H.take k) l))) ∧ Hid (Below w1.heap.size w1 wr)) (fun _ i _ => nh - (intOf i).toNat)
  case atStart => exact ⟨0, w1.heap.size, 0, 0, Nat.zero_le _, Nat.zero_le _, rfl, rfl, P2.out, L2.out⟩
  case round =>
    clear P2 L2
    obtain ⟨k, g, m, cap, hk, hm, rfl, rfl, HO, HL⟩ := hrel
    by_cases hlt : k < nh
    · obtain ⟨b, off, hA, hbB, hcs⟩ := HH.out.2 (by omega)
      obtain ⟨rfl, rfl⟩ : b1 = b ∧ o1 = off := by simp at hA; exact hA
      clear hA
      have hkl : k < H.length := by rw [HH.out.1]; exact hlt
      have e0 : wr.cell? ⟨b1, o1 + k, none⟩ = some (.string H[k]) := ((L1.out.trans (HL.out.mono L1.out.size)).cell (p := ⟨b1, o1 + k, none⟩) hbB).trans (hcs k hkl)
      clear hcs
      have HT := Lib.hid (gl_take H l k hkl)
      generalize H[k] = y at *
      have hmm : Hid (m ≤ 1100000000000) := show _ ≤ _ from Nat.le_trans hm (Nat.le_trans (Nat.mul_le_mul (show k ≤ 1048576 by omega) hn) (by decide))
      have lg : Hid (w1.heap.size ≤ g ∧ g < wr.heap.size) := HO.out.lt g rfl
      have M2 := Lib.hid (M1.out.below HL.out M1.out.lt)
      have HX : Hid (KeyT.KQ (qv ⟨y, 1⟩)) := ⟨⟨y, 1⟩, rfl⟩
      by_cases hin : (⟨y, 1⟩ : Key) ∈ uq (kl l)
      · obtain ⟨j, e, hj, hk'⟩ : ∃ (j : Nat) (e : Ge), es[j]? = some e ∧ e.q = ⟨y, 1⟩ := by
          rw [← HQ.out] at hin
          obtain ⟨e, he, hq⟩ := List.mem_map.1 hin
          obtain ⟨j, hj⟩ := List.getElem?_of_mem he
          exact ⟨j, e, hj, hq⟩
        have HE : Hid (sq e.q l = sf y 1 l) := show _ = _ by rw [hk']; rfl
        have hem : e.m ≤ n := by
          have h1 := (R1.out j e hj).1
          have h2 := sf_len e.q.name e.q.ty l
          have h3 : (sq e.q l).length ≤ l.length := h2
          have := HN.out
          omega
        have LK : Hid ((Instr.lookup 61 (.map (some bm)) (.agg #[.string y, .int .i64 1]) false).run Try.prog wr = .ok (.slice (some ⟨e.g, 0, none⟩) e.m e.cap) wr) := M2.out.in KT Try.underlying61 HS'.out HND.out HX.out (show (qv ⟨y, 1⟩, sv e) ∈ ev es from by rw [← hk']; exact List.mem_of_getElem? (ev_at hj)) false
        have SR : Hid (Sr wr w1.heap.size (some ⟨e.g, 0, none⟩) e.m (sf y 1 l)) := by
          have := (R1.out j e hj).2
          rw [HE.out] at this
          exact this.below HL.out
        clear hin hj hk' HX M2
        go_wp2_with (first | (at_lookup; refine wp_look rfl _ _ false rfl (.agg #[.string y, .int .i64 1]) (.slice (some ⟨e.g, 0, none⟩) e.m e.cap) rfl rfl LK.out ?_) | (at_builtin; refine append_wide rfl (.tmp 19) (.tmp 23) rfl w1.heap.size g m cap (gl (H.take k) l) rfl HO.out e.g 0 e.m e.cap _ (sf y 1 l) rfl SR.out (by have := hmm.out; omega) HL.out.size ?_))
        intro g' cap' w3 hown hgrow
        have O3 := Lib.hid hown
        have L3 := Lib.hid (HL.out.grown hgrow HL.out.size (fun j hj => by cases hj; exact lg.out.1))
        clear hown hgrow
        go_wp2
        go_roundw
        case rel => exact ⟨k + 1, g', m + e.m, cap', by omega, by rw [Nat.add_mul, Nat.one_mul]; omega, by go_num, rfl, by rw [HT.out]; exact O3.out, L3.out⟩
        case measure => simp [intOf]; omega
      · have HE : Hid (sf y 1 l = []) := sq_none (q := ⟨y, 1⟩) (fun h => hin (mem_uq.2 h))
        have LK : Hid ((Instr.lookup 61 (.map (some bm)) (.agg #[.string y, .int .i64 1]) false).run Try.prog wr = .ok (.slice none 0 0) wr) := M2.out.out KT Try.underlying61 (zero _) HS'.out HX.out (ev_out (by rw [HQ.out]; exact hin)) false
        clear hin HX M2
        go_wp2_with (at_lookup; refine wp_look rfl _ _ false rfl (.agg #[.string y, .int .i64 1]) (.slice none 0 0) rfl rfl LK.out ?_; refine wpList_append_own_none rfl (.tmp 19) (.tmp 23) 30 rfl w1.heap.size 68 i0 6 Try.underlying30 hi _ m (fl (gl (H.take k) l)) rfl HO.out rfl ?_)
        go_wp2
        go_roundw
        case rel => exact ⟨k + 1, g, m, cap, by omega, by rw [Nat.add_mul, Nat.one_mul]; omega, by go_num, rfl, by rw [HT.out, HE.out, List.append_nil]; exact HO.out, HL.out⟩
        case measure => simp [intOf]; omega
    · obtain rfl : nh = k := by omega
      have HN := Lib.hid (take_all HH.out.1)
      go_wp2
      go_ret
      have ho := HO.out
      rw [HN.out] at ho
      obtain ⟨r', hb, _, hcap, hg⟩ := bk_of_owns6 ho
      have hz : (gl H l).length = m := by have := ho.1; rw [fl_len] at this; omega
      exact ⟨g, m, cap, r', rfl, hz, hcap, Nat.le_trans L1.out.size hg, hb, L1.out.trans (HL.out.mono L1.out.size)⟩

end Go.Proofs.Ytmabbeefeipnaaa.GlueI

/- What KindIn does in the program: the kind of a question's reply, by a map of the records' sets. Condition: fewer than 100000001 records, no name of more than 400000000 bytes. -/
namespace Go.Proofs.Ytmabbeefeipnaaa.KindI
open Go.RowKit Go.Proofs.Ytmabbeefeipnaaa.Mem Go.Proofs.Ytmabbeefeipnaaa.MemR Go.Proofs.Ytmabbeefeipnaaa.SetMath Go.Proofs.Ytmabbeefeipnaaa.NameMath Go.Proofs.Ytmabbeefeipnaaa.ZoneMath Go.Proofs.Ytmabbeefeipnaaa.ServeMath Go.Proofs.Ytmabbeefeipnaaa.MemZ Go.Proofs.Ytmabbeefeipnaaa.MemM Go.Proofs.Ytmabbeefeipnaaa.MemQ Go.Proofs.Ytmabbeefeipnaaa.MapK Go.Proofs.Ytmabbeefeipnaaa.MapE Go.Proofs.Ytmabbeefeipnaaa.GrpM Go.Proofs.Ytmabbeefeipnaaa.SetI Go.Proofs.Ytmabbeefeipnaaa.KindS Go.Proofs.Ytmabbeefeipnaaa.CutOfS

/-- What is found in a map of sets: a slice with as many records as the key has. -/
theorem look {w1 W : World} {base b : Nat} {l : List Rec} (h : Gr w1 base b l) (hl : Below w1.heap.size w1 W) (y : ByteArray) (t : Int) :
    ∃ (A : Option Addr) (m cap : Nat), (Instr.lookup 61 (.map (some b)) (.agg #[.string y, .int .i64 t]) false).run Try.prog W = .ok (.slice A m cap) W ∧ (sf y t l).length = m := by
  obtain ⟨es, hm, hq, ho, hd⟩ := h
  have M1 := hm.below hl hm.lt
  have KT := KeyT.quests
  have HS' := ev_key es
  have HND := ev_nodup (es := es) (by rw [hq]; exact nodup_uq _)
  have HX : KeyT.KQ (qv ⟨y, t⟩) := ⟨⟨y, t⟩, rfl⟩
  by_cases hin : (⟨y, t⟩ : Key) ∈ uq (kl l)
  · obtain ⟨j, e, hj, hk'⟩ : ∃ (j : Nat) (e : Ge), es[j]? = some e ∧ e.q = ⟨y, t⟩ := by
      rw [← hq] at hin
      obtain ⟨e, he, hq⟩ := List.mem_map.1 hin
      obtain ⟨j, hj⟩ := List.getElem?_of_mem he
      exact ⟨j, e, hj, hq⟩
    refine ⟨some ⟨e.g, 0, none⟩, e.m, e.cap, M1.in KT Try.underlying61 HS' HND HX (show (qv ⟨y, t⟩, sv e) ∈ ev es from by rw [← hk']; exact List.mem_of_getElem? (ev_at hj)) false, ?_⟩
    have := own_m (ho j e hj)
    rw [hk'] at this
    exact this
  · refine ⟨none, 0, 0, M1.out KT Try.underlying61 (zero _) HS' HX (ev_out (by rw [hq]; exact hin)) false, ?_⟩
    have := sq_none (q := ⟨y, t⟩) (l := l) (fun h => hin (mem_uq.2 h))
    show (sq ⟨y, t⟩ l).length = 0
    rw [this]
    rfl

/-- 'm[k]' at an operation that its guard lets be. -/
theorem wp_look_g {P : Program} {w : World} {t : TypeId} {b : Nat} {ops : Array Oper} {rest : List Oper} {o : Oper} {a : Act} {Q : Exit → Act → World → Prop}
    (hg : Region.wanted o (yielded ops a.tmps) = true) (m x : Operand) (ok : Bool) (hop : o.op = Op.lookup t m x ok) (key r : Value) (hm : a.eval m = .map (some b)) (hx : a.eval x = key)
    (hrun : (Instr.lookup t (.map (some b)) key ok).run P w = .ok r w) (hK : wpList P ops Q rest (a.put o.dst r) w) : wpList P ops Q (o :: rest) a w := by
  refine wpList_step fun K' hK' => ?_
  rw [if_pos hg]
  unfold Oper.wp
  simp [execOp, hop, hm, hx, hrun, Result.andThen]
  exact hK' _ _ hK

set_option maxHeartbeats 8000000 in
theorem impl (s nm : ByteArray) (ty : Int) (b0 o0 n c : Nat) (l : List Rec) (w : World) (hs : Sr w w.heap.size (some ⟨b0, o0, none⟩) n l) (hn : n ≤ 100000000) (hm : s.size ≤ 400000000) (hq : nm.size ≤ 400000000) (hz : ∀ r ∈ l, r.name.size ≤ 400000000) :
    Calls Try.prog 14 #[.agg #[.string s, .slice (some ⟨b0, o0, none⟩) n c], .agg #[.string nm, .int .i64 ty]] w fun e w' => e = .returned (.int .i64 (kd s nm ty l)) ∧ Below w.heap.size w w' := by
  obtain ⟨⟨hx, hy⟩, hl0⟩ := two w s nm ty (.slice (some ⟨b0, o0, none⟩) n c) 32 34
  have X0 := Lib.hid hx
  have Y0 := Lib.hid hy
  have L0 := Lib.hid hl0
  have S0 := Lib.hid (hs.on hl0)
  have SE := Lib.hid (fun W hW => SetI.sets b0 o0 n c l W hW (by omega))
  have CS := Lib.hid (fun W hW => InZoneI.impl s nm b0 o0 n c l W hW (by omega) hm hq hz)
  have US := Lib.hid (fun W => UnderImpl.impl nm s W hq hm)
  have ES := Lib.hid (fun W hW => ExistsI.impl s nm b0 o0 n c l W hW (by omega) hq hz)
  have K0 := Lib.hid (@kd0 s nm ty l)
  have K1 := Lib.hid (@kd1 s nm ty l)
  have K2 := Lib.hid (@kd2 s nm ty l)
  have K3 := Lib.hid (@kd3 s nm ty l)
  have K4 := Lib.hid (@kd4 s nm ty l)
  have K5 := Lib.hid (@kd5 s nm ty l)
  clear hs hz hx hy hl0
  have HV : Hid (iz s nm l = (Un nm s && !(co nm (uq (cn s l))).isSome)) := rfl
  generalize kd s nm ty l = k at *
  obtain ⟨o, ho⟩ : ∃ o, co nm (uq (cn s l)) = o := ⟨_, rfl⟩
  rw [ho] at HV K1 K2 K3 K4 K5
  clear ho
  generalize iz s nm l = z at *
  generalize Un nm s = u at *
  generalize ex nm l = x at *
  obtain ⟨x0, x1⟩ := X0.out
  obtain ⟨y0, y1⟩ := Y0.out
  go_enter Try.func14, Try.ntmps14
  go_wp2_with fail
  refine (SE.out _ S0.out).mono ?_
  rintro e w1 ⟨bm, rfl, hbm, hgr, hl⟩
  have LK := Lib.hid (fun W (hW : Below w1.heap.size w1 W) => look hgr hW)
  have X1 := Lib.hid (X0.out.below hl)
  have Y1 := Lib.hid (Y0.out.below hl)
  have S1 := Lib.hid (S0.out.on hl)
  have L1 := Lib.hid (L0.out.trans (hl.mono L0.out.size))
  clear hl hgr hbm SE X0 Y0 S0 L0 x0 x1 y0 y1
  obtain ⟨x0, x1⟩ := X1.out
  obtain ⟨y0, y1⟩ := Y1.out
  go_wp2_with fail
  refine (US.out _).mono ?_
  rintro e w1 ⟨rfl, rfl⟩
  clear US
  cases u with
  | false =>
    have HF := Lib.hid (K0.out (by trivial))
    go_wp2
    go_ret
    exact ⟨congrArg (fun b => Ending.returned (Value.int .i64 b)) HF.out.symm, L1.out⟩
  | true =>
  go_wp2_with fail
  refine (CS.out _ S1.out).mono ?_
  rintro e w2 ⟨rfl, hl⟩
  have X2 := Lib.hid (X1.out.below hl)
  have Y2 := Lib.hid (Y1.out.below hl)
  have S2 := Lib.hid (S1.out.on hl)
  have L2 := Lib.hid (L1.out.trans (hl.mono L1.out.size))
  have LT := Lib.hid (LK.out _ hl nm ty)
  have LA := Lib.hid (LK.out _ hl nm 5)
  clear hl CS LK X1 Y1 S1 L1 x0 x1 y0 y1
  cases z with
  | false =>
    have HF := Lib.hid (K1.out (by trivial) (by have := HV.out; cases o with
      | none => simp at this
      | some y => rfl))
    go_wp2
    go_ret
    exact ⟨congrArg (fun b => Ending.returned (Value.int .i64 b)) HF.out.symm, L2.out⟩
  | true =>
  have HO : Hid (o = none) := by
    have := HV.out
    cases o with
    | none => rfl
    | some y => simp at this
  obtain ⟨A5, m5, c5, h5, e5⟩ := LA.out
  obtain ⟨At, mt, ct, ht, et⟩ := LT.out
  have H5 := Lib.hid h5
  have HT := Lib.hid ht
  have E5 := Lib.hid e5
  have ET := Lib.hid et
  clear h5 ht e5 et LA LT HV
  obtain ⟨x0, x1⟩ := X2.out
  obtain ⟨y0, y1⟩ := Y2.out
  by_cases hty : ty = 5
  · have t5 : (ty != 5) = false := by simp [hty]
    have HA : Hid (ty = 5 ∨ (sf nm 5 l).length = 0) := Or.inl hty
    clear hty
    by_cases h4 : (0 : Int) < (mt : Int)
    · have HF := Lib.hid (K3.out (by trivial) HO.out HA.out (by have := ET.out; omega))
      go_wp2_with (at_lookup; refine wp_look rfl _ _ false rfl (.agg #[.string nm, .int .i64 ty]) (.slice At mt ct) rfl rfl HT.out ?_)
      go_ret
      exact ⟨congrArg (fun b => Ending.returned (Value.int .i64 b)) HF.out.symm, L2.out⟩
    · have K4' := Lib.hid (K4.out (by trivial) HO.out HA.out (by have := ET.out; omega))
      have K5' := Lib.hid (K5.out (by trivial) HO.out HA.out (by have := ET.out; omega))
      go_wp2_with (at_lookup; refine wp_look rfl _ _ false rfl (.agg #[.string nm, .int .i64 ty]) (.slice At mt ct) rfl rfl HT.out ?_)
      refine (ES.out _ S2.out).mono ?_
      rintro e w5 ⟨rfl, hl⟩
      have L5 := Lib.hid (L2.out.trans (hl.mono L2.out.size))
      clear hl
      cases x with
      | true => go_wp2; go_ret; exact ⟨congrArg (fun b => Ending.returned (Value.int .i64 b)) (K4'.out (by trivial)).symm, L5.out⟩
      | false => go_wp2; go_ret; exact ⟨congrArg (fun b => Ending.returned (Value.int .i64 b)) (K5'.out (by trivial)).symm, L5.out⟩
  · have t5 : (ty != 5) = true := by simp [hty]
    have HTY := Lib.hid hty
    clear hty
    by_cases h3 : (0 : Int) < (m5 : Int)
    · have HF := Lib.hid (K2.out (by trivial) HO.out HTY.out (by have := E5.out; omega))
      go_wp2_with (at_lookup; refine wp_look_g rfl _ _ false rfl (.agg #[.string nm, .int .i64 5]) (.slice A5 m5 c5) rfl rfl H5.out ?_)
      go_ret
      exact ⟨congrArg (fun b => Ending.returned (Value.int .i64 b)) HF.out.symm, L2.out⟩
    · have HA : Hid (ty = 5 ∨ (sf nm 5 l).length = 0) := Or.inr (by have := E5.out; omega)
      by_cases h4 : (0 : Int) < (mt : Int)
      · have HF := Lib.hid (K3.out (by trivial) HO.out HA.out (by have := ET.out; omega))
        go_wp2_with (first | (at_lookup; refine wp_look rfl _ _ false rfl (.agg #[.string nm, .int .i64 ty]) (.slice At mt ct) rfl rfl HT.out ?_) | (at_lookup; refine wp_look_g rfl _ _ false rfl (.agg #[.string nm, .int .i64 5]) (.slice A5 m5 c5) rfl rfl H5.out ?_))
        go_ret
        exact ⟨congrArg (fun b => Ending.returned (Value.int .i64 b)) HF.out.symm, L2.out⟩
      · have K4' := Lib.hid (K4.out (by trivial) HO.out HA.out (by have := ET.out; omega))
        have K5' := Lib.hid (K5.out (by trivial) HO.out HA.out (by have := ET.out; omega))
        go_wp2_with (first | (at_lookup; refine wp_look rfl _ _ false rfl (.agg #[.string nm, .int .i64 ty]) (.slice At mt ct) rfl rfl HT.out ?_) | (at_lookup; refine wp_look_g rfl _ _ false rfl (.agg #[.string nm, .int .i64 5]) (.slice A5 m5 c5) rfl rfl H5.out ?_))
        refine (ES.out _ S2.out).mono ?_
        rintro e w5 ⟨rfl, hl⟩
        have L5 := Lib.hid (L2.out.trans (hl.mono L2.out.size))
        clear hl
        cases x with
        | true => go_wp2; go_ret; exact ⟨congrArg (fun b => Ending.returned (Value.int .i64 b)) (K4'.out (by trivial)).symm, L5.out⟩
        | false => go_wp2; go_ret; exact ⟨congrArg (fun b => Ending.returned (Value.int .i64 b)) (K5'.out (by trivial)).symm, L5.out⟩

end Go.Proofs.Ytmabbeefeipnaaa.KindI

/- The law FnExactKindIn returns true at every zone and every question, and turns nothing that was there: KindIn answers as its model. -/
namespace Go.Proofs.Ytmabbeefeipnaaa.LawKindIn
open Go.RowKit Go.Proofs.Ytmabbeefeipnaaa.Mem Go.Proofs.Ytmabbeefeipnaaa.MemR Go.Proofs.Ytmabbeefeipnaaa.MemZ Go.Proofs.Ytmabbeefeipnaaa.MemM Go.Proofs.Ytmabbeefeipnaaa.SzZ Go.Proofs.Ytmabbeefeipnaaa.SzM Go.Proofs.Ytmabbeefeipnaaa.ToZ Go.Proofs.Ytmabbeefeipnaaa.EqZ Go.Proofs.Ytmabbeefeipnaaa.MarkZ Go.Proofs.Ytmabbeefeipnaaa.SetMath Go.Proofs.Ytmabbeefeipnaaa.NameMath Go.Proofs.Ytmabbeefeipnaaa.ZoneMath Go.Proofs.Ytmabbeefeipnaaa.ServeMath Go.Proofs.Ytmabbeefeipnaaa.KindS 

theorem keptq {w0 w w' : World} {g k : Nat} {s nm : ByteArray} {x : Value} {ty : Int} (m : (Zx w g s x ∧ Qx w k nm ty) ∧ Svz w0 w) (hl : Below w.heap.size w w') : (Zx w' g s x ∧ Qx w' k nm ty) ∧ Svz w0 w' := ⟨⟨m.1.1.below hl, m.1.2.below hl⟩, m.2.trans (hl.mono m.2.size)⟩

theorem keptq_draw {w0 w : World} {g k : Nat} {s nm : ByteArray} {x : Value} {ty : Int} (m : (Zx w g s x ∧ Qx w k nm ty) ∧ Svz w0 w) : (Zx w.drew g s x ∧ Qx w.drew k nm ty) ∧ Svz w0 w.drew := keptq m ((Below.refl _ _).drew)

set_option maxRecDepth 100000 in
set_option maxHeartbeats 8000000 in
theorem walk (z : ByteArray) (A : Option Addr) (n c : Nat) (l : List Rec) (nm : ByteArray) (ty : Int) (w : World) (hzs : z.size ≤ 9223372036854775807) (hs : Sr w w.heap.size A n l) (hn : n ≤ 9223372036854775807) (hz : ∀ r ∈ l, r.name.size ≤ 9223372036854775807 ∧ r.host.size ≤ 9223372036854775807 ∧ r.text.size ≤ 9223372036854775807) (hqs : nm.size ≤ 9223372036854775807) :
    Calls Try.prog 3 #[.agg #[.string z, .slice A n c], .agg #[.string nm, .int .i64 ty]] w fun e w' => e = .returned (.bool true) ∧ Below w.heap.size w w' := by
  have S0 := Lib.hid hs
  have Z0 := Lib.hid hz
  have L0 := Lib.hid (two w z nm ty (.slice A n c) 24 26).2
  have J0 := Lib.hid (two w z nm ty (.slice A n c) 24 26).1.1
  have Y0 := Lib.hid (two w z nm ty (.slice A n c) 24 26).1.2
  clear hs hz
  go_enter Try.func3, Try.ntmps3
  obtain ⟨x0, x1⟩ := J0.out
  obtain ⟨y0, y1⟩ := Y0.out
  go_wp2_with fail
  refine (szZone_any z A n c l 1048576 _ (by omega) (by omega) hzs (S0.out.on L0.out) hn Z0.out).mono ?_
  rintro e w1 ⟨y, rfl, hy0, hy1, hy, hl⟩
  have E0 := Lib.hid hy
  have L1 := Lib.hid (L0.out.trans (hl.mono L0.out.size))
  have J1 := Lib.hid (J0.out.below hl)
  have Y1 := Lib.hid (Y0.out.below hl)
  clear hy hl L0 J0 Y0 x0 x1 y0 y1
  by_cases hneg : y < 0
  · go_wp2
    go_ret
    exact ⟨rfl, L1.out⟩
  have E1 := Lib.hid (E0.out (by omega))
  clear E0
  have bm : n ≤ 1048576 := by have := E1.out; have := S0.out.1; omega
  have bn : n ≤ 400000000 := by omega
  have bz : z.size ≤ 400000000 := by have := E1.out; omega
  have HN : Hid (l.length = n) := S0.out.1
  have HR : Hid (∀ r ∈ l, r.name.size ≤ 400000000) := fun r hr => by
    have := E1.out
    have h1 := tot_le l r hr
    unfold rz at h1
    omega
  clear E1 Z0
  obtain ⟨y0, y1⟩ := Y1.out
  go_wp2_with fail
  refine (szQuest_any nm ty y _ (by omega) (by omega) hqs).mono ?_
  rintro e w2 ⟨y2, rfl, hz0, hz1, hz2, hl⟩
  have E2 := Lib.hid hz2
  have L2 := Lib.hid (L1.out.trans (hl.mono L1.out.size))
  have J2 := Lib.hid (J1.out.below hl)
  have Y2 := Lib.hid (Y1.out.below hl)
  clear hz2 hl L1 J1 Y1 y0 y1
  by_cases hneg2 : y2 < 0
  · go_wp2
    go_ret
    exact ⟨rfl, L2.out⟩
  have bq : nm.size ≤ 400000000 := by have := E2.out (by omega); omega
  clear E2
  have hk0 : ¬ (1 : Int) + 6 * (n : Int) < 0 := by omega
  have TR : Hid (∀ W : World, Below w.heap.size w W → Calls Try.prog 12 #[.agg #[.string z, .slice A n c]] W fun e w' => ∃ g, e = .returned (.agg #[.string z, .slice (some ⟨g, 0, none⟩) n n]) ∧ Bk w' g 68 (fl l) ∧ W.heap.size ≤ g ∧ Below W.heap.size W w') :=
    fun W hW => toZone_any z A n c l W ((S0.out.below hW).wider hW.size) bn
  have SP : Hid (∀ (g : Nat) (W : World), Bk W g 68 (fl l) → Calls Try.prog 11 #[.agg #[.string z, .slice (some ⟨g, 0, none⟩) n n], .agg #[.string nm, .int .i64 ty]] W fun e w' => e = .returned (.int .i64 (kd z nm ty l)) ∧ Below W.heap.size W w') :=
    fun g W h => KindS.spec z nm ty g 0 n n l W (bk_sr0 h HN.out) (by omega) bz bq HR.out
  have IM : Hid (∀ (g : Nat) (W : World), Bk W g 68 (fl l) → Calls Try.prog 14 #[.agg #[.string z, .slice (some ⟨g, 0, none⟩) n n], .agg #[.string nm, .int .i64 ty]] W fun e w' => e = .returned (.int .i64 (kd z nm ty l)) ∧ Below W.heap.size W w') :=
    fun g W h => KindI.impl z nm ty g 0 n n l W (bk_sr0 h HN.out) (by omega) bz bq HR.out
  generalize kd z nm ty l = v at *
  have hv : (v != v) = false := by simp
  have TM : Hid (∀ W : World, (((W.cell? ⟨w.heap.size, 0, none⟩ = some (.string z) ∧ W.cell? ⟨w.heap.size, 1, none⟩ = some (.slice A n c)) ∧ (W.cell? ⟨w.heap.size + 1, 0, none⟩ = some (.string nm) ∧ W.cell? ⟨w.heap.size + 1, 1, none⟩ = some (.int .i64 ty))) ∧ Svz w2 W) → Calls Try.prog 12 #[.agg #[.string z, .slice A n c]] W fun e w' => ∃ g, e = .returned (.agg #[.string z, .slice (some ⟨g, 0, none⟩) n n]) ∧ Bk w' g 68 (fl l) ∧ W.heap.size ≤ g ∧ Below W.heap.size W w') := fun W hW => TR.out W (L2.out.trans ((show Below w2.heap.size w2 W from hW.2).mono L2.out.size))
  have TQ : Hid (∀ W : World, Calls Try.prog 13 #[.agg #[.string nm, .int .i64 ty]] W fun e w' => e = .returned (.agg #[.string nm, .int .i64 ty]) ∧ Below W.heap.size W w') := fun W => Go.Proofs.Ytmabbeefeipnaaa.ToM.toQuest_any nm ty W
  have SS0 : ((w2.cell? ⟨w.heap.size, 0, none⟩ = some (.string z) ∧ w2.cell? ⟨w.heap.size, 1, none⟩ = some (.slice A n c)) ∧ (w2.cell? ⟨w.heap.size + 1, 0, none⟩ = some (.string nm) ∧ w2.cell? ⟨w.heap.size + 1, 1, none⟩ = some (.int .i64 ty))) ∧ Svz w2 w2 := ⟨⟨J2.out, Y2.out⟩, Below.refl _ _⟩
  go_wp2
  go_region_held3 (fun w' => ((w'.cell? ⟨w.heap.size, 0, none⟩ = some (.string z) ∧ w'.cell? ⟨w.heap.size, 1, none⟩ = some (.slice A n c)) ∧ (w'.cell? ⟨w.heap.size + 1, 0, none⟩ = some (.string nm) ∧ w'.cell? ⟨w.heap.size + 1, 1, none⟩ = some (.int .i64 ty))) ∧ Svz w2 w')
    (first | with_reducible exact SS0 | with_reducible assumption | exact keptq (by assumption) hl | exact keptq_draw (by assumption) | fail)
    (first
      | (go_at_call 12; (with_reducible refine (TM.out _ (by assumption)).mono ?_); rintro e wt2 ⟨t1, rfl, hb1, ht1, hl⟩; have hl1 := hl)
      | (go_at_call 13; (with_reducible refine (TQ.out _).mono ?_); rintro e wq2 ⟨rfl, hl⟩; have hb2 := hb1.below hl hb1.lt; have hl2 := hl)
      | (go_at_call 11; (with_reducible refine (SP.out t1 _ hb2).mono ?_); rintro e w3 ⟨rfl, hl⟩; have hl3 := hl)
      | fail)
  rename_i hH
  have hz : Below w2.heap.size w2 w3 := hH.2
  have L3 := Lib.hid (L2.out.trans (hz.mono L2.out.size))
  have J3 := Lib.hid (J2.out.below hz)
  have Y3 := Lib.hid (Y2.out.below hz)
  clear hz hH hl SS0 TQ hl2 hl3 TM hb1 hb2 ht1 hl1  L2 J2 Y2
  obtain ⟨x0, x1⟩ := J3.out
  go_wp2_with fail
  refine (TR.out _ L3.out).mono ?_
  rintro e w4 ⟨gx, rfl, hb, hg, hl⟩
  have X4 := Lib.hid hb
  have L4 := Lib.hid (L3.out.trans (hl.mono L3.out.size))
  have J4 := Lib.hid (J3.out.below hl)
  have Y4 := Lib.hid (Y3.out.below hl)
  clear hl L3 J3 Y3 hb hg x0 x1
  have al : Below w4.heap.size w4 (w4.alloc (.cells #[.string z, .slice (some ⟨gx, 0, none⟩) n n] 32)) := (Below.refl _ _).alloc (Nat.le_refl _) _
  have L5 := Lib.hid (L4.out.trans (al.mono L4.out.size))
  have J5 := Lib.hid (J4.out.below al)
  have Y5 := Lib.hid (Y4.out.below al)
  have X5 := Lib.hid (X4.out.below al X4.out.lt)
  have Q5 := Lib.hid (zx_new w4 32 z (.slice (some ⟨gx, 0, none⟩) n n))
  clear al L4 J4 Y4 X4
  go_upto_region 10 with (fail)
  generalize w4.alloc (.cells #[.string z, .slice (some ⟨gx, 0, none⟩) n n] 32) = w5 at *
  generalize w4.heap.size = gq at *
  have TQ : Hid (∀ W : World, Calls Try.prog 13 #[.agg #[.string nm, .int .i64 ty]] W fun e w' => e = .returned (.agg #[.string nm, .int .i64 ty]) ∧ Below W.heap.size W w') := fun W => Go.Proofs.Ytmabbeefeipnaaa.ToM.toQuest_any nm ty W
  have SS0 : ((w5.cell? ⟨gq, 0, none⟩ = some (.string z) ∧ w5.cell? ⟨gq, 1, none⟩ = some (.slice (some ⟨gx, 0, none⟩) n n)) ∧ (w5.cell? ⟨w.heap.size + 1, 0, none⟩ = some (.string nm) ∧ w5.cell? ⟨w.heap.size + 1, 1, none⟩ = some (.int .i64 ty))) ∧ Svz w5 w5 := ⟨⟨Q5.out, Y5.out⟩, Below.refl _ _⟩
  have IMQ : Hid (∀ W : World, (((W.cell? ⟨gq, 0, none⟩ = some (.string z) ∧ W.cell? ⟨gq, 1, none⟩ = some (.slice (some ⟨gx, 0, none⟩) n n)) ∧ (W.cell? ⟨w.heap.size + 1, 0, none⟩ = some (.string nm) ∧ W.cell? ⟨w.heap.size + 1, 1, none⟩ = some (.int .i64 ty))) ∧ Svz w5 W) → Calls Try.prog 14 #[.agg #[.string z, .slice (some ⟨gx, 0, none⟩) n n], .agg #[.string nm, .int .i64 ty]] W (fun e w' => e = .returned (.int .i64 v) ∧ Below W.heap.size W w')) := fun W hW => IM.out gx W (X5.out.below hW.2 X5.out.lt)
  go_wp2
  go_region_held3 (fun w' => ((w'.cell? ⟨gq, 0, none⟩ = some (.string z) ∧ w'.cell? ⟨gq, 1, none⟩ = some (.slice (some ⟨gx, 0, none⟩) n n)) ∧ (w'.cell? ⟨w.heap.size + 1, 0, none⟩ = some (.string nm) ∧ w'.cell? ⟨w.heap.size + 1, 1, none⟩ = some (.int .i64 ty))) ∧ Svz w5 w')
    (first | with_reducible exact SS0 | with_reducible assumption | exact keptq (by assumption) hl | exact keptq_draw (by assumption) | fail)
    (first
      | (go_at_call 13; (with_reducible refine (TQ.out _).mono ?_); rintro e wq5 ⟨rfl, hl⟩; have hl2 := hl)
      | (go_at_call 14; (with_reducible refine (IMQ.out _ (by assumption)).mono ?_); rintro e w6 ⟨rfl, hl⟩; have hl3 := hl)
      | fail)
  rename_i hH
  have hz : Below w5.heap.size w5 w6 := hH.2
  have L6 := Lib.hid (L5.out.trans (hz.mono L5.out.size))
  have J6 := Lib.hid (J5.out.below hz)
  have Y6 := Lib.hid (Y5.out.below hz)
  have X6 := Lib.hid (X5.out.below hz X5.out.lt)
  have Q6 := Lib.hid (Q5.out.below hz)
  clear hz hH hl SS0 TQ hl2 hl3 IMQ  L5 J5 Y5 X5 Q5
  have TM : Hid (∀ W : World, (((W.cell? ⟨w.heap.size, 0, none⟩ = some (.string z) ∧ W.cell? ⟨w.heap.size, 1, none⟩ = some (.slice A n c)) ∧ (W.cell? ⟨gq, 0, none⟩ = some (.string z) ∧ W.cell? ⟨gq, 1, none⟩ = some (.slice (some ⟨gx, 0, none⟩) n n))) ∧ Svz w6 W) → Calls Try.prog 12 #[.agg #[.string z, .slice A n c]] W fun e w' => ∃ g, e = .returned (.agg #[.string z, .slice (some ⟨g, 0, none⟩) n n]) ∧ Bk w' g 68 (fl l) ∧ W.heap.size ≤ g ∧ Below W.heap.size W w') := fun W hW => TR.out W (L6.out.trans ((show Below w6.heap.size w6 W from hW.2).mono L6.out.size))
  have EQZ : Hid (∀ (W : World) (t : Nat), (((W.cell? ⟨w.heap.size, 0, none⟩ = some (.string z) ∧ W.cell? ⟨w.heap.size, 1, none⟩ = some (.slice A n c)) ∧ (W.cell? ⟨gq, 0, none⟩ = some (.string z) ∧ W.cell? ⟨gq, 1, none⟩ = some (.slice (some ⟨gx, 0, none⟩) n n))) ∧ Svz w6 W) → Bk W t 68 (fl l) → Calls Try.prog 15 #[.agg #[.string z, .slice (some ⟨gx, 0, none⟩) n n], .agg #[.string z, .slice (some ⟨t, 0, none⟩) n n]] W fun e w' => e = .returned (.bool true) ∧ Below W.heap.size W w') := fun W t hW ht => eqZone_same z _ _ n n n l W (bk_sr0 (X6.out.below hW.2 X6.out.lt) HN.out) (bk_sr0 ht HN.out) bn
  have SS0 : ((w6.cell? ⟨w.heap.size, 0, none⟩ = some (.string z) ∧ w6.cell? ⟨w.heap.size, 1, none⟩ = some (.slice A n c)) ∧ (w6.cell? ⟨gq, 0, none⟩ = some (.string z) ∧ w6.cell? ⟨gq, 1, none⟩ = some (.slice (some ⟨gx, 0, none⟩) n n))) ∧ Svz w6 w6 := ⟨⟨J6.out, Q6.out⟩, Below.refl _ _⟩
  go_wp2
  go_region_held3 (fun w' => ((w'.cell? ⟨w.heap.size, 0, none⟩ = some (.string z) ∧ w'.cell? ⟨w.heap.size, 1, none⟩ = some (.slice A n c)) ∧ (w'.cell? ⟨gq, 0, none⟩ = some (.string z) ∧ w'.cell? ⟨gq, 1, none⟩ = some (.slice (some ⟨gx, 0, none⟩) n n))) ∧ Svz w6 w')
    (first | with_reducible exact SS0 | with_reducible assumption | exact kept2z (by assumption) hl | exact kept2z_draw (by assumption) | fail)
    (first
      | (go_at_call 12; (with_reducible refine (TM.out _ (by assumption)).mono ?_); rintro e wt6 ⟨t1, rfl, hb1, -, hl⟩)
      | (go_at_call 15; (with_reducible refine (EQZ.out _ _ (by assumption) hb1).mono ?_); rintro e w7 ⟨rfl, hl⟩)
      | fail)
  rename_i hH
  have hz : Below w6.heap.size w6 w7 := hH.2
  have L7 := Lib.hid (L6.out.trans (hz.mono L6.out.size))
  have J7 := Lib.hid (J6.out.below hz)
  have Y7 := Lib.hid (Y6.out.below hz)
  have X7 := Lib.hid (X6.out.below hz X6.out.lt)
  have Q7 := Lib.hid (Q6.out.below hz)
  clear hz hH hl SS0 hb1 TM EQZ L6 J6 Y6 X6 Q6
  go_wp2
  go_ret
  exact ⟨rfl, L7.out⟩

end Go.Proofs.Ytmabbeefeipnaaa.LawKindIn

/- What a record that comes in, and a slice of records that comes in, read as. -/
namespace Go.Proofs.Ytmabbeefeipnaaa.RowR
open Go.Proofs.Ytmabbeefeipnaaa.Mem Go.Proofs.Ytmabbeefeipnaaa.MemR
open Go.ChangeShapes Go.WideShapes Go.ChangeAt Go.RowKit Go.Deep

/-- The texts of a record are no longer than any text. -/
def Small (r : Rec) : Prop := r.name.size ≤ 9223372036854775807 ∧ r.host.size ≤ 9223372036854775807 ∧ r.text.size ≤ 9223372036854775807
/-- The argument reads as records. -/
def IsRecs (w : World) (a : Option Addr) (len : Nat) (l : List Rec) : Prop :=
  Sr w w.heap.size a len l ∧ len ≤ 9223372036854775807 ∧ ∀ r ∈ l, Small r

section
variable {H : Type} {enc : TypeId × Value → H} {w : World} {base : Nat} {spare : Nat → Bool} {held : Bool}
theorem six_of {cs : List Value} {s0 s4 s5 : ByteArray} {x1 x2 x3 : Int} (h : cs.length = 6) (e0 : (cs.drop 0).take 1 = [.string s0]) (e1 : (cs.drop 1).take 1 = [.int .i64 x1]) (e2 : (cs.drop 2).take 1 = [.int .i64 x2])
    (e3 : (cs.drop 3).take 1 = [.int .i64 x3]) (e4 : (cs.drop 4).take 1 = [.string s4]) (e5 : (cs.drop 5).take 1 = [.string s5]) : cs = rc ⟨s0, x1, x2, x3, s4, s5⟩ := by
  match cs, h with
  | [c0, c1, c2, c3, c4, c5], _ =>
    simp only [List.drop_zero, List.drop_succ_cons, List.take_succ_cons, List.take_zero, List.cons.injEq, and_true] at e0 e1 e2 e3 e4 e5
    subst e0 e1 e2 e3 e4 e5
    rfl
theorem rec_of {fuel : Nat} {cs : List Value} {x : DataW H × List MemPlace} (h : DataW.trod enc Try.prog w base spare held fuel 80 cs = some x) : ∃ r : Rec, cs = rc r ∧ Small r := by
  obtain ⟨xs, n, _, _, hc, hl, hg⟩ := DataW.trod_struct Try.underlying80 h
  have h6 : cs.length = 6 := hc.trans (by kernel_rfl)
  have hx : xs.length = 6 := hl
  have ks : Try.prog.cellsOf 9 = 1 := by kernel_rfl
  have ki : Try.prog.cellsOf 3 = 1 := by kernel_rfl
  have g : ∀ i, i < 6 → xs[i]? = some (xs[i]!) := fun i hi => by rw [getElem!_pos xs i (by omega)]; exact List.getElem?_eq_getElem (by omega)
  have f0 := (hg 0 _ rfl).trans (g 0 (by omega))
  have f1 := (hg 1 _ rfl).trans (g 1 (by omega))
  have f2 := (hg 2 _ rfl).trans (g 2 (by omega))
  have f3 := (hg 3 _ rfl).trans (g 3 (by omega))
  have f4 := (hg 4 _ rfl).trans (g 4 (by omega))
  have f5 := (hg 5 _ rfl).trans (g 5 (by omega))
  obtain ⟨s0, e0, _, z0⟩ := DataW.trod_string Try.underlying9 f0
  obtain ⟨x1, e1, _⟩ := DataW.trod_int Try.underlying3 f1
  obtain ⟨x2, e2, _⟩ := DataW.trod_int Try.underlying3 f2
  obtain ⟨x3, e3, _⟩ := DataW.trod_int Try.underlying3 f3
  obtain ⟨s4, e4, _, z4⟩ := DataW.trod_string Try.underlying9 f4
  obtain ⟨s5, e5, _, z5⟩ := DataW.trod_string Try.underlying9 f5
  replace e0 : (cs.drop 0).take (Try.prog.cellsOf 9) = [.string s0] := e0
  replace e1 : (cs.drop 1).take (Try.prog.cellsOf 3) = [.int .i64 x1] := e1
  replace e2 : (cs.drop 2).take (Try.prog.cellsOf 3) = [.int .i64 x2] := e2
  replace e3 : (cs.drop 3).take (Try.prog.cellsOf 3) = [.int .i64 x3] := e3
  replace e4 : (cs.drop 4).take (Try.prog.cellsOf 9) = [.string s4] := e4
  replace e5 : (cs.drop 5).take (Try.prog.cellsOf 9) = [.string s5] := e5
  rw [ks] at e0 e4 e5
  rw [ki] at e1 e2 e3
  unfold maxLen at z0 z4 z5
  exact ⟨⟨s0, x1, x2, x3, s4, s5⟩, six_of h6 e0 e1 e2 e3 e4 e5, z0, z4, z5⟩
set_option maxRecDepth 100000 in
/-- A record that comes in. -/
theorem rec_in {r : Reach} {b0 : Nat} {v : Value} {d : DataW H} {p : List MemPlace} (hv : Value.okWide Try.prog w r b0 80 v) (h : DataW.Trod enc Try.prog w base spare held 80 v d p) :
    ∃ r : Rec, v = .agg #[.string r.name, .int .i64 r.ty, .int .i64 r.ttl, .int .i64 r.n, .string r.host, .string r.text] ∧ Small r := by
  obtain ⟨cs, rfl, _⟩ := okWide_struct Try.underlying80 hv
  obtain ⟨fuel, hf⟩ := h
  obtain ⟨r, hr, hz⟩ := rec_of hf
  refine ⟨r, ?_, hz⟩
  have e : cs.toList = rc r := hr
  rw [show cs = (rc r).toArray from by rw [← e]]
  rfl
end

section
variable {H : Type} {enc : TypeId × Value → H} {w : World}

set_option maxRecDepth 100000 in
/-- A slice of records that comes in. -/
theorem recs_in {a : Option Addr} {len cap : Nat} {d : DataW H} {p : List MemPlace} (h : DataW.Trod enc Try.prog w 0 (fun _ => true) true 22 (.slice a len cap) d p) : ∃ l, IsRecs w a len l := by
  obtain ⟨fuel, hf⟩ := h
  rcases open_slice Try.underlying22 hf with ⟨hcs, _⟩ | ⟨x, len', cap', m, n, D, Pl, hcs, _, hl, hm, hmm, _, hx⟩
  · simp [Value.cells] at hcs
    obtain ⟨rfl, rfl, rfl⟩ := hcs
    exact ⟨[], Sr.nil, by omega, fun r h => by simp at h⟩
  · simp [Value.cells] at hcs
    obtain ⟨rfl, rfl, rfl⟩ := hcs
    unfold maxLen at hm
    simp only [if_true] at hmm
    subst hmm
    have hC : Try.prog.cellsOf 80 = 6 := by kernel_rfl
    rw [hC] at hx
    obtain ⟨b, off, spot⟩ := x
    rcases Nat.eq_zero_or_pos len with h0 | h0
    · subst h0
      exact ⟨[], Sr.nil, by omega, fun r h => by simp at h⟩
    have hs : spot = none := by
      obtain ⟨cs', hc, _⟩ := hx 0 (by omega)
      obtain ⟨_, hl6, hat⟩ := World.cells?_some hc
      have c0 := hat 0 (by omega)
      rw [List.getElem?_eq_getElem (by omega)] at c0
      simpa [Addr.add] using World.cell?_spot c0
    subst hs
    have key : ∀ i : Nat, ∃ r : Rec, i < len → (b < w.heap.size ∧ Ce w b (off + i * 6) r ∧ Small r) := fun i => by
      by_cases hi : i < len
      · obtain ⟨cs', hc, ht⟩ := hx i (by omega)
        obtain ⟨r, rfl, hz⟩ := rec_of ht
        obtain ⟨_, _, hat⟩ := World.cells?_some hc
        refine ⟨r, fun _ => ?_⟩
        have hc : ∀ c, c < 6 → w.cell? ⟨b, off + i * 6 + c, none⟩ = (rc r)[c]? := fun c hc => by
          rw [← hat c hc, Addr.add_lit, Addr.add_lit]
        have c0 : w.cell? ⟨b, off + i * 6 + 0, none⟩ = some (.string r.name) := hc 0 (by omega)
        exact ⟨World.block_lt_of_cell? _ _ c0, ⟨c0, hc 1 (by omega), hc 2 (by omega), hc 3 (by omega), hc 4 (by omega), hc 5 (by omega)⟩, hz⟩
      · exact ⟨zr, fun h => absurd h hi⟩
    obtain ⟨f, hf⟩ := Classical.axiomOfChoice key
    refine ⟨(List.range len).map f, ⟨by simp, fun hn => ?_⟩, by omega, fun r hr => ?_⟩
    · refine ⟨b, off, rfl, (hf 0 hn).1, fun j hj => ?_⟩
      have hj' : j < len := by simpa using hj
      have := (hf j hj').2.1
      simpa using this
    · obtain ⟨i, hi, rfl⟩ := List.mem_map.1 hr
      exact (hf i (List.mem_range.1 hi)).2.2

end
end Go.Proofs.Ytmabbeefeipnaaa.RowR
