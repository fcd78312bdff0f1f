/- What the program's Under does, by the library's proved contract of strings.HasSuffix: it tells whether the labels of its second text end those of its first. Condition: at most 400000000 bytes each. -/
import Derived.Test.YtmabbeefeipnaaaMapE
import Derived.Test.YtmabbeefeipnaaaMemQ
import Derived.Test.YtmabbeefeipnaaaAppR
import Derived.Test.YtmabbeefeipnaaaMemR
import Derived.Laws.StructEq
import Derived.Test.YtmabbeefeipnaaaMapK
import Derived.WideKeyArgs2
import Derived.Test.YtmabbeefeipnaaaWt
import Derived.Deep.DeepCutAuto
import Derived.Shelf.Strings.Prefix
import Derived.Test.YtmabbeefeipnaaaRows
import Derived.Test.YtmabbeefeipnaaaLabSpec
import Derived.Test.YtmabbeefeipnaaaNameMath
/- A map of slices of records, one for each key: what it is, and that it is so again behind one more record. -/
namespace Go.Proofs.Ytmabbeefeipnaaa.GrpM
open Go.RowKit Go.Proofs.Ytmabbeefeipnaaa.Mem Go.Proofs.Ytmabbeefeipnaaa.MemR Go.Proofs.Ytmabbeefeipnaaa.SetMath Go.Proofs.Ytmabbeefeipnaaa.MemQ Go.Proofs.Ytmabbeefeipnaaa.MapK Go.Proofs.Ytmabbeefeipnaaa.MapE

/-- An entry: the key, the block of the slice, its length and its capacity. -/
structure Ge where
  q : Key
  g : Nat
  m : Nat
  cap : Nat

/-- Its slice. -/
def sv (e : Ge) : Value := .slice (some ⟨e.g, 0, none⟩) e.m e.cap

/-- The entries as the map holds them. -/
def ev (es : List Ge) : List (Value × Value) := es.map (fun e => (qv e.q, sv e))

/-- The records of a key. -/
noncomputable def sq (q : Key) (l : List Rec) : List Rec := sf q.name q.ty l

theorem sq_snoc (q : Key) (l : List Rec) (r : Rec) : sq q (l ++ [r]) = sq q l ++ (if isk q.name q.ty r = true then [r] else []) := by
  rw [sq, sf, List.filter_append, List.filter_cons, List.filter_nil]; rfl

theorem sq_same (l : List Rec) (r : Rec) : sq (ky r) (l ++ [r]) = sq (ky r) l ++ [r] := by
  rw [sq_snoc, show isk (ky r).name (ky r).ty r = true from isk_true ⟨rfl, rfl⟩, if_pos rfl]

theorem sq_other {q : Key} (l : List Rec) {r : Rec} (h : q ≠ ky r) : sq q (l ++ [r]) = sq q l := by
  rw [sq_snoc, isk_false (fun e => h (by obtain ⟨a, b⟩ := q; simp only at e; rw [ky, e.1, e.2])), if_neg (by decide), List.append_nil]

theorem sq_none {q : Key} {l : List Rec} (h : q ∉ kl l) : sq q l = [] := by
  refine List.filter_eq_nil_iff.2 (fun r hr hk => h ?_)
  refine List.mem_map.2 ⟨r, hr, ?_⟩
  obtain ⟨h1, h2⟩ := isk_iff.1 hk
  obtain ⟨a, b⟩ := q
  rw [ky, h1, h2]

theorem uq_kl (l : List Rec) (r : Rec) : uq (kl (l ++ [r])) = add (uq (kl l)) (ky r) := by
  rw [show kl (l ++ [r]) = kl l ++ [ky r] from by rw [kl, List.map_append]; rfl, uq_snoc]

/-- Block b is a map that holds, for each key of the records l, its records in a row of the call's own, from base on; no two in one row. -/
def Gr (w : World) (base b : Nat) (l : List Rec) : Prop := ∃ es : List Ge, Mp w b (ev es) ∧ es.map (·.q) = uq (kl l) ∧
  (∀ (i : Nat) (e : Ge), es[i]? = some e → w.ownsRow base 68 6 (sv e) e.m (fl (sq e.q l))) ∧ (∀ (i i' : Nat) (e e' : Ge), es[i]? = some e → es[i']? = some e' → i ≠ i' → e.g ≠ e'.g)

section
variable {w w' w2 w3 w4 : World} {base b g' cap' : Nat} {l : List Rec} {es : List Ge}

theorem ev_key (es : List Ge) : ∀ p ∈ ev es, ∃ q : Key, p.1 = qv q := by
  intro p hp
  obtain ⟨e, _, rfl⟩ := List.mem_map.1 hp
  exact ⟨_, rfl⟩

theorem qv_inj {q p : Key} (h : qv q = qv p) : q = p := by
  obtain ⟨a, b⟩ := q
  obtain ⟨c, d⟩ := p
  simp [qv] at h
  rw [h.1, h.2]

theorem ev_nodup : ∀ {es : List Ge}, (es.map (·.q)).Nodup → ((ev es).map Prod.fst).Nodup
  | [], _ => by simp [ev]
  | e :: es, h => by
    rw [List.map_cons] at h
    obtain ⟨h1, h2⟩ := List.nodup_cons.1 h
    show (qv e.q :: (ev es).map Prod.fst).Nodup
    refine List.nodup_cons.2 ⟨fun hm => ?_, ev_nodup h2⟩
    obtain ⟨p, hp, he⟩ := List.mem_map.1 hm
    obtain ⟨e', he', rfl⟩ := List.mem_map.1 hp
    exact h1 (List.mem_map.2 ⟨e', he', qv_inj he⟩)

theorem ev_out {q : Key} (h : q ∉ es.map (·.q)) : ∀ p ∈ ev es, p.1 ≠ qv q := by
  intro p hp e
  obtain ⟨e', he', rfl⟩ := List.mem_map.1 hp
  exact h (List.mem_map.2 ⟨e', he', qv_inj e⟩)

theorem ev_at {i : Nat} {e : Ge} (h : es[i]? = some e) : (ev es)[i]? = some (qv e.q, sv e) := by rw [ev, List.getElem?_map, h]; rfl

theorem own_kept {e : Ge} {xs : List Value} {row : Option Nat} (h : w.ownsRow base 68 6 (sv e) e.m xs) (hg : w.grownBy w' row) (hne : some e.g ≠ row) : w'.ownsRow base 68 6 (sv e) e.m xs := h.kept hg (Or.inr hne)

theorem own_lt {e : Ge} {xs : List Value} (h : w.ownsRow base 68 6 (sv e) e.m xs) : base ≤ e.g ∧ e.g < w.heap.size := h.lt e.g rfl

theorem own_m {e : Ge} (h : w.ownsRow base 68 6 (sv e) e.m (fl (sq e.q l))) : (sq e.q l).length = e.m := by have := h.1; rw [fl_len] at this; omega

/-- Nothing of the groups is turned by what turns other blocks. -/
theorem rows_kept {row : Option Nat} (h : ∀ (i : Nat) (e : Ge), es[i]? = some e → w.ownsRow base 68 6 (sv e) e.m (fl (sq e.q l))) (hg : w.grownBy w' row) (hne : ∀ g, base ≤ g → g < w.heap.size → some g ≠ row) :
    ∀ (i : Nat) (e : Ge), es[i]? = some e → w'.ownsRow base 68 6 (sv e) e.m (fl (sq e.q l)) := fun i e he => by
  have h1 := own_lt (h i e he)
  exact own_kept (h i e he) hg (hne _ h1.1 h1.2)

/-- One more record of a key that is there. -/
theorem gr_old (hq : es.map (·.q) = uq (kl l)) (ho : ∀ (i : Nat) (e : Ge), es[i]? = some e → w2.ownsRow base 68 6 (sv e) e.m (fl (sq e.q l))) (hd : ∀ (i i' : Nat) (e e' : Ge), es[i]? = some e → es[i']? = some e' → i ≠ i' → e.g ≠ e'.g)
    {j : Nat} {e : Ge} {r : Rec} (hj : es[j]? = some e) (hk : e.q = ky r) (hgr : w2.grownBy w3 (some e.g)) (hown : w3.ownsRow base 68 6 (.slice (some ⟨g', 0, none⟩) (e.m + 1) cap') (e.m + 1) (fl (sq e.q l) ++ fl [r])) (hl : e.g = g' ∨ g' = w2.heap.size)
    (hb : b < base) (h4 : w3.grownBy w4 (some b)) (hm : Mp w4 b ((ev es).set j (qv (ky r), .slice (some ⟨g', 0, none⟩) (e.m + 1) cap'))) : Gr w4 base b (l ++ [r]) := by
  have hnd : (es.map (·.q)).Nodup := hq ▸ nodup_uq _
  have hjl : j < es.length := (List.getElem?_eq_some_iff.1 hj).1
  have hin : ky r ∈ uq (kl l) := by rw [← hq, ← hk]; exact List.mem_map.2 ⟨e, List.mem_of_getElem? hj, rfl⟩
  have hother : ∀ (i : Nat) (e' : Ge), es[i]? = some e' → i ≠ j → e'.q ≠ ky r := fun i e' he' hne hqq => hne (nodup_inj hnd (a := ky r) (by rw [List.getElem?_map, he', Option.map_some, hqq]) (by rw [List.getElem?_map, hj, Option.map_some, hk]))
  have hg' : base ≤ g' := (hown.lt g' rfl).1
  refine ⟨es.set j ⟨ky r, g', e.m + 1, cap'⟩, ?_, ?_, ?_, ?_⟩
  · have : ev (es.set j ⟨ky r, g', e.m + 1, cap'⟩) = (ev es).set j (qv (ky r), .slice (some ⟨g', 0, none⟩) (e.m + 1) cap') := by rw [ev, List.map_set]; rfl
    rw [this]; exact hm
  · rw [List.map_set, uq_kl, add_in hin]
    show (es.map (·.q)).set j (ky r) = uq (kl l)
    rw [hq]
    refine List.ext_getElem? fun i => ?_
    rw [List.getElem?_set]
    by_cases hi : j = i
    · subst hi
      have h1 : j < (uq (kl l)).length := by rw [← hq, List.length_map]; exact hjl
      have h2 : (uq (kl l))[j]? = some (ky r) := by rw [← hq, List.getElem?_map, hj, Option.map_some, hk]
      rw [if_pos rfl, if_pos h1, h2]
    · rw [if_neg hi]
  · intro i e' he'
    rw [List.getElem?_set] at he'
    by_cases hi : j = i
    · subst hi
      simp [hjl] at he'
      subst he'
      have h5 : w4.ownsRow base 68 6 (.slice (some ⟨g', 0, none⟩) (e.m + 1) cap') (e.m + 1) (fl (sq e.q l) ++ fl [r]) := hown.kept h4 (Or.inr (fun h => by have h6 : g' = b := Option.some.inj h; omega))
      rw [hk, ← fl_append, ← sq_same] at h5
      exact h5
    · simp [hi] at he'
      have h5 := own_kept (ho i e' he') hgr (fun h => hd i j e' e he' hj (fun h => hi h.symm) (Option.some.inj h))
      have h7 := own_lt h5
      have h6 := own_kept h5 h4 (fun h => by have h8 : e'.g = b := Option.some.inj h; omega)
      rw [sq_other l (hother i e' he' (fun h => hi h.symm))]
      exact h6
  · intro i i' e1 e2 h1 h2 hne
    rw [List.getElem?_set] at h1 h2
    have aux : ∀ (i : Nat) (e' : Ge), es[i]? = some e' → i ≠ j → g' ≠ e'.g := fun i e' he' hi h => by
      rcases hl with hl | hl
      · exact hd j i e e' hj he' (fun h => hi h.symm) (hl.trans h)
      · have := own_lt (ho i e' he'); omega
    by_cases hi : j = i
    · subst hi
      simp [hjl] at h1
      subst h1
      simp [hne] at h2
      exact aux i' e2 h2 (fun h => hne h.symm)
    · simp [hi] at h1
      by_cases hi' : j = i'
      · subst hi'
        simp [hjl] at h2
        subst h2
        exact fun h => aux i e1 h1 (fun h => hi h.symm) h.symm
      · simp [hi'] at h2
        exact hd i i' e1 e2 h1 h2 hne

/-- One more record of a key that is not there. -/
theorem gr_new (hq : es.map (·.q) = uq (kl l)) (ho : ∀ (i : Nat) (e : Ge), es[i]? = some e → w2.ownsRow base 68 6 (sv e) e.m (fl (sq e.q l))) (hd : ∀ (i i' : Nat) (e e' : Ge), es[i]? = some e → es[i']? = some e' → i ≠ i' → e.g ≠ e'.g)
    {r : Rec} (hk : ky r ∉ uq (kl l)) (hgr : w2.grownBy w3 none) (hown : w3.ownsRow base 68 6 (.slice (some ⟨g', 0, none⟩) 1 cap') 1 (fl [r])) (hl : g' = w2.heap.size)
    (hb : b < base) (h4 : w3.grownBy w4 (some b)) (hm : Mp w4 b (ev es ++ [(qv (ky r), .slice (some ⟨g', 0, none⟩) 1 cap')])) : Gr w4 base b (l ++ [r]) := by
  have hother : ∀ (i : Nat) (e' : Ge), es[i]? = some e' → e'.q ≠ ky r := fun i e' he' hqq => hk (by rw [← hq, ← hqq]; exact List.mem_map.2 ⟨e', List.mem_of_getElem? he', rfl⟩)
  have hg' : base ≤ g' := (hown.lt g' rfl).1
  have hcase : ∀ (i : Nat) (e' : Ge), (es ++ [(⟨ky r, g', 1, cap'⟩ : Ge)])[i]? = some e' → (i < es.length ∧ es[i]? = some e') ∨ (i = es.length ∧ e' = ⟨ky r, g', 1, cap'⟩) := by
    intro i e' h
    by_cases hi : i < es.length
    · rw [List.getElem?_append_left hi] at h; exact Or.inl ⟨hi, h⟩
    · rw [List.getElem?_append_right (by omega)] at h
      have h0 : i - es.length = 0 := by
        have := (List.getElem?_eq_some_iff.1 h).1
        simpa using this
      rw [h0] at h
      exact Or.inr ⟨by omega, by simpa using h.symm⟩
  refine ⟨es ++ [⟨ky r, g', 1, cap'⟩], ?_, ?_, ?_, ?_⟩
  · have : ev (es ++ [⟨ky r, g', 1, cap'⟩]) = ev es ++ [(qv (ky r), .slice (some ⟨g', 0, none⟩) 1 cap')] := by rw [ev, List.map_append]; rfl
    rw [this]; exact hm
  · rw [List.map_append, uq_kl]
    show es.map (·.q) ++ [ky r] = add (uq (kl l)) (ky r)
    rw [add_out hk, hq]
  · intro i e' he'
    rcases hcase i e' he' with ⟨_, h⟩ | ⟨_, rfl⟩
    · have h5 := own_kept (ho i e' h) hgr (by simp)
      have h7 := own_lt h5
      have h6 := own_kept h5 h4 (fun h => by have h8 : e'.g = b := Option.some.inj h; omega)
      rw [sq_other l (hother i e' h)]
      exact h6
    · have h5 : w4.ownsRow base 68 6 (.slice (some ⟨g', 0, none⟩) 1 cap') 1 (fl [r]) := hown.kept h4 (Or.inr (fun h => by have h6 : g' = b := Option.some.inj h; omega))
      have h6 : sq (ky r) (l ++ [r]) = [r] := by rw [sq_same, sq_none (fun h => hk (mem_uq.2 h)), List.nil_append]
      show w4.ownsRow base 68 6 (.slice (some ⟨g', 0, none⟩) 1 cap') 1 (fl (sq (ky r) (l ++ [r])))
      rw [h6]
      exact h5
  · intro i i' e1 e2 h1 h2 hne
    rcases hcase i e1 h1 with ⟨hi, h1⟩ | ⟨hi, rfl⟩
    · rcases hcase i' e2 h2 with ⟨_, h2⟩ | ⟨_, rfl⟩
      · exact hd i i' e1 e2 h1 h2 hne
      · have := own_lt (ho i e1 h1)
        intro h
        have h8 : e1.g = g' := h
        omega
    · rcases hcase i' e2 h2 with ⟨_, h2⟩ | ⟨hi', rfl⟩
      · have := own_lt (ho i' e2 h2)
        intro h
        have h8 : g' = e2.g := h
        omega
      · omega
end
end Go.Proofs.Ytmabbeefeipnaaa.GrpM

/- Two records that are the same, compared with == : true, and nothing is turned. -/
namespace Go.Proofs.Ytmabbeefeipnaaa.EqlR
open Go.RowKit Go.Proofs.Ytmabbeefeipnaaa.Mem Go.Proofs.Ytmabbeefeipnaaa.MemR

theorem eql_same (r : Rec) (w : World) : Sem.run Try.prog (binOp .eql 68 (.agg #[.string r.name, .int .i64 r.ty, .int .i64 r.ttl, .int .i64 r.n, .string r.host, .string r.text]) (.agg #[.string r.name, .int .i64 r.ty, .int .i64 r.ttl, .int .i64 r.n, .string r.host, .string r.text])) w = .ok (.bool true) w := by
  have u3 := Try.underlying3
  have a3 := Try.isAgg3
  have z3 := Try.sizeOf3
  have u9 := Try.underlying9
  have a9 := Try.isAgg9
  have z9 := Try.sizeOf9
  have hS : Try.prog.underlying 68 = some (.struct (Try.prog.fieldsOf 68)) := by kernel_rfl
  have hp : Try.prog.stoodInHeld 68 = false := by kernel_rfl
  rw [run_eql_struct, show (10000 : Nat) = 9999 + 1 from rfl, run_equalIn_agg w 9999 68 _ _ hS hp]
  simp only [Program.fieldsOf, Try.underlying68]
  go_simp

theorem bytes_ne {a b : ByteArray} (h : a ≠ b) : (a.toList == b.toList) = false := by
  cases e : (a.toList == b.toList) with
  | false => rfl
  | true =>
    have := eq_of_beq e
    rw [ByteArray.toList_eq, ByteArray.toList_eq] at this
    exact absurd (by cases a; cases b; congr; exact Array.toList_inj.1 this) h
theorem eql_diff {r s : Rec} (h : r ≠ s) (w : World) : Sem.run Try.prog (binOp .eql 68 (.agg #[.string r.name, .int .i64 r.ty, .int .i64 r.ttl, .int .i64 r.n, .string r.host, .string r.text]) (.agg #[.string s.name, .int .i64 s.ty, .int .i64 s.ttl, .int .i64 s.n, .string s.host, .string s.text])) w = .ok (.bool false) w := by
  have u3 := Try.underlying3
  have a3 := Try.isAgg3
  have z3 := Try.sizeOf3
  have u9 := Try.underlying9
  have a9 := Try.isAgg9
  have z9 := Try.sizeOf9
  have hS : Try.prog.underlying 68 = some (.struct (Try.prog.fieldsOf 68)) := by kernel_rfl
  have hp : Try.prog.stoodInHeld 68 = false := by kernel_rfl
  rw [run_eql_struct, show (10000 : Nat) = 9999 + 1 from rfl, run_equalIn_agg w 9999 68 _ _ hS hp]
  simp only [Program.fieldsOf, Try.underlying68]
  obtain ⟨n1, t1, l1, m1, h1, x1⟩ := r
  obtain ⟨n2, t2, l2, m2, h2, x2⟩ := s
  simp only
  by_cases c0 : n1 = n2
  · subst c0
    by_cases c1 : t1 = t2
    · subst c1
      by_cases c2 : l1 = l2
      · subst c2
        by_cases c3 : m1 = m2
        · subst c3
          by_cases c4 : h1 = h2
          · subst c4
            by_cases c5 : x1 = x2
            · subst c5; exact absurd rfl h
            · have k := bytes_ne c5
              go_simp
          · have k := bytes_ne c4
            go_simp
        · go_simp
      · go_simp
    · go_simp
  · have k := bytes_ne c0
    go_simp

theorem grd : Try.prog.eqGuardType Try.prog.depth 68 = false := by kernel_rfl
end Go.Proofs.Ytmabbeefeipnaaa.EqlR

/- The keys of the program's maps: texts, ints, questions, records: of which the laws on maps may be asked. -/
namespace Go.Proofs.Ytmabbeefeipnaaa.KeyT
open Go.MapKept Go.RowKit Go.Proofs.Ytmabbeefeipnaaa.Mem Go.Proofs.Ytmabbeefeipnaaa.MemR Go.Proofs.Ytmabbeefeipnaaa.SetMath Go.Proofs.Ytmabbeefeipnaaa.MemQ Go.Proofs.Ytmabbeefeipnaaa.MapK

/-- A text as a key. -/
def KS (v : Value) : Prop := ∃ s : ByteArray, v = .string s

/-- An int as a key. -/
def KI (v : Value) : Prop := ∃ x : Int, v = .int .i64 x

/-- A question as a key. -/
def KQ (v : Value) : Prop := ∃ q : Key, v = qv q

/-- A record as a key. -/
def KR (v : Value) : Prop := ∃ r : Rec, v = .agg #[.string r.name, .int .i64 r.ty, .int .i64 r.ttl, .int .i64 r.n, .string r.host, .string r.text]

/-- Keys that are compared at once. -/
theorem plain {P : Program} {k : TypeId} {S : Value → Prop} (d : TypeDesc) (hd : P.underlying k = some d) (h : ∀ v, S v → IsKey d v) : MapK.KeyT P k S where
  check w em v hv := run_checkKey hd (h v hv) em 9999
  stays w v hv := run_keyThatStays (h v hv)
  find w x hx es hes := by
    rcases findNow_spec (h x hx) es 0 (fun e he => h _ (hes e he)) with ⟨h1, h2⟩ | ⟨j, e, h1, h2, h3⟩
    · exact Or.inl ⟨run_findKey hd h1, h2⟩
    · exact Or.inr ⟨j, e, by rw [run_findKey hd h1, Nat.zero_add], h2, h3⟩

theorem strings : MapK.KeyT Try.prog 9 KS := plain .string Try.underlying9 (by rintro v ⟨s, rfl⟩; trivial)

theorem ints : MapK.KeyT Try.prog 3 KI := plain (.int .i64) Try.underlying3 (by rintro v ⟨s, rfl⟩; exact rfl)

theorem bytes_ne {a b : ByteArray} (h : a ≠ b) : (a.toList == b.toList) = false := by
  cases e : (a.toList == b.toList) with
  | false => rfl
  | true =>
    have := eq_of_beq e
    rw [ByteArray.toList_eq, ByteArray.toList_eq] at this
    exact absurd (by cases a; cases b; congr; exact Array.toList_inj.1 this) h

theorem quest_same (q : Key) (w : World) : Sem.run Try.prog (Op.equal 34 (qv q) (qv q)) w = .ok true w := by
  have u3 := Try.underlying3
  have a3 := Try.isAgg3
  have z3 := Try.sizeOf3
  have u9 := Try.underlying9
  have a9 := Try.isAgg9
  have z9 := Try.sizeOf9
  have hS : Try.prog.underlying 34 = some (.struct (Try.prog.fieldsOf 34)) := by kernel_rfl
  have hp : Try.prog.stoodInHeld 34 = false := by kernel_rfl
  unfold qv Op.equal Op.maxDepth
  rw [show (10000 : Nat) = 9999 + 1 from rfl, run_equalIn_agg w 9999 34 _ _ hS hp]
  simp only [Program.fieldsOf, Try.underlying34]
  go_simp

theorem quest_diff {q p : Key} (h : q ≠ p) (w : World) : Sem.run Try.prog (Op.equal 34 (qv q) (qv p)) w = .ok false w := by
  have u3 := Try.underlying3
  have a3 := Try.isAgg3
  have z3 := Try.sizeOf3
  have u9 := Try.underlying9
  have a9 := Try.isAgg9
  have z9 := Try.sizeOf9
  have hS : Try.prog.underlying 34 = some (.struct (Try.prog.fieldsOf 34)) := by kernel_rfl
  have hp : Try.prog.stoodInHeld 34 = false := by kernel_rfl
  unfold qv Op.equal Op.maxDepth
  rw [show (10000 : Nat) = 9999 + 1 from rfl, run_equalIn_agg w 9999 34 _ _ hS hp]
  simp only [Program.fieldsOf, Try.underlying34]
  obtain ⟨n1, t1⟩ := q
  obtain ⟨n2, t2⟩ := p
  simp only
  by_cases c0 : n1 = n2
  · subst c0
    by_cases c1 : t1 = t2
    · subst c1; exact absurd rfl h
    · go_simp
  · have k := bytes_ne c0
    go_simp

theorem rec_same (r : Rec) (w : World) : Sem.run Try.prog (Op.equal 68 (.agg #[.string r.name, .int .i64 r.ty, .int .i64 r.ttl, .int .i64 r.n, .string r.host, .string r.text]) (.agg #[.string r.name, .int .i64 r.ty, .int .i64 r.ttl, .int .i64 r.n, .string r.host, .string r.text])) w = .ok true w := by
  have h := EqlR.eql_same r w
  rw [run_eql_struct] at h
  unfold Op.equal Op.maxDepth
  revert h
  cases Sem.run Try.prog (Op.equalIn 10000 68 (.agg #[.string r.name, .int .i64 r.ty, .int .i64 r.ttl, .int .i64 r.n, .string r.host, .string r.text]) (.agg #[.string r.name, .int .i64 r.ty, .int .i64 r.ttl, .int .i64 r.n, .string r.host, .string r.text])) w with
  | ok b w' => intro h; simp [Result.andThen] at h; rw [h.1, h.2]
  | halt h w' => intro h; simp [Result.andThen] at h

theorem rec_diff {r s : Rec} (h : r ≠ s) (w : World) : Sem.run Try.prog (Op.equal 68 (.agg #[.string r.name, .int .i64 r.ty, .int .i64 r.ttl, .int .i64 r.n, .string r.host, .string r.text]) (.agg #[.string s.name, .int .i64 s.ty, .int .i64 s.ttl, .int .i64 s.n, .string s.host, .string s.text])) w = .ok false w := by
  have h := EqlR.eql_diff h w
  rw [run_eql_struct] at h
  unfold Op.equal Op.maxDepth
  revert h
  cases Sem.run Try.prog (Op.equalIn 10000 68 (.agg #[.string r.name, .int .i64 r.ty, .int .i64 r.ttl, .int .i64 r.n, .string r.host, .string r.text]) (.agg #[.string s.name, .int .i64 s.ty, .int .i64 s.ttl, .int .i64 s.n, .string s.host, .string s.text])) w with
  | ok b w' => intro h; simp [Result.andThen] at h; rw [h.1, h.2]
  | halt h w' => intro h; simp [Result.andThen] at h

theorem bits_self (s : ByteArray) (n : Nat) : Instr.sameBits n (.string s) (.string s) = true := sameBits_self (d := .string) (k := .string s) trivial n

theorem bits_int (x : Int) (n : Nat) : Instr.sameBits n (.int .i64 x) (.int .i64 x) = true := sameBits_self (d := .int .i64) (k := .int .i64 x) rfl n

theorem bits_agg (xs : List Value) (n : Nat) (h : ∀ x ∈ xs, Instr.sameBits n x x = true) : Instr.sameBits (n + 1) (.agg xs.toArray) (.agg xs.toArray) = true := by
  rw [Instr.sameBits]
  simp only [beq_self_eq_true, Bool.true_and]
  rw [List.all_eq_true]
  rintro ⟨x, y⟩ hxy
  have e : x = y ∧ x ∈ xs := by
    clear h
    induction xs with
    | nil => cases hxy
    | cons a xs ih =>
      rw [List.zip_cons_cons] at hxy
      rcases List.mem_cons.1 hxy with h1 | h1
      · cases h1; exact ⟨rfl, by simp⟩
      · obtain ⟨h2, h3⟩ := ih h1; exact ⟨h2, by simp [h3]⟩
  obtain ⟨rfl, hm⟩ := e
  exact h x hm

theorem stays_agg {P : Program} (xs : List Value) (w : World) (h : ∀ x ∈ xs, Instr.sameBits 9999 x x = true) : (Instr.keyThatStays (.agg xs.toArray) (.agg xs.toArray)).run P w = .ok (.agg xs.toArray) w := by
  have := bits_agg xs 9999 h
  simp only [Instr.keyThatStays, this, if_true]
  rfl

theorem check_string (w : World) (em : Bool) (s : ByteArray) (n : Nat) : (Instr.checkKey em (n + 1) 9 (.string s)).run Try.prog w = .ok () w := run_checkKey Try.underlying9 (k := .string s) trivial em n

theorem check_int (w : World) (em : Bool) (x : Int) (n : Nat) : (Instr.checkKey em (n + 1) 3 (.int .i64 x)).run Try.prog w = .ok () w := run_checkKey Try.underlying3 (k := .int .i64 x) rfl em n

set_option maxRecDepth 100000 in
theorem quest_check (w : World) (em : Bool) (q : Key) : (Instr.checkKey em 10000 34 (qv q)).run Try.prog w = .ok () w := by
  have k0 : (Instr.checkKey em 9999 9 (.string q.name)).run Try.prog w = .ok () w := check_string w em q.name 9998
  have k1 : (Instr.checkKey em 9999 3 (.int .i64 q.ty)).run Try.prog w = .ok () w := check_int w em q.ty 9998
  have u3 := Try.underlying3
  have a3 := Try.isAgg3
  have z3 := Try.sizeOf3
  have u9 := Try.underlying9
  have a9 := Try.isAgg9
  have z9 := Try.sizeOf9
  rw [show (10000 : Nat) = 9999 + 1 from rfl, Instr.checkKey]
  unfold qv
  simp only [Sem.run_bind, run_underlying Try.underlying34, Result.andThen]
  rw [← Array.forIn_toList]
  generalize 9999 = N at *
  go_simp

set_option maxRecDepth 100000 in
theorem rec_check (w : World) (em : Bool) (r : Rec) : (Instr.checkKey em 10000 68 (.agg #[.string r.name, .int .i64 r.ty, .int .i64 r.ttl, .int .i64 r.n, .string r.host, .string r.text])).run Try.prog w = .ok () w := by
  have k0 : (Instr.checkKey em 9999 9 (.string r.name)).run Try.prog w = .ok () w := check_string w em r.name 9998
  have k1 : (Instr.checkKey em 9999 3 (.int .i64 r.ty)).run Try.prog w = .ok () w := check_int w em r.ty 9998
  have k2 : (Instr.checkKey em 9999 3 (.int .i64 r.ttl)).run Try.prog w = .ok () w := check_int w em r.ttl 9998
  have k3 : (Instr.checkKey em 9999 3 (.int .i64 r.n)).run Try.prog w = .ok () w := check_int w em r.n 9998
  have k4 : (Instr.checkKey em 9999 9 (.string r.host)).run Try.prog w = .ok () w := check_string w em r.host 9998
  have k5 : (Instr.checkKey em 9999 9 (.string r.text)).run Try.prog w = .ok () w := check_string w em r.text 9998
  have u3 := Try.underlying3
  have a3 := Try.isAgg3
  have z3 := Try.sizeOf3
  have u9 := Try.underlying9
  have a9 := Try.isAgg9
  have z9 := Try.sizeOf9
  rw [show (10000 : Nat) = 9999 + 1 from rfl, Instr.checkKey]
  simp only [Sem.run_bind, run_underlying Try.underlying68, Result.andThen]
  rw [← Array.forIn_toList]
  generalize 9999 = N at *
  go_simp

theorem qv_ne {q p : Key} (h : qv q ≠ qv p) : q ≠ p := fun e => h (by rw [e])

theorem qv_inj {q p : Key} (h : qv q = qv p) : q = p := by
  obtain ⟨a, b⟩ := q
  obtain ⟨c, d⟩ := p
  simp [qv] at h
  rw [h.1, h.2]

theorem rv_inj {r s : Rec} (h : (.agg #[.string r.name, .int .i64 r.ty, .int .i64 r.ttl, .int .i64 r.n, .string r.host, .string r.text] : Value) = .agg #[.string s.name, .int .i64 s.ty, .int .i64 s.ttl, .int .i64 s.n, .string s.host, .string s.text]) : r = s := by
  obtain ⟨a, b, c, d, e, f⟩ := r
  obtain ⟨a', b', c', d', e', f'⟩ := s
  simp at h
  obtain ⟨rfl, rfl, rfl, rfl, rfl, rfl⟩ := h
  rfl

theorem quests : MapK.KeyT Try.prog 34 KQ := by
  refine KeyT.struct _ Try.underlying34 (fun _ _ _ => rfl) ?_ ?_ ?_ ?_
  · rintro w em v ⟨q, rfl⟩; exact quest_check w em q
  · rintro w x ⟨q, rfl⟩; exact quest_same q w
  · rintro w x y ⟨q, rfl⟩ ⟨p, rfl⟩ h; exact quest_diff (qv_ne h) w
  · rintro w v ⟨q, rfl⟩
    refine stays_agg [.string q.name, .int .i64 q.ty] w ?_
    simp only [List.mem_cons, List.not_mem_nil, or_false]
    rintro x (rfl | rfl)
    · exact bits_self _ _
    · exact bits_int _ _

theorem recs : MapK.KeyT Try.prog 68 KR := by
  refine KeyT.struct _ Try.underlying68 (fun _ _ _ => rfl) ?_ ?_ ?_ ?_
  · rintro w em v ⟨r, rfl⟩; exact rec_check w em r
  · rintro w x ⟨r, rfl⟩; exact rec_same r w
  · rintro w x y ⟨r, rfl⟩ ⟨s, rfl⟩ h; exact rec_diff (fun e => h (by rw [e])) w
  · rintro w v ⟨r, rfl⟩
    refine stays_agg [.string r.name, .int .i64 r.ty, .int .i64 r.ttl, .int .i64 r.n, .string r.host, .string r.text] w ?_
    simp only [List.mem_cons, List.not_mem_nil, or_false]
    rintro x (rfl | rfl | rfl | rfl | rfl | rfl) <;> first | exact bits_self _ _ | exact bits_int _ _
end Go.Proofs.Ytmabbeefeipnaaa.KeyT

/- What firstsOf does at questions: a new slice with the questions, each once, in the order of the first occurrences. Condition: fewer than 400000001 of them. -/
namespace Go.Proofs.Ytmabbeefeipnaaa.FstQ
open Go.RowKit Go.Proofs.Ytmabbeefeipnaaa.Mem Go.Proofs.Ytmabbeefeipnaaa.SetMath Go.Proofs.Ytmabbeefeipnaaa.MapK Go.Proofs.Ytmabbeefeipnaaa.KeyT Go.Proofs.Ytmabbeefeipnaaa.MemQ

/-- The entries of a set. -/
def en (l : List Key) : List (Value × Value) := l.map (fun x => (qv x, .bool true))

theorem en_key (l : List Key) : ∀ p ∈ en l, KQ p.1 := by
  intro p hp
  obtain ⟨x, _, rfl⟩ := List.mem_map.1 hp
  exact ⟨x, rfl⟩

theorem val_inj {x y : Key} (h : (qv x : Value) = qv y) : x = y := by exact qv_inj h

theorem en_out {l : List Key} {x : Key} (h : x ∉ l) : ∀ p ∈ en l, p.1 ≠ qv x := by
  intro p hp e
  obtain ⟨y, hy, rfl⟩ := List.mem_map.1 hp
  exact h (val_inj e ▸ hy)

theorem en_in {l : List Key} {x : Key} (h : x ∈ l) : (qv x, Value.bool true) ∈ en l := List.mem_map.2 ⟨x, h, rfl⟩

theorem en_nodup : ∀ {l : List Key}, l.Nodup → ((en l).map Prod.fst).Nodup
  | [], _ => by simp [en]
  | x :: l, h => by
    obtain ⟨h1, h2⟩ := List.nodup_cons.1 h
    show (qv x :: (en l).map Prod.fst).Nodup
    refine List.nodup_cons.2 ⟨fun hm => ?_, en_nodup h2⟩
    obtain ⟨p, hp, he⟩ := List.mem_map.1 hm
    exact en_out h1 p hp he

theorem en_snoc (l : List Key) (x : Key) : en (l ++ [x]) = en l ++ [(qv x, .bool true)] := by simp [en]

theorem zero (w : World) : (zeroValue 4).run Try.prog w = .ok (.bool false) w := by kernel_rfl

theorem made_own (w : World) : ((w.alloc (.map #[] 0)).alloc (.cells #[] 34)).ownsRow (w.heap.size + 1) 34 2 (.slice (some ⟨w.heap.size + 1, 0, none⟩) 0 0) 0 [] := by
  have e : (w.alloc (.map #[] 0)).heap.size = w.heap.size + 1 := by simp
  have := owns_new (w.alloc (.map #[] 0))
  rwa [e] at this

end Go.Proofs.Ytmabbeefeipnaaa.FstQ

/- What keyOf and KeysOf do in the program: the name and the type of a record; the keys of all records, each once. Condition: fewer than 400000001 records. -/
namespace Go.Proofs.Ytmabbeefeipnaaa.KeyI
open Go.RowKit Go.Proofs.Ytmabbeefeipnaaa.Mem Go.Proofs.Ytmabbeefeipnaaa.MemR Go.Proofs.Ytmabbeefeipnaaa.SetMath Go.Proofs.Ytmabbeefeipnaaa.MemQ

set_option maxHeartbeats 1000000 in
theorem keyOf (r : Rec) (w : World) : Calls Try.prog 62 #[.agg #[.string r.name, .int .i64 r.ty, .int .i64 r.ttl, .int .i64 r.n, .string r.host, .string r.text]] w fun e w' => e = .returned (.agg #[.string r.name, .int .i64 r.ty]) ∧ Below w.heap.size w w' := by
  go_enter Try.func62, Try.ntmps62
  go_wp2
  refine bodyPost_ret (v := .agg #[.string r.name, .int .i64 r.ty]) (by simp [results, Try.results62, go_sem]) rfl ⟨rfl, ?_⟩
  repeat (first | exact Below.refl _ _ | refine Below.setCell ?_ (by simp; try omega) _ | refine Below.alloc ?_ (by simp; try omega) _)

end Go.Proofs.Ytmabbeefeipnaaa.KeyI

/- What setsOf and SetOf do in the program: a map of slices, one for each name and type; the records of a name and a type, in order. Condition: fewer than 100000001 records. -/
namespace Go.Proofs.Ytmabbeefeipnaaa.SetI
open Go.RowKit Go.Proofs.Ytmabbeefeipnaaa.Mem Go.Proofs.Ytmabbeefeipnaaa.MemR Go.Proofs.Ytmabbeefeipnaaa.SetMath Go.Proofs.Ytmabbeefeipnaaa.MemQ Go.Proofs.Ytmabbeefeipnaaa.MapK Go.Proofs.Ytmabbeefeipnaaa.MapE Go.Proofs.Ytmabbeefeipnaaa.GrpM Go.Proofs.Ytmabbeefeipnaaa.AppR Go.Proofs.Ytmabbeefeipnaaa.Wt

/-- The call returned a map of groups, and turned nothing that was there. -/
def GivesG (w : World) (l : List Rec) (e : Ending) (w' : World) : Prop :=
  ∃ b, e = .returned (.map (some b)) ∧ w.heap.size ≤ b ∧ Gr w' (w.heap.size + 1) b l ∧ Below w.heap.size w w'

theorem zero (w : World) : (zeroValue 30).run Try.prog w = .ok (.slice none 0 0) w := by kernel_rfl

theorem gr_zero {w : World} {base b : Nat} {l : List Rec} (h : Mp w b []) : Gr w base b (l.take 0) :=
  ⟨[], h, rfl, fun i e he => by simp at he, fun i i' e e' he => by simp at he⟩

set_option maxHeartbeats 2000000 in
/-- copyRecords of nil. -/
theorem copyNil (w : World) : Calls Try.prog 74 #[.slice none 0 0] w (CpyR.GivesC w 0 []) := by
  have L0 := Lib.hid ((Below.refl w.heap.size w).alloc (Nat.le_refl _) (.cells #[] 68))
  have O0 := Lib.hid (AppR.owns_new w)
  go_enter Try.func74, Try.ntmps74
  obtain ⟨i0, hi, hz0, hz1, hz2⟩ := info_parts CopyR.info
  go_wp2_with (at_builtin; refine wpList_append_own_none rfl (.tmp 3) (.tmp 4) 30 rfl w.heap.size 68 i0 6 Try.underlying30 hi hz1 _ 0 [] rfl O0.out rfl ?_)
  go_wp2
  go_ret
  obtain ⟨r, hb, _, _, hg⟩ := bk_of_owns6 O0.out
  exact ⟨w.heap.size, 0, r, rfl, Nat.le_refl _, hg, hb, L0.out⟩

set_option maxRecDepth 100000 in
set_option maxHeartbeats 4000000 in
theorem sets (b0 o0 n c : Nat) (l : List Rec) (w : World) (hs : Sr w w.heap.size (some ⟨b0, o0, none⟩) n l) (hn : n ≤ 100000000) : Calls Try.prog 41 #[.slice (some ⟨b0, o0, none⟩) n c] w (GivesG w l) := by
  have HS := Lib.hid hs
  clear hs
  have hmm := @run_makeMap Try.prog
  obtain ⟨i0, hi, hz0, hz1, hz2⟩ := info_parts CopyR.info
  have P0 := Lib.hid (gr_zero (base := w.heap.size + 1) (l := l) (Mp.made w))
  have L0 := Lib.hid ((Below.refl w.heap.size w).alloc (Nat.le_refl _) (.map #[] 0))
  go_enter Try.func41, Try.ntmps41
  go_wp2
  generalize w.alloc (.map #[] 0) = w0 at *
  go_loopw [10] (fun i wr => ∃ k : Nat, k ≤ n ∧ i = .int .i64 k ∧ Hid (Gr wr (w.heap.size + 1) w.heap.size (l.take k)) ∧ Hid (Below w.heap.size w wr)) (fun i _ => n - (intOf i).toNat)
  case atStart => exact ⟨0, Nat.zero_le _, rfl, P0.out, L0.out⟩
  case round =>
    clear P0 L0
    obtain ⟨k, hk, rfl, HO, HL⟩ := hrel
    by_cases hlt : k < n
    · obtain ⟨b, off, hA, hbB, hcs⟩ := HS.out.2 (by omega)
      obtain ⟨rfl, rfl⟩ : b0 = b ∧ o0 = off := by simp at hA; exact hA
      clear hA
      have hkl : k < l.length := by rw [HS.out.1]; exact hlt
      obtain ⟨e0, e1, e2, e3, e4, e5⟩ := (hcs k hkl).below HL.out hbB
      clear hcs
      have HT := Lib.hid (List.take_succ_eq_append_getElem hkl)
      have HTL : Hid ((l.take k).length = k) := show _ = _ by simp; omega
      generalize l[k] = r at *
      obtain ⟨es, hm, hq, ho, hd⟩ := HO.out
      clear HO
      have HM := Lib.hid hm
      have HQ := Lib.hid hq
      have HR := Lib.hid ho
      have HD := Lib.hid hd
      clear hm hq ho hd
      have B1 : Hid (Bk (wr.alloc (.cells #[.string r.name, .int .i64 r.ty, .int .i64 r.ttl, .int .i64 r.n, .string r.host, .string r.text] 68)) wr.heap.size 68 (rc r)) := heap_alloc_new wr _
      have hgB : w.heap.size ≤ wr.heap.size := HL.out.size
      go_wp2_with fail
      refine (KeyI.keyOf r _).mono ?_
      rintro e w1 ⟨rfl, hl⟩
      have hlA : Below wr.heap.size wr w1 := ((Below.refl wr.heap.size wr).alloc (Nat.le_refl _) _).trans (hl.mono (by simp))
      have M1 := Lib.hid ((HM.out.below hlA HM.out.lt).alloc (.cells #[.string r.name, .int .i64 r.ty] 34))
      have R1 := Lib.hid (rows_kept HR.out (row := none) (w' := w1.alloc (.cells #[.string r.name, .int .i64 r.ty] 34)) (World.grownBy.trans ⟨hlA.os, hlA.tape, hlA.output, hlA.size, fun k hk _ => hlA.block k hk⟩ (World.grownBy_alloc w1 _ none)) (by simp))
      have L1 := Lib.hid ((HL.out.trans (hlA.mono HL.out.size)).alloc (Nat.le_trans HL.out.size hlA.size) (.cells #[.string r.name, .int .i64 r.ty] 34))
      have X1 := Lib.hid ((B1.out.below hl (by simp)).alloc (.cells #[.string r.name, .int .i64 r.ty] 34))
      have Y1 : Hid (Bk (w1.alloc (.cells #[.string r.name, .int .i64 r.ty] 34)) w1.heap.size 34 [.string r.name, .int .i64 r.ty]) := heap_alloc_new w1 _
      clear hl hlA HM HR HL B1 e0 e1 e2 e3 e4 e5
      go_upto_region 6 with (fail)
      generalize w1.alloc (.cells #[.string r.name, .int .i64 r.ty] 34) = w2 at *
      generalize w1.heap.size = gk at *
      have x0 := Y1.out.cell 0
      have x1 := Y1.out.cell 1
      have y0 : w2.cell? ⟨wr.heap.size, 0, none⟩ = some (.string r.name) := X1.out.cell 0
      have y1 : w2.cell? ⟨wr.heap.size, 1, none⟩ = some (.int .i64 r.ty) := X1.out.cell 1
      have y2 : w2.cell? ⟨wr.heap.size, 2, none⟩ = some (.int .i64 r.ttl) := X1.out.cell 2
      have y3 : w2.cell? ⟨wr.heap.size, 3, none⟩ = some (.int .i64 r.n) := X1.out.cell 3
      have y4 : w2.cell? ⟨wr.heap.size, 4, none⟩ = some (.string r.host) := X1.out.cell 4
      have y5 : w2.cell? ⟨wr.heap.size, 5, none⟩ = some (.string r.text) := X1.out.cell 5
      have KT := KeyT.quests
      have M3 := Lib.hid (M1.out.alloc (.cells #[.string r.name, .int .i64 r.ty, .int .i64 r.ttl, .int .i64 r.n, .string r.host, .string r.text] 68))
      have R3 := Lib.hid (rows_kept R1.out (World.grownBy_alloc w2 (.cells #[.string r.name, .int .i64 r.ty, .int .i64 r.ttl, .int .i64 r.n, .string r.host, .string r.text] 68) none) (by simp))
      have L3 := Lib.hid (L1.out.alloc L1.out.size (.cells #[.string r.name, .int .i64 r.ty, .int .i64 r.ttl, .int .i64 r.n, .string r.host, .string r.text] 68))
      have N3 : Hid (Bk (w2.alloc (.cells #[.string r.name, .int .i64 r.ty, .int .i64 r.ttl, .int .i64 r.n, .string r.host, .string r.text] 68)) w2.heap.size 68 (fl [r])) := heap_alloc_new w2 _
      have HB : Hid (w.heap.size < w2.heap.size) := M1.out.lt
      have HS' := Lib.hid (ev_key es)
      have HND := Lib.hid (ev_nodup (es := es) (by rw [HQ.out]; exact nodup_uq _))
      have HX : Hid (KeyT.KQ (qv (ky r))) := ⟨ky r, rfl⟩
      clear M1 R1 L1 X1 Y1 hgB
      by_cases hin : ky r ∈ uq (kl (l.take k))
      · obtain ⟨j, e, hj, hk'⟩ : ∃ (j : Nat) (e : Ge), es[j]? = some e ∧ e.q = ky r := by
          rw [← HQ.out] at hin
          obtain ⟨e, he, hq⟩ := List.mem_map.1 hin
          obtain ⟨j, hj⟩ := List.getElem?_of_mem he
          exact ⟨j, e, hj, hq⟩
        have HJ := Lib.hid hj
        have HK := Lib.hid hk'
        have hem : e.m ≤ k := by
          have h1 := own_m (R3.out j e hj)
          have h2 := sf_len_take e.q.name e.q.ty l k
          have h3 : (sq e.q (l.take k)).length ≤ k := h2
          omega
        have EN := Lib.hid (entry_old M3.out KT Try.underlying61 HS'.out HND.out HX.out (show (ev es)[j]? = some (qv (ky r), sv e) from by rw [← hk']; exact ev_at hj))
        clear hin hj hk'
        go_wp2_with (guard_target =~ wpList _ _ _ ({ dst := _, op := Op.mapEntry _ _ _, type := _, pos := _, after := _, guard := _ } :: _) _ _; refine wp_entry rfl (.tmp 16) (.tmp 17) rfl (qv (ky r)) (sv e) rfl rfl (ev es) j EN.out ?_)
        intro w4 st m4 g4 s4
        have M4 := Lib.hid m4
        have R4 := Lib.hid (rows_kept R3.out g4 (fun g hg _ h => by have h8 : g = w.heap.size := Option.some.inj h; omega))
        have L4 := Lib.hid (L3.out.grown g4 L3.out.size (fun j hj => by cases hj; exact Nat.le_refl _))
        have N4 := Lib.hid (N3.out.grown g4 (fun h => by have h8 : w2.heap.size = w.heap.size := Option.some.inj h; have := HB.out; omega))
        have S4 : Hid (w4.heap.size = w2.heap.size + 1) := s4
        clear m4 g4 s4 EN M3 R3 L3 N3 x0 x1 y0 y1 y2 y3 y4 y5
        go_wp2_with (at_builtin; refine wpList_append_lies w4 rfl (.tmp 18) (.tmp 20) 30 rfl (w.heap.size + 1) 68 i0 _ 6 72 Try.underlying30 hi hz0 hz1 hz2 rfl (by decide) (sv e) e.m (fl (sq e.q (l.take k))) rfl (R4.out j e HJ.out) ⟨w2.heap.size, 0, none⟩ 1 1 (fl [r]) rfl rfl (World.news_of_block N4.out) (one_fl [r]) (by decide) (by unfold maxLen; omega) (by omega) (by have h1 := HB.out; have h2 := S4.out; omega) w4.heap.size rfl ?_)
        intro g' cap' w5 hown hgrow hlies hlt5
        have O5 := Lib.hid hown
        have G5 : Hid (w4.grownBy w5 (some e.g)) := hgrow
        have LI : Hid (e.g = g' ∨ g' = w4.heap.size) := hlies.imp (fun h => Option.some.inj h) id
        have NB : Hid (some w.heap.size ≠ some e.g) := fun h => by
          have h8 : w.heap.size = e.g := Option.some.inj h
          have := own_lt (R4.out j e HJ.out)
          omega
        have ST := Lib.hid ((M4.out.grown G5.out NB.out).store (P := Try.prog) 61 (show (ev es)[j]? = some (qv e.q, sv e) from ev_at HJ.out) (.slice (some ⟨g', 0, none⟩) (e.m + 1) cap'))
        have L5 := Lib.hid (L4.out.grown G5.out L4.out.size (fun i hi => by cases hi; have := own_lt (R4.out j e HJ.out); omega))
        clear hown hgrow hlies hlt5 M4 N4 L4
        rw [HK.out] at ST
        go_wp2_with (guard_target =~ wpList _ _ _ ({ dst := _, op := Op.entryStore _ _ _ _, type := _, pos := _, after := _, guard := _ } :: _) _ _; refine wp_stamp rfl (.tmp 16) (.tmp 23) (.tmp 22) rfl (.slice (some ⟨g', 0, none⟩) (e.m + 1) cap') rfl rfl rfl ((ev es).set j (qv (ky r), .slice (some ⟨g', 0, none⟩) (e.m + 1) cap')) ST.out ?_)
        intro w6 m6 g6 s6
        have GG : Hid (Gr w6 (w.heap.size + 1) w.heap.size (l.take k ++ [r])) := gr_old HQ.out R4.out HD.out HJ.out HK.out G5.out O5.out LI.out (Nat.lt_succ_self _) g6 m6
        have L6 := Lib.hid (L5.out.grown g6 L5.out.size (fun j hj => by cases hj; exact Nat.le_refl _))
        clear m6 g6 s6 ST L5 O5 G5 LI NB R4
        go_wp2
        go_roundw
        case rel => exact ⟨k + 1, by omega, by go_num, by rw [HT.out]; exact GG.out, L6.out⟩
        case measure => simp [intOf]; omega
      · have HI := Lib.hid hin
        have HO' : Hid (∀ p ∈ ev es, p.1 ≠ qv (ky r)) := ev_out (by rw [HQ.out]; exact hin)
        have EN := Lib.hid (entry_new M3.out KT Try.underlying61 (zero _) HS'.out HX.out HO'.out)
        clear hin
        go_wp2_with (guard_target =~ wpList _ _ _ ({ dst := _, op := Op.mapEntry _ _ _, type := _, pos := _, after := _, guard := _ } :: _) _ _; refine wp_entry rfl (.tmp 16) (.tmp 17) rfl (qv (ky r)) (.slice none 0 0) rfl rfl (ev es ++ [(qv (ky r), .slice none 0 0)]) (ev es).length EN.out ?_)
        intro w4 st m4 g4 s4
        have M4 := Lib.hid m4
        have R4 := Lib.hid (rows_kept R3.out g4 (fun g hg _ h => by have h8 : g = w.heap.size := Option.some.inj h; omega))
        have L4 := Lib.hid (L3.out.grown g4 L3.out.size (fun j hj => by cases hj; exact Nat.le_refl _))
        have N4 := Lib.hid (N3.out.grown g4 (fun h => by have h8 : w2.heap.size = w.heap.size := Option.some.inj h; have := HB.out; omega))
        have S4 : Hid (w4.heap.size = w2.heap.size + 1) := s4
        clear m4 g4 s4 EN M3 R3 L3 N3 x0 x1 y0 y1 y2 y3 y4 y5
        go_wp2_with (at_builtin; refine wpList_append_lies w4 rfl (.tmp 18) (.tmp 20) 30 rfl (w.heap.size + 1) 68 i0 _ 6 72 Try.underlying30 hi hz0 hz1 hz2 rfl (by decide) (.slice none 0 0) 0 [] rfl (World.ownsRow_nil w4 _ _ _) ⟨w2.heap.size, 0, none⟩ 1 1 (fl [r]) rfl rfl (World.news_of_block N4.out) (one_fl [r]) (by decide) (by unfold maxLen; omega) (by omega) (by have h1 := HB.out; have h2 := S4.out; omega) w4.heap.size rfl ?_)
        intro g' cap' w5 hown hgrow hlies hlt5
        have O5 : Hid (w5.ownsRow (w.heap.size + 1) 68 6 (.slice (some ⟨g', 0, none⟩) 1 cap') 1 (fl [r])) := hown
        have G5 : Hid (w4.grownBy w5 none) := hgrow
        have LI : Hid (g' = w4.heap.size) := hlies.elim (fun h => by cases h) id
        have ST := Lib.hid ((M4.out.grown G5.out (by simp)).store (P := Try.prog) 61 (show (ev es ++ [(qv (ky r), Value.slice none 0 0)])[(ev es).length]? = some (qv (ky r), .slice none 0 0) from by rw [List.getElem?_append_right (Nat.le_refl _), Nat.sub_self]; rfl) (.slice (some ⟨g', 0, none⟩) 1 cap'))
        have L5 := Lib.hid (L4.out.grown G5.out L4.out.size (fun i hi => by cases hi))
        have EQ : Hid ((ev es ++ [(qv (ky r), Value.slice none 0 0)]).set (ev es).length (qv (ky r), Value.slice (some ⟨g', 0, none⟩) 1 cap') = ev es ++ [(qv (ky r), Value.slice (some ⟨g', 0, none⟩) 1 cap')]) := show _ = _ by
          rw [List.set_append_right _ _ (Nat.le_refl _), Nat.sub_self]; rfl
        clear hown hgrow hlies hlt5 M4 N4 L4
        rw [EQ.out] at ST
        go_wp2_with (guard_target =~ wpList _ _ _ ({ dst := _, op := Op.entryStore _ _ _ _, type := _, pos := _, after := _, guard := _ } :: _) _ _; refine wp_stamp rfl (.tmp 16) (.tmp 23) (.tmp 22) rfl (.slice (some ⟨g', 0, none⟩) 1 cap') rfl rfl rfl (ev es ++ [(qv (ky r), .slice (some ⟨g', 0, none⟩) 1 cap')]) ST.out ?_)
        intro w6 m6 g6 s6
        have GG : Hid (Gr w6 (w.heap.size + 1) w.heap.size (l.take k ++ [r])) := gr_new HQ.out R4.out HD.out HI.out G5.out O5.out LI.out (Nat.lt_succ_self _) g6 m6
        have L6 := Lib.hid (L5.out.grown g6 L5.out.size (fun j hj => by cases hj; exact Nat.le_refl _))
        clear m6 g6 s6 ST L5 O5 G5 LI EQ R4
        go_wp2
        go_roundw
        case rel => exact ⟨k + 1, by omega, by go_num, by rw [HT.out]; exact GG.out, L6.out⟩
        case measure => simp [intOf]; omega
    · obtain rfl : n = k := by omega
      have HN := Lib.hid (take_all HS.out.1)
      go_wp2
      go_ret
      exact ⟨w.heap.size, rfl, Nat.le_refl _, by have := HO.out; rw [HN.out] at this; exact this, HL.out⟩

set_option maxHeartbeats 4000000 in
theorem impl (s : ByteArray) (t : Int) (b0 o0 n c : Nat) (l : List Rec) (w : World) (hs : Sr w w.heap.size (some ⟨b0, o0, none⟩) n l) (hn : n ≤ 100000000) : Calls Try.prog 78 #[.slice (some ⟨b0, o0, none⟩) n c, .string s, .int .i64 t] w (GivesL w (sf s t l)) := by
  have SE := Lib.hid (sets b0 o0 n c l w hs hn)
  have HN := Lib.hid hs.1
  clear hs
  go_enter Try.func78, Try.ntmps78
  go_wp2_with fail
  refine SE.out.mono ?_
  rintro e w1 ⟨b, rfl, hb, ⟨es, hm, hq, ho, hd⟩, hl⟩
  have M1 := Lib.hid hm
  have HQ := Lib.hid hq
  have R1 := Lib.hid ho
  have L1 := Lib.hid hl
  have HS' := Lib.hid (ev_key es)
  have HND := Lib.hid (ev_nodup (es := es) (by rw [hq]; exact nodup_uq _))
  have HX : Hid (KeyT.KQ (qv ⟨s, t⟩)) := ⟨⟨s, t⟩, rfl⟩
  have KT := KeyT.quests
  clear hm hq ho hd hl SE hb
  by_cases hin : (⟨s, t⟩ : Key) ∈ uq (kl l)
  · obtain ⟨j, e, hj, hk'⟩ : ∃ (j : Nat) (e : Ge), es[j]? = some e ∧ e.q = ⟨s, t⟩ := by
      rw [← HQ.out] at hin
      obtain ⟨e, he, hq⟩ := List.mem_map.1 hin
      obtain ⟨j, hj⟩ := List.getElem?_of_mem he
      exact ⟨j, e, hj, hq⟩
    have OW := Lib.hid (R1.out j e hj)
    have HE : Hid (sq e.q l = sf s t l) := show _ = _ by rw [hk']; rfl
    have HM := Lib.hid (own_m OW.out)
    have hm : e.m ≤ n := by
      have h1 := HM.out
      have h2 := sf_len e.q.name e.q.ty l
      have h3 : (sq e.q l).length ≤ l.length := h2
      have := HN.out
      omega
    have LK : Hid ((Instr.lookup 61 (.map (some b)) (.agg #[.string s, .int .i64 t]) false).run Try.prog w1 = .ok (.slice (some ⟨e.g, 0, none⟩) e.m e.cap) w1) := M1.out.in KT Try.underlying61 HS'.out HND.out HX.out (show (qv ⟨s, t⟩, sv e) ∈ ev es from by rw [← hk']; exact List.mem_of_getElem? (ev_at hj)) false
    have SR : Hid (Sr w1 w1.heap.size (some ⟨e.g, 0, none⟩) e.m (sf s t l)) := by
      obtain ⟨r', hb, _⟩ := bk_of_owns6 OW.out
      rw [HE.out] at hb HM
      exact bk_sr hb HM.out
    clear hin hj hk'
    go_wp2_with (at_lookup; refine wp_look rfl _ _ false rfl (.agg #[.string s, .int .i64 t]) (.slice (some ⟨e.g, 0, none⟩) e.m e.cap) rfl rfl LK.out ?_)
    refine (CpyR.copyI e.g 0 e.m e.cap (sf s t l) w1 SR.out (by omega)).mono ?_
    rintro e' w2 ⟨g, cp, r, rfl, hcap, hg, hb, hl⟩
    have B2 := Lib.hid hb
    have G2 := Lib.hid (Nat.le_trans L1.out.size hg)
    have L2 := Lib.hid (L1.out.trans (hl.mono L1.out.size))
    have C2 := Lib.hid hcap
    have H2 : Hid ((sf s t l).length = e.m) := by rw [HE.out] at HM; exact HM
    clear hb hg hl hcap
    go_wp2
    go_ret
    exact ⟨g, e.m, cp, r, rfl, H2.out, C2.out, G2.out, B2.out, L2.out⟩
  · have HE : Hid (sf s t l = []) := sq_none (q := ⟨s, t⟩) (fun h => hin (mem_uq.2 h))
    have LK : Hid ((Instr.lookup 61 (.map (some b)) (.agg #[.string s, .int .i64 t]) false).run Try.prog w1 = .ok (.slice none 0 0) w1) := M1.out.out KT Try.underlying61 (zero _) HS'.out HX.out (ev_out (by rw [HQ.out]; exact hin)) false
    clear hin
    go_wp2_with (at_lookup; refine wp_look rfl _ _ false rfl (.agg #[.string s, .int .i64 t]) (.slice none 0 0) rfl rfl LK.out ?_)
    refine (copyNil w1).mono ?_
    rintro e' w2 ⟨g, cp, r, rfl, hcap, hg, hb, hl⟩
    have B2 := Lib.hid hb
    have G2 := Lib.hid (Nat.le_trans L1.out.size hg)
    have L2 := Lib.hid (L1.out.trans (hl.mono L1.out.size))
    have C2 := Lib.hid hcap
    clear hb hg hl hcap
    go_wp2
    go_ret
    rw [HE.out]
    exact ⟨g, 0, cp, r, rfl, rfl, C2.out, G2.out, B2.out, L2.out⟩
end Go.Proofs.Ytmabbeefeipnaaa.SetI

/- The layings by which this seat uses proved contracts of the library: which of its functions are which of this program. Written by program. -/
namespace Go.Proofs
open Go.Shelf
def Try.lays100_ren : Go.Shelf.Ren := ⟨fun | 100 => 63 | 207 => 76 | n => n, fun | 9 => 9 | 4 => 4 | 3 => 3 | n => n, fun | n => n⟩
theorem Try.lays100 : Go.Proofs.Lays.n100 Try.prog Try.lays100_ren := {
  mixed := by kernel_rfl
  f100 := Try.func63.trans (congrArg some (by kernel_rfl))
  f207 := Try.func76.trans (congrArg some (by kernel_rfl))
  t3 := Try.underlying3
  a3 := Try.isAgg3
  z3 := Try.sizeOf3
  v3 := Try.zeroValue3
  t4 := Try.underlying4
  a4 := Try.isAgg4
  z4 := Try.sizeOf4
  v4 := Try.zeroValue4
  t9 := Try.underlying9
  a9 := Try.isAgg9
  z9 := Try.sizeOf9
  v9 := Try.zeroValue9 }
end Go.Proofs

/- What the program's Under does, by the library's proved contract of strings.HasSuffix: it tells whether the labels of its second text end those of its first. Condition: at most 400000000 bytes each. -/
namespace Go.Proofs.Ytmabbeefeipnaaa.UnderImpl
open Go.RowKit Go.Proofs.Ytmabbeefeipnaaa.Mem Go.Proofs.Ytmabbeefeipnaaa.MemS Go.Proofs.Ytmabbeefeipnaaa.Split Go.Proofs.Ytmabbeefeipnaaa.NameMath

theorem hasSuffix (s p : ByteArray) (w : World) (hs : s.size ≤ 400000000) : Calls Try.prog 63 #[.string s, .string p] w fun e w' => e = .returned (.bool (Lib.hasSuffix s.data.toList p.data.toList)) ∧ w' = w :=
  Go.Proofs.Any.strings_HasSuffix Try.lays100 s p w (by omega)

set_option maxHeartbeats 1000000 in
theorem impl (a b : ByteArray) (w : World) (ha : a.size ≤ 400000000) (hb : b.size ≤ 400000000) : Calls Try.prog 42 #[.string a, .string b] w fun e w' => e = .returned (.bool (Un a b)) ∧ w = w' := by
  by_cases h0 : b.size = 0
  · have HU := Lib.hid (un_root (a := a) h0)
    obtain rfl : b = ⟨#[]⟩ := text_ext (List.eq_nil_of_length_eq_zero (by simpa using h0))
    clear h0 hb
    go_enter Try.func42, Try.ntmps42
    go_wp2
    go_ret
    rw [HU.out]
    exact ⟨rfl, rfl⟩
  · have hne : b.toList.isEmpty = false := Labels.not_empty b h0
    by_cases h : a = b
    · subst h
      have HU := Lib.hid (un_self a)
      clear h0
      go_enter Try.func42, Try.ntmps42
      go_wp2
      go_ret
      rw [HU.out]
      exact ⟨rfl, rfl⟩
    · have HU : Hid (Un a b = Lib.hasSuffix a.data.toList ((⟨#[46]⟩ : ByteArray) ++ b).data.toList) := by
        show _ = _
        rw [un_else h0 h, text_add]
        rfl
      have hq : (a.toList == b.toList) = false := by
        rw [beq_eq_false_iff_ne, ByteArray.toList_eq, ByteArray.toList_eq]
        exact fun e => h (text_ext e)
      have hq2 : (a.data.toList == b.data.toList) = false := by
        rw [beq_eq_false_iff_ne]
        exact fun e => h (text_ext e)
      clear h0 h
      have HS := Lib.hid (fun p w => hasSuffix a p w ha)
      go_enter Try.func42, Try.ntmps42
      go_wp2_with fail
      refine (HS.out _ w).mono ?_
      rintro e w1 ⟨rfl, rfl⟩
      go_wp2
      go_ret
      rw [HU.out]
      exact ⟨rfl, rfl⟩
end Go.Proofs.Ytmabbeefeipnaaa.UnderImpl
