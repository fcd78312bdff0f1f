/- What the world's shape gives the walks of this seat, and one world in which the listed tables of unicode/utf8 read as their text lays them. -/
import Derived.Test.YtkpcanigdppegaaDoorExactZoneOkP2
import Derived.Test.YtkpcanigdppegaaDoorMemQ
import Derived.Test.YtkpcanigdppegaaDoorSetMath
import Derived.Test.YtkpcanigdppegaaDoorExactZoneOkP1
import Derived.Deep.DeepCutAuto
import Derived.Test.YtkpcanigdppegaaDoorZokMath
import Derived.Test.YtkpcanigdppegaaDoorNameOk
import Derived.Test.YtkpcanigdppegaaDoorSzZ
import Derived.Test.YtkpcanigdppegaaDoorToZ
import Derived.Test.YtkpcanigdppegaaDoorEqZ
import Derived.Deep.RegionHeld3
import Derived.Test.YtkpcanigdppegaaDoorLabels
import Derived.LaidLaws
/- A map of slices of records, one for each key: what it is, and that it is so again behind one more record. -/
namespace Go.Proofs.YtkpcanigdppegaaDoor.GrpM
open Go.RowKit Go.Proofs.YtkpcanigdppegaaDoor.Mem Go.Proofs.YtkpcanigdppegaaDoor.MemR Go.Proofs.YtkpcanigdppegaaDoor.SetMath Go.Proofs.YtkpcanigdppegaaDoor.MemQ Go.Proofs.YtkpcanigdppegaaDoor.MapK Go.Proofs.YtkpcanigdppegaaDoor.MapE

/-- An entry: the key, the block of the slice, its length and its capacity. -/
structure Ge where
  q : Key
  g : Nat
  m : Nat
  cap : Nat

/-- Its slice. -/
def sv (e : Ge) : Value := .slice (some ⟨e.g, 0, none⟩) e.m e.cap

/-- The entries as the map holds them. -/
def ev (es : List Ge) : List (Value × Value) := es.map (fun e => (qv e.q, sv e))

/-- The records of a key. -/
noncomputable def sq (q : Key) (l : List Rec) : List Rec := sf q.name q.ty l

theorem sq_snoc (q : Key) (l : List Rec) (r : Rec) : sq q (l ++ [r]) = sq q l ++ (if isk q.name q.ty r = true then [r] else []) := by
  rw [sq, sf, List.filter_append, List.filter_cons, List.filter_nil]; rfl

theorem sq_same (l : List Rec) (r : Rec) : sq (ky r) (l ++ [r]) = sq (ky r) l ++ [r] := by
  rw [sq_snoc, show isk (ky r).name (ky r).ty r = true from isk_true ⟨rfl, rfl⟩, if_pos rfl]

theorem sq_other {q : Key} (l : List Rec) {r : Rec} (h : q ≠ ky r) : sq q (l ++ [r]) = sq q l := by
  rw [sq_snoc, isk_false (fun e => h (by obtain ⟨a, b⟩ := q; simp only at e; rw [ky, e.1, e.2])), if_neg (by decide), List.append_nil]

theorem sq_none {q : Key} {l : List Rec} (h : q ∉ kl l) : sq q l = [] := by
  refine List.filter_eq_nil_iff.2 (fun r hr hk => h ?_)
  refine List.mem_map.2 ⟨r, hr, ?_⟩
  obtain ⟨h1, h2⟩ := isk_iff.1 hk
  obtain ⟨a, b⟩ := q
  rw [ky, h1, h2]

theorem uq_kl (l : List Rec) (r : Rec) : uq (kl (l ++ [r])) = add (uq (kl l)) (ky r) := by
  rw [show kl (l ++ [r]) = kl l ++ [ky r] from by rw [kl, List.map_append]; rfl, uq_snoc]

/-- Block b is a map that holds, for each key of the records l, its records in a row of the call's own, from base on; no two in one row. -/
def Gr (w : World) (base b : Nat) (l : List Rec) : Prop := ∃ es : List Ge, Mp w b (ev es) ∧ es.map (·.q) = uq (kl l) ∧
  (∀ (i : Nat) (e : Ge), es[i]? = some e → w.ownsRow base 39 6 (sv e) e.m (fl (sq e.q l))) ∧ (∀ (i i' : Nat) (e e' : Ge), es[i]? = some e → es[i']? = some e' → i ≠ i' → e.g ≠ e'.g)

section
variable {w w' w2 w3 w4 : World} {base b g' cap' : Nat} {l : List Rec} {es : List Ge}

theorem ev_key (es : List Ge) : ∀ p ∈ ev es, ∃ q : Key, p.1 = qv q := by
  intro p hp
  obtain ⟨e, _, rfl⟩ := List.mem_map.1 hp
  exact ⟨_, rfl⟩

theorem qv_inj {q p : Key} (h : qv q = qv p) : q = p := by
  obtain ⟨a, b⟩ := q
  obtain ⟨c, d⟩ := p
  simp [qv] at h
  rw [h.1, h.2]

theorem ev_nodup : ∀ {es : List Ge}, (es.map (·.q)).Nodup → ((ev es).map Prod.fst).Nodup
  | [], _ => by simp [ev]
  | e :: es, h => by
    rw [List.map_cons] at h
    obtain ⟨h1, h2⟩ := List.nodup_cons.1 h
    show (qv e.q :: (ev es).map Prod.fst).Nodup
    refine List.nodup_cons.2 ⟨fun hm => ?_, ev_nodup h2⟩
    obtain ⟨p, hp, he⟩ := List.mem_map.1 hm
    obtain ⟨e', he', rfl⟩ := List.mem_map.1 hp
    exact h1 (List.mem_map.2 ⟨e', he', qv_inj he⟩)

theorem ev_out {q : Key} (h : q ∉ es.map (·.q)) : ∀ p ∈ ev es, p.1 ≠ qv q := by
  intro p hp e
  obtain ⟨e', he', rfl⟩ := List.mem_map.1 hp
  exact h (List.mem_map.2 ⟨e', he', qv_inj e⟩)

theorem ev_at {i : Nat} {e : Ge} (h : es[i]? = some e) : (ev es)[i]? = some (qv e.q, sv e) := by rw [ev, List.getElem?_map, h]; rfl

theorem own_kept {e : Ge} {xs : List Value} {row : Option Nat} (h : w.ownsRow base 39 6 (sv e) e.m xs) (hg : w.grownBy w' row) (hne : some e.g ≠ row) : w'.ownsRow base 39 6 (sv e) e.m xs := h.kept hg (Or.inr hne)

theorem own_lt {e : Ge} {xs : List Value} (h : w.ownsRow base 39 6 (sv e) e.m xs) : base ≤ e.g ∧ e.g < w.heap.size := h.lt e.g rfl

theorem own_m {e : Ge} (h : w.ownsRow base 39 6 (sv e) e.m (fl (sq e.q l))) : (sq e.q l).length = e.m := by have := h.1; rw [fl_len] at this; omega

/-- Nothing of the groups is turned by what turns other blocks. -/
theorem rows_kept {row : Option Nat} (h : ∀ (i : Nat) (e : Ge), es[i]? = some e → w.ownsRow base 39 6 (sv e) e.m (fl (sq e.q l))) (hg : w.grownBy w' row) (hne : ∀ g, base ≤ g → g < w.heap.size → some g ≠ row) :
    ∀ (i : Nat) (e : Ge), es[i]? = some e → w'.ownsRow base 39 6 (sv e) e.m (fl (sq e.q l)) := fun i e he => by
  have h1 := own_lt (h i e he)
  exact own_kept (h i e he) hg (hne _ h1.1 h1.2)

/-- One more record of a key that is there. -/
theorem gr_old (hq : es.map (·.q) = uq (kl l)) (ho : ∀ (i : Nat) (e : Ge), es[i]? = some e → w2.ownsRow base 39 6 (sv e) e.m (fl (sq e.q l))) (hd : ∀ (i i' : Nat) (e e' : Ge), es[i]? = some e → es[i']? = some e' → i ≠ i' → e.g ≠ e'.g)
    {j : Nat} {e : Ge} {r : Rec} (hj : es[j]? = some e) (hk : e.q = ky r) (hgr : w2.grownBy w3 (some e.g)) (hown : w3.ownsRow base 39 6 (.slice (some ⟨g', 0, none⟩) (e.m + 1) cap') (e.m + 1) (fl (sq e.q l) ++ fl [r])) (hl : e.g = g' ∨ g' = w2.heap.size)
    (hb : b < base) (h4 : w3.grownBy w4 (some b)) (hm : Mp w4 b ((ev es).set j (qv (ky r), .slice (some ⟨g', 0, none⟩) (e.m + 1) cap'))) : Gr w4 base b (l ++ [r]) := by
  have hnd : (es.map (·.q)).Nodup := hq ▸ nodup_uq _
  have hjl : j < es.length := (List.getElem?_eq_some_iff.1 hj).1
  have hin : ky r ∈ uq (kl l) := by rw [← hq, ← hk]; exact List.mem_map.2 ⟨e, List.mem_of_getElem? hj, rfl⟩
  have hother : ∀ (i : Nat) (e' : Ge), es[i]? = some e' → i ≠ j → e'.q ≠ ky r := fun i e' he' hne hqq => hne (nodup_inj hnd (a := ky r) (by rw [List.getElem?_map, he', Option.map_some, hqq]) (by rw [List.getElem?_map, hj, Option.map_some, hk]))
  have hg' : base ≤ g' := (hown.lt g' rfl).1
  refine ⟨es.set j ⟨ky r, g', e.m + 1, cap'⟩, ?_, ?_, ?_, ?_⟩
  · have : ev (es.set j ⟨ky r, g', e.m + 1, cap'⟩) = (ev es).set j (qv (ky r), .slice (some ⟨g', 0, none⟩) (e.m + 1) cap') := by rw [ev, List.map_set]; rfl
    rw [this]; exact hm
  · rw [List.map_set, uq_kl, add_in hin]
    show (es.map (·.q)).set j (ky r) = uq (kl l)
    rw [hq]
    refine List.ext_getElem? fun i => ?_
    rw [List.getElem?_set]
    by_cases hi : j = i
    · subst hi
      have h1 : j < (uq (kl l)).length := by rw [← hq, List.length_map]; exact hjl
      have h2 : (uq (kl l))[j]? = some (ky r) := by rw [← hq, List.getElem?_map, hj, Option.map_some, hk]
      rw [if_pos rfl, if_pos h1, h2]
    · rw [if_neg hi]
  · intro i e' he'
    rw [List.getElem?_set] at he'
    by_cases hi : j = i
    · subst hi
      simp [hjl] at he'
      subst he'
      have h5 : w4.ownsRow base 39 6 (.slice (some ⟨g', 0, none⟩) (e.m + 1) cap') (e.m + 1) (fl (sq e.q l) ++ fl [r]) := hown.kept h4 (Or.inr (fun h => by have h6 : g' = b := Option.some.inj h; omega))
      rw [hk, ← fl_append, ← sq_same] at h5
      exact h5
    · simp [hi] at he'
      have h5 := own_kept (ho i e' he') hgr (fun h => hd i j e' e he' hj (fun h => hi h.symm) (Option.some.inj h))
      have h7 := own_lt h5
      have h6 := own_kept h5 h4 (fun h => by have h8 : e'.g = b := Option.some.inj h; omega)
      rw [sq_other l (hother i e' he' (fun h => hi h.symm))]
      exact h6
  · intro i i' e1 e2 h1 h2 hne
    rw [List.getElem?_set] at h1 h2
    have aux : ∀ (i : Nat) (e' : Ge), es[i]? = some e' → i ≠ j → g' ≠ e'.g := fun i e' he' hi h => by
      rcases hl with hl | hl
      · exact hd j i e e' hj he' (fun h => hi h.symm) (hl.trans h)
      · have := own_lt (ho i e' he'); omega
    by_cases hi : j = i
    · subst hi
      simp [hjl] at h1
      subst h1
      simp [hne] at h2
      exact aux i' e2 h2 (fun h => hne h.symm)
    · simp [hi] at h1
      by_cases hi' : j = i'
      · subst hi'
        simp [hjl] at h2
        subst h2
        exact fun h => aux i e1 h1 (fun h => hi h.symm) h.symm
      · simp [hi'] at h2
        exact hd i i' e1 e2 h1 h2 hne

/-- One more record of a key that is not there. -/
theorem gr_new (hq : es.map (·.q) = uq (kl l)) (ho : ∀ (i : Nat) (e : Ge), es[i]? = some e → w2.ownsRow base 39 6 (sv e) e.m (fl (sq e.q l))) (hd : ∀ (i i' : Nat) (e e' : Ge), es[i]? = some e → es[i']? = some e' → i ≠ i' → e.g ≠ e'.g)
    {r : Rec} (hk : ky r ∉ uq (kl l)) (hgr : w2.grownBy w3 none) (hown : w3.ownsRow base 39 6 (.slice (some ⟨g', 0, none⟩) 1 cap') 1 (fl [r])) (hl : g' = w2.heap.size)
    (hb : b < base) (h4 : w3.grownBy w4 (some b)) (hm : Mp w4 b (ev es ++ [(qv (ky r), .slice (some ⟨g', 0, none⟩) 1 cap')])) : Gr w4 base b (l ++ [r]) := by
  have hother : ∀ (i : Nat) (e' : Ge), es[i]? = some e' → e'.q ≠ ky r := fun i e' he' hqq => hk (by rw [← hq, ← hqq]; exact List.mem_map.2 ⟨e', List.mem_of_getElem? he', rfl⟩)
  have hg' : base ≤ g' := (hown.lt g' rfl).1
  have hcase : ∀ (i : Nat) (e' : Ge), (es ++ [(⟨ky r, g', 1, cap'⟩ : Ge)])[i]? = some e' → (i < es.length ∧ es[i]? = some e') ∨ (i = es.length ∧ e' = ⟨ky r, g', 1, cap'⟩) := by
    intro i e' h
    by_cases hi : i < es.length
    · rw [List.getElem?_append_left hi] at h; exact Or.inl ⟨hi, h⟩
    · rw [List.getElem?_append_right (by omega)] at h
      have h0 : i - es.length = 0 := by
        have := (List.getElem?_eq_some_iff.1 h).1
        simpa using this
      rw [h0] at h
      exact Or.inr ⟨by omega, by simpa using h.symm⟩
  refine ⟨es ++ [⟨ky r, g', 1, cap'⟩], ?_, ?_, ?_, ?_⟩
  · have : ev (es ++ [⟨ky r, g', 1, cap'⟩]) = ev es ++ [(qv (ky r), .slice (some ⟨g', 0, none⟩) 1 cap')] := by rw [ev, List.map_append]; rfl
    rw [this]; exact hm
  · rw [List.map_append, uq_kl]
    show es.map (·.q) ++ [ky r] = add (uq (kl l)) (ky r)
    rw [add_out hk, hq]
  · intro i e' he'
    rcases hcase i e' he' with ⟨_, h⟩ | ⟨_, rfl⟩
    · have h5 := own_kept (ho i e' h) hgr (by simp)
      have h7 := own_lt h5
      have h6 := own_kept h5 h4 (fun h => by have h8 : e'.g = b := Option.some.inj h; omega)
      rw [sq_other l (hother i e' h)]
      exact h6
    · have h5 : w4.ownsRow base 39 6 (.slice (some ⟨g', 0, none⟩) 1 cap') 1 (fl [r]) := hown.kept h4 (Or.inr (fun h => by have h6 : g' = b := Option.some.inj h; omega))
      have h6 : sq (ky r) (l ++ [r]) = [r] := by rw [sq_same, sq_none (fun h => hk (mem_uq.2 h)), List.nil_append]
      show w4.ownsRow base 39 6 (.slice (some ⟨g', 0, none⟩) 1 cap') 1 (fl (sq (ky r) (l ++ [r])))
      rw [h6]
      exact h5
  · intro i i' e1 e2 h1 h2 hne
    rcases hcase i e1 h1 with ⟨hi, h1⟩ | ⟨hi, rfl⟩
    · rcases hcase i' e2 h2 with ⟨_, h2⟩ | ⟨_, rfl⟩
      · exact hd i i' e1 e2 h1 h2 hne
      · have := own_lt (ho i e1 h1)
        intro h
        have h8 : e1.g = g' := h
        omega
    · rcases hcase i' e2 h2 with ⟨_, h2⟩ | ⟨hi', rfl⟩
      · have := own_lt (ho i' e2 h2)
        intro h
        have h8 : g' = e2.g := h
        omega
      · omega
end
end Go.Proofs.YtkpcanigdppegaaDoor.GrpM

/- What copyRecords in the program and l7Copy in the model do: a new slice with the same records. Condition: fewer than 400000001 records. -/
namespace Go.Proofs.YtkpcanigdppegaaDoor.CpyR
open Go.RowKit Go.Proofs.YtkpcanigdppegaaDoor.Mem Go.Proofs.YtkpcanigdppegaaDoor.MemR Go.Proofs.YtkpcanigdppegaaDoor.AppR

/-- The call returned a new slice with the n records of l, and turned nothing that was there. -/
def GivesC (w : World) (n : Nat) (l : List Rec) (e : Ending) (w' : World) : Prop :=
  ∃ g c r, e = .returned (.slice (some ⟨g, 0, none⟩) n c) ∧ n ≤ c ∧ w.heap.size ≤ g ∧ Bk w' g 39 (fl l ++ r) ∧ Below w.heap.size w w'

set_option maxHeartbeats 2000000 in
theorem copyI (b off n c : Nat) (l : List Rec) (w : World) (hs : Sr w w.heap.size (some ⟨b, off, none⟩) n l) (hn : n ≤ 400000000) : Calls Tryd.prog 46 #[.slice (some ⟨b, off, none⟩) n c] w (GivesC w n l) := by
  have L0 := Lib.hid ((Below.refl w.heap.size w).alloc (Nat.le_refl _) (.cells #[] 39))
  have S0 := Lib.hid (hs.on ((Below.refl w.heap.size w).alloc (Nat.le_refl _) (.cells #[] 39)))
  have O0 := Lib.hid (owns_new w)
  clear hs
  go_enter Tryd.func46, Tryd.ntmps46
  go_wp2_with (at_builtin; refine append_recs (w := w.alloc (.cells #[] 39)) rfl (.tmp 3) (.tmp 4) rfl w.heap.size w.heap.size 0 0 [] rfl O0.out b off n c _ l rfl S0.out (by omega) (by omega) (by simp) ?_)
  intro g' cap' w1 hown hgrow
  obtain ⟨r, hb, hr, hcap, hg⟩ := bk_of_owns6 hown
  have L1 := Lib.hid (L0.out.grown hgrow L0.out.size (fun k hk => by cases hk; exact Nat.le_refl _))
  have B1 := Lib.hid hb
  have G1 := Lib.hid hg
  clear hown hgrow hb hr hg L0 S0 O0
  go_wp2
  go_ret
  exact ⟨g', cap', r, rfl, hcap, G1.out, B1.out, L1.out⟩

end Go.Proofs.YtkpcanigdppegaaDoor.CpyR

/- What WithTtl does in the program and in the model: a new slice with the same records, their times to live all replaced. Condition: fewer than 400000001 records. -/
namespace Go.Proofs.YtkpcanigdppegaaDoor.Wt
open Go.RowKit Go.Proofs.YtkpcanigdppegaaDoor.Mem Go.Proofs.YtkpcanigdppegaaDoor.MemR Go.Proofs.YtkpcanigdppegaaDoor.SetMath Go.Proofs.YtkpcanigdppegaaDoor.CpyR

/-- The call returned a new slice that reads as the records l (room behind it let in), and turned nothing that was there. -/
def GivesL (w : World) (l : List Rec) (e : Ending) (w' : World) : Prop :=
  ∃ g m c r, e = .returned (.slice (some ⟨g, 0, none⟩) m c) ∧ l.length = m ∧ m ≤ c ∧ w.heap.size ≤ g ∧ Bk w' g 39 (fl l ++ r) ∧ Below w.heap.size w w'

theorem put_ttl (t : Int) (l : List Rec) (v : List Value) (k : Nat) (h : k < l.length) : (fl ((l.take k).map (wr t) ++ l.drop k) ++ v).set (k * 6 + 2) (.int .i64 t) = fl ((l.take (k + 1)).map (wr t) ++ l.drop (k + 1)) ++ v := by
  obtain ⟨h', e⟩ := wr_at t l k h
  rw [List.set_append_left _ _ (by rw [fl_len]; omega), fl_set _ k 2 (.int .i64 t) h' (by rw [e]; rfl) (by omega), e]
  have hp : put l[k] 2 (.int .i64 t) = wr t l[k] := rfl
  rw [hp, wr_set t l k h]

theorem below_set {w w' : World} {g j : Nat} (h : Below w.heap.size w w') (hg : w.heap.size ≤ g) (u : Value) : Below w.heap.size w (w'.setCell ⟨g, j, none⟩ u) := h.setCell hg u

end Go.Proofs.YtkpcanigdppegaaDoor.Wt

/- What setsOf and SetOf do in the program: a map of slices, one for each name and type; the records of a name and a type, in order. Condition: fewer than 100000001 records. -/
namespace Go.Proofs.YtkpcanigdppegaaDoor.SetI
open Go.RowKit Go.Proofs.YtkpcanigdppegaaDoor.Mem Go.Proofs.YtkpcanigdppegaaDoor.MemR Go.Proofs.YtkpcanigdppegaaDoor.SetMath Go.Proofs.YtkpcanigdppegaaDoor.MemQ Go.Proofs.YtkpcanigdppegaaDoor.MapK Go.Proofs.YtkpcanigdppegaaDoor.MapE Go.Proofs.YtkpcanigdppegaaDoor.GrpM Go.Proofs.YtkpcanigdppegaaDoor.AppR Go.Proofs.YtkpcanigdppegaaDoor.Wt

/-- The call returned a map of groups, and turned nothing that was there. -/
def GivesG (w : World) (l : List Rec) (e : Ending) (w' : World) : Prop :=
  ∃ b, e = .returned (.map (some b)) ∧ w.heap.size ≤ b ∧ Gr w' (w.heap.size + 1) b l ∧ Below w.heap.size w w'

theorem zero (w : World) : (zeroValue 24).run Tryd.prog w = .ok (.slice none 0 0) w := by kernel_rfl

theorem gr_zero {w : World} {base b : Nat} {l : List Rec} (h : Mp w b []) : Gr w base b (l.take 0) :=
  ⟨[], h, rfl, fun i e he => by simp at he, fun i i' e e' he => by simp at he⟩

set_option maxHeartbeats 2000000 in
/-- copyRecords of nil. -/
theorem copyNil (w : World) : Calls Tryd.prog 46 #[.slice none 0 0] w (CpyR.GivesC w 0 []) := by
  have L0 := Lib.hid ((Below.refl w.heap.size w).alloc (Nat.le_refl _) (.cells #[] 39))
  have O0 := Lib.hid (AppR.owns_new w)
  go_enter Tryd.func46, Tryd.ntmps46
  obtain ⟨i0, hi, hz0, hz1, hz2⟩ := info_parts CopyR.info
  go_wp2_with (at_builtin; refine wpList_append_own_none rfl (.tmp 3) (.tmp 4) 24 rfl w.heap.size 39 i0 6 Tryd.underlying24 hi hz1 _ 0 [] rfl O0.out rfl ?_)
  go_wp2
  go_ret
  obtain ⟨r, hb, _, _, hg⟩ := bk_of_owns6 O0.out
  exact ⟨w.heap.size, 0, r, rfl, Nat.le_refl _, hg, hb, L0.out⟩

set_option maxRecDepth 100000 in
set_option maxHeartbeats 4000000 in
theorem sets (b0 o0 n c : Nat) (l : List Rec) (w : World) (hs : Sr w w.heap.size (some ⟨b0, o0, none⟩) n l) (hn : n ≤ 100000000) : Calls Tryd.prog 47 #[.slice (some ⟨b0, o0, none⟩) n c] w (GivesG w l) := by
  have HS := Lib.hid hs
  clear hs
  have hmm := @run_makeMap Tryd.prog
  obtain ⟨i0, hi, hz0, hz1, hz2⟩ := info_parts CopyR.info
  have P0 := Lib.hid (gr_zero (base := w.heap.size + 1) (l := l) (Mp.made w))
  have L0 := Lib.hid ((Below.refl w.heap.size w).alloc (Nat.le_refl _) (.map #[] 0))
  go_enter Tryd.func47, Tryd.ntmps47
  go_wp2
  generalize w.alloc (.map #[] 0) = w0 at *
  go_loopw [10] (fun i wr => ∃ k : Nat, k ≤ n ∧ i = .int .i64 k ∧ Hid (Gr wr (w.heap.size + 1) w.heap.size (l.take k)) ∧ Hid (Below w.heap.size w wr)) (fun i _ => n - (intOf i).toNat)
  case atStart => exact ⟨0, Nat.zero_le _, rfl, P0.out, L0.out⟩
  case round =>
    clear P0 L0
    obtain ⟨k, hk, rfl, HO, HL⟩ := hrel
    by_cases hlt : k < n
    · obtain ⟨b, off, hA, hbB, hcs⟩ := HS.out.2 (by omega)
      obtain ⟨rfl, rfl⟩ : b0 = b ∧ o0 = off := by simp at hA; exact hA
      clear hA
      have hkl : k < l.length := by rw [HS.out.1]; exact hlt
      obtain ⟨e0, e1, e2, e3, e4, e5⟩ := (hcs k hkl).below HL.out hbB
      clear hcs
      have HT := Lib.hid (List.take_succ_eq_append_getElem hkl)
      have HTL : Hid ((l.take k).length = k) := show _ = _ by simp; omega
      generalize l[k] = r at *
      obtain ⟨es, hm, hq, ho, hd⟩ := HO.out
      clear HO
      have HM := Lib.hid hm
      have HQ := Lib.hid hq
      have HR := Lib.hid ho
      have HD := Lib.hid hd
      clear hm hq ho hd
      have B1 : Hid (Bk (wr.alloc (.cells #[.string r.name, .int .i64 r.ty, .int .i64 r.ttl, .int .i64 r.n, .string r.host, .string r.text] 39)) wr.heap.size 39 (rc r)) := heap_alloc_new wr _
      have hgB : w.heap.size ≤ wr.heap.size := HL.out.size
      go_wp2_with fail
      refine (KeyI.keyOf r _).mono ?_
      rintro e w1 ⟨rfl, hl⟩
      have hlA : Below wr.heap.size wr w1 := ((Below.refl wr.heap.size wr).alloc (Nat.le_refl _) _).trans (hl.mono (by simp))
      have M1 := Lib.hid ((HM.out.below hlA HM.out.lt).alloc (.cells #[.string r.name, .int .i64 r.ty] 28))
      have R1 := Lib.hid (rows_kept HR.out (row := none) (w' := w1.alloc (.cells #[.string r.name, .int .i64 r.ty] 28)) (World.grownBy.trans ⟨hlA.os, hlA.tape, hlA.output, hlA.size, fun k hk _ => hlA.block k hk⟩ (World.grownBy_alloc w1 _ none)) (by simp))
      have L1 := Lib.hid ((HL.out.trans (hlA.mono HL.out.size)).alloc (Nat.le_trans HL.out.size hlA.size) (.cells #[.string r.name, .int .i64 r.ty] 28))
      have X1 := Lib.hid ((B1.out.below hl (by simp)).alloc (.cells #[.string r.name, .int .i64 r.ty] 28))
      have Y1 : Hid (Bk (w1.alloc (.cells #[.string r.name, .int .i64 r.ty] 28)) w1.heap.size 28 [.string r.name, .int .i64 r.ty]) := heap_alloc_new w1 _
      clear hl hlA HM HR HL B1 e0 e1 e2 e3 e4 e5
      go_upto_region 6 with (fail)
      generalize w1.alloc (.cells #[.string r.name, .int .i64 r.ty] 28) = w2 at *
      generalize w1.heap.size = gk at *
      have x0 := Y1.out.cell 0
      have x1 := Y1.out.cell 1
      have y0 : w2.cell? ⟨wr.heap.size, 0, none⟩ = some (.string r.name) := X1.out.cell 0
      have y1 : w2.cell? ⟨wr.heap.size, 1, none⟩ = some (.int .i64 r.ty) := X1.out.cell 1
      have y2 : w2.cell? ⟨wr.heap.size, 2, none⟩ = some (.int .i64 r.ttl) := X1.out.cell 2
      have y3 : w2.cell? ⟨wr.heap.size, 3, none⟩ = some (.int .i64 r.n) := X1.out.cell 3
      have y4 : w2.cell? ⟨wr.heap.size, 4, none⟩ = some (.string r.host) := X1.out.cell 4
      have y5 : w2.cell? ⟨wr.heap.size, 5, none⟩ = some (.string r.text) := X1.out.cell 5
      have KT := KeyT.quests
      have M3 := Lib.hid (M1.out.alloc (.cells #[.string r.name, .int .i64 r.ty, .int .i64 r.ttl, .int .i64 r.n, .string r.host, .string r.text] 39))
      have R3 := Lib.hid (rows_kept R1.out (World.grownBy_alloc w2 (.cells #[.string r.name, .int .i64 r.ty, .int .i64 r.ttl, .int .i64 r.n, .string r.host, .string r.text] 39) none) (by simp))
      have L3 := Lib.hid (L1.out.alloc L1.out.size (.cells #[.string r.name, .int .i64 r.ty, .int .i64 r.ttl, .int .i64 r.n, .string r.host, .string r.text] 39))
      have N3 : Hid (Bk (w2.alloc (.cells #[.string r.name, .int .i64 r.ty, .int .i64 r.ttl, .int .i64 r.n, .string r.host, .string r.text] 39)) w2.heap.size 39 (fl [r])) := heap_alloc_new w2 _
      have HB : Hid (w.heap.size < w2.heap.size) := M1.out.lt
      have HS' := Lib.hid (ev_key es)
      have HND := Lib.hid (ev_nodup (es := es) (by rw [HQ.out]; exact nodup_uq _))
      have HX : Hid (KeyT.KQ (qv (ky r))) := ⟨ky r, rfl⟩
      clear M1 R1 L1 X1 Y1 hgB
      by_cases hin : ky r ∈ uq (kl (l.take k))
      · obtain ⟨j, e, hj, hk'⟩ : ∃ (j : Nat) (e : Ge), es[j]? = some e ∧ e.q = ky r := by
          rw [← HQ.out] at hin
          obtain ⟨e, he, hq⟩ := List.mem_map.1 hin
          obtain ⟨j, hj⟩ := List.getElem?_of_mem he
          exact ⟨j, e, hj, hq⟩
        have HJ := Lib.hid hj
        have HK := Lib.hid hk'
        have hem : e.m ≤ k := by
          have h1 := own_m (R3.out j e hj)
          have h2 := sf_len_take e.q.name e.q.ty l k
          have h3 : (sq e.q (l.take k)).length ≤ k := h2
          omega
        have EN := Lib.hid (entry_old M3.out KT Tryd.underlying68 HS'.out HND.out HX.out (show (ev es)[j]? = some (qv (ky r), sv e) from by rw [← hk']; exact ev_at hj))
        clear hin hj hk'
        go_wp2_with (guard_target =~ wpList _ _ _ ({ dst := _, op := Op.mapEntry _ _ _, type := _, pos := _, after := _, guard := _ } :: _) _ _; refine wp_entry rfl (.tmp 16) (.tmp 17) rfl (qv (ky r)) (sv e) rfl rfl (ev es) j EN.out ?_)
        intro w4 st m4 g4 s4
        have M4 := Lib.hid m4
        have R4 := Lib.hid (rows_kept R3.out g4 (fun g hg _ h => by have h8 : g = w.heap.size := Option.some.inj h; omega))
        have L4 := Lib.hid (L3.out.grown g4 L3.out.size (fun j hj => by cases hj; exact Nat.le_refl _))
        have N4 := Lib.hid (N3.out.grown g4 (fun h => by have h8 : w2.heap.size = w.heap.size := Option.some.inj h; have := HB.out; omega))
        have S4 : Hid (w4.heap.size = w2.heap.size + 1) := s4
        clear m4 g4 s4 EN M3 R3 L3 N3 x0 x1 y0 y1 y2 y3 y4 y5
        go_wp2_with (at_builtin; refine wpList_append_lies w4 rfl (.tmp 18) (.tmp 20) 24 rfl (w.heap.size + 1) 39 i0 _ 6 72 Tryd.underlying24 hi hz0 hz1 hz2 rfl (by decide) (sv e) e.m (fl (sq e.q (l.take k))) rfl (R4.out j e HJ.out) ⟨w2.heap.size, 0, none⟩ 1 1 (fl [r]) rfl rfl (World.news_of_block N4.out) (one_fl [r]) (by decide) (by unfold maxLen; omega) (by omega) (by have h1 := HB.out; have h2 := S4.out; omega) w4.heap.size rfl ?_)
        intro g' cap' w5 hown hgrow hlies hlt5
        have O5 := Lib.hid hown
        have G5 : Hid (w4.grownBy w5 (some e.g)) := hgrow
        have LI : Hid (e.g = g' ∨ g' = w4.heap.size) := hlies.imp (fun h => Option.some.inj h) id
        have NB : Hid (some w.heap.size ≠ some e.g) := fun h => by
          have h8 : w.heap.size = e.g := Option.some.inj h
          have := own_lt (R4.out j e HJ.out)
          omega
        have ST := Lib.hid ((M4.out.grown G5.out NB.out).store (P := Tryd.prog) 68 (show (ev es)[j]? = some (qv e.q, sv e) from ev_at HJ.out) (.slice (some ⟨g', 0, none⟩) (e.m + 1) cap'))
        have L5 := Lib.hid (L4.out.grown G5.out L4.out.size (fun i hi => by cases hi; have := own_lt (R4.out j e HJ.out); omega))
        clear hown hgrow hlies hlt5 M4 N4 L4
        rw [HK.out] at ST
        go_wp2_with (guard_target =~ wpList _ _ _ ({ dst := _, op := Op.entryStore _ _ _ _, type := _, pos := _, after := _, guard := _ } :: _) _ _; refine wp_stamp rfl (.tmp 16) (.tmp 23) (.tmp 22) rfl (.slice (some ⟨g', 0, none⟩) (e.m + 1) cap') rfl rfl rfl ((ev es).set j (qv (ky r), .slice (some ⟨g', 0, none⟩) (e.m + 1) cap')) ST.out ?_)
        intro w6 m6 g6 s6
        have GG : Hid (Gr w6 (w.heap.size + 1) w.heap.size (l.take k ++ [r])) := gr_old HQ.out R4.out HD.out HJ.out HK.out G5.out O5.out LI.out (Nat.lt_succ_self _) g6 m6
        have L6 := Lib.hid (L5.out.grown g6 L5.out.size (fun j hj => by cases hj; exact Nat.le_refl _))
        clear m6 g6 s6 ST L5 O5 G5 LI NB R4
        go_wp2
        go_roundw
        case rel => exact ⟨k + 1, by omega, by go_num, by rw [HT.out]; exact GG.out, L6.out⟩
        case measure => simp [intOf]; omega
      · have HI := Lib.hid hin
        have HO' : Hid (∀ p ∈ ev es, p.1 ≠ qv (ky r)) := ev_out (by rw [HQ.out]; exact hin)
        have EN := Lib.hid (entry_new M3.out KT Tryd.underlying68 (zero _) HS'.out HX.out HO'.out)
        clear hin
        go_wp2_with (guard_target =~ wpList _ _ _ ({ dst := _, op := Op.mapEntry _ _ _, type := _, pos := _, after := _, guard := _ } :: _) _ _; refine wp_entry rfl (.tmp 16) (.tmp 17) rfl (qv (ky r)) (.slice none 0 0) rfl rfl (ev es ++ [(qv (ky r), .slice none 0 0)]) (ev es).length EN.out ?_)
        intro w4 st m4 g4 s4
        have M4 := Lib.hid m4
        have R4 := Lib.hid (rows_kept R3.out g4 (fun g hg _ h => by have h8 : g = w.heap.size := Option.some.inj h; omega))
        have L4 := Lib.hid (L3.out.grown g4 L3.out.size (fun j hj => by cases hj; exact Nat.le_refl _))
        have N4 := Lib.hid (N3.out.grown g4 (fun h => by have h8 : w2.heap.size = w.heap.size := Option.some.inj h; have := HB.out; omega))
        have S4 : Hid (w4.heap.size = w2.heap.size + 1) := s4
        clear m4 g4 s4 EN M3 R3 L3 N3 x0 x1 y0 y1 y2 y3 y4 y5
        go_wp2_with (at_builtin; refine wpList_append_lies w4 rfl (.tmp 18) (.tmp 20) 24 rfl (w.heap.size + 1) 39 i0 _ 6 72 Tryd.underlying24 hi hz0 hz1 hz2 rfl (by decide) (.slice none 0 0) 0 [] rfl (World.ownsRow_nil w4 _ _ _) ⟨w2.heap.size, 0, none⟩ 1 1 (fl [r]) rfl rfl (World.news_of_block N4.out) (one_fl [r]) (by decide) (by unfold maxLen; omega) (by omega) (by have h1 := HB.out; have h2 := S4.out; omega) w4.heap.size rfl ?_)
        intro g' cap' w5 hown hgrow hlies hlt5
        have O5 : Hid (w5.ownsRow (w.heap.size + 1) 39 6 (.slice (some ⟨g', 0, none⟩) 1 cap') 1 (fl [r])) := hown
        have G5 : Hid (w4.grownBy w5 none) := hgrow
        have LI : Hid (g' = w4.heap.size) := hlies.elim (fun h => by cases h) id
        have ST := Lib.hid ((M4.out.grown G5.out (by simp)).store (P := Tryd.prog) 68 (show (ev es ++ [(qv (ky r), Value.slice none 0 0)])[(ev es).length]? = some (qv (ky r), .slice none 0 0) from by rw [List.getElem?_append_right (Nat.le_refl _), Nat.sub_self]; rfl) (.slice (some ⟨g', 0, none⟩) 1 cap'))
        have L5 := Lib.hid (L4.out.grown G5.out L4.out.size (fun i hi => by cases hi))
        have EQ : Hid ((ev es ++ [(qv (ky r), Value.slice none 0 0)]).set (ev es).length (qv (ky r), Value.slice (some ⟨g', 0, none⟩) 1 cap') = ev es ++ [(qv (ky r), Value.slice (some ⟨g', 0, none⟩) 1 cap')]) := show _ = _ by
          rw [List.set_append_right _ _ (Nat.le_refl _), Nat.sub_self]; rfl
        clear hown hgrow hlies hlt5 M4 N4 L4
        rw [EQ.out] at ST
        go_wp2_with (guard_target =~ wpList _ _ _ ({ dst := _, op := Op.entryStore _ _ _ _, type := _, pos := _, after := _, guard := _ } :: _) _ _; refine wp_stamp rfl (.tmp 16) (.tmp 23) (.tmp 22) rfl (.slice (some ⟨g', 0, none⟩) 1 cap') rfl rfl rfl (ev es ++ [(qv (ky r), .slice (some ⟨g', 0, none⟩) 1 cap')]) ST.out ?_)
        intro w6 m6 g6 s6
        have GG : Hid (Gr w6 (w.heap.size + 1) w.heap.size (l.take k ++ [r])) := gr_new HQ.out R4.out HD.out HI.out G5.out O5.out LI.out (Nat.lt_succ_self _) g6 m6
        have L6 := Lib.hid (L5.out.grown g6 L5.out.size (fun j hj => by cases hj; exact Nat.le_refl _))
        clear m6 g6 s6 ST L5 O5 G5 LI EQ R4
        go_wp2
        go_roundw
        case rel => exact ⟨k + 1, by omega, by go_num, by rw [HT.out]; exact GG.out, L6.out⟩
        case measure => simp [intOf]; omega
    · obtain rfl : n = k := by omega
      have HN := Lib.hid (take_all HS.out.1)
      go_wp2
      go_ret
      exact ⟨w.heap.size, rfl, Nat.le_refl _, by have := HO.out; rw [HN.out] at this; exact this, HL.out⟩

set_option maxHeartbeats 4000000 in
theorem impl (s : ByteArray) (t : Int) (b0 o0 n c : Nat) (l : List Rec) (w : World) (hs : Sr w w.heap.size (some ⟨b0, o0, none⟩) n l) (hn : n ≤ 100000000) : Calls Tryd.prog 16 #[.slice (some ⟨b0, o0, none⟩) n c, .string s, .int .i64 t] w (GivesL w (sf s t l)) := by
  have SE := Lib.hid (sets b0 o0 n c l w hs hn)
  have HN := Lib.hid hs.1
  clear hs
  go_enter Tryd.func16, Tryd.ntmps16
  go_wp2_with fail
  refine SE.out.mono ?_
  rintro e w1 ⟨b, rfl, hb, ⟨es, hm, hq, ho, hd⟩, hl⟩
  have M1 := Lib.hid hm
  have HQ := Lib.hid hq
  have R1 := Lib.hid ho
  have L1 := Lib.hid hl
  have HS' := Lib.hid (ev_key es)
  have HND := Lib.hid (ev_nodup (es := es) (by rw [hq]; exact nodup_uq _))
  have HX : Hid (KeyT.KQ (qv ⟨s, t⟩)) := ⟨⟨s, t⟩, rfl⟩
  have KT := KeyT.quests
  clear hm hq ho hd hl SE hb
  by_cases hin : (⟨s, t⟩ : Key) ∈ uq (kl l)
  · obtain ⟨j, e, hj, hk'⟩ : ∃ (j : Nat) (e : Ge), es[j]? = some e ∧ e.q = ⟨s, t⟩ := by
      rw [← HQ.out] at hin
      obtain ⟨e, he, hq⟩ := List.mem_map.1 hin
      obtain ⟨j, hj⟩ := List.getElem?_of_mem he
      exact ⟨j, e, hj, hq⟩
    have OW := Lib.hid (R1.out j e hj)
    have HE : Hid (sq e.q l = sf s t l) := show _ = _ by rw [hk']; rfl
    have HM := Lib.hid (own_m OW.out)
    have hm : e.m ≤ n := by
      have h1 := HM.out
      have h2 := sf_len e.q.name e.q.ty l
      have h3 : (sq e.q l).length ≤ l.length := h2
      have := HN.out
      omega
    have LK : Hid ((Instr.lookup 68 (.map (some b)) (.agg #[.string s, .int .i64 t]) false).run Tryd.prog w1 = .ok (.slice (some ⟨e.g, 0, none⟩) e.m e.cap) w1) := M1.out.in KT Tryd.underlying68 HS'.out HND.out HX.out (show (qv ⟨s, t⟩, sv e) ∈ ev es from by rw [← hk']; exact List.mem_of_getElem? (ev_at hj)) false
    have SR : Hid (Sr w1 w1.heap.size (some ⟨e.g, 0, none⟩) e.m (sf s t l)) := by
      obtain ⟨r', hb, _⟩ := bk_of_owns6 OW.out
      rw [HE.out] at hb HM
      exact bk_sr hb HM.out
    clear hin hj hk'
    go_wp2_with (at_lookup; refine wp_look rfl _ _ false rfl (.agg #[.string s, .int .i64 t]) (.slice (some ⟨e.g, 0, none⟩) e.m e.cap) rfl rfl LK.out ?_)
    refine (CpyR.copyI e.g 0 e.m e.cap (sf s t l) w1 SR.out (by omega)).mono ?_
    rintro e' w2 ⟨g, cp, r, rfl, hcap, hg, hb, hl⟩
    have B2 := Lib.hid hb
    have G2 := Lib.hid (Nat.le_trans L1.out.size hg)
    have L2 := Lib.hid (L1.out.trans (hl.mono L1.out.size))
    have C2 := Lib.hid hcap
    have H2 : Hid ((sf s t l).length = e.m) := by rw [HE.out] at HM; exact HM
    clear hb hg hl hcap
    go_wp2
    go_ret
    exact ⟨g, e.m, cp, r, rfl, H2.out, C2.out, G2.out, B2.out, L2.out⟩
  · have HE : Hid (sf s t l = []) := sq_none (q := ⟨s, t⟩) (fun h => hin (mem_uq.2 h))
    have LK : Hid ((Instr.lookup 68 (.map (some b)) (.agg #[.string s, .int .i64 t]) false).run Tryd.prog w1 = .ok (.slice none 0 0) w1) := M1.out.out KT Tryd.underlying68 (zero _) HS'.out HX.out (ev_out (by rw [HQ.out]; exact hin)) false
    clear hin
    go_wp2_with (at_lookup; refine wp_look rfl _ _ false rfl (.agg #[.string s, .int .i64 t]) (.slice none 0 0) rfl rfl LK.out ?_)
    refine (copyNil w1).mono ?_
    rintro e' w2 ⟨g, cp, r, rfl, hcap, hg, hb, hl⟩
    have B2 := Lib.hid hb
    have G2 := Lib.hid (Nat.le_trans L1.out.size hg)
    have L2 := Lib.hid (L1.out.trans (hl.mono L1.out.size))
    have C2 := Lib.hid hcap
    clear hb hg hl hcap
    go_wp2
    go_ret
    rw [HE.out]
    exact ⟨g, 0, cp, r, rfl, rfl, C2.out, G2.out, B2.out, L2.out⟩
end Go.Proofs.YtkpcanigdppegaaDoor.SetI

/- What apexOk does in the program: the zone has one start, at the apex, and a server there. Condition: fewer than 100000001 records. -/
namespace Go.Proofs.YtkpcanigdppegaaDoor.ApxI
open Go.RowKit Go.Proofs.YtkpcanigdppegaaDoor.Mem Go.Proofs.YtkpcanigdppegaaDoor.MemR Go.Proofs.YtkpcanigdppegaaDoor.SetMath Go.Proofs.YtkpcanigdppegaaDoor.NameMath Go.Proofs.YtkpcanigdppegaaDoor.NameOk Go.Proofs.YtkpcanigdppegaaDoor.ZoneMath Go.Proofs.YtkpcanigdppegaaDoor.MemZ Go.Proofs.YtkpcanigdppegaaDoor.RecOk Go.Proofs.YtkpcanigdppegaaDoor.LessR Go.Proofs.YtkpcanigdppegaaDoor.ZokMath Go.Proofs.YtkpcanigdppegaaDoor.Labels Go.Proofs.YtkpcanigdppegaaDoor.BoxR

set_option maxRecDepth 100000 in
set_option maxHeartbeats 8000000 in
theorem impl (s : ByteArray) (b0 o0 n c : Nat) (l : List Rec) (w : World) (hs : Sr w w.heap.size (some ⟨b0, o0, none⟩) n l) (hn : n ≤ 100000000) (hm : s.size ≤ 400000000) (hz : ∀ r ∈ l, r.name.size ≤ 400000000) :
    Calls Tryd.prog 42 #[.agg #[.string s, .slice (some ⟨b0, o0, none⟩) n c]] w fun e w' => e = .returned (.bool (dec (Ap s l))) ∧ Below w.heap.size w w' := by
  have Z0 := Lib.hid (zx_new w 26 s (.slice (some ⟨b0, o0, none⟩) n c))
  have L0 := Lib.hid ((Below.refl w.heap.size w).alloc (Nat.le_refl _) (.cells #[.string s, .slice (some ⟨b0, o0, none⟩) n c] 26))
  have mixed : Tryd.prog.follows .mixedOrders = true := by kernel_rfl
  have HS := Lib.hid hs
  have SO := Lib.hid (fun W hW => StartOfI.impl s b0 o0 n c l W hW (by omega) hm hz)
  have SE := Lib.hid (fun W hW => SetI.impl s 2 b0 o0 n c l W hW hn)
  have S0 := Lib.hid (hs.on L0.out)
  clear hs hz
  have HA : Hid (Ap s l ↔ (((st l).name = s ∧ (st l).ty = 6) ∧ Alln l.length (Pt l (st l)) ∧ sf s 2 l ≠ [])) := Iff.rfl
  generalize Ap s l = AP at *
  generalize st l = t at *
  obtain ⟨z0, z1⟩ := Z0.out
  go_enter Tryd.func42, Tryd.ntmps42
  go_wp2_with fail
  refine (SO.out _ S0.out).mono ?_
  rintro e w1 ⟨rfl, hl⟩
  have L1 := Lib.hid (L0.out.trans (hl.mono L0.out.size))
  have Z1 := Lib.hid (Z0.out.below hl)
  clear hl SO S0 Z0 L0 z0 z1
  have T2 := Lib.hid (bx_new w1 39 t)
  have L2 := Lib.hid (L1.out.alloc L1.out.size (.cells #[.string t.name, .int .i64 t.ty, .int .i64 t.ttl, .int .i64 t.n, .string t.host, .string t.text] 39))
  have Z2 := Lib.hid (Z1.out.alloc (.cells #[.string t.name, .int .i64 t.ty, .int .i64 t.ttl, .int .i64 t.n, .string t.host, .string t.text] 39))
  clear L1 Z1
  go_upto_region 2 with (fail)
  generalize w1.alloc (.cells #[.string t.name, .int .i64 t.ty, .int .i64 t.ttl, .int .i64 t.n, .string t.host, .string t.text] 39) = w2 at *
  generalize w1.heap.size = gt at *
  have z0 : ∀ d os, (Sort.grow (redrawn w2 d) os).cell? _ = some _ := fun d os => (Z2.out.drawn d os).1
  have z1 : ∀ d os, (Sort.grow (redrawn w2 d) os).cell? _ = some _ := fun d os => (Z2.out.drawn d os).2
  have y0 : ∀ d os, (Sort.grow (redrawn w2 d) os).cell? _ = some _ := fun d os => (T2.out.drawn d os).1
  have y1 : ∀ d os, (Sort.grow (redrawn w2 d) os).cell? _ = some _ := fun d os => (T2.out.drawn d os).2.1
  have y2 : ∀ d os, (Sort.grow (redrawn w2 d) os).cell? _ = some _ := fun d os => (T2.out.drawn d os).2.2.1
  have y3 : ∀ d os, (Sort.grow (redrawn w2 d) os).cell? _ = some _ := fun d os => (T2.out.drawn d os).2.2.2.1
  have y4 : ∀ d os, (Sort.grow (redrawn w2 d) os).cell? _ = some _ := fun d os => (T2.out.drawn d os).2.2.2.2.1
  have y5 : ∀ d os, (Sort.grow (redrawn w2 d) os).cell? _ = some _ := fun d os => (T2.out.drawn d os).2.2.2.2.2
  have KC := Lib.hid (fun W (_ : Below w2.heap.size w2 W) => KeyI.keyOf t W)
  by_cases hts : ¬ (t.name = s ∧ t.ty = 6)
  · have HF := Lib.hid (dec_false (fun h => hts (HA.out.1 h).1))
    have q := EqlQ.neq_diff hts
    clear hts HA
    go_wp2_with fail
    refine wp_region_quiet_below (by assumption) (by kernel_rfl) ?_
    repeat (quiet_step (first | (go_at_call 70; exact in_class KC.out)))
    refine wpQuiet_nil ?_
    intro w3 hw3
    have hl := of_class hw3
    have L3 := Lib.hid (L2.out.trans (hl.mono L2.out.size))
    clear hw3 hl z0 z1 y0 y1 y2 y3 y4 y5 q
    go_wp2
    go_ret
    exact ⟨congrArg (fun b => Ending.returned (Value.bool b)) HF.out.symm, L3.out⟩
  replace hts := Classical.not_not.1 hts
  have q : ∀ w : World, Sem.run Tryd.prog (binOp .neq 28 (.agg #[.string t.name, .int .i64 t.ty]) (.agg #[.string s, .int .i64 6])) w = .ok (.bool false) w := fun w => by
    rw [hts.1, hts.2]
    exact EqlQ.neq_same s 6 w
  have HA2 : Hid (AP ↔ Alln l.length (Pt l t) ∧ sf s 2 l ≠ []) := ⟨fun h => (HA.out.1 h).2, fun h => HA.out.2 ⟨hts, h⟩⟩
  clear hts HA
  go_wp2_with fail
  refine wp_region_quiet_below (by assumption) (by kernel_rfl) ?_
  repeat (quiet_step (first | (go_at_call 70; exact in_class KC.out)))
  refine wpQuiet_nil ?_
  intro w3 hw3
  have hl := of_class hw3
  have L3 := Lib.hid (L2.out.trans (hl.mono L2.out.size))
  have Z3 := Lib.hid (Z2.out.below hl)
  have T3 := Lib.hid (T2.out.below hl)
  clear hw3 hl z0 z1 y0 y1 y2 y3 y4 y5 q KC Z2 T2 L2
  obtain ⟨z0, z1⟩ := Z3.out
  go_wp2
  clear z0 z1
  go_loopw [17] (fun i wr => ∃ k : Nat, k ≤ n ∧ i = .int .i64 k ∧ Hid (Alln k (Pt l t)) ∧ Hid (Zx wr w.heap.size s (.slice (some ⟨b0, o0, none⟩) n c)) ∧ Hid (Bx wr gt t) ∧ Hid (Below w.heap.size w wr)) (fun i _ => n - (intOf i).toNat)
  case atStart => exact ⟨0, Nat.zero_le _, rfl, alln_zero, Z3.out, T3.out, L3.out⟩
  case round =>
    clear Z3 T3 L3
    obtain ⟨k, hk, rfl, HE, HX, HT, HL⟩ := hrel
    obtain ⟨z0, z1⟩ := HX.out
    by_cases hlt : k < n
    · obtain ⟨b, off, hA, hbB, hcs⟩ := HS.out.2 (by omega)
      obtain ⟨rfl, rfl⟩ : b0 = b ∧ o0 = off := by simp at hA; exact hA
      clear hA
      have hkl : k < l.length := by rw [HS.out.1]; exact hlt
      obtain ⟨e0, e1, e2, e3, e4, e5⟩ := (hcs k hkl).below HL.out hbB
      clear hcs
      obtain ⟨a0, a1, a2, a3, a4, a5⟩ := HT.out
      have lta := HT.out.lt
      have HP : Hid (Pt l t k ↔ (l[k].ty = 6 → l[k] = t)) := show _ ↔ _ by rw [Pt, at0_get hkl]
      generalize l[k] = r at *
      have W1 : Hid (Below w.heap.size w (wr.alloc (.cells #[.string r.name, .int .i64 r.ty, .int .i64 r.ttl, .int .i64 r.n, .string r.host, .string r.text] 39))) := HL.out.alloc HL.out.size _
      have X1 := Lib.hid (HX.out.alloc (.cells #[.string r.name, .int .i64 r.ty, .int .i64 r.ttl, .int .i64 r.n, .string r.host, .string r.text] 39))
      have T1 := Lib.hid (HT.out.alloc (.cells #[.string r.name, .int .i64 r.ty, .int .i64 r.ttl, .int .i64 r.n, .string r.host, .string r.text] 39))
      by_cases hty : ¬ r.ty = 6
      · have HN := Lib.hid (alln_next HE.out (HP.out.2 (fun h => absurd h hty)))
        have t0 : (r.ty == 6) = false := by simpa using hty
        clear hty HP
        go_wp2
        go_roundw
        case rel => exact ⟨k + 1, by omega, by go_num, HN.out, X1.out, T1.out, W1.out⟩
        case measure => simp [intOf]; omega
      replace hty : r.ty = 6 := Classical.not_not.1 hty
      have t0 : (r.ty == 6) = true := by simpa using hty
      by_cases hrt : r = t
      · have HN := Lib.hid (alln_next HE.out (HP.out.2 (fun _ => hrt)))
        have q := SameR.neq_same t
        clear HP hty
        subst hrt
        go_wp2
        go_roundw
        case rel => exact ⟨k + 1, by omega, by go_num, HN.out, X1.out, T1.out, W1.out⟩
        case measure => simp [intOf]; omega
      · have HF := Lib.hid (dec_false (fun h : AP => alln_not hkl (fun g => hrt (HP.out.1 g hty)) (HA2.out.1 h).1))
        have q := SameR.neq_diff hrt
        clear HP hty hrt
        go_wp2
        go_ret
        exact ⟨congrArg (fun b => Ending.returned (Value.bool b)) HF.out.symm, W1.out⟩
    · obtain rfl : n = k := by omega
      have HA3 : Hid (AP ↔ 0 < (sf s 2 l).length) := ⟨fun h => List.length_pos_iff.2 (HA2.out.1 h).2, fun h => HA2.out.2 ⟨by rw [HS.out.1]; exact HE.out, List.length_pos_iff.1 h⟩⟩
      have HB := Lib.hid (HS.out.on HL.out)
      go_wp2_with fail
      refine (SE.out _ HB.out).mono ?_
      rintro e w4 ⟨g, m, cg, r, rfl, hlm, hmc, hg, hb, hl⟩
      have L4 := Lib.hid (HL.out.trans (hl.mono HL.out.size))
      have HM : Hid ((sf s 2 l).length = m) := hlm
      clear hlm hmc hg hb hl
      by_cases h0 : 0 < m
      · have HF := Lib.hid (dec_true (HA3.out.2 (by rw [HM.out]; exact h0)))
        have h0' : (0 : Int) < (m : Int) := by omega
        go_wp2
        go_ret
        exact ⟨congrArg (fun b => Ending.returned (Value.bool b)) HF.out.symm, L4.out⟩
      · have HF := Lib.hid (dec_false (fun h : AP => h0 (by rw [← HM.out]; exact HA3.out.1 h)))
        have h0' : ¬ (0 : Int) < (m : Int) := by omega
        go_wp2
        go_ret
        exact ⟨congrArg (fun b => Ending.returned (Value.bool b)) HF.out.symm, L4.out⟩

end Go.Proofs.YtkpcanigdppegaaDoor.ApxI

/- What ZoneOk does in the program. Condition: fewer than 100000001 records, of at most 400000000 bytes a text. -/
namespace Go.Proofs.YtkpcanigdppegaaDoor.ZokI
open Go.RowKit Go.Proofs.YtkpcanigdppegaaDoor.Mem Go.Proofs.YtkpcanigdppegaaDoor.MemR Go.Proofs.YtkpcanigdppegaaDoor.SetMath Go.Proofs.YtkpcanigdppegaaDoor.NameMath Go.Proofs.YtkpcanigdppegaaDoor.NameOk Go.Proofs.YtkpcanigdppegaaDoor.ZoneMath Go.Proofs.YtkpcanigdppegaaDoor.MemZ Go.Proofs.YtkpcanigdppegaaDoor.RecOk Go.Proofs.YtkpcanigdppegaaDoor.LessR Go.Proofs.YtkpcanigdppegaaDoor.ZokMath Go.Proofs.YtkpcanigdppegaaDoor.Labels Go.Proofs.YtkpcanigdppegaaDoor.RecsOk

set_option maxHeartbeats 8000000 in
theorem impl (s : ByteArray) (b0 o0 n c : Nat) (l : List Rec) (w : World) (he : Env w) (hs : Sr w w.heap.size (some ⟨b0, o0, none⟩) n l) (hn : n ≤ 100000000) (hm : s.size ≤ 400000000) (hz : ∀ r ∈ l, Mod r) :
    Calls Tryd.prog 10 #[.agg #[.string s, .slice (some ⟨b0, o0, none⟩) n c]] w fun e w' => e = .returned (.bool (zok s l)) ∧ Below w.heap.size w w' := by
  have Z0 := Lib.hid (zx_new w 26 s (.slice (some ⟨b0, o0, none⟩) n c))
  have L0 := Lib.hid ((Below.refl w.heap.size w).alloc (Nat.le_refl _) (.cells #[.string s, .slice (some ⟨b0, o0, none⟩) n c] 26))
  have HZK := Lib.hid (zok_iff (s := s) (l := l))
  have HNM : ∀ r ∈ l, r.name.size ≤ 400000000 := fun r hr => (hz r hr).1
  have C1 : Hid (∀ W : World, Below w.heap.size w W → Calls Tryd.prog 38 #[.string s] W fun e w' => e = .returned (.bool (Nm s)) ∧ Below W.heap.size W w') := fun W hW => NameOk.impl s W (he.below hW) hm
  have C2 : Hid (∀ W : World, Below w.heap.size w W → Calls Tryd.prog 39 #[.slice (some ⟨b0, o0, none⟩) n c, .int .i64 20] W fun e w' => e = .returned (.bool (dec (Ro 20 l))) ∧ Below W.heap.size W w') := fun W hW => RecsOk.impl 20 b0 o0 n c l W (hs.on hW) (by omega) (he.below hW) hz
  have C3 : Hid (∀ W : World, Below w.heap.size w W → Calls Tryd.prog 40 #[.slice (some ⟨b0, o0, none⟩) n c, .string s] W fun e w' => e = .returned (.bool (dec (Alln l.length (Pu s l)))) ∧ Below W.heap.size W w') := fun W hW => AllU.impl s b0 o0 n c l W (hs.on hW) (by omega) hm HNM
  have C4 : Hid (∀ W : World, Below w.heap.size w W → Calls Tryd.prog 41 #[.slice (some ⟨b0, o0, none⟩) n c] W fun e w' => e = .returned (.bool (dec (Alln l.length (Po l)))) ∧ Below W.heap.size W w') := fun W hW => OrdI.impl b0 o0 n c l W (hs.on hW) (by omega) (he.below hW) (fun r hr => ⟨(hz r hr).1, (hz r hr).2.1⟩)
  have C5 : Hid (∀ W : World, Below w.heap.size w W → Calls Tryd.prog 42 #[.agg #[.string s, .slice (some ⟨b0, o0, none⟩) n c]] W fun e w' => e = .returned (.bool (dec (Ap s l))) ∧ Below W.heap.size W w') := fun W hW => ApxI.impl s b0 o0 n c l W (hs.on hW) hn hm HNM
  have C6 : Hid (∀ W : World, Below w.heap.size w W → Calls Tryd.prog 43 #[.agg #[.string s, .slice (some ⟨b0, o0, none⟩) n c]] W fun e w' => e = .returned (.bool (dec (Alln l.length (Pa s l)))) ∧ Below W.heap.size W w') := fun W hW => AliI.impl s b0 o0 n c l W (hs.on hW) (by omega)
  have C7 : Hid (∀ W : World, Below w.heap.size w W → Calls Tryd.prog 44 #[.agg #[.string s, .slice (some ⟨b0, o0, none⟩) n c]] W fun e w' => e = .returned (.bool (dec (Alln l.length (Pc s l)))) ∧ Below W.heap.size W w') := fun W hW => CutI.impl s b0 o0 n c l W (hs.on hW) (by omega) hm HNM
  have F1 : Hid (Nm s = false → zok s l = false) := fun g => dec_false (fun k => by have h := HZK.out.1 k; have := h.1.1; rw [g] at this; cases this)
  have F2 : Hid (dec (Ro 20 l) = false → zok s l = false) := fun g => dec_false (fun k => dec_no g (by have h := HZK.out.1 k; exact h.1.2))
  have F3 : Hid (dec (Alln l.length (Pu s l)) = false → zok s l = false) := fun g => dec_false (fun k => dec_no g (by have h := HZK.out.1 k; exact h.2.1))
  have F4 : Hid (dec (Alln l.length (Po l)) = false → zok s l = false) := fun g => dec_false (fun k => dec_no g (by have h := HZK.out.1 k; exact h.2.2.1))
  have F5 : Hid (dec (Ap s l) = false → zok s l = false) := fun g => dec_false (fun k => dec_no g (by have h := HZK.out.1 k; exact h.2.2.2.1))
  have F6 : Hid (dec (Alln l.length (Pa s l)) = false → zok s l = false) := fun g => dec_false (fun k => dec_no g (by have h := HZK.out.1 k; exact h.2.2.2.2.1))
  have F7 : Hid (dec (Alln l.length (Pc s l)) = false → zok s l = false) := fun g => dec_false (fun k => dec_no g (by have h := HZK.out.1 k; exact h.2.2.2.2.2))
  have FT : Hid (Nm s = true → dec (Ro 20 l) = true → dec (Alln l.length (Pu s l)) = true → dec (Alln l.length (Po l)) = true → dec (Ap s l) = true → dec (Alln l.length (Pa s l)) = true → dec (Alln l.length (Pc s l)) = true → zok s l = true) := fun g1 g2 g3 g4 g5 g6 g7 => dec_true (HZK.out.2 ⟨⟨g1, dec_iff.1 g2⟩, dec_iff.1 g3, dec_iff.1 g4, dec_iff.1 g5, dec_iff.1 g6, dec_iff.1 g7⟩)
  clear hs hz he HNM HZK
  generalize zok s l = v at *
  generalize Nm s = v1 at *
  generalize dec (Ro 20 l) = v2 at *
  generalize dec (Alln l.length (Pu s l)) = v3 at *
  generalize dec (Alln l.length (Po l)) = v4 at *
  generalize dec (Ap s l) = v5 at *
  generalize dec (Alln l.length (Pa s l)) = v6 at *
  generalize dec (Alln l.length (Pc s l)) = v7 at *
  go_enter Tryd.func10, Tryd.ntmps10
  cases hb1 : v1 with
  | false =>
    have HF := Lib.hid (F1.out hb1)
    rw [hb1] at C1
    obtain ⟨z0, z1⟩ := Z0.out
    go_wp2_with fail
    refine (C1.out _ L0.out).mono ?_
    rintro e w1 ⟨rfl, hl⟩
    have L1 := Lib.hid (L0.out.trans (hl.mono L0.out.size))
    clear hl C1 z0 z1 Z0
    go_wp2
    go_ret
    exact ⟨congrArg (fun b => Ending.returned (Value.bool b)) HF.out.symm, L1.out⟩
  | true =>
    rw [hb1] at C1
    obtain ⟨z0, z1⟩ := Z0.out
    go_wp2_with fail
    refine (C1.out _ L0.out).mono ?_
    rintro e w1 ⟨rfl, hl⟩
    have L1 := Lib.hid (L0.out.trans (hl.mono L0.out.size))
    have Z1 := Lib.hid (Z0.out.below hl)
    clear hl C1 z0 z1 Z0
    cases hb2 : v2 with
    | false =>
      have HF := Lib.hid (F2.out hb2)
      rw [hb2] at C2
      obtain ⟨z0, z1⟩ := Z1.out
      go_wp2_with fail
      refine (C2.out _ L1.out).mono ?_
      rintro e w2 ⟨rfl, hl⟩
      have L2 := Lib.hid (L1.out.trans (hl.mono L1.out.size))
      clear hl C2 z0 z1 Z1
      go_wp2
      go_ret
      exact ⟨congrArg (fun b => Ending.returned (Value.bool b)) HF.out.symm, L2.out⟩
    | true =>
      rw [hb2] at C2
      obtain ⟨z0, z1⟩ := Z1.out
      go_wp2_with fail
      refine (C2.out _ L1.out).mono ?_
      rintro e w2 ⟨rfl, hl⟩
      have L2 := Lib.hid (L1.out.trans (hl.mono L1.out.size))
      have Z2 := Lib.hid (Z1.out.below hl)
      clear hl C2 z0 z1 Z1
      cases hb3 : v3 with
      | false =>
        have HF := Lib.hid (F3.out hb3)
        rw [hb3] at C3
        obtain ⟨z0, z1⟩ := Z2.out
        go_wp2_with fail
        refine (C3.out _ L2.out).mono ?_
        rintro e w3 ⟨rfl, hl⟩
        have L3 := Lib.hid (L2.out.trans (hl.mono L2.out.size))
        clear hl C3 z0 z1 Z2
        go_wp2
        go_ret
        exact ⟨congrArg (fun b => Ending.returned (Value.bool b)) HF.out.symm, L3.out⟩
      | true =>
        rw [hb3] at C3
        obtain ⟨z0, z1⟩ := Z2.out
        go_wp2_with fail
        refine (C3.out _ L2.out).mono ?_
        rintro e w3 ⟨rfl, hl⟩
        have L3 := Lib.hid (L2.out.trans (hl.mono L2.out.size))
        have Z3 := Lib.hid (Z2.out.below hl)
        clear hl C3 z0 z1 Z2
        cases hb4 : v4 with
        | false =>
          have HF := Lib.hid (F4.out hb4)
          rw [hb4] at C4
          obtain ⟨z0, z1⟩ := Z3.out
          go_wp2_with fail
          refine (C4.out _ L3.out).mono ?_
          rintro e w4 ⟨rfl, hl⟩
          have L4 := Lib.hid (L3.out.trans (hl.mono L3.out.size))
          clear hl C4 z0 z1 Z3
          go_wp2
          go_ret
          exact ⟨congrArg (fun b => Ending.returned (Value.bool b)) HF.out.symm, L4.out⟩
        | true =>
          rw [hb4] at C4
          obtain ⟨z0, z1⟩ := Z3.out
          go_wp2_with fail
          refine (C4.out _ L3.out).mono ?_
          rintro e w4 ⟨rfl, hl⟩
          have L4 := Lib.hid (L3.out.trans (hl.mono L3.out.size))
          have Z4 := Lib.hid (Z3.out.below hl)
          clear hl C4 z0 z1 Z3
          cases hb5 : v5 with
          | false =>
            have HF := Lib.hid (F5.out hb5)
            rw [hb5] at C5
            obtain ⟨z0, z1⟩ := Z4.out
            go_wp2_with fail
            refine (C5.out _ L4.out).mono ?_
            rintro e w5 ⟨rfl, hl⟩
            have L5 := Lib.hid (L4.out.trans (hl.mono L4.out.size))
            clear hl C5 z0 z1 Z4
            go_wp2
            go_ret
            exact ⟨congrArg (fun b => Ending.returned (Value.bool b)) HF.out.symm, L5.out⟩
          | true =>
            rw [hb5] at C5
            obtain ⟨z0, z1⟩ := Z4.out
            go_wp2_with fail
            refine (C5.out _ L4.out).mono ?_
            rintro e w5 ⟨rfl, hl⟩
            have L5 := Lib.hid (L4.out.trans (hl.mono L4.out.size))
            have Z5 := Lib.hid (Z4.out.below hl)
            clear hl C5 z0 z1 Z4
            cases hb6 : v6 with
            | false =>
              have HF := Lib.hid (F6.out hb6)
              rw [hb6] at C6
              obtain ⟨z0, z1⟩ := Z5.out
              go_wp2_with fail
              refine (C6.out _ L5.out).mono ?_
              rintro e w6 ⟨rfl, hl⟩
              have L6 := Lib.hid (L5.out.trans (hl.mono L5.out.size))
              clear hl C6 z0 z1 Z5
              go_wp2
              go_ret
              exact ⟨congrArg (fun b => Ending.returned (Value.bool b)) HF.out.symm, L6.out⟩
            | true =>
              rw [hb6] at C6
              obtain ⟨z0, z1⟩ := Z5.out
              go_wp2_with fail
              refine (C6.out _ L5.out).mono ?_
              rintro e w6 ⟨rfl, hl⟩
              have L6 := Lib.hid (L5.out.trans (hl.mono L5.out.size))
              have Z6 := Lib.hid (Z5.out.below hl)
              clear hl C6 z0 z1 Z5
              cases hb7 : v7 with
              | false =>
                have HF := Lib.hid (F7.out hb7)
                rw [hb7] at C7
                obtain ⟨z0, z1⟩ := Z6.out
                go_wp2_with fail
                refine (C7.out _ L6.out).mono ?_
                rintro e w7 ⟨rfl, hl⟩
                have L7 := Lib.hid (L6.out.trans (hl.mono L6.out.size))
                clear hl C7 z0 z1 Z6
                go_wp2
                go_ret
                exact ⟨congrArg (fun b => Ending.returned (Value.bool b)) HF.out.symm, L7.out⟩
              | true =>
                rw [hb7] at C7
                obtain ⟨z0, z1⟩ := Z6.out
                go_wp2_with fail
                refine (C7.out _ L6.out).mono ?_
                rintro e w7 ⟨rfl, hl⟩
                have L7 := Lib.hid (L6.out.trans (hl.mono L6.out.size))
                clear hl C7 z0 z1 Z6
                have HF := Lib.hid (FT.out hb1 hb2 hb3 hb4 hb5 hb6 hb7)
                go_wp2
                go_ret
                exact ⟨congrArg (fun b => Ending.returned (Value.bool b)) HF.out.symm, L7.out⟩

end Go.Proofs.YtkpcanigdppegaaDoor.ZokI

/- The law FnExactZoneOk returns true at every zone, and turns nothing that was there: ZoneOk answers as its model. -/
namespace Go.Proofs.YtkpcanigdppegaaDoor.LawZoneOk
open Go.RowKit Go.Proofs.YtkpcanigdppegaaDoor.Mem Go.Proofs.YtkpcanigdppegaaDoor.MemR Go.Proofs.YtkpcanigdppegaaDoor.MemZ Go.Proofs.YtkpcanigdppegaaDoor.SzZ Go.Proofs.YtkpcanigdppegaaDoor.ToZ Go.Proofs.YtkpcanigdppegaaDoor.EqZ Go.Proofs.YtkpcanigdppegaaDoor.SetMath Go.Proofs.YtkpcanigdppegaaDoor.NameMath Go.Proofs.YtkpcanigdppegaaDoor.ZoneMath Go.Proofs.YtkpcanigdppegaaDoor.Labels Go.Proofs.YtkpcanigdppegaaDoor.RecOk Go.Proofs.YtkpcanigdppegaaDoor.ZokMath 

set_option maxHeartbeats 8000000 in
theorem walk (z : ByteArray) (A : Option Addr) (n c : Nat) (l : List Rec) (w : World) (he : Env w) (hzs : z.size ≤ 9223372036854775807) (hs : Sr w w.heap.size A n l) (hn : n ≤ 9223372036854775807) (hz : ∀ r ∈ l, r.name.size ≤ 9223372036854775807 ∧ r.host.size ≤ 9223372036854775807 ∧ r.text.size ≤ 9223372036854775807) :
    Calls Tryd.prog 5 #[.agg #[.string z, .slice A n c]] w fun e w' => e = .returned (.bool true) ∧ Below w.heap.size w w' := by
  have S0 := Lib.hid hs
  have Z0 := Lib.hid hz
  clear hs hz
  have L0 := Lib.hid ((Below.refl w.heap.size w).alloc (Nat.le_refl _) (.cells #[.string z, .slice A n c] 52))
  have J0 := Lib.hid (zx_new w 52 z (.slice A n c))
  go_enter Tryd.func5, Tryd.ntmps5
  obtain ⟨x0, x1⟩ := J0.out
  go_wp2_with fail
  refine (szZone_any z A n c l 1048576 _ (by omega) (by omega) hzs (S0.out.on L0.out) hn Z0.out).mono ?_
  rintro e w1 ⟨y, rfl, hy0, hy1, hy, hl⟩
  have Y0 := Lib.hid hy
  have L1 := Lib.hid (L0.out.trans (hl.mono L0.out.size))
  have J1 := Lib.hid (J0.out.below hl)
  clear hy hl L0 J0 x0 x1
  by_cases hneg : y < 0
  · go_wp2
    go_ret
    exact ⟨rfl, L1.out⟩
  have Y1 := Lib.hid (Y0.out (by omega))
  clear Y0
  have bm : n ≤ 1048576 := by have := Y1.out; have := S0.out.1; omega
  have bn : n ≤ 400000000 := by omega
  have bz : z.size ≤ 400000000 := by have := Y1.out; omega
  have HN : Hid (l.length = n) := S0.out.1
  have HR : Hid (∀ r ∈ l, Mod r) := fun r hr => by
    have := Y1.out
    have h1 := tot_le l r hr
    unfold rz at h1
    exact ⟨by omega, by omega, by omega⟩
  clear Y1 Z0
  have hk0 : ¬ (1 : Int) + 6 * (n : Int) < 0 := by omega
  have TR : Hid (∀ W : World, Below w.heap.size w W → Calls Tryd.prog 31 #[.agg #[.string z, .slice A n c]] W fun e w' => ∃ g, e = .returned (.agg #[.string z, .slice (some ⟨g, 0, none⟩) n n]) ∧ Bk w' g 39 (fl l) ∧ W.heap.size ≤ g ∧ Below W.heap.size W w') :=
    fun W hW => toZone_any z A n c l W ((S0.out.below hW).wider hW.size) bn
  have SP : Hid (∀ (g : Nat) (W : World), Bk W g 39 (fl l) → Calls Tryd.prog 22 #[.agg #[.string z, .slice (some ⟨g, 0, none⟩) n n]] W fun e w' => e = .returned (.bool (zok z l)) ∧ Below W.heap.size W w') :=
    fun g W h => ZokS.spec z g 0 n n l W (bk_sr0 h HN.out) bn bz HR.out
  have HV := Lib.hid he
  have IM : Hid (∀ (g : Nat) (W : World), Below w.heap.size w W → Bk W g 39 (fl l) → Calls Tryd.prog 10 #[.agg #[.string z, .slice (some ⟨g, 0, none⟩) n n]] W fun e w' => e = .returned (.bool (zok z l)) ∧ Below W.heap.size W w') :=
    fun g W hW h => ZokI.impl z g 0 n n l W (HV.out.below hW) (bk_sr0 h HN.out) (by omega) bz HR.out
  clear he HV
  generalize zok z l = v at *
  have hv : (v != v) = false := by simp
  obtain ⟨x0, x1⟩ := J1.out
  go_wp2_with fail
  refine (TR.out _ L1.out).mono ?_
  rintro e w2 ⟨gv, rfl, hb, hg, hl⟩
  have V2 := Lib.hid hb
  have L2 := Lib.hid (L1.out.trans (hl.mono L1.out.size))
  have J2 := Lib.hid (J1.out.below hl)
  clear hl L1 J1 hb hg x0 x1
  go_wp2_with fail
  refine (SP.out _ w2 V2.out).mono ?_
  rintro e w3 ⟨rfl, hl⟩
  have L3 := Lib.hid (L2.out.trans (hl.mono L2.out.size))
  have J3 := Lib.hid (J2.out.below hl)
  clear hl L2 J2 V2 
  obtain ⟨x0, x1⟩ := J3.out
  go_wp2_with fail
  refine (TR.out _ L3.out).mono ?_
  rintro e w4 ⟨gx, rfl, hb, hg, hl⟩
  have X4 := Lib.hid hb
  have L4 := Lib.hid (L3.out.trans (hl.mono L3.out.size))
  have J4 := Lib.hid (J3.out.below hl)
  clear hl L3 J3 hb hg x0 x1
  have al : Below w4.heap.size w4 (w4.alloc (.cells #[.string z, .slice (some ⟨gx, 0, none⟩) n n] 26)) := (Below.refl _ _).alloc (Nat.le_refl _) _
  have L5 := Lib.hid (L4.out.trans (al.mono L4.out.size))
  have J5 := Lib.hid (J4.out.below al)
  have X5 := Lib.hid (X4.out.below al X4.out.lt)
  have Q5 := Lib.hid (zx_new w4 26 z (.slice (some ⟨gx, 0, none⟩) n n))
  clear al L4 J4 X4
  go_wp2_with fail
  refine (IM.out _ _ L5.out X5.out).mono ?_
  rintro e w6 ⟨rfl, hl⟩
  have L6 := Lib.hid (L5.out.trans (hl.mono L5.out.size))
  have J6 := Lib.hid (J5.out.below hl)
  have X6 := Lib.hid (X5.out.below hl X5.out.lt)
  have Q6 := Lib.hid (Q5.out.below hl)
  clear hl L5 J5 X5 Q5 
  generalize w4.heap.size = gq at *
  have TM : Hid (∀ W : World, (((W.cell? ⟨w.heap.size, 0, none⟩ = some (.string z) ∧ W.cell? ⟨w.heap.size, 1, none⟩ = some (.slice A n c)) ∧ (W.cell? ⟨gq, 0, none⟩ = some (.string z) ∧ W.cell? ⟨gq, 1, none⟩ = some (.slice (some ⟨gx, 0, none⟩) n n))) ∧ Svz w6 W) → Calls Tryd.prog 31 #[.agg #[.string z, .slice A n c]] W fun e w' => ∃ g, e = .returned (.agg #[.string z, .slice (some ⟨g, 0, none⟩) n n]) ∧ Bk w' g 39 (fl l) ∧ W.heap.size ≤ g ∧ Below W.heap.size W w') := fun W hW => TR.out W (L6.out.trans ((show Below w6.heap.size w6 W from hW.2).mono L6.out.size))
  have EQZ : Hid (∀ (W : World) (t : Nat), (((W.cell? ⟨w.heap.size, 0, none⟩ = some (.string z) ∧ W.cell? ⟨w.heap.size, 1, none⟩ = some (.slice A n c)) ∧ (W.cell? ⟨gq, 0, none⟩ = some (.string z) ∧ W.cell? ⟨gq, 1, none⟩ = some (.slice (some ⟨gx, 0, none⟩) n n))) ∧ Svz w6 W) → Bk W t 39 (fl l) → Calls Tryd.prog 32 #[.agg #[.string z, .slice (some ⟨gx, 0, none⟩) n n], .agg #[.string z, .slice (some ⟨t, 0, none⟩) n n]] W fun e w' => e = .returned (.bool true) ∧ Below W.heap.size W w') := fun W t hW ht => eqZone_same z _ _ n n n l W (bk_sr0 (X6.out.below hW.2 X6.out.lt) HN.out) (bk_sr0 ht HN.out) bn
  have SS0 : ((w6.cell? ⟨w.heap.size, 0, none⟩ = some (.string z) ∧ w6.cell? ⟨w.heap.size, 1, none⟩ = some (.slice A n c)) ∧ (w6.cell? ⟨gq, 0, none⟩ = some (.string z) ∧ w6.cell? ⟨gq, 1, none⟩ = some (.slice (some ⟨gx, 0, none⟩) n n))) ∧ Svz w6 w6 := ⟨⟨J6.out, Q6.out⟩, Below.refl _ _⟩
  go_wp2
  go_region_held3 (fun w' => ((w'.cell? ⟨w.heap.size, 0, none⟩ = some (.string z) ∧ w'.cell? ⟨w.heap.size, 1, none⟩ = some (.slice A n c)) ∧ (w'.cell? ⟨gq, 0, none⟩ = some (.string z) ∧ w'.cell? ⟨gq, 1, none⟩ = some (.slice (some ⟨gx, 0, none⟩) n n))) ∧ Svz w6 w')
    (first | with_reducible exact SS0 | with_reducible assumption | exact kept2z (by assumption) hl | exact kept2z_draw (by assumption) | fail)
    (first
      | (go_at_call 31; (with_reducible refine (TM.out _ (by assumption)).mono ?_); rintro e wt6 ⟨t1, rfl, hb1, -, hl⟩)
      | (go_at_call 32; (with_reducible refine (EQZ.out _ _ (by assumption) hb1).mono ?_); rintro e w7 ⟨rfl, hl⟩)
      | fail)
  rename_i hH
  have hz : Below w6.heap.size w6 w7 := hH.2
  clear hH hb1 hl SS0 TM EQZ
  have L7 := Lib.hid (L6.out.trans (hz.mono L6.out.size))
  have J7 := Lib.hid (J6.out.below hz)
  have X7 := Lib.hid (X6.out.below hz X6.out.lt)
  have Q7 := Lib.hid (Q6.out.below hz)
  clear hz L6 J6 X6 Q6
  go_wp2
  go_ret
  exact ⟨rfl, L7.out⟩

end Go.Proofs.YtkpcanigdppegaaDoor.LawZoneOk

/- What the world's shape gives the walks of this seat, and one world in which the listed tables of unicode/utf8 read as their text lays them. -/
namespace Go.Proofs.YtkpcanigdppegaaDoor.LaidU
open Go.RowKit Go.Proofs.YtkpcanigdppegaaDoor.Labels

theorem env {W : World} (h : W.ShapedOpen Tryd.prog) : Env W := Tryd.laysM146.s1_3 W h

def acc : List Int := [128, 191, 160, 191, 128, 159, 144, 191, 128, 143, 0, 0, 0, 0, 0, 0, 0, 0, 0, 0, 0, 0, 0, 0, 0, 0, 0, 0, 0, 0, 0, 0]
theorem gFirst : Tryd.prog.globalNamed "unicode/utf8.first" = some 1 := by kernel_rfl
theorem gAcc : Tryd.prog.globalNamed "unicode/utf8.acceptRanges" = some 2 := by kernel_rfl
/-- A block of cells, with other cells in it. -/
def put (cs : Array Value) : Obj → Obj
  | .cells _ t frozen => .cells cs t frozen
  | o => o
/-- The settled world, the two tables holding what their text lays. -/
noncomputable def laidWorld (os : Os) : World :=
  { World.holding Tryd.prog os ⟨#[], #[], []⟩ with heap := ((World.holding Tryd.prog os ⟨#[], #[], []⟩).heap.modify 1 (put (Go.Pinned.utf8FirstZ.map (fun n : Nat => Value.int .u8 (n : Int))).toArray)).modify 2 (put (acc.map (Value.int .u8)).toArray) }
def two : List (String × DataW Unit) := [("unicode/utf8.acceptRanges", Rows.laid_unicode_utf8_acceptRanges), ("unicode/utf8.first", Rows.laid_unicode_utf8_first)]
theorem laid_met (os : Os) (args : Array Value) : laidMet Tryd.prog two ((laidWorld os).forCall (fun _ _ => 0) ⟨#[], args, []⟩).memory :=
  laidMet_of_run' 8 (by kernel_rfl) (by kernel_rfl)
end Go.Proofs.YtkpcanigdppegaaDoor.LaidU
