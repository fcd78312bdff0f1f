/- A new slice of texts that a call gives back, and a law on append of one text. -/
import Derived.Test.YtmkcjjgicinggaaGreatDoorMapK
import Derived.Test.YtmkcjjgicinggaaGreatDoorMemS
import Derived.Test.YtmkcjjgicinggaaGreatDoorShelf
import Derived.Shelf.SlIter.Collect
import Derived.Test.YtmkcjjgicinggaaGreatDoorMemR
import Derived.Deep.AppendLies
import Derived.Laws.StructEq
import Derived.WideKeyArgs2
import Derived.Lib.Join
import Derived.Lib.SplitLaws
/- What maps.Keys and slices.Collect do at a map whose keys are texts: a new slice with all its keys, in some order; nil if there is none. Conditions: fewer than 100000001 entries, at most 400000000 bytes in each key. -/
namespace Go.Proofs.YtmkcjjgicinggaaGreatDoor.GsKeys
open Go.RowKit Go.Shelf Go.Maps Go.Sort Go.Proofs.YtmkcjjgicinggaaGreatDoor.Mem Go.Proofs.YtmkcjjgicinggaaGreatDoor.MemS Go.Proofs.YtmkcjjgicinggaaGreatDoor.MapK
open Go.WideElems (Fit rd rg rd_mk rg_of)

/-- How an element reads: not at all. -/
def R0 (H : Type) : Value → Option (DataW H × List MemPlace) := fun _ => some (.nil, [])

theorem key_of (a : ByteArray) (h : a.size ≤ 400000000) : keyOf Tryz.prog 9 (.string a) = some (.string a.data.toList) := by
  have hm : a.size ≤ maxLen := by unfold maxLen; omega
  simp [keyOf, Tryz.underlying9, mapKey, hm]

theorem owns {w : World} {b : Nat} {K : List ByteArray} {v : ByteArray → Value} (h : Mp w b (K.map fun a => (.string a, v a))) (nd : K.Nodup) (hz : ∀ a ∈ K, a.size ≤ 400000000) (hl : K.length ≤ 100000000) :
    ∃ D0 : DataW Unit, w.ownsMap Tryz.prog 9 (R0 Unit) b K.length D0 ∧ (strKeys D0).Perm (K.map (·.data.toList)) ∧ Maps.size D0 = K.length := by
  obtain ⟨es, clock, hb, hes, hborn, hnd⟩ := h
  have hlen : es.toList.length = K.length := by have := congrArg List.length hes; simpa using this
  have key : ∀ x ∈ es.toList, ∃ a ∈ K, x.key = .string a := fun x hx => by
    have : (x.key, x.val) ∈ es.toList.map (fun e => (e.key, e.val)) := List.mem_map.2 ⟨x, hx, rfl⟩
    rw [hes] at this
    obtain ⟨a, ha, e⟩ := List.mem_map.1 this
    exact ⟨a, ha, (congrArg Prod.fst e).symm⟩
  have rds : ∀ x ∈ es.toList, ∃ a ∈ K, x.key = .string a ∧ rd Tryz.prog 9 (R0 Unit) x = some (.string a.data.toList, .nil) := fun x hx => by
    obtain ⟨a, ha, e⟩ := key x hx
    refine ⟨a, ha, e, ?_⟩
    obtain ⟨xk, xv, xb⟩ := x
    simp only at e
    subst e
    exact rd_mk (R := R0 Unit) (yv := (.nil, [])) (key_of a (hz a ha)) rfl
  have hkeys : (es.toList.map (·.key)).Nodup := by
    have e : es.toList.map (·.key) = K.map Value.string := by
      have := congrArg (List.map Prod.fst) hes
      rw [List.map_map, List.map_map] at this
      exact this
    rw [e]
    exact List.pairwise_map.2 (nd.imp fun h e => h (by simpa using e))
  refine ⟨_, ⟨es, clock, hb, ⟨by rw [← Array.length_toList, hlen]; unfold maxLen; omega, ⟨hborn, hnd, hkeys⟩, fun x hx => ?_⟩, by rw [← Array.length_toList, hlen]; exact Nat.le_refl _, rfl⟩, ?_, ?_⟩
  · obtain ⟨a, _, _, e⟩ := rds x hx
    exact ⟨_, e⟩
  · show ((((es.toList.map (rg Tryz.prog 9 (R0 Unit))).foldr DataW.insert []).map fun p => strOf p.1)).Perm _
    refine ((Go.WideShapes.sorted_perm _).map _).trans (List.Perm.of_eq ?_)
    rw [List.map_map]
    have e2 : K.map (·.data.toList) = (es.toList.map (fun e => (e.key, e.val))).map (fun p => match p.1 with | .string s => s.data.toList | _ => []) := by
      rw [hes, List.map_map]
      exact List.map_congr_left fun a _ => rfl
    rw [e2, List.map_map]
    refine List.map_congr_left fun x hx => ?_
    obtain ⟨a, _, ek, e⟩ := rds x hx
    simp only [Function.comp_apply, rg_of e, ek]
    rfl
  · show (((es.toList.map (rg Tryz.prog 9 (R0 Unit))).foldr DataW.insert [])).length = _
    rw [(Go.WideShapes.sorted_perm _).length_eq, List.length_map, hlen]

/-- A slice, perhaps nil, that reads as the texts; the call's own memory. -/
def Own (base : Nat) (L : List ByteArray) (v : Value) (w' : World) : Prop := w'.ownsRow base 9 1 v L.length (L.map tv) ∧ (v = .slice none 0 0 ↔ L = [])

theorem keys (mb : Option Nat) (w : World) : Calls Tryz.prog 109 #[.map mb] w fun e w' => e = .returned (.func (.func 152) #[] #[.pointer (some ⟨w.heap.size, 0, none⟩)]) ∧ w' = w.alloc (.cells #[.map mb] 84) :=
  (callsIn_wide (n := 6)).1 (AnyZ.keys_in Tryz.keysZ Fence.wide 6 trivial rfl mb w)

set_option maxRecDepth 100000 in
theorem collect {w : World} {b Bm : Nat} {K : List ByteArray} {v : ByteArray → Value} (h : Mp w b (K.map fun a => (.string a, v a))) (nd : K.Nodup) (hz : ∀ a ∈ K, a.size ≤ 400000000) (hl : K.length ≤ 100000000) (hm : w.cell? ⟨Bm, 0, none⟩ = some (.map (some b))) :
    Calls Tryz.prog 108 #[.func (.func 152) #[] #[.pointer (some ⟨Bm, 0, none⟩)]] w fun e w' => ∃ (v : Value) (L : List ByteArray), e = .returned v ∧ L.Perm K ∧ Own w.heap.size L v w' ∧ Below w.heap.size w w' := by
  obtain ⟨D0, hown, hperm, hsize⟩ := owns h nd hz hl
  have hseq : SeqGives Fence.wide 4 Tryz.prog 152 #[.pointer (some ⟨Bm, 0, none⟩)] encStr (fun ss => ss.Perm (strKeys D0)) (Maps.size D0) w :=
    AnyZ.keys_gives (ρ := Tryz.keysZ_ren) { Tryz.keysZ with } Fence.wide 4 trivial rfl (by omega) Bm b K.length D0 w (World.block_lt_of_cell? _ _ hm) hm hown
  have hC := AnyZ.collect_in Tryz.collZ Fence.wide 6 trivial trivial rfl (by omega) 152 #[.pointer (some ⟨Bm, 0, none⟩)] trivial (enters_of Tryz.func152 (by kernel_rfl) rfl)
    _ (Maps.size D0) (by rw [hsize]; unfold maxLen; omega) (by rw [hsize]; omega) w hseq
  refine ((callsIn_wide (n := 6)).1 hC).mono ?_
  rintro e w' ⟨x, ss, rfl, hS, hrow, hnil, hb⟩
  have e1 : ss.map encStr = (ss.map fun l => (⟨l.toArray⟩ : ByteArray)).map tv := by rw [List.map_map]; rfl
  have e2 : (ss.map fun l => (⟨l.toArray⟩ : ByteArray)).Perm K := by
    have := (hS.trans hperm).map (fun l => (⟨l.toArray⟩ : ByteArray))
    rw [List.map_map] at this
    refine this.trans (List.Perm.of_eq ?_)
    conv => rhs; rw [← List.map_id K]
    exact List.map_congr_left fun a _ => by simp
  refine ⟨x, ss.map fun l => ⟨l.toArray⟩, rfl, e2, ⟨?_, ?_⟩, hb⟩
  · rw [← e1, List.length_map]
    exact hrow
  · rw [hnil]
    simp
end Go.Proofs.YtmkcjjgicinggaaGreatDoor.GsKeys

/- Plain mathematics of record sets: a list without repetitions, the least time to live, the records of a name and a type, the same data. -/
namespace Go.Proofs.YtmkcjjgicinggaaGreatDoor.SetMath
open Go.Proofs.YtmkcjjgicinggaaGreatDoor.MemR

section
variable {α : Type}

/-- x put behind, unless it is there. -/
noncomputable def add (l : List α) (x : α) : List α := @ite _ (x ∈ l) (Classical.propDecidable _) l (l ++ [x])

theorem add_in {l : List α} {x : α} (h : x ∈ l) : add l x = l := @if_pos _ (Classical.propDecidable _) h _ _ _

theorem add_out {l : List α} {x : α} (h : x ∉ l) : add l x = l ++ [x] := @if_neg _ (Classical.propDecidable _) h _ _ _

/-- The list without repetitions, in the order of the first occurrences. -/
noncomputable def uq (l : List α) : List α := l.foldl add []

theorem uq_nil : uq ([] : List α) = [] := rfl

theorem uq_snoc (l : List α) (x : α) : uq (l ++ [x]) = add (uq l) x := by unfold uq; rw [List.foldl_append]; rfl

theorem uq_take (l : List α) (k : Nat) (h : k < l.length) : uq (l.take (k + 1)) = add (uq (l.take k)) l[k] := by rw [List.take_succ_eq_append_getElem h, uq_snoc]

theorem mem_add {l : List α} {x y : α} : y ∈ add l x ↔ y ∈ l ∨ y = x := by
  by_cases h : x ∈ l
  · rw [add_in h]
    exact ⟨Or.inl, fun h' => h'.elim id (fun e => e ▸ h)⟩
  · rw [add_out h, List.mem_append, List.mem_singleton]

theorem mem_fold {y : α} : ∀ (l acc : List α), y ∈ l.foldl add acc ↔ y ∈ acc ∨ y ∈ l
  | [], acc => by simp
  | x :: l, acc => by
    rw [List.foldl_cons, mem_fold l, mem_add, List.mem_cons, or_assoc]

theorem mem_uq {l : List α} {y : α} : y ∈ uq l ↔ y ∈ l := by unfold uq; rw [mem_fold]; simp

theorem nodup_add {l : List α} {x : α} (h : l.Nodup) : (add l x).Nodup := by
  by_cases hx : x ∈ l
  · rw [add_in hx]; exact h
  · rw [add_out hx, List.nodup_append]
    exact ⟨h, by simp, fun a ha b hb e => hx (by rw [List.mem_singleton] at hb; rw [← hb, ← e]; exact ha)⟩

theorem nodup_fold : ∀ (l acc : List α), acc.Nodup → (l.foldl add acc).Nodup
  | [], _, h => h
  | x :: l, acc, h => by rw [List.foldl_cons]; exact nodup_fold l _ (nodup_add h)

theorem nodup_uq (l : List α) : (uq l).Nodup := nodup_fold l [] (by simp)

theorem len_add (l : List α) (x : α) : (add l x).length ≤ l.length + 1 := by
  by_cases h : x ∈ l
  · rw [add_in h]; omega
  · rw [add_out h]; simp

theorem len_fold : ∀ (l acc : List α), (l.foldl add acc).length ≤ acc.length + l.length
  | [], _ => by simp
  | x :: l, acc => by
    rw [List.foldl_cons, List.length_cons]
    have h1 := len_fold l (add acc x)
    have h2 := len_add acc x
    omega

theorem len_uq (l : List α) : (uq l).length ≤ l.length := by have := len_fold l []; simpa [uq] using this

theorem filter_take (p : α → Bool) (l : List α) (k : Nat) (h : k < l.length) : (l.take (k + 1)).filter p = (l.take k).filter p ++ (if p l[k] = true then [l[k]] else []) := by
  rw [List.take_succ_eq_append_getElem h, List.filter_append, List.filter_cons, List.filter_nil]

theorem take_all {l : List α} {n : Nat} (h : l.length = n) : l.take n = l := List.take_of_length_le (by omega)
end

/-- The least time to live, 0 of no records. -/
def mn : List Rec → Int
  | [] => 0
  | r :: l => l.foldl (fun m x => if x.ttl < m then x.ttl else m) r.ttl

theorem mn_one (r : Rec) : mn [r] = r.ttl := rfl

theorem mn_snoc (l : List Rec) (x : Rec) (h : l ≠ []) : mn (l ++ [x]) = if x.ttl < mn l then x.ttl else mn l := by
  cases l with
  | nil => exact absurd rfl h
  | cons r l => rw [List.cons_append, mn, List.foldl_append]; rfl

theorem mn_take (l : List Rec) (k : Nat) (h : k < l.length) (hk : 0 < k) : mn (l.take (k + 1)) = if l[k].ttl < mn (l.take k) then l[k].ttl else mn (l.take k) := by
  rw [List.take_succ_eq_append_getElem h, mn_snoc _ _ (fun e => by have h1 := congrArg List.length e; rw [List.length_take, List.length_nil] at h1; omega)]

theorem mn_first (l : List Rec) (h : 0 < l.length) : mn (l.take 1) = l[0].ttl := by
  cases l with
  | nil => simp at h
  | cons r l => rfl

/-- The least of a number and of the times to live. -/
def mnl (m : Int) (l : List Rec) : Int := l.foldl (fun m x => if x.ttl < m then x.ttl else m) m

theorem mnl_take (m : Int) (l : List Rec) (k : Nat) (h : k < l.length) : mnl m (l.take (k + 1)) = if l[k].ttl < mnl m (l.take k) then l[k].ttl else mnl m (l.take k) := by
  rw [List.take_succ_eq_append_getElem h, mnl, List.foldl_append]; rfl

theorem mnl_all (r : Rec) (l : List Rec) : mnl r.ttl (r :: l) = mn (r :: l) := by
  rw [mnl, List.foldl_cons, if_neg (Int.lt_irrefl _)]; rfl

theorem mnl_self (l : List Rec) (h : 0 < l.length) : mnl l[0].ttl l = mn l := by
  cases l with
  | nil => simp at h
  | cons r l => exact mnl_all r l

/-- The record with another time to live. -/
def wr (t : Int) (r : Rec) : Rec := { r with ttl := t }

theorem wr_set (t : Int) (l : List Rec) (k : Nat) (h : k < l.length) : ((l.take k).map (wr t) ++ l.drop k).set k (wr t l[k]) = (l.take (k + 1)).map (wr t) ++ l.drop (k + 1) := by
  rw [List.set_append_right _ _ (by simp; omega), show k - ((l.take k).map (wr t)).length = 0 by simp; omega, List.drop_eq_getElem_cons h, List.set_cons_zero, List.take_succ_eq_append_getElem h, List.map_append, List.append_assoc]
  rfl

theorem wr_at (t : Int) (l : List Rec) (k : Nat) (h : k < l.length) : ∃ h' : k < ((l.take k).map (wr t) ++ l.drop k).length, ((l.take k).map (wr t) ++ l.drop k)[k] = l[k] := by
  refine ⟨by simp; omega, ?_⟩
  rw [List.getElem_append_right (by simp; omega), List.getElem_drop]
  congr 1
  simp
  omega

/-- A name and a type. -/
structure Key where
  name : ByteArray
  ty : Int

/-- The key of a record. -/
def ky (r : Rec) : Key := ⟨r.name, r.ty⟩

/-- Whether a record has this name and this type. -/
noncomputable def isk (nm : ByteArray) (ty : Int) (r : Rec) : Bool := @decide (r.name = nm ∧ r.ty = ty) (Classical.propDecidable _)

theorem isk_true {nm : ByteArray} {ty : Int} {r : Rec} (h : r.name = nm ∧ r.ty = ty) : isk nm ty r = true := @decide_eq_true _ (Classical.propDecidable _) h

theorem isk_false {nm : ByteArray} {ty : Int} {r : Rec} (h : ¬ (r.name = nm ∧ r.ty = ty)) : isk nm ty r = false := @decide_eq_false _ (Classical.propDecidable _) h

theorem isk_iff {nm : ByteArray} {ty : Int} {r : Rec} : isk nm ty r = true ↔ (r.name = nm ∧ r.ty = ty) := by
  by_cases h : r.name = nm ∧ r.ty = ty
  · exact ⟨fun _ => h, isk_true⟩
  · rw [isk_false h]; exact ⟨fun e => absurd e (by decide), fun e => absurd e h⟩

/-- The records of this name and type. -/
noncomputable def sf (nm : ByteArray) (ty : Int) (l : List Rec) : List Rec := l.filter (isk nm ty)

theorem sf_take (nm : ByteArray) (ty : Int) (l : List Rec) (k : Nat) (h : k < l.length) : sf nm ty (l.take (k + 1)) = sf nm ty (l.take k) ++ (if isk nm ty l[k] = true then [l[k]] else []) := filter_take _ _ _ h

theorem sf_len (nm : ByteArray) (ty : Int) (l : List Rec) : (sf nm ty l).length ≤ l.length := List.length_filter_le _ _

theorem sf_len_take (nm : ByteArray) (ty : Int) (l : List Rec) (k : Nat) : (sf nm ty (l.take k)).length ≤ k := Nat.le_trans (sf_len _ _ _) (by simp; omega)

/-- The hosts of the records of servers. -/
def hl (l : List Rec) : List ByteArray := (l.filter (fun r => decide (r.ty = 2))).map (·.host)

theorem hl_take (l : List Rec) (k : Nat) (h : k < l.length) : hl (l.take (k + 1)) = hl (l.take k) ++ (if l[k].ty = 2 then [l[k].host] else []) := by
  rw [hl, filter_take _ _ _ h, List.map_append, hl]
  by_cases e : l[k].ty = 2
  · simp [e]
  · simp [e]

theorem hl_len (l : List Rec) : (hl l).length ≤ l.length := by rw [hl, List.length_map]; exact List.length_filter_le _ _

theorem hl_len_take (l : List Rec) (k : Nat) : (hl (l.take k)).length ≤ k := Nat.le_trans (hl_len _) (by simp; omega)

theorem hl_mem {l : List Rec} {x : ByteArray} (h : x ∈ hl l) : ∃ r ∈ l, r.host = x := by
  obtain ⟨r, hr, rfl⟩ := List.mem_map.1 h
  exact ⟨r, (List.mem_filter.1 hr).1, rfl⟩

/-- The numbers of the records of addresses of this name. -/
noncomputable def al (nm : ByteArray) (l : List Rec) : List Int := (sf nm 1 l).map (·.n)

theorem al_take (nm : ByteArray) (l : List Rec) (k : Nat) (h : k < l.length) : al nm (l.take (k + 1)) = al nm (l.take k) ++ (if isk nm 1 l[k] = true then [l[k].n] else []) := by
  rw [al, sf_take _ _ _ _ h, List.map_append, al]
  split <;> rfl

theorem al_len (nm : ByteArray) (l : List Rec) : (al nm l).length ≤ l.length := by rw [al, List.length_map]; exact sf_len _ _ _

theorem al_len_take (nm : ByteArray) (l : List Rec) (k : Nat) : (al nm (l.take k)).length ≤ k := Nat.le_trans (al_len _ _) (by simp; omega)

/-- The keys. -/
def kl (l : List Rec) : List Key := l.map ky

theorem kl_take (l : List Rec) (k : Nat) (h : k < l.length) : kl (l.take (k + 1)) = kl (l.take k) ++ [ky l[k]] := by
  rw [kl, List.take_succ_eq_append_getElem h, List.map_append]; rfl

theorem kl_len (l : List Rec) : (kl l).length = l.length := by rw [kl, List.length_map]
end Go.Proofs.YtmkcjjgicinggaaGreatDoor.SetMath

/- Plain facts on memory: questions, and what a slice of questions reads as; a new slice of questions that a call gives back; a law on append of one question. -/
namespace Go.Proofs.YtmkcjjgicinggaaGreatDoor.MemQ
open Go.RowKit Go.Proofs.YtmkcjjgicinggaaGreatDoor.Mem Go.Proofs.YtmkcjjgicinggaaGreatDoor.SetMath

/-- The cells that hold a question. -/
def qc (q : Key) : List Value := [.string q.name, .int .i64 q.ty]

/-- A question as a value. -/
def qv (q : Key) : Value := .agg #[.string q.name, .int .i64 q.ty]

/-- The cells that hold a list of questions. -/
def fq (l : List Key) : List Value := l.flatMap qc

theorem fq_cons (r : Key) (l : List Key) : fq (r :: l) = qc r ++ fq l := rfl

theorem fq_append (l m : List Key) : fq (l ++ m) = fq l ++ fq m := List.flatMap_append

theorem fq_len : ∀ l : List Key, (fq l).length = l.length * 2
  | [] => rfl
  | r :: l => by rw [fq_cons, List.length_append, fq_len l, List.length_cons, show (qc r).length = 2 from rfl]; omega

theorem fq_get : ∀ (l : List Key) (j c : Nat) (h : j < l.length), c < 2 → (fq l)[j * 2 + c]? = (qc l[j])[c]?
  | r :: l, 0, c, _, hc => by
    rw [fq_cons, Nat.zero_mul, Nat.zero_add, List.getElem?_append_left (by show c < 2; exact hc)]
    rfl
  | r :: l, j + 1, c, h, hc => by
    have e : (qc r).length = 2 := rfl
    rw [fq_cons, List.getElem?_append_right (by rw [e]; omega), e, show (j + 1) * 2 + c - 2 = j * 2 + c by omega, fq_get l j c (by simpa using h) hc]
    rfl

/-- Both cells set: the question there is another one. -/
theorem fq_put : ∀ (l : List Key) (k : Nat) (r : Key), k < l.length → ((fq l).set (k * 2) (.string r.name)).set (k * 2 + 1) (.int .i64 r.ty) = fq (l.set k r)
  | x :: l, 0, r, _ => rfl
  | x :: l, k + 1, r, h => by
    have e2 : (qc x).length = 2 := rfl
    have e : ∀ (Y : List Value) (c : Nat) (v : Value), (qc x ++ Y).set ((k + 1) * 2 + c) v = qc x ++ Y.set (k * 2 + c) v := fun Y c v => by
      rw [List.set_append_right _ _ (by rw [e2]; omega), e2, show (k + 1) * 2 + c - 2 = k * 2 + c by omega]
    have e0 : ∀ (Y : List Value) (v : Value), (qc x ++ Y).set ((k + 1) * 2) v = qc x ++ Y.set (k * 2) v := fun Y v => e Y 0 v
    rw [fq_cons, e0, e, fq_put l k r (by simpa using h)]
    rfl

/-- From offset o on, block b holds the question q. -/
def Cq (w : World) (b o : Nat) (q : Key) : Prop := w.cell? ⟨b, o, none⟩ = some (.string q.name) ∧ w.cell? ⟨b, o + 1, none⟩ = some (.int .i64 q.ty)

/-- The slice with address A and n elements reads, in w, as the questions l. -/
def Sq (w : World) (A : Option Addr) (n : Nat) (l : List Key) : Prop :=
  l.length = n ∧ (0 < n → ∃ b off, A = some ⟨b, off, none⟩ ∧ b < w.heap.size ∧ ∀ j (h : j < l.length), Cq w b (off + j * 2) l[j])
section
variable {w w' : World} {n g b o : Nat} {A : Option Addr} {l : List Key} {t : TypeId} {q : Key}

theorem Cq.below {B : Nat} (h : Cq w b o q) (hb : Below B w w') (hl : b < B) : Cq w' b o q := ⟨(hb.cell (p := ⟨b, o, none⟩) hl).trans h.1, (hb.cell (p := ⟨b, o + 1, none⟩) hl).trans h.2⟩

theorem Sq.nil : Sq w A 0 [] := ⟨rfl, fun h => absurd h (Nat.lt_irrefl _)⟩

theorem Sq.on (h : Sq w A n l) (hb : Below w.heap.size w w') : Sq w' A n l := by
  refine ⟨h.1, fun hn => ?_⟩
  obtain ⟨b, off, hA, hl, hc⟩ := h.2 hn
  exact ⟨b, off, hA, Nat.lt_of_lt_of_le hl hb.size, fun j hj => (hc j hj).below hb hl⟩

theorem bk_cq {v : List Value} (h : Bk w g t (fq l ++ v)) (j : Nat) (hj : j < l.length) : Cq w g (j * 2) l[j] := by
  have hc : ∀ c, c < 2 → w.cell? ⟨g, j * 2 + c, none⟩ = (qc l[j])[c]? := fun c hc => by
    rw [h.cell, List.getElem?_append_left (by rw [fq_len]; omega), fq_get l j c hj hc]
  exact ⟨hc 0 (by omega), hc 1 (by omega)⟩

/-- A block of questions with room behind, read as a slice over its head. -/
theorem bk_sq {v : List Value} (h : Bk w g t (fq l ++ v)) (hn : l.length = n) : Sq w (some ⟨g, 0, none⟩) n l :=
  ⟨hn, fun _ => ⟨g, 0, rfl, h.lt, fun j hj => by rw [Nat.zero_add]; exact bk_cq h j hj⟩⟩

/-- What the call owns as a row of questions is such a block. -/
theorem bk_of_owns2 {base cap : Nat} {xs : List Value} (h : w.ownsRow base t 2 (.slice (some ⟨g, 0, none⟩) n cap) n xs) : ∃ r, Bk w g t (xs ++ r) ∧ (xs ++ r).length = cap * 2 ∧ n ≤ cap ∧ base ≤ g := by
  rcases h.2 with ⟨h1, _⟩ | ⟨g', cap', cur, hv, hb, hh, hle, _, hs, ht⟩
  · cases h1
  · simp only [Value.slice.injEq, Option.some.injEq, Addr.mk.injEq, true_and, and_true] at hv
    obtain ⟨rfl, rfl⟩ := hv
    refine ⟨cur.toList.drop (n * 2), ?_, ?_, hle, hb⟩
    · unfold Bk; rw [hh, ← ht]; simp
    · rw [← ht]; simp; omega
end

theorem info : (Tryz.prog.info? 29).map (fun i => (i.zero, i.size, i.bytes)) = some (some (.agg #[.string ⟨#[]⟩, .int .i64 0]), 2, 24) := by kernel_rfl

/-- The call returned a new slice that reads as the questions l (room behind it let in), and turned nothing that was there. -/
def GivesQ (w : World) (l : List Key) (e : Ending) (w' : World) : Prop :=
  ∃ g m c r, e = .returned (.slice (some ⟨g, 0, none⟩) m c) ∧ l.length = m ∧ m ≤ c ∧ w.heap.size ≤ g ∧ Bk w' g 29 (fq l ++ r) ∧ Below w.heap.size w w'

theorem owns_new (w : World) : (w.alloc (.cells #[] 29)).ownsRow w.heap.size 29 2 (.slice (some ⟨w.heap.size, 0, none⟩) 0 0) 0 [] :=
  World.ownsRow_made w #[] 0 (Nat.le_refl _) (Nat.zero_le _) (by simp)

theorem one_fq (y : Key) : ∀ u ∈ [Value.string y.name, Value.int .i64 y.ty], u.oneCell' = true := by
  intro u hu
  simp only [List.mem_cons, List.not_mem_nil, or_false] at hu
  rcases hu with rfl | rfl <;> rfl

/-- What the call owns as a row of questions is a slice that GivesQ speaks of. -/
theorem gives_of_owns {w w' : World} {g n cap : Nat} {l : List Key} (h : w'.ownsRow w.heap.size 29 2 (.slice (some ⟨g, 0, none⟩) n cap) n (fq l)) (hb : Below w.heap.size w w') : GivesQ w l (.returned (.slice (some ⟨g, 0, none⟩) n cap)) w' := by
  have hl : l.length = n := by have := h.1; rw [fq_len] at this; omega
  obtain ⟨r, hk, hr, hcap, hg⟩ := bk_of_owns2 h
  exact ⟨g, n, cap, r, rfl, hl, hcap, hg, hk, hb⟩
end Go.Proofs.YtmkcjjgicinggaaGreatDoor.MemQ

/- Two records that are the same, compared with == : true, and nothing is turned. -/
namespace Go.Proofs.YtmkcjjgicinggaaGreatDoor.EqlR
open Go.RowKit Go.Proofs.YtmkcjjgicinggaaGreatDoor.Mem Go.Proofs.YtmkcjjgicinggaaGreatDoor.MemR

theorem eql_same (r : Rec) (w : World) : Sem.run Tryz.prog (binOp .eql 93 (.agg #[.string r.name, .int .i64 r.ty, .int .i64 r.ttl, .int .i64 r.n, .string r.host, .string r.text]) (.agg #[.string r.name, .int .i64 r.ty, .int .i64 r.ttl, .int .i64 r.n, .string r.host, .string r.text])) w = .ok (.bool true) w := by
  have u3 := Tryz.underlying3
  have a3 := Tryz.isAgg3
  have z3 := Tryz.sizeOf3
  have u9 := Tryz.underlying9
  have a9 := Tryz.isAgg9
  have z9 := Tryz.sizeOf9
  have hS : Tryz.prog.underlying 93 = some (.struct (Tryz.prog.fieldsOf 93)) := by kernel_rfl
  have hp : Tryz.prog.stoodInHeld 93 = false := by kernel_rfl
  rw [run_eql_struct, show (10000 : Nat) = 9999 + 1 from rfl, run_equalIn_agg w 9999 93 _ _ hS hp]
  simp only [Program.fieldsOf, Tryz.underlying93]
  go_simp

theorem bytes_ne {a b : ByteArray} (h : a ≠ b) : (a.toList == b.toList) = false := by
  cases e : (a.toList == b.toList) with
  | false => rfl
  | true =>
    have := eq_of_beq e
    rw [ByteArray.toList_eq, ByteArray.toList_eq] at this
    exact absurd (by cases a; cases b; congr; exact Array.toList_inj.1 this) h
theorem eql_diff {r s : Rec} (h : r ≠ s) (w : World) : Sem.run Tryz.prog (binOp .eql 93 (.agg #[.string r.name, .int .i64 r.ty, .int .i64 r.ttl, .int .i64 r.n, .string r.host, .string r.text]) (.agg #[.string s.name, .int .i64 s.ty, .int .i64 s.ttl, .int .i64 s.n, .string s.host, .string s.text])) w = .ok (.bool false) w := by
  have u3 := Tryz.underlying3
  have a3 := Tryz.isAgg3
  have z3 := Tryz.sizeOf3
  have u9 := Tryz.underlying9
  have a9 := Tryz.isAgg9
  have z9 := Tryz.sizeOf9
  have hS : Tryz.prog.underlying 93 = some (.struct (Tryz.prog.fieldsOf 93)) := by kernel_rfl
  have hp : Tryz.prog.stoodInHeld 93 = false := by kernel_rfl
  rw [run_eql_struct, show (10000 : Nat) = 9999 + 1 from rfl, run_equalIn_agg w 9999 93 _ _ hS hp]
  simp only [Program.fieldsOf, Tryz.underlying93]
  obtain ⟨n1, t1, l1, m1, h1, x1⟩ := r
  obtain ⟨n2, t2, l2, m2, h2, x2⟩ := s
  simp only
  by_cases c0 : n1 = n2
  · subst c0
    by_cases c1 : t1 = t2
    · subst c1
      by_cases c2 : l1 = l2
      · subst c2
        by_cases c3 : m1 = m2
        · subst c3
          by_cases c4 : h1 = h2
          · subst c4
            by_cases c5 : x1 = x2
            · subst c5; exact absurd rfl h
            · have k := bytes_ne c5
              go_simp
          · have k := bytes_ne c4
            go_simp
        · go_simp
      · go_simp
    · go_simp
  · have k := bytes_ne c0
    go_simp

theorem grd : Tryz.prog.eqGuardType Tryz.prog.depth 93 = false := by kernel_rfl
end Go.Proofs.YtmkcjjgicinggaaGreatDoor.EqlR

/- The keys of the program's maps: texts, ints, questions, records: of which the laws on maps may be asked. -/
namespace Go.Proofs.YtmkcjjgicinggaaGreatDoor.KeyT
open Go.MapKept Go.RowKit Go.Proofs.YtmkcjjgicinggaaGreatDoor.Mem Go.Proofs.YtmkcjjgicinggaaGreatDoor.MemR Go.Proofs.YtmkcjjgicinggaaGreatDoor.SetMath Go.Proofs.YtmkcjjgicinggaaGreatDoor.MemQ Go.Proofs.YtmkcjjgicinggaaGreatDoor.MapK

/-- A text as a key. -/
def KS (v : Value) : Prop := ∃ s : ByteArray, v = .string s

/-- An int as a key. -/
def KI (v : Value) : Prop := ∃ x : Int, v = .int .i64 x

/-- A question as a key. -/
def KQ (v : Value) : Prop := ∃ q : Key, v = qv q

/-- A record as a key. -/
def KR (v : Value) : Prop := ∃ r : Rec, v = .agg #[.string r.name, .int .i64 r.ty, .int .i64 r.ttl, .int .i64 r.n, .string r.host, .string r.text]

/-- Keys that are compared at once. -/
theorem plain {P : Program} {k : TypeId} {S : Value → Prop} (d : TypeDesc) (hd : P.underlying k = some d) (h : ∀ v, S v → IsKey d v) : MapK.KeyT P k S where
  check w em v hv := run_checkKey hd (h v hv) em 9999
  stays w v hv := run_keyThatStays (h v hv)
  find w x hx es hes := by
    rcases findNow_spec (h x hx) es 0 (fun e he => h _ (hes e he)) with ⟨h1, h2⟩ | ⟨j, e, h1, h2, h3⟩
    · exact Or.inl ⟨run_findKey hd h1, h2⟩
    · exact Or.inr ⟨j, e, by rw [run_findKey hd h1, Nat.zero_add], h2, h3⟩

theorem strings : MapK.KeyT Tryz.prog 9 KS := plain .string Tryz.underlying9 (by rintro v ⟨s, rfl⟩; trivial)

theorem ints : MapK.KeyT Tryz.prog 3 KI := plain (.int .i64) Tryz.underlying3 (by rintro v ⟨s, rfl⟩; exact rfl)

theorem bytes_ne {a b : ByteArray} (h : a ≠ b) : (a.toList == b.toList) = false := by
  cases e : (a.toList == b.toList) with
  | false => rfl
  | true =>
    have := eq_of_beq e
    rw [ByteArray.toList_eq, ByteArray.toList_eq] at this
    exact absurd (by cases a; cases b; congr; exact Array.toList_inj.1 this) h

theorem quest_same (q : Key) (w : World) : Sem.run Tryz.prog (Op.equal 29 (qv q) (qv q)) w = .ok true w := by
  have u3 := Tryz.underlying3
  have a3 := Tryz.isAgg3
  have z3 := Tryz.sizeOf3
  have u9 := Tryz.underlying9
  have a9 := Tryz.isAgg9
  have z9 := Tryz.sizeOf9
  have hS : Tryz.prog.underlying 29 = some (.struct (Tryz.prog.fieldsOf 29)) := by kernel_rfl
  have hp : Tryz.prog.stoodInHeld 29 = false := by kernel_rfl
  unfold qv Op.equal Op.maxDepth
  rw [show (10000 : Nat) = 9999 + 1 from rfl, run_equalIn_agg w 9999 29 _ _ hS hp]
  simp only [Program.fieldsOf, Tryz.underlying29]
  go_simp

theorem quest_diff {q p : Key} (h : q ≠ p) (w : World) : Sem.run Tryz.prog (Op.equal 29 (qv q) (qv p)) w = .ok false w := by
  have u3 := Tryz.underlying3
  have a3 := Tryz.isAgg3
  have z3 := Tryz.sizeOf3
  have u9 := Tryz.underlying9
  have a9 := Tryz.isAgg9
  have z9 := Tryz.sizeOf9
  have hS : Tryz.prog.underlying 29 = some (.struct (Tryz.prog.fieldsOf 29)) := by kernel_rfl
  have hp : Tryz.prog.stoodInHeld 29 = false := by kernel_rfl
  unfold qv Op.equal Op.maxDepth
  rw [show (10000 : Nat) = 9999 + 1 from rfl, run_equalIn_agg w 9999 29 _ _ hS hp]
  simp only [Program.fieldsOf, Tryz.underlying29]
  obtain ⟨n1, t1⟩ := q
  obtain ⟨n2, t2⟩ := p
  simp only
  by_cases c0 : n1 = n2
  · subst c0
    by_cases c1 : t1 = t2
    · subst c1; exact absurd rfl h
    · go_simp
  · have k := bytes_ne c0
    go_simp

theorem rec_same (r : Rec) (w : World) : Sem.run Tryz.prog (Op.equal 93 (.agg #[.string r.name, .int .i64 r.ty, .int .i64 r.ttl, .int .i64 r.n, .string r.host, .string r.text]) (.agg #[.string r.name, .int .i64 r.ty, .int .i64 r.ttl, .int .i64 r.n, .string r.host, .string r.text])) w = .ok true w := by
  have h := EqlR.eql_same r w
  rw [run_eql_struct] at h
  unfold Op.equal Op.maxDepth
  revert h
  cases Sem.run Tryz.prog (Op.equalIn 10000 93 (.agg #[.string r.name, .int .i64 r.ty, .int .i64 r.ttl, .int .i64 r.n, .string r.host, .string r.text]) (.agg #[.string r.name, .int .i64 r.ty, .int .i64 r.ttl, .int .i64 r.n, .string r.host, .string r.text])) w with
  | ok b w' => intro h; simp [Result.andThen] at h; rw [h.1, h.2]
  | halt h w' => intro h; simp [Result.andThen] at h

theorem rec_diff {r s : Rec} (h : r ≠ s) (w : World) : Sem.run Tryz.prog (Op.equal 93 (.agg #[.string r.name, .int .i64 r.ty, .int .i64 r.ttl, .int .i64 r.n, .string r.host, .string r.text]) (.agg #[.string s.name, .int .i64 s.ty, .int .i64 s.ttl, .int .i64 s.n, .string s.host, .string s.text])) w = .ok false w := by
  have h := EqlR.eql_diff h w
  rw [run_eql_struct] at h
  unfold Op.equal Op.maxDepth
  revert h
  cases Sem.run Tryz.prog (Op.equalIn 10000 93 (.agg #[.string r.name, .int .i64 r.ty, .int .i64 r.ttl, .int .i64 r.n, .string r.host, .string r.text]) (.agg #[.string s.name, .int .i64 s.ty, .int .i64 s.ttl, .int .i64 s.n, .string s.host, .string s.text])) w with
  | ok b w' => intro h; simp [Result.andThen] at h; rw [h.1, h.2]
  | halt h w' => intro h; simp [Result.andThen] at h

theorem bits_self (s : ByteArray) (n : Nat) : Instr.sameBits n (.string s) (.string s) = true := sameBits_self (d := .string) (k := .string s) trivial n

theorem bits_int (x : Int) (n : Nat) : Instr.sameBits n (.int .i64 x) (.int .i64 x) = true := sameBits_self (d := .int .i64) (k := .int .i64 x) rfl n

theorem bits_agg (xs : List Value) (n : Nat) (h : ∀ x ∈ xs, Instr.sameBits n x x = true) : Instr.sameBits (n + 1) (.agg xs.toArray) (.agg xs.toArray) = true := by
  rw [Instr.sameBits]
  simp only [beq_self_eq_true, Bool.true_and]
  rw [List.all_eq_true]
  rintro ⟨x, y⟩ hxy
  have e : x = y ∧ x ∈ xs := by
    clear h
    induction xs with
    | nil => cases hxy
    | cons a xs ih =>
      rw [List.zip_cons_cons] at hxy
      rcases List.mem_cons.1 hxy with h1 | h1
      · cases h1; exact ⟨rfl, by simp⟩
      · obtain ⟨h2, h3⟩ := ih h1; exact ⟨h2, by simp [h3]⟩
  obtain ⟨rfl, hm⟩ := e
  exact h x hm

theorem stays_agg {P : Program} (xs : List Value) (w : World) (h : ∀ x ∈ xs, Instr.sameBits 9999 x x = true) : (Instr.keyThatStays (.agg xs.toArray) (.agg xs.toArray)).run P w = .ok (.agg xs.toArray) w := by
  have := bits_agg xs 9999 h
  simp only [Instr.keyThatStays, this, if_true]
  rfl

theorem check_string (w : World) (em : Bool) (s : ByteArray) (n : Nat) : (Instr.checkKey em (n + 1) 9 (.string s)).run Tryz.prog w = .ok () w := run_checkKey Tryz.underlying9 (k := .string s) trivial em n

theorem check_int (w : World) (em : Bool) (x : Int) (n : Nat) : (Instr.checkKey em (n + 1) 3 (.int .i64 x)).run Tryz.prog w = .ok () w := run_checkKey Tryz.underlying3 (k := .int .i64 x) rfl em n

set_option maxRecDepth 100000 in
theorem quest_check (w : World) (em : Bool) (q : Key) : (Instr.checkKey em 10000 29 (qv q)).run Tryz.prog w = .ok () w := by
  have k0 : (Instr.checkKey em 9999 9 (.string q.name)).run Tryz.prog w = .ok () w := check_string w em q.name 9998
  have k1 : (Instr.checkKey em 9999 3 (.int .i64 q.ty)).run Tryz.prog w = .ok () w := check_int w em q.ty 9998
  have u3 := Tryz.underlying3
  have a3 := Tryz.isAgg3
  have z3 := Tryz.sizeOf3
  have u9 := Tryz.underlying9
  have a9 := Tryz.isAgg9
  have z9 := Tryz.sizeOf9
  rw [show (10000 : Nat) = 9999 + 1 from rfl, Instr.checkKey]
  unfold qv
  simp only [Sem.run_bind, run_underlying Tryz.underlying29, Result.andThen]
  rw [← Array.forIn_toList]
  generalize 9999 = N at *
  go_simp

set_option maxRecDepth 100000 in
theorem rec_check (w : World) (em : Bool) (r : Rec) : (Instr.checkKey em 10000 93 (.agg #[.string r.name, .int .i64 r.ty, .int .i64 r.ttl, .int .i64 r.n, .string r.host, .string r.text])).run Tryz.prog w = .ok () w := by
  have k0 : (Instr.checkKey em 9999 9 (.string r.name)).run Tryz.prog w = .ok () w := check_string w em r.name 9998
  have k1 : (Instr.checkKey em 9999 3 (.int .i64 r.ty)).run Tryz.prog w = .ok () w := check_int w em r.ty 9998
  have k2 : (Instr.checkKey em 9999 3 (.int .i64 r.ttl)).run Tryz.prog w = .ok () w := check_int w em r.ttl 9998
  have k3 : (Instr.checkKey em 9999 3 (.int .i64 r.n)).run Tryz.prog w = .ok () w := check_int w em r.n 9998
  have k4 : (Instr.checkKey em 9999 9 (.string r.host)).run Tryz.prog w = .ok () w := check_string w em r.host 9998
  have k5 : (Instr.checkKey em 9999 9 (.string r.text)).run Tryz.prog w = .ok () w := check_string w em r.text 9998
  have u3 := Tryz.underlying3
  have a3 := Tryz.isAgg3
  have z3 := Tryz.sizeOf3
  have u9 := Tryz.underlying9
  have a9 := Tryz.isAgg9
  have z9 := Tryz.sizeOf9
  rw [show (10000 : Nat) = 9999 + 1 from rfl, Instr.checkKey]
  simp only [Sem.run_bind, run_underlying Tryz.underlying93, Result.andThen]
  rw [← Array.forIn_toList]
  generalize 9999 = N at *
  go_simp

theorem qv_ne {q p : Key} (h : qv q ≠ qv p) : q ≠ p := fun e => h (by rw [e])

theorem qv_inj {q p : Key} (h : qv q = qv p) : q = p := by
  obtain ⟨a, b⟩ := q
  obtain ⟨c, d⟩ := p
  simp [qv] at h
  rw [h.1, h.2]

theorem rv_inj {r s : Rec} (h : (.agg #[.string r.name, .int .i64 r.ty, .int .i64 r.ttl, .int .i64 r.n, .string r.host, .string r.text] : Value) = .agg #[.string s.name, .int .i64 s.ty, .int .i64 s.ttl, .int .i64 s.n, .string s.host, .string s.text]) : r = s := by
  obtain ⟨a, b, c, d, e, f⟩ := r
  obtain ⟨a', b', c', d', e', f'⟩ := s
  simp at h
  obtain ⟨rfl, rfl, rfl, rfl, rfl, rfl⟩ := h
  rfl

theorem quests : MapK.KeyT Tryz.prog 29 KQ := by
  refine KeyT.struct _ Tryz.underlying29 (fun _ _ _ => rfl) ?_ ?_ ?_ ?_
  · rintro w em v ⟨q, rfl⟩; exact quest_check w em q
  · rintro w x ⟨q, rfl⟩; exact quest_same q w
  · rintro w x y ⟨q, rfl⟩ ⟨p, rfl⟩ h; exact quest_diff (qv_ne h) w
  · rintro w v ⟨q, rfl⟩
    refine stays_agg [.string q.name, .int .i64 q.ty] w ?_
    simp only [List.mem_cons, List.not_mem_nil, or_false]
    rintro x (rfl | rfl)
    · exact bits_self _ _
    · exact bits_int _ _

theorem recs : MapK.KeyT Tryz.prog 93 KR := by
  refine KeyT.struct _ Tryz.underlying93 (fun _ _ _ => rfl) ?_ ?_ ?_ ?_
  · rintro w em v ⟨r, rfl⟩; exact rec_check w em r
  · rintro w x ⟨r, rfl⟩; exact rec_same r w
  · rintro w x y ⟨r, rfl⟩ ⟨s, rfl⟩ h; exact rec_diff (fun e => h (by rw [e])) w
  · rintro w v ⟨r, rfl⟩
    refine stays_agg [.string r.name, .int .i64 r.ty, .int .i64 r.ttl, .int .i64 r.n, .string r.host, .string r.text] w ?_
    simp only [List.mem_cons, List.not_mem_nil, or_false]
    rintro x (rfl | rfl | rfl | rfl | rfl | rfl) <;> first | exact bits_self _ _ | exact bits_int _ _
end Go.Proofs.YtmkcjjgicinggaaGreatDoor.KeyT

/- What the model's JoinLabels does: it returns the texts with a dot between them. Condition: at most 4000000 texts and bytes together. -/
namespace Go.Proofs.YtmkcjjgicinggaaGreatDoor.JoinSpec
open Go.RowKit Go.Proofs.YtmkcjjgicinggaaGreatDoor.Mem Go.Proofs.YtmkcjjgicinggaaGreatDoor.MemS

/-- The bytes of the joined text. -/
def jo (l : List ByteArray) : List UInt8 := Lib.join (l.map (·.data.toList)) [46]
/-- The joined text. A def, so that no step of a walk opens it. -/
def Jo (l : List ByteArray) : ByteArray := ⟨(jo l).toArray⟩
theorem Jo_list (l : List ByteArray) : (Jo l).data.toList = jo l := by simp [Jo]
theorem Jo_size (l : List ByteArray) : (Jo l).size = (jo l).length := by
  show (jo l).toArray.size = _
  simp
theorem jo_first (l : List ByteArray) (h : 0 < l.length) : jo (l.take 1) = l[0].data.toList := by
  rw [List.take_succ_eq_append_getElem h]
  simp [jo, Lib.join_one]
theorem jo_step (l : List ByteArray) (k : Nat) (h0 : 0 < k) (h : k < l.length) : jo (l.take (k + 1)) = jo (l.take k) ++ [46] ++ l[k].data.toList := by
  cases l with
  | nil => simp at h
  | cons x r =>
    obtain ⟨k, rfl⟩ : ∃ j, k = j + 1 := ⟨k - 1, by omega⟩
    have hk : k < r.length := by simpa using h
    have e := Lib.joinTail_take_succ [46] (r.map (·.data.toList)) k r[k].data.toList (by simp [hk])
    simp only [jo, List.take_succ_cons, List.map_cons, Lib.join_cons, List.map_take, List.getElem_cons_succ]
    rw [e]
    simp [List.append_assoc]
theorem jo_size_step (l : List ByteArray) (k : Nat) (h : k < l.length) : (jo (l.take (k + 1))).length ≤ (jo (l.take k)).length + 1 + l[k].size := by
  have hz : l[k].data.toList.length = l[k].size := by simp
  by_cases h0 : 0 < k
  · rw [jo_step l k h0 h, List.length_append, List.length_append, hz]; simp
  · obtain rfl : k = 0 := by omega
    rw [jo_first l h, hz]; omega
theorem jo_size (l : List ByteArray) : ∀ k, k ≤ l.length → (jo (l.take k)).length ≤ k + ((l.take k).map (·.size)).sum := by
  intro k
  induction k with
  | zero => intro _; simp [jo, Lib.join_nil]
  | succ k ih =>
    intro h
    have h1 := ih (by omega)
    have h2 := jo_size_step l k (by omega)
    rw [List.take_succ_eq_append_getElem (show k < l.length by omega), List.map_append, List.sum_append]
    rw [List.take_succ_eq_append_getElem (show k < l.length by omega)] at h2
    simp at h1 h2 ⊢
    omega
theorem sum_take (l : List ByteArray) (k : Nat) : ((l.take k).map (·.size)).sum ≤ (l.map (·.size)).sum := by
  conv => rhs; rw [← List.take_append_drop k l, List.map_append, List.sum_append]
  omega

set_option maxHeartbeats 1000000 in
theorem any (A : Option Addr) (n c : Nat) (l : List ByteArray) (w : World) (B : Nat) (hs : Ss w B A n l) (hn : l.length + (l.map (·.size)).sum ≤ 800000000) :
    Calls Tryz.prog 184 #[.slice A n c] w fun e w' => e = .returned (.string (Jo l)) ∧ w = w' := by
  have HL := Lib.hid hs.1
  have hn1 : n ≤ 800000000 := by have := hs.1; omega
  have HN := Lib.hid hn
  clear hn
  go_enter Tryz.func184, Tryz.ntmps184
  go_wp2
  go_loop [3, 4] (fun t i => ∃ (k : Nat), k ≤ n ∧ i = .int .i64 k ∧ t = .string (Jo (l.take k))) (fun _ i => n - (intOf i).toNat)
  case atStart => exact ⟨0, Nat.zero_le _, rfl, by simp [Jo, jo, Lib.join_nil]⟩
  case round =>
    obtain ⟨k, hk, rfl, rfl⟩ := hrel
    by_cases hlt : k < n
    · obtain ⟨b, off, rfl, hbB, hcs⟩ := hs.2 (by omega)
      have hkl : k < l.length := by rw [HL.out]; exact hlt
      have hx : w.cell? ⟨b, off + k, none⟩ = some (.string l[k]) := hcs k hkl
      have hz1 : (Jo (l.take k)).size ≤ 800000000 := by
        have h1 := jo_size l k (by omega)
        have h2 := sum_take l k
        have h3 := HN.out
        rw [Jo_size]
        omega
      have hz2 : l[k].size ≤ 800000000 := by
        have h3 := HN.out
        have : l[k].size ≤ (l.map (·.size)).sum := le_sum _ _ (List.mem_map.2 ⟨l[k], List.getElem_mem hkl, rfl⟩)
        omega
      clear hcs hs
      by_cases h0 : 0 < k
      · have HS : Hid (Jo (l.take k) ++ ⟨#[46]⟩ ++ l[k] = Jo (l.take (k + 1))) := by
          show _ = _
          apply text_ext
          rw [text_add, text_add, Jo_list, Jo_list, jo_step l k h0 hkl]
        generalize Jo (l.take k) = T at *
        generalize l[k] = U at *
        go_wp2
        go_round
        case rel => exact ⟨k + 1, by omega, by go_num, by rw [← HS.out]⟩
        case measure => simp [intOf]; omega
      · have HS : Hid (Jo (l.take k) ++ l[k] = Jo (l.take (k + 1))) := by
          show _ = _
          obtain rfl : k = 0 := by omega
          apply text_ext
          rw [text_add, Jo_list, Jo_list, jo_first l hkl]
          simp [jo, Lib.join_nil]
        generalize Jo (l.take k) = T at *
        generalize l[k] = U at *
        have h0' : ¬ (0 : Int) < (k : Int) := by omega
        go_wp2
        go_round
        case rel => exact ⟨k + 1, by omega, by go_num, by rw [← HS.out]⟩
        case measure => simp [intOf]; omega
    · go_wp2
      go_ret
      rw [List.take_of_length_le (by rw [HL.out]; omega)]
      exact ⟨rfl, rfl⟩
end Go.Proofs.YtmkcjjgicinggaaGreatDoor.JoinSpec

/- Plain mathematics: a text cut at its dots. Nothing of the program is named here but the seat itself. -/
namespace Go.Proofs.YtmkcjjgicinggaaGreatDoor.Split
open Go.Proofs.YtmkcjjgicinggaaGreatDoor.MemS Go.Proofs.YtmkcjjgicinggaaGreatDoor.JoinSpec

/-- The pieces of l between its dots; acc stands before the first of them. -/
def spa : List UInt8 → List UInt8 → List (List UInt8)
  | acc, [] => [acc]
  | acc, c :: l => if c = 46 then acc :: spa [] l else spa (acc ++ [c]) l
/-- The labels of a text. A def, so that no step of a walk opens it. -/
def Lab (s : ByteArray) : List ByteArray := if s.size = 0 then [] else (spa [] s.data.toList).map (fun l => ⟨l.toArray⟩)

theorem spa_dot (acc l : List UInt8) : spa acc (46 :: l) = acc :: spa [] l := by rw [spa, if_pos rfl]
theorem spa_other (acc l : List UInt8) (c : UInt8) (h : c ≠ 46) : spa acc (c :: l) = spa (acc ++ [c]) l := by rw [spa, if_neg h]
theorem spa_none : ∀ (l acc : List UInt8), 46 ∉ l → spa acc l = [acc ++ l]
  | [], acc, _ => by simp [spa]
  | c :: l, acc, h => by
    rw [spa_other acc l c (fun e => h (by simp [e])), spa_none l _ (fun e => h (by simp [e]))]
    simp
theorem spa_some : ∀ (a acc b : List UInt8), 46 ∉ a → spa acc (a ++ 46 :: b) = (acc ++ a) :: spa [] b
  | [], acc, b, _ => by simp [spa_dot]
  | c :: a, acc, b, h => by
    rw [List.cons_append, spa_other acc _ c (fun e => h (by simp [e])), spa_some a _ b (fun e => h (by simp [e]))]
    simp
theorem spa_length : ∀ (l acc : List UInt8), (spa acc l).length ≤ l.length + 1
  | [], acc => by simp [spa]
  | c :: l, acc => by
    unfold spa
    split
    · have := spa_length l []
      simp only [List.length_cons]
      omega
    · have := spa_length l (acc ++ [c])
      simp only [List.length_cons]
      omega

theorem parts {l : List UInt8} (h : 46 ∈ l) : ∃ a b, l = a ++ 46 :: b ∧ 46 ∉ a := by
  induction l with
  | nil => simp at h
  | cons c l ih =>
    by_cases hc : c = 46
    · exact ⟨[], l, by simp [hc], by simp⟩
    · obtain ⟨a, b, rfl, ha⟩ := ih ((List.mem_cons.1 h).resolve_left (fun e => hc e.symm))
      exact ⟨c :: a, b, rfl, fun h => (List.mem_cons.1 h).elim (fun e => hc e.symm) ha⟩
theorem index_at : ∀ (a b : List UInt8), 46 ∉ a → Lib.index (a ++ 46 :: b) [46] = (a.length : Int)
  | [], b, _ => by
    rw [List.nil_append, Lib.index, if_pos (by rfl)]; rfl
  | c :: a, b, h => by
    have ih := index_at a b (fun e => h (by simp [e]))
    have hc : ¬ (46 : UInt8) = c := fun e => h (by rw [e]; simp)
    rw [List.cons_append, Lib.index, ih]
    have h1 : ([46] : List UInt8).isPrefixOf (c :: (a ++ 46 :: b)) = false := by
      show ((46 : UInt8) == c && _) = false
      rw [beq_eq_false_iff_ne.2 hc]; rfl
    have h2 : ((a.length : Int) == -1) = false := by rw [beq_eq_false_iff_ne]; omega
    rw [h1, h2]
    simp

/-- The library's own words for the same. -/
theorem splitK_spa : ∀ (k : Nat) (l : List UInt8), Lib.count l [46] = k → Lib.splitK [46] 0 k l = spa [] l
  | 0, l, h => by
    rw [Lib.count_one, List.count_eq_zero] at h
    rw [spa_none l [] h]
    rfl
  | k + 1, l, h => by
    have hm : 46 ∈ l := by
      rw [Lib.count_one] at h
      exact List.count_pos_iff.1 (by omega)
    obtain ⟨a, b, rfl, ha⟩ := parts hm
    have hb : Lib.count b [46] = k := by
      rw [Lib.count_one, List.count_append, List.count_eq_zero.2 ha, List.count_cons] at h
      rw [Lib.count_one]
      simp at h
      exact h
    have hne : ((a.length : Int) == -1) = false := by rw [beq_eq_false_iff_ne]; omega
    rw [Lib.splitK, index_at a b ha, hne, spa_some a [] b ha, Int.toNat_natCast, List.nil_append]
    have hd : (a ++ 46 :: b).drop (a.length + ([46] : List UInt8).length) = b := by simp
    rw [hd, splitK_spa k b hb]
    simp
theorem split_lab (s : ByteArray) (h : s.size ≠ 0) : Lib.splitB ⟨#[46]⟩ 0 (Lib.countB s ⟨#[46]⟩) s = Lab s := by
  have h1 := Lib.splitB_data ⟨#[46]⟩ 0 (Lib.countB s ⟨#[46]⟩) s
  have h2 : Lib.splitK [46] 0 (Lib.countB s ⟨#[46]⟩) s.data.toList = spa [] s.data.toList := splitK_spa _ _ rfl
  have h3 : (Lab s).map (·.data.toList) = spa [] s.data.toList := by
    rw [Lab, if_neg h, List.map_map]
    conv => rhs; rw [← List.map_id (spa [] s.data.toList)]
    exact List.map_congr_left fun l _ => by simp
  have h4 : (Lib.splitB ⟨#[46]⟩ 0 (Lib.countB s ⟨#[46]⟩) s).map (·.data.toList) = (Lab s).map (·.data.toList) := by rw [h1, h3]; exact h2
  have inj : ∀ (x y : List ByteArray), x.map (·.data.toList) = y.map (·.data.toList) → x = y := by
    intro x
    induction x with
    | nil => intro y hy; cases y with
      | nil => rfl
      | cons => simp at hy
    | cons a x ih => intro y hy; cases y with
      | nil => simp at hy
      | cons b y =>
        simp only [List.map_cons, List.cons.injEq] at hy
        rw [text_ext hy.1, ih y hy.2]
  exact inj _ _ h4
theorem lab_len (s : ByteArray) : (Lab s).length ≤ s.size + 1 := by
  unfold Lab
  split
  · simp
  · have := spa_length s.data.toList []
    have hz : s.data.toList.length = s.size := by simp
    rw [List.length_map]
    omega
theorem lab_list (s : ByteArray) (h : s.size ≠ 0) : (Lab s).map (·.data.toList) = spa [] s.data.toList := by
  rw [Lab, if_neg h, List.map_map]
  conv => rhs; rw [← List.map_id (spa [] s.data.toList)]
  exact List.map_congr_left fun l _ => by simp
end Go.Proofs.YtmkcjjgicinggaaGreatDoor.Split

/- A new slice of texts that a call gives back, and a law on append of one text. -/
namespace Go.Proofs.YtmkcjjgicinggaaGreatDoor.AppS
open Go.RowKit Go.Proofs.YtmkcjjgicinggaaGreatDoor.Mem Go.Proofs.YtmkcjjgicinggaaGreatDoor.MemS

theorem info : (Tryz.prog.info? 9).map (fun i => (i.zero, i.size, i.bytes)) = some (some (.string ⟨#[]⟩), 1, 16) := by kernel_rfl

/-- The call returned a new slice that reads as the texts l (room behind it let in), and turned nothing that was there. -/
def GivesS (w : World) (l : List ByteArray) (e : Ending) (w' : World) : Prop :=
  ∃ g m c r, e = .returned (.slice (some ⟨g, 0, none⟩) m c) ∧ l.length = m ∧ m ≤ c ∧ w.heap.size ≤ g ∧ Bk w' g 9 (l.map tv ++ r) ∧ Below w.heap.size w w'

theorem owns_new (w : World) : (w.alloc (.cells #[] 9)).ownsRow w.heap.size 9 1 (.slice (some ⟨w.heap.size, 0, none⟩) 0 0) 0 [] :=
  World.ownsRow_made w #[] 0 (Nat.le_refl _) (Nat.zero_le _) (by simp)

/-- append of one new text onto a row of the call's own. -/
theorem append_one {P : Program} {w : World} {ops : Array Oper} {rest : List Oper} {o : Oper} {a : Act} {Q : Exit → Act → World → Prop} (hgd : o.guard = none) (s x : Operand) (t : TypeId)
    (ho : o.op = .call { callee := .builtin .append, args := #[s, x], argTypes := #[t, t] })
    (base : Nat) (e : TypeId) (i : TypeInfo) (z : Value) (ht : P.underlying t = some (.slice e)) (hi : P.info? e = some i) (hz : i.zero = some z)
    (hsize : i.size = 1) (hby : i.bytes = 16) (hzs : z.cells.size = 1)
    (g n cap : Nat) (l : List ByteArray) (hs : a.eval s = .slice (some ⟨g, 0, none⟩) n cap) (hown : w.ownsRow base e 1 (.slice (some ⟨g, 0, none⟩) n cap) n (l.map tv))
    (y : ByteArray) (hx : a.eval x = .slice (some ⟨w.heap.size, 0, none⟩) 1 1)
    (hn : n ≤ 800000000) (hbase : base ≤ w.heap.size)
    (h : ∀ g' cap' w', w'.ownsRow base e 1 (.slice (some ⟨g', 0, none⟩) (n + 1) cap') (n + 1) ((l ++ [y]).map tv) → (w.alloc (.cells #[.string y] e)).grownBy w' (some g) → wpList P ops Q rest (a.put o.dst (.slice (some ⟨g', 0, none⟩) (n + 1) cap')) w') : wpList P ops Q (o :: rest) a (w.alloc (.cells #[.string y] e)) := by
  refine wpList_append_own (w.alloc (.cells #[.string y] e)) hgd s x t ho base e i z 1 16 ht hi hz hsize hby hzs (by decide) _ n (l.map tv) hs (hown.alloc _) ⟨w.heap.size, 0, none⟩ 1 1 [.string y] hx rfl
    (fun j u hu => ?_) (fun u hu => by simp at hu; subst hu; rfl) (by unfold maxLen; omega) (by omega) (by simp; omega) (fun v' w' h1 h2 h3 => ?_)
  · have hj : j = 0 := by have := (List.getElem?_eq_some_iff.1 hu).1; simp at this; exact this
    subst hj
    have hb : Bk (w.alloc (.cells #[.string y] e)) w.heap.size e [.string y] := heap_alloc_new w _
    rw [Addr.add_lit, hb.cell]
    exact hu
  · rcases h1.2 with ⟨hv, _⟩ | ⟨g', cap', cur, hv, _⟩
    · have := (h3.1 hv).1
      cases this
    · subst hv
      refine h g' cap' w' ?_ h2
      rw [List.map_append]
      exact h1

/-- What the call owns as a row of texts, and has not given up to nil, is a slice that GivesS speaks of. -/
theorem gives_of_owns {w w' : World} {g n cap : Nat} {l : List ByteArray} (h : w'.ownsRow w.heap.size 9 1 (.slice (some ⟨g, 0, none⟩) n cap) n (l.map tv)) (hb : Below w.heap.size w w') : GivesS w l (.returned (.slice (some ⟨g, 0, none⟩) n cap)) w' := by
  have hl : l.length = n := by have := h.1; simpa using this
  obtain ⟨r, hk, hr, hg⟩ := bk_of_owns h
  exact ⟨g, n, cap, r, rfl, hl, by rw [← hr, List.length_append, List.length_map, hl]; omega, hg, hk, hb⟩
end Go.Proofs.YtmkcjjgicinggaaGreatDoor.AppS
