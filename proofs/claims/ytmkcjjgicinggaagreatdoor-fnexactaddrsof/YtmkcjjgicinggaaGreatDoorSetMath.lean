/- Plain mathematics of record sets: a list without repetitions, the least time to live, the records of a name and a type, the same data. -/
import Derived.Test.YtmkcjjgicinggaaGreatDoorMemR
namespace Go.Proofs.YtmkcjjgicinggaaGreatDoor.SetMath
open Go.Proofs.YtmkcjjgicinggaaGreatDoor.MemR

section
variable {α : Type}

/-- x put behind, unless it is there. -/
noncomputable def add (l : List α) (x : α) : List α := @ite _ (x ∈ l) (Classical.propDecidable _) l (l ++ [x])

theorem add_in {l : List α} {x : α} (h : x ∈ l) : add l x = l := @if_pos _ (Classical.propDecidable _) h _ _ _

theorem add_out {l : List α} {x : α} (h : x ∉ l) : add l x = l ++ [x] := @if_neg _ (Classical.propDecidable _) h _ _ _

/-- The list without repetitions, in the order of the first occurrences. -/
noncomputable def uq (l : List α) : List α := l.foldl add []

theorem uq_nil : uq ([] : List α) = [] := rfl

theorem uq_snoc (l : List α) (x : α) : uq (l ++ [x]) = add (uq l) x := by unfold uq; rw [List.foldl_append]; rfl

theorem uq_take (l : List α) (k : Nat) (h : k < l.length) : uq (l.take (k + 1)) = add (uq (l.take k)) l[k] := by rw [List.take_succ_eq_append_getElem h, uq_snoc]

theorem mem_add {l : List α} {x y : α} : y ∈ add l x ↔ y ∈ l ∨ y = x := by
  by_cases h : x ∈ l
  · rw [add_in h]
    exact ⟨Or.inl, fun h' => h'.elim id (fun e => e ▸ h)⟩
  · rw [add_out h, List.mem_append, List.mem_singleton]

theorem mem_fold {y : α} : ∀ (l acc : List α), y ∈ l.foldl add acc ↔ y ∈ acc ∨ y ∈ l
  | [], acc => by simp
  | x :: l, acc => by
    rw [List.foldl_cons, mem_fold l, mem_add, List.mem_cons, or_assoc]

theorem mem_uq {l : List α} {y : α} : y ∈ uq l ↔ y ∈ l := by unfold uq; rw [mem_fold]; simp

theorem nodup_add {l : List α} {x : α} (h : l.Nodup) : (add l x).Nodup := by
  by_cases hx : x ∈ l
  · rw [add_in hx]; exact h
  · rw [add_out hx, List.nodup_append]
    exact ⟨h, by simp, fun a ha b hb e => hx (by rw [List.mem_singleton] at hb; rw [← hb, ← e]; exact ha)⟩

theorem nodup_fold : ∀ (l acc : List α), acc.Nodup → (l.foldl add acc).Nodup
  | [], _, h => h
  | x :: l, acc, h => by rw [List.foldl_cons]; exact nodup_fold l _ (nodup_add h)

theorem nodup_uq (l : List α) : (uq l).Nodup := nodup_fold l [] (by simp)

theorem len_add (l : List α) (x : α) : (add l x).length ≤ l.length + 1 := by
  by_cases h : x ∈ l
  · rw [add_in h]; omega
  · rw [add_out h]; simp

theorem len_fold : ∀ (l acc : List α), (l.foldl add acc).length ≤ acc.length + l.length
  | [], _ => by simp
  | x :: l, acc => by
    rw [List.foldl_cons, List.length_cons]
    have h1 := len_fold l (add acc x)
    have h2 := len_add acc x
    omega

theorem len_uq (l : List α) : (uq l).length ≤ l.length := by have := len_fold l []; simpa [uq] using this

theorem filter_take (p : α → Bool) (l : List α) (k : Nat) (h : k < l.length) : (l.take (k + 1)).filter p = (l.take k).filter p ++ (if p l[k] = true then [l[k]] else []) := by
  rw [List.take_succ_eq_append_getElem h, List.filter_append, List.filter_cons, List.filter_nil]

theorem take_all {l : List α} {n : Nat} (h : l.length = n) : l.take n = l := List.take_of_length_le (by omega)
end

/-- The least time to live, 0 of no records. -/
def mn : List Rec → Int
  | [] => 0
  | r :: l => l.foldl (fun m x => if x.ttl < m then x.ttl else m) r.ttl

theorem mn_one (r : Rec) : mn [r] = r.ttl := rfl

theorem mn_snoc (l : List Rec) (x : Rec) (h : l ≠ []) : mn (l ++ [x]) = if x.ttl < mn l then x.ttl else mn l := by
  cases l with
  | nil => exact absurd rfl h
  | cons r l => rw [List.cons_append, mn, List.foldl_append]; rfl

theorem mn_take (l : List Rec) (k : Nat) (h : k < l.length) (hk : 0 < k) : mn (l.take (k + 1)) = if l[k].ttl < mn (l.take k) then l[k].ttl else mn (l.take k) := by
  rw [List.take_succ_eq_append_getElem h, mn_snoc _ _ (fun e => by have h1 := congrArg List.length e; rw [List.length_take, List.length_nil] at h1; omega)]

theorem mn_first (l : List Rec) (h : 0 < l.length) : mn (l.take 1) = l[0].ttl := by
  cases l with
  | nil => simp at h
  | cons r l => rfl

/-- The least of a number and of the times to live. -/
def mnl (m : Int) (l : List Rec) : Int := l.foldl (fun m x => if x.ttl < m then x.ttl else m) m

theorem mnl_take (m : Int) (l : List Rec) (k : Nat) (h : k < l.length) : mnl m (l.take (k + 1)) = if l[k].ttl < mnl m (l.take k) then l[k].ttl else mnl m (l.take k) := by
  rw [List.take_succ_eq_append_getElem h, mnl, List.foldl_append]; rfl

theorem mnl_all (r : Rec) (l : List Rec) : mnl r.ttl (r :: l) = mn (r :: l) := by
  rw [mnl, List.foldl_cons, if_neg (Int.lt_irrefl _)]; rfl

theorem mnl_self (l : List Rec) (h : 0 < l.length) : mnl l[0].ttl l = mn l := by
  cases l with
  | nil => simp at h
  | cons r l => exact mnl_all r l

/-- The record with another time to live. -/
def wr (t : Int) (r : Rec) : Rec := { r with ttl := t }

theorem wr_set (t : Int) (l : List Rec) (k : Nat) (h : k < l.length) : ((l.take k).map (wr t) ++ l.drop k).set k (wr t l[k]) = (l.take (k + 1)).map (wr t) ++ l.drop (k + 1) := by
  rw [List.set_append_right _ _ (by simp; omega), show k - ((l.take k).map (wr t)).length = 0 by simp; omega, List.drop_eq_getElem_cons h, List.set_cons_zero, List.take_succ_eq_append_getElem h, List.map_append, List.append_assoc]
  rfl

theorem wr_at (t : Int) (l : List Rec) (k : Nat) (h : k < l.length) : ∃ h' : k < ((l.take k).map (wr t) ++ l.drop k).length, ((l.take k).map (wr t) ++ l.drop k)[k] = l[k] := by
  refine ⟨by simp; omega, ?_⟩
  rw [List.getElem_append_right (by simp; omega), List.getElem_drop]
  congr 1
  simp
  omega

/-- A name and a type. -/
structure Key where
  name : ByteArray
  ty : Int

/-- The key of a record. -/
def ky (r : Rec) : Key := ⟨r.name, r.ty⟩

/-- Whether a record has this name and this type. -/
noncomputable def isk (nm : ByteArray) (ty : Int) (r : Rec) : Bool := @decide (r.name = nm ∧ r.ty = ty) (Classical.propDecidable _)

theorem isk_true {nm : ByteArray} {ty : Int} {r : Rec} (h : r.name = nm ∧ r.ty = ty) : isk nm ty r = true := @decide_eq_true _ (Classical.propDecidable _) h

theorem isk_false {nm : ByteArray} {ty : Int} {r : Rec} (h : ¬ (r.name = nm ∧ r.ty = ty)) : isk nm ty r = false := @decide_eq_false _ (Classical.propDecidable _) h

theorem isk_iff {nm : ByteArray} {ty : Int} {r : Rec} : isk nm ty r = true ↔ (r.name = nm ∧ r.ty = ty) := by
  by_cases h : r.name = nm ∧ r.ty = ty
  · exact ⟨fun _ => h, isk_true⟩
  · rw [isk_false h]; exact ⟨fun e => absurd e (by decide), fun e => absurd e h⟩

/-- The records of this name and type. -/
noncomputable def sf (nm : ByteArray) (ty : Int) (l : List Rec) : List Rec := l.filter (isk nm ty)

theorem sf_take (nm : ByteArray) (ty : Int) (l : List Rec) (k : Nat) (h : k < l.length) : sf nm ty (l.take (k + 1)) = sf nm ty (l.take k) ++ (if isk nm ty l[k] = true then [l[k]] else []) := filter_take _ _ _ h

theorem sf_len (nm : ByteArray) (ty : Int) (l : List Rec) : (sf nm ty l).length ≤ l.length := List.length_filter_le _ _

theorem sf_len_take (nm : ByteArray) (ty : Int) (l : List Rec) (k : Nat) : (sf nm ty (l.take k)).length ≤ k := Nat.le_trans (sf_len _ _ _) (by simp; omega)

/-- The hosts of the records of servers. -/
def hl (l : List Rec) : List ByteArray := (l.filter (fun r => decide (r.ty = 2))).map (·.host)

theorem hl_take (l : List Rec) (k : Nat) (h : k < l.length) : hl (l.take (k + 1)) = hl (l.take k) ++ (if l[k].ty = 2 then [l[k].host] else []) := by
  rw [hl, filter_take _ _ _ h, List.map_append, hl]
  by_cases e : l[k].ty = 2
  · simp [e]
  · simp [e]

theorem hl_len (l : List Rec) : (hl l).length ≤ l.length := by rw [hl, List.length_map]; exact List.length_filter_le _ _

theorem hl_len_take (l : List Rec) (k : Nat) : (hl (l.take k)).length ≤ k := Nat.le_trans (hl_len _) (by simp; omega)

theorem hl_mem {l : List Rec} {x : ByteArray} (h : x ∈ hl l) : ∃ r ∈ l, r.host = x := by
  obtain ⟨r, hr, rfl⟩ := List.mem_map.1 h
  exact ⟨r, (List.mem_filter.1 hr).1, rfl⟩

/-- The numbers of the records of addresses of this name. -/
noncomputable def al (nm : ByteArray) (l : List Rec) : List Int := (sf nm 1 l).map (·.n)

theorem al_take (nm : ByteArray) (l : List Rec) (k : Nat) (h : k < l.length) : al nm (l.take (k + 1)) = al nm (l.take k) ++ (if isk nm 1 l[k] = true then [l[k].n] else []) := by
  rw [al, sf_take _ _ _ _ h, List.map_append, al]
  split <;> rfl

theorem al_len (nm : ByteArray) (l : List Rec) : (al nm l).length ≤ l.length := by rw [al, List.length_map]; exact sf_len _ _ _

theorem al_len_take (nm : ByteArray) (l : List Rec) (k : Nat) : (al nm (l.take k)).length ≤ k := Nat.le_trans (al_len _ _) (by simp; omega)

/-- The keys. -/
def kl (l : List Rec) : List Key := l.map ky

theorem kl_take (l : List Rec) (k : Nat) (h : k < l.length) : kl (l.take (k + 1)) = kl (l.take k) ++ [ky l[k]] := by
  rw [kl, List.take_succ_eq_append_getElem h, List.map_append]; rfl

theorem kl_len (l : List Rec) : (kl l).length = l.length := by rw [kl, List.length_map]
end Go.Proofs.YtmkcjjgicinggaaGreatDoor.SetMath
