/- Plain mathematics of zones: which names are there, the cuts, the cut of a name, the start, the glue. -/
import Derived.Test.YtjgmocmaeadjdaaSetMath
import Derived.Test.YtjgmocmaeadjdaaNameMath
namespace Go.Proofs.Ytjgmocmaeadjdaa.ZoneMath
open Go.RowKit Go.Proofs.Ytjgmocmaeadjdaa.MemR Go.Proofs.Ytjgmocmaeadjdaa.SetMath Go.Proofs.Ytjgmocmaeadjdaa.NameMath

/-- A record's name is the name, or under it. -/
def ex (nm : ByteArray) (l : List Rec) : Bool := l.any (fun r => Un r.name nm)

theorem ex_take (nm : ByteArray) (l : List Rec) (k : Nat) (h : k < l.length) : ex nm (l.take (k + 1)) = (ex nm (l.take k) || Un l[k].name nm) := by
  unfold ex
  rw [List.take_succ_eq_append_getElem h, List.any_append]
  simp

theorem ex_hit (nm : ByteArray) (l : List Rec) (k : Nat) (h : k < l.length) (e : Un l[k].name nm = true) : ex nm l = true := by
  unfold ex
  rw [List.any_eq_true]
  exact ⟨l[k], List.getElem_mem h, e⟩

/-- The record is of a cut of the zone s. -/
noncomputable def isc (s : ByteArray) (r : Rec) : Bool := @decide (r.ty = 2 ∧ r.name ≠ s ∧ Un r.name s = true) (Classical.propDecidable _)

theorem isc_true {s : ByteArray} {r : Rec} (h : r.ty = 2 ∧ r.name ≠ s ∧ Un r.name s = true) : isc s r = true := @decide_eq_true _ (Classical.propDecidable _) h

theorem isc_false {s : ByteArray} {r : Rec} (h : ¬ (r.ty = 2 ∧ r.name ≠ s ∧ Un r.name s = true)) : isc s r = false := @decide_eq_false _ (Classical.propDecidable _) h

/-- The names of the cuts, as the records stand. -/
noncomputable def cn (s : ByteArray) (l : List Rec) : List ByteArray := (l.filter (isc s)).map (·.name)

theorem cn_take (s : ByteArray) (l : List Rec) (k : Nat) (h : k < l.length) : cn s (l.take (k + 1)) = cn s (l.take k) ++ (if isc s l[k] = true then [l[k].name] else []) := by
  unfold cn
  rw [filter_take _ _ _ h, List.map_append]
  split <;> rfl

theorem cn_len (s : ByteArray) (l : List Rec) : (cn s l).length ≤ l.length := by rw [cn, List.length_map]; exact List.length_filter_le _ _

theorem cn_len_take (s : ByteArray) (l : List Rec) (k : Nat) : (cn s (l.take k)).length ≤ k := Nat.le_trans (cn_len _ _) (by simp; omega)

theorem cn_mem {s : ByteArray} {l : List Rec} {x : ByteArray} (h : x ∈ cn s l) : ∃ r ∈ l, r.name = x := by
  obtain ⟨r, hr, rfl⟩ := List.mem_map.1 h
  exact ⟨r, (List.mem_filter.1 hr).1, rfl⟩

/-- The cut that has the name, of those in the list. -/
def co (nm : ByteArray) (L : List ByteArray) : Option ByteArray := L.find? (fun x => Un nm x)

theorem co_hit (nm : ByteArray) (L : List ByteArray) (k : Nat) (h : k < L.length) (e : Un nm L[k] = true) (h0 : co nm (L.take k) = none) : co nm L = some L[k] := by
  unfold co at *
  conv => lhs; rw [← List.take_append_drop k L]
  rw [List.find?_append, h0, List.drop_eq_getElem_cons h, List.find?_cons, e]
  rfl

theorem co_next (nm : ByteArray) (L : List ByteArray) (k : Nat) (h : k < L.length) (e : Un nm L[k] = false) (h0 : co nm (L.take k) = none) : co nm (L.take (k + 1)) = none := by
  unfold co at *
  rw [List.take_succ_eq_append_getElem h, List.find?_append, h0, List.find?_cons, e]
  rfl

/-- What CutOf gives back. -/
def cv : Option ByteArray → Value
  | some x => .tuple #[.string x, .bool true]
  | none => .tuple #[.string ⟨#[]⟩, .bool false]

/-- The zone's start, or a record with nothing in it. -/
def st (l : List Rec) : Rec := (l.find? (fun r => decide (r.ty = 6))).getD zr

theorem st_hit (l : List Rec) (k : Nat) (h : k < l.length) (e : l[k].ty = 6) (h0 : ∀ r ∈ l.take k, r.ty ≠ 6) : st l = l[k] := by
  unfold st
  conv => lhs; rw [← List.take_append_drop k l]
  rw [List.find?_append, List.find?_eq_none.2 (fun x hx => by simpa using h0 x hx), List.drop_eq_getElem_cons h, List.find?_cons]
  simp [e]

theorem st_next (l : List Rec) (k : Nat) (h : k < l.length) (e : l[k].ty ≠ 6) (h0 : ∀ r ∈ l.take k, r.ty ≠ 6) : ∀ r ∈ l.take (k + 1), r.ty ≠ 6 := by
  intro r hr
  rw [List.take_succ_eq_append_getElem h, List.mem_append, List.mem_singleton] at hr
  rcases hr with hr | rfl
  · exact h0 r hr
  · exact e

theorem st_none (l : List Rec) (h0 : ∀ r ∈ l, r.ty ≠ 6) : st l = zr := by
  unfold st
  rw [List.find?_eq_none.2 (fun x hx => by simpa using h0 x hx)]
  rfl

/-- The addresses of the hosts, in their order. -/
noncomputable def gl (L : List ByteArray) (l : List Rec) : List Rec := L.flatMap (fun h => sf h 1 l)

theorem gl_take (L : List ByteArray) (l : List Rec) (k : Nat) (h : k < L.length) : gl (L.take (k + 1)) l = gl (L.take k) l ++ sf L[k] 1 l := by
  unfold gl
  rw [List.take_succ_eq_append_getElem h, List.flatMap_append]
  simp

theorem gl_len (L : List ByteArray) (l : List Rec) : (gl L l).length ≤ L.length * l.length := by
  unfold gl
  induction L with
  | nil => simp
  | cons x L ih =>
    rw [List.flatMap_cons, List.length_append, List.length_cons, Nat.add_mul, Nat.one_mul]
    have := sf_len x 1 l
    omega

end Go.Proofs.Ytjgmocmaeadjdaa.ZoneMath
