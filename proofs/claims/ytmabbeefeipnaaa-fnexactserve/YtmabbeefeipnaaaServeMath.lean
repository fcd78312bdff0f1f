/- Plain mathematics of a server with a zone: the kind of a question, the three sections of its reply. -/
import Derived.Test.YtmabbeefeipnaaaZoneMath
namespace Go.Proofs.Ytmabbeefeipnaaa.ServeMath
open Go.RowKit Go.Proofs.Ytmabbeefeipnaaa.MemR Go.Proofs.Ytmabbeefeipnaaa.SetMath Go.Proofs.Ytmabbeefeipnaaa.NameMath Go.Proofs.Ytmabbeefeipnaaa.ZoneMath

/-- Which kind of reply a question has: not, down, alias, set, nodata, noname. -/
noncomputable def kd (s nm : ByteArray) (ty : Int) (l : List Rec) : Int :=
  if Un nm s = false then 0 else if (co nm (uq (cn s l))).isSome = true then 1 else if ty ≠ 5 ∧ 0 < (sf nm 5 l).length then 2 else if 0 < (sf nm ty l).length then 3 else if ex nm l = true then 4 else 5

/-- The cut of a name, or the empty name. -/
noncomputable def cu (s nm : ByteArray) (l : List Rec) : ByteArray := (co nm (uq (cn s l))).getD ⟨#[]⟩

/-- The answers. -/
noncomputable def anl (k : Int) (nm : ByteArray) (ty : Int) (l : List Rec) : List Rec := if k = 2 then sf nm 5 l else if k = 3 then sf nm ty l else []

/-- The servers of the cut, or the start. -/
noncomputable def mol (k : Int) (s nm : ByteArray) (l : List Rec) : List Rec := if k = 1 then sf (cu s nm l) 2 l else if k = 4 ∨ k = 5 then [st l] else []

/-- The addresses of the cut's servers. -/
noncomputable def hel (k : Int) (s nm : ByteArray) (l : List Rec) : List Rec := if k = 1 then gl (uq (hl (sf (cu s nm l) 2 l))) l else []

theorem kd_six (s nm : ByteArray) (ty : Int) (l : List Rec) : kd s nm ty l = 0 ∨ kd s nm ty l = 1 ∨ kd s nm ty l = 2 ∨ kd s nm ty l = 3 ∨ kd s nm ty l = 4 ∨ kd s nm ty l = 5 := by
  unfold kd
  repeat' split
  all_goals simp

theorem kd0 {s nm : ByteArray} {ty : Int} {l : List Rec} (h : Un nm s = false) : kd s nm ty l = 0 := if_pos h

theorem kd1 {s nm : ByteArray} {ty : Int} {l : List Rec} (h : Un nm s = true) (h1 : (co nm (uq (cn s l))).isSome = true) : kd s nm ty l = 1 := by
  unfold kd; rw [if_neg (by simp [h]), if_pos h1]

theorem kd2 {s nm : ByteArray} {ty : Int} {l : List Rec} (h : Un nm s = true) (h1 : co nm (uq (cn s l)) = none) (h2 : ty ≠ 5) (h3 : 0 < (sf nm 5 l).length) : kd s nm ty l = 2 := by
  unfold kd; rw [if_neg (by simp [h]), if_neg (by simp [h1]), if_pos ⟨h2, h3⟩]

theorem kd3 {s nm : ByteArray} {ty : Int} {l : List Rec} (h : Un nm s = true) (h1 : co nm (uq (cn s l)) = none) (h2 : ty = 5 ∨ (sf nm 5 l).length = 0) (h3 : 0 < (sf nm ty l).length) : kd s nm ty l = 3 := by
  unfold kd; rw [if_neg (by simp [h]), if_neg (by simp [h1]), if_neg (fun e => by rcases h2 with h | h; exact e.1 h; omega), if_pos h3]

theorem kd4 {s nm : ByteArray} {ty : Int} {l : List Rec} (h : Un nm s = true) (h1 : co nm (uq (cn s l)) = none) (h2 : ty = 5 ∨ (sf nm 5 l).length = 0) (h3 : (sf nm ty l).length = 0) (h4 : ex nm l = true) : kd s nm ty l = 4 := by
  unfold kd; rw [if_neg (by simp [h]), if_neg (by simp [h1]), if_neg (fun e => by rcases h2 with h | h; exact e.1 h; omega), if_neg (by omega), if_pos h4]

theorem kd5 {s nm : ByteArray} {ty : Int} {l : List Rec} (h : Un nm s = true) (h1 : co nm (uq (cn s l)) = none) (h2 : ty = 5 ∨ (sf nm 5 l).length = 0) (h3 : (sf nm ty l).length = 0) (h4 : ex nm l = false) : kd s nm ty l = 5 := by
  unfold kd; rw [if_neg (by simp [h]), if_neg (by simp [h1]), if_neg (fun e => by rcases h2 with h | h; exact e.1 h; omega), if_neg (by omega), if_neg (by simp [h4])]

theorem anl_len (k : Int) (nm : ByteArray) (ty : Int) (l : List Rec) : (anl k nm ty l).length ≤ l.length := by
  unfold anl
  split
  · exact sf_len _ _ _
  · split
    · exact sf_len _ _ _
    · simp

theorem mol_len (k : Int) (s nm : ByteArray) (l : List Rec) : (mol k s nm l).length ≤ l.length + 1 := by
  unfold mol
  split
  · have := sf_len (cu s nm l) 2 l; omega
  · split <;> simp

theorem hel_len (k : Int) (s nm : ByteArray) (l : List Rec) : (hel k s nm l).length ≤ l.length * l.length := by
  unfold hel
  split
  · refine Nat.le_trans (gl_len _ _) (Nat.mul_le_mul ?_ (Nat.le_refl _))
    have h1 := len_uq (hl (sf (cu s nm l) 2 l))
    have h2 := hl_len (sf (cu s nm l) 2 l)
    have h3 := sf_len (cu s nm l) 2 l
    omega
  · simp

/-- The code of a reply of a kind. -/
def rcd (k : Int) : Int := if k = 0 then 5 else if k = 5 then 3 else 0

/-- Whether a reply of a kind is authoritative. -/
def aut (k : Int) : Bool := decide (k ≠ 0 ∧ k ≠ 1)

end Go.Proofs.Ytmabbeefeipnaaa.ServeMath
