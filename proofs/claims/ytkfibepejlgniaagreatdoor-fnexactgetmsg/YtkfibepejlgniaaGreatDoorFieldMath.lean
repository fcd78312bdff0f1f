/- Plain mathematics: the data of a record, a record, and what is read out of bytes as such. Nothing of the program is named here but the seat itself. -/
import Derived.Test.YtkfibepejlgniaaGreatDoorWireMath
import Derived.Test.YtkfibepejlgniaaGreatDoorPlain
import Derived.Test.YtkfibepejlgniaaGreatDoorPutSpec
import Derived.Test.YtkfibepejlgniaaGreatDoorGet
import Derived.Test.YtkfibepejlgniaaGreatDoorRecOk
namespace Go.Proofs.YtkfibepejlgniaaGreatDoor.FieldMath
open Go.Proofs.YtkfibepejlgniaaGreatDoor.Mem Go.Proofs.YtkfibepejlgniaaGreatDoor.MemR Go.Proofs.YtkfibepejlgniaaGreatDoor.JoinSpec Go.Proofs.YtkfibepejlgniaaGreatDoor.Split Go.Proofs.YtkfibepejlgniaaGreatDoor.GetLabel Go.Proofs.YtkfibepejlgniaaGreatDoor.PutLabel Go.Proofs.YtkfibepejlgniaaGreatDoor.NameOk Go.Proofs.YtkfibepejlgniaaGreatDoor.TextR Go.Proofs.YtkfibepejlgniaaGreatDoor.RecOk Go.Proofs.YtkfibepejlgniaaGreatDoor.WireMath Go.Proofs.YtkfibepejlgniaaGreatDoor.Plain Go.Proofs.YtkfibepejlgniaaGreatDoor.PutSpec Go.Proofs.YtkfibepejlgniaaGreatDoor.Put Go.Proofs.YtkfibepejlgniaaGreatDoor.Get

/-- The data of a record of this type. -/
def dta (ty n : Int) (host text : ByteArray) : List UInt8 :=
  if ty = 1 then tail4 n else if ty = 6 then tailP host ++ tail4 n else if ty = 16 then one text.size ++ text.data.toList else tailP host
theorem dta_1 (n : Int) (h t : ByteArray) : dta 1 n h t = tail4 n := rfl
theorem dta_6 (n : Int) (h t : ByteArray) : dta 6 n h t = tailP h ++ tail4 n := rfl
theorem dta_16 (n : Int) (h t : ByteArray) : dta 16 n h t = one t.size ++ t.data.toList := rfl
theorem dta_2 (n : Int) (h t : ByteArray) : dta 2 n h t = tailP h := rfl
theorem dta_5 (n : Int) (h t : ByteArray) : dta 5 n h t = tailP h := rfl
/-- The data of a record, none of an invalid one. A def, so that no step of a walk opens it. -/
def dat (r : Rec) : List UInt8 := if rok r = true then dta r.ty r.n r.host r.text else []
theorem rok_ty {r : Rec} (h : rok r = true) : r.ty = 1 ∨ r.ty = 2 ∨ r.ty = 5 ∨ r.ty = 6 ∨ r.ty = 16 := by
  rw [rok, Bool.and_eq_true, Bool.and_eq_true] at h
  refine Decidable.byContradiction fun hn => ?_
  rw [dko_none _ _ _ (by omega) (by omega) (by omega) (by omega) (by omega)] at h
  exact absurd h.2.2 (by decide)
theorem tail4_len (x : Int) : (tail4 x).length ≤ 4 := by unfold tail4; split <;> simp [quad]
theorem dat_len (r : Rec) : (dat r).length ≤ 83 := by
  unfold dat
  split
  · rename_i h
    have h1 := tail4_len r.n
    have h2 := tailP_len r.host
    rcases rok_ty h with e | e | e | e | e <;> rw [e]
    · rw [dta_1]; omega
    · rw [dta_2]; omega
    · rw [dta_5]; omega
    · rw [dta_6, List.length_append]; omega
    · rw [rok, e, dko_16, Bool.and_eq_true, Bool.and_eq_true, Bool.and_eq_true, txo, Bool.and_eq_true] at h
      have h3 := of_decide_eq_true h.2.2.1.2
      have h4 : r.text.data.toList.length = r.text.size := by simp
      rw [dta_16, List.length_append, one_len]
      omega
  · simp
/-- What PutRecord puts behind the bytes l. A def, so that no step of a walk opens it. -/
def tailR (l : List UInt8) (r : Rec) : List UInt8 :=
  if rok r = true then tailN l r.name ++ tail2 r.ty ++ tail2 1 ++ tail4 r.ttl ++ tail2 ((dat r).length : Int) ++ dat r else []
theorem tail2_len (x : Int) : (tail2 x).length ≤ 2 := by unfold tail2; split <;> simp [two]
theorem tailR_len (l : List UInt8) (r : Rec) : (tailR l r).length ≤ 173 := by
  unfold tailR
  split
  · have h1 := tailN_len l r.name
    have h2 := tail2_len r.ty
    have h3 := tail2_len 1
    have h4 := tail4_len r.ttl
    have h5 := tail2_len ((dat r).length : Int)
    have h6 := dat_len r
    simp only [List.length_append]
    omega
  · simp
/-- What PutRecords puts behind the bytes l. -/
def puts (l : List UInt8) : List Rec → List UInt8
  | [] => l
  | r :: L => puts (l ++ tailR l r) L
theorem puts_step (l : List UInt8) : ∀ (L : List Rec) (k : Nat) (h : k < L.length), puts l (L.take (k + 1)) = puts l (L.take k) ++ tailR (puts l (L.take k)) L[k]
  | r :: L, 0, _ => by simp [puts]
  | r :: L, k + 1, h => by
    rw [List.take_succ_cons, List.take_succ_cons, puts, puts]
    exact puts_step _ L k (by simpa using h)
theorem puts_len : ∀ (L : List Rec) (l : List UInt8), (puts l L).length ≤ l.length + 173 * L.length
  | [], l => by simp [puts]
  | r :: L, l => by
    rw [puts]
    have h1 := puts_len L (l ++ tailR l r)
    have h2 := tailR_len l r
    rw [List.length_append] at h1
    rw [List.length_cons]
    omega

/-- The two bytes at offset k as a number, and whether they are there. -/
def n2 (l : List UInt8) (k : Int) : Int × Bool := if 0 ≤ k ∧ k ≤ (l.length : Int) - 2 then (be ((l.drop k.toNat).take 2), true) else (0, false)
/-- The four bytes at offset k as a number, and whether they are there and not too much. -/
def n4 (l : List UInt8) (k : Int) : Int × Bool :=
  if 0 ≤ k ∧ k ≤ (l.length : Int) - 4 then (if 2147483647 < be ((l.drop k.toNat).take 4) then (0, false) else (be ((l.drop k.toNat).take 4), true)) else (0, false)
theorem n2_in {l : List UInt8} {k : Int} (h0 : 0 ≤ k) (h1 : k ≤ (l.length : Int) - 2) : (n2 l k).2 = true ∧ 0 ≤ (n2 l k).1 ∧ (n2 l k).1 ≤ 65535 := by
  rw [n2, if_pos ⟨h0, h1⟩]
  have h2 : (be ((l.drop k.toNat).take 2)) < 256 ^ (0 + ((l.drop k.toNat).take 2).length) := (be_bounds ((l.drop k.toNat).take 2) 0 0 (by omega) (by decide)).2
  have h3 : ((l.drop k.toNat).take 2).length = 2 := by rw [List.length_take, List.length_drop]; omega
  rw [h3] at h2
  refine ⟨rfl, be_pos _, ?_⟩
  have h4 : (256 : Int) ^ (0 + 2) = 65536 := by decide
  dsimp only
  omega
theorem n4_bounds (l : List UInt8) (k : Int) : 0 ≤ (n4 l k).1 ∧ (n4 l k).1 ≤ 2147483647 := by
  unfold n4
  split
  · split
    · exact ⟨by decide, by decide⟩
    · exact ⟨be_pos _, by dsimp only; omega⟩
  · exact ⟨by decide, by decide⟩
theorem n4_in {l : List UInt8} {k : Int} (h : (n4 l k).2 = true) : 0 ≤ k ∧ k + 4 ≤ (l.length : Int) := by
  unfold n4 at h
  split at h
  · omega
  · cases h
theorem n4_off {l : List UInt8} {k : Int} (h : (n4 l k).2 = false) : (n4 l k).1 = 0 := by
  unfold n4 at h ⊢
  split
  · rename_i h1
    rw [if_pos h1] at h
    split
    · rfl
    · rename_i h2
      rw [if_neg h2] at h
      cases h
  · rfl

/-- The record of data of an address. -/
def rA (n : Int) : Rec := ⟨⟨#[]⟩, 1, 0, n, ⟨#[]⟩, ⟨#[]⟩⟩
def rH (ty : Int) (s : ByteArray) : Rec := ⟨⟨#[]⟩, ty, 0, 0, s, ⟨#[]⟩⟩
def rS (s : ByteArray) (n : Int) : Rec := ⟨⟨#[]⟩, 6, 0, n, s, ⟨#[]⟩⟩
def rT (s : ByteArray) : Rec := ⟨⟨#[]⟩, 16, 0, 0, ⟨#[]⟩, s⟩
/-- What the model's GetData answers: a code and a record. A def, so that no step of a walk opens it. -/
def gd (l : List UInt8) (k n ty : Int) : Nat × Rec :=
  if ¬ (0 ≤ n ∧ n ≤ 255) then (2, zr)
  else if k < 0 ∨ (l.length : Int) - n < k then (1, zr)
  else if ty = 1 then (if (n4 l k).2 = true ∧ n = 4 then (0, rA (n4 l k).1) else (2, zr))
  else if ty = 16 then (if 1 ≤ n ∧ bt l k = n - 1 ∧ txo (piece l k.toNat (n - 1).toNat) = true then (0, rT (piece l k.toNat (n - 1).toNat)) else (2, zr))
  else if ty = 2 ∨ ty = 5 then
    (if (rn l [] k k 0 (-1)).1 ≠ 0 then ((rn l [] k k 0 (-1)).1, zr) else if (rn l [] k k 0 (-1)).2.2.1 = k + n then (0, rH ty (Jo (rn l [] k k 0 (-1)).2.1)) else (2, zr))
  else if ty = 6 then
    (if (rn l [] k k 0 (-1)).1 ≠ 0 then ((rn l [] k k 0 (-1)).1, zr) else if (n4 l (rn l [] k k 0 (-1)).2.2.1).2 = true ∧ (rn l [] k k 0 (-1)).2.2.1 + 4 = k + n then (0, rS (Jo (rn l [] k k 0 (-1)).2.1) (n4 l (rn l [] k k 0 (-1)).2.2.1).1) else (2, zr))
  else (2, zr)
/-- What the program's GetData answers: it asks besides that the record be valid. -/
def fx (X : Nat × Rec) : Nat × Rec := if X.1 = 0 ∧ rok X.2 = false then (2, zr) else X
section
variable {l : List UInt8} {k n ty : Int}
theorem gd_n (h : ¬ (0 ≤ n ∧ n ≤ 255)) : gd l k n ty = (2, zr) := by rw [gd, if_pos h]
theorem gd_out (h : 0 ≤ n ∧ n ≤ 255) (hk : k < 0 ∨ (l.length : Int) - n < k) : gd l k n ty = (1, zr) := by rw [gd, if_neg (fun e => e h), if_pos hk]
theorem gd_1 (h : 0 ≤ n ∧ n ≤ 255) (hk : ¬ (k < 0 ∨ (l.length : Int) - n < k)) : gd l k n 1 = (if (n4 l k).2 = true ∧ n = 4 then (0, rA (n4 l k).1) else (2, zr)) := by
  rw [gd, if_neg (fun e => e h), if_neg hk, if_pos rfl]
theorem gd_16 (h : 0 ≤ n ∧ n ≤ 255) (hk : ¬ (k < 0 ∨ (l.length : Int) - n < k)) : gd l k n 16 = (if 1 ≤ n ∧ bt l k = n - 1 ∧ txo (piece l k.toNat (n - 1).toNat) = true then (0, rT (piece l k.toNat (n - 1).toNat)) else (2, zr)) := by
  rw [gd, if_neg (fun e => e h), if_neg hk, if_neg (by decide), if_pos rfl]
theorem gd_h (h : 0 ≤ n ∧ n ≤ 255) (hk : ¬ (k < 0 ∨ (l.length : Int) - n < k)) (ht : ty = 2 ∨ ty = 5) : gd l k n ty =
    (if (rn l [] k k 0 (-1)).1 ≠ 0 then ((rn l [] k k 0 (-1)).1, zr) else if (rn l [] k k 0 (-1)).2.2.1 = k + n then (0, rH ty (Jo (rn l [] k k 0 (-1)).2.1)) else (2, zr)) := by
  rw [gd, if_neg (fun e => e h), if_neg hk, if_neg (by omega), if_neg (by omega), if_pos ht]
theorem gd_6 (h : 0 ≤ n ∧ n ≤ 255) (hk : ¬ (k < 0 ∨ (l.length : Int) - n < k)) : gd l k n 6 =
    (if (rn l [] k k 0 (-1)).1 ≠ 0 then ((rn l [] k k 0 (-1)).1, zr) else if (n4 l (rn l [] k k 0 (-1)).2.2.1).2 = true ∧ (rn l [] k k 0 (-1)).2.2.1 + 4 = k + n then (0, rS (Jo (rn l [] k k 0 (-1)).2.1) (n4 l (rn l [] k k 0 (-1)).2.2.1).1) else (2, zr)) := by
  rw [gd, if_neg (fun e => e h), if_neg hk, if_neg (by decide), if_neg (by decide), if_neg (by decide), if_pos rfl]
theorem gd_ty (h : 0 ≤ n ∧ n ≤ 255) (hk : ¬ (k < 0 ∨ (l.length : Int) - n < k)) (ht : ¬ (ty = 1 ∨ ty = 2 ∨ ty = 5 ∨ ty = 6 ∨ ty = 16)) : gd l k n ty = (2, zr) := by
  rw [gd, if_neg (fun e => e h), if_neg hk, if_neg (by omega), if_neg (by omega), if_neg (by omega), if_neg (by omega)]
end
theorem fx_bad {c : Nat} {r : Rec} (h : c ≠ 0) : fx (c, r) = (c, r) := if_neg (fun e => h e.1)
theorem fx_ok {r : Rec} (h : rok r = true) : fx (0, r) = (0, r) := if_neg (fun e => by rw [h] at e; exact absurd e.2 (by decide))
theorem fx_not {r : Rec} (h : rok r = false) : fx (0, r) = (2, zr) := if_pos ⟨rfl, h⟩
/-- GetData fails: it gives the record with nothing in it. -/
theorem gd_fail {l : List UInt8} {k n ty : Int} {c : Nat} {r : Rec} (h : gd l k n ty = (c, r)) (hc : c ≠ 0) : r = zr := by
  unfold gd at h
  repeat' (split at h)
  all_goals (simp only [Prod.mk.injEq] at h; first | exact h.2.symm | (exfalso; omega))

/-- Name and time to live put into a record. -/
def wn (r : Rec) (s : ByteArray) (t : Int) : Rec := { r with name := s, ttl := t }
theorem gd_plain {l : List UInt8} {k n ty : Int} {c : Nat} {r : Rec} (h : gd l k n ty = (c, r)) : r.name = ⟨#[]⟩ ∧ r.ttl = 0 := by
  unfold gd at h
  repeat' (split at h)
  all_goals (simp only [Prod.mk.injEq] at h; rw [← h.2]; exact ⟨rfl, rfl⟩)
theorem rok_wn {l : List UInt8} {k n ty : Int} {c : Nat} {r : Rec} (h : gd l k n ty = (c, r)) (hr : rok r = false) (s : ByteArray) (t : Int) : rok (wn r s t) = false := by
  have hp := gd_plain h
  have e : rok r = dko r.ty r.n r.host r.text := by
    rw [rok, hp.1, hp.2]
    rfl
  rw [e] at hr
  show (Nm s && (inn t 0 100000 && dko r.ty r.n r.host r.text)) = false
  rw [hr, Bool.and_false, Bool.and_false]
/-- What GetRecord answers: a code, the offset behind, a record. A def, so that no step of a walk opens it. -/
def gr (l : List UInt8) (k : Int) : Nat × Int × Rec :=
  if (rn l [] k k 0 (-1)).1 ≠ 0 then ((rn l [] k k 0 (-1)).1, 0, zr)
  else if (l.length : Int) - 10 < (rn l [] k k 0 (-1)).2.2.1 then (1, 0, zr)
  else if (gd l ((rn l [] k k 0 (-1)).2.2.1 + 10) (n2 l ((rn l [] k k 0 (-1)).2.2.1 + 8)).1 (n2 l (rn l [] k k 0 (-1)).2.2.1).1).1 ≠ 0 then ((gd l ((rn l [] k k 0 (-1)).2.2.1 + 10) (n2 l ((rn l [] k k 0 (-1)).2.2.1 + 8)).1 (n2 l (rn l [] k k 0 (-1)).2.2.1).1).1, 0, zr)
  else if (n4 l ((rn l [] k k 0 (-1)).2.2.1 + 4)).2 = true ∧ (n2 l ((rn l [] k k 0 (-1)).2.2.1 + 2)).1 = 1 ∧ rok (wn (gd l ((rn l [] k k 0 (-1)).2.2.1 + 10) (n2 l ((rn l [] k k 0 (-1)).2.2.1 + 8)).1 (n2 l (rn l [] k k 0 (-1)).2.2.1).1).2 (Jo (rn l [] k k 0 (-1)).2.1) (n4 l ((rn l [] k k 0 (-1)).2.2.1 + 4)).1) = true
    then (0, (rn l [] k k 0 (-1)).2.2.1 + 10 + (n2 l ((rn l [] k k 0 (-1)).2.2.1 + 8)).1, wn (gd l ((rn l [] k k 0 (-1)).2.2.1 + 10) (n2 l ((rn l [] k k 0 (-1)).2.2.1 + 8)).1 (n2 l (rn l [] k k 0 (-1)).2.2.1).1).2 (Jo (rn l [] k k 0 (-1)).2.1) (n4 l ((rn l [] k k 0 (-1)).2.2.1 + 4)).1)
  else (2, 0, zr)
section
variable {l : List UInt8} {k : Int} {L : List ByteArray} {p : Int} {j c : Nat} {r : Rec}
theorem gr_name (h : rn l [] k k 0 (-1) = (c, L, p, j)) (hc : c ≠ 0) : gr l k = (c, 0, zr) := by
  unfold gr; rw [h, if_pos hc]
theorem gr_short (h : rn l [] k k 0 (-1) = (0, L, p, j)) (hp : (l.length : Int) - 10 < p) : gr l k = (1, 0, zr) := by
  unfold gr; rw [h, if_neg (fun e => e rfl), if_pos hp]
theorem gr_data (h : rn l [] k k 0 (-1) = (0, L, p, j)) (hp : ¬ (l.length : Int) - 10 < p) (hd : gd l (p + 10) (n2 l (p + 8)).1 (n2 l p).1 = (c, r)) (hc : c ≠ 0) : gr l k = (c, 0, zr) := by
  unfold gr; rw [h, if_neg (fun e => e rfl), if_neg hp]; dsimp only; rw [hd, if_pos hc]
theorem gr_good (h : rn l [] k k 0 (-1) = (0, L, p, j)) (hp : ¬ (l.length : Int) - 10 < p) (hd : gd l (p + 10) (n2 l (p + 8)).1 (n2 l p).1 = (0, r))
    (hg : (n4 l (p + 4)).2 = true ∧ (n2 l (p + 2)).1 = 1 ∧ rok (wn r (Jo L) (n4 l (p + 4)).1) = true) : gr l k = (0, p + 10 + (n2 l (p + 8)).1, wn r (Jo L) (n4 l (p + 4)).1) := by
  unfold gr; rw [h, if_neg (fun e => e rfl), if_neg hp]; dsimp only; rw [hd, if_neg (fun e => e rfl), if_pos hg]
theorem gr_form (h : rn l [] k k 0 (-1) = (0, L, p, j)) (hp : ¬ (l.length : Int) - 10 < p) (hd : gd l (p + 10) (n2 l (p + 8)).1 (n2 l p).1 = (0, r))
    (hg : ¬ ((n4 l (p + 4)).2 = true ∧ (n2 l (p + 2)).1 = 1 ∧ rok (wn r (Jo L) (n4 l (p + 4)).1) = true)) : gr l k = (2, 0, zr) := by
  unfold gr; rw [h, if_neg (fun e => e rfl), if_neg hp]; dsimp only; rw [hd, if_neg (fun e => e rfl), if_neg hg]
end
/-- What GetRecords answers, with the records so far: a code, the offset behind, the records. -/
def grs (l : List UInt8) : Nat → Int → List Rec → Nat × Int × List Rec
  | 0, k, L => (0, k, L)
  | n + 1, k, L => if (gr l k).1 ≠ 0 then ((gr l k).1, 0, []) else grs l n (gr l k).2.1 (L ++ [(gr l k).2.2])
end Go.Proofs.YtkfibepejlgniaaGreatDoor.FieldMath
