/- What GetMsg does, parted: on bytes that are a message, and on bytes that are none. -/
import Derived.Test.YtkfibepejlgniaaGreatDoorWireMath
import Derived.Test.YtkfibepejlgniaaGreatDoorPlain
import Derived.Test.YtkfibepejlgniaaGreatDoorPutSpec
import Derived.Test.YtkfibepejlgniaaGreatDoorGet
import Derived.Test.YtkfibepejlgniaaGreatDoorRecOk
import Derived.Deep.RegionHeld3
import Derived.Test.YtkfibepejlgniaaGreatDoorMemM
import Derived.Test.YtkfibepejlgniaaGreatDoorPut
import Derived.Test.YtkfibepejlgniaaGreatDoorMemR
import Derived.Test.YtkfibepejlgniaaGreatDoorOkM
import Derived.Test.YtkfibepejlgniaaGreatDoorResM
import Derived.BigQuiet
import Derived.Test.YtkfibepejlgniaaGreatDoorPutName
import Derived.Test.YtkfibepejlgniaaGreatDoorPacketsP0
import Derived.Test.YtkfibepejlgniaaGreatDoorApp
import Derived.Test.YtkfibepejlgniaaGreatDoorResR
import Derived.Test.YtkfibepejlgniaaGreatDoorNameGet
import Derived.Test.YtkfibepejlgniaaGreatDoorWalkSpec
import Derived.Test.YtkfibepejlgniaaGreatDoorTypes
import Derived.Deep.DeepCutAuto
/- Plain mathematics: the data of a record, a record, and what is read out of bytes as such. Nothing of the program is named here but the seat itself. -/
namespace Go.Proofs.YtkfibepejlgniaaGreatDoor.FieldMath
open Go.Proofs.YtkfibepejlgniaaGreatDoor.Mem Go.Proofs.YtkfibepejlgniaaGreatDoor.MemR Go.Proofs.YtkfibepejlgniaaGreatDoor.JoinSpec Go.Proofs.YtkfibepejlgniaaGreatDoor.Split Go.Proofs.YtkfibepejlgniaaGreatDoor.GetLabel Go.Proofs.YtkfibepejlgniaaGreatDoor.PutLabel Go.Proofs.YtkfibepejlgniaaGreatDoor.NameOk Go.Proofs.YtkfibepejlgniaaGreatDoor.TextR Go.Proofs.YtkfibepejlgniaaGreatDoor.RecOk Go.Proofs.YtkfibepejlgniaaGreatDoor.WireMath Go.Proofs.YtkfibepejlgniaaGreatDoor.Plain Go.Proofs.YtkfibepejlgniaaGreatDoor.PutSpec Go.Proofs.YtkfibepejlgniaaGreatDoor.Put Go.Proofs.YtkfibepejlgniaaGreatDoor.Get

/-- The data of a record of this type. -/
def dta (ty n : Int) (host text : ByteArray) : List UInt8 :=
  if ty = 1 then tail4 n else if ty = 6 then tailP host ++ tail4 n else if ty = 16 then one text.size ++ text.data.toList else tailP host
theorem dta_1 (n : Int) (h t : ByteArray) : dta 1 n h t = tail4 n := rfl
theorem dta_6 (n : Int) (h t : ByteArray) : dta 6 n h t = tailP h ++ tail4 n := rfl
theorem dta_16 (n : Int) (h t : ByteArray) : dta 16 n h t = one t.size ++ t.data.toList := rfl
theorem dta_2 (n : Int) (h t : ByteArray) : dta 2 n h t = tailP h := rfl
theorem dta_5 (n : Int) (h t : ByteArray) : dta 5 n h t = tailP h := rfl
/-- The data of a record, none of an invalid one. A def, so that no step of a walk opens it. -/
def dat (r : Rec) : List UInt8 := if rok r = true then dta r.ty r.n r.host r.text else []
theorem rok_ty {r : Rec} (h : rok r = true) : r.ty = 1 ∨ r.ty = 2 ∨ r.ty = 5 ∨ r.ty = 6 ∨ r.ty = 16 := by
  rw [rok, Bool.and_eq_true, Bool.and_eq_true] at h
  refine Decidable.byContradiction fun hn => ?_
  rw [dko_none _ _ _ (by omega) (by omega) (by omega) (by omega) (by omega)] at h
  exact absurd h.2.2 (by decide)
theorem tail4_len (x : Int) : (tail4 x).length ≤ 4 := by unfold tail4; split <;> simp [quad]
theorem dat_len (r : Rec) : (dat r).length ≤ 83 := by
  unfold dat
  split
  · rename_i h
    have h1 := tail4_len r.n
    have h2 := tailP_len r.host
    rcases rok_ty h with e | e | e | e | e <;> rw [e]
    · rw [dta_1]; omega
    · rw [dta_2]; omega
    · rw [dta_5]; omega
    · rw [dta_6, List.length_append]; omega
    · rw [rok, e, dko_16, Bool.and_eq_true, Bool.and_eq_true, Bool.and_eq_true, txo, Bool.and_eq_true] at h
      have h3 := of_decide_eq_true h.2.2.1.2
      have h4 : r.text.data.toList.length = r.text.size := by simp
      rw [dta_16, List.length_append, one_len]
      omega
  · simp
/-- What PutRecord puts behind the bytes l. A def, so that no step of a walk opens it. -/
def tailR (l : List UInt8) (r : Rec) : List UInt8 :=
  if rok r = true then tailN l r.name ++ tail2 r.ty ++ tail2 1 ++ tail4 r.ttl ++ tail2 ((dat r).length : Int) ++ dat r else []
theorem tail2_len (x : Int) : (tail2 x).length ≤ 2 := by unfold tail2; split <;> simp [two]
theorem tailR_len (l : List UInt8) (r : Rec) : (tailR l r).length ≤ 173 := by
  unfold tailR
  split
  · have h1 := tailN_len l r.name
    have h2 := tail2_len r.ty
    have h3 := tail2_len 1
    have h4 := tail4_len r.ttl
    have h5 := tail2_len ((dat r).length : Int)
    have h6 := dat_len r
    simp only [List.length_append]
    omega
  · simp
/-- What PutRecords puts behind the bytes l. -/
def puts (l : List UInt8) : List Rec → List UInt8
  | [] => l
  | r :: L => puts (l ++ tailR l r) L
theorem puts_step (l : List UInt8) : ∀ (L : List Rec) (k : Nat) (h : k < L.length), puts l (L.take (k + 1)) = puts l (L.take k) ++ tailR (puts l (L.take k)) L[k]
  | r :: L, 0, _ => by simp [puts]
  | r :: L, k + 1, h => by
    rw [List.take_succ_cons, List.take_succ_cons, puts, puts]
    exact puts_step _ L k (by simpa using h)
theorem puts_len : ∀ (L : List Rec) (l : List UInt8), (puts l L).length ≤ l.length + 173 * L.length
  | [], l => by simp [puts]
  | r :: L, l => by
    rw [puts]
    have h1 := puts_len L (l ++ tailR l r)
    have h2 := tailR_len l r
    rw [List.length_append] at h1
    rw [List.length_cons]
    omega

/-- The two bytes at offset k as a number, and whether they are there. -/
def n2 (l : List UInt8) (k : Int) : Int × Bool := if 0 ≤ k ∧ k ≤ (l.length : Int) - 2 then (be ((l.drop k.toNat).take 2), true) else (0, false)
/-- The four bytes at offset k as a number, and whether they are there and not too much. -/
def n4 (l : List UInt8) (k : Int) : Int × Bool :=
  if 0 ≤ k ∧ k ≤ (l.length : Int) - 4 then (if 2147483647 < be ((l.drop k.toNat).take 4) then (0, false) else (be ((l.drop k.toNat).take 4), true)) else (0, false)
theorem n2_in {l : List UInt8} {k : Int} (h0 : 0 ≤ k) (h1 : k ≤ (l.length : Int) - 2) : (n2 l k).2 = true ∧ 0 ≤ (n2 l k).1 ∧ (n2 l k).1 ≤ 65535 := by
  rw [n2, if_pos ⟨h0, h1⟩]
  have h2 : (be ((l.drop k.toNat).take 2)) < 256 ^ (0 + ((l.drop k.toNat).take 2).length) := (be_bounds ((l.drop k.toNat).take 2) 0 0 (by omega) (by decide)).2
  have h3 : ((l.drop k.toNat).take 2).length = 2 := by rw [List.length_take, List.length_drop]; omega
  rw [h3] at h2
  refine ⟨rfl, be_pos _, ?_⟩
  have h4 : (256 : Int) ^ (0 + 2) = 65536 := by decide
  dsimp only
  omega
theorem n4_bounds (l : List UInt8) (k : Int) : 0 ≤ (n4 l k).1 ∧ (n4 l k).1 ≤ 2147483647 := by
  unfold n4
  split
  · split
    · exact ⟨by decide, by decide⟩
    · exact ⟨be_pos _, by dsimp only; omega⟩
  · exact ⟨by decide, by decide⟩
theorem n4_in {l : List UInt8} {k : Int} (h : (n4 l k).2 = true) : 0 ≤ k ∧ k + 4 ≤ (l.length : Int) := by
  unfold n4 at h
  split at h
  · omega
  · cases h
theorem n4_off {l : List UInt8} {k : Int} (h : (n4 l k).2 = false) : (n4 l k).1 = 0 := by
  unfold n4 at h ⊢
  split
  · rename_i h1
    rw [if_pos h1] at h
    split
    · rfl
    · rename_i h2
      rw [if_neg h2] at h
      cases h
  · rfl

/-- The record of data of an address. -/
def rA (n : Int) : Rec := ⟨⟨#[]⟩, 1, 0, n, ⟨#[]⟩, ⟨#[]⟩⟩
def rH (ty : Int) (s : ByteArray) : Rec := ⟨⟨#[]⟩, ty, 0, 0, s, ⟨#[]⟩⟩
def rS (s : ByteArray) (n : Int) : Rec := ⟨⟨#[]⟩, 6, 0, n, s, ⟨#[]⟩⟩
def rT (s : ByteArray) : Rec := ⟨⟨#[]⟩, 16, 0, 0, ⟨#[]⟩, s⟩
/-- What the model's GetData answers: a code and a record. A def, so that no step of a walk opens it. -/
def gd (l : List UInt8) (k n ty : Int) : Nat × Rec :=
  if ¬ (0 ≤ n ∧ n ≤ 255) then (2, zr)
  else if k < 0 ∨ (l.length : Int) - n < k then (1, zr)
  else if ty = 1 then (if (n4 l k).2 = true ∧ n = 4 then (0, rA (n4 l k).1) else (2, zr))
  else if ty = 16 then (if 1 ≤ n ∧ bt l k = n - 1 ∧ txo (piece l k.toNat (n - 1).toNat) = true then (0, rT (piece l k.toNat (n - 1).toNat)) else (2, zr))
  else if ty = 2 ∨ ty = 5 then
    (if (rn l [] k k 0 (-1)).1 ≠ 0 then ((rn l [] k k 0 (-1)).1, zr) else if (rn l [] k k 0 (-1)).2.2.1 = k + n then (0, rH ty (Jo (rn l [] k k 0 (-1)).2.1)) else (2, zr))
  else if ty = 6 then
    (if (rn l [] k k 0 (-1)).1 ≠ 0 then ((rn l [] k k 0 (-1)).1, zr) else if (n4 l (rn l [] k k 0 (-1)).2.2.1).2 = true ∧ (rn l [] k k 0 (-1)).2.2.1 + 4 = k + n then (0, rS (Jo (rn l [] k k 0 (-1)).2.1) (n4 l (rn l [] k k 0 (-1)).2.2.1).1) else (2, zr))
  else (2, zr)
/-- What the program's GetData answers: it asks besides that the record be valid. -/
def fx (X : Nat × Rec) : Nat × Rec := if X.1 = 0 ∧ rok X.2 = false then (2, zr) else X
section
variable {l : List UInt8} {k n ty : Int}
theorem gd_n (h : ¬ (0 ≤ n ∧ n ≤ 255)) : gd l k n ty = (2, zr) := by rw [gd, if_pos h]
theorem gd_out (h : 0 ≤ n ∧ n ≤ 255) (hk : k < 0 ∨ (l.length : Int) - n < k) : gd l k n ty = (1, zr) := by rw [gd, if_neg (fun e => e h), if_pos hk]
theorem gd_1 (h : 0 ≤ n ∧ n ≤ 255) (hk : ¬ (k < 0 ∨ (l.length : Int) - n < k)) : gd l k n 1 = (if (n4 l k).2 = true ∧ n = 4 then (0, rA (n4 l k).1) else (2, zr)) := by
  rw [gd, if_neg (fun e => e h), if_neg hk, if_pos rfl]
theorem gd_16 (h : 0 ≤ n ∧ n ≤ 255) (hk : ¬ (k < 0 ∨ (l.length : Int) - n < k)) : gd l k n 16 = (if 1 ≤ n ∧ bt l k = n - 1 ∧ txo (piece l k.toNat (n - 1).toNat) = true then (0, rT (piece l k.toNat (n - 1).toNat)) else (2, zr)) := by
  rw [gd, if_neg (fun e => e h), if_neg hk, if_neg (by decide), if_pos rfl]
theorem gd_h (h : 0 ≤ n ∧ n ≤ 255) (hk : ¬ (k < 0 ∨ (l.length : Int) - n < k)) (ht : ty = 2 ∨ ty = 5) : gd l k n ty =
    (if (rn l [] k k 0 (-1)).1 ≠ 0 then ((rn l [] k k 0 (-1)).1, zr) else if (rn l [] k k 0 (-1)).2.2.1 = k + n then (0, rH ty (Jo (rn l [] k k 0 (-1)).2.1)) else (2, zr)) := by
  rw [gd, if_neg (fun e => e h), if_neg hk, if_neg (by omega), if_neg (by omega), if_pos ht]
theorem gd_6 (h : 0 ≤ n ∧ n ≤ 255) (hk : ¬ (k < 0 ∨ (l.length : Int) - n < k)) : gd l k n 6 =
    (if (rn l [] k k 0 (-1)).1 ≠ 0 then ((rn l [] k k 0 (-1)).1, zr) else if (n4 l (rn l [] k k 0 (-1)).2.2.1).2 = true ∧ (rn l [] k k 0 (-1)).2.2.1 + 4 = k + n then (0, rS (Jo (rn l [] k k 0 (-1)).2.1) (n4 l (rn l [] k k 0 (-1)).2.2.1).1) else (2, zr)) := by
  rw [gd, if_neg (fun e => e h), if_neg hk, if_neg (by decide), if_neg (by decide), if_neg (by decide), if_pos rfl]
theorem gd_ty (h : 0 ≤ n ∧ n ≤ 255) (hk : ¬ (k < 0 ∨ (l.length : Int) - n < k)) (ht : ¬ (ty = 1 ∨ ty = 2 ∨ ty = 5 ∨ ty = 6 ∨ ty = 16)) : gd l k n ty = (2, zr) := by
  rw [gd, if_neg (fun e => e h), if_neg hk, if_neg (by omega), if_neg (by omega), if_neg (by omega), if_neg (by omega)]
end
theorem fx_bad {c : Nat} {r : Rec} (h : c ≠ 0) : fx (c, r) = (c, r) := if_neg (fun e => h e.1)
theorem fx_ok {r : Rec} (h : rok r = true) : fx (0, r) = (0, r) := if_neg (fun e => by rw [h] at e; exact absurd e.2 (by decide))
theorem fx_not {r : Rec} (h : rok r = false) : fx (0, r) = (2, zr) := if_pos ⟨rfl, h⟩
/-- GetData fails: it gives the record with nothing in it. -/
theorem gd_fail {l : List UInt8} {k n ty : Int} {c : Nat} {r : Rec} (h : gd l k n ty = (c, r)) (hc : c ≠ 0) : r = zr := by
  unfold gd at h
  repeat' (split at h)
  all_goals (simp only [Prod.mk.injEq] at h; first | exact h.2.symm | (exfalso; omega))

/-- Name and time to live put into a record. -/
def wn (r : Rec) (s : ByteArray) (t : Int) : Rec := { r with name := s, ttl := t }
theorem gd_plain {l : List UInt8} {k n ty : Int} {c : Nat} {r : Rec} (h : gd l k n ty = (c, r)) : r.name = ⟨#[]⟩ ∧ r.ttl = 0 := by
  unfold gd at h
  repeat' (split at h)
  all_goals (simp only [Prod.mk.injEq] at h; rw [← h.2]; exact ⟨rfl, rfl⟩)
theorem rok_wn {l : List UInt8} {k n ty : Int} {c : Nat} {r : Rec} (h : gd l k n ty = (c, r)) (hr : rok r = false) (s : ByteArray) (t : Int) : rok (wn r s t) = false := by
  have hp := gd_plain h
  have e : rok r = dko r.ty r.n r.host r.text := by
    rw [rok, hp.1, hp.2]
    rfl
  rw [e] at hr
  show (Nm s && (inn t 0 100000 && dko r.ty r.n r.host r.text)) = false
  rw [hr, Bool.and_false, Bool.and_false]
/-- What GetRecord answers: a code, the offset behind, a record. A def, so that no step of a walk opens it. -/
def gr (l : List UInt8) (k : Int) : Nat × Int × Rec :=
  if (rn l [] k k 0 (-1)).1 ≠ 0 then ((rn l [] k k 0 (-1)).1, 0, zr)
  else if (l.length : Int) - 10 < (rn l [] k k 0 (-1)).2.2.1 then (1, 0, zr)
  else if (gd l ((rn l [] k k 0 (-1)).2.2.1 + 10) (n2 l ((rn l [] k k 0 (-1)).2.2.1 + 8)).1 (n2 l (rn l [] k k 0 (-1)).2.2.1).1).1 ≠ 0 then ((gd l ((rn l [] k k 0 (-1)).2.2.1 + 10) (n2 l ((rn l [] k k 0 (-1)).2.2.1 + 8)).1 (n2 l (rn l [] k k 0 (-1)).2.2.1).1).1, 0, zr)
  else if (n4 l ((rn l [] k k 0 (-1)).2.2.1 + 4)).2 = true ∧ (n2 l ((rn l [] k k 0 (-1)).2.2.1 + 2)).1 = 1 ∧ rok (wn (gd l ((rn l [] k k 0 (-1)).2.2.1 + 10) (n2 l ((rn l [] k k 0 (-1)).2.2.1 + 8)).1 (n2 l (rn l [] k k 0 (-1)).2.2.1).1).2 (Jo (rn l [] k k 0 (-1)).2.1) (n4 l ((rn l [] k k 0 (-1)).2.2.1 + 4)).1) = true
    then (0, (rn l [] k k 0 (-1)).2.2.1 + 10 + (n2 l ((rn l [] k k 0 (-1)).2.2.1 + 8)).1, wn (gd l ((rn l [] k k 0 (-1)).2.2.1 + 10) (n2 l ((rn l [] k k 0 (-1)).2.2.1 + 8)).1 (n2 l (rn l [] k k 0 (-1)).2.2.1).1).2 (Jo (rn l [] k k 0 (-1)).2.1) (n4 l ((rn l [] k k 0 (-1)).2.2.1 + 4)).1)
  else (2, 0, zr)
section
variable {l : List UInt8} {k : Int} {L : List ByteArray} {p : Int} {j c : Nat} {r : Rec}
theorem gr_name (h : rn l [] k k 0 (-1) = (c, L, p, j)) (hc : c ≠ 0) : gr l k = (c, 0, zr) := by
  unfold gr; rw [h, if_pos hc]
theorem gr_short (h : rn l [] k k 0 (-1) = (0, L, p, j)) (hp : (l.length : Int) - 10 < p) : gr l k = (1, 0, zr) := by
  unfold gr; rw [h, if_neg (fun e => e rfl), if_pos hp]
theorem gr_data (h : rn l [] k k 0 (-1) = (0, L, p, j)) (hp : ¬ (l.length : Int) - 10 < p) (hd : gd l (p + 10) (n2 l (p + 8)).1 (n2 l p).1 = (c, r)) (hc : c ≠ 0) : gr l k = (c, 0, zr) := by
  unfold gr; rw [h, if_neg (fun e => e rfl), if_neg hp]; dsimp only; rw [hd, if_pos hc]
theorem gr_good (h : rn l [] k k 0 (-1) = (0, L, p, j)) (hp : ¬ (l.length : Int) - 10 < p) (hd : gd l (p + 10) (n2 l (p + 8)).1 (n2 l p).1 = (0, r))
    (hg : (n4 l (p + 4)).2 = true ∧ (n2 l (p + 2)).1 = 1 ∧ rok (wn r (Jo L) (n4 l (p + 4)).1) = true) : gr l k = (0, p + 10 + (n2 l (p + 8)).1, wn r (Jo L) (n4 l (p + 4)).1) := by
  unfold gr; rw [h, if_neg (fun e => e rfl), if_neg hp]; dsimp only; rw [hd, if_neg (fun e => e rfl), if_pos hg]
theorem gr_form (h : rn l [] k k 0 (-1) = (0, L, p, j)) (hp : ¬ (l.length : Int) - 10 < p) (hd : gd l (p + 10) (n2 l (p + 8)).1 (n2 l p).1 = (0, r))
    (hg : ¬ ((n4 l (p + 4)).2 = true ∧ (n2 l (p + 2)).1 = 1 ∧ rok (wn r (Jo L) (n4 l (p + 4)).1) = true)) : gr l k = (2, 0, zr) := by
  unfold gr; rw [h, if_neg (fun e => e rfl), if_neg hp]; dsimp only; rw [hd, if_neg (fun e => e rfl), if_neg hg]
end
/-- What GetRecords answers, with the records so far: a code, the offset behind, the records. -/
def grs (l : List UInt8) : Nat → Int → List Rec → Nat × Int × List Rec
  | 0, k, L => (0, k, L)
  | n + 1, k, L => if (gr l k).1 ≠ 0 then ((gr l k).1, 0, []) else grs l n (gr l k).2.1 (L ++ [(gr l k).2.2])
end Go.Proofs.YtkfibepejlgniaaGreatDoor.FieldMath

/- What the model's PutData does: a new slice with the data of a valid record, an empty one for an invalid record. Condition: at most 1048576 bytes in each text. -/
namespace Go.Proofs.YtkfibepejlgniaaGreatDoor.DataS
open Go.RowKit Go.Proofs.YtkfibepejlgniaaGreatDoor.Mem Go.Proofs.YtkfibepejlgniaaGreatDoor.MemR Go.Proofs.YtkfibepejlgniaaGreatDoor.App Go.Proofs.YtkfibepejlgniaaGreatDoor.Put Go.Proofs.YtkfibepejlgniaaGreatDoor.PutLabel Go.Proofs.YtkfibepejlgniaaGreatDoor.BoxR Go.Proofs.YtkfibepejlgniaaGreatDoor.RecOk Go.Proofs.YtkfibepejlgniaaGreatDoor.Plain Go.Proofs.YtkfibepejlgniaaGreatDoor.FieldMath

/-- The texts of a record are not long. -/
def Med (r : Rec) : Prop := r.name.size ≤ 1048576 ∧ r.host.size ≤ 1048576 ∧ r.text.size ≤ 1048576
theorem Med.mod {r : Rec} (h : Med r) : Mod r := ⟨Nat.le_trans h.1 (by decide), Nat.le_trans h.2.1 (by decide), Nat.le_trans h.2.2 (by decide)⟩
/-- A new empty slice. -/
theorem gives_nil {w w1 : World} (h : Below w.heap.size w w1) : Gives w [] (.returned (.slice (some ⟨w1.heap.size, 0, none⟩) 0 0)) (w1.alloc (.cells #[] 5)) :=
  ⟨w1.heap.size, 0, 0, [], rfl, rfl, Nat.le_refl _, h.size, heap_alloc_new w1 _, h.alloc h.size _⟩
theorem text_len {r : Rec} (h : rok r = true) (ht : r.ty = 16) : r.text.size ≤ 12 := by
  rw [rok, ht, dko_16, Bool.and_eq_true, Bool.and_eq_true, Bool.and_eq_true, TextR.txo, Bool.and_eq_true] at h
  exact of_decide_eq_true h.2.2.1.2
theorem data_text (s : ByteArray) : (one s.size).map bv ++ s.data.toList.map bv = (one s.size ++ s.data.toList).map bv := by rw [List.map_append]

/-- Nothing of w has been turned. A def, so that no step of a walk opens it. -/
def Sv (w w' : World) : Prop := Below w.heap.size w w'
theorem kept {w w1 w2 : World} {g : Nat} {n : Int} {s : ByteArray} (h : (w1.cell? ⟨g, 3, none⟩ = some (.int .i64 n) ∧ w1.cell? ⟨g, 4, none⟩ = some (.string s)) ∧ Sv w w1) (hl : Below w1.heap.size w1 w2) : (w2.cell? ⟨g, 3, none⟩ = some (.int .i64 n) ∧ w2.cell? ⟨g, 4, none⟩ = some (.string s)) ∧ Sv w w2 := by
  have hg : g < w1.heap.size := World.block_lt_of_cell? _ _ h.1.1
  exact ⟨⟨(hl.cell (p := ⟨g, 3, none⟩) hg).trans h.1.1, (hl.cell (p := ⟨g, 4, none⟩) hg).trans h.1.2⟩, h.2.trans (hl.mono h.2.size)⟩
theorem kept_draw {w w1 : World} {g : Nat} {n : Int} {s : ByteArray} (h : (w1.cell? ⟨g, 3, none⟩ = some (.int .i64 n) ∧ w1.cell? ⟨g, 4, none⟩ = some (.string s)) ∧ Sv w w1) : (w1.drew.cell? ⟨g, 3, none⟩ = some (.int .i64 n) ∧ w1.drew.cell? ⟨g, 4, none⟩ = some (.string s)) ∧ Sv w w1.drew := kept h ((Below.refl _ _).drew)
theorem kept_alloc {w w1 : World} {g : Nat} {n : Int} {s : ByteArray} (h : (w1.cell? ⟨g, 3, none⟩ = some (.int .i64 n) ∧ w1.cell? ⟨g, 4, none⟩ = some (.string s)) ∧ Sv w w1) (o : Obj) : ((w1.alloc o).cell? ⟨g, 3, none⟩ = some (.int .i64 n) ∧ (w1.alloc o).cell? ⟨g, 4, none⟩ = some (.string s)) ∧ Sv w (w1.alloc o) := kept h ((Below.refl _ _).alloc (Nat.le_refl _) _)

set_option maxRecDepth 100000 in
set_option maxHeartbeats 4000000 in
theorem spec (r : Rec) (w : World) (hr : Med r) : Calls Tryz.prog 171 #[.agg #[.string r.name, .int .i64 r.ty, .int .i64 r.ttl, .int .i64 r.n, .string r.host, .string r.text]] w (Gives w (dat r)) := by
  obtain ⟨i0, hi, hz0, hz1, hz2⟩ := info_parts Copy.info
  have RO := Lib.hid (fun w => RecOk.spec r w hr.mod)
  have TL := Lib.hid (fun h t => text_len (r := r) h t)
  have HY := Lib.hid (fun h => rok_ty (r := r) h)
  have HT := Lib.hid (show dat r = if rok r = true then dta r.ty r.n r.host r.text else [] from rfl)
  obtain ⟨name, ty, ttl, n, host, text⟩ := r
  obtain ⟨b1, b2, b3⟩ := hr
  simp only at b1 b2 b3 RO HY HT TL ⊢
  generalize dat ⟨name, ty, ttl, n, host, text⟩ = D at *
  have L0 := Lib.hid ((Below.refl w.heap.size w).alloc (Nat.le_refl _) (.cells #[.string name, .int .i64 ty, .int .i64 ttl, .int .i64 n, .string host, .string text] 117))
  have X0 := Lib.hid (bx_new w 117 ⟨name, ty, ttl, n, host, text⟩)
  cases hb : rok ⟨name, ty, ttl, n, host, text⟩ with
  | false =>
    have HB := Lib.hid hb
    clear hb
    go_enter Tryz.func171, Tryz.ntmps171
    go_wp2_with fail
    refine (RO.out _).mono ?_
    rw [HB.out]
    rintro e w1 ⟨rfl, hl⟩
    have L1 := Lib.hid (L0.out.trans (hl.mono L0.out.size))
    clear hl L0 X0
    go_wp2
    go_ret
    rw [HT.out, HB.out]
    exact gives_nil L1.out
  | true =>
    have HB := Lib.hid hb
    clear hb
    rcases HY.out HB.out with rfl | rfl | rfl | rfl | rfl
    · have HD : Hid (D = [] ++ tail4 n) := by show _ = _; rw [HT.out, if_pos HB.out, dta_1]; rfl
      go_enter Tryz.func171, Tryz.ntmps171
      go_wp2_with fail
      refine (RO.out _).mono ?_
      rw [HB.out]
      rintro e w1 ⟨rfl, hl⟩
      have L1 := Lib.hid (L0.out.trans (hl.mono L0.out.size))
      have X1 := Lib.hid (X0.out.below hl)
      clear hl L0 X0
      obtain ⟨x0, x1, x2, x3, x4, x5⟩ := X1.out
      obtain ⟨y0, y1, y2, y3, y4, y5⟩ := X1.out.alloc (.cells #[] 5)
      go_wp2_with fail
      refine (specPut4 (some ⟨w1.heap.size, 0, none⟩) 0 0 [] n _ Sl.nil (fun h => by cases h) (by omega)).mono ?_
      rintro e w2 hg
      rw [← HD.out] at hg
      obtain ⟨g, m, c1, rr, rfl, hm, hle, hgg, hk, hl⟩ := hg
      have F := Lib.hid (show Gives w D (.returned (.slice (some ⟨g, 0, none⟩) m c1)) w2 from Gives.later ⟨g, m, c1, rr, rfl, hm, hle, hgg, hk, hl⟩ (L1.out.alloc L1.out.size _))
      clear hm hle hgg hk hl
      go_wp2
      go_ret
      exact F.out
    · have HD : Hid (D = [] ++ tailP host) := by show _ = _; rw [HT.out, if_pos HB.out, dta_2]; rfl
      go_enter Tryz.func171, Tryz.ntmps171
      go_wp2_with fail
      refine (RO.out _).mono ?_
      rw [HB.out]
      rintro e w1 ⟨rfl, hl⟩
      have L1 := Lib.hid (L0.out.trans (hl.mono L0.out.size))
      have X1 := Lib.hid (X0.out.below hl)
      clear hl L0 X0
      obtain ⟨x0, x1, x2, x3, x4, x5⟩ := X1.out
      obtain ⟨y0, y1, y2, y3, y4, y5⟩ := X1.out.alloc (.cells #[] 5)
      go_wp2_with fail
      refine (Plain.spec (some ⟨w1.heap.size, 0, none⟩) 0 0 [] host _ Sl.nil (fun h => by cases h) (by omega) (by omega)).mono ?_
      rintro e w2 hgo
      have hg := hgo.gives
      clear hgo
      rw [← HD.out] at hg
      obtain ⟨g, m, c1, rr, rfl, hm, hle, hgg, hk, hl⟩ := hg
      have F := Lib.hid (show Gives w D (.returned (.slice (some ⟨g, 0, none⟩) m c1)) w2 from Gives.later ⟨g, m, c1, rr, rfl, hm, hle, hgg, hk, hl⟩ (L1.out.alloc L1.out.size _))
      clear hm hle hgg hk hl
      go_wp2
      go_ret
      exact F.out
    · have HD : Hid (D = [] ++ tailP host) := by show _ = _; rw [HT.out, if_pos HB.out, dta_5]; rfl
      go_enter Tryz.func171, Tryz.ntmps171
      go_wp2_with fail
      refine (RO.out _).mono ?_
      rw [HB.out]
      rintro e w1 ⟨rfl, hl⟩
      have L1 := Lib.hid (L0.out.trans (hl.mono L0.out.size))
      have X1 := Lib.hid (X0.out.below hl)
      clear hl L0 X0
      obtain ⟨x0, x1, x2, x3, x4, x5⟩ := X1.out
      obtain ⟨y0, y1, y2, y3, y4, y5⟩ := X1.out.alloc (.cells #[] 5)
      go_wp2_with fail
      refine (Plain.spec (some ⟨w1.heap.size, 0, none⟩) 0 0 [] host _ Sl.nil (fun h => by cases h) (by omega) (by omega)).mono ?_
      rintro e w2 hgo
      have hg := hgo.gives
      clear hgo
      rw [← HD.out] at hg
      obtain ⟨g, m, c1, rr, rfl, hm, hle, hgg, hk, hl⟩ := hg
      have F := Lib.hid (show Gives w D (.returned (.slice (some ⟨g, 0, none⟩) m c1)) w2 from Gives.later ⟨g, m, c1, rr, rfl, hm, hle, hgg, hk, hl⟩ (L1.out.alloc L1.out.size _))
      clear hm hle hgg hk hl
      go_wp2
      go_ret
      exact F.out
    · have HD : Hid (D = tailP host ++ tail4 n) := by show _ = _; rw [HT.out, if_pos HB.out, dta_6]
      go_enter Tryz.func171, Tryz.ntmps171
      go_wp2_with fail
      refine (RO.out _).mono ?_
      rw [HB.out]
      rintro e w1 ⟨rfl, hl⟩
      have L1 := Lib.hid (L0.out.trans (hl.mono L0.out.size))
      have X1 := Lib.hid (X0.out.below hl)
      clear hl L0 X0
      obtain ⟨x0, x1, x2, x3, x4, x5⟩ := X1.out
      have S0 : (w1.cell? ⟨w.heap.size, 3, none⟩ = some (.int .i64 n) ∧ w1.cell? ⟨w.heap.size, 4, none⟩ = some (.string host)) ∧ Sv w w1 := ⟨⟨x3, x4⟩, L1.out⟩
      have PP : Hid (∀ (W : World) (g : Nat), Calls Tryz.prog 188 #[.slice (some ⟨g, 0, none⟩) 0 0, .string host] W (Gives W (tailP host))) := fun W g => (Plain.spec (some ⟨g, 0, none⟩) 0 0 [] host W Sl.nil (fun h => by cases h) (by omega) (by omega)).mono fun e w' h => h.gives
      have hlP := tailP_len host
      have Z1 := Lib.hid L1.out.size
      clear L1 X1
      go_wp2
      clear x3 x4
      go_region_held3 (fun w' => (w'.cell? ⟨w.heap.size, 3, none⟩ = some (.int .i64 n) ∧ w'.cell? ⟨w.heap.size, 4, none⟩ = some (.string host)) ∧ Sv w w')
        (first | exact S0 | assumption | exact kept (by assumption) hl | exact kept_alloc (by assumption) _ | exact kept_draw (by assumption) | fail)
        (first
          | (go_at_call 188; refine (PP.out _ _).mono ?_; rintro e w11 ⟨gp, mp, cp, rp, rfl, hm, -, hgp, hbp, hl⟩)
          | (go_at_call 170; refine (specPut4 (some ⟨gp, 0, none⟩) mp cp (tailP host) n w11 (hm ▸ (hbp.sl'.wider hbp.lt)) (fun h => by cases h) (by rw [← hm]; omega)).mono ?_; rintro e w12 ⟨g, m, c1, rr, rfl, hm2, hle, hgg, hk, hl⟩)
          | fail)
      rename_i hH
      have hgw : w.heap.size ≤ g := by
        have h1 := Z1.out
        have h2 := hgp
        have h3 := hbp.lt
        simp at h2
        omega
      have F := Lib.hid (show Gives w D (.returned (.slice (some ⟨g, 0, none⟩) m c1)) w12 from ⟨g, m, c1, rr, rfl, by rw [HD.out]; exact hm2, hle, hgw, by rw [HD.out]; exact hk, hH.2⟩)
      clear hm hbp hm2 hle hgg hk hl hH hgw hgp S0
      go_wp2
      go_ret
      exact F.out
    · have HD : Hid (D = one text.size ++ text.data.toList) := by show _ = _; rw [HT.out, if_pos HB.out, dta_16]
      have ht : text.size ≤ 12 := TL.out HB.out rfl
      have ht1 : (text.size : Int) ≤ 12 := by omega
      go_enter Tryz.func171, Tryz.ntmps171
      go_wp2_with fail
      refine (RO.out _).mono ?_
      rw [HB.out]
      rintro e w1 ⟨rfl, hl⟩
      have L1 := Lib.hid (L0.out.trans (hl.mono L0.out.size))
      have X1 := Lib.hid (X0.out.below hl)
      clear hl L0 X0
      obtain ⟨x0, x1, x2, x3, x4, x5⟩ := X1.out
      obtain ⟨y0, y1, y2, y3, y4, y5⟩ := X1.out.alloc (.cells #[.int .u8 (text.size : Int)] 5)
      have B1 : Hid (Bk (w1.alloc (.cells #[.int .u8 (text.size : Int)] 5)) w1.heap.size 5 ((one text.size).map bv ++ [])) := by
        show Bk _ _ _ _
        unfold Bk
        rw [List.append_nil, ← one_cells text.size (by omega), heap_alloc_new]
      have O1 := Lib.hid (owns_of_bk (base := w.heap.size) (n := 1) (cap := 1) B1.out L1.out.size (one_len _) (by simp [one_len]) (by unfold maxLen; omega))
      go_wp2_with (at_builtin; refine append_str rfl (.tmp 30) (.tmp 32) 22 9 rfl w.heap.size 5 i0 Tryz.underlying22 Tryz.underlying9 hi hz0 hz1 hz2 w1.heap.size 1 1 _ rfl O1.out text rfl ?e1 ?e2 ?e3 ?_)
      case e1 => omega
      case e2 => omega
      case e3 => have := L1.out.size; simp; omega
      intro g3 cap3 w3 hown hgrow
      rw [data_text, ← HD.out] at hown
      have F := Lib.hid (gives_of_owns hown ((L1.out.alloc L1.out.size (.cells #[.int .u8 (text.size : Int)] 5)).grown hgrow (by have := L1.out.size; simp; omega) (fun j hj => by cases hj; exact L1.out.size)))
      clear hown hgrow
      go_wp2
      go_ret
      exact F.out
end Go.Proofs.YtkfibepejlgniaaGreatDoor.DataS

/- Plain facts: the header of a message as bytes. -/
namespace Go.Proofs.YtkfibepejlgniaaGreatDoor.HeadDef
open Go.RowKit Go.Proofs.YtkfibepejlgniaaGreatDoor.Mem Go.Proofs.YtkfibepejlgniaaGreatDoor.MemR Go.Proofs.YtkfibepejlgniaaGreatDoor.MemM Go.Proofs.YtkfibepejlgniaaGreatDoor.App Go.Proofs.YtkfibepejlgniaaGreatDoor.Put

/-- A bit, if it is set. A def, so that no step of a walk parts it. -/
def bi (b : Bool) (n : Int) : Int := if b then n else 0
theorem bi_t (n : Int) : bi true n = n := rfl
theorem bi_f (n : Int) : bi false n = 0 := rfl
theorem bi_lo (b : Bool) (n : Int) (h : 0 ≤ n) : 0 ≤ bi b n ∧ bi b n ≤ n := by cases b <;> simp [bi, h]
/-- The two flag bytes as numbers. -/
def f1 (h : Hd) : Int := bi h.rp 128 + bi h.au 4 + bi h.ct 2 + bi h.wa 1
def f2 (h : Hd) : Int := bi h.ca 128 + h.code % 16
theorem f1_in (h : Hd) : 0 ≤ f1 h ∧ f1 h ≤ 135 := by
  have := bi_lo h.rp 128 (by decide); have := bi_lo h.au 4 (by decide); have := bi_lo h.ct 2 (by decide); have := bi_lo h.wa 1 (by decide)
  unfold f1; omega
theorem f2_in (h : Hd) : 0 ≤ f2 h ∧ f2 h ≤ 143 := by
  have := bi_lo h.ca 128 (by decide)
  unfold f2; omega
theorem and15 (x : Int) : bits .and .i64 x 15 = x % 16 := by
  have h1 : (BitVec.ofInt 64 15).toNat = 15 := by decide
  have h2 : ∀ a : Nat, a &&& 15 = a % 16 := fun a => Nat.and_two_pow_sub_one_eq_mod a 4
  show IntKind.i64.wrap ((BitVec.ofInt 64 x &&& BitVec.ofInt 64 15).toNat : Int) = _
  rw [show ((BitVec.ofInt 64 x &&& BitVec.ofInt 64 15).toNat : Int) = x % 16 from by
    rw [BitVec.toNat_and, h1, h2, BitVec.toNat_ofInt]; omega]
  rw [IntKind.wrap_i64]; omega
theorem or_first (a b c d : Bool) : bits .or .u8 (bits .or .u8 (bits .or .u8 (bi a 128) (bi b 4)) (bi c 2)) (bi d 1) = bi a 128 + bi b 4 + bi c 2 + bi d 1 := by
  cases a <;> cases b <;> cases c <;> cases d <;> decide
theorem or_second (a : Bool) (x : Int) (h0 : 0 ≤ x) (h1 : x < 16) : bits .or .u8 (bi a 128) x = bi a 128 + x := by
  cases a
  · exact bits_join .u8 8 (by decide) wraps_u8 4 0 x (by decide) (by decide) (by decide) h0 h1 (by omega)
  · exact bits_join .u8 8 (by decide) wraps_u8 4 128 x (by decide) (by decide) (by decide) h0 h1 (by omega)
/-- The two flag bytes. -/
def fls (h : Hd) : List UInt8 := [UInt8.ofNat (f1 h).toNat, UInt8.ofNat (f2 h).toNat]
theorem fls_cells (h : Hd) : (fls h).map bv = [.int .u8 (f1 h), .int .u8 (f2 h)] := by
  have a := f1_in h
  have b := f2_in h
  simp only [fls, List.map_cons, List.map_nil]
  rw [bv_of _ a.1 (by omega), bv_of _ b.1 (by omega)]
/-- The header of a message with these numbers of records. -/
def hdl (h : Hd) (a b c : Nat) : List UInt8 := tail2 h.id ++ fls h ++ tail2 1 ++ tail2 (a : Int) ++ tail2 (b : Int) ++ tail2 (c : Int)
theorem t2_len (k : Int) : (tail2 k).length ≤ 2 := by
  unfold tail2
  split
  · exact Nat.le_refl 2
  · exact Nat.zero_le 2
theorem hdl_len (h : Hd) (a b c : Nat) : (hdl h a b c).length ≤ 12 := by
  unfold hdl
  simp only [List.length_append]
  have := t2_len h.id; have := t2_len 1; have := t2_len a; have := t2_len b; have := t2_len c
  have : (fls h).length = 2 := rfl
  omega
end Go.Proofs.YtkfibepejlgniaaGreatDoor.HeadDef

/- What the law's own helpers szRecord and szRecordS do: they return a number that is not negative only where the records and the bytes of their texts are at most the given number together. -/
namespace Go.Proofs.YtkfibepejlgniaaGreatDoor.SzR
open Go.RowKit Go.Proofs.YtkfibepejlgniaaGreatDoor.Mem Go.Proofs.YtkfibepejlgniaaGreatDoor.MemR

/-- A number is returned that is not above x; where it is not negative it is x less z. Nothing that was there is turned. -/
def Sz (x : Int) (z : Nat) (w : World) (e : Ending) (w' : World) : Prop := ∃ y : Int, e = .returned (.int .i64 y) ∧ -1 ≤ y ∧ y ≤ x ∧ (0 ≤ y → y = x - (z : Int)) ∧ Below w.heap.size w w'

set_option maxHeartbeats 1000000 in
theorem szRecord_any (r : Rec) (x : Int) (w : World) (h0 : 0 ≤ x) (h1 : x ≤ 1048576) (hz : r.name.size ≤ 9223372036854775807 ∧ r.host.size ≤ 9223372036854775807 ∧ r.text.size ≤ 9223372036854775807) :
    Calls Tryz.prog 149 #[.agg #[.string r.name, .int .i64 r.ty, .int .i64 r.ttl, .int .i64 r.n, .string r.host, .string r.text], .int .i64 x] w (Sz x (rz r) w) := by
  obtain ⟨hz1, hz2, hz3⟩ := hz
  have HR : Hid (rz r = r.name.size + r.host.size + r.text.size) := rfl
  obtain ⟨name, ty, ttl, n, host, text⟩ := r
  simp only at hz1 hz2 hz3 HR ⊢
  by_cases c1 : x - (name.size : Int) < 0
  · go_enter Tryz.func149, Tryz.ntmps149
    go_wp2
    go_ret
    exact ⟨-1, rfl, by omega, by omega, fun h => by omega, (Below.refl _ _).alloc (Nat.le_refl _) _⟩
  · by_cases c2 : x - (name.size : Int) - (host.size : Int) < 0
    · go_enter Tryz.func149, Tryz.ntmps149
      go_wp2
      go_ret
      exact ⟨-1, rfl, by omega, by omega, fun h => by omega, (Below.refl _ _).alloc (Nat.le_refl _) _⟩
    · by_cases c3 : x - (name.size : Int) - (host.size : Int) - (text.size : Int) < 0
      · go_enter Tryz.func149, Tryz.ntmps149
        go_wp2
        go_ret
        exact ⟨-1, rfl, by omega, by omega, fun h => by omega, (Below.refl _ _).alloc (Nat.le_refl _) _⟩
      · go_enter Tryz.func149, Tryz.ntmps149
        go_wp2
        go_ret
        exact ⟨_, rfl, by omega, by omega, fun h => by rw [HR.out]; omega, (Below.refl _ _).alloc (Nat.le_refl _) _⟩

set_option maxHeartbeats 1000000 in
theorem szRecordS_any (A : Option Addr) (n c : Nat) (l : List Rec) (x : Int) (w : World) (hs : Sr w w.heap.size A n l) (h0 : 0 ≤ x) (h1 : x ≤ 1048576) (hn : n ≤ 9223372036854775807) (hz : ∀ r ∈ l, r.name.size ≤ 9223372036854775807 ∧ r.host.size ≤ 9223372036854775807 ∧ r.text.size ≤ 9223372036854775807) :
    Calls Tryz.prog 102 #[.slice A n c, .int .i64 x] w (Sz x (l.length + tot l) w) := by
  have HS := Lib.hid hs
  have HZ := Lib.hid hz
  clear hz hs
  by_cases hbig : (n : Int) ≤ x
  · go_enter Tryz.func102, Tryz.ntmps102
    go_wp2
    go_loopw [1, 5] (fun r i wr => ∃ (k : Nat) (y : Int), k ≤ n ∧ i = .int .i64 k ∧ r = .int .i64 y ∧ 0 ≤ y ∧ y ≤ x ∧ Hid (y = x - (n : Int) - (tot (l.take k) : Int)) ∧ Hid (Below w.heap.size w wr)) (fun _ i _ => n - (intOf i).toNat)
    case atStart => exact ⟨0, x - (n : Int), Nat.zero_le _, rfl, rfl, by omega, by omega, by show _ = _; simp [tot], Below.refl _ _⟩
    case round =>
      obtain ⟨k, y, hk, rfl, rfl, hy0, hy1, HX, HB⟩ := hrel
      by_cases hlt : k < n
      · obtain ⟨b, off, rfl, hbB, hcs⟩ := HS.out.2 (by omega)
        have hkl : k < l.length := by rw [HS.out.1]; exact hlt
        have HR := Lib.hid (HZ.out l[k] (List.getElem_mem hkl))
        have HT := Lib.hid (tot_step l k hkl)
        obtain ⟨e0, e1, e2, e3, e4, e5⟩ := (hcs k hkl).below HB.out hbB
        clear hcs
        generalize l[k] = r at *
        go_wp2_with fail
        refine (szRecord_any r y wr hy0 (by omega) HR.out).mono ?_
        rintro e w1 ⟨z, rfl, hz0, hz1, hz, hl⟩
        have HY := Lib.hid hz
        have HL := Lib.hid (HB.out.trans (hl.mono HB.out.size))
        clear hz hl e0 e1 e2 e3 e4 e5
        by_cases hneg : z < 0
        · go_wp2
          go_ret
          exact ⟨-1, rfl, by omega, by omega, fun h => by omega, HL.out⟩
        · go_wp2
          go_roundw
          case rel => exact ⟨k + 1, z, by omega, by go_num, rfl, by omega, by omega, by show _ = _; rw [HT.out, HY.out (by omega), HX.out]; omega, HL.out⟩
          case measure => simp [intOf]; omega
      · go_wp2
        go_ret
        refine ⟨y, rfl, by omega, by omega, fun _ => ?_, HB.out⟩
        have h1 := HX.out
        rw [List.take_of_length_le (by rw [HS.out.1]; omega)] at h1
        rw [HS.out.1]
        omega
  · go_enter Tryz.func102, Tryz.ntmps102
    go_wp2
    go_ret
    exact ⟨-1, rfl, by omega, by omega, fun h => by omega, Below.refl _ _⟩

end Go.Proofs.YtkfibepejlgniaaGreatDoor.SzR

/- What the law's own helpers szQuest and szMsg do: they return a number that is not negative only where the records and the bytes of all texts are at most the given number together. -/
namespace Go.Proofs.YtkfibepejlgniaaGreatDoor.SzM
open Go.RowKit Go.Proofs.YtkfibepejlgniaaGreatDoor.Mem Go.Proofs.YtkfibepejlgniaaGreatDoor.MemR Go.Proofs.YtkfibepejlgniaaGreatDoor.BoxR Go.Proofs.YtkfibepejlgniaaGreatDoor.MemM Go.Proofs.YtkfibepejlgniaaGreatDoor.SzR

/-- The bytes of all texts, and the records. -/
def mz (h : Hd) (l1 l2 l3 : List Rec) : Nat := h.qn.size + (l1.length + tot l1) + (l2.length + tot l2) + (l3.length + tot l3)
/-- Records whose texts are no longer than any text. -/
def Sms (l : List Rec) : Prop := ∀ r ∈ l, r.name.size ≤ 9223372036854775807 ∧ r.host.size ≤ 9223372036854775807 ∧ r.text.size ≤ 9223372036854775807

set_option maxHeartbeats 1000000 in
theorem szQuest_any (s : ByteArray) (n x : Int) (w : World) (h0 : 0 ≤ x) (h1 : x ≤ 1048576) (hz : s.size ≤ 9223372036854775807) :
    Calls Tryz.prog 101 #[.agg #[.string s, .int .i64 n], .int .i64 x] w (Sz x s.size w) := by
  by_cases c1 : x - (s.size : Int) < 0
  · go_enter Tryz.func101, Tryz.ntmps101
    go_wp2
    go_ret
    exact ⟨-1, rfl, by omega, by omega, fun h => by omega, (Below.refl _ _).alloc (Nat.le_refl _) _⟩
  · go_enter Tryz.func101, Tryz.ntmps101
    go_wp2
    go_ret
    exact ⟨_, rfl, by omega, by omega, fun h => by omega, (Below.refl _ _).alloc (Nat.le_refl _) _⟩

set_option maxHeartbeats 4000000 in
theorem szMsg_any (h : Hd) (A1 : Option Addr) (n1 c1 : Nat) (l1 : List Rec) (A2 : Option Addr) (n2 c2 : Nat) (l2 : List Rec) (A3 : Option Addr) (n3 c3 : Nat) (l3 : List Rec) (x : Int) (w : World) (h0 : 0 ≤ x) (h1 : x ≤ 1048576) (hq : h.qn.size ≤ 9223372036854775807)
    (s1 : Sr w w.heap.size A1 n1 l1) (m1 : n1 ≤ 9223372036854775807) (z1 : Sms l1) (s2 : Sr w w.heap.size A2 n2 l2) (m2 : n2 ≤ 9223372036854775807) (z2 : Sms l2) (s3 : Sr w w.heap.size A3 n3 l3) (m3 : n3 ≤ 9223372036854775807) (z3 : Sms l3) :
    Calls Tryz.prog 43 #[.agg #[.int .i64 h.id, .bool h.rp, .bool h.au, .bool h.ct, .bool h.wa, .bool h.ca, .int .i64 h.code, .string h.qn, .int .i64 h.qt, .slice A1 n1 c1, .slice A2 n2 c2, .slice A3 n3 c3], .int .i64 x] w (Sz x (mz h l1 l2 l3) w) := by
  have L0 := Lib.hid ((Below.refl w.heap.size w).alloc (Nat.le_refl _) (.cells #[.int .i64 h.id, .bool h.rp, .bool h.au, .bool h.ct, .bool h.wa, .bool h.ca, .int .i64 h.code, .string h.qn, .int .i64 h.qt, .slice A1 n1 c1, .slice A2 n2 c2, .slice A3 n3 c3] 56))
  have X0 := Lib.hid (mx_new w 56 h (.slice A1 n1 c1) (.slice A2 n2 c2) (.slice A3 n3 c3))
  have S0 := Lib.hid (s1.on L0.out)
  have T0 := Lib.hid (s2.on L0.out)
  have U0 := Lib.hid (s3.on L0.out)
  have Z1 := Lib.hid z1
  have Z2 := Lib.hid z2
  have Z3 := Lib.hid z3
  clear s1 s2 s3 z1 z2 z3
  go_enter Tryz.func43, Tryz.ntmps43
  go_wp2_with fail
  refine (szQuest_any h.qn h.qt x _ h0 h1 hq).mono ?_
  rintro e w1 ⟨y1, rfl, a1, b1, e1, hl⟩
  have Y1 := Lib.hid e1
  have L1 := Lib.hid (L0.out.trans (hl.mono L0.out.size))
  have X1 := Lib.hid (X0.out.below hl)
  have S1 := Lib.hid (S0.out.on hl)
  have T1 := Lib.hid (T0.out.on hl)
  have U1 := Lib.hid (U0.out.on hl)
  clear hl L0 X0 S0 T0 U0 e1
  by_cases neg1 : y1 < 0
  · go_wp2
    go_ret
    exact ⟨-1, rfl, by omega, by omega, fun h => by omega, L1.out⟩
  obtain ⟨x0, x1, x2, x3, x4, x5, x6, x7, x8, x9, x10, x11⟩ := X1.out
  go_wp2_with fail
  refine (szRecordS_any A1 n1 c1 l1 y1 w1 S1.out (by omega) (by omega) m1 Z1.out).mono ?_
  rintro e w2 ⟨y2, rfl, a2, b2, e2, hl⟩
  have Y2 := Lib.hid e2
  have L2 := Lib.hid (L1.out.trans (hl.mono L1.out.size))
  have X2 := Lib.hid (X1.out.below hl)
  have T2 := Lib.hid (T1.out.on hl)
  have U2 := Lib.hid (U1.out.on hl)
  clear hl L1 X1 S1 T1 U1 e2 x0 x1 x2 x3 x4 x5 x6 x7 x8 x9 x10 x11
  by_cases neg2 : y2 < 0
  · go_wp2
    go_ret
    exact ⟨-1, rfl, by omega, by omega, fun h => by omega, L2.out⟩
  obtain ⟨x0, x1, x2, x3, x4, x5, x6, x7, x8, x9, x10, x11⟩ := X2.out
  go_wp2_with fail
  refine (szRecordS_any A2 n2 c2 l2 y2 w2 T2.out (by omega) (by omega) m2 Z2.out).mono ?_
  rintro e w3 ⟨y3, rfl, a3, b3, e3, hl⟩
  have Y3 := Lib.hid e3
  have L3 := Lib.hid (L2.out.trans (hl.mono L2.out.size))
  have X3 := Lib.hid (X2.out.below hl)
  have U3 := Lib.hid (U2.out.on hl)
  clear hl L2 X2 T2 U2 e3 x0 x1 x2 x3 x4 x5 x6 x7 x8 x9 x10 x11
  by_cases neg3 : y3 < 0
  · go_wp2
    go_ret
    exact ⟨-1, rfl, by omega, by omega, fun h => by omega, L3.out⟩
  obtain ⟨x0, x1, x2, x3, x4, x5, x6, x7, x8, x9, x10, x11⟩ := X3.out
  go_wp2_with fail
  refine (szRecordS_any A3 n3 c3 l3 y3 w3 U3.out (by omega) (by omega) m3 Z3.out).mono ?_
  rintro e w4 ⟨y4, rfl, a4, b4, e4, hl⟩
  have Y4 := Lib.hid e4
  have L4 := Lib.hid (L3.out.trans (hl.mono L3.out.size))
  clear hl L3 X3 U3 e4 x0 x1 x2 x3 x4 x5 x6 x7 x8 x9 x10 x11
  by_cases neg4 : y4 < 0
  · go_wp2
    go_ret
    exact ⟨-1, rfl, by omega, by omega, fun h => by omega, L4.out⟩
  go_wp2
  go_ret
  refine ⟨y4, rfl, by omega, by omega, fun _ => ?_, L4.out⟩
  have q1 := Y1.out (by omega)
  have q2 := Y2.out (by omega)
  have q3 := Y3.out (by omega)
  have q4 := Y4.out (by omega)
  unfold mz
  push_cast at q1 q2 q3 q4 ⊢
  omega
end Go.Proofs.YtkfibepejlgniaaGreatDoor.SzM

/- Plain facts: the message as bytes. -/
namespace Go.Proofs.YtkfibepejlgniaaGreatDoor.HeadMath
open Go.RowKit Go.Proofs.YtkfibepejlgniaaGreatDoor.Mem Go.Proofs.YtkfibepejlgniaaGreatDoor.MemR Go.Proofs.YtkfibepejlgniaaGreatDoor.MemM Go.Proofs.YtkfibepejlgniaaGreatDoor.App Go.Proofs.YtkfibepejlgniaaGreatDoor.Put Go.Proofs.YtkfibepejlgniaaGreatDoor.PutSpec Go.Proofs.YtkfibepejlgniaaGreatDoor.RecOk Go.Proofs.YtkfibepejlgniaaGreatDoor.FieldMath Go.Proofs.YtkfibepejlgniaaGreatDoor.OkM Go.Proofs.YtkfibepejlgniaaGreatDoor.DataS Go.Proofs.YtkfibepejlgniaaGreatDoor.HeadDef

/-- Records with texts that are not too long. -/
def Meds (l : List Rec) : Prop := ∀ r ∈ l, Med r
theorem Meds.mods {l : List Rec} (h : Meds l) : Mods l := fun r hr => by
  obtain ⟨a, b, c⟩ := h r hr
  exact ⟨by omega, by omega, by omega⟩
/-- The header and the question. -/
def hqs (h : Hd) (a b c : Nat) : List UInt8 := hdl h a b c ++ tailN (hdl h a b c) h.qn ++ tail2 h.qt ++ tail2 1
theorem hqs_len (h : Hd) (a b c : Nat) : (hqs h a b c).length ≤ 96 := by
  unfold hqs
  simp only [List.length_append]
  have := hdl_len h a b c; have := tail2_len h.qt; have := tail2_len 1; have := tailN_len (hdl h a b c) h.qn
  omega
/-- The message as bytes, whatever its size. -/
def pmr (h : Hd) (l1 l2 l3 : List Rec) : List UInt8 := puts (puts (puts (hqs h l1.length l2.length l3.length) l1) l2) l3
/-- What PutMsg answers. -/
def pm (h : Hd) (l1 l2 l3 : List Rec) : List UInt8 := if mok h l1 l2 l3 = true then (if 512 < (pmr h l1 l2 l3).length then [] else pmr h l1 l2 l3) else []
theorem pm_bad {h : Hd} {l1 l2 l3 : List Rec} (e : mok h l1 l2 l3 = false) : pm h l1 l2 l3 = [] := by rw [pm, e]; rfl
theorem pm_long {h : Hd} {l1 l2 l3 : List Rec} (e : mok h l1 l2 l3 = true) (g : 512 < (pmr h l1 l2 l3).length) : pm h l1 l2 l3 = [] := by rw [pm, if_pos e, if_pos g]
theorem pm_good {h : Hd} {l1 l2 l3 : List Rec} (e : mok h l1 l2 l3 = true) (g : ¬ 512 < (pmr h l1 l2 l3).length) : pm h l1 l2 l3 = pmr h l1 l2 l3 := by rw [pm, if_pos e, if_neg g]
theorem pm_len (h : Hd) (l1 l2 l3 : List Rec) : (pm h l1 l2 l3).length ≤ 512 := by
  unfold pm
  split
  · split
    · exact Nat.zero_le _
    · omega
  · exact Nat.zero_le _
theorem mok_parts {h : Hd} {l1 l2 l3 : List Rec} (e : mok h l1 l2 l3 = true) : (0 ≤ h.id ∧ h.id ≤ 65535) ∧ (0 ≤ h.code ∧ h.code ≤ 15) ∧ qok h.qn h.qt = true ∧ rls l1 = true ∧ rls l2 = true ∧ rls l3 = true := by
  unfold mok at e
  simp only [Bool.and_eq_true] at e
  exact ⟨of_decide_eq_true e.1, of_decide_eq_true e.2.1, e.2.2.1, e.2.2.2.1, e.2.2.2.2.1, e.2.2.2.2.2⟩
theorem rls_parts {l : List Rec} (e : rls l = true) : (∀ r ∈ l, rok r = true) ∧ l.length ≤ 8 := by
  unfold rls at e
  simp only [Bool.and_eq_true, List.all_eq_true] at e
  exact ⟨e.1, of_decide_eq_true e.2⟩
theorem meds_of {h : Hd} {l1 l2 l3 : List Rec} (hz : SzM.mz h l1 l2 l3 ≤ 1048576) : Meds l1 ∧ Meds l2 ∧ Meds l3 ∧ h.qn.size ≤ 1048576 := by
  unfold SzM.mz at hz
  have key : ∀ l : List Rec, tot l ≤ 1048576 → Meds l := fun l hl r hr => by
    have := tot_le l r hr
    unfold rz at this
    exact ⟨by omega, by omega, by omega⟩
  exact ⟨key l1 (by omega), key l2 (by omega), key l3 (by omega), by omega⟩
end Go.Proofs.YtkfibepejlgniaaGreatDoor.HeadMath

/- What Put2 does, in the program and in its model, told of a row of one's own: a new slice that holds the old bytes and the number's. -/
namespace Go.Proofs.YtkfibepejlgniaaGreatDoor.PutO
open Go.RowKit Go.Proofs.YtkfibepejlgniaaGreatDoor.Mem Go.Proofs.YtkfibepejlgniaaGreatDoor.App Go.Proofs.YtkfibepejlgniaaGreatDoor.Put

theorem GivesO.later {w0 w w' : World} {l : List UInt8} {e : Ending} (h : GivesO w l e w') (hb : Below w0.heap.size w0 w) : GivesO w0 l e w' := by
  obtain ⟨g, cap, he, ho, hl⟩ := h
  exact ⟨g, cap, he, owns_base ho hb.size, hb.trans (hl.mono hb.size)⟩
theorem appendedO (A A' : Option Addr) (n c n' c' : Nat) (l m : List UInt8) (w : World) (hs : Sl w w.heap.size A n l) (hs' : Sl w w.heap.size A' n' m)
    (hnil : A = none → n = 0 ∧ c = 0) (hnil' : A' = none → n' = 0 ∧ c' = 0) (hn : n ≤ 400000000) (hn' : n' ≤ 400000000) :
    Calls Tryz.prog 88 #[.slice A n c, .slice A' n' c'] w (GivesO w (l ++ m)) := by
  refine (appended_any A A' n c n' c' l m w hs hs' hnil hnil' hn hn').mono fun e w' ⟨he, hb, hl⟩ => ?_
  have h1 := hs.1
  have h2 := hs'.1
  rw [he]
  exact givesO_of (owns_of_bk (r := []) (by rw [List.append_nil]; exact hb) (Nat.le_refl _) (by rw [List.length_append, h1, h2]) (by rw [List.append_nil, List.length_map, List.length_append, h1, h2]) (by unfold maxLen; omega)) hl

set_option maxHeartbeats 1000000 in
theorem implPut2O (A : Option Addr) (n c : Nat) (l : List UInt8) (k : Int) (w : World) (hs : Sl w w.heap.size A n l) (hnil : A = none → n = 0 ∧ c = 0) (hn : n ≤ 400000000) :
    Calls Tryz.prog 83 #[.slice A n c, .int .i64 k] w (GivesO w (l ++ tail2 k)) := by
  have HS := Lib.hid hs
  have HN := Lib.hid hnil
  clear hs hnil
  by_cases hk : 0 ≤ k ∧ k ≤ 65535
  · have HT : Hid (tail2 k = two k) := if_pos hk
    obtain ⟨h0, h1⟩ := hk
    go_enter Tryz.func83, Tryz.ntmps83
    go_wp2_with fail
    refine (appendedO A _ n c 2 2 l (two k) _ (sl_alloc HS.out _) (sl_new _ _ (two k) (two_cells k h0 h1).symm) HN.out (fun h => by cases h) hn (by omega)).mono ?_
    rintro e w1 ⟨g, c1, rfl, ho, hl⟩
    generalize (l ++ two k).length = m at *
    have HO := Lib.hid ho
    have HL := Lib.hid hl
    clear ho hl
    go_wp2
    go_ret
    rw [HT.out]
    exact GivesO.later (w := w.alloc _) (givesO_of HO.out HL.out) ((Below.refl _ _).alloc (Nat.le_refl _) _)
  · have HT : Hid (tail2 k = []) := if_neg hk
    rcases (show k < 0 ∨ (¬ k < 0 ∧ 65535 < k) by omega) with hk | ⟨h0, hk⟩
    all_goals
      go_enter Tryz.func83, Tryz.ntmps83
      go_wp2_with fail
      refine (appendedO A none n c 0 0 l [] w HS.out Sl.nil HN.out (fun _ => ⟨rfl, rfl⟩) hn (by omega)).mono ?_
      rintro e w1 ⟨g, c1, rfl, ho, hl⟩
      generalize (l ++ []).length = m at *
      have HO := Lib.hid ho
      have HL := Lib.hid hl
      clear ho hl
      go_wp2
      go_ret
      rw [HT.out]
      exact givesO_of HO.out HL.out

set_option maxHeartbeats 1000000 in
theorem specPut2O (A : Option Addr) (n c : Nat) (l : List UInt8) (k : Int) (w : World) (hs : Sl w w.heap.size A n l) (hnil : A = none → n = 0 ∧ c = 0) (hn : n ≤ 400000000) :
    Calls Tryz.prog 85 #[.slice A n c, .int .i64 k] w (GivesO w (l ++ tail2 k)) := by
  obtain ⟨i0, hi, hz0, hz1, hz2⟩ := info_parts Copy.info
  have HS := Lib.hid hs
  have HN := Lib.hid hnil
  clear hs hnil
  have HT : Hid (tail2 k = if 0 ≤ k ∧ k ≤ 65535 then two k else []) := rfl
  go_enter Tryz.func85, Tryz.ntmps85
  go_wp2_with (at_builtin; refine append_src rfl (.tmp 6) (.tmp 7) 22 rfl w.heap.size 5 i0 (.int .u8 0) Tryz.underlying22 hi hz0 hz1 hz2 rfl w.heap.size 0 0 [] rfl (owns_new w) A n c _ l rfl (sl_alloc HS.out _) HN.out ?c1 ?c2 ?c3 ?_)
  case c1 => omega
  case c2 => omega
  case c3 => simp
  intro g1 cap1 w1 hown hgrow
  have O1 := Lib.hid hown
  have L1 := Lib.hid ((((Below.refl w.heap.size w).alloc (Nat.le_refl _) (.cells #[] 5))).grown hgrow (by simp) (fun j hj => by cases hj; exact Nat.le_refl _))
  clear hown hgrow
  by_cases hk : 0 ≤ k ∧ k ≤ 65535
  · obtain ⟨h0, h1⟩ := hk
    go_wp2_with fail
    refine (l1In_yes k 0 65535 w1 h0 h1).mono ?_
    rintro e w2 ⟨rfl, rfl⟩
    have hand := and255 k h0 (by omega)
    go_wp2_with (at_builtin; refine append_src rfl (.tmp 13) (.tmp 20) 22 rfl w.heap.size 5 i0 (.int .u8 0) Tryz.underlying22 hi hz0 hz1 hz2 rfl g1 n cap1 (l.map bv) rfl (O1.out.alloc _) _ 2 2 _ (two k) rfl (sl_new w1 _ (two k) (two_cells k h0 h1).symm) (fun h => by cases h) ?d1 ?d2 ?d3 ?_)
    case d1 => omega
    case d2 => omega
    case d3 => have := L1.out.size; simp; omega
    intro g2 cap2 w2 hown hgrow
    rw [← List.map_append] at hown
    have O2 := Lib.hid hown
    have L2 := Lib.hid ((L1.out.alloc L1.out.size _).grown hgrow (by have := L1.out.size; simp; omega) (fun j hj => by cases hj; exact (O1.out.lt g1 rfl).1))
    clear hown hgrow hand
    go_wp2
    go_ret
    rw [HT.out, if_pos ⟨h0, h1⟩]
    exact givesO_of O2.out L2.out
  · go_wp2_with fail
    refine (l1In_no k 0 65535 w1 hk).mono ?_
    rintro e w2 ⟨rfl, rfl⟩
    have H := Lib.hid hk
    clear hk
    go_wp2
    go_ret
    rw [HT.out, if_neg H.out, List.append_nil]
    exact givesO_of O1.out L1.out
end Go.Proofs.YtkfibepejlgniaaGreatDoor.PutO

/- What PutHead does in the program and in the model: a new slice with the header's bytes. -/
namespace Go.Proofs.YtkfibepejlgniaaGreatDoor.HeadS
open Go.RowKit Go.Proofs.YtkfibepejlgniaaGreatDoor.Mem Go.Proofs.YtkfibepejlgniaaGreatDoor.MemR Go.Proofs.YtkfibepejlgniaaGreatDoor.MemM Go.Proofs.YtkfibepejlgniaaGreatDoor.App Go.Proofs.YtkfibepejlgniaaGreatDoor.Put Go.Proofs.YtkfibepejlgniaaGreatDoor.PutO Go.Proofs.YtkfibepejlgniaaGreatDoor.HeadDef

section
variable {w0 w w' : World} {g base n cap : Nat} {h : Hd} {x y z : Value} {l : List UInt8}
theorem kept1 (m : Mx w g h x y z ∧ Sv w0 w) (hl : Below w.heap.size w w') : Mx w' g h x y z ∧ Sv w0 w' := ⟨m.1.below hl, m.2.trans (hl.mono m.2.size)⟩
theorem kept1_draw (m : Mx w g h x y z ∧ Sv w0 w) : Mx w.drew g h x y z ∧ Sv w0 w.drew := kept1 m ((Below.refl _ _).drew)
theorem svt (h : Sv w0 w) (hl : Below w.heap.size w w') : Sv w0 w' := h.trans (hl.mono h.size)
theorem sv_size (h : Sv w0 w) : w0.heap.size ≤ w.heap.size := Below.size h
theorem ownB_below (h : w.ownsRow base 5 1 (.slice (some ⟨g, 0, none⟩) n cap) n (l.map bv)) (hb : Below w.heap.size w w') : w'.ownsRow base 5 1 (.slice (some ⟨g, 0, none⟩) n cap) n (l.map bv) :=
  h.kept (row := none) ⟨hb.os, hb.tape, hb.output, hb.size, fun k hk _ => hb.block k hk⟩ (Or.inr (by simp [Value.ownBlock]))
theorem ownB_sl (h : w.ownsRow base 5 1 (.slice (some ⟨g, 0, none⟩) n cap) n (l.map bv)) : Sl w w.heap.size (some ⟨g, 0, none⟩) n l ∧ n ≤ cap ∧ base ≤ g ∧ l.length = n := by
  have hl : l.length = n := by have := h.1; simpa using this
  obtain ⟨r, hb, hr, hg⟩ := bk_of_owns h
  exact ⟨hl ▸ (hb.sl'.wider hb.lt), by rw [← hr, List.length_append, List.length_map, hl]; omega, hg, hl⟩
end

/-- append of bytes as one step of a region that draws. -/
theorem step_append_bytes {ops : Array Oper} {o : Oper} {a : Act} {w : World} {K : Act → World → Prop} {Q : Exit → Act → World → Prop} {E : Prop} (hgd : o.guard = none) (s x : Operand)
    (ho : o.op = .call { callee := .builtin .append, args := #[s, x], argTypes := #[22, 22] })
    (base g n cap : Nat) (L : List UInt8) (hs : a.eval s = .slice (some ⟨g, 0, none⟩) n cap) (hown : w.ownsRow base 5 1 (.slice (some ⟨g, 0, none⟩) n cap) n (L.map bv))
    (b off m c B : Nat) (l : List UInt8) (hx : a.eval x = .slice (some ⟨b, off, none⟩) m c) (hl : Sl w B (some ⟨b, off, none⟩) m l)
    (hn : n ≤ 800000000) (hm : m ≤ 800000000) (hm0 : 0 < m) (hbase : base ≤ w.heap.size)
    (h : ∀ g' cap' w', w'.ownsRow base 5 1 (.slice (some ⟨g', 0, none⟩) (n + m) cap') (n + m) ((L ++ l).map bv) → w.grownBy w' (some g) → K (a.put o.dst (.slice (some ⟨g', 0, none⟩) (n + m) cap')) w') :
    if Region.wanted o (yielded ops a.tmps) = true then Oper.wp Tryz.prog o a w K Q else E := by
  have hw : Region.wanted o (yielded ops a.tmps) = true := by simp [Region.wanted, hgd]
  rw [if_pos hw]
  obtain ⟨i0, hi, hz0, hz1, hz2⟩ := info_parts Copy.info
  exact wp_append_own w s x 22 ho base 5 i0 _ 1 1 Tryz.underlying22 hi hz0 hz1 hz2 rfl (by decide) _ n (L.map bv) hs hown ⟨b, off, none⟩ m c (l.map bv) hx (by simp [hl.1]) (cells_of hl _ rfl) (oneCells l) (by unfold maxLen; omega) (by omega) hbase
    (fun v' w' h1 h2 h3 => by
      rcases h1.2 with ⟨hv, _⟩ | ⟨g', cap', cur, hv, _⟩
      · have := (h3.1 hv).2
        omega
      · subst hv
        exact h g' cap' w' (by rw [List.map_append]; exact h1) h2)

theorem flagS (b : Bool) (n : Int) (w : World) : Calls Tryz.prog 90 #[.bool b, .int .i64 n] w fun e w' => e = .returned (.int .i64 (bi b n)) ∧ w = w' := by
  cases b
  all_goals
    go_enter Tryz.func90, Tryz.ntmps90
    go_wp2
    go_ret
    exact ⟨rfl, rfl⟩

theorem bitI (b : Bool) (n : Int) (w : World) : Calls Tryz.prog 141 #[.bool b, .int .u8 n] w fun e w' => e = .returned (.int .u8 (bi b n)) ∧ w = w' := by
  cases b
  all_goals
    go_enter Tryz.func141, Tryz.ntmps141
    go_wp2
    go_ret
    exact ⟨rfl, rfl⟩

set_option maxRecDepth 100000 in
set_option maxHeartbeats 4000000 in
theorem flagBytes (h : Hd) (A1 A2 A3 : Option Addr) (n1 c1 n2 c2 n3 c3 : Nat) (w : World) : Calls Tryz.prog 89 #[.agg #[.int .i64 h.id, .bool h.rp, .bool h.au, .bool h.ct, .bool h.wa, .bool h.ca, .int .i64 h.code, .string h.qn, .int .i64 h.qt, .slice A1 n1 c1, .slice A2 n2 c2, .slice A3 n3 c3]] w fun e w' => ∃ g, e = .returned (.slice (some ⟨g, 0, none⟩) 2 2) ∧ Bk w' g 5 ((fls h).map bv) ∧ Below w.heap.size w w' := by
  have X0 := mx_new w 28 h (.slice A1 n1 c1) (.slice A2 n2 c2) (.slice A3 n3 c3)
  have S0 : (Mx (w.alloc (.cells #[.int .i64 h.id, .bool h.rp, .bool h.au, .bool h.ct, .bool h.wa, .bool h.ca, .int .i64 h.code, .string h.qn, .int .i64 h.qt, .slice A1 n1 c1, .slice A2 n2 c2, .slice A3 n3 c3] 28)) w.heap.size h (.slice A1 n1 c1) (.slice A2 n2 c2) (.slice A3 n3 c3) ∧ Sv w (w.alloc (.cells #[.int .i64 h.id, .bool h.rp, .bool h.au, .bool h.ct, .bool h.wa, .bool h.ca, .int .i64 h.code, .string h.qn, .int .i64 h.qt, .slice A1 n1 c1, .slice A2 n2 c2, .slice A3 n3 c3] 28))) := ⟨X0, (Below.refl w.heap.size w).alloc (Nat.le_refl _) _⟩
  have hf := fls_cells h
  have o1 : bits .or .u8 (bits .or .u8 (bits .or .u8 (bi h.rp 128) (bi h.au 4)) (bi h.ct 2)) (bi h.wa 1) = f1 h := or_first h.rp h.au h.ct h.wa
  have o2 : bits .or .u8 (bi h.ca 128) (IntKind.u8.wrap (bits .and .i64 h.code 15)) = f2 h := by
    rw [and15, IntKind.wrap_u8, show h.code % 16 % 256 = h.code % 16 by omega]
    exact or_second h.ca _ (by omega) (by omega)
  have HF := Lib.hid hf
  have O1 := Lib.hid o1
  have O2 := Lib.hid o2
  clear hf X0 o1 o2
  go_enter Tryz.func89, Tryz.ntmps89
  go_wp2
  go_region_held3 (fun w' => ((w'.cell? ⟨w.heap.size, 0, none⟩ = some (.int .i64 h.id) ∧ w'.cell? ⟨w.heap.size, 1, none⟩ = some (.bool h.rp) ∧ w'.cell? ⟨w.heap.size, 2, none⟩ = some (.bool h.au) ∧ w'.cell? ⟨w.heap.size, 3, none⟩ = some (.bool h.ct) ∧ w'.cell? ⟨w.heap.size, 4, none⟩ = some (.bool h.wa) ∧ w'.cell? ⟨w.heap.size, 5, none⟩ = some (.bool h.ca) ∧ w'.cell? ⟨w.heap.size, 6, none⟩ = some (.int .i64 h.code) ∧ w'.cell? ⟨w.heap.size, 7, none⟩ = some (.string h.qn) ∧ w'.cell? ⟨w.heap.size, 8, none⟩ = some (.int .i64 h.qt) ∧ w'.cell? ⟨w.heap.size, 9, none⟩ = some (.slice A1 n1 c1) ∧ w'.cell? ⟨w.heap.size, 10, none⟩ = some (.slice A2 n2 c2) ∧ w'.cell? ⟨w.heap.size, 11, none⟩ = some (.slice A3 n3 c3)) ∧ Sv w w'))
    (first | exact S0 | with_reducible assumption | exact kept1_draw (by assumption) | fail)
    (first
      | (go_at_call 141; (with_reducible refine (bitI _ _ _).mono ?_); rintro e w' ⟨rfl, rfl⟩)
      | fail)
  rename_i hH
  clear S0
  rw [O1.out]
  go_wp2
  go_region_held3 (fun w' => ((w'.cell? ⟨w.heap.size, 0, none⟩ = some (.int .i64 h.id) ∧ w'.cell? ⟨w.heap.size, 1, none⟩ = some (.bool h.rp) ∧ w'.cell? ⟨w.heap.size, 2, none⟩ = some (.bool h.au) ∧ w'.cell? ⟨w.heap.size, 3, none⟩ = some (.bool h.ct) ∧ w'.cell? ⟨w.heap.size, 4, none⟩ = some (.bool h.wa) ∧ w'.cell? ⟨w.heap.size, 5, none⟩ = some (.bool h.ca) ∧ w'.cell? ⟨w.heap.size, 6, none⟩ = some (.int .i64 h.code) ∧ w'.cell? ⟨w.heap.size, 7, none⟩ = some (.string h.qn) ∧ w'.cell? ⟨w.heap.size, 8, none⟩ = some (.int .i64 h.qt) ∧ w'.cell? ⟨w.heap.size, 9, none⟩ = some (.slice A1 n1 c1) ∧ w'.cell? ⟨w.heap.size, 10, none⟩ = some (.slice A2 n2 c2) ∧ w'.cell? ⟨w.heap.size, 11, none⟩ = some (.slice A3 n3 c3)) ∧ Sv w w'))
    (first | with_reducible assumption | exact hH | exact kept1_draw (by assumption) | fail)
    (first
      | (go_at_call 141; (with_reducible refine (bitI _ _ _).mono ?_); rintro e w' ⟨rfl, rfl⟩)
      | fail)
  rename_i hH2
  rw [O2.out]
  go_wp2
  go_ret
  have hk : Bk ((w.alloc (.cells #[.int .i64 h.id, .bool h.rp, .bool h.au, .bool h.ct, .bool h.wa, .bool h.ca, .int .i64 h.code, .string h.qn, .int .i64 h.qt, .slice A1 n1 c1, .slice A2 n2 c2, .slice A3 n3 c3] 28)).alloc (.cells #[.int .u8 (f1 h), .int .u8 (f2 h)] 5)) (w.heap.size + 1) 5 ((fls h).map bv) := by rw [HF.out]; exact ResM.at2
  exact ⟨_, rfl, hk, (((Below.refl w.heap.size w).alloc (Nat.le_refl _) _).alloc (by simp) _).drew.drew⟩

/-- What Put2 does with a row of one's own. -/
def P2 (base : Nat) (L : List UInt8) (m : Nat) (k : Int) (W : World) (e : Ending) (w' : World) : Prop :=
  ∃ g' m' cap', e = .returned (.slice (some ⟨g', 0, none⟩) m' cap') ∧ w'.ownsRow base 5 1 (.slice (some ⟨g', 0, none⟩) m' cap') m' ((L ++ tail2 k).map bv) ∧ m' ≤ m + 2 ∧ Below W.heap.size W w'
theorem p2_of {base : Nat} {L : List UInt8} {m : Nat} {k : Int} {W w' : World} {e : Ending} (h : GivesO W (L ++ tail2 k) e w') (hl : L.length = m) (hb : base ≤ W.heap.size) : P2 base L m k W e w' := by
  obtain ⟨g, cap, he, ho, hl'⟩ := h
  exact ⟨g, _, cap, he, owns_base ho hb, by rw [List.length_append, hl]; have := t2_len k; omega, hl'⟩

set_option maxRecDepth 100000 in
set_option maxHeartbeats 8000000 in
theorem spec (h : Hd) (A1 A2 A3 : Option Addr) (n1 c1 n2 c2 n3 c3 : Nat) (w : World) : Calls Tryz.prog 33 #[.agg #[.int .i64 h.id, .bool h.rp, .bool h.au, .bool h.ct, .bool h.wa, .bool h.ca, .int .i64 h.code, .string h.qn, .int .i64 h.qt, .slice A1 n1 c1, .slice A2 n2 c2, .slice A3 n3 c3]] w (Gives w (hdl h n1 n2 n3)) := by
  have X0 := Lib.hid ((mx_new w 28 h (.slice A1 n1 c1) (.slice A2 n2 c2) (.slice A3 n3 c3)).alloc (.cells #[] 5))
  have L0 := Lib.hid (((Below.refl w.heap.size w).alloc (Nat.le_refl _) (.cells #[.int .i64 h.id, .bool h.rp, .bool h.au, .bool h.ct, .bool h.wa, .bool h.ca, .int .i64 h.code, .string h.qn, .int .i64 h.qt, .slice A1 n1 c1, .slice A2 n2 c2, .slice A3 n3 c3] 28)).alloc (by simp) (.cells #[] 5))
  have PT : Hid (∀ (W : World) (g m cap : Nat) (L : List UInt8) (k : Int), Sv w W → W.ownsRow w.heap.size 5 1 (.slice (some ⟨g, 0, none⟩) m cap) m (L.map bv) → m ≤ 400000000 → Calls Tryz.prog 85 #[.slice (some ⟨g, 0, none⟩) m cap, .int .i64 k] W (P2 w.heap.size L m k W)) := fun W g m cap L k hW ho hm =>
    (specPut2O _ m cap L k W (ownB_sl ho).1 (fun h => by cases h) hm).mono fun e w' hg => p2_of hg (ownB_sl ho).2.2.2 hW.size
  have HF := Lib.hid (fls_cells h)
  have HH : Hid (hdl h n1 n2 n3 = tail2 h.id ++ fls h ++ tail2 1 ++ tail2 (n1 : Int) ++ tail2 (n2 : Int) ++ tail2 (n3 : Int)) := rfl
  have i1 := f1_in h
  have i2 := f2_in h
  have F1 : Hid (f1 h = bi h.rp 128 + bi h.au 4 + bi h.ct 2 + bi h.wa 1) := rfl
  have F2 : Hid (f2 h = bi h.ca 128 + h.code % 16) := rfl
  have j1 := bi_lo h.rp 128 (by decide)
  have j2 := bi_lo h.au 4 (by decide)
  have j3 := bi_lo h.ct 2 (by decide)
  have j4 := bi_lo h.wa 1 (by decide)
  have j5 := bi_lo h.ca 128 (by decide)
  have E1 : Hid (IntKind.i64.wrap (bi h.rp 128 + bi h.au 4) = bi h.rp 128 + bi h.au 4) := by show _ = _; rw [IntKind.wrap_i64]; omega
  have E2 : Hid (IntKind.i64.wrap (bi h.rp 128 + bi h.au 4 + bi h.ct 2) = bi h.rp 128 + bi h.au 4 + bi h.ct 2) := by show _ = _; rw [IntKind.wrap_i64]; omega
  have E3 : Hid (IntKind.i64.wrap (bi h.rp 128 + bi h.au 4 + bi h.ct 2 + bi h.wa 1) = f1 h) := by show _ = _; rw [IntKind.wrap_i64, F1.out]; omega
  have E4 : Hid (IntKind.u8.wrap (f1 h) = f1 h) := by show _ = _; rw [IntKind.wrap_u8]; omega
  have E5 : Hid (bits .and .i64 h.code 15 = h.code % 16) := and15 h.code
  have E6 : Hid (IntKind.i64.wrap (bi h.ca 128 + h.code % 16) = f2 h) := by show _ = _; rw [IntKind.wrap_i64, F2.out]; omega
  have E7 : Hid (IntKind.u8.wrap (f2 h) = f2 h) := by show _ = _; rw [IntKind.wrap_u8]; omega
  clear i1 i2 j1 j2 j3 j4 j5
  go_enter Tryz.func33, Tryz.ntmps33
  obtain ⟨x0, x1, x2, x3, x4, x5, x6, x7, x8, x9, x10, x11⟩ := X0.out
  go_wp2_with fail
  refine (specPut2O _ 0 0 [] h.id _ Sl.nil (fun h => by cases h) (by omega)).mono ?_
  rintro e w1 ⟨g1, cap1, rfl, ho, hl⟩
  have hz : (([] : List UInt8) ++ tail2 h.id).length ≤ 2 := by rw [List.nil_append]; exact t2_len _
  rw [List.nil_append] at ho hz ⊢
  have NB : Hid (w.heap.size < g1) := Nat.lt_of_lt_of_le (by simp; omega) (ownB_sl ho).2.2.1
  have O1 := Lib.hid (owns_base ho L0.out.size)
  have X1 := Lib.hid (X0.out.below hl)
  have L1 := Lib.hid (L0.out.trans (hl.mono L0.out.size))
  clear ho hl L0 X0 x0 x1 x2 x3 x4 x5 x6 x7 x8 x9 x10 x11
  obtain ⟨m1, hm1⟩ : ∃ m1, m1 = (tail2 h.id).length := ⟨_, rfl⟩
  rw [← hm1] at O1 hz ⊢
  clear hm1
  have S0 : ((w1.cell? ⟨w.heap.size, 0, none⟩ = some (.int .i64 h.id) ∧ w1.cell? ⟨w.heap.size, 1, none⟩ = some (.bool h.rp) ∧ w1.cell? ⟨w.heap.size, 2, none⟩ = some (.bool h.au) ∧ w1.cell? ⟨w.heap.size, 3, none⟩ = some (.bool h.ct) ∧ w1.cell? ⟨w.heap.size, 4, none⟩ = some (.bool h.wa) ∧ w1.cell? ⟨w.heap.size, 5, none⟩ = some (.bool h.ca) ∧ w1.cell? ⟨w.heap.size, 6, none⟩ = some (.int .i64 h.code) ∧ w1.cell? ⟨w.heap.size, 7, none⟩ = some (.string h.qn) ∧ w1.cell? ⟨w.heap.size, 8, none⟩ = some (.int .i64 h.qt) ∧ w1.cell? ⟨w.heap.size, 9, none⟩ = some (.slice A1 n1 c1) ∧ w1.cell? ⟨w.heap.size, 10, none⟩ = some (.slice A2 n2 c2) ∧ w1.cell? ⟨w.heap.size, 11, none⟩ = some (.slice A3 n3 c3)) ∧ Sv w w1) := ⟨X1.out, L1.out⟩
  have OA : Hid ((w1.alloc (.cells #[.int .u8 (f1 h), .int .u8 (f2 h)] 5)).drew.ownsRow w.heap.size 5 1 (.slice (some ⟨g1, 0, none⟩) m1 cap1) m1 ((tail2 h.id).map bv)) := O1.out.alloc _
  have SA : Hid (Sl (w1.alloc (.cells #[.int .u8 (f1 h), .int .u8 (f2 h)] 5)).drew (w1.alloc (.cells #[.int .u8 (f1 h), .int .u8 (f2 h)] 5)).heap.size (some ⟨w1.heap.size, 0, none⟩) 2 (fls h)) := sl_new w1 _ (fls h) HF.out.symm
  have BA : Hid (w.heap.size ≤ (w1.alloc (.cells #[.int .u8 (f1 h), .int .u8 (f2 h)] 5)).drew.heap.size) := Nat.le_trans L1.out.size (by simp [World.drew])
  have XA : Hid (∀ w2 : World, (w1.alloc (.cells #[.int .u8 (f1 h), .int .u8 (f2 h)] 5)).drew.grownBy w2 (some g1) → Mx w2 w.heap.size h (.slice A1 n1 c1) (.slice A2 n2 c2) (.slice A3 n3 c3) ∧ Sv w w2) := fun w2 hgrow => ⟨(show Mx (w1.alloc (.cells #[.int .u8 (f1 h), .int .u8 (f2 h)] 5)).drew w.heap.size h (.slice A1 n1 c1) (.slice A2 n2 c2) (.slice A3 n3 c3) from (X1.out.alloc _)).grown hgrow (fun e => by have := Option.some.inj e; have := NB.out; omega), (show Below w.heap.size w (w1.alloc (.cells #[.int .u8 (f1 h), .int .u8 (f2 h)] 5)).drew from (L1.out.alloc L1.out.size _).drew).grown hgrow BA.out (fun j hj => by cases hj; have := NB.out; omega)⟩
  have hz8 : m1 ≤ 800000000 := by omega
  have h28 : 2 ≤ 800000000 := by omega
  have h02 : 0 < 2 := by omega
  have e1 := E1.out
  have e2 := E2.out
  have e3 := E3.out
  have e4 := E4.out
  have e5 := E5.out
  have e6 := E6.out
  have e7 := E7.out
  go_wp2
  go_region_held3 (fun w' => ((w'.cell? ⟨w.heap.size, 0, none⟩ = some (.int .i64 h.id) ∧ w'.cell? ⟨w.heap.size, 1, none⟩ = some (.bool h.rp) ∧ w'.cell? ⟨w.heap.size, 2, none⟩ = some (.bool h.au) ∧ w'.cell? ⟨w.heap.size, 3, none⟩ = some (.bool h.ct) ∧ w'.cell? ⟨w.heap.size, 4, none⟩ = some (.bool h.wa) ∧ w'.cell? ⟨w.heap.size, 5, none⟩ = some (.bool h.ca) ∧ w'.cell? ⟨w.heap.size, 6, none⟩ = some (.int .i64 h.code) ∧ w'.cell? ⟨w.heap.size, 7, none⟩ = some (.string h.qn) ∧ w'.cell? ⟨w.heap.size, 8, none⟩ = some (.int .i64 h.qt) ∧ w'.cell? ⟨w.heap.size, 9, none⟩ = some (.slice A1 n1 c1) ∧ w'.cell? ⟨w.heap.size, 10, none⟩ = some (.slice A2 n2 c2) ∧ w'.cell? ⟨w.heap.size, 11, none⟩ = some (.slice A3 n3 c3)) ∧ Sv w w'))
    (first | exact S0 | with_reducible assumption | exact kept1_draw (by assumption) | exact kept1 (by assumption) ((Below.refl _ _).alloc (Nat.le_refl _) _) | exact SR | fail)
    (first
      | (go_at_call 90; (with_reducible refine (flagS _ _ _).mono ?_); rintro e w' ⟨rfl, rfl⟩)
      | (refine step_append_bytes rfl (.tmp 8) (.tmp 33) rfl w.heap.size g1 m1 cap1 (tail2 h.id) rfl OA.out w1.heap.size 0 2 2 _ (fls h) rfl SA.out hz8 h28 h02 BA.out ?_; intro g2 cap2 w2 hown hgrow; have SR := XA.out w2 hgrow)
      | fail)
  clear e1 e2 e3 e4 e5 e6 e7 hz8 h28 h02 OA SA BA XA
  have O2 := Lib.hid hown
  have S2 : ((w2.cell? ⟨w.heap.size, 0, none⟩ = some (.int .i64 h.id) ∧ w2.cell? ⟨w.heap.size, 1, none⟩ = some (.bool h.rp) ∧ w2.cell? ⟨w.heap.size, 2, none⟩ = some (.bool h.au) ∧ w2.cell? ⟨w.heap.size, 3, none⟩ = some (.bool h.ct) ∧ w2.cell? ⟨w.heap.size, 4, none⟩ = some (.bool h.wa) ∧ w2.cell? ⟨w.heap.size, 5, none⟩ = some (.bool h.ca) ∧ w2.cell? ⟨w.heap.size, 6, none⟩ = some (.int .i64 h.code) ∧ w2.cell? ⟨w.heap.size, 7, none⟩ = some (.string h.qn) ∧ w2.cell? ⟨w.heap.size, 8, none⟩ = some (.int .i64 h.qt) ∧ w2.cell? ⟨w.heap.size, 9, none⟩ = some (.slice A1 n1 c1) ∧ w2.cell? ⟨w.heap.size, 10, none⟩ = some (.slice A2 n2 c2) ∧ w2.cell? ⟨w.heap.size, 11, none⟩ = some (.slice A3 n3 c3)) ∧ Sv w w2) := SR
  clear hown hgrow SR S0 O1 X1 L1 NB
  obtain ⟨m2, hm2⟩ : ∃ m2, m2 = m1 + 2 := ⟨_, rfl⟩
  rw [← hm2] at O2 ⊢
  have hz2 : m2 ≤ 4 := by omega
  clear hm2 hz
  have v2 : Sv w w2.drew := S2.2.drew
  have C2 := Lib.hid (PT.out w2.drew g2 m2 cap2 (tail2 h.id ++ fls h) 1 v2 O2.out (by omega))
  go_wp2
  go_region_held3 (fun w' => ((w'.cell? ⟨w.heap.size, 0, none⟩ = some (.int .i64 h.id) ∧ w'.cell? ⟨w.heap.size, 1, none⟩ = some (.bool h.rp) ∧ w'.cell? ⟨w.heap.size, 2, none⟩ = some (.bool h.au) ∧ w'.cell? ⟨w.heap.size, 3, none⟩ = some (.bool h.ct) ∧ w'.cell? ⟨w.heap.size, 4, none⟩ = some (.bool h.wa) ∧ w'.cell? ⟨w.heap.size, 5, none⟩ = some (.bool h.ca) ∧ w'.cell? ⟨w.heap.size, 6, none⟩ = some (.int .i64 h.code) ∧ w'.cell? ⟨w.heap.size, 7, none⟩ = some (.string h.qn) ∧ w'.cell? ⟨w.heap.size, 8, none⟩ = some (.int .i64 h.qt) ∧ w'.cell? ⟨w.heap.size, 9, none⟩ = some (.slice A1 n1 c1) ∧ w'.cell? ⟨w.heap.size, 10, none⟩ = some (.slice A2 n2 c2) ∧ w'.cell? ⟨w.heap.size, 11, none⟩ = some (.slice A3 n3 c3)) ∧ Sv w w'))
    (first | exact S2 | with_reducible assumption | exact kept1 (by assumption) hl | exact kept1_draw (by assumption) | fail)
    (first
      | (go_at_call 85; (with_reducible refine C2.out.mono ?_); rintro e w3 ⟨g3, m3, cap3, rfl, o3, z3, hl⟩; have v3 := svt v2 hl)
      | (go_at_call 85; (with_reducible refine (PT.out w3 g3 m3 cap3 _ (n1 : Int) v3 o3 (by omega)).mono ?_); rintro e w4 ⟨g4, m4, cap4, rfl, o4, z4, hl⟩; have v4 := svt v3 hl)
      | (go_at_call 85; (with_reducible refine (PT.out w4 g4 m4 cap4 _ (n2 : Int) v4 o4 (by omega)).mono ?_); rintro e w5 ⟨g5, m5, cap5, rfl, o5, z5, hl⟩; have v5 := svt v4 hl)
      | (go_at_call 85; (with_reducible refine (PT.out w5 g5 m5 cap5 _ (n3 : Int) v5 o5 (by omega)).mono ?_); rintro e w6 ⟨g6, m6, cap6, rfl, o6, z6, hl⟩)
      | fail)
  rename_i hH
  have O6 := Lib.hid o6
  have L6 : Hid (Below w.heap.size w w6) := hH.2
  clear o3 o4 o5 o6 z3 z4 z5 z6 hl hH S2 O2 v2 v3 v4 v5 C2
  go_wp2
  go_ret
  rw [HH.out]
  exact gives_of_owns O6.out L6.out

set_option maxRecDepth 100000 in
set_option maxHeartbeats 8000000 in
theorem impl (h : Hd) (A1 A2 A3 : Option Addr) (n1 c1 n2 c2 n3 c3 : Nat) (w : World) : Calls Tryz.prog 32 #[.agg #[.int .i64 h.id, .bool h.rp, .bool h.au, .bool h.ct, .bool h.wa, .bool h.ca, .int .i64 h.code, .string h.qn, .int .i64 h.qt, .slice A1 n1 c1, .slice A2 n2 c2, .slice A3 n3 c3]] w (Gives w (hdl h n1 n2 n3)) := by
  have PT : Hid (∀ (W : World) (g m cap : Nat) (L : List UInt8) (k : Int), Sv w W → W.ownsRow w.heap.size 5 1 (.slice (some ⟨g, 0, none⟩) m cap) m (L.map bv) → m ≤ 400000000 → Calls Tryz.prog 83 #[.slice (some ⟨g, 0, none⟩) m cap, .int .i64 k] W (P2 w.heap.size L m k W)) := fun W g m cap L k hW ho hm =>
    (implPut2O _ m cap L k W (ownB_sl ho).1 (fun h => by cases h) hm).mono fun e w' hg => p2_of hg (ownB_sl ho).2.2.2 hW.size
  have HH : Hid (hdl h n1 n2 n3 = tail2 h.id ++ fls h ++ tail2 1 ++ tail2 (n1 : Int) ++ tail2 (n2 : Int) ++ tail2 (n3 : Int)) := rfl
  have S0 : Mx (w.alloc (.cells #[.int .i64 h.id, .bool h.rp, .bool h.au, .bool h.ct, .bool h.wa, .bool h.ca, .int .i64 h.code, .string h.qn, .int .i64 h.qt, .slice A1 n1 c1, .slice A2 n2 c2, .slice A3 n3 c3] 28)) w.heap.size h (.slice A1 n1 c1) (.slice A2 n2 c2) (.slice A3 n3 c3) ∧ Sv w (w.alloc (.cells #[.int .i64 h.id, .bool h.rp, .bool h.au, .bool h.ct, .bool h.wa, .bool h.ca, .int .i64 h.code, .string h.qn, .int .i64 h.qt, .slice A1 n1 c1, .slice A2 n2 c2, .slice A3 n3 c3] 28)) := ⟨mx_new w 28 h (.slice A1 n1 c1) (.slice A2 n2 c2) (.slice A3 n3 c3), (Below.refl w.heap.size w).alloc (Nat.le_refl _) _⟩
  have v0 : Sv w (w.alloc (.cells #[.int .i64 h.id, .bool h.rp, .bool h.au, .bool h.ct, .bool h.wa, .bool h.ca, .int .i64 h.code, .string h.qn, .int .i64 h.qt, .slice A1 n1 c1, .slice A2 n2 c2, .slice A3 n3 c3] 28)).drew := S0.2.drew
  have PN : Hid (∀ W : World, Calls Tryz.prog 83 #[.slice none 0 0, .int .i64 h.id] W fun e w' => ∃ g m cap, e = .returned (.slice (some ⟨g, 0, none⟩) m cap) ∧ w'.ownsRow W.heap.size 5 1 (.slice (some ⟨g, 0, none⟩) m cap) m ((tail2 h.id).map bv) ∧ m ≤ 2 ∧ Below W.heap.size W w') := fun W =>
    (implPut2O none 0 0 [] h.id W Sl.nil (fun _ => ⟨rfl, rfl⟩) (by omega)).mono fun e w' hg => by
      rw [List.nil_append] at hg
      obtain ⟨g, cap, he, ho, hl'⟩ := hg
      exact ⟨g, _, cap, he, ho, t2_len h.id, hl'⟩
  have AP : Hid (∀ (W : World) (b g m cap q : Nat), W.ownsRow b 5 1 (.slice (some ⟨g, 0, none⟩) m cap) m ((tail2 h.id).map bv) → Bk W q 5 ((fls h).map bv) → m ≤ 2 → w.heap.size ≤ W.heap.size → Calls Tryz.prog 88 #[.slice (some ⟨g, 0, none⟩) m cap, .slice (some ⟨q, 0, none⟩) 2 2] W fun e w' => ∃ g' m' cap', e = .returned (.slice (some ⟨g', 0, none⟩) m' cap') ∧ w'.ownsRow w.heap.size 5 1 (.slice (some ⟨g', 0, none⟩) m' cap') m' ((tail2 h.id ++ fls h).map bv) ∧ m' ≤ 4 ∧ Below W.heap.size W w') := fun W b g m cap q ho hb hm hw =>
    (appendedO _ _ m cap 2 2 (tail2 h.id) (fls h) W (ownB_sl ho).1 (hb.sl.wider hb.lt) (fun h => by cases h) (fun h => by cases h) (by omega) (by omega)).mono fun e w' hg => by
      obtain ⟨g, cap, he, ho', hl'⟩ := hg
      exact ⟨g, _, cap, he, owns_base ho' hw, by rw [List.length_append, (ownB_sl ho).2.2.2]; show m + 2 ≤ 4; omega, hl'⟩
  go_enter Tryz.func32, Tryz.ntmps32
  go_wp2
  go_region_held3 (fun w' => ((w'.cell? ⟨w.heap.size, 0, none⟩ = some (.int .i64 h.id) ∧ w'.cell? ⟨w.heap.size, 1, none⟩ = some (.bool h.rp) ∧ w'.cell? ⟨w.heap.size, 2, none⟩ = some (.bool h.au) ∧ w'.cell? ⟨w.heap.size, 3, none⟩ = some (.bool h.ct) ∧ w'.cell? ⟨w.heap.size, 4, none⟩ = some (.bool h.wa) ∧ w'.cell? ⟨w.heap.size, 5, none⟩ = some (.bool h.ca) ∧ w'.cell? ⟨w.heap.size, 6, none⟩ = some (.int .i64 h.code) ∧ w'.cell? ⟨w.heap.size, 7, none⟩ = some (.string h.qn) ∧ w'.cell? ⟨w.heap.size, 8, none⟩ = some (.int .i64 h.qt) ∧ w'.cell? ⟨w.heap.size, 9, none⟩ = some (.slice A1 n1 c1) ∧ w'.cell? ⟨w.heap.size, 10, none⟩ = some (.slice A2 n2 c2) ∧ w'.cell? ⟨w.heap.size, 11, none⟩ = some (.slice A3 n3 c3)) ∧ Sv w w'))
    (first | exact S0 | with_reducible assumption | exact kept1 (by assumption) hl | exact kept1_draw (by assumption) | fail)
    (first
      | (go_at_call 83; (with_reducible refine (PN.out _).mono ?_); rintro e w1 ⟨g1, m1, cap1, rfl, o1, z1, hl⟩; have v1 := svt v0 hl)
      | (go_at_call 89; (with_reducible refine (flagBytes h A1 A2 A3 n1 c1 n2 c2 n3 c3 _).mono ?_); rintro e w2 ⟨q2, rfl, b2, hl⟩; have o2 := ownB_below o1 hl; have v2 := svt v1 hl)
      | (go_at_call 88; (with_reducible refine (AP.out _ _ _ _ _ _ o2 b2 z1 (sv_size v2)).mono ?_); rintro e w3 ⟨g3, m3, cap3, rfl, o3, z3, hl⟩)
      | fail)
  rename_i hH
  have O3 := Lib.hid o3
  have X3 : Hid (Mx w3 w.heap.size h (.slice A1 n1 c1) (.slice A2 n2 c2) (.slice A3 n3 c3)) := hH.1
  have L3 : Hid (Sv w w3) := hH.2
  clear o1 o2 o3 b2 z1 hl hH S0 PN AP v0 v1 v2
  go_wp2_with fail
  refine (PT.out w3 g3 m3 cap3 _ 1 L3.out O3.out (by omega)).mono ?_
  rintro e w4 ⟨g4, m4, cap4, rfl, ho, z4, hl⟩
  have O4 := Lib.hid ho
  have X4 := Lib.hid (X3.out.below hl)
  have L4 : Hid (Sv w w4) := svt L3.out hl
  clear ho hl O3 X3 L3
  obtain ⟨x0, x1, x2, x3, x4, x5, x6, x7, x8, x9, x10, x11⟩ := X4.out
  go_wp2_with fail
  refine (PT.out w4 g4 m4 cap4 _ (n1 : Int) L4.out O4.out (by omega)).mono ?_
  rintro e w5 ⟨g5, m5, cap5, rfl, ho, z5, hl⟩
  have O5 := Lib.hid ho
  have X5 := Lib.hid (X4.out.below hl)
  have L5 : Hid (Sv w w5) := svt L4.out hl
  clear ho hl O4 X4 L4 x0 x1 x2 x3 x4 x5 x6 x7 x8 x9 x10 x11
  obtain ⟨x0, x1, x2, x3, x4, x5, x6, x7, x8, x9, x10, x11⟩ := X5.out
  go_wp2_with fail
  refine (PT.out w5 g5 m5 cap5 _ (n2 : Int) L5.out O5.out (by omega)).mono ?_
  rintro e w6 ⟨g6, m6, cap6, rfl, ho, z6, hl⟩
  have O6 := Lib.hid ho
  have X6 := Lib.hid (X5.out.below hl)
  have L6 : Hid (Sv w w6) := svt L5.out hl
  clear ho hl O5 X5 L5 x0 x1 x2 x3 x4 x5 x6 x7 x8 x9 x10 x11
  obtain ⟨x0, x1, x2, x3, x4, x5, x6, x7, x8, x9, x10, x11⟩ := X6.out
  go_wp2_with fail
  refine (PT.out w6 g6 m6 cap6 _ (n3 : Int) L6.out O6.out (by omega)).mono ?_
  rintro e w7 ⟨g7, m7, cap7, rfl, ho, z7, hl⟩
  have O7 := Lib.hid ho
  have X7 := Lib.hid (X6.out.below hl)
  have L7 : Hid (Sv w w7) := svt L6.out hl
  clear ho hl O6 X6 L6 x0 x1 x2 x3 x4 x5 x6 x7 x8 x9 x10 x11
  go_wp2
  go_ret
  rw [HH.out]
  exact gives_of_owns O7.out L7.out
end Go.Proofs.YtkfibepejlgniaaGreatDoor.HeadS

/- What the model's PutRecord does: a new slice that holds the old bytes and those of a valid record. Conditions: fewer than 199000001 bytes in the slice, at most 1048576 in each text. -/
namespace Go.Proofs.YtkfibepejlgniaaGreatDoor.RecS
open Go.RowKit Go.Proofs.YtkfibepejlgniaaGreatDoor.Mem Go.Proofs.YtkfibepejlgniaaGreatDoor.MemR Go.Proofs.YtkfibepejlgniaaGreatDoor.App Go.Proofs.YtkfibepejlgniaaGreatDoor.Put Go.Proofs.YtkfibepejlgniaaGreatDoor.PutO Go.Proofs.YtkfibepejlgniaaGreatDoor.PutLabel Go.Proofs.YtkfibepejlgniaaGreatDoor.BoxR Go.Proofs.YtkfibepejlgniaaGreatDoor.RecOk Go.Proofs.YtkfibepejlgniaaGreatDoor.Plain Go.Proofs.YtkfibepejlgniaaGreatDoor.PutSpec Go.Proofs.YtkfibepejlgniaaGreatDoor.FieldMath Go.Proofs.YtkfibepejlgniaaGreatDoor.DataS

/-- The bytes as they grow. -/
def t1 (l : List UInt8) (r : Rec) : List UInt8 := l ++ tailN l r.name
def t2 (l : List UInt8) (r : Rec) : List UInt8 := t1 l r ++ tail2 r.ty
def t3 (l : List UInt8) (r : Rec) : List UInt8 := t2 l r ++ tail2 1
def t4 (l : List UInt8) (r : Rec) : List UInt8 := t3 l r ++ tail4 r.ttl
def t5 (l : List UInt8) (r : Rec) : List UInt8 := t4 l r ++ tail2 ((dat r).length : Int)
section
variable (l : List UInt8) (r : Rec)
theorem l1 : (t1 l r).length ≤ l.length + 80 := by unfold t1; rw [List.length_append]; have := tailN_len l r.name; omega
theorem l2 : (t2 l r).length ≤ l.length + 82 := by unfold t2; rw [List.length_append]; have := tail2_len r.ty; have := l1 l r; omega
theorem l3 : (t3 l r).length ≤ l.length + 84 := by unfold t3; rw [List.length_append]; have := tail2_len 1; have := l2 l r; omega
theorem l4 : (t4 l r).length ≤ l.length + 88 := by unfold t4; rw [List.length_append]; have := tail4_len r.ttl; have := l3 l r; omega
theorem l5 : (t5 l r).length ≤ l.length + 90 := by unfold t5; rw [List.length_append]; have := tail2_len ((dat r).length : Int); have := l4 l r; omega
theorem t_all (h : rok r = true) : t5 l r ++ dat r = l ++ tailR l r := by
  unfold t5 t4 t3 t2 t1
  rw [tailR, if_pos h]
  simp only [List.append_assoc]
theorem t_none (h : rok r = false) : l ++ tailR l r = l := by
  rw [tailR, h]
  simp
end
theorem kept6 {w w1 w2 : World} {g : Nat} {r : Rec} (h : (w1.cell? ⟨g, 0, none⟩ = some (.string r.name) ∧ w1.cell? ⟨g, 1, none⟩ = some (.int .i64 r.ty) ∧ w1.cell? ⟨g, 2, none⟩ = some (.int .i64 r.ttl) ∧ w1.cell? ⟨g, 3, none⟩ = some (.int .i64 r.n) ∧ w1.cell? ⟨g, 4, none⟩ = some (.string r.host) ∧ w1.cell? ⟨g, 5, none⟩ = some (.string r.text)) ∧ Sv w w1) (hl : Below w1.heap.size w1 w2) :
    (w2.cell? ⟨g, 0, none⟩ = some (.string r.name) ∧ w2.cell? ⟨g, 1, none⟩ = some (.int .i64 r.ty) ∧ w2.cell? ⟨g, 2, none⟩ = some (.int .i64 r.ttl) ∧ w2.cell? ⟨g, 3, none⟩ = some (.int .i64 r.n) ∧ w2.cell? ⟨g, 4, none⟩ = some (.string r.host) ∧ w2.cell? ⟨g, 5, none⟩ = some (.string r.text)) ∧ Sv w w2 :=
  ⟨show Bx w2 g r from (show Bx w1 g r from h.1).below hl, h.2.trans (hl.mono h.2.size)⟩
theorem kept6_draw {w w1 : World} {g : Nat} {r : Rec} (h : (w1.cell? ⟨g, 0, none⟩ = some (.string r.name) ∧ w1.cell? ⟨g, 1, none⟩ = some (.int .i64 r.ty) ∧ w1.cell? ⟨g, 2, none⟩ = some (.int .i64 r.ttl) ∧ w1.cell? ⟨g, 3, none⟩ = some (.int .i64 r.n) ∧ w1.cell? ⟨g, 4, none⟩ = some (.string r.host) ∧ w1.cell? ⟨g, 5, none⟩ = some (.string r.text)) ∧ Sv w w1) :
    (w1.drew.cell? ⟨g, 0, none⟩ = some (.string r.name) ∧ w1.drew.cell? ⟨g, 1, none⟩ = some (.int .i64 r.ty) ∧ w1.drew.cell? ⟨g, 2, none⟩ = some (.int .i64 r.ttl) ∧ w1.drew.cell? ⟨g, 3, none⟩ = some (.int .i64 r.n) ∧ w1.drew.cell? ⟨g, 4, none⟩ = some (.string r.host) ∧ w1.drew.cell? ⟨g, 5, none⟩ = some (.string r.text)) ∧ Sv w w1.drew := kept6 h ((Below.refl _ _).drew)

set_option maxRecDepth 100000 in
set_option maxHeartbeats 4000000 in
theorem spec (A : Option Addr) (n c : Nat) (l : List UInt8) (r : Rec) (w : World) (hs : Sl w w.heap.size A n l) (hnc : n ≤ c) (hnil : A = none → n = 0 ∧ c = 0) (hn : n ≤ 199000000) (hr : Med r) :
    Calls Tryz.prog 140 #[.slice A n c, .agg #[.string r.name, .int .i64 r.ty, .int .i64 r.ttl, .int .i64 r.n, .string r.host, .string r.text]] w (GivesO w (l ++ tailR l r)) := by
  obtain ⟨i0, hi, hz0, hz1, hz2⟩ := info_parts Copy.info
  have HS := Lib.hid hs
  have HL := Lib.hid hs.1
  have HN := Lib.hid hnil
  clear hs hnil
  have RO := Lib.hid (fun w => RecOk.spec r w hr.mod)
  have PD := Lib.hid (fun w => DataS.spec r w hr)
  have hnm : r.name.size ≤ 1048576 := hr.1
  have TA := Lib.hid (t_all l r)
  have TN := Lib.hid (t_none l r)
  have X0 := Lib.hid (bx_new w 117 r)
  have L0 := Lib.hid ((Below.refl w.heap.size w).alloc (Nat.le_refl _) (.cells #[.string r.name, .int .i64 r.ty, .int .i64 r.ttl, .int .i64 r.n, .string r.host, .string r.text] 117))
  obtain ⟨u, hu⟩ : ∃ u, rok r = u := ⟨_, rfl⟩
  have HB := Lib.hid hu
  clear hu
  go_enter Tryz.func140, Tryz.ntmps140
  go_wp2_with fail
  refine (RO.out _).mono ?_
  rw [HB.out]
  rintro e w1 ⟨rfl, hl⟩
  have L1 := Lib.hid (L0.out.trans (hl.mono L0.out.size))
  have X1 := Lib.hid (X0.out.below hl)
  clear hl L0 X0 RO
  cases u with
  | false =>
    have SA := Lib.hid (sl_alloc ((HS.out.below L1.out).wider L1.out.size) (.cells #[] 5))
    have ON := Lib.hid (owns_base (owns_new w1) L1.out.size)
    go_wp2_with (at_builtin; refine append_src rfl (.tmp 10) (.tmp 11) 22 rfl w.heap.size 5 i0 (.int .u8 0) Tryz.underlying22 hi hz0 hz1 hz2 rfl w1.heap.size 0 0 [] rfl ON.out A n c _ l rfl SA.out HN.out ?c1 ?c2 ?c3 ?_)
    case c1 => omega
    case c2 => omega
    case c3 => have := L1.out.size; simp; omega
    intro g1 cap1 w2 hown hgrow
    have O1 := Lib.hid hown
    have L2 := Lib.hid ((L1.out.alloc L1.out.size (.cells #[] 5)).grown hgrow (by have := L1.out.size; simp; omega) (fun j hj => by cases hj; exact L1.out.size))
    clear hown hgrow
    go_wp2
    go_ret
    rw [TN.out HB.out]
    exact givesO_of O1.out L2.out
  | true =>
    have h1 := l1 l r
    have h2 := l2 l r
    have h3 := l3 l r
    have h4 := l4 l r
    have h5 := l5 l r
    rw [HL.out] at h1 h2 h3 h4 h5
    have hd := dat_len r
    have PN : Hid (∀ (W : World), ((W.cell? ⟨w.heap.size, 0, none⟩ = some (.string r.name) ∧ W.cell? ⟨w.heap.size, 1, none⟩ = some (.int .i64 r.ty) ∧ W.cell? ⟨w.heap.size, 2, none⟩ = some (.int .i64 r.ttl) ∧ W.cell? ⟨w.heap.size, 3, none⟩ = some (.int .i64 r.n) ∧ W.cell? ⟨w.heap.size, 4, none⟩ = some (.string r.host) ∧ W.cell? ⟨w.heap.size, 5, none⟩ = some (.string r.text)) ∧ Sv w W) → Calls Tryz.prog 86 #[.slice A n c, .string r.name] W (Gives W (t1 l r))) :=
      fun W hW => (PutSpec.spec A n c l r.name W ((HS.out.below hW.2).wider hW.2.size) hnc HN.out (by omega) (by omega)).mono fun e w' h => h.gives
    have P2 : Hid (∀ (g m c : Nat) (rr : List Value) (W : World), (t1 l r).length = m → Bk W g 5 ((t1 l r).map bv ++ rr) → Calls Tryz.prog 85 #[.slice (some ⟨g, 0, none⟩) m c, .int .i64 r.ty] W (Gives W (t2 l r))) :=
      fun g m c rr W hm hb => specPut2 (some ⟨g, 0, none⟩) m c (t1 l r) r.ty W (hm ▸ (hb.sl'.wider hb.lt)) (fun h => by cases h) (by omega)
    have P3 : Hid (∀ (g m c : Nat) (rr : List Value) (W : World), (t2 l r).length = m → Bk W g 5 ((t2 l r).map bv ++ rr) → Calls Tryz.prog 85 #[.slice (some ⟨g, 0, none⟩) m c, .int .i64 1] W (Gives W (t3 l r))) :=
      fun g m c rr W hm hb => specPut2 (some ⟨g, 0, none⟩) m c (t2 l r) 1 W (hm ▸ (hb.sl'.wider hb.lt)) (fun h => by cases h) (by omega)
    have P4 : Hid (∀ (g m c : Nat) (rr : List Value) (W : World), (t3 l r).length = m → Bk W g 5 ((t3 l r).map bv ++ rr) → Calls Tryz.prog 170 #[.slice (some ⟨g, 0, none⟩) m c, .int .i64 r.ttl] W (Gives W (t4 l r))) :=
      fun g m c rr W hm hb => specPut4 (some ⟨g, 0, none⟩) m c (t3 l r) r.ttl W (hm ▸ (hb.sl'.wider hb.lt)) (fun h => by cases h) (by omega)
    have P5 : Hid (∀ (g m c : Nat) (rr : List Value) (W : World), (t4 l r).length = m → Bk W g 5 ((t4 l r).map bv ++ rr) → Calls Tryz.prog 85 #[.slice (some ⟨g, 0, none⟩) m c, .int .i64 ((dat r).length : Int)] W (GivesO W (t5 l r))) :=
      fun g m c rr W hm hb => specPut2O (some ⟨g, 0, none⟩) m c (t4 l r) ((dat r).length : Int) W (hm ▸ (hb.sl'.wider hb.lt)) (fun h => by cases h) (by omega)
    have S0 : (w1.cell? ⟨w.heap.size, 0, none⟩ = some (.string r.name) ∧ w1.cell? ⟨w.heap.size, 1, none⟩ = some (.int .i64 r.ty) ∧ w1.cell? ⟨w.heap.size, 2, none⟩ = some (.int .i64 r.ttl) ∧ w1.cell? ⟨w.heap.size, 3, none⟩ = some (.int .i64 r.n) ∧ w1.cell? ⟨w.heap.size, 4, none⟩ = some (.string r.host) ∧ w1.cell? ⟨w.heap.size, 5, none⟩ = some (.string r.text)) ∧ Sv w w1 := ⟨X1.out, L1.out⟩
    generalize t1 l r = T1 at *
    generalize t2 l r = T2 at *
    generalize t3 l r = T3 at *
    generalize t4 l r = T4 at *
    generalize t5 l r = T5 at *
    generalize dat r = D at *
    have LW := Lib.hid (Nat.le_trans L1.out.size (Nat.le_refl _))
    clear X1
    go_wp2
    go_region_held3 (fun w' => (w'.cell? ⟨w.heap.size, 0, none⟩ = some (.string r.name) ∧ w'.cell? ⟨w.heap.size, 1, none⟩ = some (.int .i64 r.ty) ∧ w'.cell? ⟨w.heap.size, 2, none⟩ = some (.int .i64 r.ttl) ∧ w'.cell? ⟨w.heap.size, 3, none⟩ = some (.int .i64 r.n) ∧ w'.cell? ⟨w.heap.size, 4, none⟩ = some (.string r.host) ∧ w'.cell? ⟨w.heap.size, 5, none⟩ = some (.string r.text)) ∧ Sv w w')
      (first | exact S0 | assumption | exact kept6 (by assumption) hl | exact kept6_draw (by assumption) | fail)
      (first
        | (go_at_call 86; refine (PN.out _ (by assumption)).mono ?_; rintro e w11 ⟨g1, m1, c1, r1, rfl, hm1, -, hg1, hb1, hl⟩)
        | (go_at_call 170; refine (P4.out _ _ _ _ _ hm3 hb3).mono ?_; rintro e w14 ⟨g4, m4, c4, r4, rfl, hm4, -, hg4, hb4, hl⟩)
        | (go_at_call 85; refine (P3.out _ _ _ _ _ hm2 hb2).mono ?_; rintro e w13 ⟨g3, m3, c3, r3, rfl, hm3, -, hg3, hb3, hl⟩)
        | (go_at_call 85; refine (P2.out _ _ _ _ _ hm1 hb1).mono ?_; rintro e w12 ⟨g2, m2, c2, r2, rfl, hm2, -, hg2, hb2, hl⟩)
        | fail)
    rename_i hH
    have X14 : Hid (Bx w14 w.heap.size r) := hH.1
    have L14 : Hid (Below w.heap.size w w14) := hH.2
    have M4 := Lib.hid hm4
    have B4 := Lib.hid hb4
    clear hH hm1 hb1 hg1 hm2 hb2 hg2 hm3 hb3 hg3 hm4 hb4 hg4 hl S0 PN P2 P3 P4 L1 LW
    obtain ⟨x0, x1, x2, x3, x4, x5⟩ := X14.out
    go_wp2_with fail
    refine (PD.out _).mono ?_
    rintro e w15 ⟨gd, md, cd, rd, rfl, hmd, hled, hgd, hbd, hl⟩
    have BD := Lib.hid hbd
    have B5 := Lib.hid (B4.out.below hl B4.out.lt)
    have L15 := Lib.hid (L14.out.trans (hl.mono L14.out.size))
    subst hmd
    clear hgd hbd hl x0 x1 x2 x3 x4 x5 X14 B4 L14
    go_wp2_with fail
    refine (P5.out g4 m4 c4 r4 w15 M4.out B5.out).mono ?_
    rintro e w16 ⟨g5, c5, rfl, ho, hl⟩
    have O6 := Lib.hid (owns_base ho L15.out.size)
    have G6 := Lib.hid (show w15.heap.size ≤ g5 from (ho.lt g5 rfl).1)
    have BD6 := Lib.hid (BD.out.below hl BD.out.lt)
    have L16 := Lib.hid (L15.out.trans (hl.mono L15.out.size))
    have SD := Lib.hid (show Sl w16 w16.heap.size (some ⟨gd, 0, none⟩) D.length D from BD6.out.sl'.wider BD6.out.lt)
    clear ho hl B5 BD L15 BD6
    obtain ⟨m5, hm5⟩ : ∃ m, m = T5.length := ⟨_, rfl⟩
    rw [← hm5] at O6 h5 ⊢
    clear hm5
    go_wp2_with (at_builtin; refine append_src rfl (.tmp 29) (.tmp 30) 22 rfl w.heap.size 5 i0 (.int .u8 0) Tryz.underlying22 hi hz0 hz1 hz2 rfl g5 m5 c5 (T5.map bv) rfl O6.out (some ⟨gd, 0, none⟩) D.length cd _ D rfl SD.out (fun h => by cases h) ?d1 ?d2 ?d3 ?_)
    case d1 => omega
    case d2 => omega
    case d3 => exact L16.out.size
    intro g7 c7 w17 hown hgrow
    rw [← List.map_append, TA.out HB.out] at hown
    have O7 := Lib.hid hown
    have L17 := Lib.hid (L16.out.grown hgrow L16.out.size (fun j hj => by cases hj; exact (O6.out.lt g5 rfl).1))
    clear hown hgrow
    go_wp2
    go_ret
    exact givesO_of O7.out L17.out
end Go.Proofs.YtkfibepejlgniaaGreatDoor.RecS

/- What PutRecords does in the model: a new slice that holds the old bytes and those of each valid record. Conditions: at most 1048576 bytes, as many records, as many bytes in each text. -/
namespace Go.Proofs.YtkfibepejlgniaaGreatDoor.PutsS
open Go.RowKit Go.Proofs.YtkfibepejlgniaaGreatDoor.Mem Go.Proofs.YtkfibepejlgniaaGreatDoor.MemR Go.Proofs.YtkfibepejlgniaaGreatDoor.App Go.Proofs.YtkfibepejlgniaaGreatDoor.PutO Go.Proofs.YtkfibepejlgniaaGreatDoor.FieldMath Go.Proofs.YtkfibepejlgniaaGreatDoor.DataS

theorem own_sl {w : World} {base g m cap : Nat} {l : List UInt8} (h : w.ownsRow base 5 1 (.slice (some ⟨g, 0, none⟩) m cap) m (l.map bv)) : Sl w w.heap.size (some ⟨g, 0, none⟩) m l ∧ m ≤ cap := by
  have hl : l.length = m := by have := h.1; simpa using this
  obtain ⟨r, hb, hr, _⟩ := bk_of_owns h
  exact ⟨hl ▸ (hb.sl'.wider hb.lt), by rw [← hr, List.length_append, List.length_map, hl]; omega⟩

set_option maxRecDepth 100000 in
set_option maxHeartbeats 4000000 in
theorem spec (A A' : Option Addr) (n c n' c' : Nat) (l : List UInt8) (L : List Rec) (w : World) (hs : Sl w w.heap.size A n l) (hnil : A = none → n = 0 ∧ c = 0) (hn : n ≤ 1048576) (hS : Sr w w.heap.size A' n' L) (hn' : n' ≤ 1048576) (hM : ∀ r ∈ L, Med r) :
    Calls Tryz.prog 87 #[.slice A n c, .slice A' n' c'] w (GivesO w (puts l L)) := by
  obtain ⟨i0, hi, hz0, hz1, hz2⟩ := info_parts Copy.info
  have HS := Lib.hid hs
  have HN := Lib.hid hnil
  have SS := Lib.hid hS
  have HM := Lib.hid hM
  have HL := Lib.hid hS.1
  have ST := Lib.hid (puts_step l L)
  have PL := Lib.hid (fun k => puts_len (L.take k) l)
  have HZ := Lib.hid hs.1
  have HA : Hid (puts l L = puts l (L.take n')) := by show _ = _; rw [List.take_of_length_le (by rw [hS.1]; omega)]
  have H0 : Hid (puts l (L.take 0) = l) := rfl
  clear hs hnil hS hM
  go_enter Tryz.func87, Tryz.ntmps87
  go_wp2_with (at_builtin; refine append_src rfl (.tmp 7) (.tmp 8) 22 rfl w.heap.size 5 i0 (.int .u8 0) Tryz.underlying22 hi hz0 hz1 hz2 rfl w.heap.size 0 0 [] rfl (owns_new w) A n c _ l rfl (sl_alloc HS.out _) HN.out ?c1 ?c2 ?c3 ?_)
  case c1 => omega
  case c2 => omega
  case c3 => simp
  intro g1 cap1 w1 hown hgrow
  have O1 := Lib.hid hown
  have L1 := Lib.hid ((((Below.refl w.heap.size w).alloc (Nat.le_refl _) (.cells #[] 5))).grown hgrow (by simp) (fun j hj => by cases hj; exact Nat.le_refl _))
  clear hown hgrow
  go_wp2
  go_loopw [5, 6] (fun v i wr => ∃ (k g m cap : Nat), k ≤ n' ∧ m ≤ 1048576 + 173 * k ∧ i = .int .i64 (k : Int) ∧ v = .slice (some ⟨g, 0, none⟩) m cap ∧ Hid (wr.ownsRow w.heap.size 5 1 (.slice (some ⟨g, 0, none⟩) m cap) m ((puts l (L.take k)).map bv)) ∧ Hid (Below w.heap.size w wr)) (fun _ i _ => n' - (intOf i).toNat)
  case atStart => exact ⟨0, g1, n, cap1, Nat.zero_le _, by omega, rfl, by simp, by rw [H0.out]; simpa [Hid] using O1.out, L1.out⟩
  case round =>
    clear O1 L1
    obtain ⟨k, g, m, cap, hk, hm, rfl, rfl, HO, HB⟩ := hrel
    by_cases hlt : k < n'
    · have hkl : k < L.length := by rw [HL.out]; exact hlt
      obtain ⟨b, off, rfl, hbB, hcs⟩ := SS.out.2 (by omega)
      obtain ⟨e0, e1, e2, e3, e4, e5⟩ := (hcs k hkl).below HB.out hbB
      have HQ := Lib.hid (ST.out k hkl)
      have HP := PL.out (k + 1)
      rw [List.length_take, HZ.out] at HP
      have MD := Lib.hid (HM.out L[k] (List.getElem_mem hkl))
      obtain ⟨hsl, hmc⟩ := own_sl HO.out
      have SL := Lib.hid hsl
      clear hcs hsl
      generalize L[k] = r at *
      go_wp2_with fail
      refine (RecS.spec (some ⟨g, 0, none⟩) m cap _ r wr SL.out hmc (fun h => by cases h) (by omega) MD.out).mono ?_
      rw [← HQ.out]
      rintro e w2 ⟨g2, cap2, rfl, ho, hl⟩
      have hz : (puts l (L.take (k + 1))).length ≤ 1048576 + 173 * (k + 1) := by omega
      have O2 := Lib.hid (owns_base ho HB.out.size)
      have B2 := Lib.hid (HB.out.trans (hl.mono HB.out.size))
      clear ho hl HO HB SL e0 e1 e2 e3 e4 e5 HP HQ
      obtain ⟨m2, hm2⟩ : ∃ m2, m2 = (puts l (L.take (k + 1))).length := ⟨_, rfl⟩
      rw [← hm2] at O2 hz ⊢
      clear hm2
      go_wp2
      go_roundw
      case rel => exact ⟨k + 1, g2, m2, cap2, by omega, hz, by go_num, rfl, O2.out, B2.out⟩
      case measure => simp [intOf]; omega
    · obtain rfl : k = n' := by omega
      go_wp2
      go_ret
      rw [HA.out]
      exact givesO_of HO.out HB.out
end Go.Proofs.YtkfibepejlgniaaGreatDoor.PutsS

/- What the program's PutData does: a new slice with the data of a valid record, an empty one for an invalid record. Conditions: at most 1048576 bytes in each text; the library's variable internal/bytealg.MaxLen holds an int. -/
namespace Go.Proofs.YtkfibepejlgniaaGreatDoor.DataP
open Go.RowKit Go.Proofs.YtkfibepejlgniaaGreatDoor.Mem Go.Proofs.YtkfibepejlgniaaGreatDoor.MemR Go.Proofs.YtkfibepejlgniaaGreatDoor.App Go.Proofs.YtkfibepejlgniaaGreatDoor.Put Go.Proofs.YtkfibepejlgniaaGreatDoor.PutLabel Go.Proofs.YtkfibepejlgniaaGreatDoor.BoxR Go.Proofs.YtkfibepejlgniaaGreatDoor.Labels Go.Proofs.YtkfibepejlgniaaGreatDoor.RecOk Go.Proofs.YtkfibepejlgniaaGreatDoor.Plain Go.Proofs.YtkfibepejlgniaaGreatDoor.FieldMath Go.Proofs.YtkfibepejlgniaaGreatDoor.DataS

set_option maxHeartbeats 1000000 in
theorem of_addr (r : Rec) (w : World) (h : r.ty = 1) : Calls Tryz.prog 187 #[.agg #[.string r.name, .int .i64 r.ty, .int .i64 r.ttl, .int .i64 r.n, .string r.host, .string r.text]] w fun e w' => e = .returned (.iface 190 (.int .i64 r.n)) ∧ Below w.heap.size w w' := by
  obtain ⟨name, ty, ttl, n, host, text⟩ := r
  obtain rfl : ty = 1 := h
  have L0 := Lib.hid ((Below.refl w.heap.size w).alloc (Nat.le_refl _) (.cells #[.string name, .int .i64 1, .int .i64 ttl, .int .i64 n, .string host, .string text] 117))
  dsimp only
  go_enter Tryz.func187, Tryz.ntmps187
  go_wp2
  go_ret
  exact ⟨rfl, L0.out⟩

set_option maxHeartbeats 1000000 in
theorem of_server (r : Rec) (w : World) (h : r.ty = 2) : Calls Tryz.prog 187 #[.agg #[.string r.name, .int .i64 r.ty, .int .i64 r.ttl, .int .i64 r.n, .string r.host, .string r.text]] w fun e w' => e = .returned (.iface 191 (.string r.host)) ∧ Below w.heap.size w w' := by
  obtain ⟨name, ty, ttl, n, host, text⟩ := r
  obtain rfl : ty = 2 := h
  have L0 := Lib.hid ((Below.refl w.heap.size w).alloc (Nat.le_refl _) (.cells #[.string name, .int .i64 2, .int .i64 ttl, .int .i64 n, .string host, .string text] 117))
  dsimp only
  go_enter Tryz.func187, Tryz.ntmps187
  go_wp2
  go_ret
  exact ⟨rfl, L0.out⟩

set_option maxHeartbeats 1000000 in
theorem of_alias (r : Rec) (w : World) (h : r.ty = 5) : Calls Tryz.prog 187 #[.agg #[.string r.name, .int .i64 r.ty, .int .i64 r.ttl, .int .i64 r.n, .string r.host, .string r.text]] w fun e w' => e = .returned (.iface 192 (.string r.host)) ∧ Below w.heap.size w w' := by
  obtain ⟨name, ty, ttl, n, host, text⟩ := r
  obtain rfl : ty = 5 := h
  have L0 := Lib.hid ((Below.refl w.heap.size w).alloc (Nat.le_refl _) (.cells #[.string name, .int .i64 5, .int .i64 ttl, .int .i64 n, .string host, .string text] 117))
  dsimp only
  go_enter Tryz.func187, Tryz.ntmps187
  go_wp2
  go_ret
  exact ⟨rfl, L0.out⟩

set_option maxHeartbeats 1000000 in
theorem of_start (r : Rec) (w : World) (h : r.ty = 6) : Calls Tryz.prog 187 #[.agg #[.string r.name, .int .i64 r.ty, .int .i64 r.ttl, .int .i64 r.n, .string r.host, .string r.text]] w fun e w' => e = .returned (.iface 194 (.agg #[.string r.host, .int .i64 r.n])) ∧ Below w.heap.size w w' := by
  obtain ⟨name, ty, ttl, n, host, text⟩ := r
  obtain rfl : ty = 6 := h
  have L0 := Lib.hid ((Below.refl w.heap.size w).alloc (Nat.le_refl _) (.cells #[.string name, .int .i64 6, .int .i64 ttl, .int .i64 n, .string host, .string text] 117))
  dsimp only
  go_enter Tryz.func187, Tryz.ntmps187
  go_wp2
  go_ret
  exact ⟨rfl, L0.out⟩

set_option maxHeartbeats 1000000 in
theorem of_text (r : Rec) (w : World) (h : r.ty = 16) : Calls Tryz.prog 187 #[.agg #[.string r.name, .int .i64 r.ty, .int .i64 r.ttl, .int .i64 r.n, .string r.host, .string r.text]] w fun e w' => e = .returned (.iface 195 (.string r.text)) ∧ Below w.heap.size w w' := by
  obtain ⟨name, ty, ttl, n, host, text⟩ := r
  obtain rfl : ty = 16 := h
  have L0 := Lib.hid ((Below.refl w.heap.size w).alloc (Nat.le_refl _) (.cells #[.string name, .int .i64 16, .int .i64 ttl, .int .i64 n, .string host, .string text] 117))
  dsimp only
  go_enter Tryz.func187, Tryz.ntmps187
  go_wp2
  go_ret
  exact ⟨rfl, L0.out⟩

set_option maxHeartbeats 1000000 in
theorem put_addr (n : Int) (w : World) : Calls Tryz.prog 245 #[.int .i64 n] w (Gives w (tail4 n)) := by
  have HP := Lib.hid (implPut4 none 0 0 [] n w Sl.nil (fun _ => ⟨rfl, rfl⟩) (by omega))
  go_enter Tryz.func245, Tryz.ntmps245
  go_wp2_with fail
  refine HP.out.mono ?_
  rintro e w1 ⟨g, m, c1, rr, rfl, hm, hle, hgg, hk, hl⟩
  have F := Lib.hid (show Gives w (tail4 n) (.returned (.slice (some ⟨g, 0, none⟩) m c1)) w1 from ⟨g, m, c1, rr, rfl, hm, hle, hgg, hk, hl⟩)
  clear hm hle hgg hk hl
  go_wp2
  go_ret
  exact F.out

set_option maxHeartbeats 1000000 in
theorem put_server (s : ByteArray) (w : World) (he : Env w) (hz : s.size ≤ 1048576) : Calls Tryz.prog 246 #[.string s] w (Gives w (tailP s)) := by
  have HP := Lib.hid (Plain.impl none 0 0 [] s w he Sl.nil (fun _ => ⟨rfl, rfl⟩) (by omega) (by omega))
  clear he
  go_enter Tryz.func246, Tryz.ntmps246
  go_wp2_with fail
  refine HP.out.mono ?_
  rintro e w1 ⟨g, m, c1, rr, rfl, hm, hle, hgg, hk, hl⟩
  have F := Lib.hid (show Gives w (tailP s) (.returned (.slice (some ⟨g, 0, none⟩) m c1)) w1 from ⟨g, m, c1, rr, rfl, hm, hle, hgg, hk, hl⟩)
  clear hm hle hgg hk hl
  go_wp2
  go_ret
  exact F.out

set_option maxHeartbeats 1000000 in
theorem put_alias (s : ByteArray) (w : World) (he : Env w) (hz : s.size ≤ 1048576) : Calls Tryz.prog 247 #[.string s] w (Gives w (tailP s)) := by
  have HP := Lib.hid (Plain.impl none 0 0 [] s w he Sl.nil (fun _ => ⟨rfl, rfl⟩) (by omega) (by omega))
  clear he
  go_enter Tryz.func247, Tryz.ntmps247
  go_wp2_with fail
  refine HP.out.mono ?_
  rintro e w1 ⟨g, m, c1, rr, rfl, hm, hle, hgg, hk, hl⟩
  have F := Lib.hid (show Gives w (tailP s) (.returned (.slice (some ⟨g, 0, none⟩) m c1)) w1 from ⟨g, m, c1, rr, rfl, hm, hle, hgg, hk, hl⟩)
  clear hm hle hgg hk hl
  go_wp2
  go_ret
  exact F.out

theorem kept2 {w w1 w2 : World} {g : Nat} {n : Int} {s : ByteArray} (h : (w1.cell? ⟨g, 0, none⟩ = some (.string s) ∧ w1.cell? ⟨g, 1, none⟩ = some (.int .i64 n)) ∧ Sv w w1) (hl : Below w1.heap.size w1 w2) : (w2.cell? ⟨g, 0, none⟩ = some (.string s) ∧ w2.cell? ⟨g, 1, none⟩ = some (.int .i64 n)) ∧ Sv w w2 := by
  have hg : g < w1.heap.size := World.block_lt_of_cell? _ _ h.1.1
  exact ⟨⟨(hl.cell (p := ⟨g, 0, none⟩) hg).trans h.1.1, (hl.cell (p := ⟨g, 1, none⟩) hg).trans h.1.2⟩, h.2.trans (hl.mono h.2.size)⟩
theorem kept2_draw {w w1 : World} {g : Nat} {n : Int} {s : ByteArray} (h : (w1.cell? ⟨g, 0, none⟩ = some (.string s) ∧ w1.cell? ⟨g, 1, none⟩ = some (.int .i64 n)) ∧ Sv w w1) : (w1.drew.cell? ⟨g, 0, none⟩ = some (.string s) ∧ w1.drew.cell? ⟨g, 1, none⟩ = some (.int .i64 n)) ∧ Sv w w1.drew := kept2 h ((Below.refl _ _).drew)

set_option maxHeartbeats 4000000 in
theorem put_start (s : ByteArray) (n : Int) (w : World) (he : Env w) (hz : s.size ≤ 1048576) : Calls Tryz.prog 248 #[.agg #[.string s, .int .i64 n]] w (Gives w (tailP s ++ tail4 n)) := by
  have HE := Lib.hid he
  clear he
  have B0 : Hid (Bk (w.alloc (.cells #[.string s, .int .i64 n] 194)) w.heap.size 194 [.string s, .int .i64 n]) := heap_alloc_new w _
  have x0 : (w.alloc (.cells #[.string s, .int .i64 n] 194)).cell? ⟨w.heap.size, 0, none⟩ = some (.string s) := by rw [B0.out.cell]; rfl
  have x1 : (w.alloc (.cells #[.string s, .int .i64 n] 194)).cell? ⟨w.heap.size, 1, none⟩ = some (.int .i64 n) := by rw [B0.out.cell]; rfl
  have S0 : ((w.alloc (.cells #[.string s, .int .i64 n] 194)).cell? ⟨w.heap.size, 0, none⟩ = some (.string s) ∧ (w.alloc (.cells #[.string s, .int .i64 n] 194)).cell? ⟨w.heap.size, 1, none⟩ = some (.int .i64 n)) ∧ Sv w (w.alloc (.cells #[.string s, .int .i64 n] 194)) := ⟨⟨x0, x1⟩, (Below.refl w.heap.size w).alloc (Nat.le_refl _) _⟩
  have PP : Hid (∀ (W : World), ((W.cell? ⟨w.heap.size, 0, none⟩ = some (.string s) ∧ W.cell? ⟨w.heap.size, 1, none⟩ = some (.int .i64 n)) ∧ Sv w W) → Calls Tryz.prog 134 #[.slice none 0 0, .string s] W (Gives W (tailP s))) := fun W hW => Plain.impl none 0 0 [] s W (HE.out.below hW.2) Sl.nil (fun _ => ⟨rfl, rfl⟩) (by omega) (by omega)
  have hlP := tailP_len s
  clear B0
  go_enter Tryz.func248, Tryz.ntmps248
  go_wp2
  clear x0 x1
  go_region_held3 (fun w' => (w'.cell? ⟨w.heap.size, 0, none⟩ = some (.string s) ∧ w'.cell? ⟨w.heap.size, 1, none⟩ = some (.int .i64 n)) ∧ Sv w w')
    (first | exact S0 | assumption | exact kept2 (by assumption) hl | exact kept2_draw (by assumption) | fail)
    (first
      | (go_at_call 134; refine (PP.out _ (by assumption)).mono ?_; rintro e w11 ⟨gp, mp, cp, rp, rfl, hm, -, hgp, hbp, hl⟩)
      | (go_at_call 168; refine (implPut4 (some ⟨gp, 0, none⟩) mp cp (tailP s) n w11 (hm ▸ (hbp.sl'.wider hbp.lt)) (fun h => by cases h) (by rw [← hm]; omega)).mono ?_; rintro e w12 ⟨g, m, c1, rr, rfl, hm2, hle, hgg, hk, hl⟩)
      | fail)
  rename_i hH
  have hgw : w.heap.size ≤ g := by
    have h2 := hgp
    have h3 := hbp.lt
    simp at h2
    omega
  have F := Lib.hid (show Gives w (tailP s ++ tail4 n) (.returned (.slice (some ⟨g, 0, none⟩) m c1)) w12 from ⟨g, m, c1, rr, rfl, hm2, hle, hgw, hk, hH.2⟩)
  clear hm hbp hm2 hle hgg hk hl hH hgw hgp S0
  go_wp2
  go_ret
  exact F.out

set_option maxHeartbeats 4000000 in
theorem put_text (s : ByteArray) (w : World) (hz : s.size ≤ 12) : Calls Tryz.prog 249 #[.string s] w (Gives w (one s.size ++ s.data.toList)) := by
  obtain ⟨i0, hi, hz0, hz1, hz2⟩ := info_parts Copy.info
  have ht1 : (s.size : Int) ≤ 12 := by omega
  have B1 : Hid (Bk (w.alloc (.cells #[.int .u8 (s.size : Int)] 5)) w.heap.size 5 ((one s.size).map bv ++ [])) := by
    show Bk _ _ _ _
    unfold Bk
    rw [List.append_nil, ← one_cells s.size (by omega), heap_alloc_new]
  have O1 := Lib.hid (owns_of_bk (base := w.heap.size) (n := 1) (cap := 1) B1.out (Nat.le_refl _) (one_len _) (by simp [one_len]) (by unfold maxLen; omega))
  go_enter Tryz.func249, Tryz.ntmps249
  go_wp2_with (at_builtin; refine append_str rfl (.tmp 6) (.tmp 7) 22 9 rfl w.heap.size 5 i0 Tryz.underlying22 Tryz.underlying9 hi hz0 hz1 hz2 w.heap.size 1 1 _ rfl O1.out s rfl ?e1 ?e2 ?e3 ?_)
  case e1 => omega
  case e2 => omega
  case e3 => simp
  intro g3 cap3 w3 hown hgrow
  rw [data_text] at hown
  have F := Lib.hid (gives_of_owns hown (((Below.refl w.heap.size w).alloc (Nat.le_refl _) (.cells #[.int .u8 (s.size : Int)] 5)).grown hgrow (by simp) (fun j hj => by cases hj; exact Nat.le_refl _)))
  clear hown hgrow
  go_wp2
  go_ret
  exact F.out

theorem meth_addr (n : Int) (w : World) : (method 331 190 (.int .i64 n) "loop.example/g00497/impl.put").run Tryz.prog w = .ok (245, .int .i64 n) w := by kernel_rfl
theorem meth_server (s : ByteArray) (w : World) : (method 331 191 (.string s) "loop.example/g00497/impl.put").run Tryz.prog w = .ok (246, .string s) w := by kernel_rfl
theorem meth_alias (s : ByteArray) (w : World) : (method 331 192 (.string s) "loop.example/g00497/impl.put").run Tryz.prog w = .ok (247, .string s) w := by kernel_rfl
theorem meth_start (s : ByteArray) (n : Int) (w : World) : (method 331 194 (.agg #[.string s, .int .i64 n]) "loop.example/g00497/impl.put").run Tryz.prog w = .ok (248, .agg #[.string s, .int .i64 n]) w := by kernel_rfl
theorem meth_text (s : ByteArray) (w : World) : (method 331 195 (.string s) "loop.example/g00497/impl.put").run Tryz.prog w = .ok (249, .string s) w := by kernel_rfl

set_option maxHeartbeats 1000000 in
theorem impl (r : Rec) (w : World) (he : Env w) (hr : Med r) : Calls Tryz.prog 167 #[.agg #[.string r.name, .int .i64 r.ty, .int .i64 r.ttl, .int .i64 r.n, .string r.host, .string r.text]] w (Gives w (dat r)) := by
  have HE := Lib.hid he
  clear he
  have B1 : r.host.size ≤ 1048576 := hr.2.1
  have RO := Lib.hid (fun w he => RecOk.impl r w he hr.mod)
  have TL := Lib.hid (fun h t => text_len (r := r) h t)
  have HY := Lib.hid (fun h => rok_ty (r := r) h)
  have HT := Lib.hid (show dat r = if rok r = true then dta r.ty r.n r.host r.text else [] from rfl)
  have X0 := Lib.hid (bx_new w 117 r)
  have L0 := Lib.hid ((Below.refl w.heap.size w).alloc (Nat.le_refl _) (.cells #[.string r.name, .int .i64 r.ty, .int .i64 r.ttl, .int .i64 r.n, .string r.host, .string r.text] 117))
  generalize dat r = D at *
  obtain ⟨u, hu⟩ : ∃ u, rok r = u := ⟨_, rfl⟩
  have HB := Lib.hid hu
  clear hu
  go_enter Tryz.func167, Tryz.ntmps167
  go_wp2_with fail
  refine (RO.out _ (HE.out.below L0.out)).mono ?_
  rw [HB.out]
  rintro e w1 ⟨rfl, hl⟩
  have L1 := Lib.hid (L0.out.trans (hl.mono L0.out.size))
  have X1 := Lib.hid (X0.out.below hl)
  clear hl L0 X0 RO
  cases u with
  | false =>
    go_wp2
    go_ret
    rw [HT.out, HB.out]
    exact gives_nil L1.out
  | true =>
    obtain ⟨x0, x1, x2, x3, x4, x5⟩ := X1.out
    rcases HY.out HB.out with h1 | h1 | h1 | h1 | h1
    · have H1 := Lib.hid h1
      clear h1
      have hm := meth_addr r.n
      go_wp2_with fail
      refine (of_addr r w1 H1.out).mono ?_
      rintro e w2 ⟨rfl, hl⟩
      have L2 := Lib.hid (L1.out.trans (hl.mono L1.out.size))
      have PU := Lib.hid (put_addr r.n w2)
      clear hl L1 x0 x1 x2 x3 x4 x5 X1
      go_wp2_with fail
      refine PU.out.mono ?_
      rintro e w3 ⟨g, m, c1, rr, rfl, hm1, hle, hgg, hk, hl⟩
      have HD : Hid (D = tail4 r.n) := by show _ = _; rw [HT.out, if_pos HB.out, H1.out, dta_1]
      have F := Lib.hid (show Gives w (tail4 r.n) (.returned (.slice (some ⟨g, 0, none⟩) m c1)) w3 from Gives.later ⟨g, m, c1, rr, rfl, hm1, hle, hgg, hk, hl⟩ L2.out)
      clear hm1 hle hgg hk hl
      go_wp2
      go_ret
      rw [HD.out]
      exact F.out
    · have H1 := Lib.hid h1
      clear h1
      have hm := meth_server r.host
      go_wp2_with fail
      refine (of_server r w1 H1.out).mono ?_
      rintro e w2 ⟨rfl, hl⟩
      have L2 := Lib.hid (L1.out.trans (hl.mono L1.out.size))
      have PU := Lib.hid (put_server r.host w2 (HE.out.below L2.out) B1)
      clear hl L1 x0 x1 x2 x3 x4 x5 X1
      go_wp2_with fail
      refine PU.out.mono ?_
      rintro e w3 ⟨g, m, c1, rr, rfl, hm1, hle, hgg, hk, hl⟩
      have HD : Hid (D = tailP r.host) := by show _ = _; rw [HT.out, if_pos HB.out, H1.out, dta_2]
      have F := Lib.hid (show Gives w (tailP r.host) (.returned (.slice (some ⟨g, 0, none⟩) m c1)) w3 from Gives.later ⟨g, m, c1, rr, rfl, hm1, hle, hgg, hk, hl⟩ L2.out)
      clear hm1 hle hgg hk hl
      go_wp2
      go_ret
      rw [HD.out]
      exact F.out
    · have H1 := Lib.hid h1
      clear h1
      have hm := meth_alias r.host
      go_wp2_with fail
      refine (of_alias r w1 H1.out).mono ?_
      rintro e w2 ⟨rfl, hl⟩
      have L2 := Lib.hid (L1.out.trans (hl.mono L1.out.size))
      have PU := Lib.hid (put_alias r.host w2 (HE.out.below L2.out) B1)
      clear hl L1 x0 x1 x2 x3 x4 x5 X1
      go_wp2_with fail
      refine PU.out.mono ?_
      rintro e w3 ⟨g, m, c1, rr, rfl, hm1, hle, hgg, hk, hl⟩
      have HD : Hid (D = tailP r.host) := by show _ = _; rw [HT.out, if_pos HB.out, H1.out, dta_5]
      have F := Lib.hid (show Gives w (tailP r.host) (.returned (.slice (some ⟨g, 0, none⟩) m c1)) w3 from Gives.later ⟨g, m, c1, rr, rfl, hm1, hle, hgg, hk, hl⟩ L2.out)
      clear hm1 hle hgg hk hl
      go_wp2
      go_ret
      rw [HD.out]
      exact F.out
    · have H1 := Lib.hid h1
      clear h1
      have hm := meth_start r.host r.n
      go_wp2_with fail
      refine (of_start r w1 H1.out).mono ?_
      rintro e w2 ⟨rfl, hl⟩
      have L2 := Lib.hid (L1.out.trans (hl.mono L1.out.size))
      have PU := Lib.hid (put_start r.host r.n w2 (HE.out.below L2.out) B1)
      clear hl L1 x0 x1 x2 x3 x4 x5 X1
      go_wp2_with fail
      refine PU.out.mono ?_
      rintro e w3 ⟨g, m, c1, rr, rfl, hm1, hle, hgg, hk, hl⟩
      have HD : Hid (D = tailP r.host ++ tail4 r.n) := by show _ = _; rw [HT.out, if_pos HB.out, H1.out, dta_6]
      have F := Lib.hid (show Gives w (tailP r.host ++ tail4 r.n) (.returned (.slice (some ⟨g, 0, none⟩) m c1)) w3 from Gives.later ⟨g, m, c1, rr, rfl, hm1, hle, hgg, hk, hl⟩ L2.out)
      clear hm1 hle hgg hk hl
      go_wp2
      go_ret
      rw [HD.out]
      exact F.out
    · have H1 := Lib.hid h1
      clear h1
      have hm := meth_text r.text
      go_wp2_with fail
      refine (of_text r w1 H1.out).mono ?_
      rintro e w2 ⟨rfl, hl⟩
      have L2 := Lib.hid (L1.out.trans (hl.mono L1.out.size))
      have PU := Lib.hid (put_text r.text w2 (TL.out HB.out H1.out))
      clear hl L1 x0 x1 x2 x3 x4 x5 X1
      go_wp2_with fail
      refine PU.out.mono ?_
      rintro e w3 ⟨g, m, c1, rr, rfl, hm1, hle, hgg, hk, hl⟩
      have HD : Hid (D = one r.text.size ++ r.text.data.toList) := by show _ = _; rw [HT.out, if_pos HB.out, H1.out, dta_16]
      have F := Lib.hid (show Gives w (one r.text.size ++ r.text.data.toList) (.returned (.slice (some ⟨g, 0, none⟩) m c1)) w3 from Gives.later ⟨g, m, c1, rr, rfl, hm1, hle, hgg, hk, hl⟩ L2.out)
      clear hm1 hle hgg hk hl
      go_wp2
      go_ret
      rw [HD.out]
      exact F.out

end Go.Proofs.YtkfibepejlgniaaGreatDoor.DataP

/- What the program's PutRecord does: a new slice that holds the old bytes and those of a valid record. Conditions: fewer than 199000001 bytes in the slice, at most 1048576 in each text; the library's variable internal/bytealg.MaxLen holds an int. -/
namespace Go.Proofs.YtkfibepejlgniaaGreatDoor.RecP
open Go.RowKit Go.Proofs.YtkfibepejlgniaaGreatDoor.Mem Go.Proofs.YtkfibepejlgniaaGreatDoor.MemR Go.Proofs.YtkfibepejlgniaaGreatDoor.App Go.Proofs.YtkfibepejlgniaaGreatDoor.Put Go.Proofs.YtkfibepejlgniaaGreatDoor.PutO Go.Proofs.YtkfibepejlgniaaGreatDoor.BoxR Go.Proofs.YtkfibepejlgniaaGreatDoor.Labels Go.Proofs.YtkfibepejlgniaaGreatDoor.RecOk Go.Proofs.YtkfibepejlgniaaGreatDoor.PutSpec Go.Proofs.YtkfibepejlgniaaGreatDoor.FieldMath Go.Proofs.YtkfibepejlgniaaGreatDoor.DataS Go.Proofs.YtkfibepejlgniaaGreatDoor.RecS

set_option maxRecDepth 100000 in
set_option maxHeartbeats 4000000 in
theorem impl (A : Option Addr) (n c : Nat) (l : List UInt8) (r : Rec) (w : World) (he : Env w) (hs : Sl w w.heap.size A n l) (hnc : n ≤ c) (hnil : A = none → n = 0 ∧ c = 0) (hn : n ≤ 199000000) (hr : Med r) :
    Calls Tryz.prog 135 #[.slice A n c, .agg #[.string r.name, .int .i64 r.ty, .int .i64 r.ttl, .int .i64 r.n, .string r.host, .string r.text]] w (GivesO w (l ++ tailR l r)) := by
  obtain ⟨i0, hi, hz0, hz1, hz2⟩ := info_parts Copy.info
  have HE := Lib.hid he
  have HS := Lib.hid hs
  have HL := Lib.hid hs.1
  have HN := Lib.hid hnil
  clear hs hnil he
  have RO := Lib.hid (fun w he => RecOk.impl r w he hr.mod)
  have PD := Lib.hid (fun w he => DataP.impl r w he hr)
  have hnm : r.name.size ≤ 1048576 := hr.1
  have TA := Lib.hid (t_all l r)
  have TN := Lib.hid (t_none l r)
  have X0 := Lib.hid (bx_new w 117 r)
  have L0 := Lib.hid ((Below.refl w.heap.size w).alloc (Nat.le_refl _) (.cells #[.string r.name, .int .i64 r.ty, .int .i64 r.ttl, .int .i64 r.n, .string r.host, .string r.text] 117))
  obtain ⟨u, hu⟩ : ∃ u, rok r = u := ⟨_, rfl⟩
  have HB := Lib.hid hu
  clear hu
  go_enter Tryz.func135, Tryz.ntmps135
  go_wp2_with fail
  refine (RO.out _ (HE.out.below L0.out)).mono ?_
  rw [HB.out]
  rintro e w1 ⟨rfl, hl⟩
  have L1 := Lib.hid (L0.out.trans (hl.mono L0.out.size))
  have X1 := Lib.hid (X0.out.below hl)
  clear hl L0 X0 RO
  cases u with
  | false =>
    go_wp2_with fail
    refine (appendedO A none n c 0 0 l [] w1 ((HS.out.below L1.out).wider L1.out.size) Sl.nil HN.out (fun _ => ⟨rfl, rfl⟩) (by omega) (by omega)).mono ?_
    rintro e w2 ⟨g, c1, rfl, ho, hl⟩
    generalize (l ++ []).length = m at *
    rw [List.append_nil] at ho
    have F := Lib.hid (GivesO.later (givesO_of ho hl) L1.out)
    clear ho hl
    go_wp2
    go_ret
    rw [TN.out HB.out]
    exact F.out
  | true =>
    have h1 := l1 l r
    have h2 := l2 l r
    have h3 := l3 l r
    have h4 := l4 l r
    have h5 := l5 l r
    rw [HL.out] at h1 h2 h3 h4 h5
    have hd := dat_len r
    have P1 : Hid (∀ (W : World), Below w.heap.size w W → Calls Tryz.prog 82 #[.slice A n c, .string r.name] W (Gives W (t1 l r))) :=
      fun W hW => PutName.impl A n c l r.name W (HE.out.below hW) ((HS.out.below hW).wider hW.size) hnc HN.out (by omega) (by omega)
    have P2 : Hid (∀ (g m c : Nat) (rr : List Value) (W : World), (t1 l r).length = m → Bk W g 5 ((t1 l r).map bv ++ rr) → Calls Tryz.prog 83 #[.slice (some ⟨g, 0, none⟩) m c, .int .i64 r.ty] W (Gives W (t2 l r))) :=
      fun g m c rr W hm hb => implPut2 (some ⟨g, 0, none⟩) m c (t1 l r) r.ty W (hm ▸ (hb.sl'.wider hb.lt)) (fun h => by cases h) (by omega)
    have P3 : Hid (∀ (g m c : Nat) (rr : List Value) (W : World), (t2 l r).length = m → Bk W g 5 ((t2 l r).map bv ++ rr) → Calls Tryz.prog 83 #[.slice (some ⟨g, 0, none⟩) m c, .int .i64 1] W (Gives W (t3 l r))) :=
      fun g m c rr W hm hb => implPut2 (some ⟨g, 0, none⟩) m c (t2 l r) 1 W (hm ▸ (hb.sl'.wider hb.lt)) (fun h => by cases h) (by omega)
    have P4 : Hid (∀ (g m c : Nat) (rr : List Value) (W : World), (t3 l r).length = m → Bk W g 5 ((t3 l r).map bv ++ rr) → Calls Tryz.prog 168 #[.slice (some ⟨g, 0, none⟩) m c, .int .i64 r.ttl] W (Gives W (t4 l r))) :=
      fun g m c rr W hm hb => implPut4 (some ⟨g, 0, none⟩) m c (t3 l r) r.ttl W (hm ▸ (hb.sl'.wider hb.lt)) (fun h => by cases h) (by omega)
    have P5 : Hid (∀ (g m c : Nat) (rr : List Value) (W : World), (t4 l r).length = m → Bk W g 5 ((t4 l r).map bv ++ rr) → Calls Tryz.prog 83 #[.slice (some ⟨g, 0, none⟩) m c, .int .i64 ((dat r).length : Int)] W (GivesO W (t5 l r))) :=
      fun g m c rr W hm hb => implPut2O (some ⟨g, 0, none⟩) m c (t4 l r) ((dat r).length : Int) W (hm ▸ (hb.sl'.wider hb.lt)) (fun h => by cases h) (by omega)
    generalize t1 l r = T1 at *
    generalize t2 l r = T2 at *
    generalize t3 l r = T3 at *
    generalize t4 l r = T4 at *
    generalize t5 l r = T5 at *
    generalize dat r = D at *
    obtain ⟨x0, x1, x2, x3, x4, x5⟩ := X1.out
    go_wp2_with fail
    refine (PD.out _ (HE.out.below L1.out)).mono ?_
    rintro e w2 ⟨gd, md, cd, rd, rfl, hmd, hled, hgd, hbd, hl⟩
    have BD2 := Lib.hid hbd
    have GD := Lib.hid (Nat.le_trans L1.out.size hgd)
    have X2 := Lib.hid (X1.out.below hl)
    have L2 := Lib.hid (L1.out.trans (hl.mono L1.out.size))
    subst hmd
    clear hgd hbd hl x0 x1 x2 x3 x4 x5 X1 L1
    obtain ⟨x0, x1, x2, x3, x4, x5⟩ := X2.out
    go_wp2_with fail
    refine (P1.out _ L2.out).mono ?_
    rintro e w3 ⟨g1, m1, c1, r1, rfl, hm, -, hg, hb, hl⟩
    have M3 := Lib.hid hm
    have B3 := Lib.hid hb
    have BD3 := Lib.hid (BD2.out.below hl BD2.out.lt)
    have X3 := Lib.hid (X2.out.below hl)
    have L3 := Lib.hid (L2.out.trans (hl.mono L2.out.size))
    clear hm hg hb hl x0 x1 x2 x3 x4 x5 X2 L2 BD2
    obtain ⟨x0, x1, x2, x3, x4, x5⟩ := X3.out
    go_wp2_with fail
    refine (P2.out _ _ _ _ _ M3.out B3.out).mono ?_
    rintro e w4 ⟨g2, m2, c2, r2, rfl, hm, -, hg, hb, hl⟩
    have M4 := Lib.hid hm
    have B4 := Lib.hid hb
    have BD4 := Lib.hid (BD3.out.below hl BD3.out.lt)
    have X4 := Lib.hid (X3.out.below hl)
    have L4 := Lib.hid (L3.out.trans (hl.mono L3.out.size))
    clear hm hg hb hl x0 x1 x2 x3 x4 x5 X3 L3 BD3 M3 B3
    go_wp2_with fail
    refine (P3.out _ _ _ _ _ M4.out B4.out).mono ?_
    rintro e w5 ⟨g3, m3, c3, r3, rfl, hm, -, hg, hb, hl⟩
    have M5 := Lib.hid hm
    have B5 := Lib.hid hb
    have BD5 := Lib.hid (BD4.out.below hl BD4.out.lt)
    have X5 := Lib.hid (X4.out.below hl)
    have L5 := Lib.hid (L4.out.trans (hl.mono L4.out.size))
    clear hm hg hb hl X4 L4 BD4 M4 B4
    obtain ⟨x0, x1, x2, x3, x4, x5⟩ := X5.out
    go_wp2_with fail
    refine (P4.out _ _ _ _ _ M5.out B5.out).mono ?_
    rintro e w6 ⟨g4, m4, c4, r4, rfl, hm, -, hg, hb, hl⟩
    have M6 := Lib.hid hm
    have B6 := Lib.hid hb
    have BD6 := Lib.hid (BD5.out.below hl BD5.out.lt)
    have L6 := Lib.hid (L5.out.trans (hl.mono L5.out.size))
    clear hm hg hb hl x0 x1 x2 x3 x4 x5 X5 L5 BD5 M5 B5
    go_wp2_with fail
    refine (P5.out g4 m4 c4 r4 w6 M6.out B6.out).mono ?_
    rintro e w7 ⟨g5, c5, rfl, ho, hl⟩
    have O7 := Lib.hid (owns_base ho L6.out.size)
    have BD7 := Lib.hid (BD6.out.below hl BD6.out.lt)
    have L7 := Lib.hid (L6.out.trans (hl.mono L6.out.size))
    have SD := Lib.hid (show Sl w7 w7.heap.size (some ⟨gd, 0, none⟩) D.length D from BD7.out.sl'.wider BD7.out.lt)
    clear ho hl B6 BD6 L6 BD7 M6
    obtain ⟨m5, hm5⟩ : ∃ m, m = T5.length := ⟨_, rfl⟩
    rw [← hm5] at O7 h5 ⊢
    clear hm5
    go_wp2_with (at_builtin; refine append_src rfl (.tmp 32) (.tmp 33) 22 rfl w.heap.size 5 i0 (.int .u8 0) Tryz.underlying22 hi hz0 hz1 hz2 rfl g5 m5 c5 (T5.map bv) rfl O7.out (some ⟨gd, 0, none⟩) D.length cd _ D rfl SD.out (fun h => by cases h) ?d1 ?d2 ?d3 ?_)
    case d1 => omega
    case d2 => omega
    case d3 => exact L7.out.size
    intro g7 c7 w8 hown hgrow
    rw [← List.map_append, TA.out HB.out] at hown
    have O8 := Lib.hid hown
    have L8 := Lib.hid (L7.out.grown hgrow L7.out.size (fun j hj => by cases hj; exact (O7.out.lt g5 rfl).1))
    clear hown hgrow
    go_wp2
    go_ret
    exact givesO_of O8.out L8.out
end Go.Proofs.YtkfibepejlgniaaGreatDoor.RecP

/- What PutRecords does in the program: a new slice that holds the old bytes and those of each valid record. Conditions: at most 1048576 bytes, as many records, as many bytes in each text; the library's variable internal/bytealg.MaxLen holds an int. -/
namespace Go.Proofs.YtkfibepejlgniaaGreatDoor.PutsP
open Go.RowKit Go.Proofs.YtkfibepejlgniaaGreatDoor.Mem Go.Proofs.YtkfibepejlgniaaGreatDoor.MemR Go.Proofs.YtkfibepejlgniaaGreatDoor.App Go.Proofs.YtkfibepejlgniaaGreatDoor.Labels Go.Proofs.YtkfibepejlgniaaGreatDoor.PutO Go.Proofs.YtkfibepejlgniaaGreatDoor.FieldMath Go.Proofs.YtkfibepejlgniaaGreatDoor.DataS Go.Proofs.YtkfibepejlgniaaGreatDoor.PutsS

set_option maxRecDepth 100000 in
set_option maxHeartbeats 4000000 in
theorem impl (A A' : Option Addr) (n c n' c' : Nat) (l : List UInt8) (L : List Rec) (w : World) (he : Env w) (hs : Sl w w.heap.size A n l) (hnil : A = none → n = 0 ∧ c = 0) (hn : n ≤ 1048576) (hS : Sr w w.heap.size A' n' L) (hn' : n' ≤ 1048576) (hM : ∀ r ∈ L, Med r) :
    Calls Tryz.prog 84 #[.slice A n c, .slice A' n' c'] w (GivesO w (puts l L)) := by
  have HE := Lib.hid he
  have HS := Lib.hid hs
  have HN := Lib.hid hnil
  have SS := Lib.hid hS
  have HM := Lib.hid hM
  have HL := Lib.hid hS.1
  have ST := Lib.hid (puts_step l L)
  have PL := Lib.hid (fun k => puts_len (L.take k) l)
  have HZ := Lib.hid hs.1
  have HA : Hid (puts l L = puts l (L.take n')) := by show _ = _; rw [List.take_of_length_le (by rw [hS.1]; omega)]
  have H0 : Hid (puts l (L.take 0) = l) := rfl
  clear hs hnil hS hM he
  go_enter Tryz.func84, Tryz.ntmps84
  go_wp2_with fail
  refine (appendedO A none n c 0 0 l [] w HS.out Sl.nil HN.out (fun _ => ⟨rfl, rfl⟩) (by omega) (by omega)).mono ?_
  rintro e w1 ⟨g1, cap1, rfl, ho, hl⟩
  rw [show (l ++ ([] : List UInt8)).length = n from by rw [List.append_nil]; exact HZ.out] at ho ⊢
  rw [List.append_nil] at ho
  have O1 := Lib.hid ho
  have L1 := Lib.hid hl
  clear ho hl
  go_wp2
  go_loopw [5, 12] (fun v i wr => ∃ (k g m cap : Nat), k ≤ n' ∧ m ≤ 1048576 + 173 * k ∧ i = .int .i64 (k : Int) ∧ v = .slice (some ⟨g, 0, none⟩) m cap ∧ Hid (wr.ownsRow w.heap.size 5 1 (.slice (some ⟨g, 0, none⟩) m cap) m ((puts l (L.take k)).map bv)) ∧ Hid (Below w.heap.size w wr)) (fun _ i _ => n' - (intOf i).toNat)
  case atStart => exact ⟨0, g1, n, cap1, Nat.zero_le _, by omega, rfl, rfl, by rw [H0.out]; exact O1.out, L1.out⟩
  case round =>
    clear O1 L1
    obtain ⟨k, g, m, cap, hk, hm, rfl, rfl, HO, HB⟩ := hrel
    by_cases hlt : k < n'
    · have hkl : k < L.length := by rw [HL.out]; exact hlt
      obtain ⟨b, off, rfl, hbB, hcs⟩ := SS.out.2 (by omega)
      obtain ⟨e0, e1, e2, e3, e4, e5⟩ := (hcs k hkl).below HB.out hbB
      have HQ := Lib.hid (ST.out k hkl)
      have HP := PL.out (k + 1)
      rw [List.length_take, HZ.out] at HP
      have MD := Lib.hid (HM.out L[k] (List.getElem_mem hkl))
      obtain ⟨hsl, hmc⟩ := own_sl HO.out
      have SL := Lib.hid hsl
      clear hcs hsl
      generalize L[k] = r at *
      have BA := Lib.hid (HB.out.alloc HB.out.size (.cells #[.string r.name, .int .i64 r.ty, .int .i64 r.ttl, .int .i64 r.n, .string r.host, .string r.text] 117))
      have SA := Lib.hid (sl_alloc SL.out (.cells #[.string r.name, .int .i64 r.ty, .int .i64 r.ttl, .int .i64 r.n, .string r.host, .string r.text] 117))
      go_wp2_with fail
      refine (RecP.impl (some ⟨g, 0, none⟩) m cap _ r _ (HE.out.below BA.out) SA.out hmc (fun h => by cases h) (by omega) MD.out).mono ?_
      rw [← HQ.out]
      rintro e w2 ⟨g2, cap2, rfl, ho, hl⟩
      have hz : (puts l (L.take (k + 1))).length ≤ 1048576 + 173 * (k + 1) := by omega
      have O2 := Lib.hid (owns_base ho BA.out.size)
      have B2 := Lib.hid (BA.out.trans (hl.mono BA.out.size))
      clear ho hl HO HB SL BA SA e0 e1 e2 e3 e4 e5 HP HQ
      obtain ⟨m2, hm2⟩ : ∃ m2, m2 = (puts l (L.take (k + 1))).length := ⟨_, rfl⟩
      rw [← hm2] at O2 hz ⊢
      clear hm2
      go_wp2
      go_roundw
      case rel => exact ⟨k + 1, g2, m2, cap2, by omega, hz, by go_num, rfl, O2.out, B2.out⟩
      case measure => simp [intOf]; omega
    · obtain rfl : k = n' := by omega
      go_wp2
      go_ret
      rw [HA.out]
      exact givesO_of HO.out HB.out
end Go.Proofs.YtkfibepejlgniaaGreatDoor.PutsP

/- What PutMsg, SizeOf and Fits do, in the program and in the model: the message's bytes as HeadMath tells (pm), and nothing that was there is turned. Conditions: at most 1048576 bytes in each text, as many records; for the program: the library's variable internal/bytealg.MaxLen holds an int. -/
namespace Go.Proofs.YtkfibepejlgniaaGreatDoor.PutM
open Go.RowKit Go.Proofs.YtkfibepejlgniaaGreatDoor.Mem Go.Proofs.YtkfibepejlgniaaGreatDoor.MemR Go.Proofs.YtkfibepejlgniaaGreatDoor.MemM Go.Proofs.YtkfibepejlgniaaGreatDoor.App Go.Proofs.YtkfibepejlgniaaGreatDoor.Labels Go.Proofs.YtkfibepejlgniaaGreatDoor.Put Go.Proofs.YtkfibepejlgniaaGreatDoor.PutO Go.Proofs.YtkfibepejlgniaaGreatDoor.PutSpec Go.Proofs.YtkfibepejlgniaaGreatDoor.FieldMath Go.Proofs.YtkfibepejlgniaaGreatDoor.OkM Go.Proofs.YtkfibepejlgniaaGreatDoor.HeadDef Go.Proofs.YtkfibepejlgniaaGreatDoor.HeadMath Go.Proofs.YtkfibepejlgniaaGreatDoor.HeadS

/-- Whether a message fits. -/
def fit (h : Hd) (l1 l2 l3 : List Rec) : Bool := decide (0 < (pm h l1 l2 l3).length)
/-- The call returned a new slice that reads as l, and turned nothing that was there: told of the block. -/
def GO (l : List UInt8) (W : World) (e : Ending) (w' : World) : Prop :=
  ∃ g m c r, e = .returned (.slice (some ⟨g, 0, none⟩) m c) ∧ l.length = m ∧ m ≤ c ∧ W.heap.size ≤ g ∧ Bk w' g 5 (l.map bv ++ r) ∧ Below W.heap.size W w'
theorem go_of {W w' : World} {l : List UInt8} {e : Ending} (h : Gives W l e w') : GO l W e w' := by
  exact h
theorem sl_of {W : World} {g m : Nat} {l : List UInt8} {r : List Value} (hb : Bk W g 5 (l.map bv ++ r)) (hm : l.length = m) : Sl W W.heap.size (some ⟨g, 0, none⟩) m l := hm ▸ (hb.sl'.wider hb.lt)
theorem rl_len {h : Hd} {l1 l2 l3 : List Rec} (e : mok h l1 l2 l3 = true) : l1.length ≤ 8 ∧ l2.length ≤ 8 ∧ l3.length ≤ 8 := by
  have := mok_parts e
  exact ⟨(rls_parts this.2.2.2.1).2, (rls_parts this.2.2.2.2.1).2, (rls_parts this.2.2.2.2.2).2⟩

set_option maxRecDepth 100000 in
set_option maxHeartbeats 8000000 in
theorem spec (h : Hd) (A1 : Option Addr) (n1 c1 : Nat) (l1 : List Rec) (A2 : Option Addr) (n2 c2 : Nat) (l2 : List Rec) (A3 : Option Addr) (n3 c3 : Nat) (l3 : List Rec) (w : World) (hq : h.qn.size ≤ 1048576) (s1 : Sr w w.heap.size A1 n1 l1) (b1 : n1 ≤ 1048576) (m1 : Meds l1) (s2 : Sr w w.heap.size A2 n2 l2) (b2 : n2 ≤ 1048576) (m2 : Meds l2) (s3 : Sr w w.heap.size A3 n3 l3) (b3 : n3 ≤ 1048576) (m3 : Meds l3) : Calls Tryz.prog 29 #[.agg #[.int .i64 h.id, .bool h.rp, .bool h.au, .bool h.ct, .bool h.wa, .bool h.ca, .int .i64 h.code, .string h.qn, .int .i64 h.qt, .slice A1 n1 c1, .slice A2 n2 c2, .slice A3 n3 c3]] w (Gives w (pm h l1 l2 l3)) := by
  have S0 : Mx (w.alloc (.cells #[.int .i64 h.id, .bool h.rp, .bool h.au, .bool h.ct, .bool h.wa, .bool h.ca, .int .i64 h.code, .string h.qn, .int .i64 h.qt, .slice A1 n1 c1, .slice A2 n2 c2, .slice A3 n3 c3] 28)) w.heap.size h (.slice A1 n1 c1) (.slice A2 n2 c2) (.slice A3 n3 c3) ∧ Sv w (w.alloc (.cells #[.int .i64 h.id, .bool h.rp, .bool h.au, .bool h.ct, .bool h.wa, .bool h.ca, .int .i64 h.code, .string h.qn, .int .i64 h.qt, .slice A1 n1 c1, .slice A2 n2 c2, .slice A3 n3 c3] 28)) := ⟨mx_new w 28 h (.slice A1 n1 c1) (.slice A2 n2 c2) (.slice A3 n3 c3), (Below.refl w.heap.size w).alloc (Nat.le_refl _) _⟩
  have X0 : Hid (Mx (w.alloc (.cells #[.int .i64 h.id, .bool h.rp, .bool h.au, .bool h.ct, .bool h.wa, .bool h.ca, .int .i64 h.code, .string h.qn, .int .i64 h.qt, .slice A1 n1 c1, .slice A2 n2 c2, .slice A3 n3 c3] 28)) w.heap.size h (.slice A1 n1 c1) (.slice A2 n2 c2) (.slice A3 n3 c3)) := S0.1
  have L0 : Hid (Sv w (w.alloc (.cells #[.int .i64 h.id, .bool h.rp, .bool h.au, .bool h.ct, .bool h.wa, .bool h.ca, .int .i64 h.code, .string h.qn, .int .i64 h.qt, .slice A1 n1 c1, .slice A2 n2 c2, .slice A3 n3 c3] 28))) := S0.2
  have MK := Lib.hid (OkM.spec h A1 n1 c1 l1 A2 n2 c2 l2 A3 n3 c3 l3 _ (by omega) (s1.on L0.out) (by omega) m1.mods (s2.on L0.out) (by omega) m2.mods (s3.on L0.out) (by omega) m3.mods)
  have HD := Lib.hid (fun W => (HeadS.spec h A1 A2 A3 n1 c1 n2 c2 n3 c3 W).mono fun _ _ => go_of)
  have NM : Hid (∀ (W : World) (g m c : Nat) (l : List UInt8) (r : List Value), Sv w W → Bk W g 5 (l.map bv ++ r) → l.length = m → m ≤ c → m ≤ 1000000 → Calls Tryz.prog 86 #[.slice (some ⟨g, 0, none⟩) m c, .string h.qn] W (GO (l ++ tailN l h.qn) W)) := fun W g m c l r hW hb hm hc h6 =>
    (PutSpec.spec _ m c l h.qn W (sl_of hb hm) hc (fun h => by cases h) (by omega) hq).mono fun _ _ hg => go_of hg.gives
  have PT : Hid (∀ (W : World) (g m c : Nat) (l : List UInt8) (r : List Value) (k : Int), Bk W g 5 (l.map bv ++ r) → l.length = m → m ≤ 1000000 → Calls Tryz.prog 85 #[.slice (some ⟨g, 0, none⟩) m c, .int .i64 k] W (GO (l ++ tail2 k) W)) := fun W g m c l r k hb hm h6 =>
    (specPut2 _ m c l k W (sl_of hb hm) (fun h => by cases h) (by omega)).mono fun _ _ => go_of
  have R1 : Hid (∀ (W : World) (g m c : Nat) (l : List UInt8) (r : List Value), Sv w W → Bk W g 5 (l.map bv ++ r) → l.length = m → m ≤ 1000000 → Calls Tryz.prog 87 #[.slice (some ⟨g, 0, none⟩) m c, .slice A1 n1 c1] W (GO (puts l l1) W)) := fun W g m c l r hW hb hm h6 =>
    (PutsS.spec _ A1 m c n1 c1 l l1 W (sl_of hb hm) (fun h => by cases h) (by omega) (s1.on hW) b1 m1).mono fun _ _ hg => go_of hg.gives
  have R2 : Hid (∀ (W : World) (g m c : Nat) (l : List UInt8) (r : List Value), Sv w W → Bk W g 5 (l.map bv ++ r) → l.length = m → m ≤ 1000000 → Calls Tryz.prog 87 #[.slice (some ⟨g, 0, none⟩) m c, .slice A2 n2 c2] W (GO (puts l l2) W)) := fun W g m c l r hW hb hm h6 =>
    (PutsS.spec _ A2 m c n2 c2 l l2 W (sl_of hb hm) (fun h => by cases h) (by omega) (s2.on hW) b2 m2).mono fun _ _ hg => go_of hg.gives
  have R3 : Hid (∀ (W : World) (g m c : Nat) (l : List UInt8) (r : List Value), Sv w W → Bk W g 5 (l.map bv ++ r) → l.length = m → m ≤ 1000000 → Calls Tryz.prog 87 #[.slice (some ⟨g, 0, none⟩) m c, .slice A3 n3 c3] W (GO (puts l l3) W)) := fun W g m c l r hW hb hm h6 =>
    (PutsS.spec _ A3 m c n3 c3 l l3 W (sl_of hb hm) (fun h => by cases h) (by omega) (s3.on hW) b3 m3).mono fun _ _ hg => go_of hg.gives
  have HB := Lib.hid (fun (e : mok h l1 l2 l3 = false) => pm_bad e)
  have HG := Lib.hid (fun (e : mok h l1 l2 l3 = true) (g : ¬ 512 < (pmr h l1 l2 l3).length) => pm_good e g)
  have HL := Lib.hid (fun (e : mok h l1 l2 l3 = true) (g : 512 < (pmr h l1 l2 l3).length) => pm_long e g)
  have e1 := s1.1
  have e2 := s2.1
  have e3 := s3.1
  have PR : Hid (pmr h l1 l2 l3 = puts (puts (puts (hdl h n1 n2 n3 ++ tailN (hdl h n1 n2 n3) h.qn ++ tail2 h.qt ++ tail2 1) l1) l2) l3) := by show _ = _; rw [pmr, hqs, e1, e2, e3]
  have B0 := Lib.hid (hdl_len h n1 n2 n3)
  have B1 : Hid (((hdl h n1 n2 n3 ++ tailN (hdl h n1 n2 n3) h.qn)).length ≤ 92) := by show _ ≤ _; rw [List.length_append]; have := tailN_len (hdl h n1 n2 n3) h.qn; have := B0.out; omega
  have B2 := Lib.hid (fun (l : List UInt8) (k : Int) => show (l ++ tail2 k).length ≤ l.length + 2 by rw [List.length_append]; have := t2_len k; omega)
  have B3 := Lib.hid (fun (l : List UInt8) => puts_len l1 l)
  have B4 := Lib.hid (fun (l : List UInt8) => puts_len l2 l)
  have RL := Lib.hid (fun (e : mok h l1 l2 l3 = true) => rl_len e)
  clear s1 s2 s3 m1 m2 m3
  generalize mok h l1 l2 l3 = ok at *
  generalize pm h l1 l2 l3 = K at *
  go_enter Tryz.func29, Tryz.ntmps29
  go_wp2_with fail
  refine MK.out.mono ?_
  rintro e w1 ⟨rfl, hl⟩
  have X1 := Lib.hid (X0.out.below hl)
  have L1 : Hid (Sv w w1) := svt L0.out hl
  clear hl X0 L0 S0 MK
  cases ok
  · have HB2 := Lib.hid (HB.out rfl)
    clear HB HG HL RL
    go_wp2
    go_ret
    rw [HB2.out]
    exact ⟨_, 0, 0, [], rfl, rfl, Nat.le_refl _, L1.out.size, heap_alloc_new w1 _, Below.alloc L1.out L1.out.size _⟩
  have rl := RL.out rfl
  have HG2 := Lib.hid (HG.out rfl)
  have HL2 := Lib.hid (HL.out rfl)
  clear RL HB HG HL
  obtain ⟨q1, q2, q3⟩ := rl
  have S1 : ((w1.cell? ⟨w.heap.size, 0, none⟩ = some (.int .i64 h.id) ∧ w1.cell? ⟨w.heap.size, 1, none⟩ = some (.bool h.rp) ∧ w1.cell? ⟨w.heap.size, 2, none⟩ = some (.bool h.au) ∧ w1.cell? ⟨w.heap.size, 3, none⟩ = some (.bool h.ct) ∧ w1.cell? ⟨w.heap.size, 4, none⟩ = some (.bool h.wa) ∧ w1.cell? ⟨w.heap.size, 5, none⟩ = some (.bool h.ca) ∧ w1.cell? ⟨w.heap.size, 6, none⟩ = some (.int .i64 h.code) ∧ w1.cell? ⟨w.heap.size, 7, none⟩ = some (.string h.qn) ∧ w1.cell? ⟨w.heap.size, 8, none⟩ = some (.int .i64 h.qt) ∧ w1.cell? ⟨w.heap.size, 9, none⟩ = some (.slice A1 n1 c1) ∧ w1.cell? ⟨w.heap.size, 10, none⟩ = some (.slice A2 n2 c2) ∧ w1.cell? ⟨w.heap.size, 11, none⟩ = some (.slice A3 n3 c3)) ∧ Sv w w1) := ⟨X1.out, L1.out⟩
  have v1 : Sv w w1.drew := Below.drew L1.out
  have C1 := Lib.hid (HD.out w1.drew)
  go_wp2
  go_region_held3 (fun w' => ((w'.cell? ⟨w.heap.size, 0, none⟩ = some (.int .i64 h.id) ∧ w'.cell? ⟨w.heap.size, 1, none⟩ = some (.bool h.rp) ∧ w'.cell? ⟨w.heap.size, 2, none⟩ = some (.bool h.au) ∧ w'.cell? ⟨w.heap.size, 3, none⟩ = some (.bool h.ct) ∧ w'.cell? ⟨w.heap.size, 4, none⟩ = some (.bool h.wa) ∧ w'.cell? ⟨w.heap.size, 5, none⟩ = some (.bool h.ca) ∧ w'.cell? ⟨w.heap.size, 6, none⟩ = some (.int .i64 h.code) ∧ w'.cell? ⟨w.heap.size, 7, none⟩ = some (.string h.qn) ∧ w'.cell? ⟨w.heap.size, 8, none⟩ = some (.int .i64 h.qt) ∧ w'.cell? ⟨w.heap.size, 9, none⟩ = some (.slice A1 n1 c1) ∧ w'.cell? ⟨w.heap.size, 10, none⟩ = some (.slice A2 n2 c2) ∧ w'.cell? ⟨w.heap.size, 11, none⟩ = some (.slice A3 n3 c3)) ∧ Sv w w'))
    (first | exact S1 | with_reducible assumption | exact kept1 (by assumption) hl | exact kept1_draw (by assumption) | fail)
    (first
      | (go_at_call 33; (with_reducible refine C1.out.mono ?_); rintro e w2 ⟨g2, k2, d2, r2, rfl, z2, y2, -, h2, hl⟩; have v2 := svt v1 hl; have u2 : k2 ≤ 12 := z2 ▸ B0.out)
      | (go_at_call 86; (with_reducible refine (NM.out w2 g2 k2 d2 _ _ v2 h2 z2 y2 (by omega)).mono ?_); rintro e w3 ⟨g3, k3, d3, r3, rfl, z3, y3, -, h3, hl⟩; have v3 := svt v2 hl; have u3 : k3 ≤ 92 := z3 ▸ B1.out)
      | (go_at_call 85; (with_reducible refine (PT.out w3 g3 k3 d3 _ _ h.qt h3 z3 (by omega)).mono ?_); rintro e w4 ⟨g4, k4, d4, r4, rfl, z4, y4, -, h4, hl⟩; have v4 := svt v3 hl; have u4 : k4 ≤ 94 := Nat.le_trans (z4 ▸ B2.out _ h.qt) (by omega))
      | (go_at_call 85; (with_reducible refine (PT.out w4 g4 k4 d4 _ _ 1 h4 z4 (by omega)).mono ?_); rintro e w5 ⟨g5, k5, d5, r5, rfl, z5, y5, -, h5, hl⟩; have u5 : k5 ≤ 96 := Nat.le_trans (z5 ▸ B2.out _ 1) (by omega))
      | fail)
  rename_i hH
  have M5 := Lib.hid z5
  have G5 := Lib.hid h5
  have X5 : Hid (Mx w5 w.heap.size h (.slice A1 n1 c1) (.slice A2 n2 c2) (.slice A3 n3 c3)) := hH.1
  have L5 : Hid (Sv w w5) := hH.2
  clear z2 z3 z4 z5 y2 y3 y4 y5 h2 h3 h4 h5 v1 v2 v3 v4 u2 u3 u4 hl hH S1 C1 X1 L1 HD NM PT
  have S5 : ((w5.cell? ⟨w.heap.size, 0, none⟩ = some (.int .i64 h.id) ∧ w5.cell? ⟨w.heap.size, 1, none⟩ = some (.bool h.rp) ∧ w5.cell? ⟨w.heap.size, 2, none⟩ = some (.bool h.au) ∧ w5.cell? ⟨w.heap.size, 3, none⟩ = some (.bool h.ct) ∧ w5.cell? ⟨w.heap.size, 4, none⟩ = some (.bool h.wa) ∧ w5.cell? ⟨w.heap.size, 5, none⟩ = some (.bool h.ca) ∧ w5.cell? ⟨w.heap.size, 6, none⟩ = some (.int .i64 h.code) ∧ w5.cell? ⟨w.heap.size, 7, none⟩ = some (.string h.qn) ∧ w5.cell? ⟨w.heap.size, 8, none⟩ = some (.int .i64 h.qt) ∧ w5.cell? ⟨w.heap.size, 9, none⟩ = some (.slice A1 n1 c1) ∧ w5.cell? ⟨w.heap.size, 10, none⟩ = some (.slice A2 n2 c2) ∧ w5.cell? ⟨w.heap.size, 11, none⟩ = some (.slice A3 n3 c3)) ∧ Sv w w5) := ⟨X5.out, L5.out⟩
  have v5 : Sv w w5.drew := Below.drew L5.out
  have C5 := Lib.hid (R1.out w5.drew g5 k5 d5 _ _ v5 G5.out M5.out (by omega))
  go_wp2
  go_region_held3 (fun w' => ((w'.cell? ⟨w.heap.size, 0, none⟩ = some (.int .i64 h.id) ∧ w'.cell? ⟨w.heap.size, 1, none⟩ = some (.bool h.rp) ∧ w'.cell? ⟨w.heap.size, 2, none⟩ = some (.bool h.au) ∧ w'.cell? ⟨w.heap.size, 3, none⟩ = some (.bool h.ct) ∧ w'.cell? ⟨w.heap.size, 4, none⟩ = some (.bool h.wa) ∧ w'.cell? ⟨w.heap.size, 5, none⟩ = some (.bool h.ca) ∧ w'.cell? ⟨w.heap.size, 6, none⟩ = some (.int .i64 h.code) ∧ w'.cell? ⟨w.heap.size, 7, none⟩ = some (.string h.qn) ∧ w'.cell? ⟨w.heap.size, 8, none⟩ = some (.int .i64 h.qt) ∧ w'.cell? ⟨w.heap.size, 9, none⟩ = some (.slice A1 n1 c1) ∧ w'.cell? ⟨w.heap.size, 10, none⟩ = some (.slice A2 n2 c2) ∧ w'.cell? ⟨w.heap.size, 11, none⟩ = some (.slice A3 n3 c3)) ∧ Sv w w'))
    (first | exact S5 | with_reducible assumption | exact kept1 (by assumption) hl | exact kept1_draw (by assumption) | fail)
    (first
      | (go_at_call 87; (with_reducible refine C5.out.mono ?_); rintro e w6 ⟨g6, k6, d6, r6, rfl, z6, y6, -, h6, hl⟩; have v6 := svt v5 hl; have u6 : k6 ≤ 2000 := Nat.le_trans (z6 ▸ B3.out _) (by have := M5.out; omega))
      | (go_at_call 87; (with_reducible refine (R2.out w6 g6 k6 d6 _ _ v6 h6 z6 (by omega)).mono ?_); rintro e w7 ⟨g7, k7, d7, r7, rfl, z7, y7, -, h7, hl⟩; have v7 := svt v6 hl; have u7 : k7 ≤ 4000 := Nat.le_trans (z7 ▸ B4.out _) (by omega))
      | (go_at_call 87; (with_reducible refine (R3.out w7 g7 k7 d7 _ _ v7 h7 z7 (by omega)).mono ?_); rintro e w8 ⟨g8, k8, d8, r8, rfl, z8, y8, p8, h8, hl⟩; have NG : Hid (w.heap.size ≤ g8) := Nat.le_trans (sv_size v7) p8)
      | fail)
  rename_i hH
  have L8 : Hid (Sv w w8) := hH.2
  clear S5 C5 v5 v6 v7 hl hH X5 L5 u6 u7 z6 z7 y6 y7 h6 h7 G5 M5 R1 R2 R3
  rw [← PR.out] at z8 h8
  have M8 := Lib.hid z8
  have G8 := Lib.hid h8
  clear z8 h8
  clear PR
  generalize pmr h l1 l2 l3 = KK at *
  by_cases h5 : 512 < k8
  · have h5' : (512 : Int) < (k8 : Int) := by omega
    have HE := Lib.hid (HL2.out (by rw [M8.out]; exact h5))
    go_wp2
    go_ret
    rw [HE.out]
    exact ⟨_, 0, 0, [], rfl, rfl, Nat.le_refl _, L8.out.size, heap_alloc_new w8 _, Below.alloc L8.out L8.out.size _⟩
  · have h5' : ¬ (512 : Int) < (k8 : Int) := by omega
    have HE := Lib.hid (HG2.out (by rw [M8.out]; exact h5))
    go_wp2
    go_ret
    rw [HE.out]
    exact ⟨g8, k8, d8, r8, rfl, M8.out, y8, NG.out, G8.out, L8.out⟩

set_option maxRecDepth 100000 in
set_option maxHeartbeats 8000000 in
theorem impl (h : Hd) (A1 : Option Addr) (n1 c1 : Nat) (l1 : List Rec) (A2 : Option Addr) (n2 c2 : Nat) (l2 : List Rec) (A3 : Option Addr) (n3 c3 : Nat) (l3 : List Rec) (w : World) (he : Env w) (hq : h.qn.size ≤ 1048576) (s1 : Sr w w.heap.size A1 n1 l1) (b1 : n1 ≤ 1048576) (m1 : Meds l1) (s2 : Sr w w.heap.size A2 n2 l2) (b2 : n2 ≤ 1048576) (m2 : Meds l2) (s3 : Sr w w.heap.size A3 n3 l3) (b3 : n3 ≤ 1048576) (m3 : Meds l3) : Calls Tryz.prog 27 #[.agg #[.int .i64 h.id, .bool h.rp, .bool h.au, .bool h.ct, .bool h.wa, .bool h.ca, .int .i64 h.code, .string h.qn, .int .i64 h.qt, .slice A1 n1 c1, .slice A2 n2 c2, .slice A3 n3 c3]] w (Gives w (pm h l1 l2 l3)) := by
  have S0 : Mx (w.alloc (.cells #[.int .i64 h.id, .bool h.rp, .bool h.au, .bool h.ct, .bool h.wa, .bool h.ca, .int .i64 h.code, .string h.qn, .int .i64 h.qt, .slice A1 n1 c1, .slice A2 n2 c2, .slice A3 n3 c3] 28)) w.heap.size h (.slice A1 n1 c1) (.slice A2 n2 c2) (.slice A3 n3 c3) ∧ Sv w (w.alloc (.cells #[.int .i64 h.id, .bool h.rp, .bool h.au, .bool h.ct, .bool h.wa, .bool h.ca, .int .i64 h.code, .string h.qn, .int .i64 h.qt, .slice A1 n1 c1, .slice A2 n2 c2, .slice A3 n3 c3] 28)) := ⟨mx_new w 28 h (.slice A1 n1 c1) (.slice A2 n2 c2) (.slice A3 n3 c3), (Below.refl w.heap.size w).alloc (Nat.le_refl _) _⟩
  have X0 : Hid (Mx (w.alloc (.cells #[.int .i64 h.id, .bool h.rp, .bool h.au, .bool h.ct, .bool h.wa, .bool h.ca, .int .i64 h.code, .string h.qn, .int .i64 h.qt, .slice A1 n1 c1, .slice A2 n2 c2, .slice A3 n3 c3] 28)) w.heap.size h (.slice A1 n1 c1) (.slice A2 n2 c2) (.slice A3 n3 c3)) := S0.1
  have L0 : Hid (Sv w (w.alloc (.cells #[.int .i64 h.id, .bool h.rp, .bool h.au, .bool h.ct, .bool h.wa, .bool h.ca, .int .i64 h.code, .string h.qn, .int .i64 h.qt, .slice A1 n1 c1, .slice A2 n2 c2, .slice A3 n3 c3] 28))) := S0.2
  have MK := Lib.hid (OkM.impl h A1 n1 c1 l1 A2 n2 c2 l2 A3 n3 c3 l3 _ (he.below L0.out) (by omega) (s1.on L0.out) (by omega) m1.mods (s2.on L0.out) (by omega) m2.mods (s3.on L0.out) (by omega) m3.mods)
  have HD := Lib.hid (fun W => (HeadS.impl h A1 A2 A3 n1 c1 n2 c2 n3 c3 W).mono fun _ _ => go_of)
  have NM : Hid (∀ (W : World) (g m c : Nat) (l : List UInt8) (r : List Value), Sv w W → Bk W g 5 (l.map bv ++ r) → l.length = m → m ≤ c → m ≤ 1000000 → Calls Tryz.prog 82 #[.slice (some ⟨g, 0, none⟩) m c, .string h.qn] W (GO (l ++ tailN l h.qn) W)) := fun W g m c l r hW hb hm hc h6 =>
    (PutName.impl _ m c l h.qn W (he.below hW) (sl_of hb hm) hc (fun h => by cases h) (by omega) hq).mono fun _ _ hg => go_of hg
  have PT : Hid (∀ (W : World) (g m c : Nat) (l : List UInt8) (r : List Value) (k : Int), Bk W g 5 (l.map bv ++ r) → l.length = m → m ≤ 1000000 → Calls Tryz.prog 83 #[.slice (some ⟨g, 0, none⟩) m c, .int .i64 k] W (GO (l ++ tail2 k) W)) := fun W g m c l r k hb hm h6 =>
    (implPut2 _ m c l k W (sl_of hb hm) (fun h => by cases h) (by omega)).mono fun _ _ => go_of
  have R1 : Hid (∀ (W : World) (g m c : Nat) (l : List UInt8) (r : List Value), Sv w W → Bk W g 5 (l.map bv ++ r) → l.length = m → m ≤ 1000000 → Calls Tryz.prog 84 #[.slice (some ⟨g, 0, none⟩) m c, .slice A1 n1 c1] W (GO (puts l l1) W)) := fun W g m c l r hW hb hm h6 =>
    (PutsP.impl _ A1 m c n1 c1 l l1 W (he.below hW) (sl_of hb hm) (fun h => by cases h) (by omega) (s1.on hW) b1 m1).mono fun _ _ hg => go_of hg.gives
  have R2 : Hid (∀ (W : World) (g m c : Nat) (l : List UInt8) (r : List Value), Sv w W → Bk W g 5 (l.map bv ++ r) → l.length = m → m ≤ 1000000 → Calls Tryz.prog 84 #[.slice (some ⟨g, 0, none⟩) m c, .slice A2 n2 c2] W (GO (puts l l2) W)) := fun W g m c l r hW hb hm h6 =>
    (PutsP.impl _ A2 m c n2 c2 l l2 W (he.below hW) (sl_of hb hm) (fun h => by cases h) (by omega) (s2.on hW) b2 m2).mono fun _ _ hg => go_of hg.gives
  have R3 : Hid (∀ (W : World) (g m c : Nat) (l : List UInt8) (r : List Value), Sv w W → Bk W g 5 (l.map bv ++ r) → l.length = m → m ≤ 1000000 → Calls Tryz.prog 84 #[.slice (some ⟨g, 0, none⟩) m c, .slice A3 n3 c3] W (GO (puts l l3) W)) := fun W g m c l r hW hb hm h6 =>
    (PutsP.impl _ A3 m c n3 c3 l l3 W (he.below hW) (sl_of hb hm) (fun h => by cases h) (by omega) (s3.on hW) b3 m3).mono fun _ _ hg => go_of hg.gives
  have HB := Lib.hid (fun (e : mok h l1 l2 l3 = false) => pm_bad e)
  have HG := Lib.hid (fun (e : mok h l1 l2 l3 = true) (g : ¬ 512 < (pmr h l1 l2 l3).length) => pm_good e g)
  have HL := Lib.hid (fun (e : mok h l1 l2 l3 = true) (g : 512 < (pmr h l1 l2 l3).length) => pm_long e g)
  have e1 := s1.1
  have e2 := s2.1
  have e3 := s3.1
  have PR : Hid (pmr h l1 l2 l3 = puts (puts (puts (hdl h n1 n2 n3 ++ tailN (hdl h n1 n2 n3) h.qn ++ tail2 h.qt ++ tail2 1) l1) l2) l3) := by show _ = _; rw [pmr, hqs, e1, e2, e3]
  have B0 := Lib.hid (hdl_len h n1 n2 n3)
  have B1 : Hid (((hdl h n1 n2 n3 ++ tailN (hdl h n1 n2 n3) h.qn)).length ≤ 92) := by show _ ≤ _; rw [List.length_append]; have := tailN_len (hdl h n1 n2 n3) h.qn; have := B0.out; omega
  have B2 := Lib.hid (fun (l : List UInt8) (k : Int) => show (l ++ tail2 k).length ≤ l.length + 2 by rw [List.length_append]; have := t2_len k; omega)
  have B3 := Lib.hid (fun (l : List UInt8) => puts_len l1 l)
  have B4 := Lib.hid (fun (l : List UInt8) => puts_len l2 l)
  have RL := Lib.hid (fun (e : mok h l1 l2 l3 = true) => rl_len e)
  clear s1 s2 s3 m1 m2 m3 he
  generalize mok h l1 l2 l3 = ok at *
  generalize pm h l1 l2 l3 = K at *
  go_enter Tryz.func27, Tryz.ntmps27
  go_wp2_with fail
  refine MK.out.mono ?_
  rintro e w1 ⟨rfl, hl⟩
  have X1 := Lib.hid (X0.out.below hl)
  have L1 : Hid (Sv w w1) := svt L0.out hl
  clear hl X0 L0 S0 MK
  cases ok
  · have HB2 := Lib.hid (HB.out rfl)
    clear HB HG HL RL
    go_wp2
    go_ret
    rw [HB2.out]
    exact ⟨_, 0, 0, [], rfl, rfl, Nat.le_refl _, L1.out.size, heap_alloc_new w1 _, Below.alloc L1.out L1.out.size _⟩
  have rl := RL.out rfl
  have HG2 := Lib.hid (HG.out rfl)
  have HL2 := Lib.hid (HL.out rfl)
  clear RL HB HG HL
  obtain ⟨q1, q2, q3⟩ := rl
  have S1 : ((w1.cell? ⟨w.heap.size, 0, none⟩ = some (.int .i64 h.id) ∧ w1.cell? ⟨w.heap.size, 1, none⟩ = some (.bool h.rp) ∧ w1.cell? ⟨w.heap.size, 2, none⟩ = some (.bool h.au) ∧ w1.cell? ⟨w.heap.size, 3, none⟩ = some (.bool h.ct) ∧ w1.cell? ⟨w.heap.size, 4, none⟩ = some (.bool h.wa) ∧ w1.cell? ⟨w.heap.size, 5, none⟩ = some (.bool h.ca) ∧ w1.cell? ⟨w.heap.size, 6, none⟩ = some (.int .i64 h.code) ∧ w1.cell? ⟨w.heap.size, 7, none⟩ = some (.string h.qn) ∧ w1.cell? ⟨w.heap.size, 8, none⟩ = some (.int .i64 h.qt) ∧ w1.cell? ⟨w.heap.size, 9, none⟩ = some (.slice A1 n1 c1) ∧ w1.cell? ⟨w.heap.size, 10, none⟩ = some (.slice A2 n2 c2) ∧ w1.cell? ⟨w.heap.size, 11, none⟩ = some (.slice A3 n3 c3)) ∧ Sv w w1) := ⟨X1.out, L1.out⟩
  have v1 : Sv w w1.drew := Below.drew L1.out
  have C1 := Lib.hid (HD.out w1.drew)
  go_wp2
  go_region_held3 (fun w' => ((w'.cell? ⟨w.heap.size, 0, none⟩ = some (.int .i64 h.id) ∧ w'.cell? ⟨w.heap.size, 1, none⟩ = some (.bool h.rp) ∧ w'.cell? ⟨w.heap.size, 2, none⟩ = some (.bool h.au) ∧ w'.cell? ⟨w.heap.size, 3, none⟩ = some (.bool h.ct) ∧ w'.cell? ⟨w.heap.size, 4, none⟩ = some (.bool h.wa) ∧ w'.cell? ⟨w.heap.size, 5, none⟩ = some (.bool h.ca) ∧ w'.cell? ⟨w.heap.size, 6, none⟩ = some (.int .i64 h.code) ∧ w'.cell? ⟨w.heap.size, 7, none⟩ = some (.string h.qn) ∧ w'.cell? ⟨w.heap.size, 8, none⟩ = some (.int .i64 h.qt) ∧ w'.cell? ⟨w.heap.size, 9, none⟩ = some (.slice A1 n1 c1) ∧ w'.cell? ⟨w.heap.size, 10, none⟩ = some (.slice A2 n2 c2) ∧ w'.cell? ⟨w.heap.size, 11, none⟩ = some (.slice A3 n3 c3)) ∧ Sv w w'))
    (first | exact S1 | with_reducible assumption | exact kept1 (by assumption) hl | exact kept1_draw (by assumption) | fail)
    (first
      | (go_at_call 32; (with_reducible refine C1.out.mono ?_); rintro e w2 ⟨g2, k2, d2, r2, rfl, z2, y2, -, h2, hl⟩; have v2 := svt v1 hl; have u2 : k2 ≤ 12 := z2 ▸ B0.out)
      | (go_at_call 82; (with_reducible refine (NM.out w2 g2 k2 d2 _ _ v2 h2 z2 y2 (by omega)).mono ?_); rintro e w3 ⟨g3, k3, d3, r3, rfl, z3, y3, -, h3, hl⟩; have u3 : k3 ≤ 92 := z3 ▸ B1.out)
      | fail)
  rename_i hH
  have M3 := Lib.hid z3
  have G3 := Lib.hid h3
  have X3 : Hid (Mx w3 w.heap.size h (.slice A1 n1 c1) (.slice A2 n2 c2) (.slice A3 n3 c3)) := hH.1
  have L3 : Hid (Sv w w3) := hH.2
  clear z2 z3 y2 y3 h2 h3 v1 v2 u2 hl hH S1 C1 X1 L1 HD NM
  obtain ⟨x0, x1, x2, x3, x4, x5, x6, x7, x8, x9, x10, x11⟩ := X3.out
  go_wp2_with fail
  refine (PT.out w3 g3 k3 d3 _ _ h.qt G3.out M3.out (by omega)).mono ?_
  rintro e w4 ⟨g4, k4, d4, r4, rfl, hm, -, -, hb, hl⟩
  have u4 : k4 ≤ 94 := Nat.le_trans (hm ▸ B2.out _ h.qt) (by have := M3.out; omega)
  have M4 := Lib.hid hm
  have X4 := Lib.hid (X3.out.below hl)
  have L4 : Hid (Sv w w4) := svt L3.out hl
  have G4 := Lib.hid hb
  clear hm hb hl X3 L3 G3 M3 u3 x0 x1 x2 x3 x4 x5 x6 x7 x8 x9 x10 x11
  go_wp2_with fail
  refine (PT.out w4 g4 k4 d4 _ _ 1 G4.out M4.out (by omega)).mono ?_
  rintro e w5 ⟨g5, k5, d5, r5, rfl, hm, -, -, hb, hl⟩
  have u5 : k5 ≤ 96 := Nat.le_trans (hm ▸ B2.out _ 1) (by have := M4.out; omega)
  have M5 := Lib.hid hm
  have X5 := Lib.hid (X4.out.below hl)
  have L5 : Hid (Sv w w5) := svt L4.out hl
  have G5 := Lib.hid hb
  clear hm hb hl X4 L4 G4 M4 u4
  obtain ⟨x0, x1, x2, x3, x4, x5, x6, x7, x8, x9, x10, x11⟩ := X5.out
  go_wp2_with fail
  refine (R1.out w5 g5 k5 d5 _ _ L5.out G5.out M5.out (by omega)).mono ?_
  rintro e w6 ⟨g6, k6, d6, r6, rfl, hm, -, -, hb, hl⟩
  have u6 : k6 ≤ 2000 := Nat.le_trans (hm ▸ B3.out _) (by have := M5.out; omega)
  have M6 := Lib.hid hm
  have X6 := Lib.hid (X5.out.below hl)
  have L6 : Hid (Sv w w6) := svt L5.out hl
  have G6 := Lib.hid hb
  clear hm hb hl X5 L5 G5 M5 u5 x0 x1 x2 x3 x4 x5 x6 x7 x8 x9 x10 x11
  obtain ⟨x0, x1, x2, x3, x4, x5, x6, x7, x8, x9, x10, x11⟩ := X6.out
  go_wp2_with fail
  refine (R2.out w6 g6 k6 d6 _ _ L6.out G6.out M6.out (by omega)).mono ?_
  rintro e w7 ⟨g7, k7, d7, r7, rfl, hm, -, -, hb, hl⟩
  have u7 : k7 ≤ 4000 := Nat.le_trans (hm ▸ B4.out _) (by have := M6.out; omega)
  have M7 := Lib.hid hm
  have X7 := Lib.hid (X6.out.below hl)
  have L7 : Hid (Sv w w7) := svt L6.out hl
  have G7 := Lib.hid hb
  clear hm hb hl X6 L6 G6 M6 u6 x0 x1 x2 x3 x4 x5 x6 x7 x8 x9 x10 x11
  obtain ⟨x0, x1, x2, x3, x4, x5, x6, x7, x8, x9, x10, x11⟩ := X7.out
  go_wp2_with fail
  refine (R3.out w7 g7 k7 d7 _ _ L7.out G7.out M7.out (by omega)).mono ?_
  rintro e w8 ⟨g8, k8, d8, r8, rfl, hm, y8, p8, hb, hl⟩
  have NG : Hid (w.heap.size ≤ g8) := Nat.le_trans (sv_size L7.out) p8
  clear p8
  rw [← PR.out] at hm hb
  have M8 := Lib.hid hm
  have X8 := Lib.hid (X7.out.below hl)
  have L8 : Hid (Sv w w8) := svt L7.out hl
  have G8 := Lib.hid hb
  clear hm hb hl X7 L7 G7 M7 u7 x0 x1 x2 x3 x4 x5 x6 x7 x8 x9 x10 x11
  clear PR X8
  generalize pmr h l1 l2 l3 = KK at *
  by_cases h5 : 512 < k8
  · have h5' : (512 : Int) < (k8 : Int) := by omega
    have HE := Lib.hid (HL2.out (by rw [M8.out]; exact h5))
    go_wp2
    go_ret
    rw [HE.out]
    exact ⟨_, 0, 0, [], rfl, rfl, Nat.le_refl _, L8.out.size, heap_alloc_new w8 _, Below.alloc L8.out L8.out.size _⟩
  · have h5' : ¬ (512 : Int) < (k8 : Int) := by omega
    have HE := Lib.hid (HG2.out (by rw [M8.out]; exact h5))
    go_wp2
    go_ret
    rw [HE.out]
    exact ⟨g8, k8, d8, r8, rfl, M8.out, y8, NG.out, G8.out, L8.out⟩

set_option maxHeartbeats 2000000 in
theorem sizeS (h : Hd) (A1 : Option Addr) (n1 c1 : Nat) (l1 : List Rec) (A2 : Option Addr) (n2 c2 : Nat) (l2 : List Rec) (A3 : Option Addr) (n3 c3 : Nat) (l3 : List Rec) (w : World) (hq : h.qn.size ≤ 1048576) (s1 : Sr w w.heap.size A1 n1 l1) (b1 : n1 ≤ 1048576) (m1 : Meds l1) (s2 : Sr w w.heap.size A2 n2 l2) (b2 : n2 ≤ 1048576) (m2 : Meds l2) (s3 : Sr w w.heap.size A3 n3 l3) (b3 : n3 ≤ 1048576) (m3 : Meds l3) : Calls Tryz.prog 52 #[.agg #[.int .i64 h.id, .bool h.rp, .bool h.au, .bool h.ct, .bool h.wa, .bool h.ca, .int .i64 h.code, .string h.qn, .int .i64 h.qt, .slice A1 n1 c1, .slice A2 n2 c2, .slice A3 n3 c3]] w fun e w' => e = .returned (.int .i64 ((pm h l1 l2 l3).length : Int)) ∧ Below w.heap.size w w' := by
  have L0 := Lib.hid ((Below.refl w.heap.size w).alloc (Nat.le_refl _) (.cells #[.int .i64 h.id, .bool h.rp, .bool h.au, .bool h.ct, .bool h.wa, .bool h.ca, .int .i64 h.code, .string h.qn, .int .i64 h.qt, .slice A1 n1 c1, .slice A2 n2 c2, .slice A3 n3 c3] 28))
  obtain ⟨x0, x1, x2, x3, x4, x5, x6, x7, x8, x9, x10, x11⟩ := mx_new w 28 h (.slice A1 n1 c1) (.slice A2 n2 c2) (.slice A3 n3 c3)
  have C := Lib.hid (PutM.spec h A1 n1 c1 l1 A2 n2 c2 l2 A3 n3 c3 l3 _ hq (s1.on L0.out) b1 m1 (s2.on L0.out) b2 m2 (s3.on L0.out) b3 m3)
  have KL := pm_len h l1 l2 l3
  clear s1 s2 s3 m1 m2 m3
  go_enter Tryz.func52, Tryz.ntmps52
  go_wp2_with fail
  refine C.out.mono ?_
  rintro e w1 ⟨g, m, c, r, rfl, hm, -, -, -, hl⟩
  have L1 := Lib.hid (L0.out.trans (hl.mono L0.out.size))
  have HM := Lib.hid hm
  clear hl hm L0 C
  go_wp2
  go_ret
  exact ⟨by rw [HM.out]; rfl, L1.out⟩

set_option maxHeartbeats 2000000 in
theorem fitsS (h : Hd) (A1 : Option Addr) (n1 c1 : Nat) (l1 : List Rec) (A2 : Option Addr) (n2 c2 : Nat) (l2 : List Rec) (A3 : Option Addr) (n3 c3 : Nat) (l3 : List Rec) (w : World) (hq : h.qn.size ≤ 1048576) (s1 : Sr w w.heap.size A1 n1 l1) (b1 : n1 ≤ 1048576) (m1 : Meds l1) (s2 : Sr w w.heap.size A2 n2 l2) (b2 : n2 ≤ 1048576) (m2 : Meds l2) (s3 : Sr w w.heap.size A3 n3 l3) (b3 : n3 ≤ 1048576) (m3 : Meds l3) : Calls Tryz.prog 53 #[.agg #[.int .i64 h.id, .bool h.rp, .bool h.au, .bool h.ct, .bool h.wa, .bool h.ca, .int .i64 h.code, .string h.qn, .int .i64 h.qt, .slice A1 n1 c1, .slice A2 n2 c2, .slice A3 n3 c3]] w fun e w' => e = .returned (.bool (fit h l1 l2 l3)) ∧ Below w.heap.size w w' := by
  have L0 := Lib.hid ((Below.refl w.heap.size w).alloc (Nat.le_refl _) (.cells #[.int .i64 h.id, .bool h.rp, .bool h.au, .bool h.ct, .bool h.wa, .bool h.ca, .int .i64 h.code, .string h.qn, .int .i64 h.qt, .slice A1 n1 c1, .slice A2 n2 c2, .slice A3 n3 c3] 28))
  obtain ⟨x0, x1, x2, x3, x4, x5, x6, x7, x8, x9, x10, x11⟩ := mx_new w 28 h (.slice A1 n1 c1) (.slice A2 n2 c2) (.slice A3 n3 c3)
  have C := Lib.hid (sizeS h A1 n1 c1 l1 A2 n2 c2 l2 A3 n3 c3 l3 _ hq (s1.on L0.out) b1 m1 (s2.on L0.out) b2 m2 (s3.on L0.out) b3 m3)
  have KL := pm_len h l1 l2 l3
  clear s1 s2 s3 m1 m2 m3
  go_enter Tryz.func53, Tryz.ntmps53
  go_wp2_with fail
  refine C.out.mono ?_
  rintro e w1 ⟨rfl, hl⟩
  have L1 := Lib.hid (L0.out.trans (hl.mono L0.out.size))
  have HF : Hid (fit h l1 l2 l3 = decide (0 < (pm h l1 l2 l3).length)) := rfl
  generalize (pm h l1 l2 l3).length = m at *
  clear hl L0 C
  by_cases h0 : 0 < m
  · have h0' : (0 : Int) < (m : Int) := by omega
    have HF2 : Hid (fit h l1 l2 l3 = true) := HF.out.trans (decide_eq_true h0)
    go_wp2
    go_ret
    exact ⟨by rw [HF2.out]; rfl, L1.out⟩
  · have h0' : ¬ (0 : Int) < (m : Int) := by omega
    have HF2 : Hid (fit h l1 l2 l3 = false) := HF.out.trans (decide_eq_false h0)
    go_wp2
    go_ret
    exact ⟨by rw [HF2.out]; rfl, L1.out⟩

set_option maxHeartbeats 2000000 in
theorem sizeI (h : Hd) (A1 : Option Addr) (n1 c1 : Nat) (l1 : List Rec) (A2 : Option Addr) (n2 c2 : Nat) (l2 : List Rec) (A3 : Option Addr) (n3 c3 : Nat) (l3 : List Rec) (w : World) (he : Env w) (hq : h.qn.size ≤ 1048576) (s1 : Sr w w.heap.size A1 n1 l1) (b1 : n1 ≤ 1048576) (m1 : Meds l1) (s2 : Sr w w.heap.size A2 n2 l2) (b2 : n2 ≤ 1048576) (m2 : Meds l2) (s3 : Sr w w.heap.size A3 n3 l3) (b3 : n3 ≤ 1048576) (m3 : Meds l3) : Calls Tryz.prog 30 #[.agg #[.int .i64 h.id, .bool h.rp, .bool h.au, .bool h.ct, .bool h.wa, .bool h.ca, .int .i64 h.code, .string h.qn, .int .i64 h.qt, .slice A1 n1 c1, .slice A2 n2 c2, .slice A3 n3 c3]] w fun e w' => e = .returned (.int .i64 ((pm h l1 l2 l3).length : Int)) ∧ Below w.heap.size w w' := by
  have L0 := Lib.hid ((Below.refl w.heap.size w).alloc (Nat.le_refl _) (.cells #[.int .i64 h.id, .bool h.rp, .bool h.au, .bool h.ct, .bool h.wa, .bool h.ca, .int .i64 h.code, .string h.qn, .int .i64 h.qt, .slice A1 n1 c1, .slice A2 n2 c2, .slice A3 n3 c3] 28))
  obtain ⟨x0, x1, x2, x3, x4, x5, x6, x7, x8, x9, x10, x11⟩ := mx_new w 28 h (.slice A1 n1 c1) (.slice A2 n2 c2) (.slice A3 n3 c3)
  have C := Lib.hid (PutM.impl h A1 n1 c1 l1 A2 n2 c2 l2 A3 n3 c3 l3 _ (he.below L0.out) hq (s1.on L0.out) b1 m1 (s2.on L0.out) b2 m2 (s3.on L0.out) b3 m3)
  have KL := pm_len h l1 l2 l3
  clear s1 s2 s3 m1 m2 m3 he
  go_enter Tryz.func30, Tryz.ntmps30
  go_wp2_with fail
  refine C.out.mono ?_
  rintro e w1 ⟨g, m, c, r, rfl, hm, -, -, -, hl⟩
  have L1 := Lib.hid (L0.out.trans (hl.mono L0.out.size))
  have HM := Lib.hid hm
  clear hl hm L0 C
  go_wp2
  go_ret
  exact ⟨by rw [HM.out]; rfl, L1.out⟩

set_option maxHeartbeats 2000000 in
theorem fitsI (h : Hd) (A1 : Option Addr) (n1 c1 : Nat) (l1 : List Rec) (A2 : Option Addr) (n2 c2 : Nat) (l2 : List Rec) (A3 : Option Addr) (n3 c3 : Nat) (l3 : List Rec) (w : World) (he : Env w) (hq : h.qn.size ≤ 1048576) (s1 : Sr w w.heap.size A1 n1 l1) (b1 : n1 ≤ 1048576) (m1 : Meds l1) (s2 : Sr w w.heap.size A2 n2 l2) (b2 : n2 ≤ 1048576) (m2 : Meds l2) (s3 : Sr w w.heap.size A3 n3 l3) (b3 : n3 ≤ 1048576) (m3 : Meds l3) : Calls Tryz.prog 31 #[.agg #[.int .i64 h.id, .bool h.rp, .bool h.au, .bool h.ct, .bool h.wa, .bool h.ca, .int .i64 h.code, .string h.qn, .int .i64 h.qt, .slice A1 n1 c1, .slice A2 n2 c2, .slice A3 n3 c3]] w fun e w' => e = .returned (.bool (fit h l1 l2 l3)) ∧ Below w.heap.size w w' := by
  have L0 := Lib.hid ((Below.refl w.heap.size w).alloc (Nat.le_refl _) (.cells #[.int .i64 h.id, .bool h.rp, .bool h.au, .bool h.ct, .bool h.wa, .bool h.ca, .int .i64 h.code, .string h.qn, .int .i64 h.qt, .slice A1 n1 c1, .slice A2 n2 c2, .slice A3 n3 c3] 28))
  obtain ⟨x0, x1, x2, x3, x4, x5, x6, x7, x8, x9, x10, x11⟩ := mx_new w 28 h (.slice A1 n1 c1) (.slice A2 n2 c2) (.slice A3 n3 c3)
  have C := Lib.hid (sizeI h A1 n1 c1 l1 A2 n2 c2 l2 A3 n3 c3 l3 _ (he.below L0.out) hq (s1.on L0.out) b1 m1 (s2.on L0.out) b2 m2 (s3.on L0.out) b3 m3)
  have KL := pm_len h l1 l2 l3
  clear s1 s2 s3 m1 m2 m3 he
  go_enter Tryz.func31, Tryz.ntmps31
  go_wp2_with fail
  refine C.out.mono ?_
  rintro e w1 ⟨rfl, hl⟩
  have L1 := Lib.hid (L0.out.trans (hl.mono L0.out.size))
  have HF : Hid (fit h l1 l2 l3 = decide (0 < (pm h l1 l2 l3).length)) := rfl
  generalize (pm h l1 l2 l3).length = m at *
  clear hl L0 C
  by_cases h0 : 0 < m
  · have h0' : (0 : Int) < (m : Int) := by omega
    have HF2 : Hid (fit h l1 l2 l3 = true) := HF.out.trans (decide_eq_true h0)
    go_wp2
    go_ret
    exact ⟨by rw [HF2.out]; rfl, L1.out⟩
  · have h0' : ¬ (0 : Int) < (m : Int) := by omega
    have HF2 : Hid (fit h l1 l2 l3 = false) := HF.out.trans (decide_eq_false h0)
    go_wp2
    go_ret
    exact ⟨by rw [HF2.out]; rfl, L1.out⟩
end Go.Proofs.YtkfibepejlgniaaGreatDoor.PutM

/- Plain mathematics: a name that is read is valid, ends behind its offset and inside the bytes, and follows no more pointers than there are bytes. -/
namespace Go.Proofs.YtkfibepejlgniaaGreatDoor.WireGood
open Go.Proofs.YtkfibepejlgniaaGreatDoor.JoinSpec Go.Proofs.YtkfibepejlgniaaGreatDoor.GetLabel Go.Proofs.YtkfibepejlgniaaGreatDoor.NameOk Go.Proofs.YtkfibepejlgniaaGreatDoor.WireMath

/-- What is known on the way from offset o. -/
def Way (l : List UInt8) (o k m : Int) (j : Nat) (x : Int) : Prop :=
  (x = -1 ∧ o ≤ k ∧ j = 0 ∧ m = o) ∨ (0 ≤ x ∧ o < x ∧ x ≤ (l.length : Int) ∧ 0 ≤ m ∧ (j : Int) + m ≤ (l.length : Int))
theorem go_good (l : List UInt8) (o : Int) (L' : List ByteArray) (x' : Int) (j' : Nat) : ∀ f L k m j x, go l f L k m j x = (0, L', x', j') → okL L = true → Nm (Jo L) = true → Way l o k m j x →
    okL L' = true ∧ Nm (Jo L') = true ∧ o < x' ∧ x' ≤ (l.length : Int) ∧ (j' : Int) ≤ (l.length : Int)
  | 0, L, k, m, j, x, h, _, _, _ => by simp [go] at h
  | f + 1, L, k, m, j, x, h, hok, hnm, hw => by
    unfold go at h
    split at h
    · simp at h
    · rename_i hk
      split at h
      · simp only [Prod.mk.injEq, true_and] at h
        obtain ⟨rfl, rfl, rfl⟩ := h
        refine ⟨hok, hnm, ?_⟩
        rcases hw with ⟨rfl, h1, rfl, rfl⟩ | ⟨h0, h1, h2, h3, h4⟩
        · rw [if_pos (by omega)]
          omega
        · rw [if_neg (by omega)]
          omega
      · rename_i h0
        split at h
        · rename_i h192
          split at h
          · simp at h
          · rename_i h1
            split at h
            · simp at h
            · rename_i h2
              have ht := tg_pos l k h192
              refine go_good l o L' x' j' f L _ _ _ _ h hok hnm (Or.inr ?_)
              rcases hw with ⟨rfl, h3, rfl, rfl⟩ | ⟨h3, h4, h5, h6, h7⟩
              · rw [if_pos (by omega)]
                omega
              · rw [if_neg (by omega)]
                omega
        · cases hh : has l k with
          | none =>
            rw [hh] at h
            simp only [Prod.mk.injEq] at h
            have := h.1
            split at this <;> omega
          | some q =>
            obtain ⟨p, e⟩ := q
            rw [hh] at h
            dsimp only at h
            split at h
            · rename_i h3
              have hs := has_some hh
              refine go_good l o L' x' j' f _ _ _ _ _ h (okL_snoc hok hs.2.2.2.1) h3 ?_
              rcases hw with ⟨rfl, h4, h5, h6⟩ | h4
              · exact Or.inl ⟨rfl, by omega, h5, h6⟩
              · exact Or.inr h4
            · simp at h
theorem rn_good {l : List UInt8} {k : Int} {L' : List ByteArray} {x' : Int} {j' : Nat} (h : rn l [] k k 0 (-1) = (0, L', x', j')) :
    okL L' = true ∧ Nm (Jo L') = true ∧ k < x' ∧ x' ≤ (l.length : Int) ∧ (j' : Int) ≤ (l.length : Int) :=
  go_good l k L' x' j' _ _ _ _ _ _ h rfl rfl (Or.inl ⟨rfl, Int.le_refl _, rfl, rfl⟩)
end Go.Proofs.YtkfibepejlgniaaGreatDoor.WireGood

/- Plain mathematics: a name is read back out of its encoding, with and without pointers. -/
namespace Go.Proofs.YtkfibepejlgniaaGreatDoor.WireBack
open Go.Proofs.YtkfibepejlgniaaGreatDoor.Mem Go.Proofs.YtkfibepejlgniaaGreatDoor.MemS Go.Proofs.YtkfibepejlgniaaGreatDoor.JoinSpec Go.Proofs.YtkfibepejlgniaaGreatDoor.Split Go.Proofs.YtkfibepejlgniaaGreatDoor.JoinLab Go.Proofs.YtkfibepejlgniaaGreatDoor.Label Go.Proofs.YtkfibepejlgniaaGreatDoor.Fold Go.Proofs.YtkfibepejlgniaaGreatDoor.GetLabel Go.Proofs.YtkfibepejlgniaaGreatDoor.PutLabel Go.Proofs.YtkfibepejlgniaaGreatDoor.NameOk Go.Proofs.YtkfibepejlgniaaGreatDoor.Plain Go.Proofs.YtkfibepejlgniaaGreatDoor.Place Go.Proofs.YtkfibepejlgniaaGreatDoor.Put Go.Proofs.YtkfibepejlgniaaGreatDoor.PutSpec Go.Proofs.YtkfibepejlgniaaGreatDoor.WireMath Go.Proofs.YtkfibepejlgniaaGreatDoor.WireGood

theorem fo_ok {x : UInt8} (h : okB x = true) : fo x = x := by
  unfold okB okC at h
  have h := of_decide_eq_true h
  unfold fo
  rw [if_neg (by omega)]
theorem Fo_ok {p : ByteArray} (h : lok p.data.toList = true) : Fo p = p := by
  apply text_ext
  rw [Fo_list]
  rw [lok, Bool.and_eq_true] at h
  have h2 := List.all_eq_true.1 h.2
  conv => rhs; rw [← List.map_id p.data.toList]
  exact List.map_congr_left fun x hx => fo_ok (h2 x hx)
theorem tailL_ok {p : ByteArray} (h : lok p.data.toList = true) : tailL p = one p.size ++ p.data.toList := by rw [tailL, h]; rfl
theorem tailL_two {p : ByteArray} (h : lok p.data.toList = true) : (tailL p).length = 1 + p.size ∧ 1 ≤ p.size ∧ p.size ≤ 12 := by
  have h1 := PutLabel.lok_len h
  have hz : p.data.toList.length = p.size := by simp
  rw [tailL_ok h, List.length_append, one_len, hz]
  omega
theorem get_mid (P Q R : List UInt8) (i : Nat) (h : i < Q.length) : (P ++ Q ++ R).getD (P.length + i) 0 = Q[i] := by
  rw [List.getD_eq_getElem?_getD, List.append_assoc, List.getElem?_append_right (by omega), Nat.add_sub_cancel_left, List.getElem?_append_left h, List.getElem?_eq_getElem h]
  rfl
theorem bt_mid (P Q R : List UInt8) (i : Nat) (h : i < Q.length) : bt (P ++ Q ++ R) ((P.length : Int) + (i : Int)) = (Q[i].toNat : Int) := by
  unfold bt
  rw [show ((P.length : Int) + (i : Int)).toNat = P.length + i by omega, get_mid P Q R i h]
/-- A label stands where its encoding stands. -/
theorem has_here (P R : List UInt8) (p : ByteArray) (h : lok p.data.toList = true) : has (P ++ tailL p ++ R) (P.length : Int) = some (p, P.length + (tailL p).length) := by
  obtain ⟨hl, h1, h2⟩ := tailL_two h
  have hz : p.data.toList.length = p.size := by simp
  have hlt : P.length < (P ++ tailL p ++ R).length := by rw [List.length_append, List.length_append]; omega
  have hb : (P ++ tailL p ++ R)[P.length].toNat = p.size := by
    have e : (P ++ tailL p ++ R)[P.length] = UInt8.ofNat p.size := by
      rw [List.getElem_append_left (by rw [List.length_append]; omega), List.getElem_append_right (Nat.le_refl _)]
      simp only [tailL_ok h, Nat.sub_self]
      rfl
    rw [e, UInt8.toNat_ofNat_of_lt' (by simp [UInt8.size]; omega)]
  have hp : piece (P ++ tailL p ++ R) P.length p.size = p := by
    apply text_ext
    rw [piece_list, tailL_ok h]
    have e : P ++ (one p.size ++ p.data.toList) ++ R = (P ++ one p.size) ++ (p.data.toList ++ R) := by simp [List.append_assoc]
    have e2 : P.length + 1 = (P ++ one p.size).length := by rw [List.length_append, one_len]
    rw [e, e2, List.drop_left, List.take_left' hz]
  rw [has_in _ _ hlt, hb, hp, Fo_ok h, if_pos ⟨by rw [List.length_append, List.length_append]; omega, h⟩, hl]
  congr 2
  omega

/-- The names that a valid name begins with are valid. -/
theorem jo_grow (L : List ByteArray) : ∀ k, k < L.length → (jo (L.take k)).length ≤ (jo (L.take (k + 1))).length := fun k h => by
  by_cases h0 : 0 < k
  · rw [jo_step L k h0 h, List.length_append, List.length_append]
    omega
  · obtain rfl : k = 0 := by omega
    simp [jo, Lib.join_nil]
theorem jo_upto (L : List ByteArray) (k : Nat) : ∀ d, k + d ≤ L.length → (jo (L.take k)).length ≤ (jo (L.take (k + d))).length
  | 0, _ => Nat.le_refl _
  | d + 1, h => by
    have h1 := jo_upto L k d (by omega)
    have h2 := jo_grow L (k + d) (by omega)
    rw [show k + (d + 1) = k + d + 1 by omega]
    omega
theorem okL_take {L : List ByteArray} (h : okL L = true) (k : Nat) : okL (L.take k) = true := by
  rw [okL, List.all_eq_true] at h ⊢
  exact fun x hx => h x (List.mem_of_mem_take hx)
theorem nm_of {L : List ByteArray} (h : okL L = true) : Nm (Jo L) = (decide ((Jo L).size ≤ 50) && decide (L.length ≤ 6)) := by
  rw [Nm, lab_ok h, h]
  rfl
theorem nm_take {L : List ByteArray} (h : okL L = true) (hn : Nm (Jo L) = true) (k : Nat) : Nm (Jo (L.take k)) = true := by
  by_cases hk : k ≤ L.length
  · rw [nm_of h, Bool.and_eq_true] at hn
    rw [nm_of (okL_take h k), Bool.and_eq_true]
    have h1 := of_decide_eq_true hn.1
    have h2 := of_decide_eq_true hn.2
    have h3 := jo_upto L k (L.length - k) (by omega)
    rw [show k + (L.length - k) = L.length by omega, List.take_length] at h3
    rw [Jo_size] at h1
    refine ⟨decide_eq_true (by rw [Jo_size]; omega), decide_eq_true (by rw [List.length_take]; omega)⟩
  · rw [List.take_of_length_le (by omega)]
    exact hn
theorem nm_pre {T D : List ByteArray} (h : okL D = true) (hn : Nm (Jo D) = true) (hp : T <+: D) : Nm (Jo T) = true := by
  obtain ⟨r, rfl⟩ := hp
  have := nm_take h hn T.length
  rwa [List.take_left] at this

/-- Labels that stand one behind another are read one after another. -/
theorem rn_tls (P : List UInt8) (m : Int) (j : Nat) (x : Int) (R : List UInt8) : ∀ (T L0 : List ByteArray) (Q : List UInt8), okL (L0 ++ T) = true → Nm (Jo (L0 ++ T)) = true →
    rn (P ++ Q ++ tls T ++ R) L0 ((P ++ Q).length : Int) m j x = rn (P ++ Q ++ tls T ++ R) (L0 ++ T) ((P ++ Q ++ tls T).length : Int) m j x
  | [], L0, Q, _, _ => by simp [tls_nil]
  | p :: T, L0, Q, hok, hnm => by
    have hp : lok p.data.toList = true := okL_mem hok p (by simp)
    obtain ⟨hl, h1, h2⟩ := tailL_two hp
    have e : P ++ Q ++ tls (p :: T) ++ R = P ++ Q ++ tailL p ++ (tls T ++ R) := by rw [tls_cons]; simp [List.append_assoc]
    have hh := has_here (P ++ Q) (tls T ++ R) p hp
    rw [← e] at hh
    have hb := has_bt hh
    have hs := has_some hh
    have ih := rn_tls P m j x R T (L0 ++ [p]) (Q ++ tailL p) (by rw [List.append_assoc]; exact hok) (by rw [List.append_assoc]; exact hnm)
    have e2 : P ++ (Q ++ tailL p) ++ tls T ++ R = P ++ Q ++ tls (p :: T) ++ R := by rw [tls_cons]; simp [List.append_assoc]
    have e3 : P ++ (Q ++ tailL p) ++ tls T = P ++ Q ++ tls (p :: T) := by rw [tls_cons]; simp [List.append_assoc]
    have e4 : ((P ++ (Q ++ tailL p)).length : Int) = (((P ++ Q).length + (tailL p).length : Nat) : Int) := by rw [← List.append_assoc, List.length_append]
    have e5 : L0 ++ [p] ++ T = L0 ++ p :: T := by simp
    rw [e2, e3, e4, e5] at ih
    rw [← ih]
    refine rn_label ?_ hb.1 (by omega) hh ?_
    · omega
    · exact nm_pre hok hnm ⟨T, by simp⟩

/-- The end of a name. -/
theorem rn_stop (P R : List UInt8) (L : List ByteArray) (m : Int) (j : Nat) (x : Int) : rn (P ++ zer ++ R) L (P.length : Int) m j x = (0, L, if x < 0 then (P.length : Int) + 1 else x, j) := by
  have hb : bt (P ++ zer ++ R) (P.length : Int) = 0 := by
    have h1 := bt_mid P zer R 0 (by simp [zer, one_len])
    have h2 : (zer[0]'(by simp [zer, one_len])).toNat = 0 := rfl
    rw [h2] at h1
    simpa using h1
  refine rn_zero ?_ hb
  rw [List.length_append, List.length_append, zer, one_len]
  omega

/-- Out of the plain encoding. -/
theorem back_plain (l : List UInt8) (s : ByteArray) (h : Nm s = true) : rn (l ++ tailP s) [] (l.length : Int) (l.length : Int) 0 (-1) = (0, Lab s, ((l ++ tailP s).length : Int), 0) := by
  have hok := (nm_parts h).2.2
  have e : l ++ tailP s = l ++ [] ++ tls (Lab s) ++ zer := by rw [tailP, if_pos h]; simp [List.append_assoc]
  have h1 := rn_tls l (l.length : Int) 0 (-1) zer (Lab s) [] [] (by simpa using hok) (by rw [List.nil_append, jo_lab]; exact h)
  rw [← e, List.append_nil, List.nil_append] at h1
  rw [h1]
  have h2 := rn_stop (l ++ tls (Lab s)) [] (Lab s) (l.length : Int) 0 (-1)
  have e2 : l ++ tls (Lab s) ++ zer ++ [] = l ++ tailP s := by rw [e]; simp
  rw [e2] at h2
  rw [h2, if_pos (by omega), e]
  have e3 : ((l ++ [] ++ tls (Lab s) ++ zer).length : Int) = ((l ++ tls (Lab s)).length : Int) + 1 := by simp [zer, one_len]; omega
  rw [e3]

/-- More fuel changes no name that was read. -/
theorem go_more (l : List UInt8) (D : List ByteArray) (y : Int) (i : Nat) : ∀ f g L k m j x, go l f L k m j x = (0, D, y, i) → f ≤ g → go l g L k m j x = (0, D, y, i)
  | 0, _, _, _, _, _, _, h, _ => by simp [go] at h
  | _ + 1, 0, _, _, _, _, _, _, h => absurd h (by omega)
  | f + 1, g + 1, L, k, m, j, x, h, hfg => by
    unfold go at h ⊢
    split at h
    · simp at h
    · rename_i hk
      rw [if_neg hk]
      split at h
      · rename_i h0
        rw [if_pos h0]
        exact h
      · rename_i h0
        rw [if_neg h0]
        split at h
        · rename_i h192
          rw [if_pos h192]
          split at h
          · simp at h
          · rename_i h1
            rw [if_neg h1]
            split at h
            · simp at h
            · rename_i h2
              rw [if_neg h2]
              exact go_more l D y i f g _ _ _ _ _ h (by omega)
        · rename_i h192
          rw [if_neg h192]
          cases hh : has l k with
          | none =>
            rw [hh] at h
            simp only [Prod.mk.injEq] at h
            have := h.1
            split at this <;> omega
          | some q =>
            obtain ⟨p, e⟩ := q
            rw [hh] at h
            dsimp only at h ⊢
            split at h
            · rename_i h3
              rw [if_pos h3]
              exact go_more l D y i f g _ _ _ _ _ h (by omega)
            · simp at h
/-- What has been read stays at the head of what is read. -/
theorem go_ext (l : List UInt8) (D : List ByteArray) (y : Int) (i : Nat) : ∀ f L k m j x, go l f L k m j x = (0, D, y, i) → L <+: D
  | 0, _, _, _, _, _, h => by simp [go] at h
  | f + 1, L, k, m, j, x, h => by
    unfold go at h
    split at h
    · simp at h
    · split at h
      · simp only [Prod.mk.injEq, true_and] at h
        exact h.1 ▸ List.prefix_refl _
      · split at h
        · split at h
          · simp at h
          · split at h
            · simp at h
            · exact go_ext l D y i f _ _ _ _ _ h
        · cases hh : has l k with
          | none =>
            rw [hh] at h
            simp only [Prod.mk.injEq] at h
            have := h.1
            split at this <;> omega
          | some q =>
            obtain ⟨p, e⟩ := q
            rw [hh] at h
            dsimp only at h
            split at h
            · exact (List.prefix_append L [p]).trans (go_ext l D y i f _ _ _ _ _ h)
            · simp at h
theorem bt_left (l R : List UInt8) (k : Int) (h0 : 0 ≤ k) (h : k < (l.length : Int)) : bt (l ++ R) k = bt l k := by
  unfold bt
  rw [List.getD_eq_getElem?_getD, List.getD_eq_getElem?_getD, List.getElem?_append_left (by omega)]
theorem has_left {l : List UInt8} (R : List UInt8) {k : Int} {p : ByteArray} {e : Nat} (h : has l k = some (p, e)) : has (l ++ R) k = some (p, e) := by
  have hs := has_some h
  obtain ⟨k', rfl⟩ := Int.eq_ofNat_of_zero_le hs.1
  have hkl : k' < l.length := by omega
  have hkl2 : k' < (l ++ R).length := by rw [List.length_append]; omega
  have hg : (l ++ R)[k'] = l[k'] := List.getElem_append_left hkl
  rw [has_in l k' hkl] at h
  split at h
  · rename_i hh
    have hp : piece (l ++ R) k' l[k'].toNat = piece l k' l[k'].toNat := by
      apply text_ext
      rw [piece_list, piece_list, List.drop_append_of_le_length (by omega), List.take_append_of_le_length (by rw [List.length_drop]; omega)]
    rw [has_in _ k' hkl2, hg, hp, if_pos ⟨by rw [List.length_append]; omega, hh.2⟩]
    exact h
  · cases h
/-- A name that is read is read behind other labels and with more bytes behind, too. -/
theorem go_left (l R : List UInt8) (T D : List ByteArray) (y : Int) (i : Nat) (hok : okL (T ++ D) = true) (hnm : Nm (Jo (T ++ D)) = true) : ∀ f L k m j x, go l f L k m j x = (0, D, y, i) → ∀ j' x', 0 ≤ x' →
    ∃ i', go (l ++ R) f (T ++ L) k m j' x' = (0, T ++ D, x', i')
  | 0, _, _, _, _, _, h, _, _, _ => by simp [go] at h
  | f + 1, L, k, m, j, x, h, j', x', hx => by
    have hext := go_ext l D y i (f + 1) L k m j x h
    unfold go at h ⊢
    split at h
    · simp at h
    · rename_i hk
      have hb := bt_left l R k (by omega) (by omega)
      rw [if_neg (by rw [List.length_append]; omega), hb]
      split at h
      · rename_i h0
        rw [if_pos h0]
        simp only [Prod.mk.injEq, true_and] at h
        exact ⟨j', by rw [h.1, if_neg (by omega)]⟩
      · rename_i h0
        rw [if_neg h0]
        split at h
        · rename_i h192
          rw [if_pos h192]
          split at h
          · simp at h
          · rename_i h1
            have ht : tg (l ++ R) k = tg l k := by unfold tg; rw [hb, bt_left l R (k + 1) (by omega) (by omega)]
            rw [if_neg (by rw [List.length_append]; omega), ht]
            split at h
            · simp at h
            · rename_i h2
              rw [if_neg h2, if_neg (by omega)]
              exact go_left l R T D y i hok hnm f _ _ _ _ _ h _ _ hx
        · rename_i h192
          rw [if_neg h192]
          cases hh : has l k with
          | none =>
            rw [hh] at h
            simp only [Prod.mk.injEq] at h
            have := h.1
            split at this <;> omega
          | some q =>
            obtain ⟨p, e⟩ := q
            rw [hh] at h
            rw [has_left R hh]
            dsimp only at h ⊢
            split at h
            · have hx2 := go_ext l D y i f _ _ _ _ _ h
              have hpre : T ++ L ++ [p] <+: T ++ D := by
                rw [List.append_assoc]
                exact (List.prefix_append_right_inj T).2 hx2
              rw [if_pos (nm_pre hok hnm hpre), List.append_assoc]
              exact go_left l R T D y i hok hnm f _ _ _ _ _ h _ _ hx
            · simp at h
theorem mu_more (l R : List UInt8) (k m : Int) : mu l k m ≤ mu (l ++ R) k m := by
  unfold mu
  rw [List.length_append]
  have h : m.toNat * (l.length + 1) ≤ m.toNat * (l.length + R.length + 1) := Nat.mul_le_mul_left _ (by omega)
  omega
theorem rn_left {l : List UInt8} (R : List UInt8) {T D : List ByteArray} {k m x y : Int} {j i : Nat} (h : rn l [] k m j x = (0, D, y, i)) (hok : okL (T ++ D) = true) (hnm : Nm (Jo (T ++ D)) = true) (j' : Nat) (x' : Int) (hx : 0 ≤ x') :
    ∃ i', rn (l ++ R) T k m j' x' = (0, T ++ D, x', i') := by
  unfold rn at h ⊢
  obtain ⟨i', h1⟩ := go_left l R T D y i hok hnm _ _ _ _ _ _ h j' x' hx
  rw [List.append_nil] at h1
  exact ⟨i', go_more _ _ _ _ _ _ _ _ _ _ _ h1 (by have := mu_more l R k m; omega)⟩

/-- How PutName's tail is built. -/
theorem pn_split (l : List UInt8) : ∀ L : List ByteArray, pn l L = tls L ++ zer ∨ ∃ (k q : Nat), k < L.length ∧ q < l.length ∧ q ≤ 16383 ∧ hit l (Jo (L.drop k)) q = true ∧ pn l L = tls (L.take k) ++ ptr (q : Int)
  | [] => Or.inl (by rw [pn, tls_nil]; rfl)
  | p :: r => by
    rw [pn]
    split
    · rename_i h
      obtain ⟨q, hq, h1, h2, h3⟩ := pl_some h
      exact Or.inr ⟨0, q, by simp, h1, h2, h3, by rw [hq]; simp [tls_nil]⟩
    · rcases pn_split l r with h | ⟨k, q, hk, h1, h2, h3, h4⟩
      · exact Or.inl (by rw [h, tls_cons, List.append_assoc])
      · exact Or.inr ⟨k + 1, q, by simpa using hk, h1, h2, by simpa using h3, by rw [h4, List.take_succ_cons, tls_cons, List.append_assoc]⟩
theorem ptr_bytes (q : Nat) (h : q ≤ 16383) : ((ptr (q : Int))[0]'(by rw [ptr_len]; omega)).toNat = 192 + q / 256 ∧ ((ptr (q : Int))[1]'(by rw [ptr_len]; omega)).toNat = q % 256 := by
  have e1 : ((49152 + (q : Int)) / 256).toNat = 192 + q / 256 := by omega
  have e2 : ((49152 + (q : Int)) % 256).toNat = q % 256 := by omega
  constructor
  · show (UInt8.ofNat ((49152 + (q : Int)) / 256).toNat).toNat = _
    rw [e1, UInt8.toNat_ofNat_of_lt' (by simp [UInt8.size]; omega)]
  · show (UInt8.ofNat ((49152 + (q : Int)) % 256).toNat).toNat = _
    rw [e2, UInt8.toNat_ofNat_of_lt' (by simp [UInt8.size]; omega)]

/-- Out of the encoding with pointers. -/
theorem back_name (l : List UInt8) (s : ByteArray) (h : Nm s = true) : ∃ i, rn (l ++ tailN l s) [] (l.length : Int) (l.length : Int) 0 (-1) = (0, Lab s, ((l ++ tailN l s).length : Int), i) := by
  obtain ⟨_, _, hok⟩ := nm_parts h
  have hnm : Nm (Jo (Lab s)) = true := by rw [jo_lab]; exact h
  have e0 : tailN l s = pn l (Lab s) := by rw [tailN, if_pos h]
  rcases pn_split l (Lab s) with e | ⟨k, q, hk, hq1, hq2, hh, e⟩
  · have e1 : tailN l s = tailP s := by rw [e0, e, tailP, if_pos h]
    rw [e1]
    exact ⟨0, back_plain l s h⟩
  · rw [e0, e]
    have ht : okL ((Lab s).take k) = true := okL_take hok k
    have hn : Nm (Jo ((Lab s).take k)) = true := nm_take hok hnm k
    have h1 := rn_tls l (l.length : Int) 0 (-1) (ptr (q : Int)) ((Lab s).take k) [] [] (by simpa using ht) (by simpa using hn)
    rw [List.append_nil, List.nil_append] at h1
    obtain ⟨hp0, hp1⟩ := ptr_bytes q hq2
    have hb0 : bt (l ++ tls ((Lab s).take k) ++ ptr (q : Int)) ((l ++ tls ((Lab s).take k)).length : Int) = ((192 + q / 256 : Nat) : Int) := by
      have := bt_mid (l ++ tls ((Lab s).take k)) (ptr (q : Int)) [] 0 (by rw [ptr_len]; omega)
      rw [hp0, List.append_nil] at this
      simpa using this
    have hb1 : bt (l ++ tls ((Lab s).take k) ++ ptr (q : Int)) (((l ++ tls ((Lab s).take k)).length : Int) + 1) = ((q % 256 : Nat) : Int) := by
      have := bt_mid (l ++ tls ((Lab s).take k)) (ptr (q : Int)) [] 1 (by rw [ptr_len]; omega)
      rw [hp1, List.append_nil] at this
      simpa using this
    have htg : tg (l ++ tls ((Lab s).take k) ++ ptr (q : Int)) ((l ++ tls ((Lab s).take k)).length : Int) = (q : Int) := by
      unfold tg
      rw [hb0, hb1]
      omega
    have hlen : ((l ++ tls ((Lab s).take k) ++ ptr (q : Int)).length : Int) = ((l ++ tls ((Lab s).take k)).length : Int) + 2 := by
      rw [List.length_append, ptr_len]
      omega
    have h2 := rn_jump (l := l ++ tls ((Lab s).take k) ++ ptr (q : Int)) (L := (Lab s).take k) (k := ((l ++ tls ((Lab s).take k)).length : Int)) (m := (l.length : Int)) (j := 0) (x := -1) (by omega) (by rw [hb0]; omega) (by omega) (by rw [htg]; omega)
    rw [htg, if_pos (by omega)] at h2
    obtain ⟨hd1, hd2⟩ := hit_iff.1 hh
    obtain ⟨c, D, y, i, hR⟩ : ∃ c D y i, rn l [] (q : Int) (q : Int) 0 (-1) = (c, D, y, i) := ⟨_, _, _, _, rfl⟩
    unfold dn at hd1 hd2
    rw [hR] at hd1 hd2
    dsimp only at hd1 hd2
    subst hd1
    have hDok := (rn_good hR).1
    have hD : D = (Lab s).drop k := by
      have e1 := lab_ok hDok
      have hdr : okL ((Lab s).drop k) = true := by
        rw [okL, List.all_eq_true] at hok ⊢
        exact fun x hx => hok x (List.mem_of_mem_drop hx)
      have e2 := lab_ok hdr
      rw [← e1, hd2, e2]
    subst hD
    have hfull : (Lab s).take k ++ (Lab s).drop k = Lab s := List.take_append_drop k _
    obtain ⟨i', h3⟩ := rn_left (tls ((Lab s).take k) ++ ptr (q : Int)) (T := (Lab s).take k) hR (by rw [hfull]; exact hok) (by rw [hfull]; exact hnm) 1 (((l ++ tls ((Lab s).take k)).length : Int) + 2) (by omega)
    rw [hfull, ← List.append_assoc] at h3
    refine ⟨i', ?_⟩
    rw [← List.append_assoc, h1, h2, hlen]
    exact h3

theorem pn_short (l : List UInt8) : ∀ L : List ByteArray, okL L = true → (pn l L).length ≤ (tls L).length + 1
  | [], _ => by simp [pn, zer, one_len]
  | p :: r, h => by
    have hp := tailL_two (okL_mem h p (by simp))
    have ih := pn_short l r (by rw [okL, List.all_cons, Bool.and_eq_true] at h; exact h.2)
    rw [pn, tls_cons, List.length_append]
    split
    · rw [ptr_len]
      omega
    · rw [List.length_append]
      omega
/-- The encoding with pointers is no longer. -/
theorem name_short (l : List UInt8) (s : ByteArray) (h : Nm s = true) : (tailN l s).length ≤ (tailP s).length := by
  have h1 := pn_short l (Lab s) (nm_parts h).2.2
  rw [tailN, if_pos h, tailP, if_pos h, List.length_append, zer, one_len]
  exact h1
/-- A name that has just been put is put again by one pointer. -/
theorem again (l : List UInt8) (s : ByteArray) (h : Nm s = true) (hl : l.length ≤ 16383) : (tailN (l ++ tailN l s) s).length ≤ 2 := by
  rw [show tailN (l ++ tailN l s) s = pn (l ++ tailN l s) (Lab s) by rw [tailN, if_pos h]]
  cases hL : Lab s with
  | nil => simp [pn, zer, one_len]
  | cons p r =>
    have hs : Jo (p :: r) = s := by rw [← hL, jo_lab]
    rw [pn]
    split
    · rw [ptr_len]
      exact Nat.le_refl _
    · rename_i hno
      exfalso
      rw [hs] at hno
      obtain ⟨i, hb⟩ := back_name l s h
      have hne : 0 < (tailN l s).length := by
        rw [tailN, if_pos h, hL, pn]
        split
        · rw [ptr_len]; omega
        · rw [List.length_append]
          have := tailL_two (okL_mem (nm_parts h).2.2 p (by rw [hL]; simp))
          omega
      have hm := pl_none hno l.length (by rw [List.length_append]; omega) hl
      have hy : hit (l ++ tailN l s) s l.length = true := by
        rw [hit_iff]
        unfold dn
        rw [hb]
        exact ⟨rfl, jo_lab s⟩
      rw [hy] at hm
      cases hm
end Go.Proofs.YtkfibepejlgniaaGreatDoor.WireBack

/- Plain mathematics: what was put as a record is read as that record, whatever stands ahead of it and behind it. Nothing of the program is named here but the seat itself. -/
namespace Go.Proofs.YtkfibepejlgniaaGreatDoor.FieldBack
open Go.Proofs.YtkfibepejlgniaaGreatDoor.Mem Go.Proofs.YtkfibepejlgniaaGreatDoor.MemR Go.Proofs.YtkfibepejlgniaaGreatDoor.JoinSpec Go.Proofs.YtkfibepejlgniaaGreatDoor.Split Go.Proofs.YtkfibepejlgniaaGreatDoor.JoinLab Go.Proofs.YtkfibepejlgniaaGreatDoor.GetLabel Go.Proofs.YtkfibepejlgniaaGreatDoor.PutLabel Go.Proofs.YtkfibepejlgniaaGreatDoor.NameOk Go.Proofs.YtkfibepejlgniaaGreatDoor.TextR Go.Proofs.YtkfibepejlgniaaGreatDoor.RecOk Go.Proofs.YtkfibepejlgniaaGreatDoor.WireMath Go.Proofs.YtkfibepejlgniaaGreatDoor.WireBack Go.Proofs.YtkfibepejlgniaaGreatDoor.Plain Go.Proofs.YtkfibepejlgniaaGreatDoor.PutSpec Go.Proofs.YtkfibepejlgniaaGreatDoor.Put Go.Proofs.YtkfibepejlgniaaGreatDoor.Get Go.Proofs.YtkfibepejlgniaaGreatDoor.FieldMath

/-- A name that is read is read with more bytes behind, too. -/
theorem go_behind (l R : List UInt8) (D : List ByteArray) (y : Int) (i : Nat) : ∀ f L k m j x, go l f L k m j x = (0, D, y, i) → go (l ++ R) f L k m j x = (0, D, y, i)
  | 0, _, _, _, _, _, h => by simp [go] at h
  | f + 1, L, k, m, j, x, h => by
    unfold go at h ⊢
    split at h
    · simp at h
    · rename_i hk
      have hb := bt_left l R k (by omega) (by omega)
      rw [if_neg (by rw [List.length_append]; omega), hb]
      split at h
      · rename_i h0
        rw [if_pos h0]
        exact h
      · rename_i h0
        rw [if_neg h0]
        split at h
        · rename_i h192
          rw [if_pos h192]
          split at h
          · simp at h
          · rename_i h1
            have ht : tg (l ++ R) k = tg l k := by unfold tg; rw [hb, bt_left l R (k + 1) (by omega) (by omega)]
            rw [if_neg (by rw [List.length_append]; omega), ht]
            split at h
            · simp at h
            · rename_i h2
              rw [if_neg h2]
              exact go_behind l R D y i f _ _ _ _ _ h
        · rename_i h192
          rw [if_neg h192]
          cases hh : has l k with
          | none =>
            rw [hh] at h
            simp only [Prod.mk.injEq] at h
            have := h.1
            split at this <;> omega
          | some q =>
            obtain ⟨p, e⟩ := q
            rw [hh] at h
            rw [has_left R hh]
            dsimp only at h ⊢
            split at h
            · rename_i h3
              rw [if_pos h3]
              exact go_behind l R D y i f _ _ _ _ _ h
            · simp at h
theorem rn_behind {l : List UInt8} (R : List UInt8) {D : List ByteArray} {k m x y : Int} {j i : Nat} (h : rn l [] k m j x = (0, D, y, i)) : rn (l ++ R) [] k m j x = (0, D, y, i) := by
  unfold rn at h ⊢
  exact go_more _ _ _ _ _ _ _ _ _ _ _ (go_behind l R D y i _ _ _ _ _ _ h) (by have := mu_more l R k m; omega)

theorem of_byte (x : Int) (h0 : 0 ≤ x) (h1 : x < 256) : ((UInt8.ofNat x.toNat).toNat : Int) = x := by
  rw [UInt8.toNat_ofNat_of_lt' (by simp [UInt8.size]; omega), Int.toNat_of_nonneg h0]
theorem be_quad (k : Int) (h0 : 0 ≤ k) (h1 : k ≤ 2147483647) : be (quad k) = k := by
  have e1 := of_byte (k / 16777216) (by omega) (by omega)
  have e2 := of_byte (k / 65536 % 256) (by omega) (by omega)
  have e3 := of_byte (k / 256 % 256) (by omega) (by omega)
  have e4 := of_byte (k % 256) (by omega) (by omega)
  simp only [be, quad, List.foldl_cons, List.foldl_nil, e1, e2, e3, e4]
  omega
theorem be_two (k : Int) (h0 : 0 ≤ k) (h1 : k ≤ 65535) : be (two k) = k := by
  have e1 := of_byte (k / 256) (by omega) (by omega)
  have e2 := of_byte (k % 256) (by omega) (by omega)
  simp only [be, two, List.foldl_cons, List.foldl_nil, e1, e2]
  omega
theorem mid (P X Q : List UInt8) (m : Nat) (h : X.length = m) : ((P ++ X ++ Q).drop P.length).take m = X := by
  rw [List.append_assoc, List.drop_left, ← h, List.take_left]
theorem n4_mid (P Q : List UInt8) (x : Int) (h0 : 0 ≤ x) (h1 : x ≤ 2147483647) (k : Int) (hk : k = (P.length : Int)) : n4 (P ++ quad x ++ Q) k = (x, true) := by
  subst hk
  have hl : (quad x).length = 4 := rfl
  have e : be (((P ++ quad x ++ Q).drop P.length).take 4) = x := by rw [mid _ _ _ 4 hl]; exact be_quad x h0 h1
  rw [n4, if_pos ⟨by omega, by simp only [List.length_append, hl]; omega⟩, Int.toNat_natCast, e, if_neg (by omega)]
theorem n2_mid (P Q : List UInt8) (x : Int) (h0 : 0 ≤ x) (h1 : x ≤ 65535) (k : Int) (hk : k = (P.length : Int)) : n2 (P ++ two x ++ Q) k = (x, true) := by
  subst hk
  have hl : (two x).length = 2 := rfl
  have e : be (((P ++ two x ++ Q).drop P.length).take 2) = x := by rw [mid _ _ _ 2 hl]; exact be_two x h0 h1
  rw [n2, if_pos ⟨by omega, by simp only [List.length_append, hl]; omega⟩, Int.toNat_natCast, e]
theorem emp_eq {s : ByteArray} (h : emp s = true) : s = ⟨#[]⟩ := by
  have h : s.size = 0 := of_decide_eq_true h
  obtain ⟨a⟩ := s
  have h : a.size = 0 := h
  rw [Array.eq_empty_of_size_eq_zero h]
theorem nul_eq {n : Int} (h : nul n = true) : n = 0 := of_decide_eq_true h
theorem inn_eq {x a b : Int} (h : inn x a b = true) : a ≤ x ∧ x ≤ b := of_decide_eq_true h
theorem name_mid (P Q : List UInt8) (s : ByteArray) (h : Nm s = true) (k : Int) (hk : k = (P.length : Int)) : rn (P ++ tailP s ++ Q) [] k k 0 (-1) = (0, Lab s, ((P ++ tailP s).length : Int), 0) := by
  subst hk
  exact rn_behind Q (back_plain P s h)
/-- The data of a record without name and time to live. -/
def core (r : Rec) : Rec := ⟨⟨#[]⟩, r.ty, 0, r.n, r.host, r.text⟩
theorem back_data (P Q : List UInt8) (r : Rec) (h : rok r = true) (k : Int) (hk : k = (P.length : Int)) : gd (P ++ dat r ++ Q) k ((dat r).length : Int) r.ty = (0, core r) := by
  have hd : dat r = dta r.ty r.n r.host r.text := if_pos h
  have hl := dat_len r
  rw [rok, Bool.and_eq_true, Bool.and_eq_true] at h
  have h := h.2.2
  have hn : 0 ≤ ((dat r).length : Int) ∧ ((dat r).length : Int) ≤ 255 := by omega
  have ho : ¬ (k < 0 ∨ ((P ++ dat r ++ Q).length : Int) - ((dat r).length : Int) < k) := by subst hk; simp only [List.length_append]; omega
  obtain ⟨nm, ty, ttl, n, host, text⟩ := r
  unfold core
  dsimp only at *
  by_cases h1 : ty = 1
  · subst h1
    rw [dko_1, Bool.and_eq_true, Bool.and_eq_true] at h
    obtain rfl := emp_eq h.2.1
    obtain rfl := emp_eq h.2.2
    have hr := inn_eq h.1
    rw [dta_1, tail4, if_pos hr] at hd
    have hd4 : (dat ⟨nm, 1, ttl, n, ⟨#[]⟩, ⟨#[]⟩⟩).length = 4 := by rw [hd]; rfl
    rw [gd_1 hn ho, hd4, hd, n4_mid P Q n hr.1 hr.2 k hk, if_pos ⟨rfl, rfl⟩]
    rfl
  by_cases h6 : ty = 6
  · subst h6
    rw [dko_6, Bool.and_eq_true, Bool.and_eq_true] at h
    obtain rfl := emp_eq h.2.2
    have hr := inn_eq h.2.1
    rw [dta_6, tail4, if_pos ⟨hr.1, by omega⟩] at hd
    have e : P ++ dat ⟨nm, 6, ttl, n, host, ⟨#[]⟩⟩ ++ Q = P ++ tailP host ++ (quad n ++ Q) := by rw [hd]; simp only [List.append_assoc]
    have e2 : P ++ tailP host ++ (quad n ++ Q) = P ++ tailP host ++ quad n ++ Q := by simp only [List.append_assoc]
    have hR := name_mid P (quad n ++ Q) host h.1 k hk
    have hN := n4_mid (P ++ tailP host) Q n hr.1 (by omega) _ rfl
    have hz : ((P ++ tailP host).length : Int) + 4 = k + ((dat ⟨nm, 6, ttl, n, host, ⟨#[]⟩⟩).length : Int) := by
      subst hk
      rw [hd]
      simp only [List.length_append]
      have : (quad n).length = 4 := rfl
      omega
    rw [gd_6 hn ho, e, hR]
    dsimp only
    rw [e2, hN, if_neg (fun e => e rfl), if_pos ⟨rfl, hz⟩, jo_lab]
    rfl
  by_cases h16 : ty = 16
  · subst h16
    rw [dko_16, Bool.and_eq_true, Bool.and_eq_true] at h
    obtain rfl := emp_eq h.2.2
    obtain rfl := nul_eq h.2.1
    have htx := h.1
    rw [dta_16] at hd
    have ht12 : text.size ≤ 12 := by rw [txo, Bool.and_eq_true] at htx; exact of_decide_eq_true htx.2
    have htl : text.data.toList.length = text.size := by simp
    have hz : (dat ⟨nm, 16, ttl, 0, ⟨#[]⟩, text⟩).length = text.size + 1 := by rw [hd, List.length_append, one_len, htl]; omega
    subst hk
    have hb : bt (P ++ dat ⟨nm, 16, ttl, 0, ⟨#[]⟩, text⟩ ++ Q) (P.length : Int) = (text.size : Int) := by
      have := bt_mid P (dat ⟨nm, 16, ttl, 0, ⟨#[]⟩, text⟩) Q 0 (by omega)
      rw [show (P.length : Int) + ((0 : Nat) : Int) = (P.length : Int) by omega] at this
      rw [this]
      have h0 : (dat ⟨nm, 16, ttl, 0, ⟨#[]⟩, text⟩)[0]'(by omega) = UInt8.ofNat text.size := by
        simp only [hd]
        rfl
      rw [h0, UInt8.toNat_ofNat_of_lt' (by simp [UInt8.size]; omega)]
    have hp : piece (P ++ dat ⟨nm, 16, ttl, 0, ⟨#[]⟩, text⟩ ++ Q) (P.length : Int).toNat (((dat ⟨nm, 16, ttl, 0, ⟨#[]⟩, text⟩).length : Int) - 1).toNat = text := by
      have e1 : (((dat ⟨nm, 16, ttl, 0, ⟨#[]⟩, text⟩).length : Int) - 1).toNat = text.size := by omega
      rw [e1, Int.toNat_natCast]
      have e2 : P ++ dat ⟨nm, 16, ttl, 0, ⟨#[]⟩, text⟩ ++ Q = P ++ one text.size ++ text.data.toList ++ Q := by rw [hd]; simp only [List.append_assoc]
      have e3 : P.length + 1 = (P ++ one text.size).length := by rw [List.length_append, one_len]
      unfold piece
      rw [e2, e3, mid _ _ _ _ htl]
    rw [gd_16 hn ho, hp, hb, if_pos ⟨by omega, by omega, htx⟩]
    rfl
  · have hh : ty = 2 ∨ ty = 5 := Decidable.byContradiction fun hne => by
      rw [dko_none _ _ _ h1 (by omega) (by omega) h6 h16] at h
      cases h
    have h : (Nm host && (nul n && emp text)) = true := by rcases hh with rfl | rfl <;> exact h
    rw [Bool.and_eq_true, Bool.and_eq_true] at h
    obtain rfl := emp_eq h.2.2
    obtain rfl := nul_eq h.2.1
    have hd : dat ⟨nm, ty, ttl, 0, host, ⟨#[]⟩⟩ = tailP host := by rcases hh with rfl | rfl <;> exact hd
    have hR := name_mid P Q host h.1 k hk
    have hz : ((P ++ tailP host).length : Int) = k + ((tailP host).length : Int) := by subst hk; rw [List.length_append]; omega
    rw [gd_h hn ho hh, hd, hR]
    dsimp only
    rw [if_neg (fun e => e rfl), if_pos hz, jo_lab]
    rfl

theorem back_rec (l Q : List UInt8) (r : Rec) (h : rok r = true) : gr (l ++ tailR l r ++ Q) (l.length : Int) = (0, ((l ++ tailR l r).length : Int), r) := by
  have hd := dat_len r
  have hty := rok_ty h
  have hr := h
  rw [rok, Bool.and_eq_true, Bool.and_eq_true] at hr
  have ht := inn_eq hr.2.1
  obtain ⟨i, hb⟩ := back_name l r.name hr.1
  generalize hN : l ++ tailN l r.name = N at *
  have e : l ++ tailR l r = N ++ two r.ty ++ two 1 ++ quad r.ttl ++ two ((dat r).length : Int) ++ dat r := by
    rw [tailR, if_pos h, tail2, if_pos ⟨by omega, by omega⟩, tail2, if_pos ⟨by omega, by omega⟩, tail4, if_pos ⟨by omega, by omega⟩, tail2, if_pos ⟨by omega, by omega⟩, ← hN]
    simp only [List.append_assoc]
  have l2 : ∀ x, (two x).length = 2 := fun _ => rfl
  have l4 : ∀ x, (quad x).length = 4 := fun _ => rfl
  have hz : ((l ++ tailR l r).length : Int) = (N.length : Int) + 10 + ((dat r).length : Int) := by
    rw [e]
    simp only [List.length_append, l2, l4]
    omega
  have hx : ∀ X, l ++ tailR l r ++ Q = X → rn X [] (l.length : Int) (l.length : Int) 0 (-1) = (0, Lab r.name, (N.length : Int), i) := fun X hX => by
    have e2 : X = N ++ (two r.ty ++ two 1 ++ quad r.ttl ++ two ((dat r).length : Int) ++ dat r ++ Q) := by
      rw [← hX, e]
      simp only [List.append_assoc]
    rw [e2]
    exact rn_behind _ hb
  have a1 : n2 (l ++ tailR l r ++ Q) (N.length : Int) = (r.ty, true) := by
    have := n2_mid N (two 1 ++ quad r.ttl ++ two ((dat r).length : Int) ++ dat r ++ Q) r.ty (by omega) (by omega) _ rfl
    rw [← this, e]
    simp only [List.append_assoc]
  have a2 : n2 (l ++ tailR l r ++ Q) ((N.length : Int) + 2) = (1, true) := by
    have := n2_mid (N ++ two r.ty) (quad r.ttl ++ two ((dat r).length : Int) ++ dat r ++ Q) 1 (by omega) (by omega) ((N.length : Int) + 2) (by rw [List.length_append, l2]; omega)
    rw [← this, e]
    simp only [List.append_assoc]
  have a3 : n4 (l ++ tailR l r ++ Q) ((N.length : Int) + 4) = (r.ttl, true) := by
    have := n4_mid (N ++ two r.ty ++ two 1) (two ((dat r).length : Int) ++ dat r ++ Q) r.ttl (by omega) (by omega) ((N.length : Int) + 4) (by simp only [List.length_append, l2]; omega)
    rw [← this, e]
    simp only [List.append_assoc]
  have a4 : n2 (l ++ tailR l r ++ Q) ((N.length : Int) + 8) = (((dat r).length : Int), true) := by
    have := n2_mid (N ++ two r.ty ++ two 1 ++ quad r.ttl) (dat r ++ Q) ((dat r).length : Int) (by omega) (by omega) ((N.length : Int) + 8) (by simp only [List.length_append, l2, l4]; omega)
    rw [← this, e]
    simp only [List.append_assoc]
  have a5 : gd (l ++ tailR l r ++ Q) ((N.length : Int) + 10) ((dat r).length : Int) r.ty = (0, core r) := by
    have := back_data (N ++ two r.ty ++ two 1 ++ quad r.ttl ++ two ((dat r).length : Int)) Q r h ((N.length : Int) + 10) (by simp only [List.length_append, l2, l4]; omega)
    rw [← this, e]
  have a6 : wn (core r) (Jo (Lab r.name)) r.ttl = r := by rw [jo_lab]; rfl
  rw [gr_good (hx _ rfl) (by rw [List.length_append]; omega) (by rw [a4, a1]; exact a5) (by rw [a3, a2]; exact ⟨rfl, rfl, by rw [a6]; exact h⟩), a4, a3, a6, hz]
theorem puts_pre : ∀ (L : List Rec) (l : List UInt8), ∃ T, puts l L = l ++ T
  | [], l => ⟨[], by simp [puts]⟩
  | r :: L, l => by
    obtain ⟨T, h⟩ := puts_pre L (l ++ tailR l r)
    exact ⟨tailR l r ++ T, by rw [puts, h, List.append_assoc]⟩
theorem back_list : ∀ (L : List Rec) (l : List UInt8) (M : List Rec), (∀ r ∈ L, rok r = true) → grs (puts l L) L.length (l.length : Int) M = (0, ((puts l L).length : Int), M ++ L)
  | [], l, M, _ => by simp [puts, grs]
  | r :: L, l, M, h => by
    obtain ⟨T, hT⟩ := puts_pre L (l ++ tailR l r)
    have hb := back_rec l T r (h r (by simp))
    have hi := back_list L (l ++ tailR l r) (M ++ [r]) (fun x hx => h x (by simp [hx]))
    rw [← hT] at hb
    rw [List.length_cons, grs, puts, hb]
    dsimp only
    rw [if_neg (fun e => e rfl), hi]
    simp
end Go.Proofs.YtkfibepejlgniaaGreatDoor.FieldBack

/- Plain facts for GetRecords: what it answers (grA), and what it hands back: a new row of records of its own. -/
namespace Go.Proofs.YtkfibepejlgniaaGreatDoor.GetsM
open Go.RowKit Go.Proofs.YtkfibepejlgniaaGreatDoor.Mem Go.Proofs.YtkfibepejlgniaaGreatDoor.MemR Go.Proofs.YtkfibepejlgniaaGreatDoor.App Go.Proofs.YtkfibepejlgniaaGreatDoor.AppR Go.Proofs.YtkfibepejlgniaaGreatDoor.FieldMath

/-- What GetRecords answers. A def, so that no step of a walk opens it. -/
def grA (l : List UInt8) (k m : Int) : Nat × Int × List Rec := if 0 ≤ m ∧ m ≤ 8 then grs l m.toNat k [] else (2, 0, [])
/-- The call returned a row of records of its own, an offset and a code, and turned nothing that was there. -/
def Grs (w : World) (X : Nat × Int × List Rec) (e : Ending) (w' : World) : Prop :=
  ∃ g cap, e = .returned (.tuple #[.slice (some ⟨g, 0, none⟩) X.2.2.length cap, .int .i64 X.2.1, .int .i64 (X.1 : Int)]) ∧ w'.ownsRow w.heap.size 117 6 (.slice (some ⟨g, 0, none⟩) X.2.2.length cap) X.2.2.length (fl X.2.2) ∧ Below w.heap.size w w'
section
variable {w w' : World} {base g n cap : Nat} {L : List Rec}
theorem own_below (h : w.ownsRow base 117 6 (.slice (some ⟨g, 0, none⟩) n cap) n (fl L)) (hb : Below w.heap.size w w') : w'.ownsRow base 117 6 (.slice (some ⟨g, 0, none⟩) n cap) n (fl L) :=
  h.kept (row := none) ⟨hb.os, hb.tape, hb.output, hb.size, fun k hk _ => hb.block k hk⟩ (Or.inr (by simp [Value.ownBlock]))
theorem own_len (h : w.ownsRow base 117 6 (.slice (some ⟨g, 0, none⟩) n cap) n (fl L)) : L.length = n := by
  have := h.1
  rw [fl_len] at this
  omega
theorem grs_of (h : w'.ownsRow w.heap.size 117 6 (.slice (some ⟨g, 0, none⟩) n cap) n (fl L)) (hb : Below w.heap.size w w') (x : Int) (c : Nat) : Grs w (c, x, L) (.returned (.tuple #[.slice (some ⟨g, 0, none⟩) n cap, .int .i64 x, .int .i64 (c : Int)])) w' := by
  have hl := own_len h
  subst hl
  exact ⟨g, cap, rfl, h, hb⟩
theorem grs_nil {w1 : World} (hb : Below w.heap.size w w1) (x : Int) (c : Nat) : Grs w (c, x, []) (.returned (.tuple #[.slice (some ⟨w1.heap.size, 0, none⟩) 0 0, .int .i64 x, .int .i64 (c : Int)])) (w1.alloc (.cells #[] 117)) :=
  grs_of (L := []) (owns_base (AppR.owns_new w1) hb.size) (hb.alloc hb.size _) x c
theorem grs_nil2 {w1 : World} (hb : Below w.heap.size w w1) (x : Int) (c : Nat) (hg : w1.heap.size = g) : Grs w (c, x, []) (.returned (.tuple #[.slice (some ⟨g, 0, none⟩) 0 0, .int .i64 x, .int .i64 (c : Int)])) (w1.alloc (.cells #[] 117)) := by
  subst hg
  exact grs_nil hb x c
end
theorem one_sr (w : World) (r : Rec) : Sr (w.alloc (.cells #[.string r.name, .int .i64 r.ty, .int .i64 r.ttl, .int .i64 r.n, .string r.host, .string r.text] 117)) (w.alloc (.cells #[.string r.name, .int .i64 r.ty, .int .i64 r.ttl, .int .i64 r.n, .string r.host, .string r.text] 117)).heap.size (some ⟨w.heap.size, 0, none⟩) 1 [r] := by
  have hb : Bk (w.alloc (.cells #[.string r.name, .int .i64 r.ty, .int .i64 r.ttl, .int .i64 r.n, .string r.host, .string r.text] 117)) w.heap.size 117 (fl [r]) := heap_alloc_new w _
  exact bk_sr0 hb rfl
theorem grs_step (l : List UInt8) (n : Nat) (k : Int) (L : List Rec) : grs l (n + 1) k L = if (gr l k).1 ≠ 0 then ((gr l k).1, 0, []) else grs l n (gr l k).2.1 (L ++ [(gr l k).2.2]) := rfl
theorem grs_len (l : List UInt8) : ∀ (n : Nat) (k : Int) (L : List Rec), (grs l n k L).2.2.length ≤ L.length + n
  | 0, k, L => by simp [grs]
  | n + 1, k, L => by
    rw [grs_step]
    split
    · simp
    · have := grs_len l n (gr l k).2.1 (L ++ [(gr l k).2.2])
      rw [List.length_append] at this
      simp at this
      omega
theorem grA_len (l : List UInt8) (k m : Int) : (grA l k m).2.2.length ≤ 8 := by
  unfold grA
  split
  · have := grs_len l m.toNat k []
    simp at this
    omega
  · simp
theorem Grs.bk {w w' : World} {X : Nat × Int × List Rec} {e : Ending} (h : Grs w X e w') : ∃ g cap r, e = .returned (.tuple #[.slice (some ⟨g, 0, none⟩) X.2.2.length cap, .int .i64 X.2.1, .int .i64 (X.1 : Int)]) ∧ Bk w' g 117 (fl X.2.2 ++ r) ∧ w.heap.size ≤ g ∧ Below w.heap.size w w' := by
  obtain ⟨g, cap, he, ho, hb⟩ := h
  obtain ⟨r, h1, _, _, h4⟩ := bk_of_owns6 ho
  exact ⟨g, cap, r, he, h1, h4, hb⟩
end Go.Proofs.YtkfibepejlgniaaGreatDoor.GetsM

/- Plain facts: what is read out of bytes as a header. -/
namespace Go.Proofs.YtkfibepejlgniaaGreatDoor.HeadRd
open Go.RowKit Go.Proofs.YtkfibepejlgniaaGreatDoor.Mem Go.Proofs.YtkfibepejlgniaaGreatDoor.MemR Go.Proofs.YtkfibepejlgniaaGreatDoor.MemM Go.Proofs.YtkfibepejlgniaaGreatDoor.Get

/-- A byte of l as the walks see it. -/
def by8 (l : List UInt8) (k : Nat) : Int := ((l.getD k 0).toNat : Int)
theorem by8_at (l : List UInt8) (k : Nat) (h : k < l.length) : by8 l k = (l[k].toNat : Int) := by
  unfold by8; rw [List.getD_eq_getElem?_getD, List.getElem?_eq_getElem h]; rfl
theorem by8_in (l : List UInt8) (k : Nat) : 0 ≤ by8 l k ∧ by8 l k < 256 := by
  have := (l.getD k 0).toNat_lt
  unfold by8; omega
/-- Two bytes of l as a number. -/
def b2 (l : List UInt8) (k : Nat) : Int := be ((l.drop k).take 2)
/-- Whether the bits of m are not all clear. -/
def bo (x m : Int) : Bool := bits .and .u8 x m != 0
/-- The head that the flag bytes x and y tell, with this Id. -/
def hdr (id x y : Int) : Hd := ⟨id, bo x 128, bo x 4, bo x 2, bo x 1, bo y 128, bits .and .u8 y 15, ⟨#[]⟩, 0⟩
/-- Whether the header is one. -/
def ghb (l : List UInt8) : Bool := decide (12 ≤ l.length) && !bo (by8 l 2) 120 && !bo (by8 l 3) 112 && decide (b2 l 4 = 1)
def ghh (l : List UInt8) : Hd := if ghb l = true then hdr (b2 l 0) (by8 l 2) (by8 l 3) else zh
def ghn (l : List UInt8) (k : Nat) : Int := if ghb l = true then b2 l k else 0
theorem ghb_parts {l : List UInt8} (h : ghb l = true) : 12 ≤ l.length ∧ bo (by8 l 2) 120 = false ∧ bo (by8 l 3) 112 = false ∧ b2 l 4 = 1 := by
  unfold ghb at h
  simp only [Bool.and_eq_true, Bool.not_eq_true'] at h
  exact ⟨of_decide_eq_true h.1.1.1, h.1.1.2, h.1.2, of_decide_eq_true h.2⟩
theorem ghb_of {l : List UInt8} (h1 : 12 ≤ l.length) (h2 : bo (by8 l 2) 120 = false) (h3 : bo (by8 l 3) 112 = false) (h4 : b2 l 4 = 1) : ghb l = true := by
  unfold ghb; rw [h2, h3, decide_eq_true h1, decide_eq_true h4]; rfl
theorem ghb_not {l : List UInt8} (h : ¬ (12 ≤ l.length ∧ bo (by8 l 2) 120 = false ∧ bo (by8 l 3) 112 = false ∧ b2 l 4 = 1)) : ghb l = false := by
  cases e : ghb l
  · rfl
  · exact absurd (ghb_parts e) h
theorem ghh_not {l : List UInt8} (h : ghb l = false) : ghh l = zh := by unfold ghh; rw [h]; rfl
theorem ghn_not {l : List UInt8} (h : ghb l = false) (k : Nat) : ghn l k = 0 := by unfold ghn; rw [h]; rfl
theorem ghh_yes {l : List UInt8} (h : ghb l = true) : ghh l = hdr (b2 l 0) (by8 l 2) (by8 l 3) := if_pos h
theorem ghn_yes {l : List UInt8} (h : ghb l = true) (k : Nat) : ghn l k = b2 l k := if_pos h
end Go.Proofs.YtkfibepejlgniaaGreatDoor.HeadRd

/- Plain mathematics: what is read out of bytes as a header, a question, a message; it reads the same with bytes behind it. -/
namespace Go.Proofs.YtkfibepejlgniaaGreatDoor.MsgMath
open Go.RowKit Go.Proofs.YtkfibepejlgniaaGreatDoor.Mem Go.Proofs.YtkfibepejlgniaaGreatDoor.MemR Go.Proofs.YtkfibepejlgniaaGreatDoor.MemM Go.Proofs.YtkfibepejlgniaaGreatDoor.JoinSpec Go.Proofs.YtkfibepejlgniaaGreatDoor.Split Go.Proofs.YtkfibepejlgniaaGreatDoor.GetLabel Go.Proofs.YtkfibepejlgniaaGreatDoor.NameOk Go.Proofs.YtkfibepejlgniaaGreatDoor.TextR Go.Proofs.YtkfibepejlgniaaGreatDoor.RecOk Go.Proofs.YtkfibepejlgniaaGreatDoor.WireMath Go.Proofs.YtkfibepejlgniaaGreatDoor.WireGood Go.Proofs.YtkfibepejlgniaaGreatDoor.Put Go.Proofs.YtkfibepejlgniaaGreatDoor.PutSpec Go.Proofs.YtkfibepejlgniaaGreatDoor.Get Go.Proofs.YtkfibepejlgniaaGreatDoor.FieldMath Go.Proofs.YtkfibepejlgniaaGreatDoor.FieldBack Go.Proofs.YtkfibepejlgniaaGreatDoor.WireBack Go.Proofs.YtkfibepejlgniaaGreatDoor.GetsM Go.Proofs.YtkfibepejlgniaaGreatDoor.OkM Go.Proofs.YtkfibepejlgniaaGreatDoor.HeadRd Go.Proofs.YtkfibepejlgniaaGreatDoor.HeadDef Go.Proofs.YtkfibepejlgniaaGreatDoor.HeadMath

/-- What GetQuest answers: a code, the offset behind, name and type. -/
def gq (l : List UInt8) (k : Int) : Nat × Int × ByteArray × Int :=
  if (rn l [] k k 0 (-1)).1 ≠ 0 then ((rn l [] k k 0 (-1)).1, 0, ⟨#[]⟩, 0)
  else if (l.length : Int) - 4 < (rn l [] k k 0 (-1)).2.2.1 then (1, 0, ⟨#[]⟩, 0)
  else if qok (Jo (rn l [] k k 0 (-1)).2.1) (n2 l (rn l [] k k 0 (-1)).2.2.1).1 = true ∧ (n2 l ((rn l [] k k 0 (-1)).2.2.1 + 2)).1 = 1
    then (0, (rn l [] k k 0 (-1)).2.2.1 + 4, Jo (rn l [] k k 0 (-1)).2.1, (n2 l (rn l [] k k 0 (-1)).2.2.1).1)
  else (2, 0, ⟨#[]⟩, 0)
section
variable {l : List UInt8} {k : Int} {L : List ByteArray} {p : Int} {j c : Nat}
theorem gq_name (h : rn l [] k k 0 (-1) = (c, L, p, j)) (hc : c ≠ 0) : gq l k = (c, 0, ⟨#[]⟩, 0) := by
  unfold gq; rw [h, if_pos hc]
theorem gq_short (h : rn l [] k k 0 (-1) = (0, L, p, j)) (hp : (l.length : Int) - 4 < p) : gq l k = (1, 0, ⟨#[]⟩, 0) := by
  unfold gq; rw [h, if_neg (fun e => e rfl), if_pos hp]
theorem gq_good (h : rn l [] k k 0 (-1) = (0, L, p, j)) (hp : ¬ (l.length : Int) - 4 < p) (hq : qok (Jo L) (n2 l p).1 = true) (h1 : (n2 l (p + 2)).1 = 1) : gq l k = (0, p + 4, Jo L, (n2 l p).1) := by
  unfold gq; rw [h, if_neg (fun e => e rfl), if_neg hp, if_pos ⟨hq, h1⟩]
theorem gq_form (h : rn l [] k k 0 (-1) = (0, L, p, j)) (hp : ¬ (l.length : Int) - 4 < p) (hq : ¬ (qok (Jo L) (n2 l p).1 = true ∧ (n2 l (p + 2)).1 = 1)) : gq l k = (2, 0, ⟨#[]⟩, 0) := by
  unfold gq; rw [h, if_neg (fun e => e rfl), if_neg hp, if_neg hq]
/-- What a good question is made of. -/
theorem gq_of {q : Int} {s : ByteArray} {t : Int} (h : gq l k = (0, q, s, t)) : ∃ L p j, rn l [] k k 0 (-1) = (0, L, p, j) ∧ ¬ (l.length : Int) - 4 < p ∧ qok (Jo L) (n2 l p).1 = true ∧ (n2 l (p + 2)).1 = 1 ∧ q = p + 4 ∧ s = Jo L ∧ t = (n2 l p).1 := by
  rcases hr : rn l [] k k 0 (-1) with ⟨c, L, p, j⟩
  by_cases hc : c = 0
  · subst hc
    by_cases hp : (l.length : Int) - 4 < p
    · rw [gq_short hr hp] at h; simp at h
    · by_cases hq : qok (Jo L) (n2 l p).1 = true ∧ (n2 l (p + 2)).1 = 1
      · rw [gq_good hr hp hq.1 hq.2] at h
        simp only [Prod.mk.injEq] at h
        exact ⟨L, p, j, rfl, hp, hq.1, hq.2, h.2.1.symm, h.2.2.1.symm, h.2.2.2.symm⟩
      · rw [gq_form hr hp hq] at h; simp at h
  · rw [gq_name hr hc] at h
    simp only [Prod.mk.injEq] at h
    exact absurd h.1 hc
end
/-- The three sections. -/
def s1 (l : List UInt8) : Nat × Int × List Rec := grA l (gq l 12).2.1 (ghn l 6)
def s2 (l : List UInt8) : Nat × Int × List Rec := grA l (s1 l).2.1 (ghn l 8)
def s3 (l : List UInt8) : Nat × Int × List Rec := grA l (s2 l).2.1 (ghn l 10)
/-- A question put into a head. -/
def wq (h : Hd) (s : ByteArray) (n : Int) : Hd := { h with qn := s, qt := n }
/-- A message, up to offset e. -/
def Rd (l : List UInt8) (e : Int) : Prop := ghb l = true ∧ (gq l 12).1 = 0 ∧ (s1 l).1 = 0 ∧ (s2 l).1 = 0 ∧ (s3 l).1 = 0 ∧ (s3 l).2.1 = e
instance (l : List UInt8) (e : Int) : Decidable (Rd l e) := by unfold Rd; infer_instance
def gmb (l : List UInt8) : Bool := decide (l.length ≤ 512 ∧ Rd l (l.length : Int))
def gmh (l : List UInt8) : Hd := wq (ghh l) (gq l 12).2.2.1 (gq l 12).2.2.2

theorem n2_behind (l R : List UInt8) {k : Int} (h0 : 0 ≤ k) (h1 : k ≤ (l.length : Int) - 2) : n2 (l ++ R) k = n2 l k := by
  rw [n2, n2, if_pos ⟨h0, by rw [List.length_append]; omega⟩, if_pos ⟨h0, h1⟩]
  rw [List.drop_append_of_le_length (by omega), List.take_append_of_le_length (by rw [List.length_drop]; omega)]
theorem n4_behind (l R : List UInt8) {k : Int} (h0 : 0 ≤ k) (h1 : k ≤ (l.length : Int) - 4) : n4 (l ++ R) k = n4 l k := by
  have e : ((l ++ R).drop k.toNat).take 4 = (l.drop k.toNat).take 4 := by
    rw [List.drop_append_of_le_length (by omega), List.take_append_of_le_length (by rw [List.length_drop]; omega)]
  have h2 : 0 ≤ k ∧ k ≤ ((l ++ R).length : Int) - 4 := ⟨h0, by rw [List.length_append]; omega⟩
  unfold n4
  rw [if_pos h2, if_pos (And.intro h0 h1), e]
theorem b2_n2 {l : List UInt8} {k : Nat} (h : k + 2 ≤ l.length) : n2 l (k : Int) = (b2 l k, true) := by
  rw [n2, if_pos ⟨by omega, by omega⟩, Int.toNat_natCast]; rfl
theorem b2_behind (l R : List UInt8) {k : Nat} (h : k + 2 ≤ l.length) : b2 (l ++ R) k = b2 l k := by
  unfold b2
  rw [List.drop_append_of_le_length (by omega), List.take_append_of_le_length (by rw [List.length_drop]; omega)]
theorem by8_behind (l R : List UInt8) {k : Nat} (h : k < l.length) : by8 (l ++ R) k = by8 l k := by
  unfold by8
  rw [List.getD_eq_getElem?_getD, List.getD_eq_getElem?_getD, List.getElem?_append_left h]
theorem piece_behind (l R : List UInt8) (k m : Nat) (h : k + 1 + m ≤ l.length) : piece (l ++ R) k m = piece l k m := by
  unfold piece
  rw [List.drop_append_of_le_length (by omega), List.take_append_of_le_length (by rw [List.length_drop]; omega)]
theorem gd_behind {l : List UInt8} (R : List UInt8) {k n ty : Int} {r : Rec} (h : gd l k n ty = (0, r)) : gd (l ++ R) k n ty = (0, r) := by
  by_cases hn : 0 ≤ n ∧ n ≤ 255
  · by_cases hk : k < 0 ∨ (l.length : Int) - n < k
    · rw [gd_out hn hk] at h; simp at h
    · have hk' : ¬ (k < 0 ∨ ((l ++ R).length : Int) - n < k) := by rw [List.length_append]; omega
      by_cases ht : ty = 1 ∨ ty = 2 ∨ ty = 5 ∨ ty = 6 ∨ ty = 16
      · have key : ∀ (t : Int), t = 2 ∨ t = 5 → gd l k n t = (0, r) → gd (l ++ R) k n t = (0, r) := fun t ht h => by
          rw [gd_h hn hk ht] at h
          rcases hr : rn l [] k k 0 (-1) with ⟨c, D, y, i⟩
          rw [hr] at h
          dsimp only at h
          by_cases hc : c = 0
          · subst hc
            rw [gd_h hn hk' ht, rn_behind R hr]
            exact h
          · rw [if_pos hc] at h
            simp only [Prod.mk.injEq] at h
            exact absurd h.1 hc
        rcases ht with rfl | rfl | rfl | rfl | rfl
        · rw [gd_1 hn hk] at h
          split at h
          · rename_i e
            have e1 := n4_in e.1
            rw [gd_1 hn hk', n4_behind l R e1.1 (by omega), if_pos e]
            exact h
          · simp at h
        · exact key 2 (Or.inl rfl) h
        · exact key 5 (Or.inr rfl) h
        · rw [gd_6 hn hk] at h
          rcases hr : rn l [] k k 0 (-1) with ⟨c, D, y, i⟩
          rw [hr] at h
          dsimp only at h
          by_cases hc : c = 0
          · subst hc
            rw [if_neg (fun e => e rfl)] at h
            split at h
            · rename_i e
              have e1 := n4_in e.1
              rw [gd_6 hn hk', rn_behind R hr]
              dsimp only
              rw [if_neg (fun e => e rfl), n4_behind l R e1.1 (by omega), if_pos e]
              exact h
            · simp at h
          · rw [if_pos hc] at h
            simp only [Prod.mk.injEq] at h
            exact absurd h.1 hc
        · rw [gd_16 hn hk] at h
          split at h
          · rename_i e
            rw [gd_16 hn hk', bt_left l R k (by omega) (by omega), piece_behind l R _ _ (by omega), if_pos e]
            exact h
          · simp at h
      · rw [gd_ty hn hk ht] at h; simp at h
  · rw [gd_n hn] at h; simp at h
theorem gr_behind {l : List UInt8} (R : List UInt8) {k e : Int} {r : Rec} (h0 : 0 ≤ k) (h : gr l k = (0, e, r)) : gr (l ++ R) k = (0, e, r) ∧ 0 ≤ e ∧ rok r = true := by
  rcases hr : rn l [] k k 0 (-1) with ⟨c, L, p, j⟩
  by_cases hc : c = 0
  · subst hc
    have hg := rn_good hr
    by_cases hp : (l.length : Int) - 10 < p
    · rw [gr_short hr hp] at h; simp at h
    · have a2 := n2_behind l R (k := p) (by omega) (by omega)
      have a8 := n2_behind l R (k := p + 8) (by omega) (by omega)
      have ac := n2_behind l R (k := p + 2) (by omega) (by omega)
      have a4 := n4_behind l R (k := p + 4) (by omega) (by omega)
      have hp' : ¬ ((l ++ R).length : Int) - 10 < p := by rw [List.length_append]; omega
      rcases hd : gd l (p + 10) (n2 l (p + 8)).1 (n2 l p).1 with ⟨d, x⟩
      by_cases hz : d = 0
      · subst hz
        by_cases hx : (n4 l (p + 4)).2 = true ∧ (n2 l (p + 2)).1 = 1 ∧ rok (wn x (Jo L) (n4 l (p + 4)).1) = true
        · rw [gr_good hr hp hd hx] at h
          have hd' := gd_behind R hd
          rw [← a8, ← a2] at hd'
          rw [gr_good (rn_behind R hr) hp' hd' (by rw [a4, ac]; exact hx), a4, a8]
          have b8 := n2_in (l := l) (k := p + 8) (by omega) (by omega)
          simp only [Prod.mk.injEq] at h
          exact ⟨by rw [h.2.1, h.2.2], by omega, h.2.2 ▸ hx.2.2⟩
        · rw [gr_form hr hp hd hx] at h; simp at h
      · rw [gr_data hr hp hd hz] at h
        simp only [Prod.mk.injEq] at h
        exact absurd h.1 hz
  · rw [gr_name hr hc] at h
    simp only [Prod.mk.injEq] at h
    exact absurd h.1 hc
theorem grs_behind {l : List UInt8} (R : List UInt8) : ∀ (n : Nat) (k : Int) (L M : List Rec) (e : Int), 0 ≤ k → (∀ r ∈ L, rok r = true) → grs l n k L = (0, e, M) → grs (l ++ R) n k L = (0, e, M) ∧ 0 ≤ e ∧ (∀ r ∈ M, rok r = true) ∧ M.length = L.length + n
  | 0, k, L, M, e, h0, hL, h => by
    simp only [grs, Prod.mk.injEq] at h
    exact ⟨by simp only [grs]; rw [h.2.1, h.2.2], h.2.1 ▸ h0, h.2.2 ▸ hL, by rw [← h.2.2]; rfl⟩
  | n + 1, k, L, M, e, h0, hL, h => by
    rw [grs_step] at h
    rcases hr : gr l k with ⟨c, x, r⟩
    rw [hr] at h
    by_cases hc : c = 0
    · subst hc
      have hb := gr_behind R h0 hr
      rw [if_neg (fun e => e rfl)] at h
      have := grs_behind R n x (L ++ [r]) M e hb.2.1 (fun q hq => by
        rcases List.mem_append.mp hq with a | a
        · exact hL q a
        · rw [List.mem_singleton.mp a]; exact hb.2.2) h
      refine ⟨?_, this.2.1, this.2.2.1, by rw [this.2.2.2, List.length_append]; simp; omega⟩
      rw [grs_step, hb.1, if_neg (fun e => e rfl)]
      exact this.1
    · rw [if_pos hc] at h
      simp only [Prod.mk.injEq] at h
      exact absurd h.1 hc
theorem grA_behind {l : List UInt8} (R : List UInt8) {k m : Int} (h0 : 0 ≤ k) (h : (grA l k m).1 = 0) : grA (l ++ R) k m = grA l k m ∧ 0 ≤ (grA l k m).2.1 ∧ (∀ r ∈ (grA l k m).2.2, rok r = true) ∧ ((grA l k m).2.2.length : Int) = m ∧ m ≤ 8 := by
  unfold grA at h ⊢
  split
  · rename_i hm
    rw [if_pos hm] at h
    rcases hr : grs l m.toNat k [] with ⟨c, e, M⟩
    rw [hr] at h
    dsimp only at h
    subst h
    have := grs_behind R m.toNat k [] M e h0 (fun r hr => by cases hr) hr
    rw [this.1]
    exact ⟨rfl, this.2.1, this.2.2.1, by have := this.2.2.2; simp at this; dsimp only; omega, hm.2⟩
  · rename_i hm
    rw [if_neg hm] at h
    cases h
theorem gq_behind {l : List UInt8} (R : List UInt8) {k : Int} (h0 : 0 ≤ k) (h : (gq l k).1 = 0) : gq (l ++ R) k = gq l k ∧ 0 ≤ (gq l k).2.1 ∧ qok (gq l k).2.2.1 (gq l k).2.2.2 = true := by
  rcases hg : gq l k with ⟨c, q, s, t⟩
  rw [hg] at h
  dsimp only at h
  subst h
  obtain ⟨L, p, j, hr, hp, hq, h1, rfl, rfl, rfl⟩ := gq_of hg
  have hw := rn_good hr
  have a2 := n2_behind l R (k := p) (by omega) (by omega)
  have ac := n2_behind l R (k := p + 2) (by omega) (by omega)
  exact ⟨by rw [gq_good (rn_behind R hr) (by rw [List.length_append]; omega) (by rw [a2]; exact hq) (by rw [ac]; exact h1), a2], by dsimp only; omega, hq⟩
theorem gh_behind {l : List UInt8} (R : List UInt8) (h : ghb l = true) : ghb (l ++ R) = true ∧ ghh (l ++ R) = ghh l ∧ ghn (l ++ R) 6 = ghn l 6 ∧ ghn (l ++ R) 8 = ghn l 8 ∧ ghn (l ++ R) 10 = ghn l 10 := by
  obtain ⟨hl, h2, h3, h4⟩ := ghb_parts h
  have e : ghb (l ++ R) = true := ghb_of (by rw [List.length_append]; omega) (by rw [by8_behind l R (by omega)]; exact h2) (by rw [by8_behind l R (by omega)]; exact h3) (by rw [b2_behind l R (by omega)]; exact h4)
  refine ⟨e, ?_, ?_, ?_, ?_⟩
  · rw [ghh_yes e, ghh_yes h, by8_behind l R (by omega), by8_behind l R (by omega), b2_behind l R (by omega)]
  · rw [ghn_yes e, ghn_yes h, b2_behind l R (by omega)]
  · rw [ghn_yes e, ghn_yes h, b2_behind l R (by omega)]
  · rw [ghn_yes e, ghn_yes h, b2_behind l R (by omega)]
/-- A message reads the same with bytes behind it. -/
theorem Rd.behind {l : List UInt8} {e : Int} (R : List UInt8) (h : Rd l e) : Rd (l ++ R) e := by
  obtain ⟨h1, h2, h3, h4, h5, h6⟩ := h
  have a := gh_behind R h1
  have b := gq_behind R (k := 12) (by decide) h2
  have c := grA_behind R b.2.1 h3
  have d := grA_behind R c.2.1 h4
  have f := grA_behind R d.2.1 h5
  have e1 : s1 (l ++ R) = s1 l := by unfold s1; rw [b.1, a.2.2.1]; exact c.1
  have e2 : s2 (l ++ R) = s2 l := by unfold s2; rw [e1, a.2.2.2.1]; exact d.1
  have e3 : s3 (l ++ R) = s3 l := by unfold s3; rw [e2, a.2.2.2.2]; exact f.1
  exact ⟨a.1, by rw [b.1]; exact h2, by rw [e1]; exact h3, by rw [e2]; exact h4, by rw [e3]; exact h5, by rw [e3]; exact h6⟩
/-- A byte more, or one less, and it is no message. -/
theorem no_more {l : List UInt8} (x : UInt8) (h : Rd l (l.length : Int)) : gmb (l ++ [x]) = false := by
  refine decide_eq_false fun hn => ?_
  have a := (h.behind [x]).2.2.2.2.2
  have b := hn.2.2.2.2.2.2
  rw [a, List.length_append] at b
  simp at b
  omega
theorem no_less {l : List UInt8} (h : Rd l (l.length : Int)) (h1 : 1 ≤ l.length) : gmb (l.take (l.length - 1)) = false := by
  refine decide_eq_false fun hn => ?_
  have a := (hn.2.behind (l.drop (l.length - 1))).2.2.2.2.2
  rw [List.take_append_drop, h.2.2.2.2.2, List.length_take] at a
  omega
/-- What is read as a message is valid. -/
theorem bits15 (x : Nat) (h : x < 256) : 0 ≤ bits .and .u8 (x : Int) 15 ∧ bits .and .u8 (x : Int) 15 ≤ 15 := by
  rw [u8_and15 _ (by omega) (by omega)]; omega
theorem mok_of {l : List UInt8} {e : Int} (h : Rd l e) : mok (gmh l) (s1 l).2.2 (s2 l).2.2 (s3 l).2.2 = true := by
  obtain ⟨h1, h2, h3, h4, h5, h6⟩ := h
  have b := gq_behind [] (k := 12) (by decide) h2
  have c := grA_behind [] b.2.1 h3
  have d := grA_behind [] c.2.1 h4
  have f := grA_behind [] d.2.1 h5
  have hl := (ghb_parts h1).1
  have i := n2_in (l := l) (k := ((0 : Nat) : Int)) (by omega) (by omega)
  rw [b2_n2 (by omega)] at i
  dsimp only at i
  have y : 0 ≤ bits .and .u8 (by8 l 3) 15 ∧ bits .and .u8 (by8 l 3) 15 ≤ 15 := bits15 (l.getD 3 0).toNat (by have := (l.getD 3 0).toNat_lt; omega)
  have key : ∀ L : List Rec, (∀ r ∈ L, rok r = true) → L.length ≤ 8 → rls L = true := fun L a b => by
    rw [rls, decide_eq_true b, Bool.and_true]
    exact List.all_eq_true.mpr a
  have hh : gmh l = wq (hdr (b2 l 0) (by8 l 2) (by8 l 3)) (gq l 12).2.2.1 (gq l 12).2.2.2 := by rw [gmh, ghh_yes h1]
  rw [hh]
  show (inn (b2 l 0) 0 65535 && (inn (bits .and .u8 (by8 l 3) 15) 0 15 && (qok (gq l 12).2.2.1 (gq l 12).2.2.2 && (rls (s1 l).2.2 && (rls (s2 l).2.2 && rls (s3 l).2.2))))) = true
  rw [b.2.2, key (s1 l).2.2 c.2.2.1 (grA_len _ _ _), key (s2 l).2.2 d.2.2.1 (grA_len _ _ _), key (s3 l).2.2 f.2.2.1 (grA_len _ _ _)]
  rw [inn, inn, decide_eq_true ⟨i.2.1, i.2.2⟩, decide_eq_true y]
  rfl
end Go.Proofs.YtkfibepejlgniaaGreatDoor.MsgMath

/- Plain mathematics: what was put as a message is read as that message. -/
namespace Go.Proofs.YtkfibepejlgniaaGreatDoor.MsgBack
open Go.RowKit Go.Proofs.YtkfibepejlgniaaGreatDoor.Mem Go.Proofs.YtkfibepejlgniaaGreatDoor.MemR Go.Proofs.YtkfibepejlgniaaGreatDoor.MemM Go.Proofs.YtkfibepejlgniaaGreatDoor.JoinSpec Go.Proofs.YtkfibepejlgniaaGreatDoor.Split Go.Proofs.YtkfibepejlgniaaGreatDoor.JoinLab Go.Proofs.YtkfibepejlgniaaGreatDoor.GetLabel Go.Proofs.YtkfibepejlgniaaGreatDoor.NameOk Go.Proofs.YtkfibepejlgniaaGreatDoor.TextR Go.Proofs.YtkfibepejlgniaaGreatDoor.RecOk Go.Proofs.YtkfibepejlgniaaGreatDoor.WireMath Go.Proofs.YtkfibepejlgniaaGreatDoor.WireGood Go.Proofs.YtkfibepejlgniaaGreatDoor.Put Go.Proofs.YtkfibepejlgniaaGreatDoor.PutSpec Go.Proofs.YtkfibepejlgniaaGreatDoor.Get Go.Proofs.YtkfibepejlgniaaGreatDoor.FieldMath Go.Proofs.YtkfibepejlgniaaGreatDoor.FieldBack Go.Proofs.YtkfibepejlgniaaGreatDoor.WireBack Go.Proofs.YtkfibepejlgniaaGreatDoor.GetsM Go.Proofs.YtkfibepejlgniaaGreatDoor.OkM Go.Proofs.YtkfibepejlgniaaGreatDoor.Types Go.Proofs.YtkfibepejlgniaaGreatDoor.HeadRd Go.Proofs.YtkfibepejlgniaaGreatDoor.HeadDef Go.Proofs.YtkfibepejlgniaaGreatDoor.HeadMath Go.Proofs.YtkfibepejlgniaaGreatDoor.MsgMath

theorem tail2_two {x : Int} (h : 0 ≤ x ∧ x ≤ 65535) : tail2 x = two x := if_pos h
theorem two_len (x : Int) : (two x).length = 2 := rfl
theorem hdl_good {h : Hd} {a b c : Nat} (hi : 0 ≤ h.id ∧ h.id ≤ 65535) (ha : a ≤ 8) (hb : b ≤ 8) (hc : c ≤ 8) : hdl h a b c = two h.id ++ fls h ++ two 1 ++ two (a : Int) ++ two (b : Int) ++ two (c : Int) := by
  rw [hdl, tail2_two hi, tail2_two (by omega), tail2_two (by omega), tail2_two (by omega), tail2_two (by omega)]
theorem hdl_12 {h : Hd} {a b c : Nat} (hi : 0 ≤ h.id ∧ h.id ≤ 65535) (ha : a ≤ 8) (hb : b ≤ 8) (hc : c ≤ 8) : (hdl h a b c).length = 12 := by rw [hdl_good hi ha hb hc]; rfl
theorem flag1 (a b c d : Bool) : bo (bi a 128 + bi b 4 + bi c 2 + bi d 1) 128 = a ∧ bo (bi a 128 + bi b 4 + bi c 2 + bi d 1) 4 = b ∧ bo (bi a 128 + bi b 4 + bi c 2 + bi d 1) 2 = c ∧ bo (bi a 128 + bi b 4 + bi c 2 + bi d 1) 1 = d ∧ bo (bi a 128 + bi b 4 + bi c 2 + bi d 1) 120 = false := by
  cases a <;> cases b <;> cases c <;> cases d <;> decide
theorem flag2 (a : Bool) (x : Nat) (h : x < 16) : bo (bi a 128 + (x : Int)) 128 = a ∧ bits .and .u8 (bi a 128 + (x : Int)) 15 = (x : Int) ∧ bo (bi a 128 + (x : Int)) 112 = false := by
  have key : ∀ (a : Bool) (x : Fin 16), bo (bi a 128 + ((x.val : Nat) : Int)) 128 = a ∧ bits .and .u8 (bi a 128 + ((x.val : Nat) : Int)) 15 = ((x.val : Nat) : Int) ∧ bo (bi a 128 + ((x.val : Nat) : Int)) 112 = false := by decide
  exact key a ⟨x, h⟩
/-- The header is read. -/
theorem head_back {h : Hd} {a b c : Nat} (T : List UInt8) (hi : 0 ≤ h.id ∧ h.id ≤ 65535) (hk : 0 ≤ h.code ∧ h.code ≤ 15) (ha : a ≤ 8) (hb : b ≤ 8) (hc : c ≤ 8) :
    ghb (hdl h a b c ++ T) = true ∧ ghh (hdl h a b c ++ T) = wq h ⟨#[]⟩ 0 ∧ ghn (hdl h a b c ++ T) 6 = (a : Int) ∧ ghn (hdl h a b c ++ T) 8 = (b : Int) ∧ ghn (hdl h a b c ++ T) 10 = (c : Int) := by
  have e := hdl_good hi ha hb hc
  have e0 : n2 (hdl h a b c ++ T) 0 = (h.id, true) := by
    have := n2_mid [] (fls h ++ two 1 ++ two (a : Int) ++ two (b : Int) ++ two (c : Int) ++ T) h.id hi.1 hi.2 0 rfl
    rw [← this, e]; simp only [List.append_assoc, List.nil_append]
  have e4 : n2 (hdl h a b c ++ T) 4 = (1, true) := by
    have := n2_mid (two h.id ++ fls h) (two (a : Int) ++ two (b : Int) ++ two (c : Int) ++ T) 1 (by omega) (by omega) 4 rfl
    rw [← this, e]; simp only [List.append_assoc]
  have e6 : n2 (hdl h a b c ++ T) 6 = ((a : Int), true) := by
    have := n2_mid (two h.id ++ fls h ++ two 1) (two (b : Int) ++ two (c : Int) ++ T) (a : Int) (by omega) (by omega) 6 rfl
    rw [← this, e]; simp only [List.append_assoc]
  have e8 : n2 (hdl h a b c ++ T) 8 = ((b : Int), true) := by
    have := n2_mid (two h.id ++ fls h ++ two 1 ++ two (a : Int)) (two (c : Int) ++ T) (b : Int) (by omega) (by omega) 8 rfl
    rw [← this, e]; simp only [List.append_assoc]
  have e10 : n2 (hdl h a b c ++ T) 10 = ((c : Int), true) := by
    have := n2_mid (two h.id ++ fls h ++ two 1 ++ two (a : Int) ++ two (b : Int)) T (c : Int) (by omega) (by omega) 10 rfl
    rw [← this, e]
  have b2_ : by8 (hdl h a b c ++ T) 2 = f1 h := by
    have : by8 (hdl h a b c ++ T) 2 = ((UInt8.ofNat (f1 h).toNat).toNat : Int) := by rw [e]; rfl
    rw [this, of_byte _ (f1_in h).1 (by have := f1_in h; omega)]
  have b3_ : by8 (hdl h a b c ++ T) 3 = f2 h := by
    have : by8 (hdl h a b c ++ T) 3 = ((UInt8.ofNat (f2 h).toNat).toNat : Int) := by rw [e]; rfl
    rw [this, of_byte _ (f2_in h).1 (by have := f2_in h; omega)]
  have hx := flag1 h.rp h.au h.ct h.wa
  have hy : bo (f2 h) 128 = h.ca ∧ bits .and .u8 (f2 h) 15 = h.code ∧ bo (f2 h) 112 = false := by
    have := flag2 h.ca h.code.toNat (by omega)
    rw [Int.toNat_of_nonneg hk.1] at this
    have e : f2 h = bi h.ca 128 + h.code := by unfold f2; omega
    rw [e]; exact this
  have hlen : 12 ≤ (hdl h a b c ++ T).length := by rw [List.length_append, hdl_12 hi ha hb hc]; omega
  have c0 : b2 (hdl h a b c ++ T) 0 = h.id := by have := b2_n2 (l := hdl h a b c ++ T) (k := 0) (by omega); rw [show ((0 : Nat) : Int) = 0 from rfl, e0] at this; exact (congrArg Prod.fst this).symm
  have c4 : b2 (hdl h a b c ++ T) 4 = 1 := by have := b2_n2 (l := hdl h a b c ++ T) (k := 4) (by omega); rw [show ((4 : Nat) : Int) = 4 from rfl, e4] at this; exact (congrArg Prod.fst this).symm
  have c6 : b2 (hdl h a b c ++ T) 6 = (a : Int) := by have := b2_n2 (l := hdl h a b c ++ T) (k := 6) (by omega); rw [show ((6 : Nat) : Int) = 6 from rfl, e6] at this; exact (congrArg Prod.fst this).symm
  have c8 : b2 (hdl h a b c ++ T) 8 = (b : Int) := by have := b2_n2 (l := hdl h a b c ++ T) (k := 8) (by omega); rw [show ((8 : Nat) : Int) = 8 from rfl, e8] at this; exact (congrArg Prod.fst this).symm
  have c10 : b2 (hdl h a b c ++ T) 10 = (c : Int) := by have := b2_n2 (l := hdl h a b c ++ T) (k := 10) (by omega); rw [show ((10 : Nat) : Int) = 10 from rfl, e10] at this; exact (congrArg Prod.fst this).symm
  have g : ghb (hdl h a b c ++ T) = true := ghb_of hlen (by rw [b2_]; exact hx.2.2.2.2) (by rw [b3_]; exact hy.2.2) c4
  refine ⟨g, ?_, ?_, ?_, ?_⟩
  · rw [ghh_yes g, c0, b2_, b3_]
    show Hd.mk h.id (bo (f1 h) 128) (bo (f1 h) 4) (bo (f1 h) 2) (bo (f1 h) 1) (bo (f2 h) 128) (bits .and .u8 (f2 h) 15) ⟨#[]⟩ 0 = _
    rw [show bo (f1 h) 128 = h.rp from hx.1, show bo (f1 h) 4 = h.au from hx.2.1, show bo (f1 h) 2 = h.ct from hx.2.2.1, show bo (f1 h) 1 = h.wa from hx.2.2.2.1, hy.1, hy.2.1]
    rfl
  · rw [ghn_yes g, c6]
  · rw [ghn_yes g, c8]
  · rw [ghn_yes g, c10]
theorem qok_parts {s : ByteArray} {n : Int} (h : qok s n = true) : Nm s = true ∧ 0 ≤ n ∧ n ≤ 65535 := by
  unfold qok at h
  rw [Bool.and_eq_true] at h
  have := of_decide_eq_true h.2
  exact ⟨h.1, by omega, by omega⟩
/-- The question is read. -/
theorem quest_back {h : Hd} {a b c : Nat} (T : List UInt8) (hi : 0 ≤ h.id ∧ h.id ≤ 65535) (hq : qok h.qn h.qt = true) (ha : a ≤ 8) (hb : b ≤ 8) (hc : c ≤ 8) :
    gq (hqs h a b c ++ T) 12 = (0, ((hqs h a b c).length : Int), h.qn, h.qt) := by
  have hp := qok_parts hq
  have h12 := hdl_12 hi ha hb hc
  obtain ⟨i, hn⟩ := back_name (hdl h a b c) h.qn hp.1
  rw [h12, show ((12 : Nat) : Int) = 12 from rfl] at hn
  generalize hN : hdl h a b c ++ tailN (hdl h a b c) h.qn = N at *
  have e : hqs h a b c ++ T = N ++ (two h.qt ++ two 1 ++ T) := by
    rw [hqs, hN, tail2_two hp.2, tail2_two (by omega)]
    simp only [List.append_assoc]
  have hz : ((hqs h a b c).length : Int) = (N.length : Int) + 4 := by
    rw [hqs, hN, tail2_two hp.2, tail2_two (by omega)]
    simp only [List.length_append, two_len]
    omega
  have a1 : n2 (N ++ (two h.qt ++ two 1 ++ T)) (N.length : Int) = (h.qt, true) := by
    have := n2_mid N (two 1 ++ T) h.qt hp.2.1 hp.2.2 _ rfl
    rw [← this]; simp only [List.append_assoc]
  have a2 : n2 (N ++ (two h.qt ++ two 1 ++ T)) ((N.length : Int) + 2) = (1, true) := by
    have := n2_mid (N ++ two h.qt) T 1 (by omega) (by omega) ((N.length : Int) + 2) (by rw [List.length_append, two_len]; omega)
    rw [← this]; simp only [List.append_assoc]
  rw [e, gq_good (rn_behind _ hn) (by simp only [List.length_append, two_len]; omega) (by rw [a1, jo_lab]; exact hq) (by rw [a2]), a1, jo_lab, hz]
theorem list_back (L : List Rec) (l T : List UInt8) (h : ∀ r ∈ L, rok r = true) (h8 : L.length ≤ 8) : grA (puts l L ++ T) (l.length : Int) (L.length : Int) = (0, ((puts l L).length : Int), L) := by
  rw [grA, if_pos ⟨by omega, by omega⟩, Int.toNat_natCast]
  have := back_list L l [] h
  rw [List.nil_append] at this
  exact (grs_behind T L.length (l.length : Int) [] L _ (by omega) (fun r hr => by cases hr) this).1
/-- What was put as a message is read as that message. -/
theorem back {h : Hd} {l1 l2 l3 : List Rec} (e : mok h l1 l2 l3 = true) : Rd (pmr h l1 l2 l3) ((pmr h l1 l2 l3).length : Int) ∧ gmh (pmr h l1 l2 l3) = h ∧ (s1 (pmr h l1 l2 l3)).2.2 = l1 ∧ (s2 (pmr h l1 l2 l3)).2.2 = l2 ∧ (s3 (pmr h l1 l2 l3)).2.2 = l3 ∧ ghh (pmr h l1 l2 l3) = wq h ⟨#[]⟩ 0 ∧ ghn (pmr h l1 l2 l3) 6 = (l1.length : Int) ∧ ghn (pmr h l1 l2 l3) 8 = (l2.length : Int) ∧ ghn (pmr h l1 l2 l3) 10 = (l3.length : Int) := by
  obtain ⟨hi, hk, hq, r1, r2, r3⟩ := mok_parts e
  obtain ⟨r1, n1⟩ := rls_parts r1
  obtain ⟨r2, n2⟩ := rls_parts r2
  obtain ⟨r3, n3⟩ := rls_parts r3
  obtain ⟨T1, t1⟩ := puts_pre l1 (hqs h l1.length l2.length l3.length)
  obtain ⟨T2, t2⟩ := puts_pre l2 (puts (hqs h l1.length l2.length l3.length) l1)
  obtain ⟨T3, t3⟩ := puts_pre l3 (puts (puts (hqs h l1.length l2.length l3.length) l1) l2)
  have p3 : pmr h l1 l2 l3 = puts (puts (puts (hqs h l1.length l2.length l3.length) l1) l2) l3 := rfl
  have p2 : pmr h l1 l2 l3 = puts (puts (hqs h l1.length l2.length l3.length) l1) l2 ++ T3 := p3.trans t3
  have p1 : pmr h l1 l2 l3 = puts (hqs h l1.length l2.length l3.length) l1 ++ (T2 ++ T3) := by rw [p2, t2, List.append_assoc]
  have p0 : pmr h l1 l2 l3 = hqs h l1.length l2.length l3.length ++ (T1 ++ (T2 ++ T3)) := by rw [p1, t1, List.append_assoc]
  have ph : pmr h l1 l2 l3 = hdl h l1.length l2.length l3.length ++ (tailN (hdl h l1.length l2.length l3.length) h.qn ++ tail2 h.qt ++ tail2 1 ++ (T1 ++ (T2 ++ T3))) := by
    rw [p0, hqs]; simp only [List.append_assoc]
  have H := head_back (h := h) (tailN (hdl h l1.length l2.length l3.length) h.qn ++ tail2 h.qt ++ tail2 1 ++ (T1 ++ (T2 ++ T3))) hi hk n1 n2 n3
  rw [← ph] at H
  have Q := quest_back (h := h) (T1 ++ (T2 ++ T3)) hi hq n1 n2 n3
  rw [← p0] at Q
  have q1 : s1 (pmr h l1 l2 l3) = (0, ((puts (hqs h l1.length l2.length l3.length) l1).length : Int), l1) := by
    rw [s1, Q, H.2.2.1, p1]; exact list_back l1 _ _ r1 n1
  have q2 : s2 (pmr h l1 l2 l3) = (0, ((puts (puts (hqs h l1.length l2.length l3.length) l1) l2).length : Int), l2) := by
    rw [s2, q1, H.2.2.2.1, p2]; exact list_back l2 _ _ r2 n2
  have q3 : s3 (pmr h l1 l2 l3) = (0, ((pmr h l1 l2 l3).length : Int), l3) := by
    have := list_back l3 (puts (puts (hqs h l1.length l2.length l3.length) l1) l2) [] r3 n3
    rw [List.append_nil] at this
    rw [s3, q2, H.2.2.2.2]; exact this
  exact ⟨⟨H.1, by rw [Q], by rw [q1], by rw [q2], by rw [q3], by rw [q3]⟩, by rw [gmh, H.2.1, Q]; rfl, by rw [q1], by rw [q2], by rw [q3], H.2.1, H.2.2⟩
end Go.Proofs.YtkfibepejlgniaaGreatDoor.MsgBack

/- What the program's part does: the bytes at an offset, cut out with their capacity, and whether they are there. -/
namespace Go.Proofs.YtkfibepejlgniaaGreatDoor.PartI
open Go.RowKit Go.Proofs.YtkfibepejlgniaaGreatDoor.Mem Go.Proofs.YtkfibepejlgniaaGreatDoor.Get

theorem sl_sub {w : World} {B b off n : Nat} {l : List UInt8} (hs : Sl w B (some ⟨b, off, none⟩) n l) (k m : Nat) (h : k + m ≤ n) (hm : 0 < m) : Sl w B (some ⟨b, off + k, none⟩) m ((l.drop k).take m) := by
  have hl := hs.1
  obtain ⟨b', off', e, hb, hc⟩ := hs.2 (by omega)
  simp only [Option.some.injEq, Addr.mk.injEq, and_true] at e
  obtain ⟨rfl, rfl⟩ := e
  refine Sl.of b (off + k) rfl (by rw [List.length_take, List.length_drop]; omega) hb fun j hj => ?_
  rw [List.length_take, List.length_drop] at hj
  have := hc (k + j) (by omega)
  rw [List.getElem_take, List.getElem_drop, Nat.add_assoc]
  exact this
theorem sub2 (l : List UInt8) (k m j : Nat) (h : j + 2 ≤ m) : be ((((l.drop k).take m).drop j).take 2) = be ((l.drop (k + j)).take 2) := by
  rw [List.drop_take, List.take_take, List.drop_drop, Nat.min_eq_left (by omega)]

set_option maxHeartbeats 1000000 in
theorem part_no (A : Option Addr) (n c m : Nat) (k : Int) (w : World) (hn : n ≤ 400000000) (hm : m ≤ 400000000) (hk : (n : Int) - (m : Int) < k) :
    Calls Tryz.prog 92 #[.slice A n c, .int .i64 k, .int .i64 (m : Int)] w fun e w' => e = .returned (.tuple #[.slice none 0 0, .bool false]) ∧ w = w' := by
  go_enter Tryz.func92, Tryz.ntmps92
  go_wp2
  go_ret2
  exact ⟨rfl, rfl⟩

set_option maxHeartbeats 1000000 in
theorem part_yes (b off n c k m : Nat) (w : World) (hnc : n ≤ c) (hn : n ≤ 400000000) (hk : k + m ≤ n) (hm : ¬ m = 0) :
    Calls Tryz.prog 92 #[.slice (some ⟨b, off, none⟩) n c, .int .i64 (k : Int), .int .i64 (m : Int)] w fun e w' => e = .returned (.tuple #[.slice (some ⟨b, off + k, none⟩) m m, .bool true]) ∧ w = w' := by
  have h1 : ¬ (n : Int) - (m : Int) < (k : Int) := by omega
  go_enter Tryz.func92, Tryz.ntmps92
  go_wp2
  go_ret2
  exact ⟨rfl, rfl⟩
end Go.Proofs.YtkfibepejlgniaaGreatDoor.PartI

/- A question that a call gives back lies in a box of its own, made first and filled at the return. -/
namespace Go.Proofs.YtkfibepejlgniaaGreatDoor.ResQ
open Go.RowKit Go.Proofs.YtkfibepejlgniaaGreatDoor.Mem Go.Proofs.YtkfibepejlgniaaGreatDoor.MemR Go.Proofs.YtkfibepejlgniaaGreatDoor.MemM Go.Proofs.YtkfibepejlgniaaGreatDoor.ResR

/-- The cells of a question. -/
def qc (s : ByteArray) (n : Int) : List Value := [.string s, .int .i64 n]
/-- The box g filled with a question. -/
def filQ (w : World) (g : Nat) (s : ByteArray) (n : Int) : World := (w.setCell ⟨g, 0, none⟩ (.string s)).setCell ⟨g, 1, none⟩ (.int .i64 n)
section
variable {w w1 : World} {g B : Nat} {t : TypeId} {s s0 : ByteArray} {n n0 : Int}
theorem qx_of (k : Bk w g t (qc s n)) : Qx w g s n := ⟨k.cell 0, k.cell 1⟩
theorem filQ_bk (k : Bk w g t (qc s0 n0)) (s : ByteArray) (n : Int) : Bk (filQ w g s n) g t (qc s n) := (k.set 0 (.string s)).set 1 (.int .i64 n)
theorem filQ_below (k : Below B w w1) (hg : B ≤ g) (s : ByteArray) (n : Int) : Below B w (filQ w1 g s n) := (k.setCell (p := ⟨g, 0, none⟩) hg (.string s)).setCell (p := ⟨g, 1, none⟩) hg (.int .i64 n)
end
theorem load_q {w : World} {g : Nat} {t : TypeId} {s : ByteArray} {n : Int} (h : Bk w g t (qc s n)) : (loadVar 25 ⟨g, 0, none⟩).run Tryz.prog w = .ok (.agg #[.string s, .int .i64 n]) w := by
  obtain ⟨c0, c1⟩ := qx_of h
  simp [go_sem, c0, c1]
theorem res3Q {fn : Func} {p u v : Tmp} {w : World} {g : Nat} {t : TypeId} {s : ByteArray} {n : Int} {x y : Value} {tmps : Array Value} (hf : fn.results = #[.cell p 25, .tmp u, .tmp v]) (h : Bk w g t (qc s n)) (h4 : tmps.getD p undef = .pointer (some ⟨g, 0, none⟩)) (h5 : tmps.getD u undef = x) (h6 : tmps.getD v undef = y) :
    (results fn tmps).run Tryz.prog w = .ok (.tuple #[.agg #[.string s, .int .i64 n], x, y]) w := by
  rw [results_cell_tmp2 hf, h4, h5, h6, as_addr]
  simp only [Result.andThen, load_q h]
end Go.Proofs.YtkfibepejlgniaaGreatDoor.ResQ

/- Plain mathematics: the data of a record as the program reads them, ahead of any look at their length; that this is the model's reading, with the look at the record behind it. Nothing of the program is named here but the seat itself. -/
namespace Go.Proofs.YtkfibepejlgniaaGreatDoor.FieldRd
open Go.Proofs.YtkfibepejlgniaaGreatDoor.Mem Go.Proofs.YtkfibepejlgniaaGreatDoor.MemR Go.Proofs.YtkfibepejlgniaaGreatDoor.JoinSpec Go.Proofs.YtkfibepejlgniaaGreatDoor.Split Go.Proofs.YtkfibepejlgniaaGreatDoor.GetLabel Go.Proofs.YtkfibepejlgniaaGreatDoor.NameOk Go.Proofs.YtkfibepejlgniaaGreatDoor.TextR Go.Proofs.YtkfibepejlgniaaGreatDoor.RecOk Go.Proofs.YtkfibepejlgniaaGreatDoor.WireMath Go.Proofs.YtkfibepejlgniaaGreatDoor.FieldMath

/-- What readText reads: a code, the offset behind, the record. -/
def rdT (l : List UInt8) (k : Int) : Nat × Int × Rec :=
  if (l.length : Int) ≤ k then (2, 0, zr) else if (l.length : Int) < k + 1 + bt l k then (2, 0, zr) else (0, k + 1 + bt l k, rT (piece l k.toNat (bt l k).toNat))
/-- What readAddr reads. -/
def rdA (l : List UInt8) (k : Int) : Nat × Int × Rec := if (n4 l k).2 = true then (0, k + 4, rA (n4 l k).1) else (2, 0, zr)
/-- What readServer and readAlias read. -/
def rdH (l : List UInt8) (k ty : Int) : Nat × Int × Rec := ((rn l [] k k 0 (-1)).1, (rn l [] k k 0 (-1)).2.2.1, rH ty (Jo (rn l [] k k 0 (-1)).2.1))
/-- What readStart reads. -/
def rdS (l : List UInt8) (k : Int) : Nat × Int × Rec :=
  if (rn l [] k k 0 (-1)).1 ≠ 0 then ((rn l [] k k 0 (-1)).1, 0, zr)
  else if (n4 l (rn l [] k k 0 (-1)).2.2.1).2 = true then (0, (rn l [] k k 0 (-1)).2.2.1 + 4, rS (Jo (rn l [] k k 0 (-1)).2.1) (n4 l (rn l [] k k 0 (-1)).2.2.1).1) else (2, 0, zr)
/-- What readData reads. A def, so that no step of a walk opens it. -/
def rdd (l : List UInt8) (k ty : Int) : Nat × Int × Rec :=
  if ty = 1 then rdA l k else if ty = 2 ∨ ty = 5 then rdH l k ty else if ty = 6 then rdS l k else if ty = 16 then rdT l k else (2, 0, zr)
theorem bt_bounds (l : List UInt8) (k : Int) : 0 ≤ bt l k ∧ bt l k < 256 := by
  unfold bt
  have := UInt8.toNat_lt (l.getD k.toNat 0)
  omega
theorem rok_T (s : ByteArray) : rok (rT s) = txo s := by
  have h : rok (rT s) = (Nm ⟨#[]⟩ && (inn 0 0 100000 && dko 16 0 ⟨#[]⟩ s)) := rfl
  rw [h, dko_16]
  have e1 : Nm ⟨#[]⟩ = true := by rfl
  have e2 : inn 0 0 100000 = true := by decide
  have e3 : nul 0 = true := by decide
  have e4 : emp ⟨#[]⟩ = true := by decide
  rw [e1, e2, e3, e4]
  simp
/-- What the program's GetData answers, told of what it read. -/
theorem rdd_gd {l : List UInt8} {k n ty : Int} (h : 0 ≤ n ∧ n ≤ 255) (hk : ¬ (k < 0 ∨ (l.length : Int) - n < k)) :
    fx (gd l k n ty) = if (rdd l k ty).1 ≠ 0 then ((rdd l k ty).1, zr) else if (rdd l k ty).2.1 = k + n ∧ rok (rdd l k ty).2.2 = true then (0, (rdd l k ty).2.2) else (2, zr) := by
  have fb : ∀ c : Nat, c ≠ 0 → fx (c, zr) = (c, zr) := fun c hc => fx_bad hc
  have fo : ∀ r : Rec, fx (0, r) = if rok r = true then (0, r) else (2, zr) := fun r => by
    cases hr : rok r
    · rw [fx_not hr]; rfl
    · rw [fx_ok hr]; rfl
  have R0 : ∀ (q : Int) (r : Rec), (if (0 : Nat) ≠ 0 then ((0 : Nat), zr) else if q = k + n ∧ rok r = true then (0, r) else (2, zr)) = if q = k + n ∧ rok r = true then (0, r) else (2, zr) := fun _ _ => if_neg (fun e => e rfl)
  by_cases h1 : ty = 1
  · subst h1
    have e : rdd l k 1 = rdA l k := rfl
    rw [gd_1 h hk, e]
    unfold rdA
    by_cases hb : (n4 l k).2 = true
    · rw [if_pos hb]
      dsimp only
      rw [R0]
      by_cases hn : n = 4
      · rw [if_pos ⟨hb, hn⟩, fo]
        by_cases hr : rok (rA (n4 l k).1) = true
        · rw [if_pos hr, if_pos ⟨by omega, hr⟩]
        · rw [if_neg hr, if_neg (fun e => hr e.2)]
      · rw [if_neg (fun e => hn e.2), fb 2 (by decide), if_neg (fun e => hn (by omega))]
    · rw [if_neg (fun e => hb e.1), fb 2 (by decide), if_neg hb]
      rfl
  by_cases h25 : ty = 2 ∨ ty = 5
  · have e : rdd l k ty = rdH l k ty := by unfold rdd; rw [if_neg h1, if_pos h25]
    rw [gd_h h hk h25, e]
    unfold rdH
    dsimp only
    by_cases hc : (rn l [] k k 0 (-1)).1 ≠ 0
    · rw [if_pos hc, fb _ hc, if_pos hc]
    · rw [if_neg hc, if_neg hc]
      by_cases hn : (rn l [] k k 0 (-1)).2.2.1 = k + n
      · rw [if_pos hn, fo]
        by_cases hr : rok (rH ty (Jo (rn l [] k k 0 (-1)).2.1)) = true
        · rw [if_pos hr, if_pos ⟨hn, hr⟩]
        · rw [if_neg hr, if_neg (fun e => hr e.2)]
      · rw [if_neg hn, fb 2 (by decide), if_neg (fun e => hn e.1)]
  by_cases h6 : ty = 6
  · subst h6
    have e : rdd l k 6 = rdS l k := rfl
    rw [gd_6 h hk, e]
    unfold rdS
    by_cases hc : (rn l [] k k 0 (-1)).1 ≠ 0
    · rw [if_pos hc, fb _ hc, if_pos hc]
      dsimp only
      rw [if_pos hc]
    · rw [if_neg hc, if_neg hc]
      by_cases hb : (n4 l (rn l [] k k 0 (-1)).2.2.1).2 = true
      · rw [if_pos hb]
        dsimp only
        rw [R0]
        by_cases hn : (rn l [] k k 0 (-1)).2.2.1 + 4 = k + n
        · rw [if_pos ⟨hb, hn⟩, fo]
          by_cases hr : rok (rS (Jo (rn l [] k k 0 (-1)).2.1) (n4 l (rn l [] k k 0 (-1)).2.2.1).1) = true
          · rw [if_pos hr, if_pos ⟨hn, hr⟩]
          · rw [if_neg hr, if_neg (fun e => hr e.2)]
        · rw [if_neg (fun e => hn e.2), fb 2 (by decide), if_neg (fun e => hn e.1)]
      · rw [if_neg (fun e => hb e.1), fb 2 (by decide), if_neg hb]
        rfl
  by_cases h16 : ty = 16
  · subst h16
    have e : rdd l k 16 = rdT l k := rfl
    have hbt := bt_bounds l k
    rw [gd_16 h hk, e]
    unfold rdT
    by_cases ha : (l.length : Int) ≤ k
    · rw [if_pos ha, if_neg (fun e => by omega), fb 2 (by decide)]
      rfl
    · rw [if_neg ha]
      by_cases hb : (l.length : Int) < k + 1 + bt l k
      · rw [if_pos hb, if_neg (fun e => by omega), fb 2 (by decide)]
        rfl
      · rw [if_neg hb]
        dsimp only
        rw [R0]
        by_cases hn : bt l k = n - 1
        · rw [hn, rok_T]
          by_cases hr : txo (piece l k.toNat (n - 1).toNat) = true
          · rw [if_pos ⟨by omega, rfl, hr⟩, fo, rok_T, if_pos hr, if_pos ⟨by omega, hr⟩]
          · rw [if_neg (fun e => hr e.2.2), fb 2 (by decide), if_neg (fun e => hr e.2)]
        · rw [if_neg (fun e => hn e.2.1), fb 2 (by decide), if_neg (fun e => by have := e.1; omega)]
  · have e : rdd l k ty = (2, 0, zr) := by unfold rdd; rw [if_neg h1, if_neg h25, if_neg h6, if_neg h16]
    rw [gd_ty h hk (by omega), e, fb 2 (by decide)]
    rfl
end Go.Proofs.YtkfibepejlgniaaGreatDoor.FieldRd

/- What the program's readers of data do: they read as FieldRd tells, and hand on a value of which recordOf makes the record. Conditions: at most 400000000 bytes; the library's variable internal/bytealg.MaxLen holds an int. -/
namespace Go.Proofs.YtkfibepejlgniaaGreatDoor.ReadI
open Go.RowKit Go.Proofs.YtkfibepejlgniaaGreatDoor.Mem Go.Proofs.YtkfibepejlgniaaGreatDoor.MemR Go.Proofs.YtkfibepejlgniaaGreatDoor.JoinSpec Go.Proofs.YtkfibepejlgniaaGreatDoor.Labels Go.Proofs.YtkfibepejlgniaaGreatDoor.GetLabel Go.Proofs.YtkfibepejlgniaaGreatDoor.BoxR Go.Proofs.YtkfibepejlgniaaGreatDoor.NameOk Go.Proofs.YtkfibepejlgniaaGreatDoor.WireMath Go.Proofs.YtkfibepejlgniaaGreatDoor.WalkSpec Go.Proofs.YtkfibepejlgniaaGreatDoor.Get Go.Proofs.YtkfibepejlgniaaGreatDoor.FieldMath Go.Proofs.YtkfibepejlgniaaGreatDoor.FieldRd Go.Proofs.YtkfibepejlgniaaGreatDoor.ResR

theorem get4 (A : Option Addr) (n c : Nat) (l : List UInt8) (k : Int) (w : World) (B : Nat) (hs : Sl w B A n l) (hnc : n ≤ c) (hn : n ≤ 400000000) :
    Calls Tryz.prog 189 #[.slice A n c, .int .i64 k] w fun e w' => e = .returned (.tuple #[.int .i64 (n4 l k).1, .bool (n4 l k).2]) ∧ w = w' := by
  have hl := hs.1
  unfold n4
  by_cases h : 0 ≤ k ∧ k ≤ (l.length : Int) - 4
  · rw [if_pos h]
    obtain ⟨j, rfl⟩ := Int.eq_ofNat_of_zero_le h.1
    refine (implGet4_yes A n c l w B j hs hnc hn (by omega)).mono fun e w' ⟨he, hw⟩ => ⟨?_, hw⟩
    rw [he, Int.toNat_natCast]
    unfold four
    by_cases hv : 2147483647 < be ((l.drop j).take 4)
    · rw [if_pos hv, if_pos hv]
    · rw [if_neg hv, if_neg hv]
  · rw [if_neg h]
    exact implGet4_no A n c w k hn (by omega)

/-- recordOf makes the record r of the value v. -/
def RecOf (v : Value) (r : Rec) : Prop := ∀ W, Calls Tryz.prog 203 #[v] W fun e w' => e = .returned (.agg #[.string r.name, .int .i64 r.ty, .int .i64 r.ttl, .int .i64 r.n, .string r.host, .string r.text]) ∧ Below W.heap.size W w'

theorem as_addr_addr (v : Value) (w : World) : (Instr.typeAssert (.iface 190 v) 176 190 true).run Tryz.prog w = .ok (.tuple #[v, .bool true]) w := by kernel_rfl
theorem as_server_addr (v : Value) (w : World) : (Instr.typeAssert (.iface 191 v) 176 190 true).run Tryz.prog w = .ok (.tuple #[.int .i64 0, .bool false]) w := by kernel_rfl
theorem as_server_server (v : Value) (w : World) : (Instr.typeAssert (.iface 191 v) 176 191 true).run Tryz.prog w = .ok (.tuple #[v, .bool true]) w := by kernel_rfl
theorem as_alias_addr (v : Value) (w : World) : (Instr.typeAssert (.iface 192 v) 176 190 true).run Tryz.prog w = .ok (.tuple #[.int .i64 0, .bool false]) w := by kernel_rfl
theorem as_alias_server (v : Value) (w : World) : (Instr.typeAssert (.iface 192 v) 176 191 true).run Tryz.prog w = .ok (.tuple #[.string ⟨#[]⟩, .bool false]) w := by kernel_rfl
theorem as_alias_alias (v : Value) (w : World) : (Instr.typeAssert (.iface 192 v) 176 192 true).run Tryz.prog w = .ok (.tuple #[v, .bool true]) w := by kernel_rfl
theorem as_start_addr (v : Value) (w : World) : (Instr.typeAssert (.iface 194 v) 176 190 true).run Tryz.prog w = .ok (.tuple #[.int .i64 0, .bool false]) w := by kernel_rfl
theorem as_start_server (v : Value) (w : World) : (Instr.typeAssert (.iface 194 v) 176 191 true).run Tryz.prog w = .ok (.tuple #[.string ⟨#[]⟩, .bool false]) w := by kernel_rfl
theorem as_start_alias (v : Value) (w : World) : (Instr.typeAssert (.iface 194 v) 176 192 true).run Tryz.prog w = .ok (.tuple #[.string ⟨#[]⟩, .bool false]) w := by kernel_rfl
theorem as_start_start (v : Value) (w : World) : (Instr.typeAssert (.iface 194 v) 176 194 true).run Tryz.prog w = .ok (.tuple #[v, .bool true]) w := by kernel_rfl
theorem as_text_addr (v : Value) (w : World) : (Instr.typeAssert (.iface 195 v) 176 190 true).run Tryz.prog w = .ok (.tuple #[.int .i64 0, .bool false]) w := by kernel_rfl
theorem as_text_server (v : Value) (w : World) : (Instr.typeAssert (.iface 195 v) 176 191 true).run Tryz.prog w = .ok (.tuple #[.string ⟨#[]⟩, .bool false]) w := by kernel_rfl
theorem as_text_alias (v : Value) (w : World) : (Instr.typeAssert (.iface 195 v) 176 192 true).run Tryz.prog w = .ok (.tuple #[.string ⟨#[]⟩, .bool false]) w := by kernel_rfl
theorem as_text_start (v : Value) (w : World) : (Instr.typeAssert (.iface 195 v) 176 194 true).run Tryz.prog w = .ok (.tuple #[.agg #[.string ⟨#[]⟩, .int .i64 0], .bool false]) w := by kernel_rfl
theorem as_text_text (v : Value) (w : World) : (Instr.typeAssert (.iface 195 v) 176 195 true).run Tryz.prog w = .ok (.tuple #[v, .bool true]) w := by kernel_rfl

set_option maxHeartbeats 1000000 in
theorem of_addr (x : Int) : RecOf (.iface 190 (.int .i64 x)) (rA x) := by
  intro w
  have h_addr := as_addr_addr
  go_enter Tryz.func203, Tryz.ntmps203
  go_wp2
  exact bodyPost_ret (v := .agg #[.string ((rA x)).name, .int .i64 ((rA x)).ty, .int .i64 ((rA x)).ttl, .int .i64 ((rA x)).n, .string ((rA x)).host, .string ((rA x)).text]) (res1 rfl (show Bk _ w.heap.size 117 (rc (rA x)) from heap_alloc_new w _) rfl) rfl ⟨rfl, (Below.refl _ _).alloc (Nat.le_refl _) _⟩

set_option maxHeartbeats 1000000 in
theorem of_server (s : ByteArray) : RecOf (.iface 191 (.string s)) (rH 2 s) := by
  intro w
  have h_addr := as_server_addr
  have h_server := as_server_server
  go_enter Tryz.func203, Tryz.ntmps203
  go_wp2
  exact bodyPost_ret (v := .agg #[.string ((rH 2 s)).name, .int .i64 ((rH 2 s)).ty, .int .i64 ((rH 2 s)).ttl, .int .i64 ((rH 2 s)).n, .string ((rH 2 s)).host, .string ((rH 2 s)).text]) (res1 rfl (show Bk _ w.heap.size 117 (rc (rH 2 s)) from heap_alloc_new w _) rfl) rfl ⟨rfl, (Below.refl _ _).alloc (Nat.le_refl _) _⟩

set_option maxHeartbeats 1000000 in
theorem of_alias (s : ByteArray) : RecOf (.iface 192 (.string s)) (rH 5 s) := by
  intro w
  have h_addr := as_alias_addr
  have h_server := as_alias_server
  have h_alias := as_alias_alias
  go_enter Tryz.func203, Tryz.ntmps203
  go_wp2
  exact bodyPost_ret (v := .agg #[.string ((rH 5 s)).name, .int .i64 ((rH 5 s)).ty, .int .i64 ((rH 5 s)).ttl, .int .i64 ((rH 5 s)).n, .string ((rH 5 s)).host, .string ((rH 5 s)).text]) (res1 rfl (show Bk _ w.heap.size 117 (rc (rH 5 s)) from heap_alloc_new w _) rfl) rfl ⟨rfl, (Below.refl _ _).alloc (Nat.le_refl _) _⟩

set_option maxHeartbeats 1000000 in
theorem of_start (s : ByteArray) (x : Int) : RecOf (.iface 194 (.agg #[.string s, .int .i64 x])) (rS s x) := by
  intro w
  have h_addr := as_start_addr
  have h_server := as_start_server
  have h_alias := as_start_alias
  have h_start := as_start_start
  go_enter Tryz.func203, Tryz.ntmps203
  go_wp2
  exact bodyPost_ret (v := .agg #[.string ((rS s x)).name, .int .i64 ((rS s x)).ty, .int .i64 ((rS s x)).ttl, .int .i64 ((rS s x)).n, .string ((rS s x)).host, .string ((rS s x)).text]) (res1 rfl ((show Bk _ w.heap.size 117 (rc (rS s x)) from heap_alloc_new w _).alloc _) rfl) rfl ⟨rfl, ((Below.refl _ _).alloc (Nat.le_refl _) _).alloc (by simp) _⟩

set_option maxHeartbeats 1000000 in
theorem of_text (s : ByteArray) : RecOf (.iface 195 (.string s)) (rT s) := by
  intro w
  have h_addr := as_text_addr
  have h_server := as_text_server
  have h_alias := as_text_alias
  have h_start := as_text_start
  have h_text := as_text_text
  go_enter Tryz.func203, Tryz.ntmps203
  go_wp2
  exact bodyPost_ret (v := .agg #[.string ((rT s)).name, .int .i64 ((rT s)).ty, .int .i64 ((rT s)).ttl, .int .i64 ((rT s)).n, .string ((rT s)).host, .string ((rT s)).text]) (res1 rfl (show Bk _ w.heap.size 117 (rc (rT s)) from heap_alloc_new w _) rfl) rfl ⟨rfl, (Below.refl _ _).alloc (Nat.le_refl _) _⟩

/-- What a reader hands on. -/
def Rd (w : World) (X : Nat × Int × Rec) (e : Ending) (w' : World) : Prop :=
  ∃ v, e = .returned (.tuple #[v, .int .i64 X.2.1, .int .i64 (X.1 : Int)]) ∧ (X.1 = 0 → RecOf v X.2.2) ∧ Below w.heap.size w w'

set_option maxHeartbeats 1000000 in
theorem readAddr (A : Option Addr) (n c : Nat) (l : List UInt8) (k : Int) (w : World) (hs : Sl w w.heap.size A n l) (hnc : n ≤ c) (hn : n ≤ 400000000) (hk : 0 ≤ k ∧ k ≤ (n : Int)) :
    Calls Tryz.prog 215 #[.slice A n c, .int .i64 k] w (Rd w (rdA l k)) := by
  have G := Lib.hid (get4 A n c l k w _ hs hnc hn)
  have HX : Hid (rdA l k = if (n4 l k).2 = true then (0, k + 4, rA (n4 l k).1) else (2, 0, zr)) := rfl
  clear hs
  generalize rdA l k = X at *
  generalize n4 l k = y at *
  obtain ⟨x, b⟩ := y
  go_enter Tryz.func215, Tryz.ntmps215
  go_wp2_with fail
  refine G.out.mono ?_
  rintro e w1 ⟨rfl, rfl⟩
  cases b
  · have HX2 : Hid (X = (2, 0, zr)) := HX.out
    clear HX
    go_wp2
    go_ret3
    rw [HX2.out]
    exact ⟨_, rfl, fun h => absurd h (by decide), Below.refl _ _⟩
  · have HX2 : Hid (X = (0, k + 4, rA x)) := HX.out
    clear HX
    go_wp2
    go_ret3
    rw [HX2.out]
    exact ⟨_, rfl, fun _ => of_addr x, Below.refl _ _⟩

set_option maxHeartbeats 1000000 in
theorem readServer (A : Option Addr) (n c : Nat) (l : List UInt8) (k : Int) (w : World) (he : Env w) (hs : Sl w w.heap.size A n l) (hnc : n ≤ c) (hn : n ≤ 400000000) :
    Calls Tryz.prog 216 #[.slice A n c, .int .i64 k] w (Rd w (rdH l k 2)) := by
  have G := Lib.hid (NameGet.getName A n c l k w _ rfl he hs hn hnc)
  clear hs he
  unfold rdH
  generalize rn l [] k k 0 (-1) = R at *
  obtain ⟨c0, L0, x0, j0⟩ := R
  unfold val3 at G
  dsimp only at G ⊢
  generalize Jo L0 = s at *
  go_enter Tryz.func216, Tryz.ntmps216
  go_wp2_with fail
  refine G.out.mono ?_
  rintro e w1 ⟨rfl, hl⟩
  have L1 := Lib.hid hl
  clear hl
  go_wp2
  go_ret3
  exact ⟨_, rfl, fun _ => of_server s, L1.out⟩

set_option maxHeartbeats 1000000 in
theorem readAlias (A : Option Addr) (n c : Nat) (l : List UInt8) (k : Int) (w : World) (he : Env w) (hs : Sl w w.heap.size A n l) (hnc : n ≤ c) (hn : n ≤ 400000000) :
    Calls Tryz.prog 217 #[.slice A n c, .int .i64 k] w (Rd w (rdH l k 5)) := by
  have G := Lib.hid (NameGet.getName A n c l k w _ rfl he hs hn hnc)
  clear hs he
  unfold rdH
  generalize rn l [] k k 0 (-1) = R at *
  obtain ⟨c0, L0, x0, j0⟩ := R
  unfold val3 at G
  dsimp only at G ⊢
  generalize Jo L0 = s at *
  go_enter Tryz.func217, Tryz.ntmps217
  go_wp2_with fail
  refine G.out.mono ?_
  rintro e w1 ⟨rfl, hl⟩
  have L1 := Lib.hid hl
  clear hl
  go_wp2
  go_ret3
  exact ⟨_, rfl, fun _ => of_alias s, L1.out⟩

set_option maxHeartbeats 1000000 in
theorem readStart (A : Option Addr) (n c : Nat) (l : List UInt8) (k : Int) (w : World) (he : Env w) (hs : Sl w w.heap.size A n l) (hnc : n ≤ c) (hn : n ≤ 400000000) :
    Calls Tryz.prog 218 #[.slice A n c, .int .i64 k] w (Rd w (rdS l k)) := by
  have G := Lib.hid (NameGet.getName A n c l k w _ rfl he hs hn hnc)
  have G4 := Lib.hid (fun (q : Int) (W : World) (hW : Below w.heap.size w W) => get4 A n c l q W _ ((hs.below hW).wider hW.size) hnc hn)
  have HI := Lib.hid (fun q => n4_in (l := l) (k := q))
  have HL := Lib.hid hs.1
  have HX : Hid (rdS l k = if (rn l [] k k 0 (-1)).1 ≠ 0 then ((rn l [] k k 0 (-1)).1, 0, zr) else if (n4 l (rn l [] k k 0 (-1)).2.2.1).2 = true then (0, (rn l [] k k 0 (-1)).2.2.1 + 4, rS (Jo (rn l [] k k 0 (-1)).2.1) (n4 l (rn l [] k k 0 (-1)).2.2.1).1) else (2, 0, zr)) := rfl
  clear hs he
  generalize rdS l k = X at *
  generalize rn l [] k k 0 (-1) = R at *
  obtain ⟨c0, L0, x0, j0⟩ := R
  unfold val3 at G
  dsimp only at G HX ⊢
  generalize Jo L0 = s at *
  go_enter Tryz.func218, Tryz.ntmps218
  go_wp2_with fail
  refine G.out.mono ?_
  rintro e w1 ⟨rfl, hl⟩
  have L1 := Lib.hid hl
  clear hl G
  by_cases hc : c0 = 0
  · subst hc
    have HX2 := Lib.hid (HX.out.trans (if_neg (fun e => e rfl)))
    clear HX
    have G5 := Lib.hid (G4.out x0 w1 L1.out)
    have HI5 := Lib.hid (HI.out x0)
    clear G4 HI
    generalize n4 l x0 = y at *
    obtain ⟨x, b⟩ := y
    go_wp2_with fail
    refine G5.out.mono ?_
    rintro e w2 ⟨rfl, rfl⟩
    cases b
    · have HX3 : Hid (X = (2, 0, zr)) := HX2.out
      clear HX2
      go_wp2
      go_ret3
      rw [HX3.out]
      exact ⟨_, rfl, fun h => absurd h (by decide), L1.out⟩
    · have HX3 : Hid (X = (0, x0 + 4, rS s x)) := HX2.out
      obtain ⟨q0, q1⟩ := HI5.out rfl
      rw [HL.out] at q1
      clear HX2 HI5
      go_wp2
      go_ret3
      rw [HX3.out]
      exact ⟨_, rfl, fun _ => of_start s x, L1.out⟩
  · have HX2 := Lib.hid (HX.out.trans (if_pos hc))
    have hc2 : ((c0 : Int) != 0) = true := by simp; omega
    clear HX
    go_wp2
    go_ret3
    rw [HX2.out]
    exact ⟨_, rfl, fun h => absurd h hc, L1.out⟩

theorem conv_text {w : World} {B b off n : Nat} {l : List UInt8} (hs : Sl w B (some ⟨b, off, none⟩) n l) (k m cap : Nat) (h : k + 1 + m ≤ n) :
    (convert 22 195 (.slice (some ⟨b, off + (k + 1), none⟩) m cap)).run Tryz.prog w = .ok (.string (piece l k m)) w := by
  have hl := hs.1
  obtain ⟨b', off', hA, _, hc⟩ := hs.2 (by omega)
  obtain ⟨rfl, rfl⟩ : b = b' ∧ off = off' := by simpa using hA
  have hlen : ((l.drop (k + 1)).take m).length = m := by simp; omega
  have := run_convert_bytes_back (P := Tryz.prog) w 22 195 5 ⟨b, off + (k + 1), none⟩ cap ((l.drop (k + 1)).take m) Tryz.underlying22 Tryz.underlying5 Tryz.underlying195 (fun j hj => by
    rw [Addr.add_lit]
    have hj2 : j < m := by rw [hlen] at hj; exact hj
    have := hc (k + 1 + j) (by omega)
    rw [Nat.add_assoc, this]
    simp)
  rw [hlen] at this
  exact this
theorem conv_empty {w : World} (A : Addr) (cap : Nat) (l : List UInt8) (k : Nat) :
    (convert 22 195 (.slice (some A) 0 cap)).run Tryz.prog w = .ok (.string (piece l k 0)) w := by
  have := run_convert_bytes_back (P := Tryz.prog) w 22 195 5 A cap [] Tryz.underlying22 Tryz.underlying5 Tryz.underlying195 (fun j hj => by simp at hj)
  simpa [piece] using this
theorem bt_at (l : List UInt8) (k : Nat) (h : k < l.length) : bt l (k : Int) = (l[k].toNat : Int) := by
  unfold bt
  rw [Int.toNat_natCast, List.getD_eq_getElem?_getD, List.getElem?_eq_getElem h]
  rfl

set_option maxHeartbeats 1000000 in
theorem readText (A : Option Addr) (n c : Nat) (l : List UInt8) (k : Int) (w : World) (hs : Sl w w.heap.size A n l) (hnc : n ≤ c) (hn : n ≤ 400000000) (hk : 0 ≤ k ∧ k ≤ (n : Int)) :
    Calls Tryz.prog 219 #[.slice A n c, .int .i64 k] w (Rd w (rdT l k)) := by
  have hl := hs.1
  obtain ⟨k', rfl⟩ := Int.eq_ofNat_of_zero_le hk.1
  have hk2 := hk.2
  clear hk
  have HX : Hid (rdT l (k' : Int) = if (l.length : Int) ≤ (k' : Int) then (2, 0, zr) else if (l.length : Int) < (k' : Int) + 1 + bt l (k' : Int) then (2, 0, zr) else (0, (k' : Int) + 1 + bt l (k' : Int), rT (piece l (k' : Int).toNat (bt l (k' : Int)).toNat))) := rfl
  generalize rdT l (k' : Int) = X at *
  rw [hl] at HX
  by_cases h1 : (n : Int) ≤ (k' : Int)
  · have HX2 := Lib.hid (HX.out.trans (if_pos h1))
    clear HX hs hl
    go_enter Tryz.func219, Tryz.ntmps219
    go_wp2
    go_ret3
    rw [HX2.out]
    exact ⟨_, rfl, fun h => absurd h (by decide), Below.refl _ _⟩
  · have hkl : k' < l.length := by omega
    have hkn : k' < n := by omega
    have HX2 := Lib.hid (HX.out.trans (if_neg h1))
    clear HX
    rw [bt_at l k' hkl, Int.toNat_natCast, Int.toNat_natCast] at HX2
    obtain ⟨b, off, rfl, hbB, hcs⟩ := hs.2 (by omega)
    have hx : w.cell? ⟨b, off + k', none⟩ = some (.int .u8 (l[k'].toNat : Int)) := hcs k' hkl
    have hb1 : l[k'].toNat < 256 := l[k'].toNat_lt
    have HS := Lib.hid hs
    clear hs hcs hl h1 hk2
    generalize l[k'].toNat = m at *
    by_cases hin : k' + 1 + m ≤ n
    · have HX3 := Lib.hid (HX2.out.trans (if_neg (by omega)))
      clear HX2
      by_cases hck : c = k' + 1
      · obtain rfl : m = 0 := by omega
        have hcv := fun A cap => conv_empty (w := w) A cap l k'
        generalize piece l k' 0 = T at *
        go_enter Tryz.func219, Tryz.ntmps219
        go_wp2
        go_ret3
        rw [HX3.out]
        exact ⟨_, rfl, fun _ => of_text T, Below.refl _ _⟩
      · have hcv := fun cap => conv_text HS.out k' m cap hin
        generalize piece l k' m = T at *
        go_enter Tryz.func219, Tryz.ntmps219
        go_wp2
        go_ret3
        rw [HX3.out]
        exact ⟨_, rfl, fun _ => of_text T, Below.refl _ _⟩
    · have HX3 := Lib.hid (HX2.out.trans (if_pos (by omega)))
      clear HX2
      go_enter Tryz.func219, Tryz.ntmps219
      go_wp2
      go_ret3
      rw [HX3.out]
      exact ⟨_, rfl, fun h => absurd h (by decide), Below.refl _ _⟩

set_option maxHeartbeats 1000000 in
theorem readData (A : Option Addr) (n c : Nat) (l : List UInt8) (k ty : Int) (w : World) (he : Env w) (hs : Sl w w.heap.size A n l) (hnc : n ≤ c) (hn : n ≤ 400000000) (hk : 0 ≤ k ∧ k ≤ (n : Int)) :
    Calls Tryz.prog 202 #[.slice A n c, .int .i64 k, .int .i64 ty] w (Rd w (rdd l k ty)) := by
  have P1 := Lib.hid (readAddr A n c l k w hs hnc hn hk)
  have P2 := Lib.hid (readServer A n c l k w he hs hnc hn)
  have P5 := Lib.hid (readAlias A n c l k w he hs hnc hn)
  have P6 := Lib.hid (readStart A n c l k w he hs hnc hn)
  have P16 := Lib.hid (readText A n c l k w hs hnc hn hk)
  clear hs he hk
  by_cases t1 : ty = 1
  · subst t1
    have HX : Hid (rdd l k 1 = rdA l k) := rfl
    generalize rdd l k 1 = X at *
    generalize rdA l k = Y at *
    obtain ⟨yc, yn, yr⟩ := Y
    go_enter Tryz.func202, Tryz.ntmps202
    go_wp2_with fail
    refine P1.out.mono ?_
    rintro e w1 ⟨v, rfl, hv, hl⟩
    have HV := Lib.hid hv
    have L1 := Lib.hid hl
    clear hv hl
    go_wp2
    go_ret3
    rw [HX.out]
    exact ⟨v, rfl, HV.out, L1.out⟩
  by_cases t2 : ty = 2
  · subst t2
    have HX : Hid (rdd l k 2 = rdH l k 2) := rfl
    generalize rdd l k 2 = X at *
    generalize rdH l k 2 = Y at *
    obtain ⟨yc, yn, yr⟩ := Y
    go_enter Tryz.func202, Tryz.ntmps202
    go_wp2_with fail
    refine P2.out.mono ?_
    rintro e w1 ⟨v, rfl, hv, hl⟩
    have HV := Lib.hid hv
    have L1 := Lib.hid hl
    clear hv hl
    go_wp2
    go_ret3
    rw [HX.out]
    exact ⟨v, rfl, HV.out, L1.out⟩
  by_cases t5 : ty = 5
  · subst t5
    have HX : Hid (rdd l k 5 = rdH l k 5) := rfl
    generalize rdd l k 5 = X at *
    generalize rdH l k 5 = Y at *
    obtain ⟨yc, yn, yr⟩ := Y
    go_enter Tryz.func202, Tryz.ntmps202
    go_wp2_with fail
    refine P5.out.mono ?_
    rintro e w1 ⟨v, rfl, hv, hl⟩
    have HV := Lib.hid hv
    have L1 := Lib.hid hl
    clear hv hl
    go_wp2
    go_ret3
    rw [HX.out]
    exact ⟨v, rfl, HV.out, L1.out⟩
  by_cases t6 : ty = 6
  · subst t6
    have HX : Hid (rdd l k 6 = rdS l k) := rfl
    generalize rdd l k 6 = X at *
    generalize rdS l k = Y at *
    obtain ⟨yc, yn, yr⟩ := Y
    go_enter Tryz.func202, Tryz.ntmps202
    go_wp2_with fail
    refine P6.out.mono ?_
    rintro e w1 ⟨v, rfl, hv, hl⟩
    have HV := Lib.hid hv
    have L1 := Lib.hid hl
    clear hv hl
    go_wp2
    go_ret3
    rw [HX.out]
    exact ⟨v, rfl, HV.out, L1.out⟩
  by_cases t16 : ty = 16
  · subst t16
    have HX : Hid (rdd l k 16 = rdT l k) := rfl
    generalize rdd l k 16 = X at *
    generalize rdT l k = Y at *
    obtain ⟨yc, yn, yr⟩ := Y
    go_enter Tryz.func202, Tryz.ntmps202
    go_wp2_with fail
    refine P16.out.mono ?_
    rintro e w1 ⟨v, rfl, hv, hl⟩
    have HV := Lib.hid hv
    have L1 := Lib.hid hl
    clear hv hl
    go_wp2
    go_ret3
    rw [HX.out]
    exact ⟨v, rfl, HV.out, L1.out⟩
  have HX : Hid (rdd l k ty = (2, 0, zr)) := by show _ = _; unfold rdd; rw [if_neg t1, if_neg (by omega), if_neg t6, if_neg t16]
  generalize rdd l k ty = X at *
  have e1 : (ty == 1) = false := beq_eq_false_iff_ne.2 t1
  have e2 : (ty == 2) = false := beq_eq_false_iff_ne.2 t2
  have e5 : (ty == 5) = false := beq_eq_false_iff_ne.2 t5
  have e6 : (ty == 6) = false := beq_eq_false_iff_ne.2 t6
  have e16 : (ty == 16) = false := beq_eq_false_iff_ne.2 t16
  clear P1 P2 P5 P6 P16
  go_enter Tryz.func202, Tryz.ntmps202
  go_wp2
  go_ret3
  rw [HX.out]
  exact ⟨_, rfl, fun h => absurd h (by decide), Below.refl _ _⟩

end Go.Proofs.YtkfibepejlgniaaGreatDoor.ReadI

/- What the program's GetData does: it reads as FieldMath tells (gd, and the look at the record besides: fx), and turns nothing that was there. Conditions: at most 400000000 bytes; the library's variable internal/bytealg.MaxLen holds an int. -/
namespace Go.Proofs.YtkfibepejlgniaaGreatDoor.GetI
open Go.RowKit Go.Proofs.YtkfibepejlgniaaGreatDoor.Mem Go.Proofs.YtkfibepejlgniaaGreatDoor.MemR Go.Proofs.YtkfibepejlgniaaGreatDoor.JoinSpec Go.Proofs.YtkfibepejlgniaaGreatDoor.Labels Go.Proofs.YtkfibepejlgniaaGreatDoor.BoxR Go.Proofs.YtkfibepejlgniaaGreatDoor.NameOk Go.Proofs.YtkfibepejlgniaaGreatDoor.TextR Go.Proofs.YtkfibepejlgniaaGreatDoor.RecOk Go.Proofs.YtkfibepejlgniaaGreatDoor.WireMath Go.Proofs.YtkfibepejlgniaaGreatDoor.FieldMath Go.Proofs.YtkfibepejlgniaaGreatDoor.FieldRd Go.Proofs.YtkfibepejlgniaaGreatDoor.ResR Go.Proofs.YtkfibepejlgniaaGreatDoor.ReadI Go.Proofs.YtkfibepejlgniaaGreatDoor.WireGood Go.Proofs.YtkfibepejlgniaaGreatDoor.Plain

/-- What GetData hands back. A def, so that no step of a walk opens it. -/
def val2 (X : Nat × Rec) : Value := .tuple #[.agg #[.string (X.2).name, .int .i64 (X.2).ty, .int .i64 (X.2).ttl, .int .i64 (X.2).n, .string (X.2).host, .string (X.2).text], .int .i64 (X.1 : Int)]
theorem piece_le (l : List UInt8) (k m : Nat) : (GetLabel.piece l k m).size ≤ m := by
  show ((l.drop (k + 1)).take m).toArray.size ≤ m
  simp
  omega
theorem name_le {l : List UInt8} {k : Int} (h : (rn l [] k k 0 (-1)).1 = 0) : (Jo (rn l [] k k 0 (-1)).2.1).size ≤ 50 := by
  generalize hr : rn l [] k k 0 (-1) = R at *
  obtain ⟨c, L, x, j⟩ := R
  have h : c = 0 := h
  subst h
  exact (nm_parts (rn_good hr).2.1).1
/-- A record that was read is not long. -/
theorem rdd_mod (l : List UInt8) (k ty : Int) (h : (rdd l k ty).1 = 0) : DataS.Med (rdd l k ty).2.2 := by
  have hz : DataS.Med zr := ⟨by decide, by decide, by decide⟩
  unfold rdd at h ⊢
  split at h
  · rename_i h1
    rw [if_pos h1]
    unfold rdA at h ⊢
    split
    · exact ⟨by show (0 : Nat) ≤ _; omega, by show (0 : Nat) ≤ _; omega, by show (0 : Nat) ≤ _; omega⟩
    · exact hz
  · rename_i h1
    rw [if_neg h1]
    split at h
    · rename_i h2
      rw [if_pos h2]
      exact ⟨by show (0 : Nat) ≤ _; omega, Nat.le_trans (name_le h) (by decide), by show (0 : Nat) ≤ _; omega⟩
    · rename_i h2
      rw [if_neg h2]
      split at h
      · rename_i h6
        rw [if_pos h6]
        unfold rdS at h ⊢
        split at h
        · rename_i hc
          rw [if_pos hc]
          exact hz
        · rename_i hc
          rw [if_neg hc]
          have hc : (rn l [] k k 0 (-1)).1 = 0 := Decidable.byContradiction hc
          split
          · exact ⟨by show (0 : Nat) ≤ _; omega, Nat.le_trans (name_le hc) (by decide), by show (0 : Nat) ≤ _; omega⟩
          · exact hz
      · rename_i h6
        rw [if_neg h6]
        split at h
        · rename_i h16
          rw [if_pos h16]
          unfold rdT at h ⊢
          split
          · exact hz
          · split
            · exact hz
            · have hb := bt_bounds l k
              have hp := piece_le l k.toNat (bt l k).toNat
              exact ⟨by show (0 : Nat) ≤ _; omega, by show (0 : Nat) ≤ _; omega, by show (GetLabel.piece l k.toNat (bt l k).toNat).size ≤ _; omega⟩
        · exact absurd h (by decide)

set_option maxRecDepth 100000 in
set_option maxHeartbeats 2000000 in
theorem data (A : Option Addr) (n c : Nat) (l : List UInt8) (k q ty : Int) (w : World) (he : Env w) (hs : Sl w w.heap.size A n l) (hnc : n ≤ c) (hn : n ≤ 400000000) :
    Calls Tryz.prog 190 #[.slice A n c, .int .i64 k, .int .i64 q, .int .i64 ty] w fun e w' => e = .returned (val2 (fx (gd l k q ty))) ∧ Below w.heap.size w w' := by
  have hl := hs.1
  have L0 := Lib.hid ((Below.refl w.heap.size w).alloc (Nat.le_refl _) (.cells #[.string ⟨#[]⟩, .int .i64 0, .int .i64 0, .int .i64 0, .string ⟨#[]⟩, .string ⟨#[]⟩] 117))
  by_cases h : 0 ≤ q ∧ q ≤ 255
  · have HI : Hid (inn q 0 255 = true) := decide_eq_true h
    by_cases hk : k < 0 ∨ (n : Int) - q < k
    · have HX : Hid (fx (gd l k q ty) = (1, zr)) := by show _ = _; rw [gd_out h (by rw [hl]; exact hk)]; exact fx_bad (by decide)
      generalize fx (gd l k q ty) = X at *
      clear hs hl he
      obtain ⟨h0, h1⟩ := h
      rcases (show k < 0 ∨ (¬ k < 0 ∧ (n : Int) - q < k) by omega) with hk | ⟨hk0, hk⟩
      all_goals
        go_enter Tryz.func190, Tryz.ntmps190
        go_wp2_with fail
        refine (upTo_any q 255 _).mono ?_
        rw [HI.out]
        rintro e w1 ⟨rfl, rfl⟩
        go_wp2
        refine bodyPost_ret (v := val2 (1, zr)) (res2 rfl (show Bk _ w.heap.size 117 (rc zr) from heap_alloc_new w _) rfl rfl) rfl ⟨by rw [HX.out], L0.out⟩
    · have HX := Lib.hid (rdd_gd (ty := ty) h (by rw [hl]; exact hk))
      have RD := Lib.hid (fun W (hW : Below w.heap.size w W) => readData A n c l k ty W (he.below hW) ((hs.below hW).wider hW.size) hnc hn (by omega))
      have HM := Lib.hid (rdd_mod l k ty)
      have HE := Lib.hid he
      have Z0 : Hid (Bk (w.alloc (.cells #[.string ⟨#[]⟩, .int .i64 0, .int .i64 0, .int .i64 0, .string ⟨#[]⟩, .string ⟨#[]⟩] 117)) w.heap.size 117 (rc zr)) := heap_alloc_new w _
      generalize fx (gd l k q ty) = X at *
      generalize rdd l k ty = Y at *
      obtain ⟨yc, yn, yr⟩ := Y
      dsimp only at HX HM
      clear hs hl he
      obtain ⟨h0, h1⟩ := h
      have hk0 : ¬ k < 0 := by omega
      have hk1 : ¬ (n : Int) - q < k := by omega
      clear hk
      go_enter Tryz.func190, Tryz.ntmps190
      go_wp2_with fail
      refine (upTo_any q 255 _).mono ?_
      rw [HI.out]
      rintro e w1 ⟨rfl, rfl⟩
      go_wp2_with fail
      refine (RD.out _ L0.out).mono ?_
      rintro e w1 ⟨v, rfl, hv, hl⟩
      dsimp only at hv ⊢
      have HV := Lib.hid hv
      have L1 := Lib.hid (L0.out.trans (hl.mono L0.out.size))
      have Z1 := Lib.hid (Z0.out.below hl Z0.out.lt)
      clear hv hl L0 Z0 RD
      obtain ⟨z0, z1, z2, z3, z4, z5⟩ := bx_of Z1.out
      have f0 := Z1.out.free 0
      have f1 := Z1.out.free 1
      have f2 := Z1.out.free 2
      have f3 := Z1.out.free 3
      have f4 := Z1.out.free 4
      have f5 := Z1.out.free 5
      by_cases hc : yc = 0
      · subst hc
        have HX2 := Lib.hid (HX.out.trans (if_neg (fun e => e rfl)))
        have RO := Lib.hid (fun W (hW : Below w.heap.size w W) => RecOk.impl yr W (HE.out.below hW) (HM.out rfl).mod)
        have HR := Lib.hid (HV.out rfl w1)
        clear HX HM HV
        obtain ⟨u, hu⟩ : ∃ u, rok yr = u := ⟨_, rfl⟩
        have HU := Lib.hid hu
        clear hu
        go_wp2_with fail
        refine HR.out.mono ?_
        rintro e w2 ⟨rfl, hl⟩
        have L2 := Lib.hid (L1.out.trans (hl.mono L1.out.size))
        have Z2 := Lib.hid (Z1.out.below hl Z1.out.lt)
        clear hl HR L1 Z1 z0 z1 z2 z3 z4 z5 f0 f1 f2 f3 f4 f5
        have L3 := Lib.hid (L2.out.alloc L2.out.size (.cells #[.string yr.name, .int .i64 yr.ty, .int .i64 yr.ttl, .int .i64 yr.n, .string yr.host, .string yr.text] 117))
        have Z3 := Lib.hid (Z2.out.alloc (.cells #[.string yr.name, .int .i64 yr.ty, .int .i64 yr.ttl, .int .i64 yr.n, .string yr.host, .string yr.text] 117))
        have X3 := Lib.hid (bx_new w2 117 yr)
        obtain ⟨z0, z1, z2, z3, z4, z5⟩ := bx_of Z3.out
        have f0 := Z3.out.free 0
        have f1 := Z3.out.free 1
        have f2 := Z3.out.free 2
        have f3 := Z3.out.free 3
        have f4 := Z3.out.free 4
        have f5 := Z3.out.free 5
        by_cases hq : yn = k + q
        · have hq2 : (yn != k + q) = false := by simp [hq]
          have HX4 : Hid (X = if rok yr = true then (0, yr) else (2, zr)) := by
            show _ = _
            rw [HX2.out, HU.out]
            cases u <;> simp [hq]
          clear hq HX2
          go_wp2_with fail
          refine (RO.out _ L3.out).mono ?_
          rw [HU.out]
          rintro e w4 ⟨rfl, hl⟩
          have L4 := Lib.hid (L3.out.trans (hl.mono L3.out.size))
          have Z4 := Lib.hid (Z3.out.below hl Z3.out.lt)
          have X4 := Lib.hid (X3.out.below hl)
          clear hl L3 Z3 X3 z0 z1 z2 z3 z4 z5 f0 f1 f2 f3 f4 f5
          obtain ⟨z0, z1, z2, z3, z4, z5⟩ := bx_of Z4.out
          have f0 := Z4.out.free 0
          have f1 := Z4.out.free 1
          have f2 := Z4.out.free 2
          have f3 := Z4.out.free 3
          have f4 := Z4.out.free 4
          have f5 := Z4.out.free 5
          rw [HU.out] at HX4
          cases u
          · go_wp2
            refine bodyPost_ret (v := val2 (2, zr)) (res2 rfl (fil_bk Z4.out zr) rfl rfl) rfl ⟨by rw [HX4.out]; rfl, fil_below L4.out (Nat.le_refl _) zr⟩
          · obtain ⟨x0, x1, x2, x3, x4, x5⟩ := X4.out
            go_wp2
            refine bodyPost_ret (v := val2 (0, yr)) (res2 rfl (fil_bk Z4.out yr) rfl rfl) rfl ⟨by rw [HX4.out]; rfl, fil_below L4.out (Nat.le_refl _) yr⟩
        · have hq2 : (yn != k + q) = true := by simpa using hq
          have HX4 : Hid (X = (2, zr)) := by
            show _ = _
            rw [HX2.out, if_neg (fun e => hq e.1)]
          clear hq HX2
          go_wp2
          refine bodyPost_ret (v := val2 (2, zr)) (res2 rfl (fil_bk Z3.out zr) rfl rfl) rfl ⟨by rw [HX4.out], fil_below L3.out (Nat.le_refl _) zr⟩
      · have HX2 := Lib.hid (HX.out.trans (if_pos hc))
        have hc2 : ((yc : Int) != 0) = true := by simp; omega
        clear HX
        go_wp2
        refine bodyPost_ret (v := val2 (yc, zr)) (res2 rfl (fil_bk Z1.out zr) rfl rfl) rfl ⟨by rw [HX2.out], fil_below L1.out (Nat.le_refl _) zr⟩
  · have HI : Hid (inn q 0 255 = false) := decide_eq_false h
    have HX : Hid (fx (gd l k q ty) = (2, zr)) := by show _ = _; rw [gd_n h]; exact fx_bad (by decide)
    generalize fx (gd l k q ty) = X at *
    clear hs hl he h
    go_enter Tryz.func190, Tryz.ntmps190
    go_wp2_with fail
    refine (upTo_any q 255 _).mono ?_
    rw [HI.out]
    rintro e w1 ⟨rfl, rfl⟩
    go_wp2
    refine bodyPost_ret (v := val2 (2, zr)) (res2 rfl (show Bk _ w.heap.size 117 (rc zr) from heap_alloc_new w _) rfl rfl) rfl ⟨by rw [HX.out], L0.out⟩
end Go.Proofs.YtkfibepejlgniaaGreatDoor.GetI

/- What the program's GetRecord does: it reads a record as FieldMath tells (gr), and turns nothing that was there. Conditions: at most 400000000 bytes; the library's variable internal/bytealg.MaxLen holds an int. -/
namespace Go.Proofs.YtkfibepejlgniaaGreatDoor.GetRecI
open Go.RowKit Go.Proofs.YtkfibepejlgniaaGreatDoor.Mem Go.Proofs.YtkfibepejlgniaaGreatDoor.MemR Go.Proofs.YtkfibepejlgniaaGreatDoor.JoinSpec Go.Proofs.YtkfibepejlgniaaGreatDoor.Labels Go.Proofs.YtkfibepejlgniaaGreatDoor.BoxR Go.Proofs.YtkfibepejlgniaaGreatDoor.NameOk Go.Proofs.YtkfibepejlgniaaGreatDoor.TextR Go.Proofs.YtkfibepejlgniaaGreatDoor.RecOk Go.Proofs.YtkfibepejlgniaaGreatDoor.WireMath Go.Proofs.YtkfibepejlgniaaGreatDoor.WireGood Go.Proofs.YtkfibepejlgniaaGreatDoor.WalkSpec Go.Proofs.YtkfibepejlgniaaGreatDoor.Get Go.Proofs.YtkfibepejlgniaaGreatDoor.FieldMath Go.Proofs.YtkfibepejlgniaaGreatDoor.FieldRd Go.Proofs.YtkfibepejlgniaaGreatDoor.ResR Go.Proofs.YtkfibepejlgniaaGreatDoor.ReadI Go.Proofs.YtkfibepejlgniaaGreatDoor.GetI

theorem get2 (A : Option Addr) (n c : Nat) (l : List UInt8) (k : Int) (w : World) (B : Nat) (hs : Sl w B A n l) (hnc : n ≤ c) (hn : n ≤ 400000000) :
    Calls Tryz.prog 94 #[.slice A n c, .int .i64 k] w fun e w' => e = .returned (.tuple #[.int .i64 (n2 l k).1, .bool (n2 l k).2]) ∧ w = w' := by
  have hl := hs.1
  unfold n2
  by_cases h : 0 ≤ k ∧ k ≤ (l.length : Int) - 2
  · rw [if_pos h]
    obtain ⟨j, rfl⟩ := Int.eq_ofNat_of_zero_le h.1
    exact implGet2_yes A n c l w B j hs hnc hn (by omega)
  · rw [if_neg h]
    exact implGet2_no A n c w k hn (by omega)
/-- What GetRecord hands back. A def, so that no step of a walk opens it. -/
def valR (X : Nat × Int × Rec) : Value := .tuple #[.agg #[.string (X.2.2).name, .int .i64 (X.2.2).ty, .int .i64 (X.2.2).ttl, .int .i64 (X.2.2).n, .string (X.2.2).host, .string (X.2.2).text], .int .i64 X.2.1, .int .i64 (X.1 : Int)]
theorem rn_from {l : List UInt8} {k : Int} {L : List ByteArray} {x : Int} {j : Nat} (h : rn l [] k k 0 (-1) = (0, L, x, j)) : 0 ≤ k := by
  refine Decidable.byContradiction fun hk => ?_
  rw [rn_out (Or.inl (by omega))] at h
  simp at h
/-- A valid record's texts are not long; what GetData gives is not. -/
theorem gd_med {l : List UInt8} {k n ty : Int} {r : Rec} (h : fx (gd l k n ty) = (0, r)) : DataS.Med r := by
  by_cases hn : 0 ≤ n ∧ n ≤ 255
  · by_cases hk : k < 0 ∨ (l.length : Int) - n < k
    · rw [gd_out hn hk, fx_bad (by decide)] at h
      simp at h
    · rw [rdd_gd hn hk] at h
      split at h
      · rename_i hc
        simp only [Prod.mk.injEq] at h
        exact absurd h.1 hc
      · rename_i hc
        split at h
        · simp only [Prod.mk.injEq, true_and] at h
          rw [← h]
          exact rdd_mod l k ty (Decidable.byContradiction hc)
        · simp at h
  · rw [gd_n hn, fx_bad (by decide)] at h
    simp at h
theorem fx_cases (X : Nat × Rec) : (fx X = X ∧ (X.1 = 0 → rok X.2 = true)) ∨ (fx X = (2, zr) ∧ X.1 = 0 ∧ rok X.2 = false) := by
  unfold fx
  split
  · rename_i h
    exact Or.inr ⟨rfl, h⟩
  · rename_i h
    exact Or.inl ⟨rfl, fun e => by cases hr : rok X.2; exact absurd ⟨e, hr⟩ h; rfl⟩

/-- What is known behind the head of a record: its answer, told of what GetData gave. -/
theorem gr_by {l : List UInt8} {k : Int} {L : List ByteArray} {p : Int} {j c : Nat} {r : Rec} (h : rn l [] k k 0 (-1) = (0, L, p, j)) (hp : ¬ (l.length : Int) - 10 < p) (hd : fx (gd l (p + 10) (n2 l (p + 8)).1 (n2 l p).1) = (c, r)) :
    gr l k = if c ≠ 0 then (c, 0, zr) else if (n4 l (p + 4)).2 = true ∧ (n2 l (p + 2)).1 = 1 ∧ rok (wn r (Jo L) (n4 l (p + 4)).1) = true then (0, p + 10 + (n2 l (p + 8)).1, wn r (Jo L) (n4 l (p + 4)).1) else (2, 0, zr) := by
  rcases fx_cases (gd l (p + 10) (n2 l (p + 8)).1 (n2 l p).1) with ⟨e, hr⟩ | ⟨e, h0, hr⟩
  · rw [e] at hd
    by_cases hc : c ≠ 0
    · rw [if_pos hc]
      exact gr_data h hp hd hc
    · have hc0 : c = 0 := Decidable.byContradiction hc
      subst hc0
      rw [if_neg hc]
      split
      · rename_i hg
        exact gr_good h hp hd hg
      · rename_i hg
        exact gr_form h hp hd hg
  · rw [e] at hd
    simp only [Prod.mk.injEq] at hd
    obtain ⟨rfl, rfl⟩ := hd
    rw [if_pos (by decide)]
    generalize hD : gd l (p + 10) (n2 l (p + 8)).1 (n2 l p).1 = D at *
    obtain ⟨c', r'⟩ := D
    have h0 : c' = 0 := h0
    subst h0
    exact gr_form h hp hD (fun hg => by rw [rok_wn hD hr] at hg; exact absurd hg.2.2 (by decide))

set_option maxRecDepth 100000 in
set_option maxHeartbeats 4000000 in
theorem record (A : Option Addr) (n c : Nat) (l : List UInt8) (k : Int) (w : World) (he : Env w) (hs : Sl w w.heap.size A n l) (hnc : n ≤ c) (hn : n ≤ 400000000) :
    Calls Tryz.prog 172 #[.slice A n c, .int .i64 k] w fun e w' => e = .returned (valR (gr l k)) ∧ Below w.heap.size w w' := by
  have hl := hs.1
  have L0 := Lib.hid ((Below.refl w.heap.size w).alloc (Nat.le_refl _) (.cells #[.string ⟨#[]⟩, .int .i64 0, .int .i64 0, .int .i64 0, .string ⟨#[]⟩, .string ⟨#[]⟩] 117))
  have Z0 : Hid (Bk (w.alloc (.cells #[.string ⟨#[]⟩, .int .i64 0, .int .i64 0, .int .i64 0, .string ⟨#[]⟩, .string ⟨#[]⟩] 117)) w.heap.size 117 (rc zr)) := heap_alloc_new w _
  have HS := Lib.hid hs
  have HE := Lib.hid he
  have GN := Lib.hid (fun W (hW : Below w.heap.size w W) => NameGet.getName A n c l k W _ rfl (he.below hW) ((hs.below hW).wider hW.size) hn hnc)
  generalize hR : rn l [] k k 0 (-1) = R at *
  obtain ⟨c0, L, p, j⟩ := R
  unfold val3 at GN
  dsimp only at GN
  by_cases hc : c0 = 0
  · subst hc
    have HF := rn_from hR
    obtain ⟨_, _, hp1, hp2, _⟩ := rn_good hR
    have hp0 : 0 ≤ p := by omega
    rw [hl] at hp2
    clear hp1 HF
    by_cases hs10 : (n : Int) - 10 < p
    · have HX := Lib.hid (gr_short hR (by rw [hl]; exact hs10))
      generalize gr l k = X at *
      generalize Jo L = s at *
      clear hs hl he hR
      go_enter Tryz.func172, Tryz.ntmps172
      go_wp2_with fail
      refine (GN.out _ L0.out).mono ?_
      rintro e w1 ⟨rfl, hl⟩
      have L1 := Lib.hid (L0.out.trans (hl.mono L0.out.size))
      have Z1 := Lib.hid (Z0.out.below hl Z0.out.lt)
      clear hl L0 Z0
      obtain ⟨z0, z1, z2, z3, z4, z5⟩ := bx_of Z1.out
      have f0 := Z1.out.free 0
      have f1 := Z1.out.free 1
      have f2 := Z1.out.free 2
      have f3 := Z1.out.free 3
      have f4 := Z1.out.free 4
      have f5 := Z1.out.free 5
      go_wp2
      refine bodyPost_ret (v := valR (1, 0, zr)) (res3 rfl (fil_bk Z1.out zr) rfl rfl rfl) rfl ⟨by rw [HX.out], fil_below L1.out (Nat.le_refl _) zr⟩
    · have HG2 := Lib.hid (fun (q : Int) (W : World) (hW : Below w.heap.size w W) => get2 A n c l q W _ (hs.below hW) hnc hn)
      have HG4 := Lib.hid (fun (q : Int) (W : World) (hW : Below w.heap.size w W) => get4 A n c l q W _ (hs.below hW) hnc hn)
      have HGD := Lib.hid (fun (q m t : Int) (W : World) (hW : Below w.heap.size w W) => GetI.data A n c l q m t W (he.below hW) ((hs.below hW).wider hW.size) hnc hn)
      generalize hD : fx (gd l (p + 10) (n2 l (p + 8)).1 (n2 l p).1) = D at *
      obtain ⟨dc, yr⟩ := D
      have HX := Lib.hid (gr_by hR (by rw [hl]; exact hs10) hD)
      have HM := Lib.hid (fun (e : dc = 0) => gd_med (r := yr) (by rw [hD, e]))
      have HNL : Hid ((Jo L).size ≤ 50) := (Plain.nm_parts (rn_good hR).2.1).1
      have h1 := (n2_in (l := l) (k := p) hp0 (by omega)).2
      have h2 := (n2_in (l := l) (k := p + 2) (by omega) (by omega)).2
      have h8 := (n2_in (l := l) (k := p + 8) (by omega) (by omega)).2
      have hG1 := HG2.out p
      have hG2 := HG2.out (p + 2)
      have hG8 := HG2.out (p + 8)
      have hG4 := HG4.out (p + 4)
      have hGD := HGD.out (p + 10) (n2 l (p + 8)).1 (n2 l p).1
      rw [hD] at hGD
      generalize gr l k = X at *
      generalize Jo L = s at *
      clear hD
      generalize n2 l p = y1 at *
      generalize n2 l (p + 2) = y2 at *
      generalize n2 l (p + 8) = y8 at *
      generalize n4 l (p + 4) = y4 at *
      obtain ⟨ty, b1⟩ := y1
      obtain ⟨cl, b2⟩ := y2
      obtain ⟨q, b8⟩ := y8
      obtain ⟨tt, b4⟩ := y4
      dsimp only at h1 h2 h8 hG1 hG2 hG8 hG4 hGD HX
      obtain ⟨h10, h11⟩ := h1
      obtain ⟨h20, h21⟩ := h2
      obtain ⟨h80, h81⟩ := h8
      have G1 := Lib.hid hG1
      have G2 := Lib.hid hG2
      have G8 := Lib.hid hG8
      have G4 := Lib.hid hG4
      have GD := Lib.hid hGD
      clear hG1 hG2 hG8 hG4 hGD HG2 HG4 HGD hs hl he hR
      go_enter Tryz.func172, Tryz.ntmps172
      go_wp2_with fail
      refine (GN.out _ L0.out).mono ?_
      rintro e w1 ⟨rfl, hl⟩
      have L1 := Lib.hid (L0.out.trans (hl.mono L0.out.size))
      have Z1 := Lib.hid (Z0.out.below hl Z0.out.lt)
      clear hl L0 Z0
      go_wp2_with fail
      refine (G1.out _ L1.out).mono ?_
      rintro e w2 ⟨rfl, rfl⟩
      go_wp2_with fail
      refine (G2.out _ L1.out).mono ?_
      rintro e w2 ⟨rfl, rfl⟩
      go_wp2_with fail
      refine (G4.out _ L1.out).mono ?_
      rintro e w2 ⟨rfl, rfl⟩
      go_wp2_with fail
      refine (G8.out _ L1.out).mono ?_
      rintro e w2 ⟨rfl, rfl⟩
      go_wp2_with fail
      refine (GD.out _ L1.out).mono ?_
      rintro e w2 ⟨rfl, hl⟩
      have L2 := Lib.hid (L1.out.trans (hl.mono L1.out.size))
      have Z2 := Lib.hid (Z1.out.below hl Z1.out.lt)
      clear hl L1 Z1 G1 G2 G4 G8 GD GN
      unfold val2
      dsimp only
      by_cases hdc : dc = 0
      · subst hdc
        have HX2 := Lib.hid (HX.out.trans (if_neg (fun e => e rfl)))
        have hmed := HM.out rfl
        have RO := Lib.hid (fun W (hW : Below w.heap.size w W) => RecOk.impl (wn yr s tt) W (HE.out.below hW) (show Mod (wn yr s tt) from ⟨Nat.le_trans HNL.out (by decide), (hmed.mod).2.1, (hmed.mod).2.2⟩))
        unfold wn at RO
        dsimp only at RO
        have L3 := Lib.hid (L2.out.alloc L2.out.size (.cells #[.string s, .int .i64 yr.ty, .int .i64 tt, .int .i64 yr.n, .string yr.host, .string yr.text] 117))
        have Z3 := Lib.hid (Z2.out.alloc (.cells #[.string s, .int .i64 yr.ty, .int .i64 tt, .int .i64 yr.n, .string yr.host, .string yr.text] 117))
        have X3 := Lib.hid (bx_new w2 117 (wn yr s tt))
        clear HX HM hmed
        obtain ⟨z0, z1, z2, z3, z4, z5⟩ := bx_of Z3.out
        have f0 := Z3.out.free 0
        have f1 := Z3.out.free 1
        have f2 := Z3.out.free 2
        have f3 := Z3.out.free 3
        have f4 := Z3.out.free 4
        have f5 := Z3.out.free 5
        by_cases hcl : cl = 1
        · have hcl2 : (cl != 1) = false := by simp [hcl]
          cases b4
          · have HX3 : Hid (X = (2, 0, zr)) := HX2.out.trans (if_neg (fun e => by simp at e))
            clear HX2
            go_wp2
            refine bodyPost_ret (v := valR (2, 0, zr)) (res3 rfl (fil_bk Z3.out zr) rfl rfl rfl) rfl ⟨by rw [HX3.out], fil_below L3.out (Nat.le_refl _) zr⟩
          · obtain ⟨u, hu⟩ : ∃ u, rok (wn yr s tt) = u := ⟨_, rfl⟩
            have HU := Lib.hid hu
            have HX3 : Hid (X = if u = true then (0, p + 10 + q, wn yr s tt) else (2, 0, zr)) := by
              show _ = _
              rw [HX2.out, hu]
              cases u <;> simp [hcl]
            clear hu HX2 hcl
            go_wp2_with fail
            refine (RO.out _ L3.out).mono ?_
            rw [show rok ⟨s, yr.ty, tt, yr.n, yr.host, yr.text⟩ = u from HU.out]
            rintro e w4 ⟨rfl, hl⟩
            have L4 := Lib.hid (L3.out.trans (hl.mono L3.out.size))
            have Z4 := Lib.hid (Z3.out.below hl Z3.out.lt)
            have X4 := Lib.hid (X3.out.below hl)
            clear hl L3 Z3 X3 z0 z1 z2 z3 z4 z5 f0 f1 f2 f3 f4 f5
            obtain ⟨z0, z1, z2, z3, z4, z5⟩ := bx_of Z4.out
            have f0 := Z4.out.free 0
            have f1 := Z4.out.free 1
            have f2 := Z4.out.free 2
            have f3 := Z4.out.free 3
            have f4 := Z4.out.free 4
            have f5 := Z4.out.free 5
            cases u
            · go_wp2
              refine bodyPost_ret (v := valR (2, 0, zr)) (res3 rfl (fil_bk Z4.out zr) rfl rfl rfl) rfl ⟨by rw [HX3.out]; rfl, fil_below L4.out (Nat.le_refl _) zr⟩
            · obtain ⟨x0, x1, x2, x3, x4, x5⟩ := X4.out
              have x0 : w4.cell? ⟨w2.heap.size, 0, none⟩ = some (.string s) := x0
              have x1 : w4.cell? ⟨w2.heap.size, 1, none⟩ = some (.int .i64 yr.ty) := x1
              have x2 : w4.cell? ⟨w2.heap.size, 2, none⟩ = some (.int .i64 tt) := x2
              have x3 : w4.cell? ⟨w2.heap.size, 3, none⟩ = some (.int .i64 yr.n) := x3
              have x4 : w4.cell? ⟨w2.heap.size, 4, none⟩ = some (.string yr.host) := x4
              have x5 : w4.cell? ⟨w2.heap.size, 5, none⟩ = some (.string yr.text) := x5
              go_wp2
              refine bodyPost_ret (v := valR (0, p + 10 + q, wn yr s tt)) (res3 rfl (fil_bk Z4.out (wn yr s tt)) rfl rfl rfl) rfl ⟨by rw [HX3.out]; rfl, fil_below L4.out (Nat.le_refl _) (wn yr s tt)⟩
        · have hcl2 : (cl != 1) = true := by simpa using hcl
          have HX3 : Hid (X = (2, 0, zr)) := HX2.out.trans (if_neg (fun e => hcl e.2.1))
          clear HX2 hcl
          go_wp2
          refine bodyPost_ret (v := valR (2, 0, zr)) (res3 rfl (fil_bk Z3.out zr) rfl rfl rfl) rfl ⟨by rw [HX3.out], fil_below L3.out (Nat.le_refl _) zr⟩
      · have HX2 := Lib.hid (HX.out.trans (if_pos hdc))
        have hc2 : ((dc : Int) != 0) = true := by simp; omega
        have L3 := Lib.hid (L2.out.alloc L2.out.size (.cells #[.string yr.name, .int .i64 yr.ty, .int .i64 yr.ttl, .int .i64 yr.n, .string yr.host, .string yr.text] 117))
        have Z3 := Lib.hid (Z2.out.alloc (.cells #[.string yr.name, .int .i64 yr.ty, .int .i64 yr.ttl, .int .i64 yr.n, .string yr.host, .string yr.text] 117))
        clear HX HM
        obtain ⟨z0, z1, z2, z3, z4, z5⟩ := bx_of Z3.out
        have f0 := Z3.out.free 0
        have f1 := Z3.out.free 1
        have f2 := Z3.out.free 2
        have f3 := Z3.out.free 3
        have f4 := Z3.out.free 4
        have f5 := Z3.out.free 5
        go_wp2
        refine bodyPost_ret (v := valR (dc, 0, zr)) (res3 rfl (fil_bk Z3.out zr) rfl rfl rfl) rfl ⟨by rw [HX2.out], fil_below L3.out (Nat.le_refl _) zr⟩
  · have HX := Lib.hid (gr_name hR hc)
    have hc2 : ((c0 : Int) != 0) = true := by simp; omega
    generalize gr l k = X at *
    generalize Jo L = s at *
    clear hs hl he hR
    go_enter Tryz.func172, Tryz.ntmps172
    go_wp2_with fail
    refine (GN.out _ L0.out).mono ?_
    rintro e w1 ⟨rfl, hl⟩
    have L1 := Lib.hid (L0.out.trans (hl.mono L0.out.size))
    have Z1 := Lib.hid (Z0.out.below hl Z0.out.lt)
    clear hl L0 Z0
    obtain ⟨z0, z1, z2, z3, z4, z5⟩ := bx_of Z1.out
    have f0 := Z1.out.free 0
    have f1 := Z1.out.free 1
    have f2 := Z1.out.free 2
    have f3 := Z1.out.free 3
    have f4 := Z1.out.free 4
    have f5 := Z1.out.free 5
    go_wp2
    refine bodyPost_ret (v := valR (c0, 0, zr)) (res3 rfl (fil_bk Z1.out zr) rfl rfl rfl) rfl ⟨by rw [HX.out], fil_below L1.out (Nat.le_refl _) zr⟩
end Go.Proofs.YtkfibepejlgniaaGreatDoor.GetRecI

/- What the model's GetData does: it reads as FieldMath tells (gd), and turns nothing that was there. Condition: at most 400000000 bytes. -/
namespace Go.Proofs.YtkfibepejlgniaaGreatDoor.GetSA
open Go.RowKit Go.Proofs.YtkfibepejlgniaaGreatDoor.Mem Go.Proofs.YtkfibepejlgniaaGreatDoor.MemR Go.Proofs.YtkfibepejlgniaaGreatDoor.JoinSpec Go.Proofs.YtkfibepejlgniaaGreatDoor.GetLabel Go.Proofs.YtkfibepejlgniaaGreatDoor.BoxR Go.Proofs.YtkfibepejlgniaaGreatDoor.NameOk Go.Proofs.YtkfibepejlgniaaGreatDoor.TextR Go.Proofs.YtkfibepejlgniaaGreatDoor.RecOk Go.Proofs.YtkfibepejlgniaaGreatDoor.WireMath Go.Proofs.YtkfibepejlgniaaGreatDoor.WireGood Go.Proofs.YtkfibepejlgniaaGreatDoor.WalkSpec Go.Proofs.YtkfibepejlgniaaGreatDoor.Get Go.Proofs.YtkfibepejlgniaaGreatDoor.Label Go.Proofs.YtkfibepejlgniaaGreatDoor.FieldMath Go.Proofs.YtkfibepejlgniaaGreatDoor.FieldRd Go.Proofs.YtkfibepejlgniaaGreatDoor.ResR Go.Proofs.YtkfibepejlgniaaGreatDoor.GetI

theorem get4 (A : Option Addr) (n c : Nat) (l : List UInt8) (k : Int) (w : World) (B : Nat) (hs : Sl w B A n l) (hn : n ≤ 400000000) :
    Calls Tryz.prog 173 #[.slice A n c, .int .i64 k] w fun e w' => e = .returned (.tuple #[.int .i64 (FieldMath.n4 l k).1, .bool (FieldMath.n4 l k).2]) ∧ Below w.heap.size w w' := by
  have hl := hs.1
  unfold FieldMath.n4
  by_cases h : 0 ≤ k ∧ k ≤ (l.length : Int) - 4
  · rw [if_pos h]
    obtain ⟨j, rfl⟩ := Int.eq_ofNat_of_zero_le h.1
    refine (specGet4_yes A n c l w B j hs hn (by omega)).mono fun e w' ⟨he, q, hw⟩ => ⟨?_, hw ▸ drewN_below _ _ _⟩
    rw [he, Int.toNat_natCast]
    unfold four
    by_cases hv : 2147483647 < be ((l.drop j).take 4)
    · rw [if_pos hv, if_pos hv]
    · rw [if_neg hv, if_neg hv]
  · rw [if_neg h]
    exact (specGet4_no A n c w k hn (by omega)).mono fun e w' ⟨he, hw⟩ => ⟨he, hw ▸ Below.refl _ _⟩
theorem get2 (A : Option Addr) (n c : Nat) (l : List UInt8) (k : Int) (w : World) (B : Nat) (hs : Sl w B A n l) (hn : n ≤ 400000000) :
    Calls Tryz.prog 100 #[.slice A n c, .int .i64 k] w fun e w' => e = .returned (.tuple #[.int .i64 (FieldMath.n2 l k).1, .bool (FieldMath.n2 l k).2]) ∧ Below w.heap.size w w' := by
  have hl := hs.1
  unfold FieldMath.n2
  by_cases h : 0 ≤ k ∧ k ≤ (l.length : Int) - 2
  · rw [if_pos h]
    obtain ⟨j, rfl⟩ := Int.eq_ofNat_of_zero_le h.1
    exact (specGet2_yes A n c l w B j hs hn (by omega)).mono fun e w' ⟨he, q, hw⟩ => ⟨he, hw ▸ drewN_below _ _ _⟩
  · rw [if_neg h]
    exact (specGet2_no A n c w k hn (by omega)).mono fun e w' ⟨he, hw⟩ => ⟨he, hw ▸ Below.refl _ _⟩
/-- The record that stands ready for the data of type ty. -/
def r0 (ty : Int) : Rec := ⟨⟨#[]⟩, ty, 0, 0, ⟨#[]⟩, ⟨#[]⟩⟩
theorem box_a (w : World) : Bk ((w.alloc (.cells #[.string ⟨#[]⟩, .int .i64 0, .int .i64 0, .int .i64 0, .string ⟨#[]⟩, .string ⟨#[]⟩] 117)).alloc (.cells #[.string ⟨#[]⟩, .int .i64 0, .int .i64 0, .int .i64 0, .string ⟨#[]⟩, .string ⟨#[]⟩] 117)) w.heap.size 117 (rc zr) := Bk.alloc (heap_alloc_new w _) _
theorem box_b (w : World) : Bk ((w.alloc (.cells #[.string ⟨#[]⟩, .int .i64 0, .int .i64 0, .int .i64 0, .string ⟨#[]⟩, .string ⟨#[]⟩] 117)).alloc (.cells #[.string ⟨#[]⟩, .int .i64 0, .int .i64 0, .int .i64 0, .string ⟨#[]⟩, .string ⟨#[]⟩] 117)) (w.heap.size + 1) 117 (rc zr) := by
  have := heap_alloc_new (w.alloc (.cells #[.string ⟨#[]⟩, .int .i64 0, .int .i64 0, .int .i64 0, .string ⟨#[]⟩, .string ⟨#[]⟩] 117)) (.cells #[.string ⟨#[]⟩, .int .i64 0, .int .i64 0, .int .i64 0, .string ⟨#[]⟩, .string ⟨#[]⟩] 117)
  rw [show (w.alloc (.cells #[.string ⟨#[]⟩, .int .i64 0, .int .i64 0, .int .i64 0, .string ⟨#[]⟩, .string ⟨#[]⟩] 117)).heap.size = w.heap.size + 1 by simp] at this
  exact this
theorem box_c (w : World) (ty : Int) : Bk (((w.alloc (.cells #[.string ⟨#[]⟩, .int .i64 0, .int .i64 0, .int .i64 0, .string ⟨#[]⟩, .string ⟨#[]⟩] 117)).alloc (.cells #[.string ⟨#[]⟩, .int .i64 0, .int .i64 0, .int .i64 0, .string ⟨#[]⟩, .string ⟨#[]⟩] 117)).alloc (.cells #[.string ⟨#[]⟩, .int .i64 ty, .int .i64 0, .int .i64 0, .string ⟨#[]⟩, .string ⟨#[]⟩] 117)) (w.heap.size + 1 + 1) 117 (rc (r0 ty)) := by
  have := heap_alloc_new ((w.alloc (.cells #[.string ⟨#[]⟩, .int .i64 0, .int .i64 0, .int .i64 0, .string ⟨#[]⟩, .string ⟨#[]⟩] 117)).alloc (.cells #[.string ⟨#[]⟩, .int .i64 0, .int .i64 0, .int .i64 0, .string ⟨#[]⟩, .string ⟨#[]⟩] 117)) (.cells #[.string ⟨#[]⟩, .int .i64 ty, .int .i64 0, .int .i64 0, .string ⟨#[]⟩, .string ⟨#[]⟩] 117)
  rw [show ((w.alloc (.cells #[.string ⟨#[]⟩, .int .i64 0, .int .i64 0, .int .i64 0, .string ⟨#[]⟩, .string ⟨#[]⟩] 117)).alloc (.cells #[.string ⟨#[]⟩, .int .i64 0, .int .i64 0, .int .i64 0, .string ⟨#[]⟩, .string ⟨#[]⟩] 117)).heap.size = w.heap.size + 1 + 1 by simp] at this
  exact this
theorem low_b (w : World) : Below w.heap.size w ((w.alloc (.cells #[.string ⟨#[]⟩, .int .i64 0, .int .i64 0, .int .i64 0, .string ⟨#[]⟩, .string ⟨#[]⟩] 117)).alloc (.cells #[.string ⟨#[]⟩, .int .i64 0, .int .i64 0, .int .i64 0, .string ⟨#[]⟩, .string ⟨#[]⟩] 117)) := ((Below.refl _ _).alloc (Nat.le_refl _) _).alloc (by simp) _
theorem low_c (w : World) (ty : Int) : Below w.heap.size w (((w.alloc (.cells #[.string ⟨#[]⟩, .int .i64 0, .int .i64 0, .int .i64 0, .string ⟨#[]⟩, .string ⟨#[]⟩] 117)).alloc (.cells #[.string ⟨#[]⟩, .int .i64 0, .int .i64 0, .int .i64 0, .string ⟨#[]⟩, .string ⟨#[]⟩] 117)).alloc (.cells #[.string ⟨#[]⟩, .int .i64 ty, .int .i64 0, .int .i64 0, .string ⟨#[]⟩, .string ⟨#[]⟩] 117)) := (low_b w).alloc (by simp; omega) _

set_option maxRecDepth 100000 in
set_option maxHeartbeats 2000000 in
theorem data_n (A : Option Addr) (n c : Nat) (l : List UInt8) (k q ty : Int) (w : World) (h : ¬ (0 ≤ q ∧ q ≤ 255)) :
    Calls Tryz.prog 174 #[.slice A n c, .int .i64 k, .int .i64 q, .int .i64 ty] w fun e w' => e = .returned (val2 (gd l k q ty)) ∧ Below w.heap.size w w' := by
  have HI : Hid (decide ((0 : Int) ≤ q ∧ q ≤ 255) = false) := decide_eq_false h
  have HX : Hid (gd l k q ty = (2, zr)) := gd_n h
  generalize gd l k q ty = X at *
  clear h
  go_enter Tryz.func174, Tryz.ntmps174
  go_wp2_with fail
  refine (l1In_any _ _ _ _).mono ?_
  rw [HI.out]
  rintro e w1 ⟨rfl, rfl⟩
  go_wp2_with fail
  refine (l1In_any _ _ _ _).mono ?_
  rw [HI.out]
  rintro e w1 ⟨rfl, rfl⟩
  go_wp2
  refine bodyPost_ret (v := val2 (2, zr)) (res2 rfl (box_a w) rfl rfl) rfl ⟨by rw [HX.out], low_b w⟩

set_option maxRecDepth 100000 in
set_option maxHeartbeats 2000000 in
theorem data_t (A : Option Addr) (n c : Nat) (l : List UInt8) (k q ty : Int) (w : World) (hs : Sl w w.heap.size A n l) (hn : n ≤ 400000000) (h : 0 ≤ q ∧ q ≤ 255) (ht : ¬ (ty = 1 ∨ ty = 2 ∨ ty = 5 ∨ ty = 6 ∨ ty = 16)) :
    Calls Tryz.prog 174 #[.slice A n c, .int .i64 k, .int .i64 q, .int .i64 ty] w fun e w' => e = .returned (val2 (gd l k q ty)) ∧ Below w.heap.size w w' := by
  have hl := hs.1
  have HI : Hid (decide ((0 : Int) ≤ q ∧ q ≤ 255) = true) := decide_eq_true h
  have HY : Hid (Types.ty ty = false) := decide_eq_false ht
  by_cases hk : k < 0 ∨ (n : Int) - q < k
  · have HX : Hid (gd l k q ty = (1, zr)) := gd_out h (by rw [hl]; exact hk)
    generalize gd l k q ty = X at *
    clear hs hl ht
    obtain ⟨h0, h1⟩ := h
    rcases (show k < 0 ∨ (¬ k < 0 ∧ (n : Int) - q < k) by omega) with hk | ⟨hk0, hk⟩
    all_goals
      go_enter Tryz.func174, Tryz.ntmps174
      go_wp2_with fail
      refine (l1In_any _ _ _ _).mono ?_
      rw [HI.out]
      rintro e w1 ⟨rfl, rfl⟩
      go_wp2_with fail
      refine (Types.spec_ok _ _).mono ?_
      rw [HY.out]
      rintro e w1 ⟨rfl, rfl⟩
      go_wp2_with fail
      refine (l1In_any _ _ _ _).mono ?_
      rw [HI.out]
      rintro e w1 ⟨rfl, rfl⟩
      go_wp2
      refine bodyPost_ret (v := val2 (1, zr)) (res2 rfl (box_a w) rfl rfl) rfl ⟨by rw [HX.out], low_b w⟩
  · have HX : Hid (gd l k q ty = (2, zr)) := gd_ty h (by rw [hl]; exact hk) ht
    generalize gd l k q ty = X at *
    clear hs hl ht
    obtain ⟨h0, h1⟩ := h
    have hk0 : ¬ k < 0 := by omega
    have hk1 : ¬ (n : Int) - q < k := by omega
    clear hk
    go_enter Tryz.func174, Tryz.ntmps174
    go_wp2_with fail
    refine (l1In_any _ _ _ _).mono ?_
    rw [HI.out]
    rintro e w1 ⟨rfl, rfl⟩
    go_wp2_with fail
    refine (Types.spec_ok _ _).mono ?_
    rw [HY.out]
    rintro e w1 ⟨rfl, rfl⟩
    go_wp2_with fail
    refine (l1In_any _ _ _ _).mono ?_
    rw [HI.out]
    rintro e w1 ⟨rfl, rfl⟩
    go_wp2
    refine bodyPost_ret (v := val2 (2, zr)) (res2 rfl (box_a w) rfl rfl) rfl ⟨by rw [HX.out], low_b w⟩

set_option maxRecDepth 100000 in
set_option maxHeartbeats 2000000 in
theorem data_o (A : Option Addr) (n c : Nat) (l : List UInt8) (k q ty : Int) (w : World) (hs : Sl w w.heap.size A n l) (hn : n ≤ 400000000) (h : 0 ≤ q ∧ q ≤ 255) (ht : ty = 1 ∨ ty = 2 ∨ ty = 5 ∨ ty = 6 ∨ ty = 16) (hk : k < 0 ∨ (n : Int) - q < k) :
    Calls Tryz.prog 174 #[.slice A n c, .int .i64 k, .int .i64 q, .int .i64 ty] w fun e w' => e = .returned (val2 (gd l k q ty)) ∧ Below w.heap.size w w' := by
  have hl := hs.1
  have HI : Hid (decide ((0 : Int) ≤ q ∧ q ≤ 255) = true) := decide_eq_true h
  have HY : Hid (Types.ty ty = true) := decide_eq_true ht
  have HX : Hid (gd l k q ty = (1, zr)) := gd_out h (by rw [hl]; exact hk)
  generalize gd l k q ty = X at *
  clear hs hl ht
  obtain ⟨h0, h1⟩ := h
  rcases (show k < 0 ∨ (¬ k < 0 ∧ (n : Int) - q < k) by omega) with hk | ⟨hk0, hk⟩
  all_goals
    go_enter Tryz.func174, Tryz.ntmps174
    go_wp2_with fail
    refine (l1In_any _ _ _ _).mono ?_
    rw [HI.out]
    rintro e w1 ⟨rfl, rfl⟩
    go_wp2_with fail
    refine (Types.spec_ok _ _).mono ?_
    rw [HY.out]
    rintro e w1 ⟨rfl, rfl⟩
    go_wp2
    refine bodyPost_ret (v := val2 (1, zr)) (res2 rfl (box_a w) rfl rfl) rfl ⟨by rw [HX.out], low_b w⟩

set_option maxRecDepth 100000 in
set_option maxHeartbeats 2000000 in
theorem data_1 (A : Option Addr) (n c : Nat) (l : List UInt8) (k q : Int) (w : World) (hs : Sl w w.heap.size A n l) (hn : n ≤ 400000000) (h : 0 ≤ q ∧ q ≤ 255) (hk : ¬ (k < 0 ∨ (n : Int) - q < k)) :
    Calls Tryz.prog 174 #[.slice A n c, .int .i64 k, .int .i64 q, .int .i64 1] w fun e w' => e = .returned (val2 (gd l k q 1)) ∧ Below w.heap.size w w' := by
  have hl := hs.1
  have HI : Hid (decide ((0 : Int) ≤ q ∧ q ≤ 255) = true) := decide_eq_true h
  have HY : Hid (Types.ty 1 = true) := rfl
  have HX := Lib.hid (gd_1 h (by rw [hl]; exact hk))
  have G4 := Lib.hid (fun W (hW : Below w.heap.size w W) => get4 A n c l k W _ (hs.below hW) hn)
  generalize gd l k q 1 = X at *
  generalize FieldMath.n4 l k = y at *
  obtain ⟨x, b⟩ := y
  clear hs hl
  obtain ⟨h0, h1⟩ := h
  have hk0 : ¬ k < 0 := by omega
  have hk1 : ¬ (n : Int) - q < k := by omega
  clear hk
  go_enter Tryz.func174, Tryz.ntmps174
  go_wp2_with fail
  refine (l1In_any _ _ _ _).mono ?_
  rw [HI.out]
  rintro e w1 ⟨rfl, rfl⟩
  go_wp2_with fail
  refine (Types.spec_ok _ _).mono ?_
  rw [HY.out]
  rintro e w1 ⟨rfl, rfl⟩
  go_wp2_with fail
  refine (G4.out _ (low_c w 1)).mono ?_
  rintro e w1 ⟨rfl, hl⟩
  have L1 := Lib.hid ((low_c w 1).trans (hl.mono (low_c w 1).size))
  have Z1 := Lib.hid (Bk.below ((box_a w).alloc _) hl (by first | (simp; done) | (simp; omega)))
  have N1 := Lib.hid (Bk.below ((box_b w).alloc _) hl (by first | (simp; done) | (simp; omega)))
  have X1 := Lib.hid (Bk.below (box_c w 1) hl (box_c w 1).lt)
  clear hl G4
  obtain ⟨z0, z1, z2, z3, z4, z5⟩ := bx_of Z1.out
  obtain ⟨n0, n1, n2, n3, n4, n5⟩ := bx_of N1.out
  obtain ⟨x0, x1, x2, x3, x4, x5⟩ := bx_of X1.out
  have f0 := Z1.out.free 0
  have f1 := Z1.out.free 1
  have f2 := Z1.out.free 2
  have f3 := Z1.out.free 3
  have f4 := Z1.out.free 4
  have f5 := Z1.out.free 5
  have e3 := X1.out.free 3
  have e4 := X1.out.free 4
  have e5 := X1.out.free 5
  have Z2 := Lib.hid (Z1.out.other (p := ⟨w.heap.size + 1 + 1, 3, none⟩) (by show w.heap.size ≠ w.heap.size + 1 + 1; omega) (.int .i64 x))
  have L2 := Lib.hid (L1.out.setCell (p := ⟨w.heap.size + 1 + 1, 3, none⟩) (by show w.heap.size ≤ w.heap.size + 1 + 1; omega) (.int .i64 x))
  cases b
  · have HX2 : Hid (X = (2, zr)) := HX.out.trans (if_neg (fun e => by simp at e))
    clear HX
    go_wp2
    refine bodyPost_ret (v := val2 (2, zr)) (res2 rfl (fil_bk Z2.out zr) rfl rfl) rfl ⟨by rw [HX2.out], fil_below L2.out (Nat.le_refl _) zr⟩
  · by_cases hq : q = 4
    · have hq2 : (q != 4) = false := by simp [hq]
      have HX2 : Hid (X = (0, rA x)) := HX.out.trans (if_pos ⟨rfl, hq⟩)
      clear HX hq
      go_wp2
      refine bodyPost_ret (v := val2 (0, rA x)) (res2 rfl (fil_bk Z2.out (rA x)) rfl rfl) rfl ⟨by rw [HX2.out], fil_below L2.out (Nat.le_refl _) (rA x)⟩
    · have hq2 : (q != 4) = true := by simpa using hq
      have HX2 : Hid (X = (2, zr)) := HX.out.trans (if_neg (fun e => hq e.2))
      clear HX hq
      go_wp2
      refine bodyPost_ret (v := val2 (2, zr)) (res2 rfl (fil_bk Z2.out zr) rfl rfl) rfl ⟨by rw [HX2.out], fil_below L2.out (Nat.le_refl _) zr⟩

end Go.Proofs.YtkfibepejlgniaaGreatDoor.GetSA

/- What the model's GetData does, of one type each: as GetSA tells. -/
namespace Go.Proofs.YtkfibepejlgniaaGreatDoor.GetSB
open Go.RowKit Go.Proofs.YtkfibepejlgniaaGreatDoor.Mem Go.Proofs.YtkfibepejlgniaaGreatDoor.MemR Go.Proofs.YtkfibepejlgniaaGreatDoor.JoinSpec Go.Proofs.YtkfibepejlgniaaGreatDoor.GetLabel Go.Proofs.YtkfibepejlgniaaGreatDoor.BoxR Go.Proofs.YtkfibepejlgniaaGreatDoor.NameOk Go.Proofs.YtkfibepejlgniaaGreatDoor.TextR Go.Proofs.YtkfibepejlgniaaGreatDoor.RecOk Go.Proofs.YtkfibepejlgniaaGreatDoor.WireMath Go.Proofs.YtkfibepejlgniaaGreatDoor.WireGood Go.Proofs.YtkfibepejlgniaaGreatDoor.WalkSpec Go.Proofs.YtkfibepejlgniaaGreatDoor.Get Go.Proofs.YtkfibepejlgniaaGreatDoor.Label Go.Proofs.YtkfibepejlgniaaGreatDoor.FieldMath Go.Proofs.YtkfibepejlgniaaGreatDoor.FieldRd Go.Proofs.YtkfibepejlgniaaGreatDoor.ResR Go.Proofs.YtkfibepejlgniaaGreatDoor.GetI Go.Proofs.YtkfibepejlgniaaGreatDoor.GetSA

set_option maxRecDepth 100000 in
set_option maxHeartbeats 2000000 in
theorem data_2 (A : Option Addr) (n c : Nat) (l : List UInt8) (k q : Int) (w : World) (hs : Sl w w.heap.size A n l) (hnc : n ≤ c) (hn : n ≤ 400000000) (h : 0 ≤ q ∧ q ≤ 255) (hk : ¬ (k < 0 ∨ (n : Int) - q < k)) :
    Calls Tryz.prog 174 #[.slice A n c, .int .i64 k, .int .i64 q, .int .i64 2] w fun e w' => e = .returned (val2 (gd l k q 2)) ∧ Below w.heap.size w w' := by
  have hl := hs.1
  have HI : Hid (decide ((0 : Int) ≤ q ∧ q ≤ 255) = true) := decide_eq_true h
  have HY : Hid (Types.ty 2 = true) := rfl
  have HX := Lib.hid (gd_h h (by rw [hl]; exact hk) (Or.inl rfl))
  have GN := Lib.hid (fun W (hW : Below w.heap.size w W) => WalkSpec.getName A n c l k W _ rfl ((hs.below hW).wider hW.size) hn hnc)
  generalize gd l k q 2 = X at *
  generalize rn l [] k k 0 (-1) = R at *
  obtain ⟨c0, L, p, j⟩ := R
  unfold val3 at GN
  dsimp only at GN HX
  generalize Jo L = s at *
  clear hs hl
  obtain ⟨h0, h1⟩ := h
  have hk0 : ¬ k < 0 := by omega
  have hk1 : ¬ (n : Int) - q < k := by omega
  clear hk
  go_enter Tryz.func174, Tryz.ntmps174
  go_wp2_with fail
  refine (l1In_any _ _ _ _).mono ?_
  rw [HI.out]
  rintro e w1 ⟨rfl, rfl⟩
  go_wp2_with fail
  refine (Types.spec_ok _ _).mono ?_
  rw [HY.out]
  rintro e w1 ⟨rfl, rfl⟩
  go_wp2_with fail
  refine (GN.out _ (low_c w 2)).mono ?_
  rintro e w1 ⟨rfl, hl⟩
  have L1 := Lib.hid ((low_c w 2).trans (hl.mono (low_c w 2).size))
  have Z1 := Lib.hid (Bk.below ((box_a w).alloc _) hl (by first | (simp; done) | (simp; omega)))
  have N1 := Lib.hid (Bk.below ((box_b w).alloc _) hl (by first | (simp; done) | (simp; omega)))
  have X1 := Lib.hid (Bk.below (box_c w 2) hl (box_c w 2).lt)
  clear hl GN
  obtain ⟨z0, z1, z2, z3, z4, z5⟩ := bx_of Z1.out
  obtain ⟨n0, n1, n2, n3, n4, n5⟩ := bx_of N1.out
  obtain ⟨x0, x1, x2, x3, x4, x5⟩ := bx_of X1.out
  have f0 := Z1.out.free 0
  have f1 := Z1.out.free 1
  have f2 := Z1.out.free 2
  have f3 := Z1.out.free 3
  have f4 := Z1.out.free 4
  have f5 := Z1.out.free 5
  have e3 := X1.out.free 3
  have e4 := X1.out.free 4
  have e5 := X1.out.free 5
  by_cases hc : c0 = 0
  · subst hc
    have HX2 := Lib.hid (HX.out.trans (if_neg (fun e => e rfl)))
    clear HX
    have Z2 := Lib.hid (Z1.out.other (p := ⟨w.heap.size + 1 + 1, 4, none⟩) (by show w.heap.size ≠ w.heap.size + 1 + 1; omega) (.string s))
    have L2 := Lib.hid (L1.out.setCell (p := ⟨w.heap.size + 1 + 1, 4, none⟩) (by show w.heap.size ≤ w.heap.size + 1 + 1; omega) (.string s))
    by_cases hq : p = k + q
    · have hq2 : (p != k + q) = false := by simp [hq]
      have HX3 : Hid (X = (0, rH 2 s)) := HX2.out.trans (if_pos hq)
      clear HX2 hq
      go_wp2
      refine bodyPost_ret (v := val2 (0, rH 2 s)) (res2 rfl (fil_bk Z2.out (rH 2 s)) rfl rfl) rfl ⟨by rw [HX3.out], fil_below L2.out (Nat.le_refl _) (rH 2 s)⟩
    · have hq2 : (p != k + q) = true := by simpa using hq
      have HX3 : Hid (X = (2, zr)) := HX2.out.trans (if_neg hq)
      clear HX2 hq
      go_wp2
      refine bodyPost_ret (v := val2 (2, zr)) (res2 rfl (fil_bk Z2.out zr) rfl rfl) rfl ⟨by rw [HX3.out], fil_below L2.out (Nat.le_refl _) zr⟩
  · have HX2 := Lib.hid (HX.out.trans (if_pos hc))
    have hc2 : ((c0 : Int) != 0) = true := by simp; omega
    clear HX
    go_wp2
    refine bodyPost_ret (v := val2 (c0, zr)) (res2 rfl (fil_bk Z1.out zr) rfl rfl) rfl ⟨by rw [HX2.out], fil_below L1.out (Nat.le_refl _) zr⟩

set_option maxRecDepth 100000 in
set_option maxHeartbeats 2000000 in
theorem data_5 (A : Option Addr) (n c : Nat) (l : List UInt8) (k q : Int) (w : World) (hs : Sl w w.heap.size A n l) (hnc : n ≤ c) (hn : n ≤ 400000000) (h : 0 ≤ q ∧ q ≤ 255) (hk : ¬ (k < 0 ∨ (n : Int) - q < k)) :
    Calls Tryz.prog 174 #[.slice A n c, .int .i64 k, .int .i64 q, .int .i64 5] w fun e w' => e = .returned (val2 (gd l k q 5)) ∧ Below w.heap.size w w' := by
  have hl := hs.1
  have HI : Hid (decide ((0 : Int) ≤ q ∧ q ≤ 255) = true) := decide_eq_true h
  have HY : Hid (Types.ty 5 = true) := rfl
  have HX := Lib.hid (gd_h h (by rw [hl]; exact hk) (Or.inr rfl))
  have GN := Lib.hid (fun W (hW : Below w.heap.size w W) => WalkSpec.getName A n c l k W _ rfl ((hs.below hW).wider hW.size) hn hnc)
  generalize gd l k q 5 = X at *
  generalize rn l [] k k 0 (-1) = R at *
  obtain ⟨c0, L, p, j⟩ := R
  unfold val3 at GN
  dsimp only at GN HX
  generalize Jo L = s at *
  clear hs hl
  obtain ⟨h0, h1⟩ := h
  have hk0 : ¬ k < 0 := by omega
  have hk1 : ¬ (n : Int) - q < k := by omega
  clear hk
  go_enter Tryz.func174, Tryz.ntmps174
  go_wp2_with fail
  refine (l1In_any _ _ _ _).mono ?_
  rw [HI.out]
  rintro e w1 ⟨rfl, rfl⟩
  go_wp2_with fail
  refine (Types.spec_ok _ _).mono ?_
  rw [HY.out]
  rintro e w1 ⟨rfl, rfl⟩
  go_wp2_with fail
  refine (GN.out _ (low_c w 5)).mono ?_
  rintro e w1 ⟨rfl, hl⟩
  have L1 := Lib.hid ((low_c w 5).trans (hl.mono (low_c w 5).size))
  have Z1 := Lib.hid (Bk.below ((box_a w).alloc _) hl (by first | (simp; done) | (simp; omega)))
  have N1 := Lib.hid (Bk.below ((box_b w).alloc _) hl (by first | (simp; done) | (simp; omega)))
  have X1 := Lib.hid (Bk.below (box_c w 5) hl (box_c w 5).lt)
  clear hl GN
  obtain ⟨z0, z1, z2, z3, z4, z5⟩ := bx_of Z1.out
  obtain ⟨n0, n1, n2, n3, n4, n5⟩ := bx_of N1.out
  obtain ⟨x0, x1, x2, x3, x4, x5⟩ := bx_of X1.out
  have f0 := Z1.out.free 0
  have f1 := Z1.out.free 1
  have f2 := Z1.out.free 2
  have f3 := Z1.out.free 3
  have f4 := Z1.out.free 4
  have f5 := Z1.out.free 5
  have e3 := X1.out.free 3
  have e4 := X1.out.free 4
  have e5 := X1.out.free 5
  by_cases hc : c0 = 0
  · subst hc
    have HX2 := Lib.hid (HX.out.trans (if_neg (fun e => e rfl)))
    clear HX
    have Z2 := Lib.hid (Z1.out.other (p := ⟨w.heap.size + 1 + 1, 4, none⟩) (by show w.heap.size ≠ w.heap.size + 1 + 1; omega) (.string s))
    have L2 := Lib.hid (L1.out.setCell (p := ⟨w.heap.size + 1 + 1, 4, none⟩) (by show w.heap.size ≤ w.heap.size + 1 + 1; omega) (.string s))
    by_cases hq : p = k + q
    · have hq2 : (p != k + q) = false := by simp [hq]
      have HX3 : Hid (X = (0, rH 5 s)) := HX2.out.trans (if_pos hq)
      clear HX2 hq
      go_wp2
      refine bodyPost_ret (v := val2 (0, rH 5 s)) (res2 rfl (fil_bk Z2.out (rH 5 s)) rfl rfl) rfl ⟨by rw [HX3.out], fil_below L2.out (Nat.le_refl _) (rH 5 s)⟩
    · have hq2 : (p != k + q) = true := by simpa using hq
      have HX3 : Hid (X = (2, zr)) := HX2.out.trans (if_neg hq)
      clear HX2 hq
      go_wp2
      refine bodyPost_ret (v := val2 (2, zr)) (res2 rfl (fil_bk Z2.out zr) rfl rfl) rfl ⟨by rw [HX3.out], fil_below L2.out (Nat.le_refl _) zr⟩
  · have HX2 := Lib.hid (HX.out.trans (if_pos hc))
    have hc2 : ((c0 : Int) != 0) = true := by simp; omega
    clear HX
    go_wp2
    refine bodyPost_ret (v := val2 (c0, zr)) (res2 rfl (fil_bk Z1.out zr) rfl rfl) rfl ⟨by rw [HX2.out], fil_below L1.out (Nat.le_refl _) zr⟩

end Go.Proofs.YtkfibepejlgniaaGreatDoor.GetSB

/- What the model's GetData does, of one type each: as GetSA tells. -/
namespace Go.Proofs.YtkfibepejlgniaaGreatDoor.GetSC
open Go.RowKit Go.Proofs.YtkfibepejlgniaaGreatDoor.Mem Go.Proofs.YtkfibepejlgniaaGreatDoor.MemR Go.Proofs.YtkfibepejlgniaaGreatDoor.JoinSpec Go.Proofs.YtkfibepejlgniaaGreatDoor.GetLabel Go.Proofs.YtkfibepejlgniaaGreatDoor.BoxR Go.Proofs.YtkfibepejlgniaaGreatDoor.NameOk Go.Proofs.YtkfibepejlgniaaGreatDoor.TextR Go.Proofs.YtkfibepejlgniaaGreatDoor.RecOk Go.Proofs.YtkfibepejlgniaaGreatDoor.WireMath Go.Proofs.YtkfibepejlgniaaGreatDoor.WireGood Go.Proofs.YtkfibepejlgniaaGreatDoor.WalkSpec Go.Proofs.YtkfibepejlgniaaGreatDoor.Get Go.Proofs.YtkfibepejlgniaaGreatDoor.Label Go.Proofs.YtkfibepejlgniaaGreatDoor.FieldMath Go.Proofs.YtkfibepejlgniaaGreatDoor.FieldRd Go.Proofs.YtkfibepejlgniaaGreatDoor.ResR Go.Proofs.YtkfibepejlgniaaGreatDoor.GetI Go.Proofs.YtkfibepejlgniaaGreatDoor.GetSA

set_option maxRecDepth 100000 in
set_option maxHeartbeats 2000000 in
theorem data_16 (A : Option Addr) (n c : Nat) (l : List UInt8) (k q : Int) (w : World) (hs : Sl w w.heap.size A n l) (hnc : n ≤ c) (hn : n ≤ 400000000) (h : 0 ≤ q ∧ q ≤ 255) (hk : ¬ (k < 0 ∨ (n : Int) - q < k)) :
    Calls Tryz.prog 174 #[.slice A n c, .int .i64 k, .int .i64 q, .int .i64 16] w fun e w' => e = .returned (val2 (gd l k q 16)) ∧ Below w.heap.size w w' := by
  have hl := hs.1
  have HI : Hid (decide ((0 : Int) ≤ q ∧ q ≤ 255) = true) := decide_eq_true h
  have HY : Hid (Types.ty 16 = true) := rfl
  have HX := Lib.hid (gd_16 h (by rw [hl]; exact hk))
  obtain ⟨h0, h1⟩ := h
  have hk0 : ¬ k < 0 := by omega
  have hk1 : ¬ (n : Int) - q < k := by omega
  obtain ⟨k', rfl⟩ := Int.eq_ofNat_of_zero_le (show 0 ≤ k by omega)
  obtain ⟨q', rfl⟩ := Int.eq_ofNat_of_zero_le h0
  generalize gd l (k' : Int) (q' : Int) 16 = X at *
  clear hk
  by_cases hq : q' < 1
  · have hq2 : (q' : Int) < 1 := by omega
    have HX2 : Hid (X = (2, zr)) := HX.out.trans (if_neg (fun e => by omega))
    clear HX hs hl
    go_enter Tryz.func174, Tryz.ntmps174
    go_wp2_with fail
    refine (l1In_any _ _ _ _).mono ?_
    rw [HI.out]
    rintro e w1 ⟨rfl, rfl⟩
    go_wp2_with fail
    refine (Types.spec_ok _ _).mono ?_
    rw [HY.out]
    rintro e w1 ⟨rfl, rfl⟩
    go_wp2
    refine bodyPost_ret (v := val2 (2, zr)) (res2 rfl ((box_a w).alloc _) rfl rfl) rfl ⟨by rw [HX2.out], low_c w 16⟩
  · have hq2 : ¬ (q' : Int) < 1 := by omega
    have hkl : k' < l.length := by omega
    have hkn : k' < n := by omega
    have HX2 : Hid (X = if (l[k'].toNat : Int) = (q' : Int) - 1 ∧ txo (piece l k' (q' - 1)) = true then (0, rT (piece l k' (q' - 1))) else (2, zr)) := by
      show _ = _
      rw [HX.out, ReadI.bt_at l k' hkl, Int.toNat_natCast, show ((q' : Int) - 1).toNat = q' - 1 by omega]
      by_cases hb : (l[k'].toNat : Int) = (q' : Int) - 1
      · by_cases ht : txo (piece l k' (q' - 1)) = true
        · rw [if_pos ⟨by omega, hb, ht⟩, if_pos ⟨hb, ht⟩]
        · rw [if_neg (fun e => ht e.2.2), if_neg (fun e => ht e.2)]
      · rw [if_neg (fun e => hb e.2.1), if_neg (fun e => hb e.1)]
    obtain ⟨b, off, rfl, hbB, hcs⟩ := hs.2 (by omega)
    have hx : w.cell? ⟨b, off + k', none⟩ = some (.int .u8 (l[k'].toNat : Int)) := hcs k' hkl
    have hx2 : (((w.alloc (.cells #[.string ⟨#[]⟩, .int .i64 0, .int .i64 0, .int .i64 0, .string ⟨#[]⟩, .string ⟨#[]⟩] 117)).alloc (.cells #[.string ⟨#[]⟩, .int .i64 0, .int .i64 0, .int .i64 0, .string ⟨#[]⟩, .string ⟨#[]⟩] 117)).alloc (.cells #[.string ⟨#[]⟩, .int .i64 16, .int .i64 0, .int .i64 0, .string ⟨#[]⟩, .string ⟨#[]⟩] 117)).cell? ⟨b, off + k', none⟩ = some (.int .u8 (l[k'].toNat : Int)) := ((low_c w 16).cell (p := ⟨b, off + k', none⟩) hbB).trans hx
    have hb1 : l[k'].toNat < 256 := l[k'].toNat_lt
    have HS := Lib.hid ((hs.below (low_c w 16)).wider (low_c w 16).size)
    clear HX hs hcs hl hx
    generalize l[k'].toNat = m at *
    by_cases hm : (m : Int) = (q' : Int) - 1
    · have hm2 : ((m : Int) != (q' : Int) - 1) = false := by simp [hm]
      obtain rfl : q' = m + 1 := by omega
      have hin : k' + 1 + m ≤ n := by omega
      have HI : Hid (decide ((0 : Int) ≤ (m : Int) + 1 ∧ (m : Int) + 1 ≤ 255) = true) := decide_eq_true (by omega)
      have hps := piece_le l k' m
      have HX3 : Hid (X = if txo (piece l k' m) = true then (0, rT (piece l k' m)) else (2, zr)) := by
        show _ = _
        rw [HX2.out, show m + 1 - 1 = m by omega]
        by_cases ht : txo (piece l k' m) = true
        · rw [if_pos ⟨by omega, ht⟩, if_pos ht]
        · rw [if_neg (fun e => ht e.2), if_neg ht]
      clear HX2 hm
      have hck := Classical.em (c = k' + 1)
      rcases hck with hck | hck
      · obtain rfl : m = 0 := by omega
        have hcv := fun A cap => conv_none (w := ((w.alloc (.cells #[.string ⟨#[]⟩, .int .i64 0, .int .i64 0, .int .i64 0, .string ⟨#[]⟩, .string ⟨#[]⟩] 117)).alloc (.cells #[.string ⟨#[]⟩, .int .i64 0, .int .i64 0, .int .i64 0, .string ⟨#[]⟩, .string ⟨#[]⟩] 117)).alloc (.cells #[.string ⟨#[]⟩, .int .i64 16, .int .i64 0, .int .i64 0, .string ⟨#[]⟩, .string ⟨#[]⟩] 117)) A cap l k'
        generalize piece l k' 0 = T at *
        obtain ⟨u, hu⟩ : ∃ u, txo T = u := ⟨_, rfl⟩
        have HU := Lib.hid hu
        rw [hu] at HX3
        clear hu
        go_enter Tryz.func174, Tryz.ntmps174
        go_wp2_with fail
        refine (l1In_any _ _ _ _).mono ?_
        rw [show (decide ((0 : Int) ≤ 1 ∧ (1 : Int) ≤ 255)) = true from by decide]
        rintro e w1 ⟨rfl, rfl⟩
        go_wp2_with fail
        refine (Types.spec_ok _ _).mono ?_
        rw [HY.out]
        rintro e w1 ⟨rfl, rfl⟩
        go_wp2_with fail
        refine (TextR.spec T _ (by omega)).mono ?_
        rw [HU.out]
        rintro e w1 ⟨rfl, rfl⟩
        cases u
        · go_wp2
          refine bodyPost_ret (v := val2 (2, zr)) (res2 rfl ((box_a w).alloc _) rfl rfl) rfl ⟨by rw [HX3.out]; rfl, (low_b w).alloc (by first | (simp; done) | (simp; omega)) _⟩
        · go_wp2
          refine bodyPost_ret (v := val2 (0, rT T)) (res2 rfl (((show Bk _ w.heap.size 117 (rc (rT T)) from heap_alloc_new w _).alloc _).alloc _) rfl rfl) rfl ⟨by rw [HX3.out]; rfl, (((Below.refl _ _).alloc (Nat.le_refl _) _).alloc (by simp) _).alloc (by first | (simp; done) | (simp; omega)) _⟩
      · have hcv : ∀ cap, (convert 22 9 (.slice (some ⟨b, off + (k' + 1), none⟩) (k' + (m + 1) - (k' + 1)) cap)).run Tryz.prog _ = .ok (.string (piece l k' m)) _ := fun cap => by rw [show k' + (m + 1) - (k' + 1) = m by omega]; exact conv_piece HS.out k' m cap hin
        generalize piece l k' m = T at *
        obtain ⟨u, hu⟩ : ∃ u, txo T = u := ⟨_, rfl⟩
        have HU := Lib.hid hu
        rw [hu] at HX3
        clear hu
        go_enter Tryz.func174, Tryz.ntmps174
        go_wp2_with fail
        refine (l1In_any _ _ _ _).mono ?_
        rw [HI.out]
        rintro e w1 ⟨rfl, rfl⟩
        go_wp2_with fail
        refine (Types.spec_ok _ _).mono ?_
        rw [HY.out]
        rintro e w1 ⟨rfl, rfl⟩
        go_wp2_with fail
        refine (TextR.spec T _ (by omega)).mono ?_
        rw [HU.out]
        rintro e w1 ⟨rfl, rfl⟩
        cases u
        · go_wp2
          refine bodyPost_ret (v := val2 (2, zr)) (res2 rfl ((box_a w).alloc _) rfl rfl) rfl ⟨by rw [HX3.out]; rfl, (low_b w).alloc (by first | (simp; done) | (simp; omega)) _⟩
        · go_wp2
          refine bodyPost_ret (v := val2 (0, rT T)) (res2 rfl (((show Bk _ w.heap.size 117 (rc (rT T)) from heap_alloc_new w _).alloc _).alloc _) rfl rfl) rfl ⟨by rw [HX3.out]; rfl, (((Below.refl _ _).alloc (Nat.le_refl _) _).alloc (by simp) _).alloc (by first | (simp; done) | (simp; omega)) _⟩
    · have hm2 : ((m : Int) != (q' : Int) - 1) = true := by simpa using hm
      have HX3 : Hid (X = (2, zr)) := HX2.out.trans (if_neg (fun e => hm e.1))
      clear HX2 hm
      go_enter Tryz.func174, Tryz.ntmps174
      go_wp2_with fail
      refine (l1In_any _ _ _ _).mono ?_
      rw [HI.out]
      rintro e w1 ⟨rfl, rfl⟩
      go_wp2_with fail
      refine (Types.spec_ok _ _).mono ?_
      rw [HY.out]
      rintro e w1 ⟨rfl, rfl⟩
      go_wp2
      refine bodyPost_ret (v := val2 (2, zr)) (res2 rfl ((box_a w).alloc _) rfl rfl) rfl ⟨by rw [HX3.out], low_c w 16⟩

end Go.Proofs.YtkfibepejlgniaaGreatDoor.GetSC

/- What the model's GetData does, of one type each: as GetSA tells. -/
namespace Go.Proofs.YtkfibepejlgniaaGreatDoor.GetSD
open Go.RowKit Go.Proofs.YtkfibepejlgniaaGreatDoor.Mem Go.Proofs.YtkfibepejlgniaaGreatDoor.MemR Go.Proofs.YtkfibepejlgniaaGreatDoor.JoinSpec Go.Proofs.YtkfibepejlgniaaGreatDoor.GetLabel Go.Proofs.YtkfibepejlgniaaGreatDoor.BoxR Go.Proofs.YtkfibepejlgniaaGreatDoor.NameOk Go.Proofs.YtkfibepejlgniaaGreatDoor.TextR Go.Proofs.YtkfibepejlgniaaGreatDoor.RecOk Go.Proofs.YtkfibepejlgniaaGreatDoor.WireMath Go.Proofs.YtkfibepejlgniaaGreatDoor.WireGood Go.Proofs.YtkfibepejlgniaaGreatDoor.WalkSpec Go.Proofs.YtkfibepejlgniaaGreatDoor.Get Go.Proofs.YtkfibepejlgniaaGreatDoor.Label Go.Proofs.YtkfibepejlgniaaGreatDoor.FieldMath Go.Proofs.YtkfibepejlgniaaGreatDoor.FieldRd Go.Proofs.YtkfibepejlgniaaGreatDoor.ResR Go.Proofs.YtkfibepejlgniaaGreatDoor.GetI Go.Proofs.YtkfibepejlgniaaGreatDoor.GetSA

set_option maxRecDepth 100000 in
set_option maxHeartbeats 2000000 in
theorem data_6 (A : Option Addr) (n c : Nat) (l : List UInt8) (k q : Int) (w : World) (hs : Sl w w.heap.size A n l) (hnc : n ≤ c) (hn : n ≤ 400000000) (h : 0 ≤ q ∧ q ≤ 255) (hk : ¬ (k < 0 ∨ (n : Int) - q < k)) :
    Calls Tryz.prog 174 #[.slice A n c, .int .i64 k, .int .i64 q, .int .i64 6] w fun e w' => e = .returned (val2 (gd l k q 6)) ∧ Below w.heap.size w w' := by
  have hl := hs.1
  have HI : Hid (decide ((0 : Int) ≤ q ∧ q ≤ 255) = true) := decide_eq_true h
  have HY : Hid (Types.ty 6 = true) := rfl
  have HX := Lib.hid (gd_6 h (by rw [hl]; exact hk))
  have GN := Lib.hid (fun W (hW : Below w.heap.size w W) => WalkSpec.getName A n c l k W _ rfl ((hs.below hW).wider hW.size) hn hnc)
  have G4 := Lib.hid (fun (q : Int) (W : World) (hW : Below w.heap.size w W) => get4 A n c l q W _ (hs.below hW) hn)
  have HIN := Lib.hid (fun q => n4_in (l := l) (k := q))
  have HL := Lib.hid hl
  generalize gd l k q 6 = X at *
  generalize rn l [] k k 0 (-1) = R at *
  obtain ⟨c0, L, p, j⟩ := R
  unfold val3 at GN
  dsimp only at GN HX
  generalize Jo L = s at *
  clear hs hl
  obtain ⟨h0, h1⟩ := h
  have hk0 : ¬ k < 0 := by omega
  have hk1 : ¬ (n : Int) - q < k := by omega
  clear hk
  go_enter Tryz.func174, Tryz.ntmps174
  go_wp2_with fail
  refine (l1In_any _ _ _ _).mono ?_
  rw [HI.out]
  rintro e w1 ⟨rfl, rfl⟩
  go_wp2_with fail
  refine (Types.spec_ok _ _).mono ?_
  rw [HY.out]
  rintro e w1 ⟨rfl, rfl⟩
  go_wp2_with fail
  refine (GN.out _ (low_c w 6)).mono ?_
  rintro e w1 ⟨rfl, hl⟩
  have L1 := Lib.hid ((low_c w 6).trans (hl.mono (low_c w 6).size))
  have Z1 := Lib.hid (Bk.below ((box_a w).alloc _) hl (by first | (simp; done) | (simp; omega)))
  have N1 := Lib.hid (Bk.below ((box_b w).alloc _) hl (by first | (simp; done) | (simp; omega)))
  have X1 := Lib.hid (Bk.below (box_c w 6) hl (box_c w 6).lt)
  clear hl GN
  obtain ⟨z0, z1, z2, z3, z4, z5⟩ := bx_of Z1.out
  obtain ⟨n0, n1, n2, n3, n4, n5⟩ := bx_of N1.out
  obtain ⟨x0, x1, x2, x3, x4, x5⟩ := bx_of X1.out
  have f0 := Z1.out.free 0
  have f1 := Z1.out.free 1
  have f2 := Z1.out.free 2
  have f3 := Z1.out.free 3
  have f4 := Z1.out.free 4
  have f5 := Z1.out.free 5
  have e3 := X1.out.free 3
  have e4 := X1.out.free 4
  have e5 := X1.out.free 5
  by_cases hc : c0 = 0
  · subst hc
    have HX2 := Lib.hid (HX.out.trans (if_neg (fun e => e rfl)))
    clear HX
    have Z2 := Lib.hid (Z1.out.other (p := ⟨w.heap.size + 1 + 1, 4, none⟩) (by show w.heap.size ≠ w.heap.size + 1 + 1; omega) (.string s))
    have N2 := Lib.hid (N1.out.other (p := ⟨w.heap.size + 1 + 1, 4, none⟩) (by show w.heap.size + 1 ≠ w.heap.size + 1 + 1; omega) (.string s))
    have X2 : Hid (Bk (w1.setCell ⟨w.heap.size + 1 + 1, 4, none⟩ (.string s)) (w.heap.size + 1 + 1) 117 (rc (rH 6 s))) := X1.out.set 4 (.string s)
    have L2 := Lib.hid (L1.out.setCell (p := ⟨w.heap.size + 1 + 1, 4, none⟩) (by show w.heap.size ≤ w.heap.size + 1 + 1; omega) (.string s))
    have G5 := Lib.hid (G4.out p (w1.setCell ⟨w.heap.size + 1 + 1, 4, none⟩ (.string s)) L2.out)
    have HIN5 := Lib.hid (HIN.out p)
    clear G4 HIN
    generalize FieldMath.n4 l p = y at *
    obtain ⟨x, b⟩ := y
    go_wp2_with fail
    refine G5.out.mono ?_
    rintro e w2 ⟨rfl, hl⟩
    have L3 := Lib.hid (L2.out.trans (hl.mono L2.out.size))
    have Z3 := Lib.hid (Z2.out.below hl Z2.out.lt)
    have N3 := Lib.hid (N2.out.below hl N2.out.lt)
    have X3 := Lib.hid (X2.out.below hl X2.out.lt)
    clear hl L2 Z2 N2 X2 L1 Z1 N1 X1 G5 z0 z1 z2 z3 z4 z5 n0 n1 n2 n3 n4 n5 x0 x1 x2 x3 x4 x5 f0 f1 f2 f3 f4 f5 e3 e4 e5
    obtain ⟨z0, z1, z2, z3, z4, z5⟩ := bx_of Z3.out
    obtain ⟨n0, n1, n2, n3, n4, n5⟩ := bx_of N3.out
    obtain ⟨x0, x1, x2, x3, x4, x5⟩ := bx_of X3.out
    have f0 := Z3.out.free 0
    have f1 := Z3.out.free 1
    have f2 := Z3.out.free 2
    have f3 := Z3.out.free 3
    have f4 := Z3.out.free 4
    have f5 := Z3.out.free 5
    have e3 := X3.out.free 3
    have e4 := X3.out.free 4
    have e5 := X3.out.free 5
    have Z4 := Lib.hid (Z3.out.other (p := ⟨w.heap.size + 1 + 1, 3, none⟩) (by show w.heap.size ≠ w.heap.size + 1 + 1; omega) (.int .i64 x))
    have L4 := Lib.hid (L3.out.setCell (p := ⟨w.heap.size + 1 + 1, 3, none⟩) (by show w.heap.size ≤ w.heap.size + 1 + 1; omega) (.int .i64 x))
    cases b
    · have HX3 : Hid (X = (2, zr)) := HX2.out.trans (if_neg (fun e => by simp at e))
      clear HX2
      go_wp2
      refine bodyPost_ret (v := val2 (2, zr)) (res2 rfl (fil_bk Z3.out zr) rfl rfl) rfl ⟨by rw [HX3.out], fil_below L3.out (Nat.le_refl _) zr⟩
    · obtain ⟨i0, i1⟩ := HIN5.out rfl
      rw [HL.out] at i1
      by_cases hq : p + 4 = k + q
      · have hq2 : (p + 4 != k + q) = false := by simp [hq]
        have HX3 : Hid (X = (0, rS s x)) := HX2.out.trans (if_pos ⟨rfl, hq⟩)
        clear HX2 hq
        go_wp2
        refine bodyPost_ret (v := val2 (0, rS s x)) (res2 rfl (fil_bk Z4.out (rS s x)) rfl rfl) rfl ⟨by rw [HX3.out], fil_below L4.out (Nat.le_refl _) (rS s x)⟩
      · have hq2 : (p + 4 != k + q) = true := by simpa using hq
        have HX3 : Hid (X = (2, zr)) := HX2.out.trans (if_neg (fun e => hq e.2))
        clear HX2 hq
        go_wp2
        refine bodyPost_ret (v := val2 (2, zr)) (res2 rfl (fil_bk Z4.out zr) rfl rfl) rfl ⟨by rw [HX3.out], fil_below L4.out (Nat.le_refl _) zr⟩
  · have HX2 := Lib.hid (HX.out.trans (if_pos hc))
    have hc2 : ((c0 : Int) != 0) = true := by simp; omega
    clear HX
    go_wp2
    refine bodyPost_ret (v := val2 (c0, zr)) (res2 rfl (fil_bk Z1.out zr) rfl rfl) rfl ⟨by rw [HX2.out], fil_below L1.out (Nat.le_refl _) zr⟩

end Go.Proofs.YtkfibepejlgniaaGreatDoor.GetSD

/- What the model's GetData and GetRecord do: they read as FieldMath tells (gd, gr), and turn nothing that was there. Condition: at most 400000000 bytes. -/
namespace Go.Proofs.YtkfibepejlgniaaGreatDoor.GetRecS
open Go.RowKit Go.Proofs.YtkfibepejlgniaaGreatDoor.Mem Go.Proofs.YtkfibepejlgniaaGreatDoor.MemR Go.Proofs.YtkfibepejlgniaaGreatDoor.JoinSpec Go.Proofs.YtkfibepejlgniaaGreatDoor.BoxR Go.Proofs.YtkfibepejlgniaaGreatDoor.NameOk Go.Proofs.YtkfibepejlgniaaGreatDoor.TextR Go.Proofs.YtkfibepejlgniaaGreatDoor.RecOk Go.Proofs.YtkfibepejlgniaaGreatDoor.WireMath Go.Proofs.YtkfibepejlgniaaGreatDoor.WireGood Go.Proofs.YtkfibepejlgniaaGreatDoor.WalkSpec Go.Proofs.YtkfibepejlgniaaGreatDoor.FieldMath Go.Proofs.YtkfibepejlgniaaGreatDoor.FieldRd Go.Proofs.YtkfibepejlgniaaGreatDoor.ResR Go.Proofs.YtkfibepejlgniaaGreatDoor.GetI Go.Proofs.YtkfibepejlgniaaGreatDoor.GetSA Go.Proofs.YtkfibepejlgniaaGreatDoor.GetRecI

theorem data (A : Option Addr) (n c : Nat) (l : List UInt8) (k q ty : Int) (w : World) (hs : Sl w w.heap.size A n l) (hnc : n ≤ c) (hn : n ≤ 400000000) :
    Calls Tryz.prog 174 #[.slice A n c, .int .i64 k, .int .i64 q, .int .i64 ty] w fun e w' => e = .returned (val2 (gd l k q ty)) ∧ Below w.heap.size w w' := by
  by_cases h : 0 ≤ q ∧ q ≤ 255
  · by_cases ht : ty = 1 ∨ ty = 2 ∨ ty = 5 ∨ ty = 6 ∨ ty = 16
    · by_cases hk : k < 0 ∨ (n : Int) - q < k
      · exact data_o A n c l k q ty w hs hn h ht hk
      · rcases ht with rfl | rfl | rfl | rfl | rfl
        · exact data_1 A n c l k q w hs hn h hk
        · exact GetSB.data_2 A n c l k q w hs hnc hn h hk
        · exact GetSB.data_5 A n c l k q w hs hnc hn h hk
        · exact GetSD.data_6 A n c l k q w hs hnc hn h hk
        · exact GetSC.data_16 A n c l k q w hs hnc hn h hk
    · exact data_t A n c l k q ty w hs hn h ht
  · exact data_n A n c l k q ty w h
/-- What GetData gives is not long, if it succeeds. -/
theorem gd_small {l : List UInt8} {k n ty : Int} {r : Rec} (h : gd l k n ty = (0, r)) : DataS.Med r := by
  unfold gd at h
  have hz : DataS.Med zr := ⟨by decide, by decide, by decide⟩
  split at h
  · simp at h
  · split at h
    · simp at h
    · split at h
      · split at h
        · simp only [Prod.mk.injEq, true_and] at h
          rw [← h]
          exact ⟨by show (0 : Nat) ≤ _; omega, by show (0 : Nat) ≤ _; omega, by show (0 : Nat) ≤ _; omega⟩
        · simp at h
      · split at h
        · split at h
          · rename_i hn _ _ _ hp
            simp only [Prod.mk.injEq, true_and] at h
            rw [← h]
            have hp := piece_le l k.toNat (n - 1).toNat
            exact ⟨by show (0 : Nat) ≤ _; omega, by show (0 : Nat) ≤ _; omega, by show (GetLabel.piece l k.toNat (n - 1).toNat).size ≤ _; omega⟩
          · simp at h
        · split at h
          · split at h
            · rename_i hc
              simp only [Prod.mk.injEq] at h
              exact absurd h.1 hc
            · rename_i hc
              split at h
              · simp only [Prod.mk.injEq, true_and] at h
                rw [← h]
                exact ⟨by show (0 : Nat) ≤ _; omega, Nat.le_trans (name_le (Decidable.byContradiction hc)) (by decide), by show (0 : Nat) ≤ _; omega⟩
              · simp at h
          · split at h
            · split at h
              · rename_i hc
                simp only [Prod.mk.injEq] at h
                exact absurd h.1 hc
              · rename_i hc
                split at h
                · simp only [Prod.mk.injEq, true_and] at h
                  rw [← h]
                  exact ⟨by show (0 : Nat) ≤ _; omega, Nat.le_trans (name_le (Decidable.byContradiction hc)) (by decide), by show (0 : Nat) ≤ _; omega⟩
                · simp at h
            · simp at h
/-- The record's answer, told of what the model's GetData gave. -/
theorem gr_of {l : List UInt8} {k : Int} {L : List ByteArray} {p : Int} {j c : Nat} {r : Rec} (h : rn l [] k k 0 (-1) = (0, L, p, j)) (hp : ¬ (l.length : Int) - 10 < p) (hd : gd l (p + 10) (FieldMath.n2 l (p + 8)).1 (FieldMath.n2 l p).1 = (c, r)) :
    gr l k = if c ≠ 0 then (c, 0, zr) else if (FieldMath.n4 l (p + 4)).2 = true ∧ (FieldMath.n2 l (p + 2)).1 = 1 ∧ rok (wn r (Jo L) (FieldMath.n4 l (p + 4)).1) = true then (0, p + 10 + (FieldMath.n2 l (p + 8)).1, wn r (Jo L) (FieldMath.n4 l (p + 4)).1) else (2, 0, zr) := by
  by_cases hc : c ≠ 0
  · rw [if_pos hc]
    exact gr_data h hp hd hc
  · have hc0 : c = 0 := Decidable.byContradiction hc
    subst hc0
    rw [if_neg hc]
    split
    · rename_i hg
      exact gr_good h hp hd hg
    · rename_i hg
      exact gr_form h hp hd hg

set_option maxRecDepth 100000 in
set_option maxHeartbeats 4000000 in
theorem record (A : Option Addr) (n c : Nat) (l : List UInt8) (k : Int) (w : World) (hs : Sl w w.heap.size A n l) (hnc : n ≤ c) (hn : n ≤ 400000000) :
    Calls Tryz.prog 145 #[.slice A n c, .int .i64 k] w fun e w' => e = .returned (valR (gr l k)) ∧ Below w.heap.size w w' := by
  have hl := hs.1
  have GN := Lib.hid (fun W (hW : Below w.heap.size w W) => WalkSpec.getName A n c l k W _ rfl ((hs.below hW).wider hW.size) hn hnc)
  generalize hR : rn l [] k k 0 (-1) = R at *
  obtain ⟨c0, L, p, j⟩ := R
  unfold val3 at GN
  dsimp only at GN
  by_cases hc : c0 = 0
  · subst hc
    have HF := rn_from hR
    obtain ⟨_, _, hp1, hp2, _⟩ := rn_good hR
    have hp0 : 0 ≤ p := by omega
    rw [hl] at hp2
    clear hp1 HF
    by_cases hs10 : (n : Int) - 10 < p
    · have HX := Lib.hid (gr_short hR (by rw [hl]; exact hs10))
      generalize gr l k = X at *
      generalize Jo L = s at *
      clear hs hl hR
      go_enter Tryz.func145, Tryz.ntmps145
      go_wp2_with fail
      refine (GN.out _ (low_b w)).mono ?_
      rintro e w1 ⟨rfl, hl⟩
      have L1 := Lib.hid ((low_b w).trans (hl.mono (low_b w).size))
      have Z1 := Lib.hid (Bk.below (box_a w) hl (box_a w).lt)
      have N1 := Lib.hid (Bk.below (box_b w) hl (box_b w).lt)
      clear hl
      obtain ⟨z0, z1, z2, z3, z4, z5⟩ := bx_of Z1.out
      obtain ⟨n0, n1, n2, n3, n4, n5⟩ := bx_of N1.out
      have f0 := Z1.out.free 0
      have f1 := Z1.out.free 1
      have f2 := Z1.out.free 2
      have f3 := Z1.out.free 3
      have f4 := Z1.out.free 4
      have f5 := Z1.out.free 5
      go_wp2
      refine bodyPost_ret (v := valR (1, 0, zr)) (res3 rfl (fil_bk Z1.out zr) rfl rfl rfl) rfl ⟨by rw [HX.out], fil_below L1.out (Nat.le_refl _) zr⟩
    · have HG2 := Lib.hid (fun (q : Int) (W : World) (hW : Below w.heap.size w W) => get2 A n c l q W _ (hs.below hW) hn)
      have HG4 := Lib.hid (fun (q : Int) (W : World) (hW : Below w.heap.size w W) => get4 A n c l q W _ (hs.below hW) hn)
      have HGD := Lib.hid (fun (q m t : Int) (W : World) (hW : Below w.heap.size w W) => data A n c l q m t W ((hs.below hW).wider hW.size) hnc hn)
      generalize hD : gd l (p + 10) (FieldMath.n2 l (p + 8)).1 (FieldMath.n2 l p).1 = D at *
      obtain ⟨dc, yr⟩ := D
      have HX := Lib.hid (gr_of hR (by rw [hl]; exact hs10) hD)
      have HM := Lib.hid (fun (e : dc = 0) => gd_small (r := yr) (by rw [hD, e]))
      have HNL : Hid ((Jo L).size ≤ 50) := (Plain.nm_parts (rn_good hR).2.1).1
      have h1 := (n2_in (l := l) (k := p) hp0 (by omega)).2
      have h2 := (n2_in (l := l) (k := p + 2) (by omega) (by omega)).2
      have h8 := (n2_in (l := l) (k := p + 8) (by omega) (by omega)).2
      have hG1 := HG2.out p
      have hG2 := HG2.out (p + 2)
      have hG8 := HG2.out (p + 8)
      have hG4 := HG4.out (p + 4)
      have hGD := HGD.out (p + 10) (FieldMath.n2 l (p + 8)).1 (FieldMath.n2 l p).1
      rw [hD] at hGD
      generalize gr l k = X at *
      generalize Jo L = s at *
      clear hD
      generalize FieldMath.n2 l p = y1 at *
      generalize FieldMath.n2 l (p + 2) = y2 at *
      generalize FieldMath.n2 l (p + 8) = y8 at *
      generalize FieldMath.n4 l (p + 4) = y4 at *
      obtain ⟨ty, b1⟩ := y1
      obtain ⟨cl, b2⟩ := y2
      obtain ⟨q, b8⟩ := y8
      obtain ⟨tt, b4⟩ := y4
      dsimp only at h1 h2 h8 hG1 hG2 hG8 hG4 hGD HX
      obtain ⟨h10, h11⟩ := h1
      obtain ⟨h20, h21⟩ := h2
      obtain ⟨h80, h81⟩ := h8
      have G1 := Lib.hid hG1
      have G2 := Lib.hid hG2
      have G8 := Lib.hid hG8
      have G4 := Lib.hid hG4
      have GD := Lib.hid hGD
      clear hG1 hG2 hG8 hG4 hGD HG2 HG4 HGD hs hl hR
      go_enter Tryz.func145, Tryz.ntmps145
      go_wp2_with fail
      refine (GN.out _ (low_b w)).mono ?_
      rintro e w1 ⟨rfl, hl⟩
      have L1 := Lib.hid ((low_b w).trans (hl.mono (low_b w).size))
      have Z1 := Lib.hid (Bk.below (box_a w) hl (box_a w).lt)
      have N1 := Lib.hid (Bk.below (box_b w) hl (box_b w).lt)
      clear hl
      go_wp2_with fail
      refine (G1.out _ L1.out).mono ?_
      rintro e w2 ⟨rfl, hl⟩
      have L2 := Lib.hid (L1.out.trans (hl.mono L1.out.size))
      have Z2 := Lib.hid (Z1.out.below hl Z1.out.lt)
      have N2 := Lib.hid (N1.out.below hl N1.out.lt)
      clear hl L1 Z1 N1
      go_wp2_with fail
      refine (G2.out _ L2.out).mono ?_
      rintro e w3 ⟨rfl, hl⟩
      have L3 := Lib.hid (L2.out.trans (hl.mono L2.out.size))
      have Z3 := Lib.hid (Z2.out.below hl Z2.out.lt)
      have N3 := Lib.hid (N2.out.below hl N2.out.lt)
      clear hl L2 Z2 N2
      go_wp2_with fail
      refine (G4.out _ L3.out).mono ?_
      rintro e w4 ⟨rfl, hl⟩
      have L4 := Lib.hid (L3.out.trans (hl.mono L3.out.size))
      have Z4 := Lib.hid (Z3.out.below hl Z3.out.lt)
      have N4 := Lib.hid (N3.out.below hl N3.out.lt)
      clear hl L3 Z3 N3
      go_wp2_with fail
      refine (G8.out _ L4.out).mono ?_
      rintro e w5 ⟨rfl, hl⟩
      have L5 := Lib.hid (L4.out.trans (hl.mono L4.out.size))
      have Z5 := Lib.hid (Z4.out.below hl Z4.out.lt)
      have N5 := Lib.hid (N4.out.below hl N4.out.lt)
      clear hl L4 Z4 N4
      go_wp2_with fail
      refine (GD.out _ L5.out).mono ?_
      rintro e w6 ⟨rfl, hl⟩
      have L6 := Lib.hid (L5.out.trans (hl.mono L5.out.size))
      have Z6 := Lib.hid (Z5.out.below hl Z5.out.lt)
      have N6 := Lib.hid (N5.out.below hl N5.out.lt)
      clear hl L5 Z5 N5
      clear G1 G2 G4 G8 GD GN
      unfold val2
      dsimp only
      by_cases hdc : dc = 0
      · subst hdc
        have HX2 := Lib.hid (HX.out.trans (if_neg (fun e => e rfl)))
        have hmed := HM.out rfl
        have RO := Lib.hid (fun W => RecOk.spec (wn yr s tt) W (show Mod (wn yr s tt) from ⟨Nat.le_trans HNL.out (by decide), (hmed.mod).2.1, (hmed.mod).2.2⟩))
        unfold wn at RO
        dsimp only at RO
        have L7 := Lib.hid (L6.out.alloc L6.out.size (.cells #[.string s, .int .i64 yr.ty, .int .i64 tt, .int .i64 yr.n, .string yr.host, .string yr.text] 117))
        have Z7 := Lib.hid (Z6.out.alloc (.cells #[.string s, .int .i64 yr.ty, .int .i64 tt, .int .i64 yr.n, .string yr.host, .string yr.text] 117))
        have N7 := Lib.hid (N6.out.alloc (.cells #[.string s, .int .i64 yr.ty, .int .i64 tt, .int .i64 yr.n, .string yr.host, .string yr.text] 117))
        have X7 := Lib.hid (bx_new w6 117 (wn yr s tt))
        clear HX HM hmed
        obtain ⟨z0, z1, z2, z3, z4, z5⟩ := bx_of Z7.out
        obtain ⟨n0, n1, n2, n3, n4, n5⟩ := bx_of N7.out
        have f0 := Z7.out.free 0
        have f1 := Z7.out.free 1
        have f2 := Z7.out.free 2
        have f3 := Z7.out.free 3
        have f4 := Z7.out.free 4
        have f5 := Z7.out.free 5
        cases b4
        · have HX3 : Hid (X = (2, 0, zr)) := HX2.out.trans (if_neg (fun e => by simp at e))
          clear HX2
          go_wp2
          refine bodyPost_ret (v := valR (2, 0, zr)) (res3 rfl (fil_bk Z7.out zr) rfl rfl rfl) rfl ⟨by rw [HX3.out], fil_below L7.out (Nat.le_refl _) zr⟩
        · by_cases hcl : cl = 1
          · have hcl2 : (cl != 1) = false := by simp [hcl]
            obtain ⟨u, hu⟩ : ∃ u, rok (wn yr s tt) = u := ⟨_, rfl⟩
            have HU := Lib.hid hu
            have HX3 : Hid (X = if u = true then (0, p + 10 + q, wn yr s tt) else (2, 0, zr)) := by
              show _ = _
              rw [HX2.out, hu]
              cases u <;> simp [hcl]
            clear hu HX2 hcl
            go_wp2_with fail
            refine (RO.out _).mono ?_
            rw [show rok ⟨s, yr.ty, tt, yr.n, yr.host, yr.text⟩ = u from HU.out]
            rintro e w8 ⟨rfl, hl⟩
            have L8 := Lib.hid (L7.out.trans (hl.mono L7.out.size))
            have Z8 := Lib.hid (Z7.out.below hl Z7.out.lt)
            have N8 := Lib.hid (N7.out.below hl N7.out.lt)
            have X8 := Lib.hid (X7.out.below hl)
            clear hl L7 Z7 N7 X7 z0 z1 z2 z3 z4 z5 n0 n1 n2 n3 n4 n5 f0 f1 f2 f3 f4 f5
            obtain ⟨z0, z1, z2, z3, z4, z5⟩ := bx_of Z8.out
            obtain ⟨n0, n1, n2, n3, n4, n5⟩ := bx_of N8.out
            have f0 := Z8.out.free 0
            have f1 := Z8.out.free 1
            have f2 := Z8.out.free 2
            have f3 := Z8.out.free 3
            have f4 := Z8.out.free 4
            have f5 := Z8.out.free 5
            cases u
            · go_wp2
              refine bodyPost_ret (v := valR (2, 0, zr)) (res3 rfl (fil_bk Z8.out zr) rfl rfl rfl) rfl ⟨by rw [HX3.out]; rfl, fil_below L8.out (Nat.le_refl _) zr⟩
            · obtain ⟨x0, x1, x2, x3, x4, x5⟩ := X8.out
              have x0 : w8.cell? ⟨w6.heap.size, 0, none⟩ = some (.string s) := x0
              have x1 : w8.cell? ⟨w6.heap.size, 1, none⟩ = some (.int .i64 yr.ty) := x1
              have x2 : w8.cell? ⟨w6.heap.size, 2, none⟩ = some (.int .i64 tt) := x2
              have x3 : w8.cell? ⟨w6.heap.size, 3, none⟩ = some (.int .i64 yr.n) := x3
              have x4 : w8.cell? ⟨w6.heap.size, 4, none⟩ = some (.string yr.host) := x4
              have x5 : w8.cell? ⟨w6.heap.size, 5, none⟩ = some (.string yr.text) := x5
              go_wp2
              refine bodyPost_ret (v := valR (0, p + 10 + q, wn yr s tt)) (res3 rfl (fil_bk Z8.out (wn yr s tt)) rfl rfl rfl) rfl ⟨by rw [HX3.out]; rfl, fil_below L8.out (Nat.le_refl _) (wn yr s tt)⟩
          · have hcl2 : (cl != 1) = true := by simpa using hcl
            have HX3 : Hid (X = (2, 0, zr)) := HX2.out.trans (if_neg (fun e => hcl e.2.1))
            clear HX2 hcl
            go_wp2
            refine bodyPost_ret (v := valR (2, 0, zr)) (res3 rfl (fil_bk Z7.out zr) rfl rfl rfl) rfl ⟨by rw [HX3.out], fil_below L7.out (Nat.le_refl _) zr⟩
      · have HX2 := Lib.hid (HX.out.trans (if_pos hdc))
        have hc2 : ((dc : Int) != 0) = true := by simp; omega
        have L7 := Lib.hid (L6.out.alloc L6.out.size (.cells #[.string yr.name, .int .i64 yr.ty, .int .i64 yr.ttl, .int .i64 yr.n, .string yr.host, .string yr.text] 117))
        have Z7 := Lib.hid (Z6.out.alloc (.cells #[.string yr.name, .int .i64 yr.ty, .int .i64 yr.ttl, .int .i64 yr.n, .string yr.host, .string yr.text] 117))
        have N7 := Lib.hid (N6.out.alloc (.cells #[.string yr.name, .int .i64 yr.ty, .int .i64 yr.ttl, .int .i64 yr.n, .string yr.host, .string yr.text] 117))
        clear HX HM
        obtain ⟨z0, z1, z2, z3, z4, z5⟩ := bx_of Z7.out
        obtain ⟨n0, n1, n2, n3, n4, n5⟩ := bx_of N7.out
        have f0 := Z7.out.free 0
        have f1 := Z7.out.free 1
        have f2 := Z7.out.free 2
        have f3 := Z7.out.free 3
        have f4 := Z7.out.free 4
        have f5 := Z7.out.free 5
        go_wp2
        refine bodyPost_ret (v := valR (dc, 0, zr)) (res3 rfl (fil_bk Z7.out zr) rfl rfl rfl) rfl ⟨by rw [HX2.out], fil_below L7.out (Nat.le_refl _) zr⟩
  · have HX := Lib.hid (gr_name hR hc)
    have hc2 : ((c0 : Int) != 0) = true := by simp; omega
    generalize gr l k = X at *
    generalize Jo L = s at *
    clear hs hl hR
    go_enter Tryz.func145, Tryz.ntmps145
    go_wp2_with fail
    refine (GN.out _ (low_b w)).mono ?_
    rintro e w1 ⟨rfl, hl⟩
    have L1 := Lib.hid ((low_b w).trans (hl.mono (low_b w).size))
    have Z1 := Lib.hid (Bk.below (box_a w) hl (box_a w).lt)
    have N1 := Lib.hid (Bk.below (box_b w) hl (box_b w).lt)
    clear hl
    obtain ⟨z0, z1, z2, z3, z4, z5⟩ := bx_of Z1.out
    obtain ⟨n0, n1, n2, n3, n4, n5⟩ := bx_of N1.out
    have f0 := Z1.out.free 0
    have f1 := Z1.out.free 1
    have f2 := Z1.out.free 2
    have f3 := Z1.out.free 3
    have f4 := Z1.out.free 4
    have f5 := Z1.out.free 5
    go_wp2
    refine bodyPost_ret (v := valR (c0, 0, zr)) (res3 rfl (fil_bk Z1.out zr) rfl rfl rfl) rfl ⟨by rw [HX.out], fil_below L1.out (Nat.le_refl _) zr⟩
end Go.Proofs.YtkfibepejlgniaaGreatDoor.GetRecS

/- What GetQuest does in the program and in the model: it reads a question as MsgMath tells (gq), and turns nothing that was there. Conditions: at most 400000000 bytes; for the program: the library's variable internal/bytealg.MaxLen holds an int. -/
namespace Go.Proofs.YtkfibepejlgniaaGreatDoor.GetQ
open Go.RowKit Go.Proofs.YtkfibepejlgniaaGreatDoor.Mem Go.Proofs.YtkfibepejlgniaaGreatDoor.MemR Go.Proofs.YtkfibepejlgniaaGreatDoor.MemM Go.Proofs.YtkfibepejlgniaaGreatDoor.JoinSpec Go.Proofs.YtkfibepejlgniaaGreatDoor.Labels Go.Proofs.YtkfibepejlgniaaGreatDoor.WireMath Go.Proofs.YtkfibepejlgniaaGreatDoor.WireGood Go.Proofs.YtkfibepejlgniaaGreatDoor.WalkSpec Go.Proofs.YtkfibepejlgniaaGreatDoor.FieldMath Go.Proofs.YtkfibepejlgniaaGreatDoor.Get Go.Proofs.YtkfibepejlgniaaGreatDoor.OkM Go.Proofs.YtkfibepejlgniaaGreatDoor.ResQ Go.Proofs.YtkfibepejlgniaaGreatDoor.ResR Go.Proofs.YtkfibepejlgniaaGreatDoor.PartI Go.Proofs.YtkfibepejlgniaaGreatDoor.HeadRd Go.Proofs.YtkfibepejlgniaaGreatDoor.MsgMath Go.Proofs.YtkfibepejlgniaaGreatDoor.GetRecI

/-- What GetQuest hands back. A def, so that no step of a walk opens it. -/
def valQ (X : Nat × Int × ByteArray × Int) : Value := .tuple #[.agg #[.string X.2.2.1, .int .i64 X.2.2.2], .int .i64 X.2.1, .int .i64 (X.1 : Int)]

set_option maxRecDepth 100000 in
set_option maxHeartbeats 4000000 in
theorem impl (A : Option Addr) (n c : Nat) (l : List UInt8) (k : Int) (w : World) (he : Env w) (hs : Sl w w.heap.size A n l) (hnc : n ≤ c) (hn : n ≤ 400000000) :
    Calls Tryz.prog 39 #[.slice A n c, .int .i64 k] w fun e w' => e = .returned (valQ (gq l k)) ∧ Below w.heap.size w w' := by
  have hl := hs.1
  have L0 := Lib.hid ((Below.refl w.heap.size w).alloc (Nat.le_refl _) (.cells #[.string ⟨#[]⟩, .int .i64 0] 25))
  have Z0 : Hid (Bk (w.alloc (.cells #[.string ⟨#[]⟩, .int .i64 0] 25)) w.heap.size 25 (qc ⟨#[]⟩ 0)) := heap_alloc_new w _
  have HS := Lib.hid hs
  have HE := Lib.hid he
  have GN := Lib.hid (fun W (hW : Below w.heap.size w W) => NameGet.getName A n c l k W _ rfl (he.below hW) ((hs.below hW).wider hW.size) hn hnc)
  generalize hR : rn l [] k k 0 (-1) = R at *
  obtain ⟨c0, L, p, j⟩ := R
  unfold val3 at GN
  dsimp only at GN
  by_cases hc : c0 = 0
  · subst hc
    have HF := rn_from hR
    obtain ⟨_, hnm, hp1, hp2, _⟩ := rn_good hR
    have hz : (Jo L).size ≤ 50 := (Plain.nm_parts hnm).1
    have hp0 : 0 ≤ p := by omega
    rw [hl] at hp2
    clear hp1 HF hnm
    by_cases h4 : (n : Int) - 4 < p
    · have HX := Lib.hid (gq_short hR (by rw [hl]; exact h4))
      generalize gq l k = X at *
      generalize Jo L = s at *
      clear hs hl he hR
      go_enter Tryz.func39, Tryz.ntmps39
      go_wp2_with fail
      refine (GN.out _ L0.out).mono ?_
      rintro e w1 ⟨rfl, hl⟩
      have L1 := Lib.hid (L0.out.trans (hl.mono L0.out.size))
      have Z1 := Lib.hid (Z0.out.below hl Z0.out.lt)
      clear hl L0 Z0
      go_wp2_with fail
      refine (part_no A n c 4 p w1 hn (by omega) h4).mono ?_
      rintro e w2 ⟨rfl, rfl⟩
      obtain ⟨z0, z1⟩ := qx_of Z1.out
      have f0 := Z1.out.free 0
      have f1 := Z1.out.free 1
      go_wp2
      exact bodyPost_ret (v := valQ (1, 0, ⟨#[]⟩, 0)) (res3Q rfl (filQ_bk Z1.out ⟨#[]⟩ 0) rfl rfl rfl) rfl ⟨by rw [HX.out], filQ_below L1.out (Nat.le_refl _) ⟨#[]⟩ 0⟩
    · obtain ⟨q, rfl⟩ := Int.eq_ofNat_of_zero_le hp0
      have hq4 : q + 4 ≤ n := by omega
      obtain ⟨b, off, rfl, hb, hcs⟩ := hs.2 (by omega)
      have e1 : n2 l (q : Int) = (b2 l q, true) := b2_n2 (by omega)
      have e2 : n2 l ((q : Int) + 2) = (b2 l (q + 2), true) := b2_n2 (k := q + 2) (by omega)
      have HX : Hid (gq l k = if qok (Jo L) (b2 l q) = true ∧ b2 l (q + 2) = 1 then (0, (q : Int) + 4, Jo L, b2 l q) else (2, 0, ⟨#[]⟩, 0)) := by
        show _ = _
        split
        · rename_i hg
          have := gq_good hR (by rw [hl]; exact h4) (by rw [e1]; exact hg.1) (by rw [e2]; exact hg.2)
          rw [e1] at this
          exact this
        · rename_i hg
          exact gq_form hR (by rw [hl]; exact h4) (by rw [e1, e2]; exact hg)
      have G1 : Hid (∀ W, Below w.heap.size w W → Calls Tryz.prog 94 #[.slice (some ⟨b, off + q, none⟩) 4 4, .int .i64 0] W fun e w' => e = .returned (.tuple #[.int .i64 (b2 l q), .bool true]) ∧ W = w') := fun W hW => by
        have := implGet2_yes (some ⟨b, off + q, none⟩) 4 4 ((l.drop q).take 4) W _ 0 (sl_sub (hs.below hW) q 4 hq4 (by omega)) (by omega) (by omega) (by rw [List.length_take, List.length_drop]; omega)
        rw [sub2 l q 4 0 (by omega)] at this
        exact this
      have G2 : Hid (∀ W, Below w.heap.size w W → Calls Tryz.prog 94 #[.slice (some ⟨b, off + q, none⟩) 4 4, .int .i64 2] W fun e w' => e = .returned (.tuple #[.int .i64 (b2 l (q + 2)), .bool true]) ∧ W = w') := fun W hW => by
        have := implGet2_yes (some ⟨b, off + q, none⟩) 4 4 ((l.drop q).take 4) W _ 2 (sl_sub (hs.below hW) q 4 hq4 (by omega)) (by omega) (by omega) (by rw [List.length_take, List.length_drop]; omega)
        rw [sub2 l q 4 2 (by omega)] at this
        exact this
      have QO : Hid (∀ W, Below w.heap.size w W → Calls Tryz.prog 66 #[.agg #[.string (Jo L), .int .i64 (b2 l q)]] W fun e w' => e = .returned (.bool (qok (Jo L) (b2 l q))) ∧ Below W.heap.size W w') := fun W hW => questI (Jo L) (b2 l q) W (he.below hW) (by omega)
      clear hs hl he hR hcs e1 e2
      generalize gq l k = X at *
      generalize b2 l q = ty at *
      generalize b2 l (q + 2) = cl at *
      generalize Jo L = s at *
      obtain ⟨ok, hok⟩ : ∃ ok, qok s ty = ok := ⟨_, rfl⟩
      rw [hok] at QO HX
      clear hok
      go_enter Tryz.func39, Tryz.ntmps39
      go_wp2_with fail
      refine (GN.out _ L0.out).mono ?_
      rintro e w1 ⟨rfl, hl⟩
      have L1 := Lib.hid (L0.out.trans (hl.mono L0.out.size))
      have Z1 := Lib.hid (Z0.out.below hl Z0.out.lt)
      clear hl L0 Z0
      go_wp2_with fail
      refine (part_yes b off n c q 4 w1 hnc hn hq4 (by decide)).mono ?_
      rintro e w2 ⟨rfl, rfl⟩
      go_wp2_with fail
      refine (G1.out _ L1.out).mono ?_
      rintro e w2 ⟨rfl, rfl⟩
      go_wp2_with fail
      refine (G2.out _ L1.out).mono ?_
      rintro e w2 ⟨rfl, rfl⟩
      have L2 := Lib.hid (L1.out.alloc L1.out.size (.cells #[.string s, .int .i64 ty] 25))
      have Z2 := Lib.hid (Z1.out.alloc (.cells #[.string s, .int .i64 ty] 25))
      have X2 := Lib.hid (qx_new w1 25 s ty)
      clear L1 Z1 G1 G2 GN
      go_wp2_with fail
      refine (QO.out _ L2.out).mono ?_
      rintro e w3 ⟨rfl, hl⟩
      have L3 := Lib.hid (L2.out.trans (hl.mono L2.out.size))
      have Z3 := Lib.hid (Z2.out.below hl Z2.out.lt)
      have X3 := Lib.hid (X2.out.below hl)
      clear hl L2 Z2 X2 QO
      generalize w1.heap.size = gx at *
      obtain ⟨z0, z1⟩ := qx_of Z3.out
      have f0 := Z3.out.free 0
      have f1 := Z3.out.free 1
      obtain ⟨y0, y1⟩ := X3.out
      cases ok
      · go_wp2
        exact bodyPost_ret (v := valQ (2, 0, ⟨#[]⟩, 0)) (res3Q rfl (filQ_bk Z3.out ⟨#[]⟩ 0) rfl rfl rfl) rfl ⟨by rw [HX.out, if_neg (fun e => by cases e.1)], filQ_below L3.out (Nat.le_refl _) ⟨#[]⟩ 0⟩
      · by_cases h1 : cl = 1
        · have h1' : (cl != 1) = false := by rw [h1]; rfl
          go_wp2
          exact bodyPost_ret (v := valQ (0, (q : Int) + 4, s, ty)) (res3Q rfl (filQ_bk Z3.out s ty) rfl rfl rfl) rfl ⟨by rw [HX.out, if_pos ⟨by first | rfl | trivial, h1⟩], filQ_below L3.out (Nat.le_refl _) s ty⟩
        · have h1' : (cl != 1) = true := by simp [h1]
          have H1 := Lib.hid h1
          clear h1
          go_wp2
          exact bodyPost_ret (v := valQ (2, 0, ⟨#[]⟩, 0)) (res3Q rfl (filQ_bk Z3.out ⟨#[]⟩ 0) rfl rfl rfl) rfl ⟨by rw [HX.out, if_neg (fun e => H1.out e.2)], filQ_below L3.out (Nat.le_refl _) ⟨#[]⟩ 0⟩
  · have HX := Lib.hid (gq_name hR hc)
    generalize gq l k = X at *
    generalize Jo L = s at *
    have hc' : ((c0 : Int) != 0) = true := by simp; omega
    have hc2 : ¬ (c0 : Int) = 0 := by omega
    clear hs hl he hR
    go_enter Tryz.func39, Tryz.ntmps39
    go_wp2_with fail
    refine (GN.out _ L0.out).mono ?_
    rintro e w1 ⟨rfl, hl⟩
    have L1 := Lib.hid (L0.out.trans (hl.mono L0.out.size))
    have Z1 := Lib.hid (Z0.out.below hl Z0.out.lt)
    clear hl L0 Z0
    obtain ⟨z0, z1⟩ := qx_of Z1.out
    have f0 := Z1.out.free 0
    have f1 := Z1.out.free 1
    go_wp2
    exact bodyPost_ret (v := valQ (c0, 0, ⟨#[]⟩, 0)) (res3Q rfl (filQ_bk Z1.out ⟨#[]⟩ 0) rfl rfl rfl) rfl ⟨by rw [HX.out], filQ_below L1.out (Nat.le_refl _) ⟨#[]⟩ 0⟩

set_option maxRecDepth 100000 in
set_option maxHeartbeats 4000000 in
theorem spec (A : Option Addr) (n c : Nat) (l : List UInt8) (k : Int) (w : World) (hs : Sl w w.heap.size A n l) (hnc : n ≤ c) (hn : n ≤ 400000000) :
    Calls Tryz.prog 40 #[.slice A n c, .int .i64 k] w fun e w' => e = .returned (valQ (gq l k)) ∧ Below w.heap.size w w' := by
  have hl := hs.1
  have L0 := Lib.hid (((Below.refl w.heap.size w).alloc (Nat.le_refl _) (.cells #[.string ⟨#[]⟩, .int .i64 0] 25)).alloc (by simp) (.cells #[.string ⟨#[]⟩, .int .i64 0] 25))
  have Z0 : Hid (Bk ((w.alloc (.cells #[.string ⟨#[]⟩, .int .i64 0] 25)).alloc (.cells #[.string ⟨#[]⟩, .int .i64 0] 25)) w.heap.size 25 (qc ⟨#[]⟩ 0)) := (show Bk (w.alloc (.cells #[.string ⟨#[]⟩, .int .i64 0] 25)) w.heap.size 25 (qc ⟨#[]⟩ 0) from heap_alloc_new w _).alloc _
  have N0 : Hid (Qx ((w.alloc (.cells #[.string ⟨#[]⟩, .int .i64 0] 25)).alloc (.cells #[.string ⟨#[]⟩, .int .i64 0] 25)) (w.heap.size + 1) ⟨#[]⟩ 0) := qx_of (t := 25) ResM.at2
  have HS := Lib.hid hs
  have GN := Lib.hid (fun W (hW : Below w.heap.size w W) => WalkSpec.getName A n c l k W _ rfl ((hs.below hW).wider hW.size) hn hnc)
  generalize hR : rn l [] k k 0 (-1) = R at *
  obtain ⟨c0, L, p, j⟩ := R
  unfold val3 at GN
  dsimp only at GN
  by_cases hc : c0 = 0
  · subst hc
    have HF := rn_from hR
    obtain ⟨_, hnm, hp1, hp2, _⟩ := rn_good hR
    have hz : (Jo L).size ≤ 50 := (Plain.nm_parts hnm).1
    have hp0 : 0 ≤ p := by omega
    rw [hl] at hp2
    clear hp1 HF hnm
    by_cases h4 : (n : Int) - 4 < p
    · have HX := Lib.hid (gq_short hR (by rw [hl]; exact h4))
      generalize gq l k = X at *
      generalize Jo L = s at *
      clear hs hl hR
      go_enter Tryz.func40, Tryz.ntmps40
      go_wp2_with fail
      refine (GN.out _ L0.out).mono ?_
      rintro e w1 ⟨rfl, hl⟩
      have L1 := Lib.hid (L0.out.trans (hl.mono L0.out.size))
      have Z1 := Lib.hid (Z0.out.below hl Z0.out.lt)
      have N1 := Lib.hid (N0.out.below hl)
      clear hl L0 Z0 N0
      obtain ⟨u0, u1⟩ := N1.out
      obtain ⟨z0, z1⟩ := qx_of Z1.out
      have f0 := Z1.out.free 0
      have f1 := Z1.out.free 1
      go_wp2
      exact bodyPost_ret (v := valQ (1, 0, ⟨#[]⟩, 0)) (res3Q rfl (filQ_bk Z1.out ⟨#[]⟩ 0) rfl rfl rfl) rfl ⟨by rw [HX.out], filQ_below L1.out (Nat.le_refl _) ⟨#[]⟩ 0⟩
    · obtain ⟨q, rfl⟩ := Int.eq_ofNat_of_zero_le hp0
      have hq4 : q + 4 ≤ n := by omega
      obtain ⟨b, off, rfl, hb, hcs⟩ := hs.2 (by omega)
      have e1 : n2 l (q : Int) = (b2 l q, true) := b2_n2 (by omega)
      have e2 : n2 l ((q : Int) + 2) = (b2 l (q + 2), true) := b2_n2 (k := q + 2) (by omega)
      have HX : Hid (gq l k = if qok (Jo L) (b2 l q) = true ∧ b2 l (q + 2) = 1 then (0, (q : Int) + 4, Jo L, b2 l q) else (2, 0, ⟨#[]⟩, 0)) := by
        show _ = _
        split
        · rename_i hg
          have := gq_good hR (by rw [hl]; exact h4) (by rw [e1]; exact hg.1) (by rw [e2]; exact hg.2)
          rw [e1] at this
          exact this
        · rename_i hg
          exact gq_form hR (by rw [hl]; exact h4) (by rw [e1, e2]; exact hg)
      have G1 : Hid (∀ W, Below w.heap.size w W → Calls Tryz.prog 100 #[.slice (some ⟨b, off, none⟩) n c, .int .i64 (q : Int)] W fun e w' => e = .returned (.tuple #[.int .i64 (b2 l q), .bool true]) ∧ Below W.heap.size W w') := fun W hW =>
        (specGet2_yes (some ⟨b, off, none⟩) n c l W _ q (hs.below hW) hn (by omega)).mono fun e w' ⟨h1, q', h2⟩ => ⟨h1, h2 ▸ drewN_below W q' _⟩
      have G2 : Hid (∀ W, Below w.heap.size w W → Calls Tryz.prog 100 #[.slice (some ⟨b, off, none⟩) n c, .int .i64 ((q : Int) + 2)] W fun e w' => e = .returned (.tuple #[.int .i64 (b2 l (q + 2)), .bool true]) ∧ Below W.heap.size W w') := fun W hW =>
        (specGet2_yes (some ⟨b, off, none⟩) n c l W _ (q + 2) (hs.below hW) hn (by omega)).mono fun e w' ⟨h1, q', h2⟩ => ⟨h1, h2 ▸ drewN_below W q' _⟩
      have QO : Hid (∀ W, Below w.heap.size w W → Calls Tryz.prog 69 #[.agg #[.string (Jo L), .int .i64 (b2 l q)]] W fun e w' => e = .returned (.bool (qok (Jo L) (b2 l q))) ∧ Below W.heap.size W w') := fun W hW => questS (Jo L) (b2 l q) W (by omega)
      clear hs hl hR hcs e1 e2
      generalize gq l k = X at *
      generalize b2 l q = ty at *
      generalize b2 l (q + 2) = cl at *
      generalize Jo L = s at *
      obtain ⟨ok, hok⟩ : ∃ ok, qok s ty = ok := ⟨_, rfl⟩
      rw [hok] at QO HX
      clear hok
      go_enter Tryz.func40, Tryz.ntmps40
      go_wp2_with fail
      refine (GN.out _ L0.out).mono ?_
      rintro e w1 ⟨rfl, hl⟩
      have L1 := Lib.hid (L0.out.trans (hl.mono L0.out.size))
      have Z1 := Lib.hid (Z0.out.below hl Z0.out.lt)
      have N1 := Lib.hid (N0.out.below hl)
      clear hl L0 Z0 N0
      go_wp2_with fail
      refine (G1.out _ L1.out).mono ?_
      rintro e w2 ⟨rfl, hl⟩
      have L2 := Lib.hid (L1.out.trans (hl.mono L1.out.size))
      have Z2 := Lib.hid (Z1.out.below hl Z1.out.lt)
      have N2 := Lib.hid (N1.out.below hl)
      clear hl L1 Z1 N1
      go_wp2_with fail
      refine (G2.out _ L2.out).mono ?_
      rintro e w3 ⟨rfl, hl⟩
      have L3' := L2.out.trans (hl.mono L2.out.size)
      have L3 := Lib.hid (L3'.alloc L3'.size (.cells #[.string s, .int .i64 ty] 25))
      have Z3 := Lib.hid ((Z2.out.below hl Z2.out.lt).alloc (.cells #[.string s, .int .i64 ty] 25))
      have N3 := Lib.hid ((N2.out.below hl).below ((Below.refl _ _).alloc (Nat.le_refl _) (.cells #[.string s, .int .i64 ty] 25)))
      have X3 := Lib.hid (qx_new w3 25 s ty)
      clear L2 Z2 N2 G1 G2 GN L3' hl
      go_wp2_with fail
      refine (QO.out _ L3.out).mono ?_
      rintro e w4 ⟨rfl, hl⟩
      have L4 := Lib.hid (L3.out.trans (hl.mono L3.out.size))
      have Z4 := Lib.hid (Z3.out.below hl Z3.out.lt)
      have X4 := Lib.hid (X3.out.below hl)
      have N4 := Lib.hid (N3.out.below hl)
      clear hl L3 Z3 X3 N3 QO
      generalize w3.heap.size = gx at *
      obtain ⟨u0, u1⟩ := N4.out
      obtain ⟨z0, z1⟩ := qx_of Z4.out
      have f0 := Z4.out.free 0
      have f1 := Z4.out.free 1
      obtain ⟨y0, y1⟩ := X4.out
      cases ok
      · go_wp2
        exact bodyPost_ret (v := valQ (2, 0, ⟨#[]⟩, 0)) (res3Q rfl (filQ_bk Z4.out ⟨#[]⟩ 0) rfl rfl rfl) rfl ⟨by rw [HX.out, if_neg (fun e => by cases e.1)], filQ_below L4.out (Nat.le_refl _) ⟨#[]⟩ 0⟩
      · by_cases h1 : cl = 1
        · have h1' : (cl != 1) = false := by rw [h1]; rfl
          go_wp2
          exact bodyPost_ret (v := valQ (0, (q : Int) + 4, s, ty)) (res3Q rfl (filQ_bk Z4.out s ty) rfl rfl rfl) rfl ⟨by rw [HX.out, if_pos ⟨by first | rfl | trivial, h1⟩], filQ_below L4.out (Nat.le_refl _) s ty⟩
        · have h1' : (cl != 1) = true := by simp [h1]
          have H1 := Lib.hid h1
          clear h1
          go_wp2
          exact bodyPost_ret (v := valQ (2, 0, ⟨#[]⟩, 0)) (res3Q rfl (filQ_bk Z4.out ⟨#[]⟩ 0) rfl rfl rfl) rfl ⟨by rw [HX.out, if_neg (fun e => H1.out e.2)], filQ_below L4.out (Nat.le_refl _) ⟨#[]⟩ 0⟩
  · have HX := Lib.hid (gq_name hR hc)
    generalize gq l k = X at *
    generalize Jo L = s at *
    have hc' : ((c0 : Int) != 0) = true := by simp; omega
    have hc2 : ¬ (c0 : Int) = 0 := by omega
    clear hs hl hR
    go_enter Tryz.func40, Tryz.ntmps40
    go_wp2_with fail
    refine (GN.out _ L0.out).mono ?_
    rintro e w1 ⟨rfl, hl⟩
    have L1 := Lib.hid (L0.out.trans (hl.mono L0.out.size))
    have Z1 := Lib.hid (Z0.out.below hl Z0.out.lt)
    have N1 := Lib.hid (N0.out.below hl)
    clear hl L0 Z0 N0
    obtain ⟨u0, u1⟩ := N1.out
    obtain ⟨z0, z1⟩ := qx_of Z1.out
    have f0 := Z1.out.free 0
    have f1 := Z1.out.free 1
    go_wp2
    exact bodyPost_ret (v := valQ (c0, 0, ⟨#[]⟩, 0)) (res3Q rfl (filQ_bk Z1.out ⟨#[]⟩ 0) rfl rfl rfl) rfl ⟨by rw [HX.out], filQ_below L1.out (Nat.le_refl _) ⟨#[]⟩ 0⟩
end Go.Proofs.YtkfibepejlgniaaGreatDoor.GetQ

/- What GetHead does in the program and in the model: it reads a header as HeadRd tells, and turns nothing that was there. Condition: at most 400000000 bytes. -/
namespace Go.Proofs.YtkfibepejlgniaaGreatDoor.GetH
open Go.RowKit Go.Proofs.YtkfibepejlgniaaGreatDoor.Mem Go.Proofs.YtkfibepejlgniaaGreatDoor.MemR Go.Proofs.YtkfibepejlgniaaGreatDoor.MemM Go.Proofs.YtkfibepejlgniaaGreatDoor.Get Go.Proofs.YtkfibepejlgniaaGreatDoor.ResR Go.Proofs.YtkfibepejlgniaaGreatDoor.ResM Go.Proofs.YtkfibepejlgniaaGreatDoor.PartI Go.Proofs.YtkfibepejlgniaaGreatDoor.HeadRd

theorem results_cell_tmp4 {fn : Func} {p t u v x : Tmp} {ty : TypeId} (h : fn.results = #[.cell p ty, .tmp t, .tmp u, .tmp v, .tmp x]) (tmps : Array Value) (P : Program) (w : World) :
    (results fn tmps).run P w = ((asAddr (tmps.getD p undef)).run P w).andThen fun a w₁ => ((loadVar ty a).run P w₁).andThen fun y w₂ => .ok (.tuple #[y, tmps.getD t undef, tmps.getD u undef, tmps.getD v undef, tmps.getD x undef]) w₂ := by
  simp only [results, h]
  simp [Sem.run_bind, Result.andThen]
theorem res5M {fn : Func} {p t u v x : Tmp} {w : World} {g : Nat} {tt : TypeId} {h : Hd} {A1 A2 A3 : Option Addr} {n1 c1 n2 c2 n3 c3 : Nat} {a b c d : Value} {tmps : Array Value} (hf : fn.results = #[.cell p 28, .tmp t, .tmp u, .tmp v, .tmp x])
    (k : Bk w g tt (mc h (.slice A1 n1 c1) (.slice A2 n2 c2) (.slice A3 n3 c3))) (h4 : tmps.getD p undef = .pointer (some ⟨g, 0, none⟩)) (e1 : tmps.getD t undef = a) (e2 : tmps.getD u undef = b) (e3 : tmps.getD v undef = c) (e4 : tmps.getD x undef = d) :
    (results fn tmps).run Tryz.prog w = .ok (.tuple #[.agg #[.int .i64 h.id, .bool h.rp, .bool h.au, .bool h.ct, .bool h.wa, .bool h.ca, .int .i64 h.code, .string h.qn, .int .i64 h.qt, .slice A1 n1 c1, .slice A2 n2 c2, .slice A3 n3 c3], a, b, c, d]) w := by
  rw [results_cell_tmp4 hf, h4, as_addr]
  simp only [Result.andThen, load_msg k, e1, e2, e3, e4]
theorem res2M {fn : Func} {p t : Tmp} {w : World} {g : Nat} {tt : TypeId} {h : Hd} {A1 A2 A3 : Option Addr} {n1 c1 n2 c2 n3 c3 : Nat} {a : Value} {tmps : Array Value} (hf : fn.results = #[.cell p 28, .tmp t])
    (k : Bk w g tt (mc h (.slice A1 n1 c1) (.slice A2 n2 c2) (.slice A3 n3 c3))) (h4 : tmps.getD p undef = .pointer (some ⟨g, 0, none⟩)) (e1 : tmps.getD t undef = a) :
    (results fn tmps).run Tryz.prog w = .ok (.tuple #[.agg #[.int .i64 h.id, .bool h.rp, .bool h.au, .bool h.ct, .bool h.wa, .bool h.ca, .int .i64 h.code, .string h.qn, .int .i64 h.qt, .slice A1 n1 c1, .slice A2 n2 c2, .slice A3 n3 c3], a]) w := by
  rw [results_cell_tmp hf, h4, as_addr]
  simp only [Result.andThen, load_msg k, e1]

/-- The program's test for other bits is the model's. -/
theorem not135 (x : Int) (h0 : 0 ≤ x) (h1 : x < 256) : (bits .andNot .u8 x 135 == 0) = !bo x 120 := by
  have key : ∀ y : Fin 256, (bits .andNot .u8 ((y.val : Nat) : Int) 135 == 0) = !bo ((y.val : Nat) : Int) 120 := by decide +kernel
  have := key ⟨x.toNat, by omega⟩
  rw [Int.toNat_of_nonneg h0] at this
  exact this
theorem not143 (x : Int) (h0 : 0 ≤ x) (h1 : x < 256) : (bits .andNot .u8 x 143 == 0) = !bo x 112 := by
  have key : ∀ y : Fin 256, (bits .andNot .u8 ((y.val : Nat) : Int) 143 == 0) = !bo ((y.val : Nat) : Int) 112 := by decide +kernel
  have := key ⟨x.toNat, by omega⟩
  rw [Int.toNat_of_nonneg h0] at this
  exact this
theorem and15_wrap (x : Int) (h0 : 0 ≤ x) (h1 : x < 256) : IntKind.i64.wrap (bits .and .u8 x 15) = bits .and .u8 x 15 := by
  rw [u8_and15 x h0 h1, IntKind.wrap_i64]; omega

set_option maxRecDepth 100000 in
set_option maxHeartbeats 4000000 in
theorem flagsIn (b off : Nat) (l : List UInt8) (w : World) (hs : Sl w w.heap.size (some ⟨b, off, none⟩) 12 l) :
    Calls Tryz.prog 93 #[.slice (some ⟨b, off, none⟩) 12 12] w fun e w' => e = .returned (.tuple #[.agg #[.int .i64 (hdr 0 (by8 l 2) (by8 l 3)).id, .bool (hdr 0 (by8 l 2) (by8 l 3)).rp, .bool (hdr 0 (by8 l 2) (by8 l 3)).au, .bool (hdr 0 (by8 l 2) (by8 l 3)).ct, .bool (hdr 0 (by8 l 2) (by8 l 3)).wa, .bool (hdr 0 (by8 l 2) (by8 l 3)).ca, .int .i64 (hdr 0 (by8 l 2) (by8 l 3)).code, .string (hdr 0 (by8 l 2) (by8 l 3)).qn, .int .i64 (hdr 0 (by8 l 2) (by8 l 3)).qt, .slice none 0 0, .slice none 0 0, .slice none 0 0], .bool (!bo (by8 l 2) 120 && !bo (by8 l 3) 112)]) ∧ Below w.heap.size w w' := by
  have hl := hs.1
  have hs' := hs.below ((Below.refl w.heap.size w).alloc (Nat.le_refl _) (.cells #[.int .i64 0, .bool false, .bool false, .bool false, .bool false, .bool false, .int .i64 0, .string ⟨#[]⟩, .int .i64 0, .slice none 0 0, .slice none 0 0, .slice none 0 0] 28))
  obtain ⟨b', off', e, hb, hc⟩ := hs'.2 (by omega)
  simp only [Option.some.injEq, Addr.mk.injEq, and_true] at e
  obtain ⟨rfl, rfl⟩ := e
  have k2 := hc 2 (by omega)
  have k3 := hc 3 (by omega)
  rw [← by8_at] at k2 k3
  have i2 := by8_in l 2
  have i3 := by8_in l 3
  generalize by8 l 2 = x at *
  generalize by8 l 3 = y at *
  have S0 : (w.alloc (.cells #[.int .i64 0, .bool false, .bool false, .bool false, .bool false, .bool false, .int .i64 0, .string ⟨#[]⟩, .int .i64 0, .slice none 0 0, .slice none 0 0, .slice none 0 0] 28)).cell? ⟨b, off + 2, none⟩ = some (.int .u8 x) ∧ (w.alloc (.cells #[.int .i64 0, .bool false, .bool false, .bool false, .bool false, .bool false, .int .i64 0, .string ⟨#[]⟩, .int .i64 0, .slice none 0 0, .slice none 0 0, .slice none 0 0] 28)).cell? ⟨b, off + 3, none⟩ = some (.int .u8 y) := ⟨k2, k3⟩
  have T1 := Lib.hid (not135 x i2.1 i2.2)
  have T2 := Lib.hid (not143 y i3.1 i3.2)
  have T3 := Lib.hid (and15_wrap y i3.1 i3.2)
  have L0 := Lib.hid ((Below.refl w.heap.size w).alloc (Nat.le_refl _) (.cells #[.int .i64 0, .bool false, .bool false, .bool false, .bool false, .bool false, .int .i64 0, .string ⟨#[]⟩, .int .i64 0, .slice none 0 0, .slice none 0 0, .slice none 0 0] 28))
  have Z0 : Hid (Bk (w.alloc (.cells #[.int .i64 0, .bool false, .bool false, .bool false, .bool false, .bool false, .int .i64 0, .string ⟨#[]⟩, .int .i64 0, .slice none 0 0, .slice none 0 0, .slice none 0 0] 28)) w.heap.size 28 (mc zh (.slice none 0 0) (.slice none 0 0) (.slice none 0 0))) := heap_alloc_new w _
  clear hs hs' hl hc k2 k3 i2 i3 hb
  generalize (!bo x 120) = p at *
  generalize (!bo y 112) = q at *
  cases p
  all_goals
    go_enter Tryz.func93, Tryz.ntmps93
    go_wp2
    go_region_held3 (fun w' => w'.cell? ⟨b, off + 2, none⟩ = some (.int .u8 x) ∧ w'.cell? ⟨b, off + 3, none⟩ = some (.int .u8 y))
      (first | exact S0 | with_reducible assumption | fail)
      (fail)
    rename_i hH
    clear hH
    have L1 : Hid (Below w.heap.size w (w.alloc (.cells #[.int .i64 0, .bool false, .bool false, .bool false, .bool false, .bool false, .int .i64 0, .string ⟨#[]⟩, .int .i64 0, .slice none 0 0, .slice none 0 0, .slice none 0 0] 28)).drew) := L0.out.drew
    have Z1 : Hid (Bk (w.alloc (.cells #[.int .i64 0, .bool false, .bool false, .bool false, .bool false, .bool false, .int .i64 0, .string ⟨#[]⟩, .int .i64 0, .slice none 0 0, .slice none 0 0, .slice none 0 0] 28)).drew w.heap.size 28 (mc zh (.slice none 0 0) (.slice none 0 0) (.slice none 0 0))) := Z0.out
    generalize (w.alloc (.cells #[.int .i64 0, .bool false, .bool false, .bool false, .bool false, .bool false, .int .i64 0, .string ⟨#[]⟩, .int .i64 0, .slice none 0 0, .slice none 0 0, .slice none 0 0] 28)).drew = w1 at *
    have L2 := Lib.hid (L1.out.alloc L1.out.size (.cells #[.int .i64 0, .bool (bits .and .u8 x 128 != 0), .bool (bits .and .u8 x 4 != 0), .bool (bits .and .u8 x 2 != 0), .bool (bits .and .u8 x 1 != 0), .bool (bits .and .u8 y 128 != 0), .int .i64 (bits .and .u8 y 15), .string ⟨#[]⟩, .int .i64 0, .slice none 0 0, .slice none 0 0, .slice none 0 0] 28))
    have Z2 := Lib.hid (Z1.out.alloc (.cells #[.int .i64 0, .bool (bits .and .u8 x 128 != 0), .bool (bits .and .u8 x 4 != 0), .bool (bits .and .u8 x 2 != 0), .bool (bits .and .u8 x 1 != 0), .bool (bits .and .u8 y 128 != 0), .int .i64 (bits .and .u8 y 15), .string ⟨#[]⟩, .int .i64 0, .slice none 0 0, .slice none 0 0, .slice none 0 0] 28))
    have X2 := mx_new w1 28 (hdr 0 x y) (.slice none 0 0) (.slice none 0 0) (.slice none 0 0)
    obtain ⟨z0, z1, z2, z3, z4, z5, z6, z7, z8, z9, z10, z11⟩ := mx_of Z2.out
    have f0 := Z2.out.free 0
    have f1 := Z2.out.free 1
    have f2 := Z2.out.free 2
    have f3 := Z2.out.free 3
    have f4 := Z2.out.free 4
    have f5 := Z2.out.free 5
    have f6 := Z2.out.free 6
    have f7 := Z2.out.free 7
    have f8 := Z2.out.free 8
    have f9 := Z2.out.free 9
    have f10 := Z2.out.free 10
    have f11 := Z2.out.free 11
    have t1 := T1.out
    have t2 := T2.out
    have t3 := T3.out
    clear T1 T2 T3
    go_wp2
    exact bodyPost_ret (v := .tuple #[.agg #[.int .i64 (hdr 0 x y).id, .bool (hdr 0 x y).rp, .bool (hdr 0 x y).au, .bool (hdr 0 x y).ct, .bool (hdr 0 x y).wa, .bool (hdr 0 x y).ca, .int .i64 (hdr 0 x y).code, .string (hdr 0 x y).qn, .int .i64 (hdr 0 x y).qt, .slice none 0 0, .slice none 0 0, .slice none 0 0], _]) (res2M rfl (filM_bk Z2.out (hdr 0 x y) (.slice none 0 0) (.slice none 0 0) (.slice none 0 0)) rfl rfl) rfl ⟨by first | rfl | simp, filM_below L2.out (Nat.le_refl _) (hdr 0 x y) (.slice none 0 0) (.slice none 0 0) (.slice none 0 0)⟩
end Go.Proofs.YtkfibepejlgniaaGreatDoor.GetH

/- What the program's GetHead does: it reads a header as HeadRd tells, and turns nothing that was there. Condition: at most 400000000 bytes. -/
namespace Go.Proofs.YtkfibepejlgniaaGreatDoor.GetHI
open Go.RowKit Go.Proofs.YtkfibepejlgniaaGreatDoor.Mem Go.Proofs.YtkfibepejlgniaaGreatDoor.MemR Go.Proofs.YtkfibepejlgniaaGreatDoor.MemM Go.Proofs.YtkfibepejlgniaaGreatDoor.Get Go.Proofs.YtkfibepejlgniaaGreatDoor.ResR Go.Proofs.YtkfibepejlgniaaGreatDoor.ResM Go.Proofs.YtkfibepejlgniaaGreatDoor.PartI Go.Proofs.YtkfibepejlgniaaGreatDoor.HeadRd Go.Proofs.YtkfibepejlgniaaGreatDoor.GetH

theorem by8_take (l : List UInt8) (k m : Nat) (h : k < m) : by8 ((l.drop 0).take m) k = by8 l k := by
  unfold by8
  rw [List.drop_zero, List.getD_eq_getElem?_getD, List.getD_eq_getElem?_getD, List.getElem?_take_of_lt h]
/-- The head without its Id; an Id put into a head. -/
def HH (l : List UInt8) : Hd := hdr 0 (by8 l 2) (by8 l 3)
def wi (h : Hd) (q : Int) : Hd := { h with id := q }
theorem wi_HH (l : List UInt8) (q : Int) : wi (HH l) q = hdr q (by8 l 2) (by8 l 3) := rfl
/-- What GetHead hands back. -/
def valH (l : List UInt8) : Value := .tuple #[.agg #[.int .i64 (ghh l).id, .bool (ghh l).rp, .bool (ghh l).au, .bool (ghh l).ct, .bool (ghh l).wa, .bool (ghh l).ca, .int .i64 (ghh l).code, .string (ghh l).qn, .int .i64 (ghh l).qt, .slice none 0 0, .slice none 0 0, .slice none 0 0], .int .i64 (ghn l 6), .int .i64 (ghn l 8), .int .i64 (ghn l 10), .bool (ghb l)]
def valZ : Value := .tuple #[.agg #[.int .i64 zh.id, .bool zh.rp, .bool zh.au, .bool zh.ct, .bool zh.wa, .bool zh.ca, .int .i64 zh.code, .string zh.qn, .int .i64 zh.qt, .slice none 0 0, .slice none 0 0, .slice none 0 0], .int .i64 0, .int .i64 0, .int .i64 0, .bool false]
theorem valH_not {l : List UInt8} (h : ghb l = false) : valH l = valZ := by
  unfold valH valZ
  rw [ghh_not h, ghn_not h, ghn_not h, ghn_not h, h]
theorem valH_yes {l : List UInt8} (h : ghb l = true) : valH l = .tuple #[.agg #[.int .i64 (wi (HH l) (b2 l 0)).id, .bool (wi (HH l) (b2 l 0)).rp, .bool (wi (HH l) (b2 l 0)).au, .bool (wi (HH l) (b2 l 0)).ct, .bool (wi (HH l) (b2 l 0)).wa, .bool (wi (HH l) (b2 l 0)).ca, .int .i64 (wi (HH l) (b2 l 0)).code, .string (wi (HH l) (b2 l 0)).qn, .int .i64 (wi (HH l) (b2 l 0)).qt, .slice none 0 0, .slice none 0 0, .slice none 0 0], .int .i64 (b2 l 6), .int .i64 (b2 l 8), .int .i64 (b2 l 10), .bool true] := by
  unfold valH
  rw [ghh_yes h, ghn_yes h, ghn_yes h, ghn_yes h, h, wi_HH]

set_option maxRecDepth 100000 in
set_option maxHeartbeats 8000000 in
theorem impl (A : Option Addr) (n c : Nat) (l : List UInt8) (w : World) (hs : Sl w w.heap.size A n l) (hnc : n ≤ c) (hn : n ≤ 400000000) :
    Calls Tryz.prog 35 #[.slice A n c] w fun e w' => e = .returned (valH l) ∧ Below w.heap.size w w' := by
  have hl := hs.1
  have L0 := Lib.hid ((Below.refl w.heap.size w).alloc (Nat.le_refl _) (.cells #[.int .i64 0, .bool false, .bool false, .bool false, .bool false, .bool false, .int .i64 0, .string ⟨#[]⟩, .int .i64 0, .slice none 0 0, .slice none 0 0, .slice none 0 0] 28))
  have Z0 : Hid (Bk (w.alloc (.cells #[.int .i64 0, .bool false, .bool false, .bool false, .bool false, .bool false, .int .i64 0, .string ⟨#[]⟩, .int .i64 0, .slice none 0 0, .slice none 0 0, .slice none 0 0] 28)) w.heap.size 28 (mc zh (.slice none 0 0) (.slice none 0 0) (.slice none 0 0))) := heap_alloc_new w _
  by_cases h12 : 12 ≤ n
  · obtain ⟨b, off, rfl, hb, hcs⟩ := hs.2 (by omega)
    have PY : Hid (∀ W, Calls Tryz.prog 92 #[.slice (some ⟨b, off, none⟩) n c, .int .i64 0, .int .i64 12] W fun e w' => e = .returned (.tuple #[.slice (some ⟨b, off, none⟩) 12 12, .bool true]) ∧ W = w') := fun W => part_yes b off n c 0 12 W hnc hn (by omega) (by decide)
    have FI : Hid (∀ W, Below w.heap.size w W → Calls Tryz.prog 93 #[.slice (some ⟨b, off, none⟩) 12 12] W fun e w' => e = .returned (.tuple #[.agg #[.int .i64 (HH l).id, .bool (HH l).rp, .bool (HH l).au, .bool (HH l).ct, .bool (HH l).wa, .bool (HH l).ca, .int .i64 (HH l).code, .string (HH l).qn, .int .i64 (HH l).qt, .slice none 0 0, .slice none 0 0, .slice none 0 0], .bool (!bo (by8 l 2) 120 && !bo (by8 l 3) 112)]) ∧ Below W.heap.size W w') := fun W hW => by
      have := flagsIn b off ((l.drop 0).take 12) W ((sl_sub (hs.below hW) 0 12 (by omega) (by omega)).wider hW.size)
      rw [by8_take l 2 12 (by decide), by8_take l 3 12 (by decide)] at this
      exact this
    have G2 : Hid (∀ (j : Nat) (W : World), j + 2 ≤ 12 → Below w.heap.size w W → Calls Tryz.prog 94 #[.slice (some ⟨b, off, none⟩) 12 12, .int .i64 (j : Int)] W fun e w' => e = .returned (.tuple #[.int .i64 (b2 l j), .bool true]) ∧ W = w') := fun j W hj hW => by
      have := implGet2_yes (some ⟨b, off, none⟩) 12 12 ((l.drop 0).take 12) W _ j (sl_sub (hs.below hW) 0 12 (by omega) (by omega)) (by omega) (by omega) (by rw [List.length_take, List.length_drop]; omega)
      rw [sub2 l 0 12 j hj, Nat.zero_add] at this
      exact this
    have HV1 := Lib.hid (fun (h : (!bo (by8 l 2) 120 && !bo (by8 l 3) 112) = false) => valH_not (l := l) (ghb_not (fun e => by rw [e.2.1, e.2.2.1] at h; cases h)))
    have HV2 := Lib.hid (fun (h : ¬ b2 l 4 = 1) => valH_not (l := l) (ghb_not (fun e => h e.2.2.2)))
    have HV3 := Lib.hid (fun (h : (!bo (by8 l 2) 120 && !bo (by8 l 3) 112) = true) (h4 : b2 l 4 = 1) => valH_yes (l := l) (by
      simp only [Bool.and_eq_true, Bool.not_eq_true'] at h
      exact ghb_of (by omega) h.1 h.2 h4))
    have g0 := Lib.hid (fun W => G2.out 0 W (by decide))
    have g4 := Lib.hid (fun W => G2.out 4 W (by decide))
    have g6 := Lib.hid (fun W => G2.out 6 W (by decide))
    have g8 := Lib.hid (fun W => G2.out 8 W (by decide))
    have g10 := Lib.hid (fun W => G2.out 10 W (by decide))
    clear hs hl hcs hb G2 hnc
    generalize valH l = VV at *
    generalize HH l = H at *
    generalize by8 l 2 = x at *
    generalize by8 l 3 = y at *
    generalize b2 l 0 = q0 at *
    generalize b2 l 4 = q4 at *
    generalize b2 l 6 = q6 at *
    generalize b2 l 8 = q8 at *
    generalize b2 l 10 = q10 at *
    generalize (!bo x 120 && !bo y 112) = ok at *
    go_enter Tryz.func35, Tryz.ntmps35
    go_wp2_with fail
    refine (PY.out _).mono ?_
    rintro e w1 ⟨rfl, rfl⟩
    go_wp2_with fail
    refine (FI.out _ L0.out).mono ?_
    rintro e w1 ⟨rfl, hl⟩
    have L1' := L0.out.trans (hl.mono L0.out.size)
    have L1 := Lib.hid (L1'.alloc L1'.size (.cells #[.int .i64 H.id, .bool H.rp, .bool H.au, .bool H.ct, .bool H.wa, .bool H.ca, .int .i64 H.code, .string H.qn, .int .i64 H.qt, .slice none 0 0, .slice none 0 0, .slice none 0 0] 28))
    have Z1 := Lib.hid ((Z0.out.below hl Z0.out.lt).alloc (.cells #[.int .i64 H.id, .bool H.rp, .bool H.au, .bool H.ct, .bool H.wa, .bool H.ca, .int .i64 H.code, .string H.qn, .int .i64 H.qt, .slice none 0 0, .slice none 0 0, .slice none 0 0] 28))
    have X1 : Hid (Bk (w1.alloc (.cells #[.int .i64 H.id, .bool H.rp, .bool H.au, .bool H.ct, .bool H.wa, .bool H.ca, .int .i64 H.code, .string H.qn, .int .i64 H.qt, .slice none 0 0, .slice none 0 0, .slice none 0 0] 28)) w1.heap.size 28 (mc (H) (.slice none 0 0) (.slice none 0 0) (.slice none 0 0))) := heap_alloc_new w1 _
    have NE : Hid (w.heap.size < w1.heap.size) := Nat.lt_of_lt_of_le Z0.out.lt hl.size
    clear hl L1' L0 Z0 PY FI
    go_wp2_with fail
    refine (g4.out _ L1.out).mono ?_
    rintro e w2 ⟨rfl, rfl⟩
    generalize hw2 : w1.alloc (.cells #[.int .i64 H.id, .bool H.rp, .bool H.au, .bool H.ct, .bool H.wa, .bool H.ca, .int .i64 H.code, .string H.qn, .int .i64 H.qt, .slice none 0 0, .slice none 0 0, .slice none 0 0] 28) = w2 at *
    clear hw2
    generalize w1.heap.size = gx at *
    obtain ⟨z0, z1, z2, z3, z4, z5, z6, z7, z8, z9, z10, z11⟩ := mx_of Z1.out
    have f0 := Z1.out.free 0
    have f1 := Z1.out.free 1
    have f2 := Z1.out.free 2
    have f3 := Z1.out.free 3
    have f4 := Z1.out.free 4
    have f5 := Z1.out.free 5
    have f6 := Z1.out.free 6
    have f7 := Z1.out.free 7
    have f8 := Z1.out.free 8
    have f9 := Z1.out.free 9
    have f10 := Z1.out.free 10
    have f11 := Z1.out.free 11
    cases ok
    · have HV := Lib.hid (HV1.out rfl)
      clear HV1 HV2 HV3
      go_wp2
      exact bodyPost_ret (v := .tuple #[.agg #[.int .i64 zh.id, .bool zh.rp, .bool zh.au, .bool zh.ct, .bool zh.wa, .bool zh.ca, .int .i64 zh.code, .string zh.qn, .int .i64 zh.qt, .slice none 0 0, .slice none 0 0, .slice none 0 0], .int .i64 0, .int .i64 0, .int .i64 0, .bool false]) (res5M rfl (filM_bk Z1.out (zh) (.slice none 0 0) (.slice none 0 0) (.slice none 0 0)) rfl rfl rfl rfl rfl) rfl ⟨by rw [HV.out]; rfl, filM_below L1.out (Nat.le_refl _) (zh) (.slice none 0 0) (.slice none 0 0) (.slice none 0 0)⟩
    · by_cases h1 : q4 = 1
      · have h1' : (q4 != 1) = false := by rw [h1]; rfl
        have HV := Lib.hid (HV3.out rfl h1)
        clear HV1 HV2 HV3
        clear z0 z1 z2 z3 z4 z5 z6 z7 z8 z9 z10 z11 f0 f1 f2 f3 f4 f5 f6 f7 f8 f9 f10 f11
        have fx := X1.out.free 0
        have cx := X1.out.cell 0
        go_wp2_with fail
        refine (g0.out _ L1.out).mono ?_
        rintro e w2' ⟨rfl, rfl⟩
        have L2 : Hid (Below w.heap.size w (w2.setCell ⟨gx, 0, none⟩ (.int .i64 q0))) := L1.out.setCell (Nat.le_of_lt NE.out) _
        have X2 : Hid (Bk (w2.setCell ⟨gx, 0, none⟩ (.int .i64 q0)) gx 28 (mc (wi H q0) (.slice none 0 0) (.slice none 0 0) (.slice none 0 0))) := X1.out.set 0 (.int .i64 q0)
        have Z2 : Hid (Bk (w2.setCell ⟨gx, 0, none⟩ (.int .i64 q0)) w.heap.size 28 (mc zh (.slice none 0 0) (.slice none 0 0) (.slice none 0 0))) := Z1.out.other (fun e => by have := NE.out; exact absurd e (Nat.ne_of_lt this)) _
        clear L1 X1 Z1
        go_wp2_with fail
        clear fx cx
        refine (g6.out _ L2.out).mono ?_
        rintro e w2' ⟨rfl, rfl⟩
        generalize (w2.setCell ⟨gx, 0, none⟩ (.int .i64 q0)) = w3 at *
        go_wp2_with fail
        refine (g8.out _ L2.out).mono ?_
        rintro e w2' ⟨rfl, rfl⟩
        go_wp2_with fail
        refine (g10.out _ L2.out).mono ?_
        rintro e w2' ⟨rfl, rfl⟩
        obtain ⟨z0, z1, z2, z3, z4, z5, z6, z7, z8, z9, z10, z11⟩ := mx_of Z2.out
        have f0 := Z2.out.free 0
        have f1 := Z2.out.free 1
        have f2 := Z2.out.free 2
        have f3 := Z2.out.free 3
        have f4 := Z2.out.free 4
        have f5 := Z2.out.free 5
        have f6 := Z2.out.free 6
        have f7 := Z2.out.free 7
        have f8 := Z2.out.free 8
        have f9 := Z2.out.free 9
        have f10 := Z2.out.free 10
        have f11 := Z2.out.free 11
        obtain ⟨y0, y1, y2, y3, y4, y5, y6, y7, y8, y9, y10, y11⟩ := mx_of X2.out
        go_wp2
        exact bodyPost_ret (v := .tuple #[.agg #[.int .i64 (wi H q0).id, .bool (wi H q0).rp, .bool (wi H q0).au, .bool (wi H q0).ct, .bool (wi H q0).wa, .bool (wi H q0).ca, .int .i64 (wi H q0).code, .string (wi H q0).qn, .int .i64 (wi H q0).qt, .slice none 0 0, .slice none 0 0, .slice none 0 0], .int .i64 q6, .int .i64 q8, .int .i64 q10, .bool true]) (res5M rfl (filM_bk Z2.out (wi H q0) (.slice none 0 0) (.slice none 0 0) (.slice none 0 0)) rfl rfl rfl rfl rfl) rfl ⟨by rw [HV.out], filM_below L2.out (Nat.le_refl _) (wi H q0) (.slice none 0 0) (.slice none 0 0) (.slice none 0 0)⟩
      · have h1' : (q4 != 1) = true := by simp [h1]
        have HV := Lib.hid (HV2.out h1)
        clear HV1 HV2 HV3
        go_wp2
        exact bodyPost_ret (v := .tuple #[.agg #[.int .i64 zh.id, .bool zh.rp, .bool zh.au, .bool zh.ct, .bool zh.wa, .bool zh.ca, .int .i64 zh.code, .string zh.qn, .int .i64 zh.qt, .slice none 0 0, .slice none 0 0, .slice none 0 0], .int .i64 0, .int .i64 0, .int .i64 0, .bool false]) (res5M rfl (filM_bk Z1.out (zh) (.slice none 0 0) (.slice none 0 0) (.slice none 0 0)) rfl rfl rfl rfl rfl) rfl ⟨by rw [HV.out]; rfl, filM_below L1.out (Nat.le_refl _) (zh) (.slice none 0 0) (.slice none 0 0) (.slice none 0 0)⟩
  · have HV := Lib.hid (valH_not (l := l) (ghb_not (fun e => by omega)))
    generalize valH l = VV at *
    clear hs hl
    go_enter Tryz.func35, Tryz.ntmps35
    go_wp2_with fail
    refine (part_no A n c 12 0 _ hn (by decide) (by omega)).mono ?_
    rintro e w1 ⟨rfl, rfl⟩
    generalize w.alloc (.cells #[.int .i64 0, .bool false, .bool false, .bool false, .bool false, .bool false, .int .i64 0, .string ⟨#[]⟩, .int .i64 0, .slice none 0 0, .slice none 0 0, .slice none 0 0] 28) = w1 at *
    obtain ⟨z0, z1, z2, z3, z4, z5, z6, z7, z8, z9, z10, z11⟩ := mx_of Z0.out
    have f0 := Z0.out.free 0
    have f1 := Z0.out.free 1
    have f2 := Z0.out.free 2
    have f3 := Z0.out.free 3
    have f4 := Z0.out.free 4
    have f5 := Z0.out.free 5
    have f6 := Z0.out.free 6
    have f7 := Z0.out.free 7
    have f8 := Z0.out.free 8
    have f9 := Z0.out.free 9
    have f10 := Z0.out.free 10
    have f11 := Z0.out.free 11
    go_wp2
    exact bodyPost_ret (v := .tuple #[.agg #[.int .i64 zh.id, .bool zh.rp, .bool zh.au, .bool zh.ct, .bool zh.wa, .bool zh.ca, .int .i64 zh.code, .string zh.qn, .int .i64 zh.qt, .slice none 0 0, .slice none 0 0, .slice none 0 0], .int .i64 0, .int .i64 0, .int .i64 0, .bool false]) (res5M rfl (filM_bk Z0.out (zh) (.slice none 0 0) (.slice none 0 0) (.slice none 0 0)) rfl rfl rfl rfl rfl) rfl ⟨by rw [HV.out]; rfl, filM_below L0.out (Nat.le_refl _) (zh) (.slice none 0 0) (.slice none 0 0) (.slice none 0 0)⟩
end Go.Proofs.YtkfibepejlgniaaGreatDoor.GetHI

/- What the model's GetHead does: it reads a header as HeadRd tells, and turns nothing that was there. Condition: at most 400000000 bytes. -/
namespace Go.Proofs.YtkfibepejlgniaaGreatDoor.GetHS
open Go.RowKit Go.Proofs.YtkfibepejlgniaaGreatDoor.Mem Go.Proofs.YtkfibepejlgniaaGreatDoor.MemR Go.Proofs.YtkfibepejlgniaaGreatDoor.MemM Go.Proofs.YtkfibepejlgniaaGreatDoor.Get Go.Proofs.YtkfibepejlgniaaGreatDoor.ResR Go.Proofs.YtkfibepejlgniaaGreatDoor.ResM Go.Proofs.YtkfibepejlgniaaGreatDoor.PartI Go.Proofs.YtkfibepejlgniaaGreatDoor.HeadRd Go.Proofs.YtkfibepejlgniaaGreatDoor.GetH Go.Proofs.YtkfibepejlgniaaGreatDoor.GetHI

theorem two_on {w w' : World} {p q : Addr} {u v : Value} (h : w.cell? p = some u ∧ w.cell? q = some v) (hb : Below w.heap.size w w') : w'.cell? p = some u ∧ w'.cell? q = some v :=
  ⟨(hb.cell (World.block_lt_of_cell? _ _ h.1)).trans h.1, (hb.cell (World.block_lt_of_cell? _ _ h.2)).trans h.2⟩

set_option maxRecDepth 100000 in
set_option maxHeartbeats 8000000 in
theorem spec (A : Option Addr) (n c : Nat) (l : List UInt8) (w : World) (hs : Sl w w.heap.size A n l) (_hnc : n ≤ c) (hn : n ≤ 400000000) :
    Calls Tryz.prog 42 #[.slice A n c] w fun e w' => e = .returned (valH l) ∧ Below w.heap.size w w' := by
  have hl := hs.1
  have L0 := Lib.hid ((Below.refl w.heap.size w).alloc (Nat.le_refl _) (.cells #[.int .i64 0, .bool false, .bool false, .bool false, .bool false, .bool false, .int .i64 0, .string ⟨#[]⟩, .int .i64 0, .slice none 0 0, .slice none 0 0, .slice none 0 0] 28))
  have Z0 : Hid (Bk (w.alloc (.cells #[.int .i64 0, .bool false, .bool false, .bool false, .bool false, .bool false, .int .i64 0, .string ⟨#[]⟩, .int .i64 0, .slice none 0 0, .slice none 0 0, .slice none 0 0] 28)) w.heap.size 28 (mc zh (.slice none 0 0) (.slice none 0 0) (.slice none 0 0))) := heap_alloc_new w _
  by_cases h12 : 12 ≤ n
  · obtain ⟨b, off, rfl, hb, hcs⟩ := hs.2 (by omega)
    have CS : Hid (∀ W, Below w.heap.size w W → W.cell? ⟨b, off + 2, none⟩ = some (.int .u8 (by8 l 2)) ∧ W.cell? ⟨b, off + 3, none⟩ = some (.int .u8 (by8 l 3))) := fun W hW => by
      have k2 := hcs 2 (by omega)
      have k3 := hcs 3 (by omega)
      rw [← by8_at] at k2 k3
      exact ⟨(hW.cell (p := ⟨b, off + 2, none⟩) hb).trans k2, (hW.cell (p := ⟨b, off + 3, none⟩) hb).trans k3⟩
    have G2 : Hid (∀ (j : Nat) (W : World), j + 2 ≤ 12 → Below w.heap.size w W → Calls Tryz.prog 100 #[.slice (some ⟨b, off, none⟩) n c, .int .i64 (j : Int)] W fun e w' => e = .returned (.tuple #[.int .i64 (b2 l j), .bool true]) ∧ Below W.heap.size W w') := fun j W hj hW =>
      (specGet2_yes (some ⟨b, off, none⟩) n c l W _ j (hs.below hW) hn (by omega)).mono fun e w' ⟨h1, q', h2⟩ => ⟨h1, h2 ▸ drewN_below W q' _⟩
    have HV1 := Lib.hid (fun (h : bo (by8 l 2) 120 = true) => valH_not (l := l) (ghb_not (fun e => by rw [e.2.1] at h; cases h)))
    have HV1' := Lib.hid (fun (h : bo (by8 l 3) 112 = true) => valH_not (l := l) (ghb_not (fun e => by rw [e.2.2.1] at h; cases h)))
    have HV2 := Lib.hid (fun (h : ¬ b2 l 4 = 1) => valH_not (l := l) (ghb_not (fun e => h e.2.2.2)))
    have HV3 := Lib.hid (fun (h : bo (by8 l 2) 120 = false) (h' : bo (by8 l 3) 112 = false) (h4 : b2 l 4 = 1) => valH_yes (l := l) (ghb_of (by omega) h h' h4))
    have HQ : Hid (∀ q, wi (HH l) q = hdr q (by8 l 2) (by8 l 3)) := wi_HH l
    have T3 := Lib.hid (and15_wrap (by8 l 3) (by8_in l 3).1 (by8_in l 3).2)
    have g0 := Lib.hid (fun W => G2.out 0 W (by decide))
    have g4 := Lib.hid (fun W => G2.out 4 W (by decide))
    have g6 := Lib.hid (fun W => G2.out 6 W (by decide))
    have g8 := Lib.hid (fun W => G2.out 8 W (by decide))
    have g10 := Lib.hid (fun W => G2.out 10 W (by decide))
    have P1 : Hid (bo (by8 l 2) 120 = (bits .and .u8 (by8 l 2) 120 != 0)) := rfl
    have P2 : Hid (bo (by8 l 3) 112 = (bits .and .u8 (by8 l 3) 112 != 0)) := rfl
    clear hs hl hcs hb G2
    generalize valH l = VV at *
    generalize HH l = H at *
    generalize by8 l 2 = x at *
    generalize by8 l 3 = y at *
    generalize b2 l 0 = q0 at *
    generalize b2 l 4 = q4 at *
    generalize b2 l 6 = q6 at *
    generalize b2 l 8 = q8 at *
    generalize b2 l 10 = q10 at *
    obtain ⟨c2, c3⟩ := CS.out _ L0.out
    generalize bo x 120 = p at *
    generalize bo y 112 = q at *
    have n12 : ¬ (n : Int) < 12 := by omega
    have i2 : ¬ n ≤ 2 := by omega
    have i3 : ¬ n ≤ 3 := by omega
    have j2 : 2 < n := by omega
    have j3 : 3 < n := by omega
    have k2 : (2 : Int) < (n : Int) := by omega
    have k3 : (3 : Int) < (n : Int) := by omega
    cases p
    case true =>
      have HV := Lib.hid (HV1.out rfl)
      have p1 := P1.out.symm
      clear HV1 HV1' HV2 HV3 P1 P2 T3
      go_enter Tryz.func42, Tryz.ntmps42
      go_upto_region 1 with (fail)
      generalize (w.alloc (.cells #[.int .i64 0, .bool false, .bool false, .bool false, .bool false, .bool false, .int .i64 0, .string ⟨#[]⟩, .int .i64 0, .slice none 0 0, .slice none 0 0, .slice none 0 0] 28)) = w1 at *
      obtain ⟨z0, z1, z2, z3, z4, z5, z6, z7, z8, z9, z10, z11⟩ := mx_of Z0.out
      have f0 := Z0.out.free 0
      have f1 := Z0.out.free 1
      have f2 := Z0.out.free 2
      have f3 := Z0.out.free 3
      have f4 := Z0.out.free 4
      have f5 := Z0.out.free 5
      have f6 := Z0.out.free 6
      have f7 := Z0.out.free 7
      have f8 := Z0.out.free 8
      have f9 := Z0.out.free 9
      have f10 := Z0.out.free 10
      have f11 := Z0.out.free 11
      go_wp2
      exact bodyPost_ret (v := .tuple #[.agg #[.int .i64 zh.id, .bool zh.rp, .bool zh.au, .bool zh.ct, .bool zh.wa, .bool zh.ca, .int .i64 zh.code, .string zh.qn, .int .i64 zh.qt, .slice none 0 0, .slice none 0 0, .slice none 0 0], .int .i64 0, .int .i64 0, .int .i64 0, .bool false]) (res5M rfl (filM_bk Z0.out zh (.slice none 0 0) (.slice none 0 0) (.slice none 0 0)) rfl rfl rfl rfl rfl) rfl ⟨by rw [HV.out]; rfl, filM_below L0.out (Nat.le_refl _) zh (.slice none 0 0) (.slice none 0 0) (.slice none 0 0)⟩
    cases q
    case true =>
      have HV := Lib.hid (HV1'.out rfl)
      have p1 := P1.out.symm
      have p2 := P2.out.symm
      clear HV1 HV1' HV2 HV3 P1 P2 T3
      go_enter Tryz.func42, Tryz.ntmps42
      go_upto_region 1 with (fail)
      generalize (w.alloc (.cells #[.int .i64 0, .bool false, .bool false, .bool false, .bool false, .bool false, .int .i64 0, .string ⟨#[]⟩, .int .i64 0, .slice none 0 0, .slice none 0 0, .slice none 0 0] 28)) = w1 at *
      obtain ⟨z0, z1, z2, z3, z4, z5, z6, z7, z8, z9, z10, z11⟩ := mx_of Z0.out
      have f0 := Z0.out.free 0
      have f1 := Z0.out.free 1
      have f2 := Z0.out.free 2
      have f3 := Z0.out.free 3
      have f4 := Z0.out.free 4
      have f5 := Z0.out.free 5
      have f6 := Z0.out.free 6
      have f7 := Z0.out.free 7
      have f8 := Z0.out.free 8
      have f9 := Z0.out.free 9
      have f10 := Z0.out.free 10
      have f11 := Z0.out.free 11
      go_wp2
      exact bodyPost_ret (v := .tuple #[.agg #[.int .i64 zh.id, .bool zh.rp, .bool zh.au, .bool zh.ct, .bool zh.wa, .bool zh.ca, .int .i64 zh.code, .string zh.qn, .int .i64 zh.qt, .slice none 0 0, .slice none 0 0, .slice none 0 0], .int .i64 0, .int .i64 0, .int .i64 0, .bool false]) (res5M rfl (filM_bk Z0.out zh (.slice none 0 0) (.slice none 0 0) (.slice none 0 0)) rfl rfl rfl rfl rfl) rfl ⟨by rw [HV.out]; rfl, filM_below L0.out (Nat.le_refl _) zh (.slice none 0 0) (.slice none 0 0) (.slice none 0 0)⟩
    have p1 := P1.out.symm
    have p2 := P2.out.symm
    have HV3' := Lib.hid (HV3.out rfl rfl)
    clear HV1 HV1' HV3 P1 P2
    go_enter Tryz.func42, Tryz.ntmps42
    go_upto_region 1 with (fail)
    generalize hw : (w.alloc (.cells #[.int .i64 0, .bool false, .bool false, .bool false, .bool false, .bool false, .int .i64 0, .string ⟨#[]⟩, .int .i64 0, .slice none 0 0, .slice none 0 0, .slice none 0 0] 28)) = w1 at *
    clear hw
    have L1 := Lib.hid L0.out
    have Z1 := Lib.hid Z0.out
    clear L0 Z0
    go_wp2_with fail
    refine (g0.out _ L1.out).mono ?_
    rintro e w2 ⟨rfl, hl⟩
    have L2 := Lib.hid (L1.out.trans (hl.mono L1.out.size))
    have Z2 := Lib.hid (Z1.out.below hl Z1.out.lt)
    clear hl L1 Z1 c2 c3 p1 p2 n12
    go_wp2_with fail
    refine (g4.out _ L2.out).mono ?_
    rintro e w3 ⟨rfl, hl⟩
    have L3 := Lib.hid (L2.out.trans (hl.mono L2.out.size))
    have Z3 := Lib.hid (Z2.out.below hl Z2.out.lt)
    clear hl L2 Z2
    go_wp2_with fail
    refine (g6.out _ L3.out).mono ?_
    rintro e w4 ⟨rfl, hl⟩
    have L4 := Lib.hid (L3.out.trans (hl.mono L3.out.size))
    have Z4 := Lib.hid (Z3.out.below hl Z3.out.lt)
    clear hl L3 Z3
    go_wp2_with fail
    refine (g8.out _ L4.out).mono ?_
    rintro e w5 ⟨rfl, hl⟩
    have L5 := Lib.hid (L4.out.trans (hl.mono L4.out.size))
    have Z5 := Lib.hid (Z4.out.below hl Z4.out.lt)
    clear hl L4 Z4
    go_wp2_with fail
    refine (g10.out _ L5.out).mono ?_
    rintro e w6 ⟨rfl, hl⟩
    have L6 := Lib.hid (L5.out.trans (hl.mono L5.out.size))
    have Z6 := Lib.hid (Z5.out.below hl Z5.out.lt)
    clear hl L5 Z5
    by_cases h1 : q4 = 1
    · have h1' : (q4 != 1) = false := by rw [h1]; rfl
      have hv := HV3'.out h1
      rw [HQ.out] at hv
      have HV := Lib.hid hv
      clear hv
      have S6 := CS.out w6 L6.out
      have t3 := T3.out
      clear HV2 HV3' T3
      go_wp2
      go_region_held3 (fun w' => w'.cell? ⟨b, off + 2, none⟩ = some (.int .u8 x) ∧ w'.cell? ⟨b, off + 3, none⟩ = some (.int .u8 y))
        (first | exact S6 | with_reducible assumption | exact two_on S6 (((Below.refl _ _).alloc (Nat.le_refl _) _).drew) | fail)
        (fail)
      rename_i hH
      clear hH S6 t3
      have L7 : Hid (Below w.heap.size w (w6.alloc (.cells #[.int .i64 q0, .bool (bits .and .u8 x 128 != 0), .bool (bits .and .u8 x 4 != 0), .bool (bits .and .u8 x 2 != 0), .bool (bits .and .u8 x 1 != 0), .bool (bits .and .u8 y 128 != 0), .int .i64 (bits .and .u8 y 15), .string ⟨#[]⟩, .int .i64 0, .slice none 0 0, .slice none 0 0, .slice none 0 0] 28)).drew) := (L6.out.alloc L6.out.size _).drew
      have Z7 : Hid (Bk (w6.alloc (.cells #[.int .i64 q0, .bool (bits .and .u8 x 128 != 0), .bool (bits .and .u8 x 4 != 0), .bool (bits .and .u8 x 2 != 0), .bool (bits .and .u8 x 1 != 0), .bool (bits .and .u8 y 128 != 0), .int .i64 (bits .and .u8 y 15), .string ⟨#[]⟩, .int .i64 0, .slice none 0 0, .slice none 0 0, .slice none 0 0] 28)).drew w.heap.size 28 (mc zh (.slice none 0 0) (.slice none 0 0) (.slice none 0 0))) := Z6.out.alloc _
      have X7 : Hid (Bk (w6.alloc (.cells #[.int .i64 q0, .bool (bits .and .u8 x 128 != 0), .bool (bits .and .u8 x 4 != 0), .bool (bits .and .u8 x 2 != 0), .bool (bits .and .u8 x 1 != 0), .bool (bits .and .u8 y 128 != 0), .int .i64 (bits .and .u8 y 15), .string ⟨#[]⟩, .int .i64 0, .slice none 0 0, .slice none 0 0, .slice none 0 0] 28)).drew w6.heap.size 28 (mc (hdr q0 x y) (.slice none 0 0) (.slice none 0 0) (.slice none 0 0))) := heap_alloc_new w6 _
      clear L6 Z6
      generalize hw7 : (w6.alloc (.cells #[.int .i64 q0, .bool (bits .and .u8 x 128 != 0), .bool (bits .and .u8 x 4 != 0), .bool (bits .and .u8 x 2 != 0), .bool (bits .and .u8 x 1 != 0), .bool (bits .and .u8 y 128 != 0), .int .i64 (bits .and .u8 y 15), .string ⟨#[]⟩, .int .i64 0, .slice none 0 0, .slice none 0 0, .slice none 0 0] 28)).drew = w7 at *
      clear hw7
      generalize w6.heap.size = gx at *
      generalize hdr q0 x y = G at *
      obtain ⟨z0, z1, z2, z3, z4, z5, z6, z7, z8, z9, z10, z11⟩ := mx_of Z7.out
      have f0 := Z7.out.free 0
      have f1 := Z7.out.free 1
      have f2 := Z7.out.free 2
      have f3 := Z7.out.free 3
      have f4 := Z7.out.free 4
      have f5 := Z7.out.free 5
      have f6 := Z7.out.free 6
      have f7 := Z7.out.free 7
      have f8 := Z7.out.free 8
      have f9 := Z7.out.free 9
      have f10 := Z7.out.free 10
      have f11 := Z7.out.free 11
      obtain ⟨y0, y1, y2, y3, y4, y5, y6, y7, y8, y9, y10, y11⟩ := mx_of X7.out
      go_wp2
      exact bodyPost_ret (v := .tuple #[.agg #[.int .i64 G.id, .bool G.rp, .bool G.au, .bool G.ct, .bool G.wa, .bool G.ca, .int .i64 G.code, .string G.qn, .int .i64 G.qt, .slice none 0 0, .slice none 0 0, .slice none 0 0], .int .i64 q6, .int .i64 q8, .int .i64 q10, .bool true]) (res5M rfl (filM_bk Z7.out G (.slice none 0 0) (.slice none 0 0) (.slice none 0 0)) rfl rfl rfl rfl rfl) rfl ⟨by rw [HV.out], filM_below L7.out (Nat.le_refl _) G (.slice none 0 0) (.slice none 0 0) (.slice none 0 0)⟩
    · have h1' : (q4 != 1) = true := by simp [h1]
      have HV := Lib.hid (HV2.out h1)
      clear HV2 HV3' T3
      obtain ⟨z0, z1, z2, z3, z4, z5, z6, z7, z8, z9, z10, z11⟩ := mx_of Z6.out
      have f0 := Z6.out.free 0
      have f1 := Z6.out.free 1
      have f2 := Z6.out.free 2
      have f3 := Z6.out.free 3
      have f4 := Z6.out.free 4
      have f5 := Z6.out.free 5
      have f6 := Z6.out.free 6
      have f7 := Z6.out.free 7
      have f8 := Z6.out.free 8
      have f9 := Z6.out.free 9
      have f10 := Z6.out.free 10
      have f11 := Z6.out.free 11
      go_wp2
      exact bodyPost_ret (v := .tuple #[.agg #[.int .i64 zh.id, .bool zh.rp, .bool zh.au, .bool zh.ct, .bool zh.wa, .bool zh.ca, .int .i64 zh.code, .string zh.qn, .int .i64 zh.qt, .slice none 0 0, .slice none 0 0, .slice none 0 0], .int .i64 0, .int .i64 0, .int .i64 0, .bool false]) (res5M rfl (filM_bk Z6.out zh (.slice none 0 0) (.slice none 0 0) (.slice none 0 0)) rfl rfl rfl rfl rfl) rfl ⟨by rw [HV.out]; rfl, filM_below L6.out (Nat.le_refl _) zh (.slice none 0 0) (.slice none 0 0) (.slice none 0 0)⟩
  · have HV := Lib.hid (valH_not (l := l) (ghb_not (fun e => by omega)))
    generalize valH l = VV at *
    have n12 : (n : Int) < 12 := by omega
    clear hs hl
    go_enter Tryz.func42, Tryz.ntmps42
    go_upto_region 1 with (fail)
    generalize (w.alloc (.cells #[.int .i64 0, .bool false, .bool false, .bool false, .bool false, .bool false, .int .i64 0, .string ⟨#[]⟩, .int .i64 0, .slice none 0 0, .slice none 0 0, .slice none 0 0] 28)) = w1 at *
    obtain ⟨z0, z1, z2, z3, z4, z5, z6, z7, z8, z9, z10, z11⟩ := mx_of Z0.out
    have f0 := Z0.out.free 0
    have f1 := Z0.out.free 1
    have f2 := Z0.out.free 2
    have f3 := Z0.out.free 3
    have f4 := Z0.out.free 4
    have f5 := Z0.out.free 5
    have f6 := Z0.out.free 6
    have f7 := Z0.out.free 7
    have f8 := Z0.out.free 8
    have f9 := Z0.out.free 9
    have f10 := Z0.out.free 10
    have f11 := Z0.out.free 11
    go_wp2
    exact bodyPost_ret (v := .tuple #[.agg #[.int .i64 zh.id, .bool zh.rp, .bool zh.au, .bool zh.ct, .bool zh.wa, .bool zh.ca, .int .i64 zh.code, .string zh.qn, .int .i64 zh.qt, .slice none 0 0, .slice none 0 0, .slice none 0 0], .int .i64 0, .int .i64 0, .int .i64 0, .bool false]) (res5M rfl (filM_bk Z0.out zh (.slice none 0 0) (.slice none 0 0) (.slice none 0 0)) rfl rfl rfl rfl rfl) rfl ⟨by rw [HV.out]; rfl, filM_below L0.out (Nat.le_refl _) zh (.slice none 0 0) (.slice none 0 0) (.slice none 0 0)⟩
end Go.Proofs.YtkfibepejlgniaaGreatDoor.GetHS

/- What the program's GetRecords does: it reads records as FieldMath tells (grs), into a new row of its own, and turns nothing that was there. Conditions: at most 400000000 bytes; the library's variable internal/bytealg.MaxLen holds an int. -/
namespace Go.Proofs.YtkfibepejlgniaaGreatDoor.GetsI
open Go.RowKit Go.Proofs.YtkfibepejlgniaaGreatDoor.Mem Go.Proofs.YtkfibepejlgniaaGreatDoor.MemR Go.Proofs.YtkfibepejlgniaaGreatDoor.Labels Go.Proofs.YtkfibepejlgniaaGreatDoor.Label Go.Proofs.YtkfibepejlgniaaGreatDoor.TextR Go.Proofs.YtkfibepejlgniaaGreatDoor.App Go.Proofs.YtkfibepejlgniaaGreatDoor.AppR Go.Proofs.YtkfibepejlgniaaGreatDoor.FieldMath Go.Proofs.YtkfibepejlgniaaGreatDoor.GetRecI Go.Proofs.YtkfibepejlgniaaGreatDoor.GetsM

set_option maxRecDepth 100000 in
set_option maxHeartbeats 4000000 in
theorem recs (A : Option Addr) (n c : Nat) (l : List UInt8) (k q : Int) (w : World) (he : Env w) (hs : Sl w w.heap.size A n l) (hnc : n ≤ c) (hn : n ≤ 400000000) :
    Calls Tryz.prog 142 #[.slice A n c, .int .i64 k, .int .i64 q] w (Grs w (grA l k q)) := by
  have GR := Lib.hid (fun (a : Int) (W : World) (hW : Below w.heap.size w W) => GetRecI.record A n c l a W (he.below hW) ((hs.below hW).wider hW.size) hnc hn)
  unfold valR at GR
  clear hs he
  by_cases h : 0 ≤ q ∧ q ≤ 8
  · have HI : Hid (inn q 0 8 = true) := decide_eq_true h
    obtain ⟨h0, h8⟩ := h
    obtain ⟨m, rfl⟩ := Int.eq_ofNat_of_zero_le h0
    have hm8 : m ≤ 8 := by omega
    have HX : Hid (grs l m k [] = grA l k (m : Int)) := by show _ = _; rw [grA, if_pos ⟨by omega, by omega⟩, Int.toNat_natCast]
    generalize grA l k (m : Int) = X at *
    have GS := Lib.hid (grs_step l)
    go_enter Tryz.func142, Tryz.ntmps142
    go_wp2_with fail
    refine (upTo_any _ 8 _).mono ?_
    rw [HI.out]
    rintro e w1 ⟨rfl, rfl⟩
    go_wp2
    go_loopw [1, 9, 19] (fun a v i wr => ∃ (j g cap : Nat) (M : List Rec) (p : Int), j ≤ m ∧ i = .int .i64 (j : Int) ∧ a = .int .i64 p ∧ v = .slice (some ⟨g, 0, none⟩) j cap ∧ Hid (grs l (m - j) p M = X) ∧ Hid (wr.ownsRow w.heap.size 117 6 (.slice (some ⟨g, 0, none⟩) j cap) j (fl M)) ∧ Hid (Below w.heap.size w wr)) (fun _ _ i _ => m - (intOf i).toNat)
    case atStart => exact ⟨0, w.heap.size, 0, [], k, Nat.zero_le _, rfl, rfl, rfl, HX.out, AppR.owns_new w, (Below.refl _ _).alloc (Nat.le_refl _) _⟩
    case round =>
      clear HX
      obtain ⟨j, g, cap, M, p, hj, rfl, rfl, rfl, HG, HO, HB⟩ := hrel
      by_cases hlt : j < m
      · have HG2 : Hid ((if (gr l p).1 ≠ 0 then ((gr l p).1, 0, []) else grs l (m - (j + 1)) (gr l p).2.1 (M ++ [(gr l p).2.2])) = X) := by
          show _ = _
          rw [← HG.out, show m - j = m - (j + 1) + 1 by omega, GS.out]
        have G1 := Lib.hid (GR.out p wr HB.out)
        clear HG
        generalize gr l p = Y at *
        obtain ⟨yc, yp, r⟩ := Y
        dsimp only at G1 HG2
        go_wp2_with fail
        refine G1.out.mono ?_
        rintro e w2 ⟨rfl, hl⟩
        have B2 := Lib.hid (HB.out.trans (hl.mono HB.out.size))
        have O2 := Lib.hid (own_below HO.out hl)
        clear hl HB HO G1
        have B3 := Lib.hid (B2.out.alloc B2.out.size (.cells #[.string r.name, .int .i64 r.ty, .int .i64 r.ttl, .int .i64 r.n, .string r.host, .string r.text] 117))
        by_cases hc : yc = 0
        · subst hc
          have HG3 := Lib.hid ((if_neg (fun e => e rfl)).symm.trans HG2.out)
          clear HG2
          have O4 := Lib.hid ((O2.out.alloc (.cells #[.string r.name, .int .i64 r.ty, .int .i64 r.ttl, .int .i64 r.n, .string r.host, .string r.text] 117)).alloc (.cells #[.string r.name, .int .i64 r.ty, .int .i64 r.ttl, .int .i64 r.n, .string r.host, .string r.text] 117))
          have B4 := Lib.hid (B3.out.alloc B3.out.size (.cells #[.string r.name, .int .i64 r.ty, .int .i64 r.ttl, .int .i64 r.n, .string r.host, .string r.text] 117))
          have S4 := Lib.hid (one_sr (w2.alloc (.cells #[.string r.name, .int .i64 r.ty, .int .i64 r.ttl, .int .i64 r.n, .string r.host, .string r.text] 117)) r)
          rw [show (w2.alloc (.cells #[.string r.name, .int .i64 r.ty, .int .i64 r.ttl, .int .i64 r.n, .string r.host, .string r.text] 117)).heap.size = w2.heap.size + 1 by simp] at S4
          go_wp2_with (at_builtin; refine append_recs rfl (.tmp 32) (.tmp 34) rfl w.heap.size g j cap M rfl O4.out (w2.heap.size + 1) 0 1 1 _ [r] rfl S4.out ?d1 ?d2 ?d3 ?_)
          case d1 => omega
          case d2 => omega
          case d3 => exact B4.out.size
          intro g5 cap5 w5 hown hgrow
          have O5 := Lib.hid hown
          have B5 := Lib.hid (B4.out.grown hgrow B4.out.size (fun i hi => by cases hi; exact (O4.out.lt g rfl).1))
          clear hown hgrow O4 B4 S4 O2 B2 B3
          go_wp2
          go_roundw
          case rel => exact ⟨j + 1, g5, cap5, M ++ [r], yp, by omega, by go_num, rfl, rfl, HG3.out, O5.out, B5.out⟩
          case measure => simp [intOf]; omega
        · have HG3 := Lib.hid ((if_pos hc).symm.trans HG2.out)
          have hc2 : ((yc : Int) != 0) = true := by simp; omega
          clear HG2
          go_wp2
          go_ret3
          rw [← HG3.out]
          exact grs_nil2 B3.out 0 yc (by simp)
      · obtain rfl : j = m := by omega
        have HG2 : Hid ((0, p, M) = X) := by
          have := HG.out
          rw [Nat.sub_self] at this
          exact this
        go_wp2
        go_ret3
        rw [← HG2.out]
        exact grs_of HO.out HB.out p 0
  · have HI : Hid (inn q 0 8 = false) := decide_eq_false h
    have HX : Hid ((2, 0, []) = grA l k q) := by show _ = _; rw [grA, if_neg h]
    generalize grA l k q = X at *
    clear h GR
    go_enter Tryz.func142, Tryz.ntmps142
    go_wp2_with fail
    refine (upTo_any _ 8 _).mono ?_
    rw [HI.out]
    rintro e w1 ⟨rfl, rfl⟩
    go_wp2
    go_ret3
    rw [← HX.out]
    exact grs_nil (Below.refl _ _) 0 2
end Go.Proofs.YtkfibepejlgniaaGreatDoor.GetsI

/- What the model's GetRecords does: it reads records as FieldMath tells (grs), into a new row of its own, and turns nothing that was there. Condition: at most 400000000 bytes. -/
namespace Go.Proofs.YtkfibepejlgniaaGreatDoor.GetsS
open Go.RowKit Go.Proofs.YtkfibepejlgniaaGreatDoor.Mem Go.Proofs.YtkfibepejlgniaaGreatDoor.MemR Go.Proofs.YtkfibepejlgniaaGreatDoor.Labels Go.Proofs.YtkfibepejlgniaaGreatDoor.Label Go.Proofs.YtkfibepejlgniaaGreatDoor.TextR Go.Proofs.YtkfibepejlgniaaGreatDoor.App Go.Proofs.YtkfibepejlgniaaGreatDoor.AppR Go.Proofs.YtkfibepejlgniaaGreatDoor.FieldMath Go.Proofs.YtkfibepejlgniaaGreatDoor.GetRecI Go.Proofs.YtkfibepejlgniaaGreatDoor.GetsM

set_option maxRecDepth 100000 in
set_option maxHeartbeats 4000000 in
theorem recs (A : Option Addr) (n c : Nat) (l : List UInt8) (k q : Int) (w : World) (hs : Sl w w.heap.size A n l) (hnc : n ≤ c) (hn : n ≤ 400000000) :
    Calls Tryz.prog 96 #[.slice A n c, .int .i64 k, .int .i64 q] w (Grs w (grA l k q)) := by
  have GR := Lib.hid (fun (a : Int) (W : World) (hW : Below w.heap.size w W) => GetRecS.record A n c l a W ((hs.below hW).wider hW.size) hnc hn)
  unfold valR at GR
  clear hs
  by_cases h : 0 ≤ q ∧ q ≤ 8
  · have HI : Hid (decide ((0 : Int) ≤ q ∧ q ≤ 8) = true) := decide_eq_true h
    obtain ⟨h0, h8⟩ := h
    obtain ⟨m, rfl⟩ := Int.eq_ofNat_of_zero_le h0
    have hm8 : m ≤ 8 := by omega
    have HX : Hid (grs l m k [] = grA l k (m : Int)) := by show _ = _; rw [grA, if_pos ⟨by omega, by omega⟩, Int.toNat_natCast]
    generalize grA l k (m : Int) = X at *
    have GS := Lib.hid (grs_step l)
    go_enter Tryz.func96, Tryz.ntmps96
    go_wp2_with fail
    refine (l1In_any _ _ _ _).mono ?_
    rw [HI.out]
    rintro e w1 ⟨rfl, rfl⟩
    go_wp2
    go_loopw [1, 9, 10] (fun a v i wr => ∃ (j g cap : Nat) (M : List Rec) (p : Int), j ≤ m ∧ i = .int .i64 (j : Int) ∧ a = .int .i64 p ∧ v = .slice (some ⟨g, 0, none⟩) j cap ∧ Hid (grs l (m - j) p M = X) ∧ Hid (wr.ownsRow w.heap.size 117 6 (.slice (some ⟨g, 0, none⟩) j cap) j (fl M)) ∧ Hid (Below w.heap.size w wr)) (fun _ _ i _ => m - (intOf i).toNat)
    case atStart => exact ⟨0, w.heap.size, 0, [], k, Nat.zero_le _, rfl, rfl, rfl, HX.out, AppR.owns_new w, (Below.refl _ _).alloc (Nat.le_refl _) _⟩
    case round =>
      clear HX
      obtain ⟨j, g, cap, M, p, hj, rfl, rfl, rfl, HG, HO, HB⟩ := hrel
      by_cases hlt : j < m
      · have HG2 : Hid ((if (gr l p).1 ≠ 0 then ((gr l p).1, 0, []) else grs l (m - (j + 1)) (gr l p).2.1 (M ++ [(gr l p).2.2])) = X) := by
          show _ = _
          rw [← HG.out, show m - j = m - (j + 1) + 1 by omega, GS.out]
        have G1 := Lib.hid (GR.out p wr HB.out)
        clear HG
        generalize gr l p = Y at *
        obtain ⟨yc, yp, r⟩ := Y
        dsimp only at G1 HG2
        go_wp2_with fail
        refine G1.out.mono ?_
        rintro e w2 ⟨rfl, hl⟩
        have B2 := Lib.hid (HB.out.trans (hl.mono HB.out.size))
        have O2 := Lib.hid (own_below HO.out hl)
        clear hl HB HO G1
        have B3 := Lib.hid (B2.out.alloc B2.out.size (.cells #[.string r.name, .int .i64 r.ty, .int .i64 r.ttl, .int .i64 r.n, .string r.host, .string r.text] 117))
        by_cases hc : yc = 0
        · subst hc
          have HG3 := Lib.hid ((if_neg (fun e => e rfl)).symm.trans HG2.out)
          clear HG2
          have O4 := Lib.hid ((O2.out.alloc (.cells #[.string r.name, .int .i64 r.ty, .int .i64 r.ttl, .int .i64 r.n, .string r.host, .string r.text] 117)).alloc (.cells #[.string r.name, .int .i64 r.ty, .int .i64 r.ttl, .int .i64 r.n, .string r.host, .string r.text] 117))
          have B4 := Lib.hid (B3.out.alloc B3.out.size (.cells #[.string r.name, .int .i64 r.ty, .int .i64 r.ttl, .int .i64 r.n, .string r.host, .string r.text] 117))
          have S4 := Lib.hid (one_sr (w2.alloc (.cells #[.string r.name, .int .i64 r.ty, .int .i64 r.ttl, .int .i64 r.n, .string r.host, .string r.text] 117)) r)
          rw [show (w2.alloc (.cells #[.string r.name, .int .i64 r.ty, .int .i64 r.ttl, .int .i64 r.n, .string r.host, .string r.text] 117)).heap.size = w2.heap.size + 1 by simp] at S4
          go_wp2_with (at_builtin; refine append_recs rfl (.tmp 35) (.tmp 37) rfl w.heap.size g j cap M rfl O4.out (w2.heap.size + 1) 0 1 1 _ [r] rfl S4.out ?d1 ?d2 ?d3 ?_)
          case d1 => omega
          case d2 => omega
          case d3 => exact B4.out.size
          intro g5 cap5 w5 hown hgrow
          have O5 := Lib.hid hown
          have B5 := Lib.hid (B4.out.grown hgrow B4.out.size (fun i hi => by cases hi; exact (O4.out.lt g rfl).1))
          clear hown hgrow O4 B4 S4 O2 B2 B3
          go_wp2
          go_roundw
          case rel => exact ⟨j + 1, g5, cap5, M ++ [r], yp, by omega, by go_num, rfl, rfl, HG3.out, O5.out, B5.out⟩
          case measure => simp [intOf]; omega
        · have HG3 := Lib.hid ((if_pos hc).symm.trans HG2.out)
          have hc2 : ((yc : Int) != 0) = true := by simp; omega
          clear HG2
          go_wp2
          go_ret3
          rw [← HG3.out]
          exact grs_nil2 B3.out 0 yc (by simp)
      · obtain rfl : j = m := by omega
        have HG2 : Hid ((0, p, M) = X) := by
          have := HG.out
          rw [Nat.sub_self] at this
          exact this
        go_wp2
        go_ret3
        rw [← HG2.out]
        exact grs_of HO.out HB.out p 0
  · have HI : Hid (decide ((0 : Int) ≤ q ∧ q ≤ 8) = false) := decide_eq_false h
    have HX : Hid ((2, 0, []) = grA l k q) := by show _ = _; rw [grA, if_neg h]
    generalize grA l k q = X at *
    clear h GR
    go_enter Tryz.func96, Tryz.ntmps96
    go_wp2_with fail
    refine (l1In_any _ _ _ _).mono ?_
    rw [HI.out]
    rintro e w1 ⟨rfl, rfl⟩
    go_wp2
    go_ret3
    rw [← HX.out]
    exact grs_nil (Below.refl _ _) 0 2
end Go.Proofs.YtkfibepejlgniaaGreatDoor.GetsS

/- What GetMsg does in the model and in the program: it reads a message as MsgMath tells, and turns nothing that was there. Conditions: at most 400000000 bytes; for the program: the library's variable internal/bytealg.MaxLen holds an int. -/
namespace Go.Proofs.YtkfibepejlgniaaGreatDoor.GetMS
open Go.RowKit Go.Proofs.YtkfibepejlgniaaGreatDoor.Mem Go.Proofs.YtkfibepejlgniaaGreatDoor.MemR Go.Proofs.YtkfibepejlgniaaGreatDoor.MemM Go.Proofs.YtkfibepejlgniaaGreatDoor.Labels Go.Proofs.YtkfibepejlgniaaGreatDoor.Get Go.Proofs.YtkfibepejlgniaaGreatDoor.ResR Go.Proofs.YtkfibepejlgniaaGreatDoor.ResM Go.Proofs.YtkfibepejlgniaaGreatDoor.ResQ Go.Proofs.YtkfibepejlgniaaGreatDoor.FieldMath Go.Proofs.YtkfibepejlgniaaGreatDoor.GetsM Go.Proofs.YtkfibepejlgniaaGreatDoor.HeadRd Go.Proofs.YtkfibepejlgniaaGreatDoor.GetH Go.Proofs.YtkfibepejlgniaaGreatDoor.GetHI Go.Proofs.YtkfibepejlgniaaGreatDoor.MsgMath Go.Proofs.YtkfibepejlgniaaGreatDoor.GetQ

/-- The call returned the message of l in new memory and true, and turned nothing that was there. -/
def Got (w : World) (h : Hd) (n1 n2 n3 : Nat) (l1 l2 l3 : List Rec) (e : Ending) (w' : World) : Prop :=
  ∃ g1 c1 r1 g2 c2 r2 g3 c3 r3, e = .returned (.tuple #[.agg #[.int .i64 h.id, .bool h.rp, .bool h.au, .bool h.ct, .bool h.wa, .bool h.ca, .int .i64 h.code, .string h.qn, .int .i64 h.qt, .slice (some ⟨g1, 0, none⟩) n1 c1, .slice (some ⟨g2, 0, none⟩) n2 c2, .slice (some ⟨g3, 0, none⟩) n3 c3], .bool true]) ∧
    Bk w' g1 117 (fl l1 ++ r1) ∧ Bk w' g2 117 (fl l2 ++ r2) ∧ Bk w' g3 117 (fl l3 ++ r3) ∧ w.heap.size ≤ g1 ∧ g1 < g2 ∧ g2 < g3 ∧ Below w.heap.size w w'
theorem gmb_parts {l : List UInt8} (h : gmb l = true) : l.length ≤ 512 ∧ ghb l = true ∧ (gq l 12).1 = 0 ∧ (s1 l).1 = 0 ∧ (s2 l).1 = 0 ∧ (s3 l).1 = 0 ∧ (s3 l).2.1 = (l.length : Int) := by
  have := of_decide_eq_true h
  exact ⟨this.1, this.2⟩
/-- What GetRecords does, told of the block. -/
def Gr (W : World) (X : Nat × Int × List Rec) (e : Ending) (w' : World) : Prop :=
  ∃ g cap r, e = .returned (.tuple #[.slice (some ⟨g, 0, none⟩) X.2.2.length cap, .int .i64 X.2.1, .int .i64 (X.1 : Int)]) ∧ Bk w' g 117 (fl X.2.2 ++ r) ∧ W.heap.size ≤ g ∧ Below W.heap.size W w'
theorem gr_of {W w' : World} {X : Nat × Int × List Rec} {e : Ending} (h : Grs W X e w') : Gr W X e w' := h.bk

/-- The parts of a message, met in the model's order: which is the first that is bad. -/
theorem parts (l : List UInt8) : (¬ (ghb l = true ∧ l.length ≤ 512) ∧ gmb l = false) ∨ ((ghb l = true ∧ l.length ≤ 512) ∧
    (((gq l 12).1 ≠ 0 ∧ gmb l = false) ∨ ((gq l 12).1 = 0 ∧ (((s1 l).1 ≠ 0 ∧ gmb l = false) ∨ ((s1 l).1 = 0 ∧ (((s2 l).1 ≠ 0 ∧ gmb l = false) ∨ ((s2 l).1 = 0 ∧
      (((s3 l).1 ≠ 0 ∧ gmb l = false) ∨ ((s3 l).1 = 0 ∧ (((s3 l).2.1 ≠ (l.length : Int) ∧ gmb l = false) ∨ ((s3 l).2.1 = (l.length : Int) ∧ gmb l = true))))))))))) := by
  have bad : ∀ P : Prop, (gmb l = true → P) → ¬ P → gmb l = false := fun P h1 h2 => by
    cases e : gmb l
    · rfl
    · exact absurd (h1 e) h2
  by_cases a : ghb l = true ∧ l.length ≤ 512
  · refine Or.inr ⟨a, ?_⟩
    by_cases b : (gq l 12).1 = 0
    · refine Or.inr ⟨b, ?_⟩
      by_cases c : (s1 l).1 = 0
      · refine Or.inr ⟨c, ?_⟩
        by_cases d : (s2 l).1 = 0
        · refine Or.inr ⟨d, ?_⟩
          by_cases f : (s3 l).1 = 0
          · refine Or.inr ⟨f, ?_⟩
            by_cases g : (s3 l).2.1 = (l.length : Int)
            · exact Or.inr ⟨g, decide_eq_true ⟨a.2, a.1, b, c, d, f, g⟩⟩
            · exact Or.inl ⟨g, bad _ (fun h => (gmb_parts h).2.2.2.2.2.2) g⟩
          · exact Or.inl ⟨f, bad _ (fun h => (gmb_parts h).2.2.2.2.2.1) f⟩
        · exact Or.inl ⟨d, bad _ (fun h => (gmb_parts h).2.2.2.2.1) d⟩
      · exact Or.inl ⟨c, bad _ (fun h => (gmb_parts h).2.2.2.1) c⟩
    · exact Or.inl ⟨b, bad _ (fun h => (gmb_parts h).2.2.1) b⟩
  · exact Or.inl ⟨a, bad _ (fun h => ⟨(gmb_parts h).2.1, (gmb_parts h).1⟩) a⟩
/-- What GetMsg hands back. -/
def Res (l : List UInt8) (w : World) (e : Ending) (w' : World) : Prop :=
  (gmb l = false ∧ e = .returned (.tuple #[.agg #[.int .i64 zh.id, .bool zh.rp, .bool zh.au, .bool zh.ct, .bool zh.wa, .bool zh.ca, .int .i64 zh.code, .string zh.qn, .int .i64 zh.qt, .slice none 0 0, .slice none 0 0, .slice none 0 0], .bool false]) ∧ Below w.heap.size w w') ∨ (gmb l = true ∧ Got w (gmh l) (s1 l).2.2.length (s2 l).2.2.length (s3 l).2.2.length (s1 l).2.2 (s2 l).2.2 (s3 l).2.2 e w')

set_option maxRecDepth 100000 in
set_option maxHeartbeats 16000000 in
theorem spec (A : Option Addr) (n c : Nat) (l : List UInt8) (w : World) (hs : Sl w w.heap.size A n l) (hnc : n ≤ c) (hn : n ≤ 400000000) :
    Calls Tryz.prog 37 #[.slice A n c] w (Res l w) := by
  have hl := hs.1
  have L0 := Lib.hid ((Below.refl w.heap.size w).alloc (Nat.le_refl _) (.cells #[.int .i64 0, .bool false, .bool false, .bool false, .bool false, .bool false, .int .i64 0, .string ⟨#[]⟩, .int .i64 0, .slice none 0 0, .slice none 0 0, .slice none 0 0] 28))
  have Z0 : Hid (Bk (w.alloc (.cells #[.int .i64 0, .bool false, .bool false, .bool false, .bool false, .bool false, .int .i64 0, .string ⟨#[]⟩, .int .i64 0, .slice none 0 0, .slice none 0 0, .slice none 0 0] 28)) w.heap.size 28 (mc zh (.slice none 0 0) (.slice none 0 0) (.slice none 0 0))) := heap_alloc_new w _
  have HD := Lib.hid (fun (W : World) (hW : Below w.heap.size w W) => GetHS.spec A n c l W ((hs.below hW).wider hW.size) hnc hn)
  have QD := Lib.hid (fun (W : World) (hW : Below w.heap.size w W) => GetQ.spec A n c l 12 W ((hs.below hW).wider hW.size) hnc hn)
  have RD := Lib.hid (fun (k q : Int) (W : World) (hW : Below w.heap.size w W) => (GetsS.recs A n c l k q W ((hs.below hW).wider hW.size) hnc hn).mono fun _ _ => gr_of)
  have R1 := Lib.hid (RD.out (gq l 12).2.1 (ghn l 6))
  have R2 := Lib.hid (RD.out (s1 l).2.1 (ghn l 8))
  have R3 := Lib.hid (RD.out (s2 l).2.1 (ghn l 10))
  have E1 : Hid (grA l (gq l 12).2.1 (ghn l 6) = s1 l) := rfl
  have E2 : Hid (grA l (s1 l).2.1 (ghn l 8) = s2 l) := rfl
  have E3 : Hid (grA l (s2 l).2.1 (ghn l 10) = s3 l) := rfl
  rw [E1.out] at R1
  rw [E2.out] at R2
  rw [E3.out] at R3
  have PA := parts l
  rw [hl] at PA
  have GM : Hid (gmh l = wq (ghh l) (gq l 12).2.2.1 (gq l 12).2.2.2) := rfl
  have N1 : Hid ((s1 l).2.2.length ≤ 8) := grA_len _ _ _
  have N2 : Hid ((s2 l).2.2.length ≤ 8) := grA_len _ _ _
  have N3 : Hid ((s3 l).2.2.length ≤ 8) := grA_len _ _ _
  unfold Res
  unfold valH at HD
  unfold valQ at QD
  generalize gmb l = ok at *
  generalize gmh l = M at *
  generalize s1 l = S1 at *
  generalize s2 l = S2 at *
  generalize s3 l = S3 at *
  generalize gq l 12 = Q at *
  generalize ghh l = H at *
  generalize ghn l 6 = q1 at *
  generalize ghn l 8 = q2 at *
  generalize ghn l 10 = q3 at *
  generalize ghb l = hb at *
  obtain ⟨d1, p1, l1⟩ := S1
  obtain ⟨d2, p2, l2⟩ := S2
  obtain ⟨d3, p3, l3⟩ := S3
  obtain ⟨dq, pq, sq, tq⟩ := Q
  unfold Gr at R1 R2 R3
  dsimp only at HD QD R1 R2 R3 PA GM N1 N2 N3 ⊢
  obtain ⟨n1, hn1⟩ : ∃ n, l1.length = n := ⟨_, rfl⟩
  obtain ⟨n2, hn2⟩ : ∃ n, l2.length = n := ⟨_, rfl⟩
  obtain ⟨n3, hn3⟩ : ∃ n, l3.length = n := ⟨_, rfl⟩
  rw [hn1] at R1
  rw [hn2] at R2
  rw [hn3] at R3
  rw [hn1, hn2, hn3]
  clear hn1 hn2 hn3 N1 N2 N3 E1 E2 E3 RD hs hl hnc
  go_enter Tryz.func37, Tryz.ntmps37
  go_wp2_with fail
  refine (HD.out _ L0.out).mono ?_
  rintro e w1 ⟨rfl, hl⟩
  have L1' := L0.out.trans (hl.mono L0.out.size)
  have L1 := Lib.hid (L1'.alloc L1'.size (.cells #[.int .i64 H.id, .bool H.rp, .bool H.au, .bool H.ct, .bool H.wa, .bool H.ca, .int .i64 H.code, .string H.qn, .int .i64 H.qt, .slice none 0 0, .slice none 0 0, .slice none 0 0] 28))
  have Z1 := Lib.hid ((Z0.out.below hl Z0.out.lt).alloc (.cells #[.int .i64 H.id, .bool H.rp, .bool H.au, .bool H.ct, .bool H.wa, .bool H.ca, .int .i64 H.code, .string H.qn, .int .i64 H.qt, .slice none 0 0, .slice none 0 0, .slice none 0 0] 28))
  have X1 : Hid (Bk (w1.alloc (.cells #[.int .i64 H.id, .bool H.rp, .bool H.au, .bool H.ct, .bool H.wa, .bool H.ca, .int .i64 H.code, .string H.qn, .int .i64 H.qt, .slice none 0 0, .slice none 0 0, .slice none 0 0] 28)) w1.heap.size 28 (mc H (.slice none 0 0) (.slice none 0 0) (.slice none 0 0))) := heap_alloc_new w1 _
  have NX : Hid (w.heap.size < w1.heap.size) := Nat.lt_of_lt_of_le Z0.out.lt hl.size
  clear hl L1' L0 Z0 HD
  go_upto_region 2 with (fail)
  generalize hw : w1.alloc (.cells #[.int .i64 H.id, .bool H.rp, .bool H.au, .bool H.ct, .bool H.wa, .bool H.ca, .int .i64 H.code, .string H.qn, .int .i64 H.qt, .slice none 0 0, .slice none 0 0, .slice none 0 0] 28) = w1' at *
  clear hw
  generalize w1.heap.size = gx at *
  rcases PA with ⟨hA, hB⟩ | ⟨hA, PA⟩
  · have HB := Lib.hid hB
    clear hB
    cases hb
    · clear hA
      obtain ⟨z0, z1, z2, z3, z4, z5, z6, z7, z8, z9, z10, z11⟩ := mx_of Z1.out
      have f0 := Z1.out.free 0
      have f1 := Z1.out.free 1
      have f2 := Z1.out.free 2
      have f3 := Z1.out.free 3
      have f4 := Z1.out.free 4
      have f5 := Z1.out.free 5
      have f6 := Z1.out.free 6
      have f7 := Z1.out.free 7
      have f8 := Z1.out.free 8
      have f9 := Z1.out.free 9
      have f10 := Z1.out.free 10
      have f11 := Z1.out.free 11
      go_wp2
      exact bodyPost_ret (v := .tuple #[.agg #[.int .i64 zh.id, .bool zh.rp, .bool zh.au, .bool zh.ct, .bool zh.wa, .bool zh.ca, .int .i64 zh.code, .string zh.qn, .int .i64 zh.qt, .slice none 0 0, .slice none 0 0, .slice none 0 0], .bool false]) (res2M rfl (filM_bk Z1.out zh (.slice none 0 0) (.slice none 0 0) (.slice none 0 0)) rfl rfl) rfl (Or.inl ⟨HB.out, rfl, filM_below L1.out (Nat.le_refl _) zh (.slice none 0 0) (.slice none 0 0) (.slice none 0 0)⟩)
    · have h5 : (512 : Int) < (n : Int) := by
        have : ¬ n ≤ 512 := fun h => hA ⟨rfl, h⟩
        omega
      clear hA
      obtain ⟨z0, z1, z2, z3, z4, z5, z6, z7, z8, z9, z10, z11⟩ := mx_of Z1.out
      have f0 := Z1.out.free 0
      have f1 := Z1.out.free 1
      have f2 := Z1.out.free 2
      have f3 := Z1.out.free 3
      have f4 := Z1.out.free 4
      have f5 := Z1.out.free 5
      have f6 := Z1.out.free 6
      have f7 := Z1.out.free 7
      have f8 := Z1.out.free 8
      have f9 := Z1.out.free 9
      have f10 := Z1.out.free 10
      have f11 := Z1.out.free 11
      go_wp2
      exact bodyPost_ret (v := .tuple #[.agg #[.int .i64 zh.id, .bool zh.rp, .bool zh.au, .bool zh.ct, .bool zh.wa, .bool zh.ca, .int .i64 zh.code, .string zh.qn, .int .i64 zh.qt, .slice none 0 0, .slice none 0 0, .slice none 0 0], .bool false]) (res2M rfl (filM_bk Z1.out zh (.slice none 0 0) (.slice none 0 0) (.slice none 0 0)) rfl rfl) rfl (Or.inl ⟨HB.out, rfl, filM_below L1.out (Nat.le_refl _) zh (.slice none 0 0) (.slice none 0 0) (.slice none 0 0)⟩)
  obtain ⟨rfl, h512⟩ := hA
  have h5 : ¬ (512 : Int) < (n : Int) := by omega
  go_wp2_with fail
  refine (QD.out _ L1.out).mono ?_
  rintro e w2 ⟨rfl, hl⟩
  have L2' := L1.out.trans (hl.mono L1.out.size)
  have L2 := Lib.hid (L2'.alloc L2'.size (.cells #[.string sq, .int .i64 tq] 25))
  have Z2 := Lib.hid ((Z1.out.below hl Z1.out.lt).alloc (.cells #[.string sq, .int .i64 tq] 25))
  have X2 := Lib.hid ((X1.out.below hl X1.out.lt).alloc (.cells #[.string sq, .int .i64 tq] 25))
  have Q2 : Hid (Bk (w2.alloc (.cells #[.string sq, .int .i64 tq] 25)) w2.heap.size 25 (qc sq tq)) := heap_alloc_new w2 _
  have NQ : Hid (gx < w2.heap.size) := Nat.lt_of_lt_of_le X1.out.lt hl.size
  clear hl L2' L1 Z1 X1 QD
  go_upto_region 5 with (fail)
  generalize hw : w2.alloc (.cells #[.string sq, .int .i64 tq] 25) = w2' at *
  clear hw
  generalize w2.heap.size = gq at *
  rcases PA with ⟨hQ, hB⟩ | ⟨hQ, PA⟩
  · have HB := Lib.hid hB
    have e1 : ((dq : Int) != 0) = true := by simp; omega
    have e2 : ¬ (dq : Int) = 0 := by omega
    clear hB hQ
    obtain ⟨z0, z1, z2, z3, z4, z5, z6, z7, z8, z9, z10, z11⟩ := mx_of Z2.out
    have f0 := Z2.out.free 0
    have f1 := Z2.out.free 1
    have f2 := Z2.out.free 2
    have f3 := Z2.out.free 3
    have f4 := Z2.out.free 4
    have f5 := Z2.out.free 5
    have f6 := Z2.out.free 6
    have f7 := Z2.out.free 7
    have f8 := Z2.out.free 8
    have f9 := Z2.out.free 9
    have f10 := Z2.out.free 10
    have f11 := Z2.out.free 11
    go_wp2
    exact bodyPost_ret (v := .tuple #[.agg #[.int .i64 zh.id, .bool zh.rp, .bool zh.au, .bool zh.ct, .bool zh.wa, .bool zh.ca, .int .i64 zh.code, .string zh.qn, .int .i64 zh.qt, .slice none 0 0, .slice none 0 0, .slice none 0 0], .bool false]) (res2M rfl (filM_bk Z2.out zh (.slice none 0 0) (.slice none 0 0) (.slice none 0 0)) rfl rfl) rfl (Or.inl ⟨HB.out, rfl, filM_below L2.out (Nat.le_refl _) zh (.slice none 0 0) (.slice none 0 0) (.slice none 0 0)⟩)
  subst hQ
  go_wp2_with fail
  refine (R1.out _ L2.out).mono ?_
  rintro e w3 ⟨g1, c1, r1, rfl, hb1, hg1, hl⟩
  have O1 : Hid (w.heap.size ≤ g1) := Nat.le_trans L2.out.size hg1
  have O0 : Hid (gx < g1) := Nat.lt_of_lt_of_le X2.out.lt hg1
  have B1_3 := Lib.hid hb1
  clear hb1 hg1
  have L3 := Lib.hid (L2.out.trans (hl.mono L2.out.size))
  have Z3 := Lib.hid (Z2.out.below hl Z2.out.lt)
  have X3 := Lib.hid (X2.out.below hl X2.out.lt)
  have Q3 := Lib.hid (Q2.out.below hl Q2.out.lt)
  clear hl L2 Z2 X2 Q2
  rcases PA with ⟨hQ, hB⟩ | ⟨hQ, PA⟩
  · have HB := Lib.hid hB
    have e1 : ((d1 : Int) != 0) = true := by simp; omega
    have e2 : ¬ (d1 : Int) = 0 := by omega
    clear hB hQ
    obtain ⟨z0, z1, z2, z3, z4, z5, z6, z7, z8, z9, z10, z11⟩ := mx_of Z3.out
    have f0 := Z3.out.free 0
    have f1 := Z3.out.free 1
    have f2 := Z3.out.free 2
    have f3 := Z3.out.free 3
    have f4 := Z3.out.free 4
    have f5 := Z3.out.free 5
    have f6 := Z3.out.free 6
    have f7 := Z3.out.free 7
    have f8 := Z3.out.free 8
    have f9 := Z3.out.free 9
    have f10 := Z3.out.free 10
    have f11 := Z3.out.free 11
    go_wp2
    exact bodyPost_ret (v := .tuple #[.agg #[.int .i64 zh.id, .bool zh.rp, .bool zh.au, .bool zh.ct, .bool zh.wa, .bool zh.ca, .int .i64 zh.code, .string zh.qn, .int .i64 zh.qt, .slice none 0 0, .slice none 0 0, .slice none 0 0], .bool false]) (res2M rfl (filM_bk Z3.out zh (.slice none 0 0) (.slice none 0 0) (.slice none 0 0)) rfl rfl) rfl (Or.inl ⟨HB.out, rfl, filM_below L3.out (Nat.le_refl _) zh (.slice none 0 0) (.slice none 0 0) (.slice none 0 0)⟩)
  subst hQ
  go_wp2_with fail
  refine (R2.out _ L3.out).mono ?_
  rintro e w4 ⟨g2, c2, r2, rfl, hb2, hg2, hl⟩
  have O2 : Hid (g1 < g2) := Nat.lt_of_lt_of_le B1_3.out.lt hg2
  have B2_4 := Lib.hid hb2
  clear hb2 hg2
  have L4 := Lib.hid (L3.out.trans (hl.mono L3.out.size))
  have Z4 := Lib.hid (Z3.out.below hl Z3.out.lt)
  have X4 := Lib.hid (X3.out.below hl X3.out.lt)
  have Q4 := Lib.hid (Q3.out.below hl Q3.out.lt)
  have B1_4 := Lib.hid (B1_3.out.below hl B1_3.out.lt)
  clear hl L3 Z3 X3 Q3 B1_3
  rcases PA with ⟨hQ, hB⟩ | ⟨hQ, PA⟩
  · have HB := Lib.hid hB
    have e1 : ((d2 : Int) != 0) = true := by simp; omega
    have e2 : ¬ (d2 : Int) = 0 := by omega
    clear hB hQ
    obtain ⟨z0, z1, z2, z3, z4, z5, z6, z7, z8, z9, z10, z11⟩ := mx_of Z4.out
    have f0 := Z4.out.free 0
    have f1 := Z4.out.free 1
    have f2 := Z4.out.free 2
    have f3 := Z4.out.free 3
    have f4 := Z4.out.free 4
    have f5 := Z4.out.free 5
    have f6 := Z4.out.free 6
    have f7 := Z4.out.free 7
    have f8 := Z4.out.free 8
    have f9 := Z4.out.free 9
    have f10 := Z4.out.free 10
    have f11 := Z4.out.free 11
    go_wp2
    exact bodyPost_ret (v := .tuple #[.agg #[.int .i64 zh.id, .bool zh.rp, .bool zh.au, .bool zh.ct, .bool zh.wa, .bool zh.ca, .int .i64 zh.code, .string zh.qn, .int .i64 zh.qt, .slice none 0 0, .slice none 0 0, .slice none 0 0], .bool false]) (res2M rfl (filM_bk Z4.out zh (.slice none 0 0) (.slice none 0 0) (.slice none 0 0)) rfl rfl) rfl (Or.inl ⟨HB.out, rfl, filM_below L4.out (Nat.le_refl _) zh (.slice none 0 0) (.slice none 0 0) (.slice none 0 0)⟩)
  subst hQ
  go_wp2_with fail
  refine (R3.out _ L4.out).mono ?_
  rintro e w5 ⟨g3, c3, r3, rfl, hb3, hg3, hl⟩
  have O3 : Hid (g2 < g3) := Nat.lt_of_lt_of_le B2_4.out.lt hg3
  have B3_5 := Lib.hid hb3
  clear hb3 hg3
  have L5 := Lib.hid (L4.out.trans (hl.mono L4.out.size))
  have Z5 := Lib.hid (Z4.out.below hl Z4.out.lt)
  have X5 := Lib.hid (X4.out.below hl X4.out.lt)
  have Q5 := Lib.hid (Q4.out.below hl Q4.out.lt)
  have B1_5 := Lib.hid (B1_4.out.below hl B1_4.out.lt)
  have B2_5 := Lib.hid (B2_4.out.below hl B2_4.out.lt)
  clear hl L4 Z4 X4 Q4 B1_4 B2_4
  rcases PA with ⟨hQ, hB⟩ | ⟨hQ, PA⟩
  · have HB := Lib.hid hB
    have e1 : ((d3 : Int) != 0) = true := by simp; omega
    have e2 : ¬ (d3 : Int) = 0 := by omega
    clear hB hQ
    obtain ⟨z0, z1, z2, z3, z4, z5, z6, z7, z8, z9, z10, z11⟩ := mx_of Z5.out
    have f0 := Z5.out.free 0
    have f1 := Z5.out.free 1
    have f2 := Z5.out.free 2
    have f3 := Z5.out.free 3
    have f4 := Z5.out.free 4
    have f5 := Z5.out.free 5
    have f6 := Z5.out.free 6
    have f7 := Z5.out.free 7
    have f8 := Z5.out.free 8
    have f9 := Z5.out.free 9
    have f10 := Z5.out.free 10
    have f11 := Z5.out.free 11
    go_wp2
    exact bodyPost_ret (v := .tuple #[.agg #[.int .i64 zh.id, .bool zh.rp, .bool zh.au, .bool zh.ct, .bool zh.wa, .bool zh.ca, .int .i64 zh.code, .string zh.qn, .int .i64 zh.qt, .slice none 0 0, .slice none 0 0, .slice none 0 0], .bool false]) (res2M rfl (filM_bk Z5.out zh (.slice none 0 0) (.slice none 0 0) (.slice none 0 0)) rfl rfl) rfl (Or.inl ⟨HB.out, rfl, filM_below L5.out (Nat.le_refl _) zh (.slice none 0 0) (.slice none 0 0) (.slice none 0 0)⟩)
  subst hQ
  rcases PA with ⟨hQ, hB⟩ | ⟨hQ, hB⟩
  · have HB := Lib.hid hB
    have e1 : (p3 != (n : Int)) = true := by simp [hQ]
    clear hB hQ
    obtain ⟨z0, z1, z2, z3, z4, z5, z6, z7, z8, z9, z10, z11⟩ := mx_of Z5.out
    have f0 := Z5.out.free 0
    have f1 := Z5.out.free 1
    have f2 := Z5.out.free 2
    have f3 := Z5.out.free 3
    have f4 := Z5.out.free 4
    have f5 := Z5.out.free 5
    have f6 := Z5.out.free 6
    have f7 := Z5.out.free 7
    have f8 := Z5.out.free 8
    have f9 := Z5.out.free 9
    have f10 := Z5.out.free 10
    have f11 := Z5.out.free 11
    go_wp2
    exact bodyPost_ret (v := .tuple #[.agg #[.int .i64 zh.id, .bool zh.rp, .bool zh.au, .bool zh.ct, .bool zh.wa, .bool zh.ca, .int .i64 zh.code, .string zh.qn, .int .i64 zh.qt, .slice none 0 0, .slice none 0 0, .slice none 0 0], .bool false]) (res2M rfl (filM_bk Z5.out zh (.slice none 0 0) (.slice none 0 0) (.slice none 0 0)) rfl rfl) rfl (Or.inl ⟨HB.out, rfl, filM_below L5.out (Nat.le_refl _) zh (.slice none 0 0) (.slice none 0 0) (.slice none 0 0)⟩)
  have HB := Lib.hid hB
  subst hQ
  clear hB
  obtain ⟨q0, q1'⟩ := qx_of Q5.out
  have k7 := X5.out.free 7
  have k8 := X5.out.free 8
  have k9 := X5.out.free 9
  have k10 := X5.out.free 10
  have k11 := X5.out.free 11
  obtain ⟨y0, y1, y2, y3, y4, y5, y6, y7, y8, y9, y10, y11⟩ := mx_of X5.out
  go_upto_region 20 with (fail)
  clear y0 y1 y2 y3 y4 y5 y6 y7 y8 y9 y10 y11 q0 q1' k7 k8 k9 k10 k11
  have L6 : Hid (Below w.heap.size w (((((w5.setCell ⟨gx, 7, none⟩ (.string sq)).setCell ⟨gx, 8, none⟩ (.int .i64 tq)).setCell ⟨gx, 9, none⟩ (.slice (some ⟨g1, 0, none⟩) n1 c1)).setCell ⟨gx, 10, none⟩ (.slice (some ⟨g2, 0, none⟩) n2 c2)).setCell ⟨gx, 11, none⟩ (.slice (some ⟨g3, 0, none⟩) n3 c3))) := ((((L5.out.setCell (p := ⟨gx, 7, none⟩) (Nat.le_of_lt NX.out) _).setCell (p := ⟨gx, 8, none⟩) (Nat.le_of_lt NX.out) _).setCell (p := ⟨gx, 9, none⟩) (Nat.le_of_lt NX.out) _).setCell (p := ⟨gx, 10, none⟩) (Nat.le_of_lt NX.out) _).setCell (p := ⟨gx, 11, none⟩) (Nat.le_of_lt NX.out) _
  have X6 : Hid (Bk (((((w5.setCell ⟨gx, 7, none⟩ (.string sq)).setCell ⟨gx, 8, none⟩ (.int .i64 tq)).setCell ⟨gx, 9, none⟩ (.slice (some ⟨g1, 0, none⟩) n1 c1)).setCell ⟨gx, 10, none⟩ (.slice (some ⟨g2, 0, none⟩) n2 c2)).setCell ⟨gx, 11, none⟩ (.slice (some ⟨g3, 0, none⟩) n3 c3)) gx 28 (mc (wq H sq tq) (.slice (some ⟨g1, 0, none⟩) n1 c1) (.slice (some ⟨g2, 0, none⟩) n2 c2) (.slice (some ⟨g3, 0, none⟩) n3 c3))) := ((((X5.out.set 7 (.string sq)).set 8 (.int .i64 tq)).set 9 (.slice (some ⟨g1, 0, none⟩) n1 c1)).set 10 (.slice (some ⟨g2, 0, none⟩) n2 c2)).set 11 (.slice (some ⟨g3, 0, none⟩) n3 c3)
  have ng0 : w.heap.size ≠ gx := Nat.ne_of_lt NX.out
  have ng1 : g1 ≠ gx := Nat.ne_of_gt O0.out
  have ng2 : g2 ≠ gx := Nat.ne_of_gt (Nat.lt_trans O0.out O2.out)
  have ng3 : g3 ≠ gx := Nat.ne_of_gt (Nat.lt_trans (Nat.lt_trans O0.out O2.out) O3.out)
  have Z6 : Hid (Bk (((((w5.setCell ⟨gx, 7, none⟩ (.string sq)).setCell ⟨gx, 8, none⟩ (.int .i64 tq)).setCell ⟨gx, 9, none⟩ (.slice (some ⟨g1, 0, none⟩) n1 c1)).setCell ⟨gx, 10, none⟩ (.slice (some ⟨g2, 0, none⟩) n2 c2)).setCell ⟨gx, 11, none⟩ (.slice (some ⟨g3, 0, none⟩) n3 c3)) w.heap.size 28 (mc zh (.slice none 0 0) (.slice none 0 0) (.slice none 0 0))) := ((((Z5.out.other (p := ⟨gx, 7, none⟩) (ng0) _).other (p := ⟨gx, 8, none⟩) (ng0) _).other (p := ⟨gx, 9, none⟩) (ng0) _).other (p := ⟨gx, 10, none⟩) (ng0) _).other (p := ⟨gx, 11, none⟩) (ng0) _
  have B1_6 : Hid (Bk (((((w5.setCell ⟨gx, 7, none⟩ (.string sq)).setCell ⟨gx, 8, none⟩ (.int .i64 tq)).setCell ⟨gx, 9, none⟩ (.slice (some ⟨g1, 0, none⟩) n1 c1)).setCell ⟨gx, 10, none⟩ (.slice (some ⟨g2, 0, none⟩) n2 c2)).setCell ⟨gx, 11, none⟩ (.slice (some ⟨g3, 0, none⟩) n3 c3)) g1 117 (fl l1 ++ r1)) := ((((B1_5.out.other (p := ⟨gx, 7, none⟩) (ng1) _).other (p := ⟨gx, 8, none⟩) (ng1) _).other (p := ⟨gx, 9, none⟩) (ng1) _).other (p := ⟨gx, 10, none⟩) (ng1) _).other (p := ⟨gx, 11, none⟩) (ng1) _
  have B2_6 : Hid (Bk (((((w5.setCell ⟨gx, 7, none⟩ (.string sq)).setCell ⟨gx, 8, none⟩ (.int .i64 tq)).setCell ⟨gx, 9, none⟩ (.slice (some ⟨g1, 0, none⟩) n1 c1)).setCell ⟨gx, 10, none⟩ (.slice (some ⟨g2, 0, none⟩) n2 c2)).setCell ⟨gx, 11, none⟩ (.slice (some ⟨g3, 0, none⟩) n3 c3)) g2 117 (fl l2 ++ r2)) := ((((B2_5.out.other (p := ⟨gx, 7, none⟩) (ng2) _).other (p := ⟨gx, 8, none⟩) (ng2) _).other (p := ⟨gx, 9, none⟩) (ng2) _).other (p := ⟨gx, 10, none⟩) (ng2) _).other (p := ⟨gx, 11, none⟩) (ng2) _
  have B3_6 : Hid (Bk (((((w5.setCell ⟨gx, 7, none⟩ (.string sq)).setCell ⟨gx, 8, none⟩ (.int .i64 tq)).setCell ⟨gx, 9, none⟩ (.slice (some ⟨g1, 0, none⟩) n1 c1)).setCell ⟨gx, 10, none⟩ (.slice (some ⟨g2, 0, none⟩) n2 c2)).setCell ⟨gx, 11, none⟩ (.slice (some ⟨g3, 0, none⟩) n3 c3)) g3 117 (fl l3 ++ r3)) := ((((B3_5.out.other (p := ⟨gx, 7, none⟩) (ng3) _).other (p := ⟨gx, 8, none⟩) (ng3) _).other (p := ⟨gx, 9, none⟩) (ng3) _).other (p := ⟨gx, 10, none⟩) (ng3) _).other (p := ⟨gx, 11, none⟩) (ng3) _
  clear L5 X5 Z5 B1_5 B2_5 B3_5 ng1 ng2 ng3
  have NG1 : Hid (w.heap.size < g1) := Nat.lt_trans NX.out O0.out
  have NG2 : Hid (w.heap.size < g2) := Nat.lt_trans NG1.out O2.out
  have NG3 : Hid (w.heap.size < g3) := Nat.lt_trans NG2.out O3.out
  generalize hw : (((((w5.setCell ⟨gx, 7, none⟩ (.string sq)).setCell ⟨gx, 8, none⟩ (.int .i64 tq)).setCell ⟨gx, 9, none⟩ (.slice (some ⟨g1, 0, none⟩) n1 c1)).setCell ⟨gx, 10, none⟩ (.slice (some ⟨g2, 0, none⟩) n2 c2)).setCell ⟨gx, 11, none⟩ (.slice (some ⟨g3, 0, none⟩) n3 c3)) = w6 at *
  clear hw
  obtain ⟨z0, z1, z2, z3, z4, z5, z6, z7, z8, z9, z10, z11⟩ := mx_of Z6.out
  have f0 := Z6.out.free 0
  have f1 := Z6.out.free 1
  have f2 := Z6.out.free 2
  have f3 := Z6.out.free 3
  have f4 := Z6.out.free 4
  have f5 := Z6.out.free 5
  have f6 := Z6.out.free 6
  have f7 := Z6.out.free 7
  have f8 := Z6.out.free 8
  have f9 := Z6.out.free 9
  have f10 := Z6.out.free 10
  have f11 := Z6.out.free 11
  obtain ⟨y0, y1, y2, y3, y4, y5, y6, y7, y8, y9, y10, y11⟩ := mx_of X6.out
  go_wp2
  refine bodyPost_ret (v := .tuple #[.agg #[.int .i64 (wq H sq tq).id, .bool (wq H sq tq).rp, .bool (wq H sq tq).au, .bool (wq H sq tq).ct, .bool (wq H sq tq).wa, .bool (wq H sq tq).ca, .int .i64 (wq H sq tq).code, .string (wq H sq tq).qn, .int .i64 (wq H sq tq).qt, .slice (some ⟨g1, 0, none⟩) n1 c1, .slice (some ⟨g2, 0, none⟩) n2 c2, .slice (some ⟨g3, 0, none⟩) n3 c3], .bool true]) (res2M rfl (filM_bk Z6.out (wq H sq tq) (.slice (some ⟨g1, 0, none⟩) n1 c1) (.slice (some ⟨g2, 0, none⟩) n2 c2) (.slice (some ⟨g3, 0, none⟩) n3 c3)) rfl rfl) rfl (Or.inr ⟨HB.out, ?_⟩)
  rw [GM.out]
  exact ⟨g1, c1, r1, g2, c2, r2, g3, c3, r3, rfl, filM_other B1_6.out (g := w.heap.size) (Nat.ne_of_gt NG1.out) (wq H sq tq) (.slice (some ⟨g1, 0, none⟩) n1 c1) (.slice (some ⟨g2, 0, none⟩) n2 c2) (.slice (some ⟨g3, 0, none⟩) n3 c3), filM_other B2_6.out (g := w.heap.size) (Nat.ne_of_gt NG2.out) (wq H sq tq) (.slice (some ⟨g1, 0, none⟩) n1 c1) (.slice (some ⟨g2, 0, none⟩) n2 c2) (.slice (some ⟨g3, 0, none⟩) n3 c3), filM_other B3_6.out (g := w.heap.size) (Nat.ne_of_gt NG3.out) (wq H sq tq) (.slice (some ⟨g1, 0, none⟩) n1 c1) (.slice (some ⟨g2, 0, none⟩) n2 c2) (.slice (some ⟨g3, 0, none⟩) n3 c3), O1.out, O2.out, O3.out, filM_below L6.out (Nat.le_refl _) (wq H sq tq) (.slice (some ⟨g1, 0, none⟩) n1 c1) (.slice (some ⟨g2, 0, none⟩) n2 c2) (.slice (some ⟨g3, 0, none⟩) n3 c3)⟩
end Go.Proofs.YtkfibepejlgniaaGreatDoor.GetMS

/- What the program's sectionsFrom does: it reads the three sections one behind another, and turns nothing that was there. Conditions: at most 400000000 bytes; the library's variable internal/bytealg.MaxLen holds an int. -/
namespace Go.Proofs.YtkfibepejlgniaaGreatDoor.SecI
open Go.RowKit Go.Proofs.YtkfibepejlgniaaGreatDoor.Mem Go.Proofs.YtkfibepejlgniaaGreatDoor.MemR Go.Proofs.YtkfibepejlgniaaGreatDoor.MemM Go.Proofs.YtkfibepejlgniaaGreatDoor.Labels Go.Proofs.YtkfibepejlgniaaGreatDoor.Get Go.Proofs.YtkfibepejlgniaaGreatDoor.ResR Go.Proofs.YtkfibepejlgniaaGreatDoor.ResM Go.Proofs.YtkfibepejlgniaaGreatDoor.FieldMath Go.Proofs.YtkfibepejlgniaaGreatDoor.GetsM Go.Proofs.YtkfibepejlgniaaGreatDoor.GetMS

/-- An array of three values in a box. -/
def filA (w : World) (g : Nat) (x y z : Value) : World := ((w.setCell ⟨g, 0, none⟩ x).setCell ⟨g, 1, none⟩ y).setCell ⟨g, 2, none⟩ z
section
variable {w w1 : World} {g B : Nat} {t : TypeId} {x y z x0 y0 z0 : Value}
theorem filA_bk (k : Bk w g t [x0, y0, z0]) (x y z : Value) : Bk (filA w g x y z) g t [x, y, z] := ((k.set 0 x).set 1 y).set 2 z
theorem filA_below (k : Below B w w1) (hg : B ≤ g) (x y z : Value) : Below B w (filA w1 g x y z) := ((k.setCell (p := ⟨g, 0, none⟩) hg x).setCell (p := ⟨g, 1, none⟩) hg y).setCell (p := ⟨g, 2, none⟩) hg z
theorem filA_other {j : Nat} {u : TypeId} {cs : List Value} (k : Bk w j u cs) (hk : j ≠ g) (x y z : Value) : Bk (filA w g x y z) j u cs := ((k.other (p := ⟨g, 0, none⟩) hk x).other (p := ⟨g, 1, none⟩) hk y).other (p := ⟨g, 2, none⟩) hk z
end
theorem load_a {w : World} {g : Nat} {t : TypeId} {a1 a2 a3 : Option Addr} {m1 k1 m2 k2 m3 k3 : Nat} (h : Bk w g t [.slice a1 m1 k1, .slice a2 m2 k2, .slice a3 m3 k3]) : (loadVar 73 ⟨g, 0, none⟩).run Tryz.prog w = .ok (.agg #[.slice a1 m1 k1, .slice a2 m2 k2, .slice a3 m3 k3]) w := by
  have c0 : w.cell? ⟨g, 0, none⟩ = some (.slice a1 m1 k1) := h.cell 0
  have c1 : w.cell? ⟨g, 1, none⟩ = some (.slice a2 m2 k2) := h.cell 1
  have c2 : w.cell? ⟨g, 2, none⟩ = some (.slice a3 m3 k3) := h.cell 2
  simp [go_sem, c0, c1, c2]
theorem res2A {fn : Func} {p u : Tmp} {w : World} {g : Nat} {t : TypeId} {a1 a2 a3 : Option Addr} {m1 k1 m2 k2 m3 k3 : Nat} {x : Value} {tmps : Array Value} (hf : fn.results = #[.cell p 73, .tmp u]) (h : Bk w g t [.slice a1 m1 k1, .slice a2 m2 k2, .slice a3 m3 k3]) (h4 : tmps.getD p undef = .pointer (some ⟨g, 0, none⟩)) (h5 : tmps.getD u undef = x) :
    (results fn tmps).run Tryz.prog w = .ok (.tuple #[.agg #[.slice a1 m1 k1, .slice a2 m2 k2, .slice a3 m3 k3], x]) w := by
  rw [results_cell_tmp hf, h4, h5, as_addr]
  simp only [Result.andThen, load_a h]
theorem ix (a b c : Int) (W : World) : Sem.run Tryz.prog (Instr.index 95 (.agg #[.int .i64 a, .int .i64 b, .int .i64 c]) (.int .i64 0)) W = .ok (.int .i64 a) W ∧ Sem.run Tryz.prog (Instr.index 95 (.agg #[.int .i64 a, .int .i64 b, .int .i64 c]) (.int .i64 1)) W = .ok (.int .i64 b) W ∧ Sem.run Tryz.prog (Instr.index 95 (.agg #[.int .i64 a, .int .i64 b, .int .i64 c]) (.int .i64 2)) W = .ok (.int .i64 c) W := by
  refine ⟨?_, ?_, ?_⟩ <;> simp [Instr.index, go_sem]
/-- What sectionsFrom hands back: something and false, or the three sections and true. -/
def Sec (w : World) (ok : Bool) (n1 n2 n3 : Nat) (l1 l2 l3 : List Rec) (e : Ending) (w' : World) : Prop :=
  (ok = false ∧ ∃ a1 m1 k1 a2 m2 k2 a3 m3 k3, e = .returned (.tuple #[.agg #[.slice a1 m1 k1, .slice a2 m2 k2, .slice a3 m3 k3], .bool false]) ∧ Below w.heap.size w w') ∨
  (ok = true ∧ ∃ g1 c1 r1 g2 c2 r2 g3 c3 r3, e = .returned (.tuple #[.agg #[.slice (some ⟨g1, 0, none⟩) n1 c1, .slice (some ⟨g2, 0, none⟩) n2 c2, .slice (some ⟨g3, 0, none⟩) n3 c3], .bool true]) ∧ Bk w' g1 117 (fl l1 ++ r1) ∧ Bk w' g2 117 (fl l2 ++ r2) ∧ Bk w' g3 117 (fl l3 ++ r3) ∧ w.heap.size ≤ g1 ∧ g1 < g2 ∧ g2 < g3 ∧ Below w.heap.size w w')
/-- The boxes of the result and of the sections so far. -/
def Bx2 (w wr : World) (x y z : Value) : Prop := Bk wr (w.heap.size + 1) 73 [(.slice none 0 0), (.slice none 0 0), (.slice none 0 0)] ∧ Bk wr (w.heap.size + 1 + 1) 73 [x, y, z] ∧ Below w.heap.size w wr
theorem Bx2.on {w wr w' : World} {x y z : Value} (h : Bx2 w wr x y z) (hl : Below wr.heap.size wr w') : Bx2 w w' x y z := ⟨h.1.below hl h.1.lt, h.2.1.below hl h.2.1.lt, h.2.2.trans (hl.mono h.2.2.size)⟩
def T1 (w : World) (n1 : Nat) (l1 : List Rec) (wr : World) : Prop := ∃ g1 c1 r1, Bx2 w wr (.slice (some ⟨g1, 0, none⟩) n1 c1) (.slice none 0 0) (.slice none 0 0) ∧ Bk wr g1 117 (fl l1 ++ r1) ∧ w.heap.size + 1 + 1 < g1
def T2 (w : World) (n1 n2 : Nat) (l1 l2 : List Rec) (wr : World) : Prop := ∃ g1 c1 r1 g2 c2 r2, Bx2 w wr (.slice (some ⟨g1, 0, none⟩) n1 c1) (.slice (some ⟨g2, 0, none⟩) n2 c2) (.slice none 0 0) ∧ Bk wr g1 117 (fl l1 ++ r1) ∧ Bk wr g2 117 (fl l2 ++ r2) ∧ w.heap.size + 1 + 1 < g1 ∧ g1 < g2
def T3 (w : World) (n1 n2 n3 : Nat) (l1 l2 l3 : List Rec) (wr : World) : Prop := ∃ g1 c1 r1 g2 c2 r2 g3 c3 r3, Bx2 w wr (.slice (some ⟨g1, 0, none⟩) n1 c1) (.slice (some ⟨g2, 0, none⟩) n2 c2) (.slice (some ⟨g3, 0, none⟩) n3 c3) ∧ Bk wr g1 117 (fl l1 ++ r1) ∧ Bk wr g2 117 (fl l2 ++ r2) ∧ Bk wr g3 117 (fl l3 ++ r3) ∧ w.heap.size + 1 + 1 < g1 ∧ g1 < g2 ∧ g2 < g3
theorem Bx2.set {w wr : World} {x y z : Value} (h : Bx2 w wr x y z) (v : Value) : Bx2 w (wr.setCell ⟨w.heap.size + 1 + 1, 0, none⟩ v) v y z ∧ Bx2 w (wr.setCell ⟨w.heap.size + 1 + 1, 1, none⟩ v) x v z ∧ Bx2 w (wr.setCell ⟨w.heap.size + 1 + 1, 2, none⟩ v) x y v := by
  have hne : w.heap.size + 1 ≠ w.heap.size + 1 + 1 := by omega
  have hle : w.heap.size ≤ w.heap.size + 1 + 1 := by omega
  exact ⟨⟨h.1.other hne v, h.2.1.set 0 v, h.2.2.setCell hle v⟩, ⟨h.1.other hne v, h.2.1.set 1 v, h.2.2.setCell hle v⟩, ⟨h.1.other hne v, h.2.1.set 2 v, h.2.2.setCell hle v⟩⟩

set_option maxRecDepth 100000 in
set_option maxHeartbeats 8000000 in
theorem impl (A : Option Addr) (n c : Nat) (l : List UInt8) (pq q1 q2 q3 : Int) (w : World) (he : Env w) (hs : Sl w w.heap.size A n l) (hnc : n ≤ c) (hn : n ≤ 400000000) (ok : Bool) (d1 d2 d3 : Nat) (p1 p2 p3 : Int) (l1 l2 l3 : List Rec) (n1 n2 n3 : Nat)
    (e1 : grA l pq q1 = (d1, p1, l1)) (e2 : grA l p1 q2 = (d2, p2, l2)) (e3 : grA l p2 q3 = (d3, p3, l3)) (h1 : l1.length = n1) (h2 : l2.length = n2) (h3 : l3.length = n3) (hok : ok = decide (d1 = 0 ∧ d2 = 0 ∧ d3 = 0 ∧ p3 = (n : Int))) :
    Calls Tryz.prog 91 #[.slice A n c, .int .i64 pq, .agg #[.int .i64 q1, .int .i64 q2, .int .i64 q3]] w (Sec w ok n1 n2 n3 l1 l2 l3) := by
  have RD := Lib.hid (fun (k q : Int) (W : World) (hW : Below w.heap.size w W) => (GetsI.recs A n c l k q W (he.below hW) ((hs.below hW).wider hW.size) hnc hn).mono fun _ _ => gr_of)
  have R1 := Lib.hid (RD.out pq q1)
  have R2 := Lib.hid (RD.out p1 q2)
  have R3 := Lib.hid (RD.out p2 q3)
  unfold Gr at R1 R2 R3
  rw [e1] at R1
  rw [e2] at R2
  rw [e3] at R3
  dsimp only at R1 R2 R3
  rw [h1] at R1
  rw [h2] at R2
  rw [h3] at R3
  have HO := Lib.hid hok
  have B0 : Hid (Bx2 w (((w.alloc (.cells #[.int .i64 q1, .int .i64 q2, .int .i64 q3] 95)).alloc (.cells #[.slice none 0 0, .slice none 0 0, .slice none 0 0] 73)).alloc (.cells #[.slice none 0 0, .slice none 0 0, .slice none 0 0] 73)) (.slice none 0 0) (.slice none 0 0) (.slice none 0 0)) :=
    ⟨(show Bk ((w.alloc (.cells #[.int .i64 q1, .int .i64 q2, .int .i64 q3] 95)).alloc (.cells #[.slice none 0 0, .slice none 0 0, .slice none 0 0] 73)) (w.heap.size + 1) 73 _ from at2).alloc _, at3, (((Below.refl w.heap.size w).alloc (Nat.le_refl _) _).alloc (by simp) _).alloc (by simp; omega) _⟩
  clear RD he hs e1 e2 e3 h1 h2 h3 hok hnc
  have IX := Lib.hid (ix q1 q2 q3)
  go_enter Tryz.func91, Tryz.ntmps91
  go_wp2
  go_loopw [16, 1] (fun i a wr => (i = .int .i64 0 ∧ a = .int .i64 pq ∧ Hid (Bx2 w wr (.slice none 0 0) (.slice none 0 0) (.slice none 0 0))) ∨ (i = .int .i64 1 ∧ a = .int .i64 p1 ∧ Hid (d1 = 0) ∧ Hid (T1 w n1 l1 wr)) ∨ (i = .int .i64 2 ∧ a = .int .i64 p2 ∧ Hid (d1 = 0 ∧ d2 = 0) ∧ Hid (T2 w n1 n2 l1 l2 wr)) ∨ (i = .int .i64 3 ∧ a = .int .i64 p3 ∧ Hid (d1 = 0 ∧ d2 = 0 ∧ d3 = 0) ∧ Hid (T3 w n1 n2 n3 l1 l2 l3 wr))) (fun i _ _ => 3 - (intOf i).toNat)
  case atStart => exact Or.inl ⟨rfl, rfl, B0.out⟩
  case round =>
    clear B0
    obtain ⟨ix0, ix1, ix2⟩ : (∀ W, Sem.run Tryz.prog (Instr.index 95 (.agg #[.int .i64 q1, .int .i64 q2, .int .i64 q3]) (.int .i64 0)) W = .ok (.int .i64 q1) W) ∧ (∀ W, Sem.run Tryz.prog (Instr.index 95 (.agg #[.int .i64 q1, .int .i64 q2, .int .i64 q3]) (.int .i64 1)) W = .ok (.int .i64 q2) W) ∧ (∀ W, Sem.run Tryz.prog (Instr.index 95 (.agg #[.int .i64 q1, .int .i64 q2, .int .i64 q3]) (.int .i64 2)) W = .ok (.int .i64 q3) W) := ⟨fun W => (IX.out W).1, fun W => (IX.out W).2.1, fun W => (IX.out W).2.2⟩
    rcases hrel with ⟨rfl, rfl, HB⟩ | ⟨rfl, rfl, HD, HT⟩ | ⟨rfl, rfl, HD, HT⟩ | ⟨rfl, rfl, HD, HT⟩
    · go_wp2_with fail
      refine (R1.out wr HB.out.2.2).mono ?_
      rintro e w4 ⟨g1, c1, r1, rfl, hk, hg, hl⟩
      have H4 := Lib.hid (HB.out.on hl)
      have K1' := Lib.hid hk
      have O1 : Hid (w.heap.size + 1 + 1 < g1) := Nat.lt_of_lt_of_le HB.out.2.1.lt hg
      clear hk hg hl HB 
      by_cases hd : d1 = 0
      · have hd1 : ((d1 : Int) != 0) = false := by rw [hd]; rfl
        have hd2 : (d1 : Int) = 0 := by rw [hd]; rfl
        have HD1 := Lib.hid hd
        clear hd
        have fs := H4.out.2.1.free 0
        have cs : w4.cell? ⟨w.heap.size + 1 + 1, 0, none⟩ = some (.slice none 0 0) := H4.out.2.1.cell 0
        go_wp2
        go_roundw
        case rel => exact Or.inr (Or.inl (⟨by first | rfl | go_num, rfl, HD1.out, ⟨g1, c1, r1, (H4.out.set (.slice (some ⟨g1, 0, none⟩) n1 c1)).1, K1'.out.other (p := ⟨w.heap.size + 1 + 1, 0, none⟩) (Nat.ne_of_gt O1.out) _, O1.out⟩⟩))
        case measure => simp [intOf]
      · have hd1 : ((d1 : Int) != 0) = true := by simp; omega
        have hd2 : ¬ (d1 : Int) = 0 := by omega
        have HN : Hid (ok = false) := HO.out.trans (decide_eq_false (fun e => hd e.1))
        clear hd
        obtain ⟨bz, bs, bl⟩ := H4.out
        have z0 : w4.cell? ⟨w.heap.size + 1, 0, none⟩ = some (.slice none 0 0) := bz.cell 0
        have z1 : w4.cell? ⟨w.heap.size + 1, 1, none⟩ = some (.slice none 0 0) := bz.cell 1
        have z2 : w4.cell? ⟨w.heap.size + 1, 2, none⟩ = some (.slice none 0 0) := bz.cell 2
        have f0 := bz.free 0
        have f1 := bz.free 1
        have f2 := bz.free 2
        have BZ := Lib.hid bz
        have BL := Lib.hid bl
        have s0 : w4.cell? ⟨w.heap.size + 1 + 1, 0, none⟩ = some (.slice none 0 0) := bs.cell 0
        have s1 : w4.cell? ⟨w.heap.size + 1 + 1, 1, none⟩ = some (.slice none 0 0) := bs.cell 1
        have s2 : w4.cell? ⟨w.heap.size + 1 + 1, 2, none⟩ = some (.slice none 0 0) := bs.cell 2
        clear bz bs bl
        go_wp2
        exact bodyPost_ret (v := .tuple #[.agg #[.slice none 0 0, .slice none 0 0, .slice none 0 0], .bool false]) (res2A rfl (filA_bk BZ.out (.slice none 0 0) (.slice none 0 0) (.slice none 0 0)) rfl rfl) rfl (Or.inl ⟨HN.out, _, _, _, _, _, _, _, _, _, rfl, filA_below BL.out (Nat.le_succ _) (.slice none 0 0) (.slice none 0 0) (.slice none 0 0)⟩)
    · obtain ⟨g1, c1, r1, hb0, hk1, ho1⟩ := HT.out
      have HB := Lib.hid hb0
      have K1 := Lib.hid hk1
      have O1 := Lib.hid ho1
      clear hb0 HT hk1 ho1
      go_wp2_with fail
      refine (R2.out wr HB.out.2.2).mono ?_
      rintro e w4 ⟨g2, c2, r2, rfl, hk, hg, hl⟩
      have H4 := Lib.hid (HB.out.on hl)
      have K2' := Lib.hid hk
      have K1' := Lib.hid (K1.out.below hl K1.out.lt)
      have O2 : Hid (g1 < g2) := Nat.lt_of_lt_of_le K1.out.lt hg
      clear hk hg hl HB K1
      by_cases hd : d2 = 0
      · have hd1 : ((d2 : Int) != 0) = false := by rw [hd]; rfl
        have hd2 : (d2 : Int) = 0 := by rw [hd]; rfl
        have HD2 := Lib.hid hd
        clear hd
        have fs := H4.out.2.1.free 1
        have cs : w4.cell? ⟨w.heap.size + 1 + 1, 1, none⟩ = some (.slice none 0 0) := H4.out.2.1.cell 1
        go_wp2
        go_roundw
        case rel => exact Or.inr (Or.inr (Or.inl (⟨by first | rfl | go_num, rfl, ⟨HD.out, HD2.out⟩, ⟨g1, c1, r1, g2, c2, r2, (H4.out.set (.slice (some ⟨g2, 0, none⟩) n2 c2)).2.1, K1'.out.other (p := ⟨w.heap.size + 1 + 1, 1, none⟩) (Nat.ne_of_gt O1.out) _, K2'.out.other (p := ⟨w.heap.size + 1 + 1, 1, none⟩) (Nat.ne_of_gt (Nat.lt_trans O1.out O2.out)) _, O1.out, O2.out⟩⟩)))
        case measure => simp [intOf]
      · have hd1 : ((d2 : Int) != 0) = true := by simp; omega
        have hd2 : ¬ (d2 : Int) = 0 := by omega
        have HN : Hid (ok = false) := HO.out.trans (decide_eq_false (fun e => hd e.2.1))
        clear hd
        obtain ⟨bz, bs, bl⟩ := H4.out
        have z0 : w4.cell? ⟨w.heap.size + 1, 0, none⟩ = some (.slice none 0 0) := bz.cell 0
        have z1 : w4.cell? ⟨w.heap.size + 1, 1, none⟩ = some (.slice none 0 0) := bz.cell 1
        have z2 : w4.cell? ⟨w.heap.size + 1, 2, none⟩ = some (.slice none 0 0) := bz.cell 2
        have f0 := bz.free 0
        have f1 := bz.free 1
        have f2 := bz.free 2
        have BZ := Lib.hid bz
        have BL := Lib.hid bl
        have s0 : w4.cell? ⟨w.heap.size + 1 + 1, 0, none⟩ = some (.slice (some ⟨g1, 0, none⟩) n1 c1) := bs.cell 0
        have s1 : w4.cell? ⟨w.heap.size + 1 + 1, 1, none⟩ = some (.slice none 0 0) := bs.cell 1
        have s2 : w4.cell? ⟨w.heap.size + 1 + 1, 2, none⟩ = some (.slice none 0 0) := bs.cell 2
        clear bz bs bl
        go_wp2
        exact bodyPost_ret (v := .tuple #[.agg #[.slice (some ⟨g1, 0, none⟩) n1 c1, .slice none 0 0, .slice none 0 0], .bool false]) (res2A rfl (filA_bk BZ.out (.slice (some ⟨g1, 0, none⟩) n1 c1) (.slice none 0 0) (.slice none 0 0)) rfl rfl) rfl (Or.inl ⟨HN.out, _, _, _, _, _, _, _, _, _, rfl, filA_below BL.out (Nat.le_succ _) (.slice (some ⟨g1, 0, none⟩) n1 c1) (.slice none 0 0) (.slice none 0 0)⟩)
    · obtain ⟨g1, c1, r1, g2, c2, r2, hb0, hk1, hk2, ho1, ho2⟩ := HT.out
      have HB := Lib.hid hb0
      have K1 := Lib.hid hk1
      have O1 := Lib.hid ho1
      have K2 := Lib.hid hk2
      have O2 := Lib.hid ho2
      clear hb0 HT hk1 ho1 hk2 ho2
      go_wp2_with fail
      refine (R3.out wr HB.out.2.2).mono ?_
      rintro e w4 ⟨g3, c3, r3, rfl, hk, hg, hl⟩
      have H4 := Lib.hid (HB.out.on hl)
      have K3' := Lib.hid hk
      have K1' := Lib.hid (K1.out.below hl K1.out.lt)
      have K2' := Lib.hid (K2.out.below hl K2.out.lt)
      have O3 : Hid (g2 < g3) := Nat.lt_of_lt_of_le K2.out.lt hg
      clear hk hg hl HB K1 K2
      by_cases hd : d3 = 0
      · have hd1 : ((d3 : Int) != 0) = false := by rw [hd]; rfl
        have hd2 : (d3 : Int) = 0 := by rw [hd]; rfl
        have HD3 := Lib.hid hd
        clear hd
        have fs := H4.out.2.1.free 2
        have cs : w4.cell? ⟨w.heap.size + 1 + 1, 2, none⟩ = some (.slice none 0 0) := H4.out.2.1.cell 2
        go_wp2
        go_roundw
        case rel => exact Or.inr (Or.inr (Or.inr (⟨by first | rfl | go_num, rfl, ⟨HD.out.1, HD.out.2, HD3.out⟩, ⟨g1, c1, r1, g2, c2, r2, g3, c3, r3, (H4.out.set (.slice (some ⟨g3, 0, none⟩) n3 c3)).2.2, K1'.out.other (p := ⟨w.heap.size + 1 + 1, 2, none⟩) (Nat.ne_of_gt O1.out) _, K2'.out.other (p := ⟨w.heap.size + 1 + 1, 2, none⟩) (Nat.ne_of_gt (Nat.lt_trans O1.out O2.out)) _, K3'.out.other (p := ⟨w.heap.size + 1 + 1, 2, none⟩) (Nat.ne_of_gt (Nat.lt_trans (Nat.lt_trans O1.out O2.out) O3.out)) _, O1.out, O2.out, O3.out⟩⟩)))
        case measure => simp [intOf]
      · have hd1 : ((d3 : Int) != 0) = true := by simp; omega
        have hd2 : ¬ (d3 : Int) = 0 := by omega
        have HN : Hid (ok = false) := HO.out.trans (decide_eq_false (fun e => hd e.2.2.1))
        clear hd
        obtain ⟨bz, bs, bl⟩ := H4.out
        have z0 : w4.cell? ⟨w.heap.size + 1, 0, none⟩ = some (.slice none 0 0) := bz.cell 0
        have z1 : w4.cell? ⟨w.heap.size + 1, 1, none⟩ = some (.slice none 0 0) := bz.cell 1
        have z2 : w4.cell? ⟨w.heap.size + 1, 2, none⟩ = some (.slice none 0 0) := bz.cell 2
        have f0 := bz.free 0
        have f1 := bz.free 1
        have f2 := bz.free 2
        have BZ := Lib.hid bz
        have BL := Lib.hid bl
        have s0 : w4.cell? ⟨w.heap.size + 1 + 1, 0, none⟩ = some (.slice (some ⟨g1, 0, none⟩) n1 c1) := bs.cell 0
        have s1 : w4.cell? ⟨w.heap.size + 1 + 1, 1, none⟩ = some (.slice (some ⟨g2, 0, none⟩) n2 c2) := bs.cell 1
        have s2 : w4.cell? ⟨w.heap.size + 1 + 1, 2, none⟩ = some (.slice none 0 0) := bs.cell 2
        clear bz bs bl
        go_wp2
        exact bodyPost_ret (v := .tuple #[.agg #[.slice (some ⟨g1, 0, none⟩) n1 c1, .slice (some ⟨g2, 0, none⟩) n2 c2, .slice none 0 0], .bool false]) (res2A rfl (filA_bk BZ.out (.slice (some ⟨g1, 0, none⟩) n1 c1) (.slice (some ⟨g2, 0, none⟩) n2 c2) (.slice none 0 0)) rfl rfl) rfl (Or.inl ⟨HN.out, _, _, _, _, _, _, _, _, _, rfl, filA_below BL.out (Nat.le_succ _) (.slice (some ⟨g1, 0, none⟩) n1 c1) (.slice (some ⟨g2, 0, none⟩) n2 c2) (.slice none 0 0)⟩)
    · obtain ⟨g1, c1, r1, g2, c2, r2, g3, c3, r3, hb0, hk1, hk2, hk3, ho1, ho2, ho3⟩ := HT.out
      have H4 := Lib.hid hb0
      have K1 := Lib.hid hk1
      have K2 := Lib.hid hk2
      have K3 := Lib.hid hk3
      clear HT hb0 hk1 hk2 hk3
      generalize wr = w4 at *
      have N1 : Hid (g1 ≠ w.heap.size + 1) := Nat.ne_of_gt (Nat.lt_trans (Nat.lt_succ_self _) ho1)
      have N2 : Hid (g2 ≠ w.heap.size + 1) := Nat.ne_of_gt (Nat.lt_trans (Nat.lt_trans (Nat.lt_succ_self _) ho1) ho2)
      have N3 : Hid (g3 ≠ w.heap.size + 1) := Nat.ne_of_gt (Nat.lt_trans (Nat.lt_trans (Nat.lt_trans (Nat.lt_succ_self _) ho1) ho2) ho3)
      have O1 : Hid (w.heap.size ≤ g1) := by show _ ≤ _; omega
      have O2 := Lib.hid ho2
      have O3 := Lib.hid ho3
      clear ho1 ho2 ho3
      obtain ⟨bz, bs, bl⟩ := H4.out
      have z0 : w4.cell? ⟨w.heap.size + 1, 0, none⟩ = some (.slice none 0 0) := bz.cell 0
      have z1 : w4.cell? ⟨w.heap.size + 1, 1, none⟩ = some (.slice none 0 0) := bz.cell 1
      have z2 : w4.cell? ⟨w.heap.size + 1, 2, none⟩ = some (.slice none 0 0) := bz.cell 2
      have f0 := bz.free 0
      have f1 := bz.free 1
      have f2 := bz.free 2
      have BZ := Lib.hid bz
      have BL := Lib.hid bl
      have s0 : w4.cell? ⟨w.heap.size + 1 + 1, 0, none⟩ = some (.slice (some ⟨g1, 0, none⟩) n1 c1) := bs.cell 0
      have s1 : w4.cell? ⟨w.heap.size + 1 + 1, 1, none⟩ = some (.slice (some ⟨g2, 0, none⟩) n2 c2) := bs.cell 1
      have s2 : w4.cell? ⟨w.heap.size + 1 + 1, 2, none⟩ = some (.slice (some ⟨g3, 0, none⟩) n3 c3) := bs.cell 2
      clear bz bs bl
      by_cases hp : p3 = (n : Int)
      · have hp1 : (p3 == (n : Int)) = true := by simp [hp]
        have HN : Hid (ok = true) := HO.out.trans (decide_eq_true ⟨HD.out.1, HD.out.2.1, HD.out.2.2, hp⟩)
        clear hp
        go_wp2
        exact bodyPost_ret (v := .tuple #[.agg #[.slice (some ⟨g1, 0, none⟩) n1 c1, .slice (some ⟨g2, 0, none⟩) n2 c2, .slice (some ⟨g3, 0, none⟩) n3 c3], .bool true]) (res2A rfl (filA_bk BZ.out (.slice (some ⟨g1, 0, none⟩) n1 c1) (.slice (some ⟨g2, 0, none⟩) n2 c2) (.slice (some ⟨g3, 0, none⟩) n3 c3)) rfl rfl) rfl (Or.inr ⟨HN.out, g1, c1, r1, g2, c2, r2, g3, c3, r3, rfl, filA_other K1.out N1.out (.slice (some ⟨g1, 0, none⟩) n1 c1) (.slice (some ⟨g2, 0, none⟩) n2 c2) (.slice (some ⟨g3, 0, none⟩) n3 c3), filA_other K2.out N2.out (.slice (some ⟨g1, 0, none⟩) n1 c1) (.slice (some ⟨g2, 0, none⟩) n2 c2) (.slice (some ⟨g3, 0, none⟩) n3 c3), filA_other K3.out N3.out (.slice (some ⟨g1, 0, none⟩) n1 c1) (.slice (some ⟨g2, 0, none⟩) n2 c2) (.slice (some ⟨g3, 0, none⟩) n3 c3), O1.out, O2.out, O3.out, filA_below BL.out (Nat.le_succ _) (.slice (some ⟨g1, 0, none⟩) n1 c1) (.slice (some ⟨g2, 0, none⟩) n2 c2) (.slice (some ⟨g3, 0, none⟩) n3 c3)⟩)
      · have hp1 : (p3 == (n : Int)) = false := by simp [hp]
        have HN : Hid (ok = false) := HO.out.trans (decide_eq_false (fun e => hp e.2.2.2))
        clear hp
        go_wp2
        exact bodyPost_ret (v := .tuple #[.agg #[.slice (some ⟨g1, 0, none⟩) n1 c1, .slice (some ⟨g2, 0, none⟩) n2 c2, .slice (some ⟨g3, 0, none⟩) n3 c3], .bool false]) (res2A rfl (filA_bk BZ.out (.slice (some ⟨g1, 0, none⟩) n1 c1) (.slice (some ⟨g2, 0, none⟩) n2 c2) (.slice (some ⟨g3, 0, none⟩) n3 c3)) rfl rfl) rfl (Or.inl ⟨HN.out, _, _, _, _, _, _, _, _, _, rfl, filA_below BL.out (Nat.le_succ _) (.slice (some ⟨g1, 0, none⟩) n1 c1) (.slice (some ⟨g2, 0, none⟩) n2 c2) (.slice (some ⟨g3, 0, none⟩) n3 c3)⟩)
end Go.Proofs.YtkfibepejlgniaaGreatDoor.SecI

/- What GetMsg does in the program: it reads a message as MsgMath tells, and turns nothing that was there. Conditions: at most 400000000 bytes; the library's variable internal/bytealg.MaxLen holds an int. -/
namespace Go.Proofs.YtkfibepejlgniaaGreatDoor.GetMI
open Go.RowKit Go.Proofs.YtkfibepejlgniaaGreatDoor.Mem Go.Proofs.YtkfibepejlgniaaGreatDoor.MemR Go.Proofs.YtkfibepejlgniaaGreatDoor.MemM Go.Proofs.YtkfibepejlgniaaGreatDoor.Labels Go.Proofs.YtkfibepejlgniaaGreatDoor.Get Go.Proofs.YtkfibepejlgniaaGreatDoor.ResR Go.Proofs.YtkfibepejlgniaaGreatDoor.ResM Go.Proofs.YtkfibepejlgniaaGreatDoor.ResQ Go.Proofs.YtkfibepejlgniaaGreatDoor.FieldMath Go.Proofs.YtkfibepejlgniaaGreatDoor.GetsM Go.Proofs.YtkfibepejlgniaaGreatDoor.HeadRd Go.Proofs.YtkfibepejlgniaaGreatDoor.GetH Go.Proofs.YtkfibepejlgniaaGreatDoor.GetHI Go.Proofs.YtkfibepejlgniaaGreatDoor.MsgMath Go.Proofs.YtkfibepejlgniaaGreatDoor.GetQ Go.Proofs.YtkfibepejlgniaaGreatDoor.GetMS Go.Proofs.YtkfibepejlgniaaGreatDoor.SecI

theorem gmb_long {l : List UInt8} (h : ¬ l.length ≤ 512) : gmb l = false := decide_eq_false fun e => h e.1
theorem gmb_head {l : List UInt8} (h : ghb l = false) : gmb l = false := decide_eq_false fun e => by have := e.2.1; rw [h] at this; cases this
theorem gmb_quest {l : List UInt8} (h : (gq l 12).1 ≠ 0) : gmb l = false := decide_eq_false fun e => h e.2.2.1
theorem gmb_sec {l : List UInt8} (h5 : l.length ≤ 512) (hb : ghb l = true) (hq : (gq l 12).1 = 0) : gmb l = decide ((s1 l).1 = 0 ∧ (s2 l).1 = 0 ∧ (s3 l).1 = 0 ∧ (s3 l).2.1 = (l.length : Int)) := by
  by_cases h : (s1 l).1 = 0 ∧ (s2 l).1 = 0 ∧ (s3 l).1 = 0 ∧ (s3 l).2.1 = (l.length : Int)
  · rw [decide_eq_true h]; exact decide_eq_true ⟨h5, hb, hq, h⟩
  · rw [decide_eq_false h]; exact decide_eq_false fun e => h e.2.2.2
theorem five_set {w : World} {gq ga gx : Nat} {v0 v1 u0 u1 u2 : Value} (h : w.cell? ⟨gq, 0, none⟩ = some v0 ∧ w.cell? ⟨gq, 1, none⟩ = some v1 ∧ w.cell? ⟨ga, 0, none⟩ = some u0 ∧ w.cell? ⟨ga, 1, none⟩ = some u1 ∧ w.cell? ⟨ga, 2, none⟩ = some u2) (hq : gq ≠ gx) (ha : ga ≠ gx) (j : Nat) (v : Value) :
    (w.setCell ⟨gx, j, none⟩ v).cell? ⟨gq, 0, none⟩ = some v0 ∧ (w.setCell ⟨gx, j, none⟩ v).cell? ⟨gq, 1, none⟩ = some v1 ∧ (w.setCell ⟨gx, j, none⟩ v).cell? ⟨ga, 0, none⟩ = some u0 ∧ (w.setCell ⟨gx, j, none⟩ v).cell? ⟨ga, 1, none⟩ = some u1 ∧ (w.setCell ⟨gx, j, none⟩ v).cell? ⟨ga, 2, none⟩ = some u2 := by
  have e : ∀ (b k : Nat), b ≠ gx → (w.setCell ⟨gx, j, none⟩ v).cell? ⟨b, k, none⟩ = w.cell? ⟨b, k, none⟩ := fun b k hb => World.cell?_of_block (Below.heap_setCell w ⟨gx, j, none⟩ v b hb)
  exact ⟨(e gq 0 hq).trans h.1, (e gq 1 hq).trans h.2.1, (e ga 0 ha).trans h.2.2.1, (e ga 1 ha).trans h.2.2.2.1, (e ga 2 ha).trans h.2.2.2.2⟩
theorem five_draw {w : World} {gq ga : Nat} {v0 v1 u0 u1 u2 : Value} (h : w.cell? ⟨gq, 0, none⟩ = some v0 ∧ w.cell? ⟨gq, 1, none⟩ = some v1 ∧ w.cell? ⟨ga, 0, none⟩ = some u0 ∧ w.cell? ⟨ga, 1, none⟩ = some u1 ∧ w.cell? ⟨ga, 2, none⟩ = some u2) : w.drew.cell? ⟨gq, 0, none⟩ = some v0 ∧ w.drew.cell? ⟨gq, 1, none⟩ = some v1 ∧ w.drew.cell? ⟨ga, 0, none⟩ = some u0 ∧ w.drew.cell? ⟨ga, 1, none⟩ = some u1 ∧ w.drew.cell? ⟨ga, 2, none⟩ = some u2 := h

set_option maxRecDepth 100000 in
set_option maxHeartbeats 16000000 in
theorem impl (A : Option Addr) (n c : Nat) (l : List UInt8) (w : World) (he : Env w) (hs : Sl w w.heap.size A n l) (hnc : n ≤ c) (hn : n ≤ 400000000) :
    Calls Tryz.prog 34 #[.slice A n c] w (Res l w) := by
  have hl := hs.1
  have L0 := Lib.hid ((Below.refl w.heap.size w).alloc (Nat.le_refl _) (.cells #[.int .i64 0, .bool false, .bool false, .bool false, .bool false, .bool false, .int .i64 0, .string ⟨#[]⟩, .int .i64 0, .slice none 0 0, .slice none 0 0, .slice none 0 0] 28))
  have Z0 : Hid (Bk (w.alloc (.cells #[.int .i64 0, .bool false, .bool false, .bool false, .bool false, .bool false, .int .i64 0, .string ⟨#[]⟩, .int .i64 0, .slice none 0 0, .slice none 0 0, .slice none 0 0] 28)) w.heap.size 28 (mc zh (.slice none 0 0) (.slice none 0 0) (.slice none 0 0))) := heap_alloc_new w _
  have HD := Lib.hid (fun (W : World) (hW : Below w.heap.size w W) => GetHI.impl A n c l W ((hs.below hW).wider hW.size) hnc hn)
  have QD := Lib.hid (fun (W : World) (hW : Below w.heap.size w W) => GetQ.impl A n c l 12 W (he.below hW) ((hs.below hW).wider hW.size) hnc hn)
  have SD := Lib.hid (fun (W : World) (hW : Below w.heap.size w W) (ok : Bool) (hok : ok = decide ((s1 l).1 = 0 ∧ (s2 l).1 = 0 ∧ (s3 l).1 = 0 ∧ (s3 l).2.1 = (n : Int))) => SecI.impl A n c l (gq l 12).2.1 (ghn l 6) (ghn l 8) (ghn l 10) W (he.below hW) ((hs.below hW).wider hW.size) hnc hn ok (s1 l).1 (s2 l).1 (s3 l).1 (s1 l).2.1 (s2 l).2.1 (s3 l).2.1 (s1 l).2.2 (s2 l).2.2 (s3 l).2.2 _ _ _ rfl rfl rfl rfl rfl rfl hok)
  have GM : Hid (gmh l = wq (ghh l) (gq l 12).2.2.1 (gq l 12).2.2.2) := rfl
  have C1 := Lib.hid (fun (h : ¬ n ≤ 512) => gmb_long (l := l) (by rw [hl]; exact h))
  have C2 := Lib.hid (fun (h : ghb l = false) => gmb_head h)
  have C3 := Lib.hid (fun (h : (gq l 12).1 ≠ 0) => gmb_quest h)
  have C4 := Lib.hid (fun (h5 : n ≤ 512) (hb : ghb l = true) (hq : (gq l 12).1 = 0) => gmb_sec (l := l) (by rw [hl]; exact h5) hb hq)
  rw [hl] at C4
  have SD2 := Lib.hid (fun (h5 : n ≤ 512) (hb : ghb l = true) (hq : (gq l 12).1 = 0) (W : World) (hW : Below w.heap.size w W) => SD.out W hW (gmb l) (C4.out h5 hb hq))
  unfold Res
  unfold valH at HD
  unfold valQ at QD
  clear SD C4
  generalize gmb l = ok at *
  generalize gmh l = M at *
  generalize (s1 l).2.2 = l1 at *
  generalize (s2 l).2.2 = l2 at *
  generalize (s3 l).2.2 = l3 at *
  generalize gq l 12 = Q at *
  generalize ghh l = H at *
  generalize ghn l 6 = q1 at *
  generalize ghn l 8 = q2 at *
  generalize ghn l 10 = q3 at *
  generalize ghb l = hb at *
  obtain ⟨dq, pq, sq, tq⟩ := Q
  dsimp only at HD QD SD2 C3 GM ⊢
  generalize l1.length = n1 at *
  generalize l2.length = n2 at *
  generalize l3.length = n3 at *
  clear hs hl hnc he
  by_cases h512 : n ≤ 512
  case neg =>
    have HB := Lib.hid (C1.out h512)
    have h5 : (512 : Int) < (n : Int) := by omega
    clear C1 C2 C3 SD2 h512
    go_enter Tryz.func34, Tryz.ntmps34
    go_upto_region 1 with (fail)
    generalize hw : (w.alloc (.cells #[.int .i64 0, .bool false, .bool false, .bool false, .bool false, .bool false, .int .i64 0, .string ⟨#[]⟩, .int .i64 0, .slice none 0 0, .slice none 0 0, .slice none 0 0] 28)) = w1 at *
    clear hw
    obtain ⟨z0, z1, z2, z3, z4, z5, z6, z7, z8, z9, z10, z11⟩ := mx_of Z0.out
    have f0 := Z0.out.free 0
    have f1 := Z0.out.free 1
    have f2 := Z0.out.free 2
    have f3 := Z0.out.free 3
    have f4 := Z0.out.free 4
    have f5 := Z0.out.free 5
    have f6 := Z0.out.free 6
    have f7 := Z0.out.free 7
    have f8 := Z0.out.free 8
    have f9 := Z0.out.free 9
    have f10 := Z0.out.free 10
    have f11 := Z0.out.free 11
    go_wp2
    exact bodyPost_ret (v := .tuple #[.agg #[.int .i64 zh.id, .bool zh.rp, .bool zh.au, .bool zh.ct, .bool zh.wa, .bool zh.ca, .int .i64 zh.code, .string zh.qn, .int .i64 zh.qt, .slice none 0 0, .slice none 0 0, .slice none 0 0], .bool false]) (res2M rfl (filM_bk Z0.out zh (.slice none 0 0) (.slice none 0 0) (.slice none 0 0)) rfl rfl) rfl (Or.inl ⟨HB.out, rfl, filM_below L0.out (Nat.le_refl _) zh (.slice none 0 0) (.slice none 0 0) (.slice none 0 0)⟩)
  have h5 : ¬ (512 : Int) < (n : Int) := by omega
  go_enter Tryz.func34, Tryz.ntmps34
  go_wp2_with fail
  refine (HD.out _ L0.out).mono ?_
  rintro e w1 ⟨rfl, hl⟩
  have L1' := L0.out.trans (hl.mono L0.out.size)
  have L1 := Lib.hid (L1'.alloc L1'.size (.cells #[.int .i64 H.id, .bool H.rp, .bool H.au, .bool H.ct, .bool H.wa, .bool H.ca, .int .i64 H.code, .string H.qn, .int .i64 H.qt, .slice none 0 0, .slice none 0 0, .slice none 0 0] 28))
  have Z1 := Lib.hid ((Z0.out.below hl Z0.out.lt).alloc (.cells #[.int .i64 H.id, .bool H.rp, .bool H.au, .bool H.ct, .bool H.wa, .bool H.ca, .int .i64 H.code, .string H.qn, .int .i64 H.qt, .slice none 0 0, .slice none 0 0, .slice none 0 0] 28))
  have X1 : Hid (Bk (w1.alloc (.cells #[.int .i64 H.id, .bool H.rp, .bool H.au, .bool H.ct, .bool H.wa, .bool H.ca, .int .i64 H.code, .string H.qn, .int .i64 H.qt, .slice none 0 0, .slice none 0 0, .slice none 0 0] 28)) w1.heap.size 28 (mc H (.slice none 0 0) (.slice none 0 0) (.slice none 0 0))) := heap_alloc_new w1 _
  have NX : Hid (w.heap.size < w1.heap.size) := Nat.lt_of_lt_of_le Z0.out.lt hl.size
  clear hl L1' L0 Z0 HD
  go_upto_region 4 with (fail)
  generalize hw : w1.alloc (.cells #[.int .i64 H.id, .bool H.rp, .bool H.au, .bool H.ct, .bool H.wa, .bool H.ca, .int .i64 H.code, .string H.qn, .int .i64 H.qt, .slice none 0 0, .slice none 0 0, .slice none 0 0] 28) = w1' at *
  clear hw
  generalize w1.heap.size = gx at *
  cases hb
  · have HB := Lib.hid (C2.out rfl)
    clear C1 C2 C3 SD2
    obtain ⟨z0, z1, z2, z3, z4, z5, z6, z7, z8, z9, z10, z11⟩ := mx_of Z1.out
    have f0 := Z1.out.free 0
    have f1 := Z1.out.free 1
    have f2 := Z1.out.free 2
    have f3 := Z1.out.free 3
    have f4 := Z1.out.free 4
    have f5 := Z1.out.free 5
    have f6 := Z1.out.free 6
    have f7 := Z1.out.free 7
    have f8 := Z1.out.free 8
    have f9 := Z1.out.free 9
    have f10 := Z1.out.free 10
    have f11 := Z1.out.free 11
    go_wp2
    exact bodyPost_ret (v := .tuple #[.agg #[.int .i64 zh.id, .bool zh.rp, .bool zh.au, .bool zh.ct, .bool zh.wa, .bool zh.ca, .int .i64 zh.code, .string zh.qn, .int .i64 zh.qt, .slice none 0 0, .slice none 0 0, .slice none 0 0], .bool false]) (res2M rfl (filM_bk Z1.out zh (.slice none 0 0) (.slice none 0 0) (.slice none 0 0)) rfl rfl) rfl (Or.inl ⟨HB.out, rfl, filM_below L1.out (Nat.le_refl _) zh (.slice none 0 0) (.slice none 0 0) (.slice none 0 0)⟩)
  have SD3 := Lib.hid (SD2.out h512 rfl)
  clear C2 SD2
  go_wp2_with fail
  refine (QD.out _ L1.out).mono ?_
  rintro e w2 ⟨rfl, hl⟩
  have L2' := L1.out.trans (hl.mono L1.out.size)
  have L2 := Lib.hid (L2'.alloc L2'.size (.cells #[.string sq, .int .i64 tq] 25))
  have Z2 := Lib.hid ((Z1.out.below hl Z1.out.lt).alloc (.cells #[.string sq, .int .i64 tq] 25))
  have X2 := Lib.hid ((X1.out.below hl X1.out.lt).alloc (.cells #[.string sq, .int .i64 tq] 25))
  have Q2 : Hid (Bk (w2.alloc (.cells #[.string sq, .int .i64 tq] 25)) w2.heap.size 25 (qc sq tq)) := heap_alloc_new w2 _
  have NQ : Hid (gx < w2.heap.size) := Nat.lt_of_lt_of_le X1.out.lt hl.size
  clear hl L2' L1 Z1 X1 QD
  go_upto_region 7 with (fail)
  generalize hw : w2.alloc (.cells #[.string sq, .int .i64 tq] 25) = w2' at *
  clear hw
  generalize w2.heap.size = gq at *
  by_cases hQ : dq = 0
  case neg =>
    have HB := Lib.hid (C3.out hQ)
    have e1 : ((dq : Int) != 0) = true := by simp; omega
    have e2 : ¬ (dq : Int) = 0 := by omega
    clear C1 C3 SD3 hQ
    obtain ⟨z0, z1, z2, z3, z4, z5, z6, z7, z8, z9, z10, z11⟩ := mx_of Z2.out
    have f0 := Z2.out.free 0
    have f1 := Z2.out.free 1
    have f2 := Z2.out.free 2
    have f3 := Z2.out.free 3
    have f4 := Z2.out.free 4
    have f5 := Z2.out.free 5
    have f6 := Z2.out.free 6
    have f7 := Z2.out.free 7
    have f8 := Z2.out.free 8
    have f9 := Z2.out.free 9
    have f10 := Z2.out.free 10
    have f11 := Z2.out.free 11
    go_wp2
    exact bodyPost_ret (v := .tuple #[.agg #[.int .i64 zh.id, .bool zh.rp, .bool zh.au, .bool zh.ct, .bool zh.wa, .bool zh.ca, .int .i64 zh.code, .string zh.qn, .int .i64 zh.qt, .slice none 0 0, .slice none 0 0, .slice none 0 0], .bool false]) (res2M rfl (filM_bk Z2.out zh (.slice none 0 0) (.slice none 0 0) (.slice none 0 0)) rfl rfl) rfl (Or.inl ⟨HB.out, rfl, filM_below L2.out (Nat.le_refl _) zh (.slice none 0 0) (.slice none 0 0) (.slice none 0 0)⟩)
  subst hQ
  have SD := Lib.hid (SD3.out rfl)
  clear C1 C3 SD3
  go_wp2_with fail
  refine (SD.out _ L2.out).mono ?_
  rintro e w3 (⟨hok, a1, m1, k1, a2, m2, k2, a3, m3, k3, rfl, hl⟩ | ⟨hok, g1, c1, r1, g2, c2, r2, g3, c3, r3, rfl, hb1, hb2, hb3, hg, h12, h23, hl⟩)
  · have HB := Lib.hid hok
    have L3' := L2.out.trans (hl.mono L2.out.size)
    have L3 := Lib.hid (L3'.alloc L3'.size (.cells #[.slice a1 m1 k1, .slice a2 m2 k2, .slice a3 m3 k3] 73))
    have Z3 := Lib.hid ((Z2.out.below hl Z2.out.lt).alloc (.cells #[.slice a1 m1 k1, .slice a2 m2 k2, .slice a3 m3 k3] 73))
    clear hok hl L3' L2 Z2 X2 Q2
    go_upto_region 10 with (fail)
    generalize hw : w3.alloc (.cells #[.slice a1 m1 k1, .slice a2 m2 k2, .slice a3 m3 k3] 73) = w3' at *
    clear hw
    obtain ⟨z0, z1, z2, z3, z4, z5, z6, z7, z8, z9, z10, z11⟩ := mx_of Z3.out
    have f0 := Z3.out.free 0
    have f1 := Z3.out.free 1
    have f2 := Z3.out.free 2
    have f3 := Z3.out.free 3
    have f4 := Z3.out.free 4
    have f5 := Z3.out.free 5
    have f6 := Z3.out.free 6
    have f7 := Z3.out.free 7
    have f8 := Z3.out.free 8
    have f9 := Z3.out.free 9
    have f10 := Z3.out.free 10
    have f11 := Z3.out.free 11
    go_wp2
    exact bodyPost_ret (v := .tuple #[.agg #[.int .i64 zh.id, .bool zh.rp, .bool zh.au, .bool zh.ct, .bool zh.wa, .bool zh.ca, .int .i64 zh.code, .string zh.qn, .int .i64 zh.qt, .slice none 0 0, .slice none 0 0, .slice none 0 0], .bool false]) (res2M rfl (filM_bk Z3.out zh (.slice none 0 0) (.slice none 0 0) (.slice none 0 0)) rfl rfl) rfl (Or.inl ⟨HB.out, rfl, filM_below L3.out (Nat.le_refl _) zh (.slice none 0 0) (.slice none 0 0) (.slice none 0 0)⟩)
  have HB := Lib.hid hok
  have L3' := L2.out.trans (hl.mono L2.out.size)
  have L3 := Lib.hid (L3'.alloc L3'.size (.cells #[.slice (some ⟨g1, 0, none⟩) n1 c1, .slice (some ⟨g2, 0, none⟩) n2 c2, .slice (some ⟨g3, 0, none⟩) n3 c3] 73))
  have Z3 := Lib.hid ((Z2.out.below hl Z2.out.lt).alloc (.cells #[.slice (some ⟨g1, 0, none⟩) n1 c1, .slice (some ⟨g2, 0, none⟩) n2 c2, .slice (some ⟨g3, 0, none⟩) n3 c3] 73))
  have X3 := Lib.hid ((X2.out.below hl X2.out.lt).alloc (.cells #[.slice (some ⟨g1, 0, none⟩) n1 c1, .slice (some ⟨g2, 0, none⟩) n2 c2, .slice (some ⟨g3, 0, none⟩) n3 c3] 73))
  have Q3 := Lib.hid ((Q2.out.below hl Q2.out.lt).alloc (.cells #[.slice (some ⟨g1, 0, none⟩) n1 c1, .slice (some ⟨g2, 0, none⟩) n2 c2, .slice (some ⟨g3, 0, none⟩) n3 c3] 73))
  have B1_3 := Lib.hid (hb1.alloc (.cells #[.slice (some ⟨g1, 0, none⟩) n1 c1, .slice (some ⟨g2, 0, none⟩) n2 c2, .slice (some ⟨g3, 0, none⟩) n3 c3] 73))
  have B2_3 := Lib.hid (hb2.alloc (.cells #[.slice (some ⟨g1, 0, none⟩) n1 c1, .slice (some ⟨g2, 0, none⟩) n2 c2, .slice (some ⟨g3, 0, none⟩) n3 c3] 73))
  have B3_3 := Lib.hid (hb3.alloc (.cells #[.slice (some ⟨g1, 0, none⟩) n1 c1, .slice (some ⟨g2, 0, none⟩) n2 c2, .slice (some ⟨g3, 0, none⟩) n3 c3] 73))
  have A3_ : Hid (Bk (w3.alloc (.cells #[.slice (some ⟨g1, 0, none⟩) n1 c1, .slice (some ⟨g2, 0, none⟩) n2 c2, .slice (some ⟨g3, 0, none⟩) n3 c3] 73)) w3.heap.size 73 [.slice (some ⟨g1, 0, none⟩) n1 c1, .slice (some ⟨g2, 0, none⟩) n2 c2, .slice (some ⟨g3, 0, none⟩) n3 c3]) := heap_alloc_new w3 _
  have O1 : Hid (w.heap.size ≤ g1) := Nat.le_trans L2.out.size hg
  have O0 : Hid (gx < g1) := Nat.lt_of_lt_of_le X2.out.lt hg
  have O2 := Lib.hid h12
  have O3 := Lib.hid h23
  have NA : Hid (gx < w3.heap.size) := Nat.lt_of_lt_of_le X2.out.lt hl.size
  clear hok hl L3' L2 Z2 X2 Q2 hb1 hb2 hb3 hg h12 h23 SD
  go_upto_region 10 with (fail)
  generalize hw : w3.alloc (.cells #[.slice (some ⟨g1, 0, none⟩) n1 c1, .slice (some ⟨g2, 0, none⟩) n2 c2, .slice (some ⟨g3, 0, none⟩) n3 c3] 73) = w3' at *
  clear hw
  generalize w3.heap.size = ga at *
  have S0 : (w3'.cell? ⟨gq, 0, none⟩ = some (.string sq) ∧ w3'.cell? ⟨gq, 1, none⟩ = some (.int .i64 tq) ∧ w3'.cell? ⟨ga, 0, none⟩ = some (.slice (some ⟨g1, 0, none⟩) n1 c1) ∧ w3'.cell? ⟨ga, 1, none⟩ = some (.slice (some ⟨g2, 0, none⟩) n2 c2) ∧ w3'.cell? ⟨ga, 2, none⟩ = some (.slice (some ⟨g3, 0, none⟩) n3 c3)) := ⟨Q3.out.cell 0, Q3.out.cell 1, A3_.out.cell 0, A3_.out.cell 1, A3_.out.cell 2⟩
  have nq : gq ≠ gx := Nat.ne_of_gt NQ.out
  have na : ga ≠ gx := Nat.ne_of_gt NA.out
  have SA := five_set (five_set S0 nq na 7 (.string sq)) nq na 8 (.int .i64 tq)
  have SB := five_set SA nq na 9 (.slice (some ⟨g1, 0, none⟩) n1 c1)
  have SC := five_set SB nq na 10 (.slice (some ⟨g2, 0, none⟩) n2 c2)
  have SE := five_set SC nq na 11 (.slice (some ⟨g3, 0, none⟩) n3 c3)
  have k7 := X3.out.free 7
  have k8 := X3.out.free 8
  have k9 := X3.out.free 9
  have k10 := X3.out.free 10
  have k11 := X3.out.free 11
  obtain ⟨y0, y1, y2, y3, y4, y5, y6, y7, y8, y9, y10, y11⟩ := mx_of X3.out
  go_wp2
  go_region_held3 (fun w' => (w'.cell? ⟨gq, 0, none⟩ = some (.string sq) ∧ w'.cell? ⟨gq, 1, none⟩ = some (.int .i64 tq) ∧ w'.cell? ⟨ga, 0, none⟩ = some (.slice (some ⟨g1, 0, none⟩) n1 c1) ∧ w'.cell? ⟨ga, 1, none⟩ = some (.slice (some ⟨g2, 0, none⟩) n2 c2) ∧ w'.cell? ⟨ga, 2, none⟩ = some (.slice (some ⟨g3, 0, none⟩) n3 c3)))
    (first | with_reducible exact S0 | with_reducible exact five_draw S0 | with_reducible assumption | with_reducible exact five_draw SA | with_reducible exact five_draw SB | with_reducible exact five_draw SC | with_reducible exact five_draw SE | fail)
    (fail)
  rename_i hH
  clear hH S0 SA SB SC SE nq na y0 y1 y2 y3 y4 y5 y6 y7 y8 y9 y10 y11 k7 k8 k9 k10 k11
  have L4 : Hid (Below w.heap.size w (((((w3'.setCell ⟨gx, 7, none⟩ (.string sq)).setCell ⟨gx, 8, none⟩ (.int .i64 tq)).setCell ⟨gx, 9, none⟩ (.slice (some ⟨g1, 0, none⟩) n1 c1)).setCell ⟨gx, 10, none⟩ (.slice (some ⟨g2, 0, none⟩) n2 c2)).setCell ⟨gx, 11, none⟩ (.slice (some ⟨g3, 0, none⟩) n3 c3))) := ((((L3.out.setCell (p := ⟨gx, 7, none⟩) (Nat.le_of_lt NX.out) _).setCell (p := ⟨gx, 8, none⟩) (Nat.le_of_lt NX.out) _).setCell (p := ⟨gx, 9, none⟩) (Nat.le_of_lt NX.out) _).setCell (p := ⟨gx, 10, none⟩) (Nat.le_of_lt NX.out) _).setCell (p := ⟨gx, 11, none⟩) (Nat.le_of_lt NX.out) _
  have X4 : Hid (Bk (((((w3'.setCell ⟨gx, 7, none⟩ (.string sq)).setCell ⟨gx, 8, none⟩ (.int .i64 tq)).setCell ⟨gx, 9, none⟩ (.slice (some ⟨g1, 0, none⟩) n1 c1)).setCell ⟨gx, 10, none⟩ (.slice (some ⟨g2, 0, none⟩) n2 c2)).setCell ⟨gx, 11, none⟩ (.slice (some ⟨g3, 0, none⟩) n3 c3)) gx 28 (mc (wq H sq tq) (.slice (some ⟨g1, 0, none⟩) n1 c1) (.slice (some ⟨g2, 0, none⟩) n2 c2) (.slice (some ⟨g3, 0, none⟩) n3 c3))) := ((((X3.out.set 7 (.string sq)).set 8 (.int .i64 tq)).set 9 (.slice (some ⟨g1, 0, none⟩) n1 c1)).set 10 (.slice (some ⟨g2, 0, none⟩) n2 c2)).set 11 (.slice (some ⟨g3, 0, none⟩) n3 c3)
  have ng0 : w.heap.size ≠ gx := Nat.ne_of_lt NX.out
  have ng1 : g1 ≠ gx := Nat.ne_of_gt O0.out
  have ng2 : g2 ≠ gx := Nat.ne_of_gt (Nat.lt_trans O0.out O2.out)
  have ng3 : g3 ≠ gx := Nat.ne_of_gt (Nat.lt_trans (Nat.lt_trans O0.out O2.out) O3.out)
  have Z4 : Hid (Bk (((((w3'.setCell ⟨gx, 7, none⟩ (.string sq)).setCell ⟨gx, 8, none⟩ (.int .i64 tq)).setCell ⟨gx, 9, none⟩ (.slice (some ⟨g1, 0, none⟩) n1 c1)).setCell ⟨gx, 10, none⟩ (.slice (some ⟨g2, 0, none⟩) n2 c2)).setCell ⟨gx, 11, none⟩ (.slice (some ⟨g3, 0, none⟩) n3 c3)) w.heap.size 28 (mc zh (.slice none 0 0) (.slice none 0 0) (.slice none 0 0))) := ((((Z3.out.other (p := ⟨gx, 7, none⟩) (ng0) _).other (p := ⟨gx, 8, none⟩) (ng0) _).other (p := ⟨gx, 9, none⟩) (ng0) _).other (p := ⟨gx, 10, none⟩) (ng0) _).other (p := ⟨gx, 11, none⟩) (ng0) _
  have B1_4 : Hid (Bk (((((w3'.setCell ⟨gx, 7, none⟩ (.string sq)).setCell ⟨gx, 8, none⟩ (.int .i64 tq)).setCell ⟨gx, 9, none⟩ (.slice (some ⟨g1, 0, none⟩) n1 c1)).setCell ⟨gx, 10, none⟩ (.slice (some ⟨g2, 0, none⟩) n2 c2)).setCell ⟨gx, 11, none⟩ (.slice (some ⟨g3, 0, none⟩) n3 c3)) g1 117 (fl l1 ++ r1)) := ((((B1_3.out.other (p := ⟨gx, 7, none⟩) (ng1) _).other (p := ⟨gx, 8, none⟩) (ng1) _).other (p := ⟨gx, 9, none⟩) (ng1) _).other (p := ⟨gx, 10, none⟩) (ng1) _).other (p := ⟨gx, 11, none⟩) (ng1) _
  have B2_4 : Hid (Bk (((((w3'.setCell ⟨gx, 7, none⟩ (.string sq)).setCell ⟨gx, 8, none⟩ (.int .i64 tq)).setCell ⟨gx, 9, none⟩ (.slice (some ⟨g1, 0, none⟩) n1 c1)).setCell ⟨gx, 10, none⟩ (.slice (some ⟨g2, 0, none⟩) n2 c2)).setCell ⟨gx, 11, none⟩ (.slice (some ⟨g3, 0, none⟩) n3 c3)) g2 117 (fl l2 ++ r2)) := ((((B2_3.out.other (p := ⟨gx, 7, none⟩) (ng2) _).other (p := ⟨gx, 8, none⟩) (ng2) _).other (p := ⟨gx, 9, none⟩) (ng2) _).other (p := ⟨gx, 10, none⟩) (ng2) _).other (p := ⟨gx, 11, none⟩) (ng2) _
  have B3_4 : Hid (Bk (((((w3'.setCell ⟨gx, 7, none⟩ (.string sq)).setCell ⟨gx, 8, none⟩ (.int .i64 tq)).setCell ⟨gx, 9, none⟩ (.slice (some ⟨g1, 0, none⟩) n1 c1)).setCell ⟨gx, 10, none⟩ (.slice (some ⟨g2, 0, none⟩) n2 c2)).setCell ⟨gx, 11, none⟩ (.slice (some ⟨g3, 0, none⟩) n3 c3)) g3 117 (fl l3 ++ r3)) := ((((B3_3.out.other (p := ⟨gx, 7, none⟩) (ng3) _).other (p := ⟨gx, 8, none⟩) (ng3) _).other (p := ⟨gx, 9, none⟩) (ng3) _).other (p := ⟨gx, 10, none⟩) (ng3) _).other (p := ⟨gx, 11, none⟩) (ng3) _
  clear L3 X3 Z3 B1_3 B2_3 B3_3 ng1 ng2 ng3
  have NG1 : Hid (w.heap.size < g1) := Nat.lt_trans NX.out O0.out
  have NG2 : Hid (w.heap.size < g2) := Nat.lt_trans NG1.out O2.out
  have NG3 : Hid (w.heap.size < g3) := Nat.lt_trans NG2.out O3.out
  have L5 : Hid (Below w.heap.size w (((((w3'.setCell ⟨gx, 7, none⟩ (.string sq)).setCell ⟨gx, 8, none⟩ (.int .i64 tq)).setCell ⟨gx, 9, none⟩ (.slice (some ⟨g1, 0, none⟩) n1 c1)).setCell ⟨gx, 10, none⟩ (.slice (some ⟨g2, 0, none⟩) n2 c2)).setCell ⟨gx, 11, none⟩ (.slice (some ⟨g3, 0, none⟩) n3 c3)).drew) := L4.out.drew
  have X5 : Hid (Bk (((((w3'.setCell ⟨gx, 7, none⟩ (.string sq)).setCell ⟨gx, 8, none⟩ (.int .i64 tq)).setCell ⟨gx, 9, none⟩ (.slice (some ⟨g1, 0, none⟩) n1 c1)).setCell ⟨gx, 10, none⟩ (.slice (some ⟨g2, 0, none⟩) n2 c2)).setCell ⟨gx, 11, none⟩ (.slice (some ⟨g3, 0, none⟩) n3 c3)).drew gx 28 (mc (wq H sq tq) (.slice (some ⟨g1, 0, none⟩) n1 c1) (.slice (some ⟨g2, 0, none⟩) n2 c2) (.slice (some ⟨g3, 0, none⟩) n3 c3))) := X4.out
  have Z5 : Hid (Bk (((((w3'.setCell ⟨gx, 7, none⟩ (.string sq)).setCell ⟨gx, 8, none⟩ (.int .i64 tq)).setCell ⟨gx, 9, none⟩ (.slice (some ⟨g1, 0, none⟩) n1 c1)).setCell ⟨gx, 10, none⟩ (.slice (some ⟨g2, 0, none⟩) n2 c2)).setCell ⟨gx, 11, none⟩ (.slice (some ⟨g3, 0, none⟩) n3 c3)).drew w.heap.size 28 (mc zh (.slice none 0 0) (.slice none 0 0) (.slice none 0 0))) := Z4.out
  have B1_5 : Hid (Bk (((((w3'.setCell ⟨gx, 7, none⟩ (.string sq)).setCell ⟨gx, 8, none⟩ (.int .i64 tq)).setCell ⟨gx, 9, none⟩ (.slice (some ⟨g1, 0, none⟩) n1 c1)).setCell ⟨gx, 10, none⟩ (.slice (some ⟨g2, 0, none⟩) n2 c2)).setCell ⟨gx, 11, none⟩ (.slice (some ⟨g3, 0, none⟩) n3 c3)).drew g1 117 (fl l1 ++ r1)) := B1_4.out
  have B2_5 : Hid (Bk (((((w3'.setCell ⟨gx, 7, none⟩ (.string sq)).setCell ⟨gx, 8, none⟩ (.int .i64 tq)).setCell ⟨gx, 9, none⟩ (.slice (some ⟨g1, 0, none⟩) n1 c1)).setCell ⟨gx, 10, none⟩ (.slice (some ⟨g2, 0, none⟩) n2 c2)).setCell ⟨gx, 11, none⟩ (.slice (some ⟨g3, 0, none⟩) n3 c3)).drew g2 117 (fl l2 ++ r2)) := B2_4.out
  have B3_5 : Hid (Bk (((((w3'.setCell ⟨gx, 7, none⟩ (.string sq)).setCell ⟨gx, 8, none⟩ (.int .i64 tq)).setCell ⟨gx, 9, none⟩ (.slice (some ⟨g1, 0, none⟩) n1 c1)).setCell ⟨gx, 10, none⟩ (.slice (some ⟨g2, 0, none⟩) n2 c2)).setCell ⟨gx, 11, none⟩ (.slice (some ⟨g3, 0, none⟩) n3 c3)).drew g3 117 (fl l3 ++ r3)) := B3_4.out
  clear L4 X4 Z4 B1_4 B2_4 B3_4
  generalize hw : (((((w3'.setCell ⟨gx, 7, none⟩ (.string sq)).setCell ⟨gx, 8, none⟩ (.int .i64 tq)).setCell ⟨gx, 9, none⟩ (.slice (some ⟨g1, 0, none⟩) n1 c1)).setCell ⟨gx, 10, none⟩ (.slice (some ⟨g2, 0, none⟩) n2 c2)).setCell ⟨gx, 11, none⟩ (.slice (some ⟨g3, 0, none⟩) n3 c3)).drew = w6 at *
  clear hw
  obtain ⟨z0, z1, z2, z3, z4, z5, z6, z7, z8, z9, z10, z11⟩ := mx_of Z5.out
  have f0 := Z5.out.free 0
  have f1 := Z5.out.free 1
  have f2 := Z5.out.free 2
  have f3 := Z5.out.free 3
  have f4 := Z5.out.free 4
  have f5 := Z5.out.free 5
  have f6 := Z5.out.free 6
  have f7 := Z5.out.free 7
  have f8 := Z5.out.free 8
  have f9 := Z5.out.free 9
  have f10 := Z5.out.free 10
  have f11 := Z5.out.free 11
  obtain ⟨y0, y1, y2, y3, y4, y5, y6, y7, y8, y9, y10, y11⟩ := mx_of X5.out
  go_wp2
  refine bodyPost_ret (v := .tuple #[.agg #[.int .i64 (wq H sq tq).id, .bool (wq H sq tq).rp, .bool (wq H sq tq).au, .bool (wq H sq tq).ct, .bool (wq H sq tq).wa, .bool (wq H sq tq).ca, .int .i64 (wq H sq tq).code, .string (wq H sq tq).qn, .int .i64 (wq H sq tq).qt, .slice (some ⟨g1, 0, none⟩) n1 c1, .slice (some ⟨g2, 0, none⟩) n2 c2, .slice (some ⟨g3, 0, none⟩) n3 c3], .bool true]) (res2M rfl (filM_bk Z5.out (wq H sq tq) (.slice (some ⟨g1, 0, none⟩) n1 c1) (.slice (some ⟨g2, 0, none⟩) n2 c2) (.slice (some ⟨g3, 0, none⟩) n3 c3)) rfl rfl) rfl (Or.inr ⟨HB.out, ?_⟩)
  rw [GM.out]
  exact ⟨g1, c1, r1, g2, c2, r2, g3, c3, r3, rfl, filM_other B1_5.out (g := w.heap.size) (Nat.ne_of_gt NG1.out) (wq H sq tq) (.slice (some ⟨g1, 0, none⟩) n1 c1) (.slice (some ⟨g2, 0, none⟩) n2 c2) (.slice (some ⟨g3, 0, none⟩) n3 c3), filM_other B2_5.out (g := w.heap.size) (Nat.ne_of_gt NG2.out) (wq H sq tq) (.slice (some ⟨g1, 0, none⟩) n1 c1) (.slice (some ⟨g2, 0, none⟩) n2 c2) (.slice (some ⟨g3, 0, none⟩) n3 c3), filM_other B3_5.out (g := w.heap.size) (Nat.ne_of_gt NG3.out) (wq H sq tq) (.slice (some ⟨g1, 0, none⟩) n1 c1) (.slice (some ⟨g2, 0, none⟩) n2 c2) (.slice (some ⟨g3, 0, none⟩) n3 c3), O1.out, O2.out, O3.out, filM_below L5.out (Nat.le_refl _) (wq H sq tq) (.slice (some ⟨g1, 0, none⟩) n1 c1) (.slice (some ⟨g2, 0, none⟩) n2 c2) (.slice (some ⟨g3, 0, none⟩) n3 c3)⟩
end Go.Proofs.YtkfibepejlgniaaGreatDoor.GetMI

/- What GetMsg does, parted: on bytes that are a message, and on bytes that are none. -/
namespace Go.Proofs.YtkfibepejlgniaaGreatDoor.GetM
open Go.RowKit Go.Proofs.YtkfibepejlgniaaGreatDoor.Mem Go.Proofs.YtkfibepejlgniaaGreatDoor.MemR Go.Proofs.YtkfibepejlgniaaGreatDoor.MemM Go.Proofs.YtkfibepejlgniaaGreatDoor.Labels Go.Proofs.YtkfibepejlgniaaGreatDoor.MsgMath Go.Proofs.YtkfibepejlgniaaGreatDoor.GetMS

theorem res_bad {l : List UInt8} {w w' : World} {e : Ending} (hg : gmb l = false) (h : Res l w e w') : e = .returned (.tuple #[.agg #[.int .i64 zh.id, .bool zh.rp, .bool zh.au, .bool zh.ct, .bool zh.wa, .bool zh.ca, .int .i64 zh.code, .string zh.qn, .int .i64 zh.qt, .slice none 0 0, .slice none 0 0, .slice none 0 0], .bool false]) ∧ Below w.heap.size w w' := by
  rcases h with ⟨_, h⟩ | ⟨h, _⟩
  · exact h
  · rw [hg] at h; cases h
theorem res_good {l : List UInt8} {w w' : World} {e : Ending} (hg : gmb l = true) (h : Res l w e w') : Got w (gmh l) (s1 l).2.2.length (s2 l).2.2.length (s3 l).2.2.length (s1 l).2.2 (s2 l).2.2 (s3 l).2.2 e w' := by
  rcases h with ⟨h, _⟩ | ⟨_, h⟩
  · rw [hg] at h; cases h
  · exact h
section
variable (A : Option Addr) (n c : Nat) (l : List UInt8) (w : World)
theorem spec_bad (hs : Sl w w.heap.size A n l) (hnc : n ≤ c) (hn : n ≤ 400000000) (hg : gmb l = false) : Calls Tryz.prog 37 #[.slice A n c] w fun e w' => e = .returned (.tuple #[.agg #[.int .i64 zh.id, .bool zh.rp, .bool zh.au, .bool zh.ct, .bool zh.wa, .bool zh.ca, .int .i64 zh.code, .string zh.qn, .int .i64 zh.qt, .slice none 0 0, .slice none 0 0, .slice none 0 0], .bool false]) ∧ Below w.heap.size w w' :=
  (GetMS.spec A n c l w hs hnc hn).mono fun _ _ => res_bad hg
theorem spec_good (hs : Sl w w.heap.size A n l) (hnc : n ≤ c) (hn : n ≤ 400000000) (hg : gmb l = true) : Calls Tryz.prog 37 #[.slice A n c] w (Got w (gmh l) (s1 l).2.2.length (s2 l).2.2.length (s3 l).2.2.length (s1 l).2.2 (s2 l).2.2 (s3 l).2.2) :=
  (GetMS.spec A n c l w hs hnc hn).mono fun _ _ => res_good hg
theorem impl_bad (he : Env w) (hs : Sl w w.heap.size A n l) (hnc : n ≤ c) (hn : n ≤ 400000000) (hg : gmb l = false) : Calls Tryz.prog 34 #[.slice A n c] w fun e w' => e = .returned (.tuple #[.agg #[.int .i64 zh.id, .bool zh.rp, .bool zh.au, .bool zh.ct, .bool zh.wa, .bool zh.ca, .int .i64 zh.code, .string zh.qn, .int .i64 zh.qt, .slice none 0 0, .slice none 0 0, .slice none 0 0], .bool false]) ∧ Below w.heap.size w w' :=
  (GetMI.impl A n c l w he hs hnc hn).mono fun _ _ => res_bad hg
theorem impl_good (he : Env w) (hs : Sl w w.heap.size A n l) (hnc : n ≤ c) (hn : n ≤ 400000000) (hg : gmb l = true) : Calls Tryz.prog 34 #[.slice A n c] w (Got w (gmh l) (s1 l).2.2.length (s2 l).2.2.length (s3 l).2.2.length (s1 l).2.2 (s2 l).2.2 (s3 l).2.2) :=
  (GetMI.impl A n c l w he hs hnc hn).mono fun _ _ => res_good hg
end
end Go.Proofs.YtkfibepejlgniaaGreatDoor.GetM
