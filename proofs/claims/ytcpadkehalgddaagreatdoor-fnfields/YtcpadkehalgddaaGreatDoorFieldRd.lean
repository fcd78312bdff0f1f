/- Plain mathematics: the data of a record as the program reads them, ahead of any look at their length; that this is the model's reading, with the look at the record behind it. Nothing of the program is named here but the seat itself. -/
import Derived.Test.YtcpadkehalgddaaGreatDoorFieldMath
namespace Go.Proofs.YtcpadkehalgddaaGreatDoor.FieldRd
open Go.Proofs.YtcpadkehalgddaaGreatDoor.Mem Go.Proofs.YtcpadkehalgddaaGreatDoor.MemR Go.Proofs.YtcpadkehalgddaaGreatDoor.JoinSpec Go.Proofs.YtcpadkehalgddaaGreatDoor.Split Go.Proofs.YtcpadkehalgddaaGreatDoor.GetLabel Go.Proofs.YtcpadkehalgddaaGreatDoor.NameOk Go.Proofs.YtcpadkehalgddaaGreatDoor.TextR Go.Proofs.YtcpadkehalgddaaGreatDoor.RecOk Go.Proofs.YtcpadkehalgddaaGreatDoor.WireMath Go.Proofs.YtcpadkehalgddaaGreatDoor.FieldMath

/-- What readText reads: a code, the offset behind, the record. -/
def rdT (l : List UInt8) (k : Int) : Nat × Int × Rec :=
  if (l.length : Int) ≤ k then (2, 0, zr) else if (l.length : Int) < k + 1 + bt l k then (2, 0, zr) else (0, k + 1 + bt l k, rT (piece l k.toNat (bt l k).toNat))
/-- What readAddr reads. -/
def rdA (l : List UInt8) (k : Int) : Nat × Int × Rec := if (n4 l k).2 = true then (0, k + 4, rA (n4 l k).1) else (2, 0, zr)
/-- What readServer and readAlias read. -/
def rdH (l : List UInt8) (k ty : Int) : Nat × Int × Rec := ((rn l [] k k 0 (-1)).1, (rn l [] k k 0 (-1)).2.2.1, rH ty (Jo (rn l [] k k 0 (-1)).2.1))
/-- What readStart reads. -/
def rdS (l : List UInt8) (k : Int) : Nat × Int × Rec :=
  if (rn l [] k k 0 (-1)).1 ≠ 0 then ((rn l [] k k 0 (-1)).1, 0, zr)
  else if (n4 l (rn l [] k k 0 (-1)).2.2.1).2 = true then (0, (rn l [] k k 0 (-1)).2.2.1 + 4, rS (Jo (rn l [] k k 0 (-1)).2.1) (n4 l (rn l [] k k 0 (-1)).2.2.1).1) else (2, 0, zr)
/-- What readData reads. A def, so that no step of a walk opens it. -/
def rdd (l : List UInt8) (k ty : Int) : Nat × Int × Rec :=
  if ty = 1 then rdA l k else if ty = 2 ∨ ty = 5 then rdH l k ty else if ty = 6 then rdS l k else if ty = 16 then rdT l k else (2, 0, zr)
theorem bt_bounds (l : List UInt8) (k : Int) : 0 ≤ bt l k ∧ bt l k < 256 := by
  unfold bt
  have := UInt8.toNat_lt (l.getD k.toNat 0)
  omega
theorem rok_T (s : ByteArray) : rok (rT s) = txo s := by
  have h : rok (rT s) = (Nm ⟨#[]⟩ && (inn 0 0 100000 && dko 16 0 ⟨#[]⟩ s)) := rfl
  rw [h, dko_16]
  have e1 : Nm ⟨#[]⟩ = true := by rfl
  have e2 : inn 0 0 100000 = true := by decide
  have e3 : nul 0 = true := by decide
  have e4 : emp ⟨#[]⟩ = true := by decide
  rw [e1, e2, e3, e4]
  simp
/-- What the program's GetData answers, told of what it read. -/
theorem rdd_gd {l : List UInt8} {k n ty : Int} (h : 0 ≤ n ∧ n ≤ 255) (hk : ¬ (k < 0 ∨ (l.length : Int) - n < k)) :
    fx (gd l k n ty) = if (rdd l k ty).1 ≠ 0 then ((rdd l k ty).1, zr) else if (rdd l k ty).2.1 = k + n ∧ rok (rdd l k ty).2.2 = true then (0, (rdd l k ty).2.2) else (2, zr) := by
  have fb : ∀ c : Nat, c ≠ 0 → fx (c, zr) = (c, zr) := fun c hc => fx_bad hc
  have fo : ∀ r : Rec, fx (0, r) = if rok r = true then (0, r) else (2, zr) := fun r => by
    cases hr : rok r
    · rw [fx_not hr]; rfl
    · rw [fx_ok hr]; rfl
  have R0 : ∀ (q : Int) (r : Rec), (if (0 : Nat) ≠ 0 then ((0 : Nat), zr) else if q = k + n ∧ rok r = true then (0, r) else (2, zr)) = if q = k + n ∧ rok r = true then (0, r) else (2, zr) := fun _ _ => if_neg (fun e => e rfl)
  by_cases h1 : ty = 1
  · subst h1
    have e : rdd l k 1 = rdA l k := rfl
    rw [gd_1 h hk, e]
    unfold rdA
    by_cases hb : (n4 l k).2 = true
    · rw [if_pos hb]
      dsimp only
      rw [R0]
      by_cases hn : n = 4
      · rw [if_pos ⟨hb, hn⟩, fo]
        by_cases hr : rok (rA (n4 l k).1) = true
        · rw [if_pos hr, if_pos ⟨by omega, hr⟩]
        · rw [if_neg hr, if_neg (fun e => hr e.2)]
      · rw [if_neg (fun e => hn e.2), fb 2 (by decide), if_neg (fun e => hn (by omega))]
    · rw [if_neg (fun e => hb e.1), fb 2 (by decide), if_neg hb]
      rfl
  by_cases h25 : ty = 2 ∨ ty = 5
  · have e : rdd l k ty = rdH l k ty := by unfold rdd; rw [if_neg h1, if_pos h25]
    rw [gd_h h hk h25, e]
    unfold rdH
    dsimp only
    by_cases hc : (rn l [] k k 0 (-1)).1 ≠ 0
    · rw [if_pos hc, fb _ hc, if_pos hc]
    · rw [if_neg hc, if_neg hc]
      by_cases hn : (rn l [] k k 0 (-1)).2.2.1 = k + n
      · rw [if_pos hn, fo]
        by_cases hr : rok (rH ty (Jo (rn l [] k k 0 (-1)).2.1)) = true
        · rw [if_pos hr, if_pos ⟨hn, hr⟩]
        · rw [if_neg hr, if_neg (fun e => hr e.2)]
      · rw [if_neg hn, fb 2 (by decide), if_neg (fun e => hn e.1)]
  by_cases h6 : ty = 6
  · subst h6
    have e : rdd l k 6 = rdS l k := rfl
    rw [gd_6 h hk, e]
    unfold rdS
    by_cases hc : (rn l [] k k 0 (-1)).1 ≠ 0
    · rw [if_pos hc, fb _ hc, if_pos hc]
      dsimp only
      rw [if_pos hc]
    · rw [if_neg hc, if_neg hc]
      by_cases hb : (n4 l (rn l [] k k 0 (-1)).2.2.1).2 = true
      · rw [if_pos hb]
        dsimp only
        rw [R0]
        by_cases hn : (rn l [] k k 0 (-1)).2.2.1 + 4 = k + n
        · rw [if_pos ⟨hb, hn⟩, fo]
          by_cases hr : rok (rS (Jo (rn l [] k k 0 (-1)).2.1) (n4 l (rn l [] k k 0 (-1)).2.2.1).1) = true
          · rw [if_pos hr, if_pos ⟨hn, hr⟩]
          · rw [if_neg hr, if_neg (fun e => hr e.2)]
        · rw [if_neg (fun e => hn e.2), fb 2 (by decide), if_neg (fun e => hn e.1)]
      · rw [if_neg (fun e => hb e.1), fb 2 (by decide), if_neg hb]
        rfl
  by_cases h16 : ty = 16
  · subst h16
    have e : rdd l k 16 = rdT l k := rfl
    have hbt := bt_bounds l k
    rw [gd_16 h hk, e]
    unfold rdT
    by_cases ha : (l.length : Int) ≤ k
    · rw [if_pos ha, if_neg (fun e => by omega), fb 2 (by decide)]
      rfl
    · rw [if_neg ha]
      by_cases hb : (l.length : Int) < k + 1 + bt l k
      · rw [if_pos hb, if_neg (fun e => by omega), fb 2 (by decide)]
        rfl
      · rw [if_neg hb]
        dsimp only
        rw [R0]
        by_cases hn : bt l k = n - 1
        · rw [hn, rok_T]
          by_cases hr : txo (piece l k.toNat (n - 1).toNat) = true
          · rw [if_pos ⟨by omega, rfl, hr⟩, fo, rok_T, if_pos hr, if_pos ⟨by omega, hr⟩]
          · rw [if_neg (fun e => hr e.2.2), fb 2 (by decide), if_neg (fun e => hr e.2)]
        · rw [if_neg (fun e => hn e.2.1), fb 2 (by decide), if_neg (fun e => by have := e.1; omega)]
  · have e : rdd l k ty = (2, 0, zr) := by unfold rdd; rw [if_neg h1, if_neg h25, if_neg h6, if_neg h16]
    rw [gd_ty h hk (by omega), e, fb 2 (by decide)]
    rfl
end Go.Proofs.YtcpadkehalgddaaGreatDoor.FieldRd
