/- Plain mathematics: a name read out of bytes, with its pointers. Nothing of the program is named here but the seat itself. -/
import Derived.Test.YtkfibepejlgniaaGreatDoorGetLabel
import Derived.Test.YtkfibepejlgniaaGreatDoorNameDef
namespace Go.Proofs.YtkfibepejlgniaaGreatDoor.WireMath
open Go.Proofs.YtkfibepejlgniaaGreatDoor.Mem Go.Proofs.YtkfibepejlgniaaGreatDoor.MemS Go.Proofs.YtkfibepejlgniaaGreatDoor.JoinSpec Go.Proofs.YtkfibepejlgniaaGreatDoor.Split Go.Proofs.YtkfibepejlgniaaGreatDoor.JoinLab Go.Proofs.YtkfibepejlgniaaGreatDoor.Label Go.Proofs.YtkfibepejlgniaaGreatDoor.Fold Go.Proofs.YtkfibepejlgniaaGreatDoor.GetLabel Go.Proofs.YtkfibepejlgniaaGreatDoor.NameOk

/-- The byte at offset k. -/
def bt (l : List UInt8) (k : Int) : Int := ((l.getD k.toNat 0).toNat : Int)
/-- Where the pointer at offset k leads. -/
def tg (l : List UInt8) (k : Int) : Int := 256 * (bt l k - 192) + bt l (k + 1)
/-- Reading on at offset k, with fuel: the labels so far, the bound on pointers, how many were followed, the offset behind the first of them (or -1). The answer: a code, the labels, the offset behind, the number of pointers. -/
def go (l : List UInt8) : Nat → List ByteArray → Int → Int → Nat → Int → Nat × List ByteArray × Int × Nat
  | 0, _, _, _, j, _ => (1, [], 0, j)
  | f + 1, L, k, m, j, x =>
    if k < 0 ∨ (l.length : Int) ≤ k then (1, [], 0, j)
    else if bt l k = 0 then (0, L, if x < 0 then k + 1 else x, j)
    else if 192 ≤ bt l k then
      if (l.length : Int) ≤ k + 1 then (1, [], 0, j)
      else if m ≤ tg l k then (3, [], 0, j)
      else go l f L (tg l k) (tg l k) (j + 1) (if x < 0 then k + 2 else x)
    else match has l k with
      | none => (if bt l k ≤ 12 ∧ (l.length : Int) < k + 1 + bt l k then 1 else 2, [], 0, j)
      | some (p, e) => if Nm (Jo (L ++ [p])) = true then go l f (L ++ [p]) (e : Int) m j x else (4, [], 0, j)
/-- How much there is to go at most. -/
def mu (l : List UInt8) (k m : Int) : Nat := m.toNat * (l.length + 1) + (l.length - k.toNat)
/-- Reading on at offset k. A def, so that no step of a walk opens it. -/
def rn (l : List UInt8) (L : List ByteArray) (k m : Int) (j : Nat) (x : Int) : Nat × List ByteArray × Int × Nat := go l (mu l k m + 1) L k m j x

theorem bt_nat (l : List UInt8) (k : Nat) (h : k < l.length) : bt l (k : Int) = (l[k].toNat : Int) := by
  unfold bt
  rw [Int.toNat_natCast, List.getD_eq_getElem?_getD, List.getElem?_eq_getElem h]
  rfl
theorem bt_pos (l : List UInt8) (k : Int) : 0 ≤ bt l k := by unfold bt; omega
theorem bt_lt (l : List UInt8) (k : Int) : bt l k < 256 := by
  unfold bt
  have := (l.getD k.toNat 0).toNat_lt
  omega
theorem tg_pos (l : List UInt8) (k : Int) (h : 192 ≤ bt l k) : 0 ≤ tg l k := by
  have := bt_pos l (k + 1)
  unfold tg
  omega
theorem tg_lt (l : List UInt8) (k : Int) : tg l k < 16384 := by
  have h1 := bt_lt l k
  have h2 := bt_lt l (k + 1)
  unfold tg
  omega
theorem mu_jump (l : List UInt8) (k m t : Int) (h0 : 0 ≤ t) (h : t < m) : mu l t t < mu l k m := by
  unfold mu
  have h1 : (t.toNat + 1) * (l.length + 1) ≤ m.toNat * (l.length + 1) := Nat.mul_le_mul_right _ (by omega)
  rw [Nat.succ_mul] at h1
  omega
theorem mu_label (l : List UInt8) (k m e : Int) (h0 : 0 ≤ k) (h : k < e) (h1 : k < l.length) : mu l e m < mu l k m := by
  unfold mu
  omega
theorem has_some {l : List UInt8} {k : Int} {p : ByteArray} {e : Nat} (h : has l k = some (p, e)) : 0 ≤ k ∧ k < (e : Int) ∧ e ≤ l.length ∧ lok p.data.toList = true ∧ p.size ≤ 12 ∧ (e : Int) = k + 1 + bt l k := by
  by_cases hk : k < 0 ∨ (l.length : Int) ≤ k
  · rw [has_out l k hk] at h
    cases h
  · obtain ⟨k', rfl⟩ := Int.eq_ofNat_of_zero_le (show 0 ≤ k by omega)
    have hkl : k' < l.length := by omega
    rw [has_in l k' hkl] at h
    split at h
    · rename_i hh
      simp only [Option.some.injEq, Prod.mk.injEq] at h
      obtain ⟨rfl, rfl⟩ := h
      have h12 := hh.2
      rw [lok, Bool.and_eq_true] at h12
      have h3 := of_decide_eq_true h12.1
      have hz : (Fo (piece l k' l[k'].toNat)).data.toList.length = (Fo (piece l k' l[k'].toNat)).size := by simp
      rw [bt_nat l k' hkl]
      refine ⟨by omega, by omega, hh.1, hh.2, by omega, by omega⟩
    · cases h
theorem go_fuel (l : List UInt8) : ∀ f g L k m j x, mu l k m < f → mu l k m < g → go l f L k m j x = go l g L k m j x
  | 0, _, _, _, _, _, _, h, _ => absurd h (Nat.not_lt_zero _)
  | _ + 1, 0, _, _, _, _, _, _, h => absurd h (Nat.not_lt_zero _)
  | f + 1, g + 1, L, k, m, j, x, h1, h2 => by
    unfold go
    split
    · rfl
    · rename_i hk
      split
      · rfl
      · split
        · rename_i h192
          split
          · rfl
          · split
            · rfl
            · rename_i hm
              have := mu_jump l k m (tg l k) (tg_pos l k h192) (by omega)
              exact go_fuel l f g L _ _ _ _ (by omega) (by omega)
        · cases hh : has l k with
          | none => rfl
          | some q =>
            obtain ⟨p, e⟩ := q
            dsimp only
            split
            · have hs := has_some hh
              have := mu_label l k m (e : Int) hs.1 hs.2.1 (by omega)
              exact go_fuel l f g _ _ _ _ _ (by omega) (by omega)
            · rfl

/-- Where it fails there is no name. -/
theorem go_fail (l : List UInt8) : ∀ f L k m j x, (go l f L k m j x).1 ≠ 0 → (go l f L k m j x).2.1 = [] ∧ (go l f L k m j x).2.2.1 = 0
  | 0, _, _, _, _, _, _ => by simp [go]
  | f + 1, L, k, m, j, x, h => by
    unfold go at h ⊢
    split at h
    · rename_i hk
      rw [if_pos hk]
      exact ⟨rfl, rfl⟩
    · rename_i hk
      rw [if_neg hk] at ⊢
      split at h
      · exact absurd rfl h
      · rename_i h0
        rw [if_neg h0] at ⊢
        split at h
        · rename_i h192
          rw [if_pos h192] at ⊢
          split at h
          · rename_i h1
            rw [if_pos h1] at ⊢
            simp
          · rename_i h1
            rw [if_neg h1] at ⊢
            split at h
            · rename_i h2
              rw [if_pos h2] at ⊢
              simp
            · rename_i h2
              rw [if_neg h2] at ⊢
              exact go_fail l f _ _ _ _ _ h
        · rename_i h192
          rw [if_neg h192] at ⊢
          cases hh : has l k with
          | none => simp
          | some q =>
            obtain ⟨p, e⟩ := q
            rw [hh] at h
            dsimp only at h ⊢
            split at h
            · rename_i h3
              rw [if_pos h3] at ⊢
              exact go_fail l f _ _ _ _ _ h
            · rename_i h3
              rw [if_neg h3] at ⊢
              simp
theorem rn_fail {l : List UInt8} {L L' : List ByteArray} {k m x y : Int} {j c i : Nat} (h : rn l L k m j x = (c, L', y, i)) (hc : c ≠ 0) : L' = [] ∧ y = 0 := by
  have := go_fail l (mu l k m + 1) L k m j x
  unfold rn at h
  rw [h] at this
  exact this hc

section
variable {l : List UInt8} {L : List ByteArray} {k m : Int} {j : Nat} {x : Int}
theorem rn_out (h : k < 0 ∨ (l.length : Int) ≤ k) : rn l L k m j x = (1, [], 0, j) := by
  unfold rn go
  rw [if_pos h]
theorem rn_zero (h : ¬ (k < 0 ∨ (l.length : Int) ≤ k)) (h0 : bt l k = 0) : rn l L k m j x = (0, L, if x < 0 then k + 1 else x, j) := by
  unfold rn go
  rw [if_neg h, if_pos h0]
theorem rn_cut (h : ¬ (k < 0 ∨ (l.length : Int) ≤ k)) (h1 : 192 ≤ bt l k) (h2 : (l.length : Int) ≤ k + 1) : rn l L k m j x = (1, [], 0, j) := by
  unfold rn go
  rw [if_neg h, if_neg (by omega), if_pos h1, if_pos h2]
theorem rn_bad (h : ¬ (k < 0 ∨ (l.length : Int) ≤ k)) (h1 : 192 ≤ bt l k) (h2 : ¬ (l.length : Int) ≤ k + 1) (h3 : m ≤ tg l k) : rn l L k m j x = (3, [], 0, j) := by
  unfold rn go
  rw [if_neg h, if_neg (by omega), if_pos h1, if_neg h2, if_pos h3]
theorem rn_jump (h : ¬ (k < 0 ∨ (l.length : Int) ≤ k)) (h1 : 192 ≤ bt l k) (h2 : ¬ (l.length : Int) ≤ k + 1) (h3 : ¬ m ≤ tg l k) : rn l L k m j x = rn l L (tg l k) (tg l k) (j + 1) (if x < 0 then k + 2 else x) := by
  conv => lhs; unfold rn go
  rw [if_neg h, if_neg (by omega), if_pos h1, if_neg h2, if_neg h3]
  have := mu_jump l k m (tg l k) (tg_pos l k h1) (by omega)
  exact go_fuel l _ _ _ _ _ _ _ (by omega) (by omega)
theorem rn_none (h : ¬ (k < 0 ∨ (l.length : Int) ≤ k)) (h0 : bt l k ≠ 0) (h1 : ¬ 192 ≤ bt l k) (h2 : has l k = none) : rn l L k m j x = (if bt l k ≤ 12 ∧ (l.length : Int) < k + 1 + bt l k then 1 else 2, [], 0, j) := by
  unfold rn go
  rw [if_neg h, if_neg h0, if_neg h1, h2]
theorem rn_long (h : ¬ (k < 0 ∨ (l.length : Int) ≤ k)) (h0 : bt l k ≠ 0) (h1 : ¬ 192 ≤ bt l k) {p : ByteArray} {e : Nat} (h2 : has l k = some (p, e)) (h3 : Nm (Jo (L ++ [p])) = false) : rn l L k m j x = (4, [], 0, j) := by
  unfold rn go
  rw [if_neg h, if_neg h0, if_neg h1, h2]
  dsimp only
  rw [if_neg (by rw [h3]; simp)]
theorem rn_label (h : ¬ (k < 0 ∨ (l.length : Int) ≤ k)) (h0 : bt l k ≠ 0) (h1 : ¬ 192 ≤ bt l k) {p : ByteArray} {e : Nat} (h2 : has l k = some (p, e)) (h3 : Nm (Jo (L ++ [p])) = true) : rn l L k m j x = rn l (L ++ [p]) (e : Int) m j x := by
  conv => lhs; unfold rn go
  rw [if_neg h, if_neg h0, if_neg h1, h2]
  dsimp only
  rw [if_pos h3]
  have hs := has_some h2
  have := mu_label l k m (e : Int) hs.1 hs.2.1 (by omega)
  exact go_fuel l _ _ _ _ _ _ _ (by omega) (by omega)
end
/-- A label with no byte to it, or one too great, or one cut off, is none. -/
theorem has_not {l : List UInt8} {k : Int} (h : bt l k = 0 ∨ 12 < bt l k ∨ (l.length : Int) < k + 1 + bt l k) : has l k = none := by
  cases hh : has l k with
  | none => rfl
  | some q =>
    obtain ⟨p, e⟩ := q
    have hs := has_some hh
    exfalso
    by_cases hk : k < 0 ∨ (l.length : Int) ≤ k
    · rw [has_out l k hk] at hh; cases hh
    · obtain ⟨k', rfl⟩ := Int.eq_ofNat_of_zero_le (show 0 ≤ k by omega)
      have hkl : k' < l.length := by omega
      rw [has_in l k' hkl] at hh
      split at hh
      · rename_i hh2
        have h3 := hh2.2
        rw [lok, Bool.and_eq_true] at h3
        have h4 := of_decide_eq_true h3.1
        rw [Fo_len, piece_size l k' _ hh2.1] at h4
        rw [bt_nat l k' hkl] at h
        omega
      · cases hh

theorem has_bt {l : List UInt8} {k : Int} {p : ByteArray} {e : Nat} (h : has l k = some (p, e)) : bt l k ≠ 0 ∧ bt l k ≤ 12 ∧ k + 1 + bt l k ≤ (l.length : Int) := by
  by_cases hc : bt l k = 0 ∨ 12 < bt l k ∨ (l.length : Int) < k + 1 + bt l k
  · rw [has_not hc] at h
    cases h
  · omega

/-- The labels that a name begins with. -/
theorem nm_root : Nm (Jo []) = true := rfl
theorem okL_snoc {L : List ByteArray} {p : ByteArray} (h : okL L = true) (hp : lok p.data.toList = true) : okL (L ++ [p]) = true := by
  rw [okL, List.all_append, Bool.and_eq_true]
  exact ⟨h, by simp [hp]⟩
theorem okL_mem {L : List ByteArray} (h : okL L = true) : ∀ x ∈ L, lok x.data.toList = true := fun x hx => List.all_eq_true.1 h x hx
theorem lab_ok {L : List ByteArray} (h : okL L = true) : Lab (Jo L) = L := lab_jo L (okL_mem h)
theorem nm_size {L : List ByteArray} (h : Nm (Jo L) = true) : (Jo L).size ≤ 50 := by
  rw [Nm, Bool.and_eq_true, Bool.and_eq_true] at h
  exact of_decide_eq_true h.1.2
theorem nm_len {L : List ByteArray} (hk : okL L = true) (h : Nm (Jo L) = true) : L.length ≤ 6 := by
  rw [Nm, Bool.and_eq_true, Bool.and_eq_true, lab_ok hk] at h
  exact of_decide_eq_true h.2
theorem jo_snoc {L : List ByteArray} {p : ByteArray} (h : L ≠ []) : Jo (L ++ [p]) = Jo L ++ ⟨#[46]⟩ ++ p := by
  apply text_ext
  rw [text_add, text_add, Jo_list, Jo_list]
  have hl : 0 < L.length := List.length_pos_iff.2 h
  have := jo_step (L ++ [p]) L.length hl (by simp)
  rw [List.take_of_length_le (by simp), List.take_left] at this
  simpa using this
theorem jo_one (p : ByteArray) : Jo [p] = p := by
  apply text_ext
  rw [Jo_list]
  simp [jo, Lib.join_one]
theorem jo_none {L : List ByteArray} (hk : okL L = true) (h : (Jo L).size = 0) : L = [] := by
  have := lab_ok hk
  rw [← this, Lab, if_pos h]
theorem sum_small {L : List ByteArray} (hk : okL L = true) (h : L.length ≤ 7) : L.length + (L.map (·.size)).sum ≤ 100 := by
  have h1 := jo_short L 12 (fun x hx => by
    have := okL_mem hk x hx
    rw [lok, Bool.and_eq_true] at this
    have h2 := of_decide_eq_true this.1
    have hz : x.data.toList.length = x.size := by simp
    omega)
  omega
end Go.Proofs.YtkfibepejlgniaaGreatDoor.WireMath
