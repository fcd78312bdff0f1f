/- What the program's GetRecord does: it reads a record as FieldMath tells (gr), and turns nothing that was there. Conditions: at most 400000000 bytes; the library's variable internal/bytealg.MaxLen holds an int. -/
import Derived.Test.YtkfibepejlgniaaGreatDoorMemM
import Derived.Test.YtkfibepejlgniaaGreatDoorGet
import Derived.Test.YtkfibepejlgniaaGreatDoorExactGetMsgP1
import Derived.Test.YtkfibepejlgniaaGreatDoorResR
import Derived.Test.YtkfibepejlgniaaGreatDoorFieldMath
import Derived.Test.YtkfibepejlgniaaGreatDoorNameGet
import Derived.Test.YtkfibepejlgniaaGreatDoorDataS
/- Plain facts: what is read out of bytes as a header. -/
namespace Go.Proofs.YtkfibepejlgniaaGreatDoor.HeadRd
open Go.RowKit Go.Proofs.YtkfibepejlgniaaGreatDoor.Mem Go.Proofs.YtkfibepejlgniaaGreatDoor.MemR Go.Proofs.YtkfibepejlgniaaGreatDoor.MemM Go.Proofs.YtkfibepejlgniaaGreatDoor.Get

/-- A byte of l as the walks see it. -/
def by8 (l : List UInt8) (k : Nat) : Int := ((l.getD k 0).toNat : Int)
theorem by8_at (l : List UInt8) (k : Nat) (h : k < l.length) : by8 l k = (l[k].toNat : Int) := by
  unfold by8; rw [List.getD_eq_getElem?_getD, List.getElem?_eq_getElem h]; rfl
theorem by8_in (l : List UInt8) (k : Nat) : 0 ≤ by8 l k ∧ by8 l k < 256 := by
  have := (l.getD k 0).toNat_lt
  unfold by8; omega
/-- Two bytes of l as a number. -/
def b2 (l : List UInt8) (k : Nat) : Int := be ((l.drop k).take 2)
/-- Whether the bits of m are not all clear. -/
def bo (x m : Int) : Bool := bits .and .u8 x m != 0
/-- The head that the flag bytes x and y tell, with this Id. -/
def hdr (id x y : Int) : Hd := ⟨id, bo x 128, bo x 4, bo x 2, bo x 1, bo y 128, bits .and .u8 y 15, ⟨#[]⟩, 0⟩
/-- Whether the header is one. -/
def ghb (l : List UInt8) : Bool := decide (12 ≤ l.length) && !bo (by8 l 2) 120 && !bo (by8 l 3) 112 && decide (b2 l 4 = 1)
def ghh (l : List UInt8) : Hd := if ghb l = true then hdr (b2 l 0) (by8 l 2) (by8 l 3) else zh
def ghn (l : List UInt8) (k : Nat) : Int := if ghb l = true then b2 l k else 0
theorem ghb_parts {l : List UInt8} (h : ghb l = true) : 12 ≤ l.length ∧ bo (by8 l 2) 120 = false ∧ bo (by8 l 3) 112 = false ∧ b2 l 4 = 1 := by
  unfold ghb at h
  simp only [Bool.and_eq_true, Bool.not_eq_true'] at h
  exact ⟨of_decide_eq_true h.1.1.1, h.1.1.2, h.1.2, of_decide_eq_true h.2⟩
theorem ghb_of {l : List UInt8} (h1 : 12 ≤ l.length) (h2 : bo (by8 l 2) 120 = false) (h3 : bo (by8 l 3) 112 = false) (h4 : b2 l 4 = 1) : ghb l = true := by
  unfold ghb; rw [h2, h3, decide_eq_true h1, decide_eq_true h4]; rfl
theorem ghb_not {l : List UInt8} (h : ¬ (12 ≤ l.length ∧ bo (by8 l 2) 120 = false ∧ bo (by8 l 3) 112 = false ∧ b2 l 4 = 1)) : ghb l = false := by
  cases e : ghb l
  · rfl
  · exact absurd (ghb_parts e) h
theorem ghh_not {l : List UInt8} (h : ghb l = false) : ghh l = zh := by unfold ghh; rw [h]; rfl
theorem ghn_not {l : List UInt8} (h : ghb l = false) (k : Nat) : ghn l k = 0 := by unfold ghn; rw [h]; rfl
theorem ghh_yes {l : List UInt8} (h : ghb l = true) : ghh l = hdr (b2 l 0) (by8 l 2) (by8 l 3) := if_pos h
theorem ghn_yes {l : List UInt8} (h : ghb l = true) (k : Nat) : ghn l k = b2 l k := if_pos h
end Go.Proofs.YtkfibepejlgniaaGreatDoor.HeadRd

/- Plain mathematics: what is read out of bytes as a header, a question, a message; it reads the same with bytes behind it. -/
namespace Go.Proofs.YtkfibepejlgniaaGreatDoor.MsgMath
open Go.RowKit Go.Proofs.YtkfibepejlgniaaGreatDoor.Mem Go.Proofs.YtkfibepejlgniaaGreatDoor.MemR Go.Proofs.YtkfibepejlgniaaGreatDoor.MemM Go.Proofs.YtkfibepejlgniaaGreatDoor.JoinSpec Go.Proofs.YtkfibepejlgniaaGreatDoor.Split Go.Proofs.YtkfibepejlgniaaGreatDoor.GetLabel Go.Proofs.YtkfibepejlgniaaGreatDoor.NameOk Go.Proofs.YtkfibepejlgniaaGreatDoor.TextR Go.Proofs.YtkfibepejlgniaaGreatDoor.RecOk Go.Proofs.YtkfibepejlgniaaGreatDoor.WireMath Go.Proofs.YtkfibepejlgniaaGreatDoor.WireGood Go.Proofs.YtkfibepejlgniaaGreatDoor.Put Go.Proofs.YtkfibepejlgniaaGreatDoor.PutSpec Go.Proofs.YtkfibepejlgniaaGreatDoor.Get Go.Proofs.YtkfibepejlgniaaGreatDoor.FieldMath Go.Proofs.YtkfibepejlgniaaGreatDoor.FieldBack Go.Proofs.YtkfibepejlgniaaGreatDoor.WireBack Go.Proofs.YtkfibepejlgniaaGreatDoor.GetsM Go.Proofs.YtkfibepejlgniaaGreatDoor.OkM Go.Proofs.YtkfibepejlgniaaGreatDoor.HeadRd Go.Proofs.YtkfibepejlgniaaGreatDoor.HeadDef Go.Proofs.YtkfibepejlgniaaGreatDoor.HeadMath

/-- What GetQuest answers: a code, the offset behind, name and type. -/
def gq (l : List UInt8) (k : Int) : Nat × Int × ByteArray × Int :=
  if (rn l [] k k 0 (-1)).1 ≠ 0 then ((rn l [] k k 0 (-1)).1, 0, ⟨#[]⟩, 0)
  else if (l.length : Int) - 4 < (rn l [] k k 0 (-1)).2.2.1 then (1, 0, ⟨#[]⟩, 0)
  else if qok (Jo (rn l [] k k 0 (-1)).2.1) (n2 l (rn l [] k k 0 (-1)).2.2.1).1 = true ∧ (n2 l ((rn l [] k k 0 (-1)).2.2.1 + 2)).1 = 1
    then (0, (rn l [] k k 0 (-1)).2.2.1 + 4, Jo (rn l [] k k 0 (-1)).2.1, (n2 l (rn l [] k k 0 (-1)).2.2.1).1)
  else (2, 0, ⟨#[]⟩, 0)
section
variable {l : List UInt8} {k : Int} {L : List ByteArray} {p : Int} {j c : Nat}
theorem gq_name (h : rn l [] k k 0 (-1) = (c, L, p, j)) (hc : c ≠ 0) : gq l k = (c, 0, ⟨#[]⟩, 0) := by
  unfold gq; rw [h, if_pos hc]
theorem gq_short (h : rn l [] k k 0 (-1) = (0, L, p, j)) (hp : (l.length : Int) - 4 < p) : gq l k = (1, 0, ⟨#[]⟩, 0) := by
  unfold gq; rw [h, if_neg (fun e => e rfl), if_pos hp]
theorem gq_good (h : rn l [] k k 0 (-1) = (0, L, p, j)) (hp : ¬ (l.length : Int) - 4 < p) (hq : qok (Jo L) (n2 l p).1 = true) (h1 : (n2 l (p + 2)).1 = 1) : gq l k = (0, p + 4, Jo L, (n2 l p).1) := by
  unfold gq; rw [h, if_neg (fun e => e rfl), if_neg hp, if_pos ⟨hq, h1⟩]
theorem gq_form (h : rn l [] k k 0 (-1) = (0, L, p, j)) (hp : ¬ (l.length : Int) - 4 < p) (hq : ¬ (qok (Jo L) (n2 l p).1 = true ∧ (n2 l (p + 2)).1 = 1)) : gq l k = (2, 0, ⟨#[]⟩, 0) := by
  unfold gq; rw [h, if_neg (fun e => e rfl), if_neg hp, if_neg hq]
/-- What a good question is made of. -/
theorem gq_of {q : Int} {s : ByteArray} {t : Int} (h : gq l k = (0, q, s, t)) : ∃ L p j, rn l [] k k 0 (-1) = (0, L, p, j) ∧ ¬ (l.length : Int) - 4 < p ∧ qok (Jo L) (n2 l p).1 = true ∧ (n2 l (p + 2)).1 = 1 ∧ q = p + 4 ∧ s = Jo L ∧ t = (n2 l p).1 := by
  rcases hr : rn l [] k k 0 (-1) with ⟨c, L, p, j⟩
  by_cases hc : c = 0
  · subst hc
    by_cases hp : (l.length : Int) - 4 < p
    · rw [gq_short hr hp] at h; simp at h
    · by_cases hq : qok (Jo L) (n2 l p).1 = true ∧ (n2 l (p + 2)).1 = 1
      · rw [gq_good hr hp hq.1 hq.2] at h
        simp only [Prod.mk.injEq] at h
        exact ⟨L, p, j, rfl, hp, hq.1, hq.2, h.2.1.symm, h.2.2.1.symm, h.2.2.2.symm⟩
      · rw [gq_form hr hp hq] at h; simp at h
  · rw [gq_name hr hc] at h
    simp only [Prod.mk.injEq] at h
    exact absurd h.1 hc
end
/-- The three sections. -/
def s1 (l : List UInt8) : Nat × Int × List Rec := grA l (gq l 12).2.1 (ghn l 6)
def s2 (l : List UInt8) : Nat × Int × List Rec := grA l (s1 l).2.1 (ghn l 8)
def s3 (l : List UInt8) : Nat × Int × List Rec := grA l (s2 l).2.1 (ghn l 10)
/-- A question put into a head. -/
def wq (h : Hd) (s : ByteArray) (n : Int) : Hd := { h with qn := s, qt := n }
/-- A message, up to offset e. -/
def Rd (l : List UInt8) (e : Int) : Prop := ghb l = true ∧ (gq l 12).1 = 0 ∧ (s1 l).1 = 0 ∧ (s2 l).1 = 0 ∧ (s3 l).1 = 0 ∧ (s3 l).2.1 = e
instance (l : List UInt8) (e : Int) : Decidable (Rd l e) := by unfold Rd; infer_instance
def gmb (l : List UInt8) : Bool := decide (l.length ≤ 512 ∧ Rd l (l.length : Int))
def gmh (l : List UInt8) : Hd := wq (ghh l) (gq l 12).2.2.1 (gq l 12).2.2.2

theorem n2_behind (l R : List UInt8) {k : Int} (h0 : 0 ≤ k) (h1 : k ≤ (l.length : Int) - 2) : n2 (l ++ R) k = n2 l k := by
  rw [n2, n2, if_pos ⟨h0, by rw [List.length_append]; omega⟩, if_pos ⟨h0, h1⟩]
  rw [List.drop_append_of_le_length (by omega), List.take_append_of_le_length (by rw [List.length_drop]; omega)]
theorem n4_behind (l R : List UInt8) {k : Int} (h0 : 0 ≤ k) (h1 : k ≤ (l.length : Int) - 4) : n4 (l ++ R) k = n4 l k := by
  have e : ((l ++ R).drop k.toNat).take 4 = (l.drop k.toNat).take 4 := by
    rw [List.drop_append_of_le_length (by omega), List.take_append_of_le_length (by rw [List.length_drop]; omega)]
  have h2 : 0 ≤ k ∧ k ≤ ((l ++ R).length : Int) - 4 := ⟨h0, by rw [List.length_append]; omega⟩
  unfold n4
  rw [if_pos h2, if_pos (And.intro h0 h1), e]
theorem b2_n2 {l : List UInt8} {k : Nat} (h : k + 2 ≤ l.length) : n2 l (k : Int) = (b2 l k, true) := by
  rw [n2, if_pos ⟨by omega, by omega⟩, Int.toNat_natCast]; rfl
theorem b2_behind (l R : List UInt8) {k : Nat} (h : k + 2 ≤ l.length) : b2 (l ++ R) k = b2 l k := by
  unfold b2
  rw [List.drop_append_of_le_length (by omega), List.take_append_of_le_length (by rw [List.length_drop]; omega)]
theorem by8_behind (l R : List UInt8) {k : Nat} (h : k < l.length) : by8 (l ++ R) k = by8 l k := by
  unfold by8
  rw [List.getD_eq_getElem?_getD, List.getD_eq_getElem?_getD, List.getElem?_append_left h]
theorem piece_behind (l R : List UInt8) (k m : Nat) (h : k + 1 + m ≤ l.length) : piece (l ++ R) k m = piece l k m := by
  unfold piece
  rw [List.drop_append_of_le_length (by omega), List.take_append_of_le_length (by rw [List.length_drop]; omega)]
theorem gd_behind {l : List UInt8} (R : List UInt8) {k n ty : Int} {r : Rec} (h : gd l k n ty = (0, r)) : gd (l ++ R) k n ty = (0, r) := by
  by_cases hn : 0 ≤ n ∧ n ≤ 255
  · by_cases hk : k < 0 ∨ (l.length : Int) - n < k
    · rw [gd_out hn hk] at h; simp at h
    · have hk' : ¬ (k < 0 ∨ ((l ++ R).length : Int) - n < k) := by rw [List.length_append]; omega
      by_cases ht : ty = 1 ∨ ty = 2 ∨ ty = 5 ∨ ty = 6 ∨ ty = 16
      · have key : ∀ (t : Int), t = 2 ∨ t = 5 → gd l k n t = (0, r) → gd (l ++ R) k n t = (0, r) := fun t ht h => by
          rw [gd_h hn hk ht] at h
          rcases hr : rn l [] k k 0 (-1) with ⟨c, D, y, i⟩
          rw [hr] at h
          dsimp only at h
          by_cases hc : c = 0
          · subst hc
            rw [gd_h hn hk' ht, rn_behind R hr]
            exact h
          · rw [if_pos hc] at h
            simp only [Prod.mk.injEq] at h
            exact absurd h.1 hc
        rcases ht with rfl | rfl | rfl | rfl | rfl
        · rw [gd_1 hn hk] at h
          split at h
          · rename_i e
            have e1 := n4_in e.1
            rw [gd_1 hn hk', n4_behind l R e1.1 (by omega), if_pos e]
            exact h
          · simp at h
        · exact key 2 (Or.inl rfl) h
        · exact key 5 (Or.inr rfl) h
        · rw [gd_6 hn hk] at h
          rcases hr : rn l [] k k 0 (-1) with ⟨c, D, y, i⟩
          rw [hr] at h
          dsimp only at h
          by_cases hc : c = 0
          · subst hc
            rw [if_neg (fun e => e rfl)] at h
            split at h
            · rename_i e
              have e1 := n4_in e.1
              rw [gd_6 hn hk', rn_behind R hr]
              dsimp only
              rw [if_neg (fun e => e rfl), n4_behind l R e1.1 (by omega), if_pos e]
              exact h
            · simp at h
          · rw [if_pos hc] at h
            simp only [Prod.mk.injEq] at h
            exact absurd h.1 hc
        · rw [gd_16 hn hk] at h
          split at h
          · rename_i e
            rw [gd_16 hn hk', bt_left l R k (by omega) (by omega), piece_behind l R _ _ (by omega), if_pos e]
            exact h
          · simp at h
      · rw [gd_ty hn hk ht] at h; simp at h
  · rw [gd_n hn] at h; simp at h
theorem gr_behind {l : List UInt8} (R : List UInt8) {k e : Int} {r : Rec} (h0 : 0 ≤ k) (h : gr l k = (0, e, r)) : gr (l ++ R) k = (0, e, r) ∧ 0 ≤ e ∧ rok r = true := by
  rcases hr : rn l [] k k 0 (-1) with ⟨c, L, p, j⟩
  by_cases hc : c = 0
  · subst hc
    have hg := rn_good hr
    by_cases hp : (l.length : Int) - 10 < p
    · rw [gr_short hr hp] at h; simp at h
    · have a2 := n2_behind l R (k := p) (by omega) (by omega)
      have a8 := n2_behind l R (k := p + 8) (by omega) (by omega)
      have ac := n2_behind l R (k := p + 2) (by omega) (by omega)
      have a4 := n4_behind l R (k := p + 4) (by omega) (by omega)
      have hp' : ¬ ((l ++ R).length : Int) - 10 < p := by rw [List.length_append]; omega
      rcases hd : gd l (p + 10) (n2 l (p + 8)).1 (n2 l p).1 with ⟨d, x⟩
      by_cases hz : d = 0
      · subst hz
        by_cases hx : (n4 l (p + 4)).2 = true ∧ (n2 l (p + 2)).1 = 1 ∧ rok (wn x (Jo L) (n4 l (p + 4)).1) = true
        · rw [gr_good hr hp hd hx] at h
          have hd' := gd_behind R hd
          rw [← a8, ← a2] at hd'
          rw [gr_good (rn_behind R hr) hp' hd' (by rw [a4, ac]; exact hx), a4, a8]
          have b8 := n2_in (l := l) (k := p + 8) (by omega) (by omega)
          simp only [Prod.mk.injEq] at h
          exact ⟨by rw [h.2.1, h.2.2], by omega, h.2.2 ▸ hx.2.2⟩
        · rw [gr_form hr hp hd hx] at h; simp at h
      · rw [gr_data hr hp hd hz] at h
        simp only [Prod.mk.injEq] at h
        exact absurd h.1 hz
  · rw [gr_name hr hc] at h
    simp only [Prod.mk.injEq] at h
    exact absurd h.1 hc
theorem grs_behind {l : List UInt8} (R : List UInt8) : ∀ (n : Nat) (k : Int) (L M : List Rec) (e : Int), 0 ≤ k → (∀ r ∈ L, rok r = true) → grs l n k L = (0, e, M) → grs (l ++ R) n k L = (0, e, M) ∧ 0 ≤ e ∧ (∀ r ∈ M, rok r = true) ∧ M.length = L.length + n
  | 0, k, L, M, e, h0, hL, h => by
    simp only [grs, Prod.mk.injEq] at h
    exact ⟨by simp only [grs]; rw [h.2.1, h.2.2], h.2.1 ▸ h0, h.2.2 ▸ hL, by rw [← h.2.2]; rfl⟩
  | n + 1, k, L, M, e, h0, hL, h => by
    rw [grs_step] at h
    rcases hr : gr l k with ⟨c, x, r⟩
    rw [hr] at h
    by_cases hc : c = 0
    · subst hc
      have hb := gr_behind R h0 hr
      rw [if_neg (fun e => e rfl)] at h
      have := grs_behind R n x (L ++ [r]) M e hb.2.1 (fun q hq => by
        rcases List.mem_append.mp hq with a | a
        · exact hL q a
        · rw [List.mem_singleton.mp a]; exact hb.2.2) h
      refine ⟨?_, this.2.1, this.2.2.1, by rw [this.2.2.2, List.length_append]; simp; omega⟩
      rw [grs_step, hb.1, if_neg (fun e => e rfl)]
      exact this.1
    · rw [if_pos hc] at h
      simp only [Prod.mk.injEq] at h
      exact absurd h.1 hc
theorem grA_behind {l : List UInt8} (R : List UInt8) {k m : Int} (h0 : 0 ≤ k) (h : (grA l k m).1 = 0) : grA (l ++ R) k m = grA l k m ∧ 0 ≤ (grA l k m).2.1 ∧ (∀ r ∈ (grA l k m).2.2, rok r = true) ∧ ((grA l k m).2.2.length : Int) = m ∧ m ≤ 8 := by
  unfold grA at h ⊢
  split
  · rename_i hm
    rw [if_pos hm] at h
    rcases hr : grs l m.toNat k [] with ⟨c, e, M⟩
    rw [hr] at h
    dsimp only at h
    subst h
    have := grs_behind R m.toNat k [] M e h0 (fun r hr => by cases hr) hr
    rw [this.1]
    exact ⟨rfl, this.2.1, this.2.2.1, by have := this.2.2.2; simp at this; dsimp only; omega, hm.2⟩
  · rename_i hm
    rw [if_neg hm] at h
    cases h
theorem gq_behind {l : List UInt8} (R : List UInt8) {k : Int} (h0 : 0 ≤ k) (h : (gq l k).1 = 0) : gq (l ++ R) k = gq l k ∧ 0 ≤ (gq l k).2.1 ∧ qok (gq l k).2.2.1 (gq l k).2.2.2 = true := by
  rcases hg : gq l k with ⟨c, q, s, t⟩
  rw [hg] at h
  dsimp only at h
  subst h
  obtain ⟨L, p, j, hr, hp, hq, h1, rfl, rfl, rfl⟩ := gq_of hg
  have hw := rn_good hr
  have a2 := n2_behind l R (k := p) (by omega) (by omega)
  have ac := n2_behind l R (k := p + 2) (by omega) (by omega)
  exact ⟨by rw [gq_good (rn_behind R hr) (by rw [List.length_append]; omega) (by rw [a2]; exact hq) (by rw [ac]; exact h1), a2], by dsimp only; omega, hq⟩
theorem gh_behind {l : List UInt8} (R : List UInt8) (h : ghb l = true) : ghb (l ++ R) = true ∧ ghh (l ++ R) = ghh l ∧ ghn (l ++ R) 6 = ghn l 6 ∧ ghn (l ++ R) 8 = ghn l 8 ∧ ghn (l ++ R) 10 = ghn l 10 := by
  obtain ⟨hl, h2, h3, h4⟩ := ghb_parts h
  have e : ghb (l ++ R) = true := ghb_of (by rw [List.length_append]; omega) (by rw [by8_behind l R (by omega)]; exact h2) (by rw [by8_behind l R (by omega)]; exact h3) (by rw [b2_behind l R (by omega)]; exact h4)
  refine ⟨e, ?_, ?_, ?_, ?_⟩
  · rw [ghh_yes e, ghh_yes h, by8_behind l R (by omega), by8_behind l R (by omega), b2_behind l R (by omega)]
  · rw [ghn_yes e, ghn_yes h, b2_behind l R (by omega)]
  · rw [ghn_yes e, ghn_yes h, b2_behind l R (by omega)]
  · rw [ghn_yes e, ghn_yes h, b2_behind l R (by omega)]
/-- A message reads the same with bytes behind it. -/
theorem Rd.behind {l : List UInt8} {e : Int} (R : List UInt8) (h : Rd l e) : Rd (l ++ R) e := by
  obtain ⟨h1, h2, h3, h4, h5, h6⟩ := h
  have a := gh_behind R h1
  have b := gq_behind R (k := 12) (by decide) h2
  have c := grA_behind R b.2.1 h3
  have d := grA_behind R c.2.1 h4
  have f := grA_behind R d.2.1 h5
  have e1 : s1 (l ++ R) = s1 l := by unfold s1; rw [b.1, a.2.2.1]; exact c.1
  have e2 : s2 (l ++ R) = s2 l := by unfold s2; rw [e1, a.2.2.2.1]; exact d.1
  have e3 : s3 (l ++ R) = s3 l := by unfold s3; rw [e2, a.2.2.2.2]; exact f.1
  exact ⟨a.1, by rw [b.1]; exact h2, by rw [e1]; exact h3, by rw [e2]; exact h4, by rw [e3]; exact h5, by rw [e3]; exact h6⟩
/-- A byte more, or one less, and it is no message. -/
theorem no_more {l : List UInt8} (x : UInt8) (h : Rd l (l.length : Int)) : gmb (l ++ [x]) = false := by
  refine decide_eq_false fun hn => ?_
  have a := (h.behind [x]).2.2.2.2.2
  have b := hn.2.2.2.2.2.2
  rw [a, List.length_append] at b
  simp at b
  omega
theorem no_less {l : List UInt8} (h : Rd l (l.length : Int)) (h1 : 1 ≤ l.length) : gmb (l.take (l.length - 1)) = false := by
  refine decide_eq_false fun hn => ?_
  have a := (hn.2.behind (l.drop (l.length - 1))).2.2.2.2.2
  rw [List.take_append_drop, h.2.2.2.2.2, List.length_take] at a
  omega
/-- What is read as a message is valid. -/
theorem bits15 (x : Nat) (h : x < 256) : 0 ≤ bits .and .u8 (x : Int) 15 ∧ bits .and .u8 (x : Int) 15 ≤ 15 := by
  rw [u8_and15 _ (by omega) (by omega)]; omega
theorem mok_of {l : List UInt8} {e : Int} (h : Rd l e) : mok (gmh l) (s1 l).2.2 (s2 l).2.2 (s3 l).2.2 = true := by
  obtain ⟨h1, h2, h3, h4, h5, h6⟩ := h
  have b := gq_behind [] (k := 12) (by decide) h2
  have c := grA_behind [] b.2.1 h3
  have d := grA_behind [] c.2.1 h4
  have f := grA_behind [] d.2.1 h5
  have hl := (ghb_parts h1).1
  have i := n2_in (l := l) (k := ((0 : Nat) : Int)) (by omega) (by omega)
  rw [b2_n2 (by omega)] at i
  dsimp only at i
  have y : 0 ≤ bits .and .u8 (by8 l 3) 15 ∧ bits .and .u8 (by8 l 3) 15 ≤ 15 := bits15 (l.getD 3 0).toNat (by have := (l.getD 3 0).toNat_lt; omega)
  have key : ∀ L : List Rec, (∀ r ∈ L, rok r = true) → L.length ≤ 8 → rls L = true := fun L a b => by
    rw [rls, decide_eq_true b, Bool.and_true]
    exact List.all_eq_true.mpr a
  have hh : gmh l = wq (hdr (b2 l 0) (by8 l 2) (by8 l 3)) (gq l 12).2.2.1 (gq l 12).2.2.2 := by rw [gmh, ghh_yes h1]
  rw [hh]
  show (inn (b2 l 0) 0 65535 && (inn (bits .and .u8 (by8 l 3) 15) 0 15 && (qok (gq l 12).2.2.1 (gq l 12).2.2.2 && (rls (s1 l).2.2 && (rls (s2 l).2.2 && rls (s3 l).2.2))))) = true
  rw [b.2.2, key (s1 l).2.2 c.2.2.1 (grA_len _ _ _), key (s2 l).2.2 d.2.2.1 (grA_len _ _ _), key (s3 l).2.2 f.2.2.1 (grA_len _ _ _)]
  rw [inn, inn, decide_eq_true ⟨i.2.1, i.2.2⟩, decide_eq_true y]
  rfl
end Go.Proofs.YtkfibepejlgniaaGreatDoor.MsgMath

/- What the program's part does: the bytes at an offset, cut out with their capacity, and whether they are there. -/
namespace Go.Proofs.YtkfibepejlgniaaGreatDoor.PartI
open Go.RowKit Go.Proofs.YtkfibepejlgniaaGreatDoor.Mem Go.Proofs.YtkfibepejlgniaaGreatDoor.Get

theorem sl_sub {w : World} {B b off n : Nat} {l : List UInt8} (hs : Sl w B (some ⟨b, off, none⟩) n l) (k m : Nat) (h : k + m ≤ n) (hm : 0 < m) : Sl w B (some ⟨b, off + k, none⟩) m ((l.drop k).take m) := by
  have hl := hs.1
  obtain ⟨b', off', e, hb, hc⟩ := hs.2 (by omega)
  simp only [Option.some.injEq, Addr.mk.injEq, and_true] at e
  obtain ⟨rfl, rfl⟩ := e
  refine Sl.of b (off + k) rfl (by rw [List.length_take, List.length_drop]; omega) hb fun j hj => ?_
  rw [List.length_take, List.length_drop] at hj
  have := hc (k + j) (by omega)
  rw [List.getElem_take, List.getElem_drop, Nat.add_assoc]
  exact this
theorem sub2 (l : List UInt8) (k m j : Nat) (h : j + 2 ≤ m) : be ((((l.drop k).take m).drop j).take 2) = be ((l.drop (k + j)).take 2) := by
  rw [List.drop_take, List.take_take, List.drop_drop, Nat.min_eq_left (by omega)]

set_option maxHeartbeats 1000000 in
theorem part_no (A : Option Addr) (n c m : Nat) (k : Int) (w : World) (hn : n ≤ 400000000) (hm : m ≤ 400000000) (hk : (n : Int) - (m : Int) < k) :
    Calls Tryz.prog 92 #[.slice A n c, .int .i64 k, .int .i64 (m : Int)] w fun e w' => e = .returned (.tuple #[.slice none 0 0, .bool false]) ∧ w = w' := by
  go_enter Tryz.func92, Tryz.ntmps92
  go_wp2
  go_ret2
  exact ⟨rfl, rfl⟩

set_option maxHeartbeats 1000000 in
theorem part_yes (b off n c k m : Nat) (w : World) (hnc : n ≤ c) (hn : n ≤ 400000000) (hk : k + m ≤ n) (hm : ¬ m = 0) :
    Calls Tryz.prog 92 #[.slice (some ⟨b, off, none⟩) n c, .int .i64 (k : Int), .int .i64 (m : Int)] w fun e w' => e = .returned (.tuple #[.slice (some ⟨b, off + k, none⟩) m m, .bool true]) ∧ w = w' := by
  have h1 : ¬ (n : Int) - (m : Int) < (k : Int) := by omega
  go_enter Tryz.func92, Tryz.ntmps92
  go_wp2
  go_ret2
  exact ⟨rfl, rfl⟩
end Go.Proofs.YtkfibepejlgniaaGreatDoor.PartI

/- A question that a call gives back lies in a box of its own, made first and filled at the return. -/
namespace Go.Proofs.YtkfibepejlgniaaGreatDoor.ResQ
open Go.RowKit Go.Proofs.YtkfibepejlgniaaGreatDoor.Mem Go.Proofs.YtkfibepejlgniaaGreatDoor.MemR Go.Proofs.YtkfibepejlgniaaGreatDoor.MemM Go.Proofs.YtkfibepejlgniaaGreatDoor.ResR

/-- The cells of a question. -/
def qc (s : ByteArray) (n : Int) : List Value := [.string s, .int .i64 n]
/-- The box g filled with a question. -/
def filQ (w : World) (g : Nat) (s : ByteArray) (n : Int) : World := (w.setCell ⟨g, 0, none⟩ (.string s)).setCell ⟨g, 1, none⟩ (.int .i64 n)
section
variable {w w1 : World} {g B : Nat} {t : TypeId} {s s0 : ByteArray} {n n0 : Int}
theorem qx_of (k : Bk w g t (qc s n)) : Qx w g s n := ⟨k.cell 0, k.cell 1⟩
theorem filQ_bk (k : Bk w g t (qc s0 n0)) (s : ByteArray) (n : Int) : Bk (filQ w g s n) g t (qc s n) := (k.set 0 (.string s)).set 1 (.int .i64 n)
theorem filQ_below (k : Below B w w1) (hg : B ≤ g) (s : ByteArray) (n : Int) : Below B w (filQ w1 g s n) := (k.setCell (p := ⟨g, 0, none⟩) hg (.string s)).setCell (p := ⟨g, 1, none⟩) hg (.int .i64 n)
end
theorem load_q {w : World} {g : Nat} {t : TypeId} {s : ByteArray} {n : Int} (h : Bk w g t (qc s n)) : (loadVar 25 ⟨g, 0, none⟩).run Tryz.prog w = .ok (.agg #[.string s, .int .i64 n]) w := by
  obtain ⟨c0, c1⟩ := qx_of h
  simp [go_sem, c0, c1]
theorem res3Q {fn : Func} {p u v : Tmp} {w : World} {g : Nat} {t : TypeId} {s : ByteArray} {n : Int} {x y : Value} {tmps : Array Value} (hf : fn.results = #[.cell p 25, .tmp u, .tmp v]) (h : Bk w g t (qc s n)) (h4 : tmps.getD p undef = .pointer (some ⟨g, 0, none⟩)) (h5 : tmps.getD u undef = x) (h6 : tmps.getD v undef = y) :
    (results fn tmps).run Tryz.prog w = .ok (.tuple #[.agg #[.string s, .int .i64 n], x, y]) w := by
  rw [results_cell_tmp2 hf, h4, h5, h6, as_addr]
  simp only [Result.andThen, load_q h]
end Go.Proofs.YtkfibepejlgniaaGreatDoor.ResQ

/- Plain mathematics: the data of a record as the program reads them, ahead of any look at their length; that this is the model's reading, with the look at the record behind it. Nothing of the program is named here but the seat itself. -/
namespace Go.Proofs.YtkfibepejlgniaaGreatDoor.FieldRd
open Go.Proofs.YtkfibepejlgniaaGreatDoor.Mem Go.Proofs.YtkfibepejlgniaaGreatDoor.MemR Go.Proofs.YtkfibepejlgniaaGreatDoor.JoinSpec Go.Proofs.YtkfibepejlgniaaGreatDoor.Split Go.Proofs.YtkfibepejlgniaaGreatDoor.GetLabel Go.Proofs.YtkfibepejlgniaaGreatDoor.NameOk Go.Proofs.YtkfibepejlgniaaGreatDoor.TextR Go.Proofs.YtkfibepejlgniaaGreatDoor.RecOk Go.Proofs.YtkfibepejlgniaaGreatDoor.WireMath Go.Proofs.YtkfibepejlgniaaGreatDoor.FieldMath

/-- What readText reads: a code, the offset behind, the record. -/
def rdT (l : List UInt8) (k : Int) : Nat × Int × Rec :=
  if (l.length : Int) ≤ k then (2, 0, zr) else if (l.length : Int) < k + 1 + bt l k then (2, 0, zr) else (0, k + 1 + bt l k, rT (piece l k.toNat (bt l k).toNat))
/-- What readAddr reads. -/
def rdA (l : List UInt8) (k : Int) : Nat × Int × Rec := if (n4 l k).2 = true then (0, k + 4, rA (n4 l k).1) else (2, 0, zr)
/-- What readServer and readAlias read. -/
def rdH (l : List UInt8) (k ty : Int) : Nat × Int × Rec := ((rn l [] k k 0 (-1)).1, (rn l [] k k 0 (-1)).2.2.1, rH ty (Jo (rn l [] k k 0 (-1)).2.1))
/-- What readStart reads. -/
def rdS (l : List UInt8) (k : Int) : Nat × Int × Rec :=
  if (rn l [] k k 0 (-1)).1 ≠ 0 then ((rn l [] k k 0 (-1)).1, 0, zr)
  else if (n4 l (rn l [] k k 0 (-1)).2.2.1).2 = true then (0, (rn l [] k k 0 (-1)).2.2.1 + 4, rS (Jo (rn l [] k k 0 (-1)).2.1) (n4 l (rn l [] k k 0 (-1)).2.2.1).1) else (2, 0, zr)
/-- What readData reads. A def, so that no step of a walk opens it. -/
def rdd (l : List UInt8) (k ty : Int) : Nat × Int × Rec :=
  if ty = 1 then rdA l k else if ty = 2 ∨ ty = 5 then rdH l k ty else if ty = 6 then rdS l k else if ty = 16 then rdT l k else (2, 0, zr)
theorem bt_bounds (l : List UInt8) (k : Int) : 0 ≤ bt l k ∧ bt l k < 256 := by
  unfold bt
  have := UInt8.toNat_lt (l.getD k.toNat 0)
  omega
theorem rok_T (s : ByteArray) : rok (rT s) = txo s := by
  have h : rok (rT s) = (Nm ⟨#[]⟩ && (inn 0 0 100000 && dko 16 0 ⟨#[]⟩ s)) := rfl
  rw [h, dko_16]
  have e1 : Nm ⟨#[]⟩ = true := by rfl
  have e2 : inn 0 0 100000 = true := by decide
  have e3 : nul 0 = true := by decide
  have e4 : emp ⟨#[]⟩ = true := by decide
  rw [e1, e2, e3, e4]
  simp
/-- What the program's GetData answers, told of what it read. -/
theorem rdd_gd {l : List UInt8} {k n ty : Int} (h : 0 ≤ n ∧ n ≤ 255) (hk : ¬ (k < 0 ∨ (l.length : Int) - n < k)) :
    fx (gd l k n ty) = if (rdd l k ty).1 ≠ 0 then ((rdd l k ty).1, zr) else if (rdd l k ty).2.1 = k + n ∧ rok (rdd l k ty).2.2 = true then (0, (rdd l k ty).2.2) else (2, zr) := by
  have fb : ∀ c : Nat, c ≠ 0 → fx (c, zr) = (c, zr) := fun c hc => fx_bad hc
  have fo : ∀ r : Rec, fx (0, r) = if rok r = true then (0, r) else (2, zr) := fun r => by
    cases hr : rok r
    · rw [fx_not hr]; rfl
    · rw [fx_ok hr]; rfl
  have R0 : ∀ (q : Int) (r : Rec), (if (0 : Nat) ≠ 0 then ((0 : Nat), zr) else if q = k + n ∧ rok r = true then (0, r) else (2, zr)) = if q = k + n ∧ rok r = true then (0, r) else (2, zr) := fun _ _ => if_neg (fun e => e rfl)
  by_cases h1 : ty = 1
  · subst h1
    have e : rdd l k 1 = rdA l k := rfl
    rw [gd_1 h hk, e]
    unfold rdA
    by_cases hb : (n4 l k).2 = true
    · rw [if_pos hb]
      dsimp only
      rw [R0]
      by_cases hn : n = 4
      · rw [if_pos ⟨hb, hn⟩, fo]
        by_cases hr : rok (rA (n4 l k).1) = true
        · rw [if_pos hr, if_pos ⟨by omega, hr⟩]
        · rw [if_neg hr, if_neg (fun e => hr e.2)]
      · rw [if_neg (fun e => hn e.2), fb 2 (by decide), if_neg (fun e => hn (by omega))]
    · rw [if_neg (fun e => hb e.1), fb 2 (by decide), if_neg hb]
      rfl
  by_cases h25 : ty = 2 ∨ ty = 5
  · have e : rdd l k ty = rdH l k ty := by unfold rdd; rw [if_neg h1, if_pos h25]
    rw [gd_h h hk h25, e]
    unfold rdH
    dsimp only
    by_cases hc : (rn l [] k k 0 (-1)).1 ≠ 0
    · rw [if_pos hc, fb _ hc, if_pos hc]
    · rw [if_neg hc, if_neg hc]
      by_cases hn : (rn l [] k k 0 (-1)).2.2.1 = k + n
      · rw [if_pos hn, fo]
        by_cases hr : rok (rH ty (Jo (rn l [] k k 0 (-1)).2.1)) = true
        · rw [if_pos hr, if_pos ⟨hn, hr⟩]
        · rw [if_neg hr, if_neg (fun e => hr e.2)]
      · rw [if_neg hn, fb 2 (by decide), if_neg (fun e => hn e.1)]
  by_cases h6 : ty = 6
  · subst h6
    have e : rdd l k 6 = rdS l k := rfl
    rw [gd_6 h hk, e]
    unfold rdS
    by_cases hc : (rn l [] k k 0 (-1)).1 ≠ 0
    · rw [if_pos hc, fb _ hc, if_pos hc]
      dsimp only
      rw [if_pos hc]
    · rw [if_neg hc, if_neg hc]
      by_cases hb : (n4 l (rn l [] k k 0 (-1)).2.2.1).2 = true
      · rw [if_pos hb]
        dsimp only
        rw [R0]
        by_cases hn : (rn l [] k k 0 (-1)).2.2.1 + 4 = k + n
        · rw [if_pos ⟨hb, hn⟩, fo]
          by_cases hr : rok (rS (Jo (rn l [] k k 0 (-1)).2.1) (n4 l (rn l [] k k 0 (-1)).2.2.1).1) = true
          · rw [if_pos hr, if_pos ⟨hn, hr⟩]
          · rw [if_neg hr, if_neg (fun e => hr e.2)]
        · rw [if_neg (fun e => hn e.2), fb 2 (by decide), if_neg (fun e => hn e.1)]
      · rw [if_neg (fun e => hb e.1), fb 2 (by decide), if_neg hb]
        rfl
  by_cases h16 : ty = 16
  · subst h16
    have e : rdd l k 16 = rdT l k := rfl
    have hbt := bt_bounds l k
    rw [gd_16 h hk, e]
    unfold rdT
    by_cases ha : (l.length : Int) ≤ k
    · rw [if_pos ha, if_neg (fun e => by omega), fb 2 (by decide)]
      rfl
    · rw [if_neg ha]
      by_cases hb : (l.length : Int) < k + 1 + bt l k
      · rw [if_pos hb, if_neg (fun e => by omega), fb 2 (by decide)]
        rfl
      · rw [if_neg hb]
        dsimp only
        rw [R0]
        by_cases hn : bt l k = n - 1
        · rw [hn, rok_T]
          by_cases hr : txo (piece l k.toNat (n - 1).toNat) = true
          · rw [if_pos ⟨by omega, rfl, hr⟩, fo, rok_T, if_pos hr, if_pos ⟨by omega, hr⟩]
          · rw [if_neg (fun e => hr e.2.2), fb 2 (by decide), if_neg (fun e => hr e.2)]
        · rw [if_neg (fun e => hn e.2.1), fb 2 (by decide), if_neg (fun e => by have := e.1; omega)]
  · have e : rdd l k ty = (2, 0, zr) := by unfold rdd; rw [if_neg h1, if_neg h25, if_neg h6, if_neg h16]
    rw [gd_ty h hk (by omega), e, fb 2 (by decide)]
    rfl
end Go.Proofs.YtkfibepejlgniaaGreatDoor.FieldRd

/- What the program's readers of data do: they read as FieldRd tells, and hand on a value of which recordOf makes the record. Conditions: at most 400000000 bytes; the library's variable internal/bytealg.MaxLen holds an int. -/
namespace Go.Proofs.YtkfibepejlgniaaGreatDoor.ReadI
open Go.RowKit Go.Proofs.YtkfibepejlgniaaGreatDoor.Mem Go.Proofs.YtkfibepejlgniaaGreatDoor.MemR Go.Proofs.YtkfibepejlgniaaGreatDoor.JoinSpec Go.Proofs.YtkfibepejlgniaaGreatDoor.Labels Go.Proofs.YtkfibepejlgniaaGreatDoor.GetLabel Go.Proofs.YtkfibepejlgniaaGreatDoor.BoxR Go.Proofs.YtkfibepejlgniaaGreatDoor.NameOk Go.Proofs.YtkfibepejlgniaaGreatDoor.WireMath Go.Proofs.YtkfibepejlgniaaGreatDoor.WalkSpec Go.Proofs.YtkfibepejlgniaaGreatDoor.Get Go.Proofs.YtkfibepejlgniaaGreatDoor.FieldMath Go.Proofs.YtkfibepejlgniaaGreatDoor.FieldRd Go.Proofs.YtkfibepejlgniaaGreatDoor.ResR

theorem get4 (A : Option Addr) (n c : Nat) (l : List UInt8) (k : Int) (w : World) (B : Nat) (hs : Sl w B A n l) (hnc : n ≤ c) (hn : n ≤ 400000000) :
    Calls Tryz.prog 189 #[.slice A n c, .int .i64 k] w fun e w' => e = .returned (.tuple #[.int .i64 (n4 l k).1, .bool (n4 l k).2]) ∧ w = w' := by
  have hl := hs.1
  unfold n4
  by_cases h : 0 ≤ k ∧ k ≤ (l.length : Int) - 4
  · rw [if_pos h]
    obtain ⟨j, rfl⟩ := Int.eq_ofNat_of_zero_le h.1
    refine (implGet4_yes A n c l w B j hs hnc hn (by omega)).mono fun e w' ⟨he, hw⟩ => ⟨?_, hw⟩
    rw [he, Int.toNat_natCast]
    unfold four
    by_cases hv : 2147483647 < be ((l.drop j).take 4)
    · rw [if_pos hv, if_pos hv]
    · rw [if_neg hv, if_neg hv]
  · rw [if_neg h]
    exact implGet4_no A n c w k hn (by omega)

/-- recordOf makes the record r of the value v. -/
def RecOf (v : Value) (r : Rec) : Prop := ∀ W, Calls Tryz.prog 203 #[v] W fun e w' => e = .returned (.agg #[.string r.name, .int .i64 r.ty, .int .i64 r.ttl, .int .i64 r.n, .string r.host, .string r.text]) ∧ Below W.heap.size W w'

theorem as_addr_addr (v : Value) (w : World) : (Instr.typeAssert (.iface 190 v) 176 190 true).run Tryz.prog w = .ok (.tuple #[v, .bool true]) w := by kernel_rfl
theorem as_server_addr (v : Value) (w : World) : (Instr.typeAssert (.iface 191 v) 176 190 true).run Tryz.prog w = .ok (.tuple #[.int .i64 0, .bool false]) w := by kernel_rfl
theorem as_server_server (v : Value) (w : World) : (Instr.typeAssert (.iface 191 v) 176 191 true).run Tryz.prog w = .ok (.tuple #[v, .bool true]) w := by kernel_rfl
theorem as_alias_addr (v : Value) (w : World) : (Instr.typeAssert (.iface 192 v) 176 190 true).run Tryz.prog w = .ok (.tuple #[.int .i64 0, .bool false]) w := by kernel_rfl
theorem as_alias_server (v : Value) (w : World) : (Instr.typeAssert (.iface 192 v) 176 191 true).run Tryz.prog w = .ok (.tuple #[.string ⟨#[]⟩, .bool false]) w := by kernel_rfl
theorem as_alias_alias (v : Value) (w : World) : (Instr.typeAssert (.iface 192 v) 176 192 true).run Tryz.prog w = .ok (.tuple #[v, .bool true]) w := by kernel_rfl
theorem as_start_addr (v : Value) (w : World) : (Instr.typeAssert (.iface 194 v) 176 190 true).run Tryz.prog w = .ok (.tuple #[.int .i64 0, .bool false]) w := by kernel_rfl
theorem as_start_server (v : Value) (w : World) : (Instr.typeAssert (.iface 194 v) 176 191 true).run Tryz.prog w = .ok (.tuple #[.string ⟨#[]⟩, .bool false]) w := by kernel_rfl
theorem as_start_alias (v : Value) (w : World) : (Instr.typeAssert (.iface 194 v) 176 192 true).run Tryz.prog w = .ok (.tuple #[.string ⟨#[]⟩, .bool false]) w := by kernel_rfl
theorem as_start_start (v : Value) (w : World) : (Instr.typeAssert (.iface 194 v) 176 194 true).run Tryz.prog w = .ok (.tuple #[v, .bool true]) w := by kernel_rfl
theorem as_text_addr (v : Value) (w : World) : (Instr.typeAssert (.iface 195 v) 176 190 true).run Tryz.prog w = .ok (.tuple #[.int .i64 0, .bool false]) w := by kernel_rfl
theorem as_text_server (v : Value) (w : World) : (Instr.typeAssert (.iface 195 v) 176 191 true).run Tryz.prog w = .ok (.tuple #[.string ⟨#[]⟩, .bool false]) w := by kernel_rfl
theorem as_text_alias (v : Value) (w : World) : (Instr.typeAssert (.iface 195 v) 176 192 true).run Tryz.prog w = .ok (.tuple #[.string ⟨#[]⟩, .bool false]) w := by kernel_rfl
theorem as_text_start (v : Value) (w : World) : (Instr.typeAssert (.iface 195 v) 176 194 true).run Tryz.prog w = .ok (.tuple #[.agg #[.string ⟨#[]⟩, .int .i64 0], .bool false]) w := by kernel_rfl
theorem as_text_text (v : Value) (w : World) : (Instr.typeAssert (.iface 195 v) 176 195 true).run Tryz.prog w = .ok (.tuple #[v, .bool true]) w := by kernel_rfl

set_option maxHeartbeats 1000000 in
theorem of_addr (x : Int) : RecOf (.iface 190 (.int .i64 x)) (rA x) := by
  intro w
  have h_addr := as_addr_addr
  go_enter Tryz.func203, Tryz.ntmps203
  go_wp2
  exact bodyPost_ret (v := .agg #[.string ((rA x)).name, .int .i64 ((rA x)).ty, .int .i64 ((rA x)).ttl, .int .i64 ((rA x)).n, .string ((rA x)).host, .string ((rA x)).text]) (res1 rfl (show Bk _ w.heap.size 117 (rc (rA x)) from heap_alloc_new w _) rfl) rfl ⟨rfl, (Below.refl _ _).alloc (Nat.le_refl _) _⟩

set_option maxHeartbeats 1000000 in
theorem of_server (s : ByteArray) : RecOf (.iface 191 (.string s)) (rH 2 s) := by
  intro w
  have h_addr := as_server_addr
  have h_server := as_server_server
  go_enter Tryz.func203, Tryz.ntmps203
  go_wp2
  exact bodyPost_ret (v := .agg #[.string ((rH 2 s)).name, .int .i64 ((rH 2 s)).ty, .int .i64 ((rH 2 s)).ttl, .int .i64 ((rH 2 s)).n, .string ((rH 2 s)).host, .string ((rH 2 s)).text]) (res1 rfl (show Bk _ w.heap.size 117 (rc (rH 2 s)) from heap_alloc_new w _) rfl) rfl ⟨rfl, (Below.refl _ _).alloc (Nat.le_refl _) _⟩

set_option maxHeartbeats 1000000 in
theorem of_alias (s : ByteArray) : RecOf (.iface 192 (.string s)) (rH 5 s) := by
  intro w
  have h_addr := as_alias_addr
  have h_server := as_alias_server
  have h_alias := as_alias_alias
  go_enter Tryz.func203, Tryz.ntmps203
  go_wp2
  exact bodyPost_ret (v := .agg #[.string ((rH 5 s)).name, .int .i64 ((rH 5 s)).ty, .int .i64 ((rH 5 s)).ttl, .int .i64 ((rH 5 s)).n, .string ((rH 5 s)).host, .string ((rH 5 s)).text]) (res1 rfl (show Bk _ w.heap.size 117 (rc (rH 5 s)) from heap_alloc_new w _) rfl) rfl ⟨rfl, (Below.refl _ _).alloc (Nat.le_refl _) _⟩

set_option maxHeartbeats 1000000 in
theorem of_start (s : ByteArray) (x : Int) : RecOf (.iface 194 (.agg #[.string s, .int .i64 x])) (rS s x) := by
  intro w
  have h_addr := as_start_addr
  have h_server := as_start_server
  have h_alias := as_start_alias
  have h_start := as_start_start
  go_enter Tryz.func203, Tryz.ntmps203
  go_wp2
  exact bodyPost_ret (v := .agg #[.string ((rS s x)).name, .int .i64 ((rS s x)).ty, .int .i64 ((rS s x)).ttl, .int .i64 ((rS s x)).n, .string ((rS s x)).host, .string ((rS s x)).text]) (res1 rfl ((show Bk _ w.heap.size 117 (rc (rS s x)) from heap_alloc_new w _).alloc _) rfl) rfl ⟨rfl, ((Below.refl _ _).alloc (Nat.le_refl _) _).alloc (by simp) _⟩

set_option maxHeartbeats 1000000 in
theorem of_text (s : ByteArray) : RecOf (.iface 195 (.string s)) (rT s) := by
  intro w
  have h_addr := as_text_addr
  have h_server := as_text_server
  have h_alias := as_text_alias
  have h_start := as_text_start
  have h_text := as_text_text
  go_enter Tryz.func203, Tryz.ntmps203
  go_wp2
  exact bodyPost_ret (v := .agg #[.string ((rT s)).name, .int .i64 ((rT s)).ty, .int .i64 ((rT s)).ttl, .int .i64 ((rT s)).n, .string ((rT s)).host, .string ((rT s)).text]) (res1 rfl (show Bk _ w.heap.size 117 (rc (rT s)) from heap_alloc_new w _) rfl) rfl ⟨rfl, (Below.refl _ _).alloc (Nat.le_refl _) _⟩

/-- What a reader hands on. -/
def Rd (w : World) (X : Nat × Int × Rec) (e : Ending) (w' : World) : Prop :=
  ∃ v, e = .returned (.tuple #[v, .int .i64 X.2.1, .int .i64 (X.1 : Int)]) ∧ (X.1 = 0 → RecOf v X.2.2) ∧ Below w.heap.size w w'

set_option maxHeartbeats 1000000 in
theorem readAddr (A : Option Addr) (n c : Nat) (l : List UInt8) (k : Int) (w : World) (hs : Sl w w.heap.size A n l) (hnc : n ≤ c) (hn : n ≤ 400000000) (hk : 0 ≤ k ∧ k ≤ (n : Int)) :
    Calls Tryz.prog 215 #[.slice A n c, .int .i64 k] w (Rd w (rdA l k)) := by
  have G := Lib.hid (get4 A n c l k w _ hs hnc hn)
  have HX : Hid (rdA l k = if (n4 l k).2 = true then (0, k + 4, rA (n4 l k).1) else (2, 0, zr)) := rfl
  clear hs
  generalize rdA l k = X at *
  generalize n4 l k = y at *
  obtain ⟨x, b⟩ := y
  go_enter Tryz.func215, Tryz.ntmps215
  go_wp2_with fail
  refine G.out.mono ?_
  rintro e w1 ⟨rfl, rfl⟩
  cases b
  · have HX2 : Hid (X = (2, 0, zr)) := HX.out
    clear HX
    go_wp2
    go_ret3
    rw [HX2.out]
    exact ⟨_, rfl, fun h => absurd h (by decide), Below.refl _ _⟩
  · have HX2 : Hid (X = (0, k + 4, rA x)) := HX.out
    clear HX
    go_wp2
    go_ret3
    rw [HX2.out]
    exact ⟨_, rfl, fun _ => of_addr x, Below.refl _ _⟩

set_option maxHeartbeats 1000000 in
theorem readServer (A : Option Addr) (n c : Nat) (l : List UInt8) (k : Int) (w : World) (he : Env w) (hs : Sl w w.heap.size A n l) (hnc : n ≤ c) (hn : n ≤ 400000000) :
    Calls Tryz.prog 216 #[.slice A n c, .int .i64 k] w (Rd w (rdH l k 2)) := by
  have G := Lib.hid (NameGet.getName A n c l k w _ rfl he hs hn hnc)
  clear hs he
  unfold rdH
  generalize rn l [] k k 0 (-1) = R at *
  obtain ⟨c0, L0, x0, j0⟩ := R
  unfold val3 at G
  dsimp only at G ⊢
  generalize Jo L0 = s at *
  go_enter Tryz.func216, Tryz.ntmps216
  go_wp2_with fail
  refine G.out.mono ?_
  rintro e w1 ⟨rfl, hl⟩
  have L1 := Lib.hid hl
  clear hl
  go_wp2
  go_ret3
  exact ⟨_, rfl, fun _ => of_server s, L1.out⟩

set_option maxHeartbeats 1000000 in
theorem readAlias (A : Option Addr) (n c : Nat) (l : List UInt8) (k : Int) (w : World) (he : Env w) (hs : Sl w w.heap.size A n l) (hnc : n ≤ c) (hn : n ≤ 400000000) :
    Calls Tryz.prog 217 #[.slice A n c, .int .i64 k] w (Rd w (rdH l k 5)) := by
  have G := Lib.hid (NameGet.getName A n c l k w _ rfl he hs hn hnc)
  clear hs he
  unfold rdH
  generalize rn l [] k k 0 (-1) = R at *
  obtain ⟨c0, L0, x0, j0⟩ := R
  unfold val3 at G
  dsimp only at G ⊢
  generalize Jo L0 = s at *
  go_enter Tryz.func217, Tryz.ntmps217
  go_wp2_with fail
  refine G.out.mono ?_
  rintro e w1 ⟨rfl, hl⟩
  have L1 := Lib.hid hl
  clear hl
  go_wp2
  go_ret3
  exact ⟨_, rfl, fun _ => of_alias s, L1.out⟩

set_option maxHeartbeats 1000000 in
theorem readStart (A : Option Addr) (n c : Nat) (l : List UInt8) (k : Int) (w : World) (he : Env w) (hs : Sl w w.heap.size A n l) (hnc : n ≤ c) (hn : n ≤ 400000000) :
    Calls Tryz.prog 218 #[.slice A n c, .int .i64 k] w (Rd w (rdS l k)) := by
  have G := Lib.hid (NameGet.getName A n c l k w _ rfl he hs hn hnc)
  have G4 := Lib.hid (fun (q : Int) (W : World) (hW : Below w.heap.size w W) => get4 A n c l q W _ ((hs.below hW).wider hW.size) hnc hn)
  have HI := Lib.hid (fun q => n4_in (l := l) (k := q))
  have HL := Lib.hid hs.1
  have HX : Hid (rdS l k = if (rn l [] k k 0 (-1)).1 ≠ 0 then ((rn l [] k k 0 (-1)).1, 0, zr) else if (n4 l (rn l [] k k 0 (-1)).2.2.1).2 = true then (0, (rn l [] k k 0 (-1)).2.2.1 + 4, rS (Jo (rn l [] k k 0 (-1)).2.1) (n4 l (rn l [] k k 0 (-1)).2.2.1).1) else (2, 0, zr)) := rfl
  clear hs he
  generalize rdS l k = X at *
  generalize rn l [] k k 0 (-1) = R at *
  obtain ⟨c0, L0, x0, j0⟩ := R
  unfold val3 at G
  dsimp only at G HX ⊢
  generalize Jo L0 = s at *
  go_enter Tryz.func218, Tryz.ntmps218
  go_wp2_with fail
  refine G.out.mono ?_
  rintro e w1 ⟨rfl, hl⟩
  have L1 := Lib.hid hl
  clear hl G
  by_cases hc : c0 = 0
  · subst hc
    have HX2 := Lib.hid (HX.out.trans (if_neg (fun e => e rfl)))
    clear HX
    have G5 := Lib.hid (G4.out x0 w1 L1.out)
    have HI5 := Lib.hid (HI.out x0)
    clear G4 HI
    generalize n4 l x0 = y at *
    obtain ⟨x, b⟩ := y
    go_wp2_with fail
    refine G5.out.mono ?_
    rintro e w2 ⟨rfl, rfl⟩
    cases b
    · have HX3 : Hid (X = (2, 0, zr)) := HX2.out
      clear HX2
      go_wp2
      go_ret3
      rw [HX3.out]
      exact ⟨_, rfl, fun h => absurd h (by decide), L1.out⟩
    · have HX3 : Hid (X = (0, x0 + 4, rS s x)) := HX2.out
      obtain ⟨q0, q1⟩ := HI5.out rfl
      rw [HL.out] at q1
      clear HX2 HI5
      go_wp2
      go_ret3
      rw [HX3.out]
      exact ⟨_, rfl, fun _ => of_start s x, L1.out⟩
  · have HX2 := Lib.hid (HX.out.trans (if_pos hc))
    have hc2 : ((c0 : Int) != 0) = true := by simp; omega
    clear HX
    go_wp2
    go_ret3
    rw [HX2.out]
    exact ⟨_, rfl, fun h => absurd h hc, L1.out⟩

theorem conv_text {w : World} {B b off n : Nat} {l : List UInt8} (hs : Sl w B (some ⟨b, off, none⟩) n l) (k m cap : Nat) (h : k + 1 + m ≤ n) :
    (convert 22 195 (.slice (some ⟨b, off + (k + 1), none⟩) m cap)).run Tryz.prog w = .ok (.string (piece l k m)) w := by
  have hl := hs.1
  obtain ⟨b', off', hA, _, hc⟩ := hs.2 (by omega)
  obtain ⟨rfl, rfl⟩ : b = b' ∧ off = off' := by simpa using hA
  have hlen : ((l.drop (k + 1)).take m).length = m := by simp; omega
  have := run_convert_bytes_back (P := Tryz.prog) w 22 195 5 ⟨b, off + (k + 1), none⟩ cap ((l.drop (k + 1)).take m) Tryz.underlying22 Tryz.underlying5 Tryz.underlying195 (fun j hj => by
    rw [Addr.add_lit]
    have hj2 : j < m := by rw [hlen] at hj; exact hj
    have := hc (k + 1 + j) (by omega)
    rw [Nat.add_assoc, this]
    simp)
  rw [hlen] at this
  exact this
theorem conv_empty {w : World} (A : Addr) (cap : Nat) (l : List UInt8) (k : Nat) :
    (convert 22 195 (.slice (some A) 0 cap)).run Tryz.prog w = .ok (.string (piece l k 0)) w := by
  have := run_convert_bytes_back (P := Tryz.prog) w 22 195 5 A cap [] Tryz.underlying22 Tryz.underlying5 Tryz.underlying195 (fun j hj => by simp at hj)
  simpa [piece] using this
theorem bt_at (l : List UInt8) (k : Nat) (h : k < l.length) : bt l (k : Int) = (l[k].toNat : Int) := by
  unfold bt
  rw [Int.toNat_natCast, List.getD_eq_getElem?_getD, List.getElem?_eq_getElem h]
  rfl

set_option maxHeartbeats 1000000 in
theorem readText (A : Option Addr) (n c : Nat) (l : List UInt8) (k : Int) (w : World) (hs : Sl w w.heap.size A n l) (hnc : n ≤ c) (hn : n ≤ 400000000) (hk : 0 ≤ k ∧ k ≤ (n : Int)) :
    Calls Tryz.prog 219 #[.slice A n c, .int .i64 k] w (Rd w (rdT l k)) := by
  have hl := hs.1
  obtain ⟨k', rfl⟩ := Int.eq_ofNat_of_zero_le hk.1
  have hk2 := hk.2
  clear hk
  have HX : Hid (rdT l (k' : Int) = if (l.length : Int) ≤ (k' : Int) then (2, 0, zr) else if (l.length : Int) < (k' : Int) + 1 + bt l (k' : Int) then (2, 0, zr) else (0, (k' : Int) + 1 + bt l (k' : Int), rT (piece l (k' : Int).toNat (bt l (k' : Int)).toNat))) := rfl
  generalize rdT l (k' : Int) = X at *
  rw [hl] at HX
  by_cases h1 : (n : Int) ≤ (k' : Int)
  · have HX2 := Lib.hid (HX.out.trans (if_pos h1))
    clear HX hs hl
    go_enter Tryz.func219, Tryz.ntmps219
    go_wp2
    go_ret3
    rw [HX2.out]
    exact ⟨_, rfl, fun h => absurd h (by decide), Below.refl _ _⟩
  · have hkl : k' < l.length := by omega
    have hkn : k' < n := by omega
    have HX2 := Lib.hid (HX.out.trans (if_neg h1))
    clear HX
    rw [bt_at l k' hkl, Int.toNat_natCast, Int.toNat_natCast] at HX2
    obtain ⟨b, off, rfl, hbB, hcs⟩ := hs.2 (by omega)
    have hx : w.cell? ⟨b, off + k', none⟩ = some (.int .u8 (l[k'].toNat : Int)) := hcs k' hkl
    have hb1 : l[k'].toNat < 256 := l[k'].toNat_lt
    have HS := Lib.hid hs
    clear hs hcs hl h1 hk2
    generalize l[k'].toNat = m at *
    by_cases hin : k' + 1 + m ≤ n
    · have HX3 := Lib.hid (HX2.out.trans (if_neg (by omega)))
      clear HX2
      by_cases hck : c = k' + 1
      · obtain rfl : m = 0 := by omega
        have hcv := fun A cap => conv_empty (w := w) A cap l k'
        generalize piece l k' 0 = T at *
        go_enter Tryz.func219, Tryz.ntmps219
        go_wp2
        go_ret3
        rw [HX3.out]
        exact ⟨_, rfl, fun _ => of_text T, Below.refl _ _⟩
      · have hcv := fun cap => conv_text HS.out k' m cap hin
        generalize piece l k' m = T at *
        go_enter Tryz.func219, Tryz.ntmps219
        go_wp2
        go_ret3
        rw [HX3.out]
        exact ⟨_, rfl, fun _ => of_text T, Below.refl _ _⟩
    · have HX3 := Lib.hid (HX2.out.trans (if_pos (by omega)))
      clear HX2
      go_enter Tryz.func219, Tryz.ntmps219
      go_wp2
      go_ret3
      rw [HX3.out]
      exact ⟨_, rfl, fun h => absurd h (by decide), Below.refl _ _⟩

set_option maxHeartbeats 1000000 in
theorem readData (A : Option Addr) (n c : Nat) (l : List UInt8) (k ty : Int) (w : World) (he : Env w) (hs : Sl w w.heap.size A n l) (hnc : n ≤ c) (hn : n ≤ 400000000) (hk : 0 ≤ k ∧ k ≤ (n : Int)) :
    Calls Tryz.prog 202 #[.slice A n c, .int .i64 k, .int .i64 ty] w (Rd w (rdd l k ty)) := by
  have P1 := Lib.hid (readAddr A n c l k w hs hnc hn hk)
  have P2 := Lib.hid (readServer A n c l k w he hs hnc hn)
  have P5 := Lib.hid (readAlias A n c l k w he hs hnc hn)
  have P6 := Lib.hid (readStart A n c l k w he hs hnc hn)
  have P16 := Lib.hid (readText A n c l k w hs hnc hn hk)
  clear hs he hk
  by_cases t1 : ty = 1
  · subst t1
    have HX : Hid (rdd l k 1 = rdA l k) := rfl
    generalize rdd l k 1 = X at *
    generalize rdA l k = Y at *
    obtain ⟨yc, yn, yr⟩ := Y
    go_enter Tryz.func202, Tryz.ntmps202
    go_wp2_with fail
    refine P1.out.mono ?_
    rintro e w1 ⟨v, rfl, hv, hl⟩
    have HV := Lib.hid hv
    have L1 := Lib.hid hl
    clear hv hl
    go_wp2
    go_ret3
    rw [HX.out]
    exact ⟨v, rfl, HV.out, L1.out⟩
  by_cases t2 : ty = 2
  · subst t2
    have HX : Hid (rdd l k 2 = rdH l k 2) := rfl
    generalize rdd l k 2 = X at *
    generalize rdH l k 2 = Y at *
    obtain ⟨yc, yn, yr⟩ := Y
    go_enter Tryz.func202, Tryz.ntmps202
    go_wp2_with fail
    refine P2.out.mono ?_
    rintro e w1 ⟨v, rfl, hv, hl⟩
    have HV := Lib.hid hv
    have L1 := Lib.hid hl
    clear hv hl
    go_wp2
    go_ret3
    rw [HX.out]
    exact ⟨v, rfl, HV.out, L1.out⟩
  by_cases t5 : ty = 5
  · subst t5
    have HX : Hid (rdd l k 5 = rdH l k 5) := rfl
    generalize rdd l k 5 = X at *
    generalize rdH l k 5 = Y at *
    obtain ⟨yc, yn, yr⟩ := Y
    go_enter Tryz.func202, Tryz.ntmps202
    go_wp2_with fail
    refine P5.out.mono ?_
    rintro e w1 ⟨v, rfl, hv, hl⟩
    have HV := Lib.hid hv
    have L1 := Lib.hid hl
    clear hv hl
    go_wp2
    go_ret3
    rw [HX.out]
    exact ⟨v, rfl, HV.out, L1.out⟩
  by_cases t6 : ty = 6
  · subst t6
    have HX : Hid (rdd l k 6 = rdS l k) := rfl
    generalize rdd l k 6 = X at *
    generalize rdS l k = Y at *
    obtain ⟨yc, yn, yr⟩ := Y
    go_enter Tryz.func202, Tryz.ntmps202
    go_wp2_with fail
    refine P6.out.mono ?_
    rintro e w1 ⟨v, rfl, hv, hl⟩
    have HV := Lib.hid hv
    have L1 := Lib.hid hl
    clear hv hl
    go_wp2
    go_ret3
    rw [HX.out]
    exact ⟨v, rfl, HV.out, L1.out⟩
  by_cases t16 : ty = 16
  · subst t16
    have HX : Hid (rdd l k 16 = rdT l k) := rfl
    generalize rdd l k 16 = X at *
    generalize rdT l k = Y at *
    obtain ⟨yc, yn, yr⟩ := Y
    go_enter Tryz.func202, Tryz.ntmps202
    go_wp2_with fail
    refine P16.out.mono ?_
    rintro e w1 ⟨v, rfl, hv, hl⟩
    have HV := Lib.hid hv
    have L1 := Lib.hid hl
    clear hv hl
    go_wp2
    go_ret3
    rw [HX.out]
    exact ⟨v, rfl, HV.out, L1.out⟩
  have HX : Hid (rdd l k ty = (2, 0, zr)) := by show _ = _; unfold rdd; rw [if_neg t1, if_neg (by omega), if_neg t6, if_neg t16]
  generalize rdd l k ty = X at *
  have e1 : (ty == 1) = false := beq_eq_false_iff_ne.2 t1
  have e2 : (ty == 2) = false := beq_eq_false_iff_ne.2 t2
  have e5 : (ty == 5) = false := beq_eq_false_iff_ne.2 t5
  have e6 : (ty == 6) = false := beq_eq_false_iff_ne.2 t6
  have e16 : (ty == 16) = false := beq_eq_false_iff_ne.2 t16
  clear P1 P2 P5 P6 P16
  go_enter Tryz.func202, Tryz.ntmps202
  go_wp2
  go_ret3
  rw [HX.out]
  exact ⟨_, rfl, fun h => absurd h (by decide), Below.refl _ _⟩

end Go.Proofs.YtkfibepejlgniaaGreatDoor.ReadI

/- What the program's GetData does: it reads as FieldMath tells (gd, and the look at the record besides: fx), and turns nothing that was there. Conditions: at most 400000000 bytes; the library's variable internal/bytealg.MaxLen holds an int. -/
namespace Go.Proofs.YtkfibepejlgniaaGreatDoor.GetI
open Go.RowKit Go.Proofs.YtkfibepejlgniaaGreatDoor.Mem Go.Proofs.YtkfibepejlgniaaGreatDoor.MemR Go.Proofs.YtkfibepejlgniaaGreatDoor.JoinSpec Go.Proofs.YtkfibepejlgniaaGreatDoor.Labels Go.Proofs.YtkfibepejlgniaaGreatDoor.BoxR Go.Proofs.YtkfibepejlgniaaGreatDoor.NameOk Go.Proofs.YtkfibepejlgniaaGreatDoor.TextR Go.Proofs.YtkfibepejlgniaaGreatDoor.RecOk Go.Proofs.YtkfibepejlgniaaGreatDoor.WireMath Go.Proofs.YtkfibepejlgniaaGreatDoor.FieldMath Go.Proofs.YtkfibepejlgniaaGreatDoor.FieldRd Go.Proofs.YtkfibepejlgniaaGreatDoor.ResR Go.Proofs.YtkfibepejlgniaaGreatDoor.ReadI Go.Proofs.YtkfibepejlgniaaGreatDoor.WireGood Go.Proofs.YtkfibepejlgniaaGreatDoor.Plain

/-- What GetData hands back. A def, so that no step of a walk opens it. -/
def val2 (X : Nat × Rec) : Value := .tuple #[.agg #[.string (X.2).name, .int .i64 (X.2).ty, .int .i64 (X.2).ttl, .int .i64 (X.2).n, .string (X.2).host, .string (X.2).text], .int .i64 (X.1 : Int)]
theorem piece_le (l : List UInt8) (k m : Nat) : (GetLabel.piece l k m).size ≤ m := by
  show ((l.drop (k + 1)).take m).toArray.size ≤ m
  simp
  omega
theorem name_le {l : List UInt8} {k : Int} (h : (rn l [] k k 0 (-1)).1 = 0) : (Jo (rn l [] k k 0 (-1)).2.1).size ≤ 50 := by
  generalize hr : rn l [] k k 0 (-1) = R at *
  obtain ⟨c, L, x, j⟩ := R
  have h : c = 0 := h
  subst h
  exact (nm_parts (rn_good hr).2.1).1
/-- A record that was read is not long. -/
theorem rdd_mod (l : List UInt8) (k ty : Int) (h : (rdd l k ty).1 = 0) : DataS.Med (rdd l k ty).2.2 := by
  have hz : DataS.Med zr := ⟨by decide, by decide, by decide⟩
  unfold rdd at h ⊢
  split at h
  · rename_i h1
    rw [if_pos h1]
    unfold rdA at h ⊢
    split
    · exact ⟨by show (0 : Nat) ≤ _; omega, by show (0 : Nat) ≤ _; omega, by show (0 : Nat) ≤ _; omega⟩
    · exact hz
  · rename_i h1
    rw [if_neg h1]
    split at h
    · rename_i h2
      rw [if_pos h2]
      exact ⟨by show (0 : Nat) ≤ _; omega, Nat.le_trans (name_le h) (by decide), by show (0 : Nat) ≤ _; omega⟩
    · rename_i h2
      rw [if_neg h2]
      split at h
      · rename_i h6
        rw [if_pos h6]
        unfold rdS at h ⊢
        split at h
        · rename_i hc
          rw [if_pos hc]
          exact hz
        · rename_i hc
          rw [if_neg hc]
          have hc : (rn l [] k k 0 (-1)).1 = 0 := Decidable.byContradiction hc
          split
          · exact ⟨by show (0 : Nat) ≤ _; omega, Nat.le_trans (name_le hc) (by decide), by show (0 : Nat) ≤ _; omega⟩
          · exact hz
      · rename_i h6
        rw [if_neg h6]
        split at h
        · rename_i h16
          rw [if_pos h16]
          unfold rdT at h ⊢
          split
          · exact hz
          · split
            · exact hz
            · have hb := bt_bounds l k
              have hp := piece_le l k.toNat (bt l k).toNat
              exact ⟨by show (0 : Nat) ≤ _; omega, by show (0 : Nat) ≤ _; omega, by show (GetLabel.piece l k.toNat (bt l k).toNat).size ≤ _; omega⟩
        · exact absurd h (by decide)

set_option maxRecDepth 100000 in
set_option maxHeartbeats 2000000 in
theorem data (A : Option Addr) (n c : Nat) (l : List UInt8) (k q ty : Int) (w : World) (he : Env w) (hs : Sl w w.heap.size A n l) (hnc : n ≤ c) (hn : n ≤ 400000000) :
    Calls Tryz.prog 190 #[.slice A n c, .int .i64 k, .int .i64 q, .int .i64 ty] w fun e w' => e = .returned (val2 (fx (gd l k q ty))) ∧ Below w.heap.size w w' := by
  have hl := hs.1
  have L0 := Lib.hid ((Below.refl w.heap.size w).alloc (Nat.le_refl _) (.cells #[.string ⟨#[]⟩, .int .i64 0, .int .i64 0, .int .i64 0, .string ⟨#[]⟩, .string ⟨#[]⟩] 117))
  by_cases h : 0 ≤ q ∧ q ≤ 255
  · have HI : Hid (inn q 0 255 = true) := decide_eq_true h
    by_cases hk : k < 0 ∨ (n : Int) - q < k
    · have HX : Hid (fx (gd l k q ty) = (1, zr)) := by show _ = _; rw [gd_out h (by rw [hl]; exact hk)]; exact fx_bad (by decide)
      generalize fx (gd l k q ty) = X at *
      clear hs hl he
      obtain ⟨h0, h1⟩ := h
      rcases (show k < 0 ∨ (¬ k < 0 ∧ (n : Int) - q < k) by omega) with hk | ⟨hk0, hk⟩
      all_goals
        go_enter Tryz.func190, Tryz.ntmps190
        go_wp2_with fail
        refine (upTo_any q 255 _).mono ?_
        rw [HI.out]
        rintro e w1 ⟨rfl, rfl⟩
        go_wp2
        refine bodyPost_ret (v := val2 (1, zr)) (res2 rfl (show Bk _ w.heap.size 117 (rc zr) from heap_alloc_new w _) rfl rfl) rfl ⟨by rw [HX.out], L0.out⟩
    · have HX := Lib.hid (rdd_gd (ty := ty) h (by rw [hl]; exact hk))
      have RD := Lib.hid (fun W (hW : Below w.heap.size w W) => readData A n c l k ty W (he.below hW) ((hs.below hW).wider hW.size) hnc hn (by omega))
      have HM := Lib.hid (rdd_mod l k ty)
      have HE := Lib.hid he
      have Z0 : Hid (Bk (w.alloc (.cells #[.string ⟨#[]⟩, .int .i64 0, .int .i64 0, .int .i64 0, .string ⟨#[]⟩, .string ⟨#[]⟩] 117)) w.heap.size 117 (rc zr)) := heap_alloc_new w _
      generalize fx (gd l k q ty) = X at *
      generalize rdd l k ty = Y at *
      obtain ⟨yc, yn, yr⟩ := Y
      dsimp only at HX HM
      clear hs hl he
      obtain ⟨h0, h1⟩ := h
      have hk0 : ¬ k < 0 := by omega
      have hk1 : ¬ (n : Int) - q < k := by omega
      clear hk
      go_enter Tryz.func190, Tryz.ntmps190
      go_wp2_with fail
      refine (upTo_any q 255 _).mono ?_
      rw [HI.out]
      rintro e w1 ⟨rfl, rfl⟩
      go_wp2_with fail
      refine (RD.out _ L0.out).mono ?_
      rintro e w1 ⟨v, rfl, hv, hl⟩
      dsimp only at hv ⊢
      have HV := Lib.hid hv
      have L1 := Lib.hid (L0.out.trans (hl.mono L0.out.size))
      have Z1 := Lib.hid (Z0.out.below hl Z0.out.lt)
      clear hv hl L0 Z0 RD
      obtain ⟨z0, z1, z2, z3, z4, z5⟩ := bx_of Z1.out
      have f0 := Z1.out.free 0
      have f1 := Z1.out.free 1
      have f2 := Z1.out.free 2
      have f3 := Z1.out.free 3
      have f4 := Z1.out.free 4
      have f5 := Z1.out.free 5
      by_cases hc : yc = 0
      · subst hc
        have HX2 := Lib.hid (HX.out.trans (if_neg (fun e => e rfl)))
        have RO := Lib.hid (fun W (hW : Below w.heap.size w W) => RecOk.impl yr W (HE.out.below hW) (HM.out rfl).mod)
        have HR := Lib.hid (HV.out rfl w1)
        clear HX HM HV
        obtain ⟨u, hu⟩ : ∃ u, rok yr = u := ⟨_, rfl⟩
        have HU := Lib.hid hu
        clear hu
        go_wp2_with fail
        refine HR.out.mono ?_
        rintro e w2 ⟨rfl, hl⟩
        have L2 := Lib.hid (L1.out.trans (hl.mono L1.out.size))
        have Z2 := Lib.hid (Z1.out.below hl Z1.out.lt)
        clear hl HR L1 Z1 z0 z1 z2 z3 z4 z5 f0 f1 f2 f3 f4 f5
        have L3 := Lib.hid (L2.out.alloc L2.out.size (.cells #[.string yr.name, .int .i64 yr.ty, .int .i64 yr.ttl, .int .i64 yr.n, .string yr.host, .string yr.text] 117))
        have Z3 := Lib.hid (Z2.out.alloc (.cells #[.string yr.name, .int .i64 yr.ty, .int .i64 yr.ttl, .int .i64 yr.n, .string yr.host, .string yr.text] 117))
        have X3 := Lib.hid (bx_new w2 117 yr)
        obtain ⟨z0, z1, z2, z3, z4, z5⟩ := bx_of Z3.out
        have f0 := Z3.out.free 0
        have f1 := Z3.out.free 1
        have f2 := Z3.out.free 2
        have f3 := Z3.out.free 3
        have f4 := Z3.out.free 4
        have f5 := Z3.out.free 5
        by_cases hq : yn = k + q
        · have hq2 : (yn != k + q) = false := by simp [hq]
          have HX4 : Hid (X = if rok yr = true then (0, yr) else (2, zr)) := by
            show _ = _
            rw [HX2.out, HU.out]
            cases u <;> simp [hq]
          clear hq HX2
          go_wp2_with fail
          refine (RO.out _ L3.out).mono ?_
          rw [HU.out]
          rintro e w4 ⟨rfl, hl⟩
          have L4 := Lib.hid (L3.out.trans (hl.mono L3.out.size))
          have Z4 := Lib.hid (Z3.out.below hl Z3.out.lt)
          have X4 := Lib.hid (X3.out.below hl)
          clear hl L3 Z3 X3 z0 z1 z2 z3 z4 z5 f0 f1 f2 f3 f4 f5
          obtain ⟨z0, z1, z2, z3, z4, z5⟩ := bx_of Z4.out
          have f0 := Z4.out.free 0
          have f1 := Z4.out.free 1
          have f2 := Z4.out.free 2
          have f3 := Z4.out.free 3
          have f4 := Z4.out.free 4
          have f5 := Z4.out.free 5
          rw [HU.out] at HX4
          cases u
          · go_wp2
            refine bodyPost_ret (v := val2 (2, zr)) (res2 rfl (fil_bk Z4.out zr) rfl rfl) rfl ⟨by rw [HX4.out]; rfl, fil_below L4.out (Nat.le_refl _) zr⟩
          · obtain ⟨x0, x1, x2, x3, x4, x5⟩ := X4.out
            go_wp2
            refine bodyPost_ret (v := val2 (0, yr)) (res2 rfl (fil_bk Z4.out yr) rfl rfl) rfl ⟨by rw [HX4.out]; rfl, fil_below L4.out (Nat.le_refl _) yr⟩
        · have hq2 : (yn != k + q) = true := by simpa using hq
          have HX4 : Hid (X = (2, zr)) := by
            show _ = _
            rw [HX2.out, if_neg (fun e => hq e.1)]
          clear hq HX2
          go_wp2
          refine bodyPost_ret (v := val2 (2, zr)) (res2 rfl (fil_bk Z3.out zr) rfl rfl) rfl ⟨by rw [HX4.out], fil_below L3.out (Nat.le_refl _) zr⟩
      · have HX2 := Lib.hid (HX.out.trans (if_pos hc))
        have hc2 : ((yc : Int) != 0) = true := by simp; omega
        clear HX
        go_wp2
        refine bodyPost_ret (v := val2 (yc, zr)) (res2 rfl (fil_bk Z1.out zr) rfl rfl) rfl ⟨by rw [HX2.out], fil_below L1.out (Nat.le_refl _) zr⟩
  · have HI : Hid (inn q 0 255 = false) := decide_eq_false h
    have HX : Hid (fx (gd l k q ty) = (2, zr)) := by show _ = _; rw [gd_n h]; exact fx_bad (by decide)
    generalize fx (gd l k q ty) = X at *
    clear hs hl he h
    go_enter Tryz.func190, Tryz.ntmps190
    go_wp2_with fail
    refine (upTo_any q 255 _).mono ?_
    rw [HI.out]
    rintro e w1 ⟨rfl, rfl⟩
    go_wp2
    refine bodyPost_ret (v := val2 (2, zr)) (res2 rfl (show Bk _ w.heap.size 117 (rc zr) from heap_alloc_new w _) rfl rfl) rfl ⟨by rw [HX.out], L0.out⟩
end Go.Proofs.YtkfibepejlgniaaGreatDoor.GetI

/- What the program's GetRecord does: it reads a record as FieldMath tells (gr), and turns nothing that was there. Conditions: at most 400000000 bytes; the library's variable internal/bytealg.MaxLen holds an int. -/
namespace Go.Proofs.YtkfibepejlgniaaGreatDoor.GetRecI
open Go.RowKit Go.Proofs.YtkfibepejlgniaaGreatDoor.Mem Go.Proofs.YtkfibepejlgniaaGreatDoor.MemR Go.Proofs.YtkfibepejlgniaaGreatDoor.JoinSpec Go.Proofs.YtkfibepejlgniaaGreatDoor.Labels Go.Proofs.YtkfibepejlgniaaGreatDoor.BoxR Go.Proofs.YtkfibepejlgniaaGreatDoor.NameOk Go.Proofs.YtkfibepejlgniaaGreatDoor.TextR Go.Proofs.YtkfibepejlgniaaGreatDoor.RecOk Go.Proofs.YtkfibepejlgniaaGreatDoor.WireMath Go.Proofs.YtkfibepejlgniaaGreatDoor.WireGood Go.Proofs.YtkfibepejlgniaaGreatDoor.WalkSpec Go.Proofs.YtkfibepejlgniaaGreatDoor.Get Go.Proofs.YtkfibepejlgniaaGreatDoor.FieldMath Go.Proofs.YtkfibepejlgniaaGreatDoor.FieldRd Go.Proofs.YtkfibepejlgniaaGreatDoor.ResR Go.Proofs.YtkfibepejlgniaaGreatDoor.ReadI Go.Proofs.YtkfibepejlgniaaGreatDoor.GetI

theorem get2 (A : Option Addr) (n c : Nat) (l : List UInt8) (k : Int) (w : World) (B : Nat) (hs : Sl w B A n l) (hnc : n ≤ c) (hn : n ≤ 400000000) :
    Calls Tryz.prog 94 #[.slice A n c, .int .i64 k] w fun e w' => e = .returned (.tuple #[.int .i64 (n2 l k).1, .bool (n2 l k).2]) ∧ w = w' := by
  have hl := hs.1
  unfold n2
  by_cases h : 0 ≤ k ∧ k ≤ (l.length : Int) - 2
  · rw [if_pos h]
    obtain ⟨j, rfl⟩ := Int.eq_ofNat_of_zero_le h.1
    exact implGet2_yes A n c l w B j hs hnc hn (by omega)
  · rw [if_neg h]
    exact implGet2_no A n c w k hn (by omega)
/-- What GetRecord hands back. A def, so that no step of a walk opens it. -/
def valR (X : Nat × Int × Rec) : Value := .tuple #[.agg #[.string (X.2.2).name, .int .i64 (X.2.2).ty, .int .i64 (X.2.2).ttl, .int .i64 (X.2.2).n, .string (X.2.2).host, .string (X.2.2).text], .int .i64 X.2.1, .int .i64 (X.1 : Int)]
theorem rn_from {l : List UInt8} {k : Int} {L : List ByteArray} {x : Int} {j : Nat} (h : rn l [] k k 0 (-1) = (0, L, x, j)) : 0 ≤ k := by
  refine Decidable.byContradiction fun hk => ?_
  rw [rn_out (Or.inl (by omega))] at h
  simp at h
/-- A valid record's texts are not long; what GetData gives is not. -/
theorem gd_med {l : List UInt8} {k n ty : Int} {r : Rec} (h : fx (gd l k n ty) = (0, r)) : DataS.Med r := by
  by_cases hn : 0 ≤ n ∧ n ≤ 255
  · by_cases hk : k < 0 ∨ (l.length : Int) - n < k
    · rw [gd_out hn hk, fx_bad (by decide)] at h
      simp at h
    · rw [rdd_gd hn hk] at h
      split at h
      · rename_i hc
        simp only [Prod.mk.injEq] at h
        exact absurd h.1 hc
      · rename_i hc
        split at h
        · simp only [Prod.mk.injEq, true_and] at h
          rw [← h]
          exact rdd_mod l k ty (Decidable.byContradiction hc)
        · simp at h
  · rw [gd_n hn, fx_bad (by decide)] at h
    simp at h
theorem fx_cases (X : Nat × Rec) : (fx X = X ∧ (X.1 = 0 → rok X.2 = true)) ∨ (fx X = (2, zr) ∧ X.1 = 0 ∧ rok X.2 = false) := by
  unfold fx
  split
  · rename_i h
    exact Or.inr ⟨rfl, h⟩
  · rename_i h
    exact Or.inl ⟨rfl, fun e => by cases hr : rok X.2; exact absurd ⟨e, hr⟩ h; rfl⟩

/-- What is known behind the head of a record: its answer, told of what GetData gave. -/
theorem gr_by {l : List UInt8} {k : Int} {L : List ByteArray} {p : Int} {j c : Nat} {r : Rec} (h : rn l [] k k 0 (-1) = (0, L, p, j)) (hp : ¬ (l.length : Int) - 10 < p) (hd : fx (gd l (p + 10) (n2 l (p + 8)).1 (n2 l p).1) = (c, r)) :
    gr l k = if c ≠ 0 then (c, 0, zr) else if (n4 l (p + 4)).2 = true ∧ (n2 l (p + 2)).1 = 1 ∧ rok (wn r (Jo L) (n4 l (p + 4)).1) = true then (0, p + 10 + (n2 l (p + 8)).1, wn r (Jo L) (n4 l (p + 4)).1) else (2, 0, zr) := by
  rcases fx_cases (gd l (p + 10) (n2 l (p + 8)).1 (n2 l p).1) with ⟨e, hr⟩ | ⟨e, h0, hr⟩
  · rw [e] at hd
    by_cases hc : c ≠ 0
    · rw [if_pos hc]
      exact gr_data h hp hd hc
    · have hc0 : c = 0 := Decidable.byContradiction hc
      subst hc0
      rw [if_neg hc]
      split
      · rename_i hg
        exact gr_good h hp hd hg
      · rename_i hg
        exact gr_form h hp hd hg
  · rw [e] at hd
    simp only [Prod.mk.injEq] at hd
    obtain ⟨rfl, rfl⟩ := hd
    rw [if_pos (by decide)]
    generalize hD : gd l (p + 10) (n2 l (p + 8)).1 (n2 l p).1 = D at *
    obtain ⟨c', r'⟩ := D
    have h0 : c' = 0 := h0
    subst h0
    exact gr_form h hp hD (fun hg => by rw [rok_wn hD hr] at hg; exact absurd hg.2.2 (by decide))

set_option maxRecDepth 100000 in
set_option maxHeartbeats 4000000 in
theorem record (A : Option Addr) (n c : Nat) (l : List UInt8) (k : Int) (w : World) (he : Env w) (hs : Sl w w.heap.size A n l) (hnc : n ≤ c) (hn : n ≤ 400000000) :
    Calls Tryz.prog 172 #[.slice A n c, .int .i64 k] w fun e w' => e = .returned (valR (gr l k)) ∧ Below w.heap.size w w' := by
  have hl := hs.1
  have L0 := Lib.hid ((Below.refl w.heap.size w).alloc (Nat.le_refl _) (.cells #[.string ⟨#[]⟩, .int .i64 0, .int .i64 0, .int .i64 0, .string ⟨#[]⟩, .string ⟨#[]⟩] 117))
  have Z0 : Hid (Bk (w.alloc (.cells #[.string ⟨#[]⟩, .int .i64 0, .int .i64 0, .int .i64 0, .string ⟨#[]⟩, .string ⟨#[]⟩] 117)) w.heap.size 117 (rc zr)) := heap_alloc_new w _
  have HS := Lib.hid hs
  have HE := Lib.hid he
  have GN := Lib.hid (fun W (hW : Below w.heap.size w W) => NameGet.getName A n c l k W _ rfl (he.below hW) ((hs.below hW).wider hW.size) hn hnc)
  generalize hR : rn l [] k k 0 (-1) = R at *
  obtain ⟨c0, L, p, j⟩ := R
  unfold val3 at GN
  dsimp only at GN
  by_cases hc : c0 = 0
  · subst hc
    have HF := rn_from hR
    obtain ⟨_, _, hp1, hp2, _⟩ := rn_good hR
    have hp0 : 0 ≤ p := by omega
    rw [hl] at hp2
    clear hp1 HF
    by_cases hs10 : (n : Int) - 10 < p
    · have HX := Lib.hid (gr_short hR (by rw [hl]; exact hs10))
      generalize gr l k = X at *
      generalize Jo L = s at *
      clear hs hl he hR
      go_enter Tryz.func172, Tryz.ntmps172
      go_wp2_with fail
      refine (GN.out _ L0.out).mono ?_
      rintro e w1 ⟨rfl, hl⟩
      have L1 := Lib.hid (L0.out.trans (hl.mono L0.out.size))
      have Z1 := Lib.hid (Z0.out.below hl Z0.out.lt)
      clear hl L0 Z0
      obtain ⟨z0, z1, z2, z3, z4, z5⟩ := bx_of Z1.out
      have f0 := Z1.out.free 0
      have f1 := Z1.out.free 1
      have f2 := Z1.out.free 2
      have f3 := Z1.out.free 3
      have f4 := Z1.out.free 4
      have f5 := Z1.out.free 5
      go_wp2
      refine bodyPost_ret (v := valR (1, 0, zr)) (res3 rfl (fil_bk Z1.out zr) rfl rfl rfl) rfl ⟨by rw [HX.out], fil_below L1.out (Nat.le_refl _) zr⟩
    · have HG2 := Lib.hid (fun (q : Int) (W : World) (hW : Below w.heap.size w W) => get2 A n c l q W _ (hs.below hW) hnc hn)
      have HG4 := Lib.hid (fun (q : Int) (W : World) (hW : Below w.heap.size w W) => get4 A n c l q W _ (hs.below hW) hnc hn)
      have HGD := Lib.hid (fun (q m t : Int) (W : World) (hW : Below w.heap.size w W) => GetI.data A n c l q m t W (he.below hW) ((hs.below hW).wider hW.size) hnc hn)
      generalize hD : fx (gd l (p + 10) (n2 l (p + 8)).1 (n2 l p).1) = D at *
      obtain ⟨dc, yr⟩ := D
      have HX := Lib.hid (gr_by hR (by rw [hl]; exact hs10) hD)
      have HM := Lib.hid (fun (e : dc = 0) => gd_med (r := yr) (by rw [hD, e]))
      have HNL : Hid ((Jo L).size ≤ 50) := (Plain.nm_parts (rn_good hR).2.1).1
      have h1 := (n2_in (l := l) (k := p) hp0 (by omega)).2
      have h2 := (n2_in (l := l) (k := p + 2) (by omega) (by omega)).2
      have h8 := (n2_in (l := l) (k := p + 8) (by omega) (by omega)).2
      have hG1 := HG2.out p
      have hG2 := HG2.out (p + 2)
      have hG8 := HG2.out (p + 8)
      have hG4 := HG4.out (p + 4)
      have hGD := HGD.out (p + 10) (n2 l (p + 8)).1 (n2 l p).1
      rw [hD] at hGD
      generalize gr l k = X at *
      generalize Jo L = s at *
      clear hD
      generalize n2 l p = y1 at *
      generalize n2 l (p + 2) = y2 at *
      generalize n2 l (p + 8) = y8 at *
      generalize n4 l (p + 4) = y4 at *
      obtain ⟨ty, b1⟩ := y1
      obtain ⟨cl, b2⟩ := y2
      obtain ⟨q, b8⟩ := y8
      obtain ⟨tt, b4⟩ := y4
      dsimp only at h1 h2 h8 hG1 hG2 hG8 hG4 hGD HX
      obtain ⟨h10, h11⟩ := h1
      obtain ⟨h20, h21⟩ := h2
      obtain ⟨h80, h81⟩ := h8
      have G1 := Lib.hid hG1
      have G2 := Lib.hid hG2
      have G8 := Lib.hid hG8
      have G4 := Lib.hid hG4
      have GD := Lib.hid hGD
      clear hG1 hG2 hG8 hG4 hGD HG2 HG4 HGD hs hl he hR
      go_enter Tryz.func172, Tryz.ntmps172
      go_wp2_with fail
      refine (GN.out _ L0.out).mono ?_
      rintro e w1 ⟨rfl, hl⟩
      have L1 := Lib.hid (L0.out.trans (hl.mono L0.out.size))
      have Z1 := Lib.hid (Z0.out.below hl Z0.out.lt)
      clear hl L0 Z0
      go_wp2_with fail
      refine (G1.out _ L1.out).mono ?_
      rintro e w2 ⟨rfl, rfl⟩
      go_wp2_with fail
      refine (G2.out _ L1.out).mono ?_
      rintro e w2 ⟨rfl, rfl⟩
      go_wp2_with fail
      refine (G4.out _ L1.out).mono ?_
      rintro e w2 ⟨rfl, rfl⟩
      go_wp2_with fail
      refine (G8.out _ L1.out).mono ?_
      rintro e w2 ⟨rfl, rfl⟩
      go_wp2_with fail
      refine (GD.out _ L1.out).mono ?_
      rintro e w2 ⟨rfl, hl⟩
      have L2 := Lib.hid (L1.out.trans (hl.mono L1.out.size))
      have Z2 := Lib.hid (Z1.out.below hl Z1.out.lt)
      clear hl L1 Z1 G1 G2 G4 G8 GD GN
      unfold val2
      dsimp only
      by_cases hdc : dc = 0
      · subst hdc
        have HX2 := Lib.hid (HX.out.trans (if_neg (fun e => e rfl)))
        have hmed := HM.out rfl
        have RO := Lib.hid (fun W (hW : Below w.heap.size w W) => RecOk.impl (wn yr s tt) W (HE.out.below hW) (show Mod (wn yr s tt) from ⟨Nat.le_trans HNL.out (by decide), (hmed.mod).2.1, (hmed.mod).2.2⟩))
        unfold wn at RO
        dsimp only at RO
        have L3 := Lib.hid (L2.out.alloc L2.out.size (.cells #[.string s, .int .i64 yr.ty, .int .i64 tt, .int .i64 yr.n, .string yr.host, .string yr.text] 117))
        have Z3 := Lib.hid (Z2.out.alloc (.cells #[.string s, .int .i64 yr.ty, .int .i64 tt, .int .i64 yr.n, .string yr.host, .string yr.text] 117))
        have X3 := Lib.hid (bx_new w2 117 (wn yr s tt))
        clear HX HM hmed
        obtain ⟨z0, z1, z2, z3, z4, z5⟩ := bx_of Z3.out
        have f0 := Z3.out.free 0
        have f1 := Z3.out.free 1
        have f2 := Z3.out.free 2
        have f3 := Z3.out.free 3
        have f4 := Z3.out.free 4
        have f5 := Z3.out.free 5
        by_cases hcl : cl = 1
        · have hcl2 : (cl != 1) = false := by simp [hcl]
          cases b4
          · have HX3 : Hid (X = (2, 0, zr)) := HX2.out.trans (if_neg (fun e => by simp at e))
            clear HX2
            go_wp2
            refine bodyPost_ret (v := valR (2, 0, zr)) (res3 rfl (fil_bk Z3.out zr) rfl rfl rfl) rfl ⟨by rw [HX3.out], fil_below L3.out (Nat.le_refl _) zr⟩
          · obtain ⟨u, hu⟩ : ∃ u, rok (wn yr s tt) = u := ⟨_, rfl⟩
            have HU := Lib.hid hu
            have HX3 : Hid (X = if u = true then (0, p + 10 + q, wn yr s tt) else (2, 0, zr)) := by
              show _ = _
              rw [HX2.out, hu]
              cases u <;> simp [hcl]
            clear hu HX2 hcl
            go_wp2_with fail
            refine (RO.out _ L3.out).mono ?_
            rw [show rok ⟨s, yr.ty, tt, yr.n, yr.host, yr.text⟩ = u from HU.out]
            rintro e w4 ⟨rfl, hl⟩
            have L4 := Lib.hid (L3.out.trans (hl.mono L3.out.size))
            have Z4 := Lib.hid (Z3.out.below hl Z3.out.lt)
            have X4 := Lib.hid (X3.out.below hl)
            clear hl L3 Z3 X3 z0 z1 z2 z3 z4 z5 f0 f1 f2 f3 f4 f5
            obtain ⟨z0, z1, z2, z3, z4, z5⟩ := bx_of Z4.out
            have f0 := Z4.out.free 0
            have f1 := Z4.out.free 1
            have f2 := Z4.out.free 2
            have f3 := Z4.out.free 3
            have f4 := Z4.out.free 4
            have f5 := Z4.out.free 5
            cases u
            · go_wp2
              refine bodyPost_ret (v := valR (2, 0, zr)) (res3 rfl (fil_bk Z4.out zr) rfl rfl rfl) rfl ⟨by rw [HX3.out]; rfl, fil_below L4.out (Nat.le_refl _) zr⟩
            · obtain ⟨x0, x1, x2, x3, x4, x5⟩ := X4.out
              have x0 : w4.cell? ⟨w2.heap.size, 0, none⟩ = some (.string s) := x0
              have x1 : w4.cell? ⟨w2.heap.size, 1, none⟩ = some (.int .i64 yr.ty) := x1
              have x2 : w4.cell? ⟨w2.heap.size, 2, none⟩ = some (.int .i64 tt) := x2
              have x3 : w4.cell? ⟨w2.heap.size, 3, none⟩ = some (.int .i64 yr.n) := x3
              have x4 : w4.cell? ⟨w2.heap.size, 4, none⟩ = some (.string yr.host) := x4
              have x5 : w4.cell? ⟨w2.heap.size, 5, none⟩ = some (.string yr.text) := x5
              go_wp2
              refine bodyPost_ret (v := valR (0, p + 10 + q, wn yr s tt)) (res3 rfl (fil_bk Z4.out (wn yr s tt)) rfl rfl rfl) rfl ⟨by rw [HX3.out]; rfl, fil_below L4.out (Nat.le_refl _) (wn yr s tt)⟩
        · have hcl2 : (cl != 1) = true := by simpa using hcl
          have HX3 : Hid (X = (2, 0, zr)) := HX2.out.trans (if_neg (fun e => hcl e.2.1))
          clear HX2 hcl
          go_wp2
          refine bodyPost_ret (v := valR (2, 0, zr)) (res3 rfl (fil_bk Z3.out zr) rfl rfl rfl) rfl ⟨by rw [HX3.out], fil_below L3.out (Nat.le_refl _) zr⟩
      · have HX2 := Lib.hid (HX.out.trans (if_pos hdc))
        have hc2 : ((dc : Int) != 0) = true := by simp; omega
        have L3 := Lib.hid (L2.out.alloc L2.out.size (.cells #[.string yr.name, .int .i64 yr.ty, .int .i64 yr.ttl, .int .i64 yr.n, .string yr.host, .string yr.text] 117))
        have Z3 := Lib.hid (Z2.out.alloc (.cells #[.string yr.name, .int .i64 yr.ty, .int .i64 yr.ttl, .int .i64 yr.n, .string yr.host, .string yr.text] 117))
        clear HX HM
        obtain ⟨z0, z1, z2, z3, z4, z5⟩ := bx_of Z3.out
        have f0 := Z3.out.free 0
        have f1 := Z3.out.free 1
        have f2 := Z3.out.free 2
        have f3 := Z3.out.free 3
        have f4 := Z3.out.free 4
        have f5 := Z3.out.free 5
        go_wp2
        refine bodyPost_ret (v := valR (dc, 0, zr)) (res3 rfl (fil_bk Z3.out zr) rfl rfl rfl) rfl ⟨by rw [HX2.out], fil_below L3.out (Nat.le_refl _) zr⟩
  · have HX := Lib.hid (gr_name hR hc)
    have hc2 : ((c0 : Int) != 0) = true := by simp; omega
    generalize gr l k = X at *
    generalize Jo L = s at *
    clear hs hl he hR
    go_enter Tryz.func172, Tryz.ntmps172
    go_wp2_with fail
    refine (GN.out _ L0.out).mono ?_
    rintro e w1 ⟨rfl, hl⟩
    have L1 := Lib.hid (L0.out.trans (hl.mono L0.out.size))
    have Z1 := Lib.hid (Z0.out.below hl Z0.out.lt)
    clear hl L0 Z0
    obtain ⟨z0, z1, z2, z3, z4, z5⟩ := bx_of Z1.out
    have f0 := Z1.out.free 0
    have f1 := Z1.out.free 1
    have f2 := Z1.out.free 2
    have f3 := Z1.out.free 3
    have f4 := Z1.out.free 4
    have f5 := Z1.out.free 5
    go_wp2
    refine bodyPost_ret (v := valR (c0, 0, zr)) (res3 rfl (fil_bk Z1.out zr) rfl rfl rfl) rfl ⟨by rw [HX.out], fil_below L1.out (Nat.le_refl _) zr⟩
end Go.Proofs.YtkfibepejlgniaaGreatDoor.GetRecI
