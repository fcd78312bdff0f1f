/- Plain facts: what is read out of bytes as a header. -/
import Derived.Test.YtkfibepejlgniaaMemM
import Derived.Test.YtkfibepejlgniaaGet
namespace Go.Proofs.Ytkfibepejlgniaa.HeadRd
open Go.RowKit Go.Proofs.Ytkfibepejlgniaa.Mem Go.Proofs.Ytkfibepejlgniaa.MemR Go.Proofs.Ytkfibepejlgniaa.MemM Go.Proofs.Ytkfibepejlgniaa.Get

/-- A byte of l as the walks see it. -/
def by8 (l : List UInt8) (k : Nat) : Int := ((l.getD k 0).toNat : Int)
theorem by8_at (l : List UInt8) (k : Nat) (h : k < l.length) : by8 l k = (l[k].toNat : Int) := by
  unfold by8; rw [List.getD_eq_getElem?_getD, List.getElem?_eq_getElem h]; rfl
theorem by8_in (l : List UInt8) (k : Nat) : 0 ≤ by8 l k ∧ by8 l k < 256 := by
  have := (l.getD k 0).toNat_lt
  unfold by8; omega
/-- Two bytes of l as a number. -/
def b2 (l : List UInt8) (k : Nat) : Int := be ((l.drop k).take 2)
/-- Whether the bits of m are not all clear. -/
def bo (x m : Int) : Bool := bits .and .u8 x m != 0
/-- The head that the flag bytes x and y tell, with this Id. -/
def hdr (id x y : Int) : Hd := ⟨id, bo x 128, bo x 4, bo x 2, bo x 1, bo y 128, bits .and .u8 y 15, ⟨#[]⟩, 0⟩
/-- Whether the header is one. -/
def ghb (l : List UInt8) : Bool := decide (12 ≤ l.length) && !bo (by8 l 2) 120 && !bo (by8 l 3) 112 && decide (b2 l 4 = 1)
def ghh (l : List UInt8) : Hd := if ghb l = true then hdr (b2 l 0) (by8 l 2) (by8 l 3) else zh
def ghn (l : List UInt8) (k : Nat) : Int := if ghb l = true then b2 l k else 0
theorem ghb_parts {l : List UInt8} (h : ghb l = true) : 12 ≤ l.length ∧ bo (by8 l 2) 120 = false ∧ bo (by8 l 3) 112 = false ∧ b2 l 4 = 1 := by
  unfold ghb at h
  simp only [Bool.and_eq_true, Bool.not_eq_true'] at h
  exact ⟨of_decide_eq_true h.1.1.1, h.1.1.2, h.1.2, of_decide_eq_true h.2⟩
theorem ghb_of {l : List UInt8} (h1 : 12 ≤ l.length) (h2 : bo (by8 l 2) 120 = false) (h3 : bo (by8 l 3) 112 = false) (h4 : b2 l 4 = 1) : ghb l = true := by
  unfold ghb; rw [h2, h3, decide_eq_true h1, decide_eq_true h4]; rfl
theorem ghb_not {l : List UInt8} (h : ¬ (12 ≤ l.length ∧ bo (by8 l 2) 120 = false ∧ bo (by8 l 3) 112 = false ∧ b2 l 4 = 1)) : ghb l = false := by
  cases e : ghb l
  · rfl
  · exact absurd (ghb_parts e) h
theorem ghh_not {l : List UInt8} (h : ghb l = false) : ghh l = zh := by unfold ghh; rw [h]; rfl
theorem ghn_not {l : List UInt8} (h : ghb l = false) (k : Nat) : ghn l k = 0 := by unfold ghn; rw [h]; rfl
theorem ghh_yes {l : List UInt8} (h : ghb l = true) : ghh l = hdr (b2 l 0) (by8 l 2) (by8 l 3) := if_pos h
theorem ghn_yes {l : List UInt8} (h : ghb l = true) (k : Nat) : ghn l k = b2 l k := if_pos h
end Go.Proofs.Ytkfibepejlgniaa.HeadRd
