/- Plain facts: the header of a message as bytes. -/
import Derived.Test.YtkfibepejlgniaaGreatDoorMemM
import Derived.Test.YtkfibepejlgniaaGreatDoorPut
namespace Go.Proofs.YtkfibepejlgniaaGreatDoor.HeadDef
open Go.RowKit Go.Proofs.YtkfibepejlgniaaGreatDoor.Mem Go.Proofs.YtkfibepejlgniaaGreatDoor.MemR Go.Proofs.YtkfibepejlgniaaGreatDoor.MemM Go.Proofs.YtkfibepejlgniaaGreatDoor.App Go.Proofs.YtkfibepejlgniaaGreatDoor.Put

/-- A bit, if it is set. A def, so that no step of a walk parts it. -/
def bi (b : Bool) (n : Int) : Int := if b then n else 0
theorem bi_t (n : Int) : bi true n = n := rfl
theorem bi_f (n : Int) : bi false n = 0 := rfl
theorem bi_lo (b : Bool) (n : Int) (h : 0 ≤ n) : 0 ≤ bi b n ∧ bi b n ≤ n := by cases b <;> simp [bi, h]
/-- The two flag bytes as numbers. -/
def f1 (h : Hd) : Int := bi h.rp 128 + bi h.au 4 + bi h.ct 2 + bi h.wa 1
def f2 (h : Hd) : Int := bi h.ca 128 + h.code % 16
theorem f1_in (h : Hd) : 0 ≤ f1 h ∧ f1 h ≤ 135 := by
  have := bi_lo h.rp 128 (by decide); have := bi_lo h.au 4 (by decide); have := bi_lo h.ct 2 (by decide); have := bi_lo h.wa 1 (by decide)
  unfold f1; omega
theorem f2_in (h : Hd) : 0 ≤ f2 h ∧ f2 h ≤ 143 := by
  have := bi_lo h.ca 128 (by decide)
  unfold f2; omega
theorem and15 (x : Int) : bits .and .i64 x 15 = x % 16 := by
  have h1 : (BitVec.ofInt 64 15).toNat = 15 := by decide
  have h2 : ∀ a : Nat, a &&& 15 = a % 16 := fun a => Nat.and_two_pow_sub_one_eq_mod a 4
  show IntKind.i64.wrap ((BitVec.ofInt 64 x &&& BitVec.ofInt 64 15).toNat : Int) = _
  rw [show ((BitVec.ofInt 64 x &&& BitVec.ofInt 64 15).toNat : Int) = x % 16 from by
    rw [BitVec.toNat_and, h1, h2, BitVec.toNat_ofInt]; omega]
  rw [IntKind.wrap_i64]; omega
theorem or_first (a b c d : Bool) : bits .or .u8 (bits .or .u8 (bits .or .u8 (bi a 128) (bi b 4)) (bi c 2)) (bi d 1) = bi a 128 + bi b 4 + bi c 2 + bi d 1 := by
  cases a <;> cases b <;> cases c <;> cases d <;> decide
theorem or_second (a : Bool) (x : Int) (h0 : 0 ≤ x) (h1 : x < 16) : bits .or .u8 (bi a 128) x = bi a 128 + x := by
  cases a
  · exact bits_join .u8 8 (by decide) wraps_u8 4 0 x (by decide) (by decide) (by decide) h0 h1 (by omega)
  · exact bits_join .u8 8 (by decide) wraps_u8 4 128 x (by decide) (by decide) (by decide) h0 h1 (by omega)
/-- The two flag bytes. -/
def fls (h : Hd) : List UInt8 := [UInt8.ofNat (f1 h).toNat, UInt8.ofNat (f2 h).toNat]
theorem fls_cells (h : Hd) : (fls h).map bv = [.int .u8 (f1 h), .int .u8 (f2 h)] := by
  have a := f1_in h
  have b := f2_in h
  simp only [fls, List.map_cons, List.map_nil]
  rw [bv_of _ a.1 (by omega), bv_of _ b.1 (by omega)]
/-- The header of a message with these numbers of records. -/
def hdl (h : Hd) (a b c : Nat) : List UInt8 := tail2 h.id ++ fls h ++ tail2 1 ++ tail2 (a : Int) ++ tail2 (b : Int) ++ tail2 (c : Int)
theorem t2_len (k : Int) : (tail2 k).length ≤ 2 := by
  unfold tail2
  split
  · exact Nat.le_refl 2
  · exact Nat.zero_le 2
theorem hdl_len (h : Hd) (a b c : Nat) : (hdl h a b c).length ≤ 12 := by
  unfold hdl
  simp only [List.length_append]
  have := t2_len h.id; have := t2_len 1; have := t2_len a; have := t2_len b; have := t2_len c
  have : (fls h).length = 2 := rfl
  omega
end Go.Proofs.YtkfibepejlgniaaGreatDoor.HeadDef
