/- What the model's draw of bytes does: a new slice of bytes; nothing that was there is turned but the cursor. -/
import Derived.Test.YtcpadkehalgddaaGreatDoorDrawC
import Derived.Test.YtcpadkehalgddaaGreatDoorApp
namespace Go.Proofs.YtcpadkehalgddaaGreatDoor.Draw2
open Go.RowKit Go.Proofs.YtcpadkehalgddaaGreatDoor.Mem Go.Proofs.YtcpadkehalgddaaGreatDoor.Draw Go.Proofs.YtcpadkehalgddaaGreatDoor.App

/-- m new bytes, the cursor moved, nothing else turned. -/
def Byt (w : World) (g m : Nat) (e : Ending) (w' : World) : Prop :=
  ∃ (gb cap : Nat) (r : List Value) (l : List UInt8), e = .returned (.slice (some ⟨gb, 0, none⟩) m cap) ∧ l.length = m ∧ m ≤ cap ∧ w.heap.size ≤ gb ∧ Bk w' gb 5 (l.map bv ++ r) ∧ Cur w' g ∧ w.grownBy w' (some g)

theorem grown_more {a b d : World} {r : Option Nat} {gb : Nat} (h : a.grownBy b r) (k : b.grownBy d (some gb)) (hg : a.heap.size ≤ gb) : a.grownBy d r :=
  ⟨k.os.trans h.os, k.tape.trans h.tape, k.output.trans h.output, Nat.le_trans h.size k.size, fun i hi hne => (k.block i (Nat.lt_of_lt_of_le hi h.size) (fun e => by have := Option.some.inj e; omega)).trans (h.block i hi hne)⟩

theorem one_cell (x : Int) (h0 : 0 ≤ x) (h1 : x < 256) : ([UInt8.ofNat x.toNat] : List UInt8).map bv = [.int .u8 x] := by
  rw [List.map_cons, bv_of x h0 h1, List.map_nil]

/-- m new bytes as a row of one's own, the cursor moved, nothing else turned. -/
def BytO (w : World) (g m : Nat) (e : Ending) (w' : World) : Prop :=
  ∃ (gb cap : Nat) (l : List UInt8), e = .returned (.slice (some ⟨gb, 0, none⟩) m cap) ∧ l.length = m ∧ w'.ownsRow w.heap.size 5 1 (.slice (some ⟨gb, 0, none⟩) m cap) m (l.map bv) ∧ Cur w' g ∧ w.grownBy w' (some g)

set_option maxHeartbeats 2000000 in
theorem l1BytesO_any (g m : Nat) (w : World) (hc : Cur w g) (hm : m ≤ 100000) : Calls Tryz.prog 52 #[.pointer (some ⟨g, 0, none⟩), .int .i64 (m : Int)] w (BytO w g m) := by
  obtain ⟨i0, hi, hz0, hz1, hz2⟩ := info_parts Copy.info
  have HC := Lib.hid hc
  clear hc
  go_enter Tryz.func52, Tryz.ntmps52
  go_wp2
  go_loopw [5, 6] (fun v i wr => ∃ (k : Nat) (l : List UInt8) (gb cap : Nat), k ≤ m ∧ i = .int .i64 k ∧ v = .slice (some ⟨gb, 0, none⟩) k cap ∧ Hid (l.length = k) ∧ Hid (wr.ownsRow w.heap.size 5 1 (.slice (some ⟨gb, 0, none⟩) k cap) k (l.map bv)) ∧ Hid (Cur wr g) ∧ Hid (w.grownBy wr (some g))) (fun _ i _ => m - (intOf i).toNat)
  case atStart => exact ⟨0, [], w.heap.size, 0, Nat.zero_le _, rfl, rfl, rfl, owns_new w, HC.out.alloc _, World.grownBy_alloc _ _ _⟩
  case round =>
    obtain ⟨k, l, gb, cap, hk, rfl, rfl, HL, HO, HR, HG⟩ := hrel
    by_cases hlt : k < m
    · go_wp2_with fail
      refine (l1Byte_any g wr HR.out).mono ?_
      rintro e w1 ⟨x, rfl, hx0, hx1, hc1, hg1⟩
      have HC1 := Lib.hid hc1
      have HG1 := Lib.hid (grown_trans HG.out hg1)
      have HO1 := Lib.hid (HO.out.kept hg1 (Or.inr (fun e => by have h1 := (HO.out.lt gb rfl).1; have h2 := HC.out.lt; have h3 := Option.some.inj e; simp at h3; omega)))
      clear hc1 hg1
      go_wp2_with (at_builtin; refine append_src rfl (.tmp 13) (.tmp 17) 22 rfl w.heap.size 5 i0 (.int .u8 0) Tryz.underlying22 hi hz0 hz1 hz2 rfl gb k cap (l.map bv) rfl (HO1.out.alloc _) _ 1 1 _ [UInt8.ofNat x.toNat] rfl (sl_new w1 _ [UInt8.ofNat x.toNat] (one_cell x hx0 hx1).symm) (fun h => by cases h) ?d1 ?d2 ?d3 ?_)
      case d1 => omega
      case d2 => omega
      case d3 => have := HG1.out.size; simp; omega
      intro g2 cap2 w2 hown hgrow
      have hown' : w2.ownsRow w.heap.size 5 1 (.slice (some ⟨g2, 0, none⟩) (k + 1) cap2) (k + 1) ((l ++ [UInt8.ofNat x.toNat]).map bv) := by simpa using hown
      have O2 := Lib.hid hown'
      clear hown'
      have HG2 := Lib.hid (grown_more (grown_trans HG1.out (World.grownBy_alloc w1 _ (some g))) hgrow (HO1.out.lt gb rfl).1)
      have HC2 := Lib.hid ((HC1.out.alloc _).grown hgrow (fun j hj => by have h1 := (HO1.out.lt gb rfl).1; have h2 := HC.out.lt; have h3 := Option.some.inj hj; omega))
      clear hown hgrow
      go_wp2
      go_roundw
      case rel => exact ⟨k + 1, l ++ [UInt8.ofNat x.toNat], g2, cap2, by omega, by go_num, rfl, by simp [Hid, HL.out], O2.out, HC2.out, HG2.out⟩
      case measure => simp [intOf]; omega
    · have hkm : k = m := by omega
      subst hkm
      go_wp2
      go_ret
      exact ⟨gb, cap, l, rfl, HL.out, HO.out, HR.out, HG.out⟩

theorem l1Bytes_any (g m : Nat) (w : World) (hc : Cur w g) (hm : m ≤ 100000) : Calls Tryz.prog 52 #[.pointer (some ⟨g, 0, none⟩), .int .i64 (m : Int)] w (Byt w g m) :=
  (l1BytesO_any g m w hc hm).mono fun e w' ⟨gb, cap, l, he, hl, ho, hc', hg⟩ => by
    obtain ⟨r, hb, hr, hge⟩ := bk_of_owns ho
    exact ⟨gb, cap, r, l, he, hl, by rw [← hr, List.length_append, List.length_map, hl]; omega, hge, hb, hc', hg⟩

/-- A drawn slice of bytes and a drawn number; nothing that was there is turned. -/
def Pair (w : World) (top : Nat) (e : Ending) (w' : World) : Prop :=
  ∃ (gb m cap : Nat) (r : List Value) (l : List UInt8) (x : Int), e = .returned (.tuple #[.slice (some ⟨gb, 0, none⟩) m cap, .int .i64 x]) ∧ l.length = m ∧ m ≤ cap ∧ m ≤ top ∧ w.heap.size ≤ gb ∧ Bk w' gb 5 (l.map bv ++ r) ∧ Fits x ∧ Below w.heap.size w w'

theorem below_of_grown {w w' : World} (h : w.grownBy w' none) : Below w.heap.size w w' := ⟨h.os, h.tape, h.output, h.size, fun k hk => h.block k hk (fun e => by cases e)⟩
theorem below_more {w w1 w2 : World} {g : Nat} (h : Below w.heap.size w w1) (k : w1.grownBy w2 (some g)) (hg : w.heap.size ≤ g) : Below w.heap.size w w2 := h.grown k h.size (fun j hj => by cases hj; exact hg)

theorem fits_at (x : Int) (h0 : -1 ≤ x) (h1 : x < 4000000000) : Fits x := by
  have e1 : IntKind.i64.min = -9223372036854775808 := by decide
  have e2 : IntKind.i64.max = 9223372036854775807 := by decide
  simp [Fits, Lit.wf]
  omega
end Go.Proofs.YtcpadkehalgddaaGreatDoor.Draw2
