/- What the model's draws of bytes and of a law's arguments do: new slices of bytes, numbers that fit; nothing that was there is turned. -/
import Derived.Test.YtaladeifmaldeaaDraw
import Derived.Test.YtaladeifmaldeaaPut
namespace Go.Proofs.Ytaladeifmaldeaa.Draw2
open Go.RowKit Go.Proofs.Ytaladeifmaldeaa.Mem Go.Proofs.Ytaladeifmaldeaa.Draw Go.Proofs.Ytaladeifmaldeaa.Put

/-- m new bytes, the cursor moved, nothing else turned. -/
def Byt (w : World) (g m : Nat) (e : Ending) (w' : World) : Prop :=
  ∃ (gb cap : Nat) (r : List Value) (l : List UInt8), e = .returned (.slice (some ⟨gb, 0, none⟩) m cap) ∧ l.length = m ∧ m ≤ cap ∧ w.heap.size ≤ gb ∧ Bk w' gb 5 (l.map bv ++ r) ∧ Cur w' g ∧ w.grownBy w' (some g)

theorem grown_more {a b d : World} {r : Option Nat} {gb : Nat} (h : a.grownBy b r) (k : b.grownBy d (some gb)) (hg : a.heap.size ≤ gb) : a.grownBy d r :=
  ⟨k.os.trans h.os, k.tape.trans h.tape, k.output.trans h.output, Nat.le_trans h.size k.size, fun i hi hne => (k.block i (Nat.lt_of_lt_of_le hi h.size) (fun e => by have := Option.some.inj e; omega)).trans (h.block i hi hne)⟩

theorem one_cell (x : Int) (h0 : 0 ≤ x) (h1 : x < 256) : ([UInt8.ofNat x.toNat] : List UInt8).map bv = [.int .u8 x] := by
  rw [List.map_cons, bv_of x h0 h1, List.map_nil]

set_option maxHeartbeats 2000000 in
theorem l1Bytes_any (g m : Nat) (w : World) (hc : Cur w g) (hm : m ≤ 100000) : Calls Try.prog 35 #[.pointer (some ⟨g, 0, none⟩), .int .i64 (m : Int)] w (Byt w g m) := by
  obtain ⟨i0, hi, hz0, hz1, hz2⟩ := info_parts Copy.info
  have HC := Lib.hid hc
  clear hc
  go_enter Try.func35, Try.ntmps35
  go_wp2
  go_loopw [5, 6] (fun v i wr => ∃ (k : Nat) (l : List UInt8) (gb cap : Nat), k ≤ m ∧ i = .int .i64 k ∧ v = .slice (some ⟨gb, 0, none⟩) k cap ∧ Hid (l.length = k) ∧ Hid (wr.ownsRow w.heap.size 5 1 (.slice (some ⟨gb, 0, none⟩) k cap) k (l.map bv)) ∧ Hid (Cur wr g) ∧ Hid (w.grownBy wr (some g))) (fun _ i _ => m - (intOf i).toNat)
  case atStart => exact ⟨0, [], w.heap.size, 0, Nat.zero_le _, rfl, rfl, rfl, owns_new w, HC.out.alloc _, World.grownBy_alloc _ _ _⟩
  case round =>
    obtain ⟨k, l, gb, cap, hk, rfl, rfl, HL, HO, HR, HG⟩ := hrel
    by_cases hlt : k < m
    · go_wp2_with fail
      refine (l1Byte_any g wr HR.out).mono ?_
      rintro e w1 ⟨x, rfl, hx0, hx1, hc1, hg1⟩
      have HC1 := Lib.hid hc1
      have HG1 := Lib.hid (grown_trans HG.out hg1)
      have HO1 := Lib.hid (HO.out.kept hg1 (Or.inr (fun e => by have h1 := (HO.out.lt gb rfl).1; have h2 := HC.out.lt; have h3 := Option.some.inj e; simp at h3; omega)))
      clear hc1 hg1
      go_wp2_with (at_builtin; refine append_src rfl (.tmp 13) (.tmp 17) 22 rfl w.heap.size 5 i0 (.int .u8 0) Try.underlying22 hi hz0 hz1 hz2 rfl gb k cap (l.map bv) rfl (HO1.out.alloc _) _ 1 1 _ [UInt8.ofNat x.toNat] rfl (sl_new w1 _ [UInt8.ofNat x.toNat] (one_cell x hx0 hx1).symm) (fun h => by cases h) ?d1 ?d2 ?d3 ?_)
      case d1 => omega
      case d2 => omega
      case d3 => have := HG1.out.size; simp; omega
      intro g2 cap2 w2 hown hgrow
      have hown' : w2.ownsRow w.heap.size 5 1 (.slice (some ⟨g2, 0, none⟩) (k + 1) cap2) (k + 1) ((l ++ [UInt8.ofNat x.toNat]).map bv) := by simpa using hown
      have O2 := Lib.hid hown'
      clear hown'
      have HG2 := Lib.hid (grown_more (grown_trans HG1.out (World.grownBy_alloc w1 _ (some g))) hgrow (HO1.out.lt gb rfl).1)
      have HC2 := Lib.hid ((HC1.out.alloc _).grown hgrow (fun j hj => by have h1 := (HO1.out.lt gb rfl).1; have h2 := HC.out.lt; have h3 := Option.some.inj hj; omega))
      clear hown hgrow
      go_wp2
      go_roundw
      case rel => exact ⟨k + 1, l ++ [UInt8.ofNat x.toNat], g2, cap2, by omega, by go_num, rfl, by simp [Hid, HL.out], O2.out, HC2.out, HG2.out⟩
      case measure => simp [intOf]; omega
    · have hkm : k = m := by omega
      subst hkm
      obtain ⟨r, hb, hr, hge⟩ := bk_of_owns HO.out
      have HB := Lib.hid hb
      have hle : k ≤ cap := by rw [← hr, List.length_append, List.length_map, HL.out]; omega
      clear hb hr
      go_wp2
      go_ret
      exact ⟨gb, cap, r, l, rfl, HL.out, hle, hge, HB.out, HR.out, HG.out⟩

/-- A drawn slice of bytes and a drawn number; nothing that was there is turned. -/
def Pair (w : World) (top : Nat) (e : Ending) (w' : World) : Prop :=
  ∃ (gb m cap : Nat) (r : List Value) (l : List UInt8) (x : Int), e = .returned (.tuple #[.slice (some ⟨gb, 0, none⟩) m cap, .int .i64 x]) ∧ l.length = m ∧ m ≤ cap ∧ m ≤ top ∧ w.heap.size ≤ gb ∧ Bk w' gb 5 (l.map bv ++ r) ∧ Fits x ∧ Below w.heap.size w w'

theorem below_of_grown {w w' : World} (h : w.grownBy w' none) : Below w.heap.size w w' := ⟨h.os, h.tape, h.output, h.size, fun k hk => h.block k hk (fun e => by cases e)⟩
theorem below_more {w w1 w2 : World} {g : Nat} (h : Below w.heap.size w w1) (k : w1.grownBy w2 (some g)) (hg : w.heap.size ≤ g) : Below w.heap.size w w2 := h.grown k h.size (fun j hj => by cases hj; exact hg)

theorem fits_at (x : Int) (h0 : -1 ≤ x) (h1 : x < 4000000000) : Fits x := by
  have e1 : IntKind.i64.min = -9223372036854775808 := by decide
  have e2 : IntKind.i64.max = 9223372036854775807 := by decide
  simp [Fits, Lit.wf]
  omega
theorem tail4_len (k : Int) : (tail4 k).length ≤ 4 := by
  unfold tail4
  split
  · simp [quad]
  · simp
theorem tail2_len (k : Int) : (tail2 k).length ≤ 4 := by
  unfold tail2
  split
  · simp [two]
  · simp

set_option maxHeartbeats 2000000 in
theorem drawPut2_any (A : Option Addr) (n c : Nat) (l : List UInt8) (w : World) (hs : Sl w w.heap.size A n l) (hn : n ≤ 1048576) : Calls Try.prog 12 #[.slice A n c] w (Pair w 10) := by
  have HS := Lib.hid hs
  clear hs
  go_enter Try.func12, Try.ntmps12
  go_wp2_with fail
  refine (l1New_any A n c l w HS.out hn).mono ?_
  rintro e w1 ⟨rfl, hc1, hg1⟩
  have C1 := Lib.hid hc1
  have L1 := Lib.hid (below_of_grown hg1)
  clear hc1 hg1
  go_wp2_with fail
  refine (l1Below_any _ 3 w1 C1.out (by omega) (by omega)).mono ?_
  rintro e w2 ⟨x, rfl, hx0, hx1, hc2, hg2⟩
  have C2 := Lib.hid hc2
  have L2 := Lib.hid (below_more L1.out hg2 (Nat.le_refl _))
  obtain ⟨m, rfl⟩ := Int.eq_ofNat_of_zero_le hx0
  clear hc2 hg2 C1 L1
  go_wp2_with fail
  refine (l1Bytes_any _ m w2 C2.out (by omega)).mono ?_
  rintro e w3 ⟨gb, cap, r, l', rfl, hl, hle, hgb, hb, hc3, hg3⟩
  have NL := Lib.hid hl
  have NG := Lib.hid (Nat.le_trans L2.out.size hgb)
  have NB := Lib.hid hb
  have NN := Lib.hid (show w.heap.size ≠ gb from fun e => by have := C2.out.lt; omega)
  have C3 := Lib.hid hc3
  have L3 := Lib.hid (below_more L2.out hg3 (Nat.le_refl _))
  clear hl hgb hb hc3 hg3 C2 L2
  go_wp2_with fail
  refine (l1One_any _ w3 C3.out).mono ?_
  rintro e w4 ⟨x, rfl, hx, hc4, hg4⟩
  have HX := Lib.hid hx
  have NB4 := Lib.hid (NB.out.grown hg4 (fun e => NN.out (Option.some.inj e).symm))
  have L4 := Lib.hid (below_more L3.out hg4 (Nat.le_refl _))
  clear hx hc4 hg4 C3 L3
  go_wp2
  go_ret2
  exact ⟨gb, m, cap, r, l', x, rfl, NL.out, hle, by omega, NG.out, NB4.out, HX.out, L4.out⟩
set_option maxHeartbeats 2000000 in
theorem drawPut4_any (A : Option Addr) (n c : Nat) (l : List UInt8) (w : World) (hs : Sl w w.heap.size A n l) (hn : n ≤ 1048576) : Calls Try.prog 19 #[.slice A n c] w (Pair w 10) := by
  have HS := Lib.hid hs
  clear hs
  go_enter Try.func19, Try.ntmps19
  go_wp2_with fail
  refine (l1New_any A n c l w HS.out hn).mono ?_
  rintro e w1 ⟨rfl, hc1, hg1⟩
  have C1 := Lib.hid hc1
  have L1 := Lib.hid (below_of_grown hg1)
  clear hc1 hg1
  go_wp2_with fail
  refine (l1Below_any _ 3 w1 C1.out (by omega) (by omega)).mono ?_
  rintro e w2 ⟨x, rfl, hx0, hx1, hc2, hg2⟩
  have C2 := Lib.hid hc2
  have L2 := Lib.hid (below_more L1.out hg2 (Nat.le_refl _))
  obtain ⟨m, rfl⟩ := Int.eq_ofNat_of_zero_le hx0
  clear hc2 hg2 C1 L1
  go_wp2_with fail
  refine (l1Bytes_any _ m w2 C2.out (by omega)).mono ?_
  rintro e w3 ⟨gb, cap, r, l', rfl, hl, hle, hgb, hb, hc3, hg3⟩
  have NL := Lib.hid hl
  have NG := Lib.hid (Nat.le_trans L2.out.size hgb)
  have NB := Lib.hid hb
  have NN := Lib.hid (show w.heap.size ≠ gb from fun e => by have := C2.out.lt; omega)
  have C3 := Lib.hid hc3
  have L3 := Lib.hid (below_more L2.out hg3 (Nat.le_refl _))
  clear hl hgb hb hc3 hg3 C2 L2
  go_wp2_with fail
  refine (l1One_any _ w3 C3.out).mono ?_
  rintro e w4 ⟨x, rfl, hx, hc4, hg4⟩
  have HX := Lib.hid hx
  have NB4 := Lib.hid (NB.out.grown hg4 (fun e => NN.out (Option.some.inj e).symm))
  have L4 := Lib.hid (below_more L3.out hg4 (Nat.le_refl _))
  clear hx hc4 hg4 C3 L3
  go_wp2
  go_ret2
  exact ⟨gb, m, cap, r, l', x, rfl, NL.out, hle, by omega, NG.out, NB4.out, HX.out, L4.out⟩
set_option maxHeartbeats 2000000 in
theorem drawGet2_any (A : Option Addr) (n c : Nat) (l : List UInt8) (w : World) (hs : Sl w w.heap.size A n l) (hn : n ≤ 1048576) : Calls Try.prog 14 #[.slice A n c] w (Pair w 10) := by
  have HS := Lib.hid hs
  clear hs
  go_enter Try.func14, Try.ntmps14
  go_wp2_with fail
  refine (l1New_any A n c l w HS.out hn).mono ?_
  rintro e w1 ⟨rfl, hc1, hg1⟩
  have C1 := Lib.hid hc1
  have L1 := Lib.hid (below_of_grown hg1)
  clear hc1 hg1
  go_wp2_with fail
  refine (l1Below_any _ 6 w1 C1.out (by omega) (by omega)).mono ?_
  rintro e w2 ⟨x, rfl, hx0, hx1, hc2, hg2⟩
  have C2 := Lib.hid hc2
  have L2 := Lib.hid (below_more L1.out hg2 (Nat.le_refl _))
  obtain ⟨m, rfl⟩ := Int.eq_ofNat_of_zero_le hx0
  clear hc2 hg2 C1 L1
  go_wp2_with fail
  refine (l1Bytes_any _ m w2 C2.out (by omega)).mono ?_
  rintro e w3 ⟨gb, cap, r, l', rfl, hl, hle, hgb, hb, hc3, hg3⟩
  have NL := Lib.hid hl
  have NG := Lib.hid (Nat.le_trans L2.out.size hgb)
  have NB := Lib.hid hb
  have NN := Lib.hid (show w.heap.size ≠ gb from fun e => by have := C2.out.lt; omega)
  have C3 := Lib.hid hc3
  have L3 := Lib.hid (below_more L2.out hg3 (Nat.le_refl _))
  clear hl hgb hb hc3 hg3 C2 L2
  go_wp2_with fail
  refine (l1Below_any _ 6 w3 C3.out (by omega) (by omega)).mono ?_
  rintro e w4 ⟨x, rfl, hx, hx', hc4, hg4⟩
  have NB4 := Lib.hid (NB.out.grown hg4 (fun e => NN.out (Option.some.inj e).symm))
  have L4 := Lib.hid (below_more L3.out hg4 (Nat.le_refl _))
  clear hc4 hg4 C3 L3
  go_wp2
  go_ret2
  exact ⟨gb, m, cap, r, l', x - 1, rfl, NL.out, hle, by omega, NG.out, NB4.out, fits_at (x - 1) (by omega) (by omega), L4.out⟩
set_option maxHeartbeats 2000000 in
theorem drawGet4_any (A : Option Addr) (n c : Nat) (l : List UInt8) (w : World) (hs : Sl w w.heap.size A n l) (hn : n ≤ 1048576) : Calls Try.prog 21 #[.slice A n c] w (Pair w 10) := by
  have HS := Lib.hid hs
  clear hs
  go_enter Try.func21, Try.ntmps21
  go_wp2_with fail
  refine (l1New_any A n c l w HS.out hn).mono ?_
  rintro e w1 ⟨rfl, hc1, hg1⟩
  have C1 := Lib.hid hc1
  have L1 := Lib.hid (below_of_grown hg1)
  clear hc1 hg1
  go_wp2_with fail
  refine (l1Once_any _ 2 w1 C1.out (by omega) (by omega)).mono ?_
  rintro e w0 ⟨b, rfl, hc0, hg0⟩
  have C0 := Lib.hid hc0
  have L0 := Lib.hid (below_more L1.out hg0 (Nat.le_refl _))
  clear hc0 hg0 C1 L1
  cases b
  · go_wp2_with fail
    refine (l1Below_any _ 8 w0 C0.out (by omega) (by omega)).mono ?_
    rintro e w2 ⟨x, rfl, hx0, hx1, hc2, hg2⟩
    have C2 := Lib.hid hc2
    have L2 := Lib.hid (below_more L0.out hg2 (Nat.le_refl _))
    obtain ⟨m, rfl⟩ := Int.eq_ofNat_of_zero_le hx0
    clear hc2 hg2 C0 L0
    go_wp2_with fail
    refine (l1Bytes_any _ m w2 C2.out (by omega)).mono ?_
    rintro e w3 ⟨gb, cap, r, l', rfl, hl, hle, hgb, hb, hc3, hg3⟩
    have NL := Lib.hid hl
    have NG := Lib.hid (Nat.le_trans L2.out.size hgb)
    have NB := Lib.hid hb
    have NN := Lib.hid (show w.heap.size ≠ gb from fun e => by have := C2.out.lt; omega)
    have C3 := Lib.hid hc3
    have L3 := Lib.hid (below_more L2.out hg3 (Nat.le_refl _))
    clear hl hgb hb hc3 hg3 C2 L2
    go_wp2_with fail
    refine (l1Below_any _ 6 w3 C3.out (by omega) (by omega)).mono ?_
    rintro e w4 ⟨x, rfl, hx, hx', hc4, hg4⟩
    have NB4 := Lib.hid (NB.out.grown hg4 (fun e => NN.out (Option.some.inj e).symm))
    have L4 := Lib.hid (below_more L3.out hg4 (Nat.le_refl _))
    clear hc4 hg4 C3 L3
    go_wp2
    go_ret2
    exact ⟨gb, m, cap, r, l', x - 1, rfl, NL.out, hle, by omega, NG.out, NB4.out, fits_at (x - 1) (by omega) (by omega), L4.out⟩
  · go_wp2_with fail
    refine (l1Bytes_any _ 2 w0 C0.out (by omega)).mono ?_
    rintro e w3 ⟨gb, cap, r, l', rfl, hl, hle, hgb, hb, hc3, hg3⟩
    have NL := Lib.hid hl
    have NB := Lib.hid hb
    have NN := Lib.hid (show w.heap.size ≠ gb from fun e => by have := C0.out.lt; omega)
    have C3 := Lib.hid hc3
    have L3 := Lib.hid (below_more L0.out hg3 (Nat.le_refl _))
    clear hl hgb hb hc3 hg3 C0 L0
    go_wp2_with fail
    refine (l1Num_any _ w3 C3.out).mono ?_
    rintro e w4 ⟨x, rfl, hx, hc4, hg4⟩
    have NB4 := Lib.hid (NB.out.grown hg4 (fun e => NN.out (Option.some.inj e).symm))
    have L4 := Lib.hid (below_more L3.out hg4 (Nat.le_refl _))
    clear hx hc4 hg4 C3 L3
    go_wp2_with fail
    refine (specPut4 _ 2 cap l' x w4 (NL.out ▸ (NB4.out.sl'.wider NB4.out.lt)) (fun h => by cases h) (by omega)).mono ?_
    rintro e w5 ⟨g5, m5, c5, r5, rfl, hm5, hc5, hg5, hb5, hl5⟩
    have N5 := Lib.hid hm5
    have G5 := Lib.hid (Nat.le_trans L4.out.size hg5)
    have B5 := Lib.hid hb5
    have L5 := Lib.hid (L4.out.trans (hl5.mono L4.out.size))
    have hle5 : m5 ≤ 10 := by
      rw [← hm5, List.length_append, NL.out]
      have := tail4_len x
      omega
    clear hm5 hg5 hb5 hl5 L4 NB4
    go_wp2
    go_ret2
    exact ⟨g5, m5, c5, r5, _, 2, rfl, N5.out, hc5, hle5, G5.out, B5.out, fits_small 2 (by omega) (by omega), L5.out⟩

set_option maxHeartbeats 2000000 in
theorem drawLeast_any (A : Option Addr) (n c : Nat) (l : List UInt8) (w : World) (hs : Sl w w.heap.size A n l) (hn : n ≤ 1048576) : Calls Try.prog 24 #[.slice A n c] w fun e w' => ∃ x y : Int, e = .returned (.tuple #[.int .i64 x, .int .i64 y]) ∧ Below w.heap.size w w' := by
  have HS := Lib.hid hs
  clear hs
  go_enter Try.func24, Try.ntmps24
  go_wp2_with fail
  refine (l1New_any A n c l w HS.out hn).mono ?_
  rintro e w1 ⟨rfl, hc1, hg1⟩
  have C1 := Lib.hid hc1
  have L1 := Lib.hid (below_of_grown hg1)
  clear hc1 hg1
  go_wp2_with fail
  refine (l1One_any _ w1 C1.out).mono ?_
  rintro e w2 ⟨x, rfl, _, hc2, hg2⟩
  have C2 := Lib.hid hc2
  have L2 := Lib.hid (below_more L1.out hg2 (Nat.le_refl _))
  clear hc2 hg2 C1 L1
  go_wp2_with fail
  refine (l1One_any _ w2 C2.out).mono ?_
  rintro e w3 ⟨y, rfl, _, _, hg3⟩
  have L3 := Lib.hid (below_more L2.out hg3 (Nat.le_refl _))
  clear hg3 C2 L2
  go_wp2
  go_ret2
  exact ⟨x, y, rfl, L3.out⟩
end Go.Proofs.Ytaladeifmaldeaa.Draw2
