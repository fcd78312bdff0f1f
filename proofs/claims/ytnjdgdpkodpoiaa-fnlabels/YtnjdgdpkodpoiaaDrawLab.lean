/- What the model's draws of the arguments of Fold, PutLabel and GetLabel do: short texts, new slices of bytes, numbers that fit; nothing that was there is turned. -/
import Derived.Test.YtnjdgdpkodpoiaaDrawL
import Derived.Test.YtnjdgdpkodpoiaaBent
import Derived.Test.YtnjdgdpkodpoiaaPutLabel
namespace Go.Proofs.Ytnjdgdpkodpoiaa.DrawLab
open Go.RowKit Go.Proofs.Ytnjdgdpkodpoiaa.Mem Go.Proofs.Ytnjdgdpkodpoiaa.Draw Go.Proofs.Ytnjdgdpkodpoiaa.DrawS Go.Proofs.Ytnjdgdpkodpoiaa.DrawL Go.Proofs.Ytnjdgdpkodpoiaa.App Go.Proofs.Ytnjdgdpkodpoiaa.Draw2 Go.Proofs.Ytnjdgdpkodpoiaa.Bent Go.Proofs.Ytnjdgdpkodpoiaa.PutLabel

/-- A short text; nothing that was there is turned. -/
def One (w : World) (e : Ending) (w' : World) : Prop := ∃ x : ByteArray, e = .returned (.string x) ∧ Short x ∧ Below w.heap.size w w'
/-- A drawn slice of bytes and a short text; nothing that was there is turned. -/
def ByTx (w : World) (top : Nat) (e : Ending) (w' : World) : Prop :=
  ∃ (gb m cap : Nat) (r : List Value) (l : List UInt8) (x : ByteArray), e = .returned (.tuple #[.slice (some ⟨gb, 0, none⟩) m cap, .string x]) ∧ l.length = m ∧ m ≤ cap ∧ m ≤ top ∧ w.heap.size ≤ gb ∧ Bk w' gb 5 (l.map bv ++ r) ∧ Short x ∧ Below w.heap.size w w'

def folds : List ByteArray := [⟨#[]⟩, ⟨#[65]⟩, ⟨#[87, 119, 87, 46, 69, 120]⟩, ⟨#[91]⟩, ⟨#[64]⟩, ⟨#[90, 123]⟩, ⟨#[97, 98, 99]⟩, ⟨#[195, 128, 90]⟩]
theorem folds_short : ∀ x ∈ folds, Short x := all_short _ (by decide)

set_option maxHeartbeats 2000000 in
theorem drawFold_any (A : Option Addr) (n c : Nat) (l : List UInt8) (w : World) (hs : Sl w w.heap.size A n l) (hn : n ≤ 1048576) : Calls Try.prog 15 #[.slice A n c] w (One w) := by
  have HS := Lib.hid hs
  clear hs
  go_enter Try.func15, Try.ntmps15
  go_wp2_with fail
  refine (l1New_any A n c l w HS.out hn).mono ?_
  rintro e w1 ⟨rfl, hc1, hg1⟩
  have C1 := Lib.hid hc1
  have L1 := Lib.hid (below_of_grown hg1)
  clear hc1 hg1
  go_wp2_with fail
  refine (l1Str_any w.heap.size w1.heap.size 8 folds _ (C1.out.alloc _) (bk_texts w1 folds _ rfl) (Nat.ne_of_gt C1.out.lt) rfl (by omega) (by omega)).mono ?_
  rintro e w2 ⟨x, rfl, hx, hc2, hg2⟩
  have HX := Lib.hid (folds_short x hx)
  have L2 := Lib.hid (below_more (L1.out.alloc L1.out.size _) hg2 (Nat.le_refl _))
  clear hc2 hg2 hx
  go_wp2
  go_ret
  exact ⟨x, rfl, HX.out, L2.out⟩

set_option maxHeartbeats 2000000 in
theorem drawPutLabel_any (A : Option Addr) (n c : Nat) (l : List UInt8) (w : World) (hs : Sl w w.heap.size A n l) (hn : n ≤ 1048576) : Calls Try.prog 10 #[.slice A n c] w (ByTx w 10) := by
  have HS := Lib.hid hs
  clear hs
  go_enter Try.func10, Try.ntmps10
  go_wp2_with fail
  refine (l1New_any A n c l w HS.out hn).mono ?_
  rintro e w1 ⟨rfl, hc1, hg1⟩
  have C1 := Lib.hid hc1
  have L1 := Lib.hid (below_of_grown hg1)
  clear hc1 hg1
  go_wp2_with fail
  refine (l1Below_any _ 3 w1 C1.out (by omega) (by omega)).mono ?_
  rintro e w2 ⟨x, rfl, hx0, hx1, hc2, hg2⟩
  have C2 := Lib.hid hc2
  have L2 := Lib.hid (below_more L1.out hg2 (Nat.le_refl _))
  obtain ⟨m, rfl⟩ := Int.eq_ofNat_of_zero_le hx0
  clear hc2 hg2 C1 L1
  go_wp2_with fail
  refine (l1Bytes_any _ m w2 C2.out (by omega)).mono ?_
  rintro e w3 ⟨gb, cap, r, l', rfl, hl, hle, hgb, hb, hc3, hg3⟩
  have NL := Lib.hid hl
  have NG := Lib.hid (Nat.le_trans L2.out.size hgb)
  have NB := Lib.hid hb
  have NN := Lib.hid (show w.heap.size ≠ gb from fun e => by have := C2.out.lt; omega)
  have C3 := Lib.hid hc3
  have L3 := Lib.hid (below_more L2.out hg3 (Nat.le_refl _))
  clear hl hgb hb hc3 hg3 C2 L2
  go_wp2_with fail
  refine (l2Any_any _ w3 C3.out).mono ?_
  rintro e w4 ⟨x, rfl, hx, hc4, hg4⟩
  have HX := Lib.hid hx
  have NB4 := Lib.hid (NB.out.grown hg4 (fun e => NN.out (Option.some.inj e).symm))
  have L4 := Lib.hid (below_more L3.out hg4 (Nat.le_refl _))
  clear hx hc4 hg4 C3 L3
  go_wp2
  go_ret2
  exact ⟨gb, m, cap, r, l', x, rfl, NL.out, hle, by omega, NG.out, NB4.out, HX.out, L4.out⟩

/-- A new slice of bytes beside the cursor, while the rest of a draw runs. -/
def Thr (w : World) (gb m : Nat) (l : List UInt8) (r : List Value) (w' : World) : Prop :=
  l.length = m ∧ w.heap.size ≤ gb ∧ w.heap.size < gb ∧ Bk w' gb 5 (l.map bv ++ r) ∧ Cur w' w.heap.size ∧ Below w.heap.size w w'
section
variable {w w1 w2 : World} {gb m : Nat} {l : List UInt8} {r : List Value}
theorem Thr.cur (h : Thr w gb m l r w1) : Cur w1 w.heap.size := h.2.2.2.2.1
theorem Thr.below (h : Thr w gb m l r w1) : Below w.heap.size w w1 := h.2.2.2.2.2
theorem Thr.bk (h : Thr w gb m l r w1) : Bk w1 gb 5 (l.map bv ++ r) := h.2.2.2.1
theorem Thr.later (h : Thr w gb m l r w1) (hc : Cur w2 w.heap.size) (hg : w1.grownBy w2 (some w.heap.size)) : Thr w gb m l r w2 :=
  ⟨h.1, h.2.1, h.2.2.1, h.bk.grown hg (fun e => by have := Option.some.inj e; have := h.2.2.1; omega), hc, below_more h.below hg (Nat.le_refl _)⟩
theorem Thr.alloc (h : Thr w gb m l r w1) (o : Obj) : Thr w gb m l r (w1.alloc o) := h.later (h.cur.alloc o) (World.grownBy_alloc w1 o _)
theorem Thr.set (h : Thr w gb m l r w1) (i : Nat) (hi : i < m) (x : Int) (h0 : 0 ≤ x) (h1 : x < 256) : Thr w gb m (l.set i (UInt8.ofNat x.toNat)) r (w1.setCell ⟨gb, i, none⟩ (.int .u8 x)) := by
  have hl := h.1
  have e : (l.map bv ++ r).set i (.int .u8 x) = (l.set i (UInt8.ofNat x.toNat)).map bv ++ r := by
    rw [List.set_append_left _ _ (by simp; omega), List.map_set, bv_of x h0 h1]
  refine ⟨by simp [hl], h.2.1, h.2.2.1, by rw [← e]; exact h.bk.set i _, ?_, h.below.setCell h.2.1 _⟩
  exact h.cur.grown (row := some gb) ⟨rfl, rfl, rfl, by simp [World.setCell], fun k _ hk => Below.heap_setCell _ _ _ _ (fun e => hk (by simp [e]))⟩ (fun k hk => by cases hk; exact h.2.2.1)
theorem Thr.cell (h : Thr w gb m l r w1) (i : Nat) (hi : i < m) : ∃ x : Int, w1.cell? ⟨gb, i, none⟩ = some (.int .u8 x) := by
  have hil : i < l.length := by rw [h.1]; exact hi
  refine ⟨(l[i].toNat : Int), ?_⟩
  rw [h.bk.cell, List.getElem?_append_left (by simpa using hil)]
  simp [bv, hil]
theorem Thr.sl (h : Thr w gb m l r w1) : Sl w1 w1.heap.size (some ⟨gb, 0, none⟩) m l := h.1 ▸ (h.bk.sl'.wider h.bk.lt)
end

def ats : List Int := [0, 0, 0, 0, 1, -1, 20]
theorem ats_fit : ∀ x ∈ ats, Fits x := all_fit _ (by decide)
def bads : List Int := [65, 90, 91, 32, 46]
theorem bads_byte (x : Int) (h : x ∈ bads) : 0 ≤ x ∧ x < 256 := by simp [bads] at h; omega

set_option maxHeartbeats 4000000 in
theorem drawGetLabel_any (A : Option Addr) (n c : Nat) (l : List UInt8) (w : World) (hs : Sl w w.heap.size A n l) (hn : n ≤ 1048576) : Calls Try.prog 12 #[.slice A n c] w (Pair w 20) := by
  have HS := Lib.hid hs
  clear hs
  go_enter Try.func12, Try.ntmps12
  go_wp2_with fail
  refine (l1New_any A n c l w HS.out hn).mono ?_
  rintro e w1 ⟨rfl, hc1, hg1⟩
  have C1 := Lib.hid hc1
  have L1 := Lib.hid (below_of_grown hg1)
  clear hc1 hg1
  go_wp2_with fail
  refine (l2Label_any _ _ (C1.out.alloc _)).mono ?_
  rintro e w2 ⟨s, rfl, hx, hc2, hg2⟩
  have hss : s.size ≤ 20 := hx
  have C2 := Lib.hid hc2
  have L2 := Lib.hid (below_more (L1.out.alloc L1.out.size _) hg2 (Nat.le_refl _))
  clear hx hc2 hg2 C1 L1
  go_wp2_with fail
  refine (specPut (some ⟨w1.heap.size, 0, none⟩) 0 0 [] s w2 Sl.nil (fun h => by cases h) (by omega) (by omega)).mono ?_
  rintro e w3 ⟨gb, m, cap, r, rfl, hm, hle, hgb, hb, hl⟩
  rw [List.nil_append] at hm hb
  have hm13 : m ≤ 13 := by rw [← hm]; exact tailL_len s
  generalize tailL s = lb at *
  have NN := Lib.hid (show w.heap.size < gb from Nat.lt_of_lt_of_le C2.out.lt hgb)
  have T3 : Hid (Thr w gb m lb r w3) := ⟨hm, Nat.le_trans L2.out.size hgb, NN.out, hb, C2.out.grown (row := none) ⟨hl.os, hl.tape, hl.output, hl.size, fun k hk _ => hl.block k hk⟩ (fun k hk => by cases hk), L2.out.trans (hl.mono L2.out.size)⟩
  clear hm hgb hb hl C2 L2
  go_wp2_with fail
  refine (l1Once_any _ 3 w3 T3.out.cur (by omega) (by omega)).mono ?_
  rintro e w4 ⟨b, rfl, hc4, hg4⟩
  have T4 := Lib.hid (T3.out.later hc4 hg4)
  clear hc4 hg4 T3
  cases b
  · go_wp2_with fail
    refine (l1Bent_any _ (some ⟨gb, 0, none⟩) m cap lb w4 T4.out.cur T4.out.sl (fun h => by cases h) (by omega)).mono ?_
    rintro e w7 ⟨g2, m2, cap2, r2, l2, rfl, hm2, hle2, htop, hg2, hb2, hc7, hgr7⟩
    have N2 := Lib.hid hm2
    have G2 := Lib.hid (Nat.le_trans T4.out.below.size hg2)
    have B2 := Lib.hid hb2
    have C7 := Lib.hid hc7
    have L7 := Lib.hid (below_more T4.out.below hgr7 (Nat.le_refl _))
    have X7 := Lib.hid (show w.heap.size ≠ g2 from fun e => by have := T4.out.cur.lt; omega)
    clear hm2 hg2 hb2 hc7 hgr7 T4
    go_wp2_with fail
    refine (l1Int_any _ w7.heap.size 7 ats _ (C7.out.alloc _) (bk_ints w7 ats _ rfl) (Nat.ne_of_gt C7.out.lt) rfl (by omega) (by omega)).mono ?_
    rintro e w8 ⟨y, rfl, hy, hc8, hg8⟩
    have HY := Lib.hid (ats_fit y hy)
    have B8 := Lib.hid ((B2.out.alloc _).grown hg8 (fun e => X7.out (Option.some.inj e).symm))
    have L8 := Lib.hid (below_more (L7.out.alloc L7.out.size _) hg8 (Nat.le_refl _))
    clear hy hc8 hg8 C7 L7 B2
    go_wp2
    go_ret2
    exact ⟨g2, m2, cap2, r2, l2, y, rfl, N2.out, hle2, by omega, G2.out, B8.out, HY.out, L8.out⟩
  · by_cases h1 : 1 < m
    · go_wp2_with fail
      refine (l1Int_any _ w4.heap.size 5 bads _ (T4.out.cur.alloc _) (bk_ints w4 bads _ rfl) (Nat.ne_of_gt T4.out.cur.lt) rfl (by omega) (by omega)).mono ?_
      rintro e w5 ⟨z, rfl, hz, hc5, hg5⟩
      obtain ⟨z0, z1⟩ := bads_byte z hz
      have T5 := Lib.hid ((T4.out.alloc _).later hc5 hg5)
      clear hz hc5 hg5 T4
      obtain ⟨u, hcell⟩ := T5.out.cell 1 h1
      have hfr := T5.out.bk.free 1
      have T6 := Lib.hid (T5.out.set 1 h1 z z0 z1)
      clear T5
      go_wp2_with fail
      refine (l1Bent_any _ (some ⟨gb, 0, none⟩) m cap _ _ T6.out.cur T6.out.sl (fun h => by cases h) (by omega)).mono ?_
      rintro e w7 ⟨g2, m2, cap2, r2, l2, rfl, hm2, hle2, htop, hg2, hb2, hc7, hgr7⟩
      have N2 := Lib.hid hm2
      have G2 := Lib.hid (Nat.le_trans T6.out.below.size hg2)
      have B2 := Lib.hid hb2
      have C7 := Lib.hid hc7
      have L7 := Lib.hid (below_more T6.out.below hgr7 (Nat.le_refl _))
      have X7 := Lib.hid (show w.heap.size ≠ g2 from fun e => by have := T6.out.cur.lt; omega)
      clear hm2 hg2 hb2 hc7 hgr7 T6
      go_wp2_with fail
      refine (l1Int_any _ w7.heap.size 7 ats _ (C7.out.alloc _) (bk_ints w7 ats _ rfl) (Nat.ne_of_gt C7.out.lt) rfl (by omega) (by omega)).mono ?_
      rintro e w8 ⟨y, rfl, hy, hc8, hg8⟩
      have HY := Lib.hid (ats_fit y hy)
      have B8 := Lib.hid ((B2.out.alloc _).grown hg8 (fun e => X7.out (Option.some.inj e).symm))
      have L8 := Lib.hid (below_more (L7.out.alloc L7.out.size _) hg8 (Nat.le_refl _))
      clear hy hc8 hg8 C7 L7 B2
      go_wp2
      go_ret2
      exact ⟨g2, m2, cap2, r2, l2, y, rfl, N2.out, hle2, by omega, G2.out, B8.out, HY.out, L8.out⟩
    · go_wp2_with fail
      refine (l1Bent_any _ (some ⟨gb, 0, none⟩) m cap lb w4 T4.out.cur T4.out.sl (fun h => by cases h) (by omega)).mono ?_
      rintro e w7 ⟨g2, m2, cap2, r2, l2, rfl, hm2, hle2, htop, hg2, hb2, hc7, hgr7⟩
      have N2 := Lib.hid hm2
      have G2 := Lib.hid (Nat.le_trans T4.out.below.size hg2)
      have B2 := Lib.hid hb2
      have C7 := Lib.hid hc7
      have L7 := Lib.hid (below_more T4.out.below hgr7 (Nat.le_refl _))
      have X7 := Lib.hid (show w.heap.size ≠ g2 from fun e => by have := T4.out.cur.lt; omega)
      clear hm2 hg2 hb2 hc7 hgr7 T4
      go_wp2_with fail
      refine (l1Int_any _ w7.heap.size 7 ats _ (C7.out.alloc _) (bk_ints w7 ats _ rfl) (Nat.ne_of_gt C7.out.lt) rfl (by omega) (by omega)).mono ?_
      rintro e w8 ⟨y, rfl, hy, hc8, hg8⟩
      have HY := Lib.hid (ats_fit y hy)
      have B8 := Lib.hid ((B2.out.alloc _).grown hg8 (fun e => X7.out (Option.some.inj e).symm))
      have L8 := Lib.hid (below_more (L7.out.alloc L7.out.size _) hg8 (Nat.le_refl _))
      clear hy hc8 hg8 C7 L7 B2
      go_wp2
      go_ret2
      exact ⟨g2, m2, cap2, r2, l2, y, rfl, N2.out, hle2, by omega, G2.out, B8.out, HY.out, L8.out⟩
end Go.Proofs.Ytnjdgdpkodpoiaa.DrawLab
