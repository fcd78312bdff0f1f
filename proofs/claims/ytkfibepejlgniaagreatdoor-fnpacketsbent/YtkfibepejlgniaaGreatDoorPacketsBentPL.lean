/- The law FnPacketsBent returns true at every slice of bytes, where the library's variable internal/bytealg.MaxLen holds an int, and turns nothing that was there: what is read as a message is right, and is read again from its own bytes. -/
import Derived.Test.YtkfibepejlgniaaGreatDoorPacketsP2
import Derived.Test.YtkfibepejlgniaaGreatDoorApp
import Derived.Deep.RegionHeld3
import Derived.Deep.RegionLaw
import Derived.Test.YtkfibepejlgniaaGreatDoorPacketsP3
import Derived.Test.YtkfibepejlgniaaGreatDoorMem
import Derived.Deep.QuietTactic
import Derived.BigQuiet
import Derived.Test.YtkfibepejlgniaaGreatDoorLabels
import Derived.LaidLaws
import Derived.Test.YtkfibepejlgniaaGreatDoorPacketsP1
/- What the model's draw of bytes does: a new slice of bytes; nothing that was there is turned but the cursor. -/
namespace Go.Proofs.YtkfibepejlgniaaGreatDoor.Draw2
open Go.RowKit Go.Proofs.YtkfibepejlgniaaGreatDoor.Mem Go.Proofs.YtkfibepejlgniaaGreatDoor.Draw Go.Proofs.YtkfibepejlgniaaGreatDoor.App

/-- m new bytes, the cursor moved, nothing else turned. -/
def Byt (w : World) (g m : Nat) (e : Ending) (w' : World) : Prop :=
  ∃ (gb cap : Nat) (r : List Value) (l : List UInt8), e = .returned (.slice (some ⟨gb, 0, none⟩) m cap) ∧ l.length = m ∧ m ≤ cap ∧ w.heap.size ≤ gb ∧ Bk w' gb 5 (l.map bv ++ r) ∧ Cur w' g ∧ w.grownBy w' (some g)

theorem grown_more {a b d : World} {r : Option Nat} {gb : Nat} (h : a.grownBy b r) (k : b.grownBy d (some gb)) (hg : a.heap.size ≤ gb) : a.grownBy d r :=
  ⟨k.os.trans h.os, k.tape.trans h.tape, k.output.trans h.output, Nat.le_trans h.size k.size, fun i hi hne => (k.block i (Nat.lt_of_lt_of_le hi h.size) (fun e => by have := Option.some.inj e; omega)).trans (h.block i hi hne)⟩

theorem one_cell (x : Int) (h0 : 0 ≤ x) (h1 : x < 256) : ([UInt8.ofNat x.toNat] : List UInt8).map bv = [.int .u8 x] := by
  rw [List.map_cons, bv_of x h0 h1, List.map_nil]

/-- m new bytes as a row of one's own, the cursor moved, nothing else turned. -/
def BytO (w : World) (g m : Nat) (e : Ending) (w' : World) : Prop :=
  ∃ (gb cap : Nat) (l : List UInt8), e = .returned (.slice (some ⟨gb, 0, none⟩) m cap) ∧ l.length = m ∧ w'.ownsRow w.heap.size 5 1 (.slice (some ⟨gb, 0, none⟩) m cap) m (l.map bv) ∧ Cur w' g ∧ w.grownBy w' (some g)

/-- A drawn slice of bytes and a drawn number; nothing that was there is turned. -/
def Pair (w : World) (top : Nat) (e : Ending) (w' : World) : Prop :=
  ∃ (gb m cap : Nat) (r : List Value) (l : List UInt8) (x : Int), e = .returned (.tuple #[.slice (some ⟨gb, 0, none⟩) m cap, .int .i64 x]) ∧ l.length = m ∧ m ≤ cap ∧ m ≤ top ∧ w.heap.size ≤ gb ∧ Bk w' gb 5 (l.map bv ++ r) ∧ Fits x ∧ Below w.heap.size w w'

theorem below_of_grown {w w' : World} (h : w.grownBy w' none) : Below w.heap.size w w' := ⟨h.os, h.tape, h.output, h.size, fun k hk => h.block k hk (fun e => by cases e)⟩
theorem below_more {w w1 w2 : World} {g : Nat} (h : Below w.heap.size w w1) (k : w1.grownBy w2 (some g)) (hg : w.heap.size ≤ g) : Below w.heap.size w w2 := h.grown k h.size (fun j hj => by cases hj; exact hg)

theorem fits_at (x : Int) (h0 : -1 ≤ x) (h1 : x < 4000000000) : Fits x := by
  have e1 : IntKind.i64.min = -9223372036854775808 := by decide
  have e2 : IntKind.i64.max = 9223372036854775807 := by decide
  simp [Fits, Lit.wf]
  omega
end Go.Proofs.YtkfibepejlgniaaGreatDoor.Draw2

/- What the model's l1Bent does: a new slice of bytes, at most one longer than what came in; nothing that was there is turned but the cursor. -/
namespace Go.Proofs.YtkfibepejlgniaaGreatDoor.Bent
open Go.RowKit Go.Proofs.YtkfibepejlgniaaGreatDoor.Mem Go.Proofs.YtkfibepejlgniaaGreatDoor.Draw Go.Proofs.YtkfibepejlgniaaGreatDoor.App Go.Proofs.YtkfibepejlgniaaGreatDoor.Draw2

/-- Some new bytes, at most top, the cursor moved, nothing else turned. -/
def Bnt (w : World) (g top : Nat) (e : Ending) (w' : World) : Prop :=
  ∃ (gb m cap : Nat) (r : List Value) (l : List UInt8), e = .returned (.slice (some ⟨gb, 0, none⟩) m cap) ∧ l.length = m ∧ m ≤ cap ∧ m ≤ top ∧ w.heap.size ≤ gb ∧ Bk w' gb 5 (l.map bv ++ r) ∧ Cur w' g ∧ w.grownBy w' (some g)

/-- Some new bytes as a row of one's own, at most top, the cursor moved, nothing else turned. -/
def BntO (w : World) (g top : Nat) (e : Ending) (w' : World) : Prop :=
  ∃ (gb m cap : Nat) (l : List UInt8), e = .returned (.slice (some ⟨gb, 0, none⟩) m cap) ∧ m ≤ top ∧ w'.ownsRow w.heap.size 5 1 (.slice (some ⟨gb, 0, none⟩) m cap) m (l.map bv) ∧ Cur w' g ∧ w.grownBy w' (some g)

/-- What is known of the copy while the rest runs. -/
def St (w : World) (g gb n cap : Nat) (w' : World) : Prop :=
  ∃ (r : List Value) (l : List UInt8), l.length = n ∧ (n ≤ cap ∧ cap ≤ maxLen) ∧ (l.map bv ++ r).length = cap ∧ w.heap.size ≤ gb ∧ g < gb ∧ Bk w' gb 5 (l.map bv ++ r) ∧ Cur w' g ∧ w.grownBy w' (some g)
section
variable {w w1 w2 : World} {g gb n cap : Nat}
theorem St.later (h : St w g gb n cap w1) (hc : Cur w2 g) (hg : w1.grownBy w2 (some g)) : St w g gb n cap w2 := by
  obtain ⟨r, l, hl, hle, hcap, hb, hne, hk, _, hw⟩ := h
  exact ⟨r, l, hl, hle, hcap, hb, hne, hk.grown hg (fun e => by have := Option.some.inj e; omega), hc, grown_trans hw hg⟩
theorem St.cur' (h : St w g gb n cap w1) : Cur w1 g := by obtain ⟨_, _, _, _, _, _, _, _, hc, _⟩ := h; exact hc
theorem St.drew (h : St w g gb n cap w1) : St w g gb n cap w1.drew := by
  obtain ⟨r, l, hl, hle, hcap, hb, hne, hk, hc, hw⟩ := h
  exact ⟨r, l, hl, hle, hcap, hb, hne, hk, hc, ⟨hw.os, hw.tape, hw.output, hw.size, hw.block⟩⟩
/-- The copy's own cells stand while the cursor moves. -/
theorem St.far (h : St w g gb n cap w1) (hg : w1.grownBy w2 (some g)) (i : Nat) : w2.cell? ⟨gb, i, none⟩ = w1.cell? ⟨gb, i, none⟩ := by
  obtain ⟨r, l, hl, hle, hcap, hb, hne, hk, hc, hw⟩ := h
  exact World.cell?_of_block (hg.block gb hk.lt (fun e => by have := Option.some.inj e; omega))
theorem St.alloc (h : St w g gb n cap w1) (o : Obj) : St w g gb n cap (w1.alloc o) := h.later (h.cur'.alloc o) (World.grownBy_alloc w1 o (some g))
theorem St.gives (h : St w g gb n cap w1) {top : Nat} (ht : n ≤ top) : BntO w g top (.returned (.slice (some ⟨gb, 0, none⟩) n cap)) w1 := by
  obtain ⟨r, l, hl, hle, hcap, hb, _, hk, hc, hw⟩ := h
  exact ⟨gb, n, cap, l, rfl, ht, owns_of_bk hk hb hl hcap hle.2, hc, hw⟩
/-- Its head. -/
theorem St.head (h : St w g gb n cap w1) {m : Nat} (hm : m ≤ n) : St w g gb m cap w1 := by
  obtain ⟨r, l, hl, hle, hcap, hb, hne, hk, hc, hw⟩ := h
  have e : (l.take m).map bv ++ ((l.drop m).map bv ++ r) = l.map bv ++ r := by rw [← List.append_assoc, ← List.map_append, List.take_append_drop]
  exact ⟨(l.drop m).map bv ++ r, l.take m, by simp; omega, ⟨by omega, hle.2⟩, by rw [e]; exact hcap, hb, hne, by rw [e]; exact hk, hc, hw⟩
theorem St.cur (h : St w g gb n cap w1) : Cur w1 g := by obtain ⟨_, _, _, _, _, _, _, _, hc, _⟩ := h; exact hc
theorem St.cell (h : St w g gb n cap w1) (i : Nat) (hi : i < n) : ∃ x : Int, 0 ≤ x ∧ x < 256 ∧ w1.cell? ⟨gb, i, none⟩ = some (.int .u8 x) := by
  obtain ⟨r, l, hl, _, _, _, _, hk, _, _⟩ := h
  have hil : i < l.length := by omega
  refine ⟨(l[i].toNat : Int), by omega, by have := l[i].toNat_lt; omega, ?_⟩
  rw [hk.cell, List.getElem?_append_left (by simpa using hil)]
  simp [bv, hil]
theorem St.free (h : St w g gb n cap w1) (i : Nat) : w1.frozen? ⟨gb, i, none⟩ = false := by
  obtain ⟨r, l, _, _, _, _, _, hk, _, _⟩ := h
  exact hk.free i
theorem St.set (h : St w g gb n cap w1) (i : Nat) (hi : i < n) (x : Int) (h0 : 0 ≤ x) (h1 : x < 256) : St w g gb n cap (w1.setCell ⟨gb, i, none⟩ (.int .u8 x)) := by
  obtain ⟨r, l, hl, hle, hcap, hb, hne, hk, hc, hw⟩ := h
  have e : (l.map bv ++ r).set i (.int .u8 x) = (l.set i (UInt8.ofNat x.toNat)).map bv ++ r := by
    rw [List.set_append_left _ _ (by simp; omega), List.map_set, bv_of x h0 h1]
  refine ⟨r, l.set i (UInt8.ofNat x.toNat), by simp [hl], hle, by rw [← e]; simpa using hcap, hb, hne, by rw [← e]; exact hk.set i _, ?_, ?_⟩
  · exact hc.grown (row := some gb) ⟨rfl, rfl, rfl, by simp [World.setCell], fun k _ hk => Below.heap_setCell _ _ _ _ (fun e => hk (by simp [e]))⟩ (fun k hk => by cases hk; exact hne)
  · exact ⟨hw.os, hw.tape, hw.output, by simpa [World.setCell] using hw.size, fun k hk hne => by
      rw [Below.heap_setCell _ _ _ _ (fun e => by simp at e; omega)]; exact hw.block k hk hne⟩
theorem st_of_owns {l : List UInt8} (h : w1.ownsRow w.heap.size 5 1 (.slice (some ⟨gb, 0, none⟩) n cap) n (l.map bv)) (hl : l.length = n) (hg : g < w.heap.size) (hc : Cur w1 g) (hw : w.grownBy w1 (some g)) : St w g gb n cap w1 := by
  obtain ⟨r, hb, hr, hge⟩ := bk_of_owns h
  have hm : cap ≤ maxLen := by
    rcases h.2 with ⟨h1, _⟩ | ⟨g', cap', cur, hv, _, _, _, hm, _⟩
    · cases h1
    · simp only [Value.slice.injEq, Option.some.injEq, Addr.mk.injEq, true_and, and_true] at hv
      obtain ⟨_, rfl⟩ := hv
      exact hm
  exact ⟨r, l, hl, ⟨by rw [← hr, List.length_append, List.length_map, hl]; omega, hm⟩, hr, hge, by omega, hb, hc, hw⟩
theorem St.owns (h : St w g gb n cap w1) : ∃ l : List UInt8, l.length = n ∧ w1.ownsRow w.heap.size 5 1 (.slice (some ⟨gb, 0, none⟩) n cap) n (l.map bv) := by
  obtain ⟨r, l, hl, hle, hc, hb, hne, hk, _, hw⟩ := h
  exact ⟨l, hl, owns_of_bk hk hb hl hc hle.2⟩
end

theorem xor8 (a b : Int) : 0 ≤ bits .xor .u8 a b ∧ bits .xor .u8 a b < 256 := by
  have h : bits .xor .u8 a b = IntKind.u8.wrap ((BitVec.ofInt 8 a ^^^ BitVec.ofInt 8 b).toNat : Int) := rfl
  rw [h, IntKind.wrap_u8]
  omega
/-- One byte more. -/
theorem St.more {w w1 : World} {g gb n cap : Nat} {l : List UInt8} (h : w1.ownsRow w.heap.size 5 1 (.slice (some ⟨gb, 0, none⟩) (n + 1) cap) (n + 1) (l.map bv)) (hg : g < w.heap.size) (hc : Cur w1 g) (hw : w.grownBy w1 (some g)) : BntO w g (n + 1) (.returned (.slice (some ⟨gb, 0, none⟩) (n + 1) cap)) w1 :=
  St.gives (st_of_owns h (by have := h.1; simpa using this) hg hc hw) (Nat.le_refl _)

set_option maxHeartbeats 4000000 in
theorem l1BentO_any (g : Nat) (A : Option Addr) (n c : Nat) (l : List UInt8) (w : World) (hc : Cur w g) (hs : Sl w w.heap.size A n l) (hnil : A = none → n = 0 ∧ c = 0) (hn : n ≤ 10000) :
    Calls Tryz.prog 144 #[.pointer (some ⟨g, 0, none⟩), .slice A n c] w (BntO w g (n + 1)) := by
  obtain ⟨i0, hi, hz0, hz1, hz2⟩ := info_parts Copy.info
  have HC := Lib.hid hc
  have HS := Lib.hid hs
  have HN := Lib.hid hnil
  clear hc hs hnil
  go_enter Tryz.func144, Tryz.ntmps144
  go_wp2_with (at_builtin; refine append_src rfl (.tmp 7) (.tmp 8) 22 rfl w.heap.size 5 i0 (.int .u8 0) Tryz.underlying22 hi hz0 hz1 hz2 rfl w.heap.size 0 0 [] rfl (owns_new w) A n c _ l rfl (sl_alloc HS.out _) HN.out ?c1 ?c2 ?c3 ?_)
  case c1 => omega
  case c2 => omega
  case c3 => simp
  intro gb cap w1 hown hgrow
  have HT := Lib.hid (st_of_owns (g := g) (by simpa using hown) HS.out.1 HC.out.lt ((HC.out.alloc _).grown hgrow (fun k hk => by cases hk; exact HC.out.lt)) (grown_more (World.grownBy_alloc w _ (some g)) hgrow (Nat.le_refl _)))
  clear hown hgrow
  go_wp2_with fail
  refine (l1Below_any g 7 w1 HT.out.cur (by omega) (by omega)).mono ?_
  rintro e w2 ⟨x, rfl, hx0, hx1, hc2, hg2⟩
  have H2 := Lib.hid (HT.out.later hc2 hg2)
  clear hc2 hg2 HT
  by_cases x0 : x = 0
  · subst x0
    by_cases hn0 : 0 < n
    · go_wp2_with fail
      refine (l1Below_any g n w2 H2.out.cur (by omega) (by omega)).mono ?_
      rintro e w3 ⟨y, rfl, hy0, hy1, hc3, hg3⟩
      have H3 := Lib.hid (H2.out.later hc3 hg3)
      obtain ⟨j, rfl⟩ := Int.eq_ofNat_of_zero_le hy0
      clear hc3 hg3 H2
      go_wp2_with fail
      refine (l1Below_any g 256 w3 H3.out.cur (by omega) (by omega)).mono ?_
      rintro e w4 ⟨z, rfl, hz0, hz1, hc4, hg4⟩
      have H4 := Lib.hid (H3.out.later hc4 hg4)
      clear hc4 hg4 H3
      obtain ⟨u, _, _, hcell⟩ := H4.out.cell j (by omega)
      have hfr := H4.out.free j
      go_wp2
      go_ret
      exact St.gives (H4.out.set j (by omega) z hz0 hz1) (by omega)
    · go_wp2
      go_ret
      exact St.gives H2.out (by omega)
  by_cases x1 : x = 1
  · subst x1
    go_wp2_with fail
    refine (l1Below_any g (n + 1) w2 H2.out.cur (by omega) (by omega)).mono ?_
    rintro e w3 ⟨y, rfl, hy0, hy1, hc3, hg3⟩
    have H3 := Lib.hid (H2.out.later hc3 hg3)
    obtain ⟨j, rfl⟩ := Int.eq_ofNat_of_zero_le hy0
    clear hc3 hg3 H2
    have hle : n ≤ cap := by obtain ⟨_, _, _, h, _⟩ := H3.out; exact h.1
    go_wp2
    go_ret
    exact St.gives (H3.out.head (by omega)) (by omega)
  by_cases x2 : x = 2
  · subst x2
    have HI := Lib.hid (H2.out.cur.alloc (.cells #[.int .i64 0, .int .i64 1, .int .i64 192, .int .i64 255] 3))
    go_wp2_with fail
    refine (l1Int_any g w2.heap.size 4 [0, 1, 192, 255] _ (H2.out.cur.alloc _) (bk_ints w2 [0, 1, 192, 255] _ rfl) (Nat.ne_of_gt H2.out.cur.lt) rfl (by omega) (by omega)).mono ?_
    rintro e w3 ⟨z, rfl, hz, hc3, hg3⟩
    have hb : 0 ≤ z ∧ z < 256 := by simp at hz; omega
    obtain ⟨b0, b1⟩ := hb
    have H3 := Lib.hid ((H2.out.alloc _).later hc3 hg3)
    clear hc3 hg3 H2 hz HI
    obtain ⟨l2, hl2, ho2⟩ := H3.out.owns
    have O2 := Lib.hid ho2
    have E2 := Lib.hid hl2
    clear ho2 hl2
    go_wp2_with (at_builtin; refine append_src rfl (.tmp 37) (.tmp 42) 22 rfl w.heap.size 5 i0 (.int .u8 0) Tryz.underlying22 hi hz0 hz1 hz2 rfl gb n cap (l2.map bv) rfl (O2.out.alloc _) _ 1 1 _ [UInt8.ofNat z.toNat] rfl (sl_new w3 _ [UInt8.ofNat z.toNat] (one_cell z b0 b1).symm) (fun h => by cases h) ?d1 ?d2 ?d3 ?_)
    case d1 => omega
    case d2 => omega
    case d3 => obtain ⟨_, _, _, _, _, _, _, _, _, hw⟩ := H3.out; have := hw.size; simp; omega
    intro g4 cap4 w4 hown hgrow
    have O4 : Hid (w4.ownsRow w.heap.size 5 1 (.slice (some ⟨g4, 0, none⟩) (n + 1) cap4) (n + 1) ((l2 ++ [UInt8.ofNat z.toNat]).map bv)) := by
      show World.ownsRow _ _ _ _ _ _ _
      simpa using hown
    have HX : Hid (Cur w4 g ∧ w.grownBy w4 (some g)) := by
      obtain ⟨_, _, _, _, _, hb, hne, _, hc, hw⟩ := H3.out
      exact ⟨(hc.alloc _).grown hgrow (fun k hk => by cases hk; exact hne), grown_more (grown_trans hw (World.grownBy_alloc w3 _ (some g))) hgrow hb⟩
    clear hown hgrow O2
    go_wp2
    go_ret
    exact St.more O4.out HC.out.lt HX.out.1 HX.out.2
  by_cases x3 : x = 3
  · subst x3
    by_cases hn0 : 0 < n
    · go_wp2_with fail
      refine (l1Below_any g n w2 H2.out.cur (by omega) (by omega)).mono ?_
      rintro e w3 ⟨y, rfl, hy0, hy1, hc3, hg3⟩
      have H3 := Lib.hid (H2.out.later hc3 hg3)
      obtain ⟨j, rfl⟩ := Int.eq_ofNat_of_zero_le hy0
      clear hc3 hg3 H2
      obtain ⟨u, hu0, hu1, hcell⟩ := H3.out.cell j (by omega)
      have hfr := H3.out.free j
      have hj0 : (0 : Int) ≤ (j : Int) := by omega
      go_wp2_with fail
      have HD := Lib.hid H3.out.drew
      have hcd : w3.drew.cell? ⟨gb, j, none⟩ = some (.int .u8 u) := hcell
      clear hcell hfr
      go_region_law (first | (go_simp; go_at_call 57; refine (l1Below_any g 8 w3.drew HD.out.cur (by omega) (by omega)).mono ?_; rintro e w4 ⟨z, rfl, hz0, hz1, hc4, hg4⟩; have hcell4 : w4.cell? ⟨gb, j, none⟩ = some (.int .u8 u) := (HD.out.far hg4 j).trans hcd; have H4 := Lib.hid (HD.out.later hc4 hg4); have hfr4 := H4.out.free j; clear hc4 hg4))
      all_goals
        go_wp2
        go_ret
        exact St.gives (H4.out.set j (by omega) _ (xor8 _ _).1 (xor8 _ _).2) (by omega)
    · go_wp2
      go_ret
      exact St.gives H2.out (by omega)
  · have d0 : (x == 0) = false := by simp; omega
    have d1 : (x == 1) = false := by simp; omega
    have d2 : (x == 2) = false := by simp; omega
    have d3 : (x == 3) = false := by simp; omega
    go_wp2
    go_ret
    exact St.gives H2.out (by omega)

theorem l1Bent_any (g : Nat) (A : Option Addr) (n c : Nat) (l : List UInt8) (w : World) (hc : Cur w g) (hs : Sl w w.heap.size A n l) (hnil : A = none → n = 0 ∧ c = 0) (hn : n ≤ 10000) :
    Calls Tryz.prog 144 #[.pointer (some ⟨g, 0, none⟩), .slice A n c] w (Bnt w g (n + 1)) :=
  (l1BentO_any g A n c l w hc hs hnil hn).mono fun e w' ⟨gb, m, cap, l, he, hm, ho, hc', hg⟩ => by
    have hl : l.length = m := by have := ho.1; simpa using this
    obtain ⟨r, hb, hr, hge⟩ := bk_of_owns ho
    exact ⟨gb, m, cap, r, l, he, hl, by rw [← hr, List.length_append, List.length_map, hl]; omega, hm, hge, hb, hc', hg⟩
end Go.Proofs.YtkfibepejlgniaaGreatDoor.Bent

/- What the model's draws of stage 8 do: bytes of a message, bent or not, at most 513 of them; nothing that was there is turned but the cursor. -/
namespace Go.Proofs.YtkfibepejlgniaaGreatDoor.DrawX
open Go.RowKit Go.Proofs.YtkfibepejlgniaaGreatDoor.Mem Go.Proofs.YtkfibepejlgniaaGreatDoor.MemS Go.Proofs.YtkfibepejlgniaaGreatDoor.MemR Go.Proofs.YtkfibepejlgniaaGreatDoor.BoxR Go.Proofs.YtkfibepejlgniaaGreatDoor.App Go.Proofs.YtkfibepejlgniaaGreatDoor.Draw Go.Proofs.YtkfibepejlgniaaGreatDoor.DrawS Go.Proofs.YtkfibepejlgniaaGreatDoor.DrawL Go.Proofs.YtkfibepejlgniaaGreatDoor.DrawN Go.Proofs.YtkfibepejlgniaaGreatDoor.AppR Go.Proofs.YtkfibepejlgniaaGreatDoor.DrawR Go.Proofs.YtkfibepejlgniaaGreatDoor.OwnR Go.Proofs.YtkfibepejlgniaaGreatDoor.DrawA Go.Proofs.YtkfibepejlgniaaGreatDoor.MemM Go.Proofs.YtkfibepejlgniaaGreatDoor.DrawM Go.Proofs.YtkfibepejlgniaaGreatDoor.DrawO Go.Proofs.YtkfibepejlgniaaGreatDoor.Bent Go.Proofs.YtkfibepejlgniaaGreatDoor.HeadMath Go.Proofs.YtkfibepejlgniaaGreatDoor.PutM

theorem med_of {l : List Rec} (h : ∀ r ∈ l, Sml r) : Meds l := fun r hr => by
  obtain ⟨a, b, c⟩ := h r hr
  exact ⟨by omega, by omega, by omega⟩
theorem grown_below {w w' : World} (hb : Below w.heap.size w w') (r : Option Nat) : w.grownBy w' r := ⟨hb.os, hb.tape, hb.output, hb.size, fun k hk _ => hb.block k hk⟩
/-- Bytes in new memory, at most 513; nothing that was there is turned. -/
def By8 (w : World) (e : Ending) (w' : World) : Prop :=
  ∃ (gb m cap : Nat) (r : List Value) (l : List UInt8), e = .returned (.slice (some ⟨gb, 0, none⟩) m cap) ∧ l.length = m ∧ m ≤ cap ∧ m ≤ 513 ∧ Bk w' gb 5 (l.map bv ++ r) ∧ Below w.heap.size w w'
def By8i (w : World) (e : Ending) (w' : World) : Prop :=
  ∃ (gb m cap : Nat) (r : List Value) (l : List UInt8) (k : Int), e = .returned (.tuple #[.slice (some ⟨gb, 0, none⟩) m cap, .int .i64 k]) ∧ l.length = m ∧ m ≤ cap ∧ m ≤ 513 ∧ Bk w' gb 5 (l.map bv ++ r) ∧ Below w.heap.size w w'

set_option maxRecDepth 100000 in
set_option maxHeartbeats 4000000 in
theorem l8Packet_any (g : Nat) (w : World) (hc : Cur w g) : Calls Tryz.prog 95 #[.pointer (some ⟨g, 0, none⟩)] w (Bnt w g 513) := by
  have HC := Lib.hid hc
  have GL := Lib.hid hc.lt
  clear hc
  go_enter Tryz.func95, Tryz.ntmps95
  go_wp2_with fail
  refine (l7Draw_any g w HC.out).mono ?_
  rintro e w1 ⟨h, A1, n1, c1, l1, d1, A2, n2, c2, l2, d2, A3, n3, c3, l3, d3, rfl, hq, ⟨t1, b1, r1⟩, ⟨t2, b2, r2⟩, ⟨t3, b3, r3⟩, -, hc1, hg1⟩
  have PS := Lib.hid (PutM.spec h A1 n1 c1 l1 A2 n2 c2 l2 A3 n3 c3 l3 w1 (by omega) t1.sr.1 (by omega) (med_of r1) t2.sr.1 (by omega) (med_of r2) t3.sr.1 (by omega) (med_of r3))
  have KL := pm_len h l1 l2 l3
  have C1 := Lib.hid hc1
  have G1 := Lib.hid hg1
  clear t1 t2 t3 r1 r2 r3 hc1 hg1 HC hq
  go_wp2_with fail
  refine PS.out.mono ?_
  generalize pm h l1 l2 l3 = K at *
  rintro e w2 ⟨gb, m, cap, r, rfl, hm, hle, hg, hb, hl⟩
  have hm5 : m ≤ 512 := by omega
  have C2 := Lib.hid (C1.out.grown (grown_below hl none) (fun k hk => by cases hk))
  have G2 := Lib.hid (grown_row G1.out (grown_below hl none) (fun j hj => by cases hj))
  have B2 := Lib.hid hb
  have MK := Lib.hid hm
  have GG : Hid (w.heap.size ≤ gb) := Nat.le_trans G1.out.size hg
  have NE : Hid (gb ≠ g) := by show _ ≠ _; have := GL.out; have := GG.out; omega
  clear hb hm hg hl C1 G1 PS KL
  go_wp2_with fail
  refine (l1Once_any g 2 w2 C2.out (by omega) (by omega)).mono ?_
  rintro e w3 ⟨b, rfl, hc3, hg3⟩
  have B3 := Lib.hid (B2.out.grown hg3 (fun e => NE.out (Option.some.inj e)))
  have C3 := Lib.hid hc3
  have G3 := Lib.hid (grown_trans G2.out hg3)
  clear hc3 hg3 B2 C2 G2
  cases b
  · go_wp2
    go_ret
    exact ⟨gb, m, cap, r, K, rfl, MK.out, hle, by omega, GG.out, B3.out, C3.out, G3.out⟩
  · go_wp2_with fail
    refine (l1Bent_any g (some ⟨gb, 0, none⟩) m cap K w3 C3.out (sl_of B3.out MK.out) (fun h => by cases h) (by omega)).mono ?_
    rintro e w4 ⟨q, m', cap', r', l', rfl, hm', hle', ht, hq, hb, hc4, hg4⟩
    have M4 := Lib.hid hm'
    have B4 := Lib.hid hb
    have C4 := Lib.hid hc4
    have G4 := Lib.hid (grown_trans G3.out hg4)
    have Q4 : Hid (w.heap.size ≤ q) := Nat.le_trans G3.out.size hq
    clear hm' hb hc4 hg4 hq B3 C3 G3
    go_wp2
    go_ret
    exact ⟨q, m', cap', r', l', rfl, M4.out, hle', by omega, Q4.out, B4.out, C4.out, G4.out⟩

set_option maxHeartbeats 4000000 in
theorem drawGetMsg_any (A : Option Addr) (n c : Nat) (l : List UInt8) (w : World) (hs : Sl w w.heap.size A n l) (hn : n ≤ 1048576) : Calls Tryz.prog 36 #[.slice A n c] w (By8 w) := by
  have HS := Lib.hid hs
  clear hs
  go_enter Tryz.func36, Tryz.ntmps36
  go_wp2_with fail
  refine (l1New_any A n c l w HS.out hn).mono ?_
  rintro e w1 ⟨rfl, hc1, hg1⟩
  have C1 := Lib.hid hc1
  have L1 := Lib.hid (DrawN.below_of_grown hg1)
  clear hc1 hg1
  go_wp2_with fail
  refine (l8Packet_any w.heap.size w1 C1.out).mono ?_
  rintro e w2 ⟨gb, m, cap, r, l', rfl, hm, hle, ht, hg, hb, hc2, hg2⟩
  have M2 := Lib.hid hm
  have B2 := Lib.hid hb
  have L2 := Lib.hid (DrawN.below_more L1.out hg2 (Nat.le_refl _))
  clear hm hb hc2 hg2 hg C1 L1
  go_wp2
  go_ret
  exact ⟨gb, m, cap, r, l', rfl, M2.out, hle, ht, B2.out, L2.out⟩

set_option maxHeartbeats 4000000 in
theorem drawGetQuest_any (A : Option Addr) (n c : Nat) (l : List UInt8) (w : World) (hs : Sl w w.heap.size A n l) (hn : n ≤ 1048576) : Calls Tryz.prog 38 #[.slice A n c] w (By8i w) := by
  have HS := Lib.hid hs
  clear hs
  go_enter Tryz.func38, Tryz.ntmps38
  go_wp2_with fail
  refine (l1New_any A n c l w HS.out hn).mono ?_
  rintro e w1 ⟨rfl, hc1, hg1⟩
  have C1 := Lib.hid hc1
  have L1 := Lib.hid (DrawN.below_of_grown hg1)
  clear hc1 hg1
  go_wp2_with fail
  refine (l8Packet_any w.heap.size w1 C1.out).mono ?_
  rintro e w2 ⟨gb, m, cap, r, l', rfl, hm, hle, ht, hg, hb, hc2, hg2⟩
  have M2 := Lib.hid hm
  have B2 := Lib.hid (hb.alloc (.cells #[.int .i64 12, .int .i64 12, .int .i64 12, .int .i64 12, .int .i64 0, .int .i64 (-1), .int .i64 99] 3))
  have C2 := Lib.hid (hc2.alloc (.cells #[.int .i64 12, .int .i64 12, .int .i64 12, .int .i64 12, .int .i64 0, .int .i64 (-1), .int .i64 99] 3))
  have L2' := DrawN.below_more L1.out hg2 (Nat.le_refl _)
  have L2 := Lib.hid (L2'.alloc L2'.size (.cells #[.int .i64 12, .int .i64 12, .int .i64 12, .int .i64 12, .int .i64 0, .int .i64 (-1), .int .i64 99] 3))
  have I2 : Hid (Bk (w2.alloc (.cells #[.int .i64 12, .int .i64 12, .int .i64 12, .int .i64 12, .int .i64 0, .int .i64 (-1), .int .i64 99] 3)) w2.heap.size 3 (([12, 12, 12, 12, 0, -1, 99] : List Int).map (Value.int .i64))) := heap_alloc_new w2 _
  have N2 : Hid (w2.heap.size ≠ w.heap.size) := by show _ ≠ _; have := hc2.lt; omega
  have NB : Hid (gb ≠ w.heap.size) := by show _ ≠ _; have := C1.out.lt; omega
  clear hm hb hc2 hg2 hg C1 L1 L2'
  go_wp2_with fail
  refine (l1Int_any w.heap.size w2.heap.size 7 [12, 12, 12, 12, 0, -1, 99] _ C2.out I2.out N2.out rfl (by omega) (by omega)).mono ?_
  rintro e w3 ⟨k, rfl, -, hc3, hg3⟩
  have B3 := Lib.hid (B2.out.grown hg3 (fun e => NB.out (Option.some.inj e)))
  have L3 := Lib.hid (DrawN.below_more L2.out hg3 (Nat.le_refl _))
  clear hc3 hg3 B2 C2 L2 I2
  go_wp2
  go_ret2
  exact ⟨gb, m, cap, r, l', k, rfl, M2.out, hle, ht, B3.out, L3.out⟩

theorem set_bytes {W : World} {gb : Nat} {l : List UInt8} {r : List Value} (hb : Bk W gb 5 (l.map bv ++ r)) (j : Nat) (hj : j < l.length) (y : Int) (h0 : 0 ≤ y) (h1 : y < 256) : Bk (W.setCell ⟨gb, j, none⟩ (.int .u8 y)) gb 5 ((l.set j (UInt8.ofNat y.toNat)).map bv ++ r) := by
  have := hb.set j (.int .u8 y)
  rw [List.set_append_left _ _ (by rw [List.length_map]; exact hj), ← bv_of y h0 h1, ← List.map_set] at this
  rw [← bv_of y h0 h1]
  exact this

set_option maxRecDepth 100000 in
set_option maxHeartbeats 8000000 in
theorem drawGetHead_any (A : Option Addr) (n c : Nat) (l : List UInt8) (w : World) (hs : Sl w w.heap.size A n l) (hn : n ≤ 1048576) : Calls Tryz.prog 41 #[.slice A n c] w (By8 w) := by
  have HS := Lib.hid hs
  clear hs
  go_enter Tryz.func41, Tryz.ntmps41
  go_wp2_with fail
  refine (l1New_any A n c l w HS.out hn).mono ?_
  rintro e w1 ⟨rfl, hc1, hg1⟩
  have C1 := Lib.hid hc1
  have L1 := Lib.hid (DrawN.below_of_grown hg1)
  clear hc1 hg1
  go_wp2_with fail
  refine (l8Packet_any w.heap.size w1 C1.out).mono ?_
  rintro e w2 ⟨gb, m, cap, r, l', rfl, hm, hle, ht, hg, hb, hc2, hg2⟩
  have M2 := Lib.hid hm
  have B2 := Lib.hid hb
  have C2 := Lib.hid hc2
  have L2 := Lib.hid (DrawN.below_more L1.out hg2 (Nat.le_refl _))
  have NB : Hid (gb ≠ w.heap.size) := by show _ ≠ _; have := C1.out.lt; omega
  have GB : Hid (w.heap.size ≤ gb) := Nat.le_trans L1.out.size hg
  clear hm hb hc2 hg2 hg C1 L1
  by_cases h5 : 5 < m
  case neg =>
    have h5' : ¬ (5 : Int) < (m : Int) := by omega
    go_wp2
    go_ret
    exact ⟨gb, m, cap, r, l', rfl, M2.out, hle, ht, B2.out, L2.out⟩
  have h5' : (5 : Int) < (m : Int) := by omega
  go_wp2_with fail
  refine (l1Once_any w.heap.size 4 w2 C2.out (by omega) (by omega)).mono ?_
  rintro e w3 ⟨b, rfl, hc3, hg3⟩
  have B3 := Lib.hid (B2.out.grown hg3 (fun e => NB.out (Option.some.inj e)))
  have C3 := Lib.hid hc3
  have L3 := Lib.hid (DrawN.below_more L2.out hg3 (Nat.le_refl _))
  clear hc3 hg3 B2 C2 L2
  cases b
  · go_wp2
    go_ret
    exact ⟨gb, m, cap, r, l', rfl, M2.out, hle, ht, B3.out, L3.out⟩
  go_wp2_with fail
  refine (l1Below_any w.heap.size 4 w3 C3.out (by omega) (by omega)).mono ?_
  rintro e w4 ⟨x, rfl, hx0, hx1, hc4, hg4⟩
  have B4 := Lib.hid (B3.out.grown hg4 (fun e => NB.out (Option.some.inj e)))
  have C4 := Lib.hid hc4
  have L4 := Lib.hid (DrawN.below_more L3.out hg4 (Nat.le_refl _))
  clear hc4 hg4 B3 C3 L3
  go_wp2_with fail
  refine (l1Below_any w.heap.size 256 w4 C4.out (by omega) (by omega)).mono ?_
  rintro e w5 ⟨y, rfl, hy0, hy1, hc5, hg5⟩
  have B5 := Lib.hid (B4.out.grown hg5 (fun e => NB.out (Option.some.inj e)))
  have L5 := Lib.hid (DrawN.below_more L4.out hg5 (Nat.le_refl _))
  clear hc5 hg5 B4 C4 L4
  have wy : IntKind.u8.wrap y = y := by rw [IntKind.wrap_u8]; omega
  have key : ∀ j : Nat, j < 6 → Hid (Bk (w5.setCell ⟨gb, j, none⟩ (.int .u8 y)) gb 5 ((l'.set j (UInt8.ofNat y.toNat)).map bv ++ r)) := fun j hj => set_bytes B5.out j (by have := M2.out; omega) y hy0 hy1
  have kl : ∀ j : Nat, Hid (Below w.heap.size w (w5.setCell ⟨gb, j, none⟩ (.int .u8 y))) := fun j => L5.out.setCell GB.out _
  have kc : ∀ j : Nat, j < 6 → ∃ z : Int, w5.cell? ⟨gb, j, none⟩ = some (.int .u8 z) := fun j hj => by
    have hj' : j < l'.length := by have := M2.out; omega
    refine ⟨(l'[j].toNat : Int), ?_⟩
    rw [B5.out.cell j, List.getElem?_append_left (by rw [List.length_map]; exact hj'), List.getElem?_map, List.getElem?_eq_getElem hj']
    rfl
  have MS : ∀ j : Nat, Hid ((l'.set j (UInt8.ofNat y.toNat)).length = m) := fun j => by show _ = _; rw [List.length_set]; exact M2.out
  have hx : x = 0 ∨ x = 1 ∨ x = 2 ∨ x = 3 := by omega
  rcases hx with rfl | rfl | rfl | rfl
  · obtain ⟨z, hz⟩ := kc 2 (by omega)
    have hf := B5.out.free 2
    have K := key 2 (by omega)
    have KL := kl 2
    have MM := MS 2
    clear key kl kc MS
    go_wp2
    go_ret
    exact ⟨gb, m, cap, r, _, rfl, MM.out, hle, ht, K.out, KL.out⟩
  · obtain ⟨z, hz⟩ := kc 3 (by omega)
    have hf := B5.out.free 3
    have K := key 3 (by omega)
    have KL := kl 3
    have MM := MS 3
    clear key kl kc MS
    go_wp2
    go_ret
    exact ⟨gb, m, cap, r, _, rfl, MM.out, hle, ht, K.out, KL.out⟩
  · obtain ⟨z, hz⟩ := kc 4 (by omega)
    have hf := B5.out.free 4
    have K := key 4 (by omega)
    have KL := kl 4
    have MM := MS 4
    clear key kl kc MS
    go_wp2
    go_ret
    exact ⟨gb, m, cap, r, _, rfl, MM.out, hle, ht, K.out, KL.out⟩
  · obtain ⟨z, hz⟩ := kc 5 (by omega)
    have hf := B5.out.free 5
    have K := key 5 (by omega)
    have KL := kl 5
    have MM := MS 5
    clear key kl kc MS
    go_wp2
    go_ret
    exact ⟨gb, m, cap, r, _, rfl, MM.out, hle, ht, K.out, KL.out⟩
end Go.Proofs.YtkfibepejlgniaaGreatDoor.DrawX

/- What the law's own helpers eqByteS, markByteS and heldByteS do on slices of bytes. Condition: fewer than 400000001 bytes. -/
namespace Go.Proofs.YtkfibepejlgniaaGreatDoor.Eq
open Go.RowKit Go.Proofs.YtkfibepejlgniaaGreatDoor.Mem

theorem cast_ne {a b : UInt8} (h : a ≠ b) : ((a.toNat : Int) != (b.toNat : Int)) = true := by
  rw [bne_iff_ne]; intro e; exact h (UInt8.toNat_inj.1 (by omega))
theorem cast_eq {a b : UInt8} (h : a = b) : ((a.toNat : Int) != (b.toNat : Int)) = false := by subst h; simp

/-- Two lists that agree as far as k, and part at k. -/
theorem ne_at {l m : List UInt8} {k : Nat} (h : k < l.length) (h' : k < m.length) (hne : l[k] ≠ m[k]) : (l == m) = false := by
  rw [beq_eq_false_iff_ne]; rintro rfl; exact hne rfl
theorem eq_all {l m : List UInt8} (hl : l.length = m.length) (h : l.take l.length = m.take l.length) : (l == m) = true := by
  rw [List.take_length, hl, List.take_length] at h; simp [h]
theorem take_step {l m : List UInt8} {k : Nat} (hk : k < l.length) (hk' : k < m.length) (h : l.take k = m.take k) (he : l[k] = m[k]) : l.take (k + 1) = m.take (k + 1) := by
  rw [List.take_succ_eq_append_getElem hk, List.take_succ_eq_append_getElem hk', h, he]

set_option maxHeartbeats 1000000 in
theorem eqByteS_any (A A' : Option Addr) (n c n' c' : Nat) (l m : List UInt8) (w : World) (B : Nat) (hs : Sl w B A n l) (hs' : Sl w B A' n' m) (hn : n ≤ 400000000) (hn' : n' ≤ 400000000) :
    Calls Tryz.prog 45 #[.slice A n c, .slice A' n' c'] w fun e w' => e = .returned (.bool (l == m)) ∧ ∃ k, w' = w.drewN k := by
  have HL := Lib.hid hs.1
  have HM := Lib.hid hs'.1
  by_cases hnn : n = n'
  · subst hnn
    have hd : ((n : Int) != (n : Int)) = false := by simp
    go_enter Tryz.func45, Tryz.ntmps45
    go_wp2
    go_loopw [5] (fun i wr => ∃ k : Nat, k ≤ n ∧ i = .int .i64 k ∧ Hid (l.take k = m.take k) ∧ Hid (∃ q, wr = w.drewN q)) (fun i _ => n - (intOf i).toNat)
    case atStart => exact ⟨0, Nat.zero_le _, rfl, rfl, ⟨0, rfl⟩⟩
    case round =>
      obtain ⟨k, hk, rfl, HT, HW⟩ := hrel
      obtain ⟨q, rfl⟩ := HW.out
      clear HW
      by_cases hlt : k < n
      · obtain ⟨b, off, rfl, hbB, hcs⟩ := hs.2 (by omega)
        obtain ⟨b', off', rfl, hbB', hcs'⟩ := hs'.2 (by omega)
        have hkl : k < l.length := by rw [HL.out]; exact hlt
        have hkm : k < m.length := by rw [HM.out]; exact hlt
        have hx : w.cell? ⟨b, off + k, none⟩ = some (.int .u8 (l[k].toNat : Int)) := hcs k hkl
        have hy : w.cell? ⟨b', off' + k, none⟩ = some (.int .u8 (m[k].toNat : Int)) := hcs' k hkm
        clear hcs hcs' hs hs'
        by_cases he : l[k] = m[k]
        · have hbb := cast_eq he
          have HE := Lib.hid he
          clear he
          go_wp2
          go_quiet (fail)
          go_wp2
          go_roundw
          case rel => exact ⟨k + 1, by omega, by go_num, take_step hkl hkm HT.out HE.out, ⟨_, rfl⟩⟩
          case measure => simp [intOf]; omega
        · have hbb := cast_ne he
          have HE := Lib.hid he
          clear he
          go_wp2
          go_quiet (fail)
          go_wp2
          go_ret
          exact ⟨by rw [ne_at hkl hkm HE.out]; rfl, ⟨q + nq, World.drewN_drewN _ _ _⟩⟩
      · go_wp2
        go_ret
        have hk2 : k = l.length := by rw [HL.out]; omega
        refine ⟨?_, ⟨_, rfl⟩⟩
        rw [eq_all (by rw [HL.out, HM.out]) (by rw [← hk2]; exact HT.out)]
        rfl
  · have hd : ((n : Int) != (n' : Int)) = true := by rw [bne_iff_ne]; omega
    go_enter Tryz.func45, Tryz.ntmps45
    go_wp2
    go_ret
    refine ⟨?_, ⟨0, rfl⟩⟩
    have : (l == m) = false := by
      rw [beq_eq_false_iff_ne]; rintro rfl; exact hnn (HL.out.symm.trans HM.out)
    rw [this]
    rfl

/-- Two slices that read alike are found equal. -/
theorem eqByteS_same (A A' : Option Addr) (n c n' c' : Nat) (l : List UInt8) (w : World) (hs : Sl w w.heap.size A n l) (hs' : Sl w w.heap.size A' n' l) (hn : n ≤ 400000000) (hn' : n' ≤ 400000000) :
    Calls Tryz.prog 45 #[.slice A n c, .slice A' n' c'] w fun e w' => e = .returned (.bool true) ∧ Below w.heap.size w w' := by
  refine (eqByteS_any A A' n c n' c' l l w _ hs hs' hn hn').mono fun e w' ⟨he, k, hw⟩ => ?_
  subst hw
  exact ⟨by rw [he]; simp, drewN_below _ _ _⟩

/-- The numbers that markByteS lays: k, k + 1 and so on, as bytes. -/
def marks : Nat → Nat → List Value
  | _, 0 => []
  | k, n + 1 => Value.int .u8 ((k : Int) % 256) :: marks (k + 1) n
theorem marks_length (k n : Nat) : (marks k n).length = n := by
  induction n generalizing k with
  | zero => rfl
  | succ n ih => simp [marks, ih]
theorem marks_at (k n j : Nat) (h : j < n) : (marks k n)[j]? = some (Value.int .u8 (((k : Int) + (j : Int)) % 256)) := by
  induction n generalizing k j with
  | zero => omega
  | succ n ih =>
    cases j with
    | zero => simp [marks]
    | succ j => simp only [marks, List.getElem?_cons_succ]; rw [ih (k + 1) j (by omega)]; rw [show ((k + 1 : Nat) : Int) + (j : Int) = (k : Int) + ((j + 1 : Nat) : Int) by omega]
theorem marks_snoc (k n : Nat) : marks k (n + 1) = marks k n ++ [Value.int .u8 (((k : Int) + (n : Int)) % 256)] := by
  induction n generalizing k with
  | zero => simp [marks]
  | succ n ih => rw [marks, ih (k + 1), marks, List.cons_append, show ((k + 1 : Nat) : Int) + (n : Int) = (k : Int) + ((n + 1 : Nat) : Int) by omega]

theorem mark_step (cs : List Value) (k j n : Nat) (hj : j < n) (hn : n ≤ cs.length) :
    (marks k j ++ cs.drop j).set j (Value.int .u8 (((k : Int) + (j : Int)) % 256)) = marks k (j + 1) ++ cs.drop (j + 1) := by
  rw [List.set_append_right _ _ (by rw [marks_length]; omega), marks_length, Nat.sub_self, List.drop_eq_getElem_cons (by omega), List.set_cons_zero, marks_snoc, List.append_assoc]
  rfl
theorem mark_at (cs : List Value) (k j : Nat) (hj : j < cs.length) : (marks k j ++ cs.drop j)[j]? = some cs[j] := by
  rw [List.getElem?_append_right (by rw [marks_length]; omega), marks_length, Nat.sub_self, List.drop_eq_getElem_cons hj]
  rfl

theorem grown_set {w wr : World} {g : Nat} (h : w.grownBy wr (some g)) (j : Nat) (u : Value) : w.grownBy (wr.setCell ⟨g, j, none⟩ u) (some g) :=
  ⟨h.os, h.tape, h.output, by simpa [World.setCell] using h.size, fun k hk hne => by
    rw [Below.heap_setCell _ _ _ _ (fun e => hne (by simp [e]))]; exact h.block k hk hne⟩

set_option maxHeartbeats 1000000 in
/-- markByteS on a block of the call's own: n of its cells are written. -/
theorem markByteS_any (g n c k0 : Nat) (cs : List Value) (w : World) (hb : Bk w g 5 cs) (hint : ∀ j, j < n → ∃ x : Int, cs[j]? = some (.int .u8 x)) (hl : n ≤ cs.length) (hn : n ≤ 400000000) (hk0 : k0 ≤ 400000000) :
    Calls Tryz.prog 48 #[.slice (some ⟨g, 0, none⟩) n c, .int .i64 (k0 : Int)] w fun e w' => e = .returned (.int .i64 ((k0 + n : Nat) : Int)) ∧ Bk w' g 5 (marks k0 n ++ cs.drop n) ∧ w.grownBy w' (some g) := by
  have HB := Lib.hid hb
  clear hb
  go_enter Tryz.func48, Tryz.ntmps48
  go_wp2
  go_loopw [1, 5] (fun kk i wr => ∃ j : Nat, j ≤ n ∧ i = .int .i64 j ∧ kk = .int .i64 ((k0 + j : Nat) : Int) ∧ Hid (Bk wr g 5 (marks k0 j ++ cs.drop j)) ∧ Hid (w.grownBy wr (some g))) (fun _ i _ => n - (intOf i).toNat)
  case atStart => exact ⟨0, Nat.zero_le _, rfl, rfl, HB.out, World.grownBy.refl _ _⟩
  case round =>
    obtain ⟨j, hj, rfl, rfl, HJ, HG⟩ := hrel
    by_cases hlt : j < n
    · obtain ⟨x, hxx⟩ := hint j hlt
      have hx : wr.cell? ⟨g, j, none⟩ = some (.int .u8 x) := by
        rw [HJ.out.cell, mark_at cs k0 j (by omega), ← hxx, List.getElem?_eq_getElem (by omega)]
      have hf : wr.frozen? ⟨g, j, none⟩ = false := HJ.out.free j
      clear hxx
      go_wp2
      go_roundw
      case rel =>
        refine ⟨j + 1, by omega, by go_num, by go_num, ?_, grown_set HG.out _ _⟩
        have := HJ.out.set j (.int .u8 (((k0 : Int) + (j : Int)) % 256))
        rw [mark_step cs k0 j n hlt hl] at this
        exact this
      case measure => simp [intOf]; omega
    · have hjn : j = n := by omega
      subst hjn
      go_wp2
      go_ret
      exact ⟨by go_num, HJ.out, HG.out⟩

theorem byte_ne_self (x : Int) : (x != x) = false := by simp

set_option maxHeartbeats 1000000 in
/-- heldByteS on a block that holds the marks. -/
theorem heldByteS_any (g n c k0 : Nat) (r : List Value) (w : World) (hb : Bk w g 5 (marks k0 n ++ r)) (hn : n ≤ 400000000) (hk0 : k0 ≤ 400000000) :
    Calls Tryz.prog 49 #[.slice (some ⟨g, 0, none⟩) n c, .int .i64 (k0 : Int)] w fun e w' => e = .returned (.int .i64 ((k0 + n : Nat) : Int)) ∧ w = w' := by
  have HB := Lib.hid hb
  clear hb
  go_enter Tryz.func49, Tryz.ntmps49
  go_wp2
  go_loop [1, 5] (fun kk i => ∃ j : Nat, j ≤ n ∧ i = .int .i64 j ∧ kk = .int .i64 ((k0 + j : Nat) : Int)) (fun _ i => n - (intOf i).toNat)
  case atStart => exact ⟨0, Nat.zero_le _, rfl, rfl⟩
  case round =>
    obtain ⟨j, hj, rfl, rfl⟩ := hrel
    by_cases hlt : j < n
    · have hx : w.cell? ⟨g, j, none⟩ = some (Value.int .u8 (((k0 : Int) + (j : Int)) % 256)) := by
        rw [HB.out.cell, List.getElem?_append_left (by rw [marks_length]; exact hlt), marks_at k0 n j hlt]
      have hne := byte_ne_self (((k0 : Int) + (j : Int)) % 256)
      go_wp2
      go_round
      case rel => exact ⟨j + 1, by omega, by go_num, by go_num⟩
      case measure => simp [intOf]; omega
    · have hjn : j = n := by omega
      subst hjn
      go_wp2
      go_ret
      exact ⟨by go_num, rfl⟩

/-- The law marks from 1 on. -/
theorem markByteS_one (g n c : Nat) (l : List UInt8) (r : List Value) (w : World) (hb : Bk w g 5 (l.map bv ++ r)) (hl : l.length = n) (hn : n ≤ 400000000) :
    Calls Tryz.prog 48 #[.slice (some ⟨g, 0, none⟩) n c, .int .i64 1] w fun e w' => e = .returned (.int .i64 (1 + (n : Int))) ∧ Bk w' g 5 (marks 1 n ++ r) ∧ w.grownBy w' (some g) := by
  refine (markByteS_any g n c 1 (l.map bv ++ r) w hb (fun j hj => ⟨((l[j]'(by omega)).toNat : Int), ?_⟩) (by simp; omega) hn (by omega)).mono fun e w' ⟨he, h1, h2⟩ => ⟨?_, ?_, h2⟩
  · rw [List.getElem?_append_left (by simp; omega), List.getElem?_map, List.getElem?_eq_getElem (by omega)]
    rfl
  · rw [he]; simp
  · rw [List.drop_append_of_le_length (by simp; omega), List.drop_eq_nil_of_le (by simp; omega), List.nil_append] at h1
    exact h1
theorem heldByteS_one (g n c : Nat) (r : List Value) (w : World) (hb : Bk w g 5 (marks 1 n ++ r)) (hn : n ≤ 400000000) :
    Calls Tryz.prog 49 #[.slice (some ⟨g, 0, none⟩) n c, .int .i64 1] w fun e w' => e = .returned (.int .i64 (1 + (n : Int))) ∧ w = w' :=
  (heldByteS_any g n c 1 r w hb hn (by omega)).mono fun e w' ⟨he, h1⟩ => ⟨by rw [he]; simp, h1⟩

end Go.Proofs.YtkfibepejlgniaaGreatDoor.Eq

/- What the laws' own comparison of two slices of bytes does. Condition: fewer than 400000001 bytes. -/
namespace Go.Proofs.YtkfibepejlgniaaGreatDoor.Same
open Go.RowKit Go.Proofs.YtkfibepejlgniaaGreatDoor.Mem Go.Proofs.YtkfibepejlgniaaGreatDoor.Eq

set_option maxHeartbeats 1000000 in
theorem same_any (A A' : Option Addr) (n c n' c' : Nat) (l m : List UInt8) (w : World) (B : Nat) (hs : Sl w B A n l) (hs' : Sl w B A' n' m) (hn : n ≤ 400000000) (hn' : n' ≤ 400000000) :
    Calls Tryz.prog 28 #[.slice A n c, .slice A' n' c'] w fun e w' => e = .returned (.bool (l == m)) ∧ ∃ k, w' = w.drewN k := by
  have HL := Lib.hid hs.1
  have HM := Lib.hid hs'.1
  by_cases hnn : n = n'
  · subst hnn
    have hd : ((n : Int) != (n : Int)) = false := by simp
    go_enter Tryz.func28, Tryz.ntmps28
    go_wp2
    go_loopw [5] (fun i wr => ∃ k : Nat, k ≤ n ∧ i = .int .i64 k ∧ Hid (l.take k = m.take k) ∧ Hid (∃ q, wr = w.drewN q)) (fun i _ => n - (intOf i).toNat)
    case atStart => exact ⟨0, Nat.zero_le _, rfl, rfl, ⟨0, rfl⟩⟩
    case round =>
      obtain ⟨k, hk, rfl, HT, HW⟩ := hrel
      obtain ⟨q, rfl⟩ := HW.out
      clear HW
      by_cases hlt : k < n
      · obtain ⟨b, off, rfl, hbB, hcs⟩ := hs.2 (by omega)
        obtain ⟨b', off', rfl, hbB', hcs'⟩ := hs'.2 (by omega)
        have hkl : k < l.length := by rw [HL.out]; exact hlt
        have hkm : k < m.length := by rw [HM.out]; exact hlt
        have hx : w.cell? ⟨b, off + k, none⟩ = some (.int .u8 (l[k].toNat : Int)) := hcs k hkl
        have hy : w.cell? ⟨b', off' + k, none⟩ = some (.int .u8 (m[k].toNat : Int)) := hcs' k hkm
        clear hcs hcs' hs hs'
        by_cases he : l[k] = m[k]
        · have hbb := cast_eq he
          have HE := Lib.hid he
          clear he
          go_wp2
          go_quiet (fail)
          go_wp2
          go_roundw
          case rel => exact ⟨k + 1, by omega, by go_num, take_step hkl hkm HT.out HE.out, ⟨_, rfl⟩⟩
          case measure => simp [intOf]; omega
        · have hbb := cast_ne he
          have HE := Lib.hid he
          clear he
          go_wp2
          go_quiet (fail)
          go_wp2
          go_ret
          exact ⟨by rw [ne_at hkl hkm HE.out]; rfl, ⟨q + nq, World.drewN_drewN _ _ _⟩⟩
      · go_wp2
        go_ret
        have hk2 : k = l.length := by rw [HL.out]; omega
        refine ⟨?_, ⟨_, rfl⟩⟩
        rw [eq_all (by rw [HL.out, HM.out]) (by rw [← hk2]; exact HT.out)]
        rfl
  · have hd : ((n : Int) != (n' : Int)) = true := by rw [bne_iff_ne]; omega
    go_enter Tryz.func28, Tryz.ntmps28
    go_wp2
    go_ret
    refine ⟨?_, ⟨0, rfl⟩⟩
    have : (l == m) = false := by
      rw [beq_eq_false_iff_ne]; rintro rfl; exact hnn (HL.out.symm.trans HM.out)
    rw [this]
    rfl

/-- Two slices that read alike are found equal. -/
theorem same_same (A A' : Option Addr) (n c n' c' : Nat) (l : List UInt8) (w : World) (hs : Sl w w.heap.size A n l) (hs' : Sl w w.heap.size A' n' l) (hn : n ≤ 400000000) (hn' : n' ≤ 400000000) :
    Calls Tryz.prog 28 #[.slice A n c, .slice A' n' c'] w fun e w' => e = .returned (.bool true) ∧ Below w.heap.size w w' := by
  refine (same_any A A' n c n' c' l l w _ hs hs' hn hn').mono fun e w' ⟨he, k, hw⟩ => ?_
  subst hw
  exact ⟨by rw [he]; simp, drewN_below _ _ _⟩

theorem big_no (A : Option Addr) (n c : Nat) (w : World) (h : n ≤ 1048576) : Calls Tryz.prog 10 #[.slice A n c] w fun e w' => e = .returned (.bool false) ∧ w = w' := by
  have hd : decide ((1048576 : Int) < (n : Int)) = false := by simp; omega
  go_enter Tryz.func10, Tryz.ntmps10
  go_wp2
  go_ret
  exact ⟨rfl, rfl⟩
theorem big_yes (A : Option Addr) (n c : Nat) (w : World) (h : ¬ n ≤ 1048576) : Calls Tryz.prog 10 #[.slice A n c] w fun e w' => e = .returned (.bool true) ∧ w = w' := by
  have hd : decide ((1048576 : Int) < (n : Int)) = true := by simp; omega
  go_enter Tryz.func10, Tryz.ntmps10
  go_wp2
  go_ret
  exact ⟨rfl, rfl⟩
end Go.Proofs.YtkfibepejlgniaaGreatDoor.Same

/- What the world's shape gives the walks of this seat, and one world in which the listed tables of unicode/utf8 read as their text lays them. -/
namespace Go.Proofs.YtkfibepejlgniaaGreatDoor.LaidU
open Go.RowKit Go.Proofs.YtkfibepejlgniaaGreatDoor.Labels

theorem env {W : World} (h : W.ShapedOpen Tryz.prog) : Env W := Tryz.laysM146.s1_3 W h

def acc : List Int := [128, 191, 160, 191, 128, 159, 144, 191, 128, 143, 0, 0, 0, 0, 0, 0, 0, 0, 0, 0, 0, 0, 0, 0, 0, 0, 0, 0, 0, 0, 0, 0]
theorem gFirst : Tryz.prog.globalNamed "unicode/utf8.first" = some 4 := by kernel_rfl
theorem gAcc : Tryz.prog.globalNamed "unicode/utf8.acceptRanges" = some 5 := by kernel_rfl
/-- A block of cells, with other cells in it. -/
def put (cs : Array Value) : Obj → Obj
  | .cells _ t frozen => .cells cs t frozen
  | o => o
/-- The settled world, the two tables holding what their text lays. -/
noncomputable def laidWorld (os : Os) : World :=
  { World.holding Tryz.prog os ⟨#[], #[], []⟩ with heap := ((World.holding Tryz.prog os ⟨#[], #[], []⟩).heap.modify 4 (put (Go.Pinned.utf8FirstZ.map (fun n : Nat => Value.int .u8 (n : Int))).toArray)).modify 5 (put (acc.map (Value.int .u8)).toArray) }
def two : List (String × DataW Unit) := [("unicode/utf8.acceptRanges", Rows.laid_unicode_utf8_acceptRanges), ("unicode/utf8.first", Rows.laid_unicode_utf8_first)]
theorem laid_met (os : Os) (args : Array Value) : laidMet Tryz.prog two ((laidWorld os).forCall (fun _ _ => 0) ⟨#[], args, []⟩).memory :=
  laidMet_of_run' 8 (by kernel_rfl) (by kernel_rfl)
end Go.Proofs.YtkfibepejlgniaaGreatDoor.LaidU

/- The law FnPacketsBent returns true at every slice of bytes, where the library's variable internal/bytealg.MaxLen holds an int, and turns nothing that was there: what is read as a message is right, and is read again from its own bytes. -/
namespace Go.Proofs.YtkfibepejlgniaaGreatDoor.LawPacketsBent
open Go.RowKit Go.Proofs.YtkfibepejlgniaaGreatDoor.Mem Go.Proofs.YtkfibepejlgniaaGreatDoor.MemR Go.Proofs.YtkfibepejlgniaaGreatDoor.BoxR Go.Proofs.YtkfibepejlgniaaGreatDoor.Labels Go.Proofs.YtkfibepejlgniaaGreatDoor.MemM Go.Proofs.YtkfibepejlgniaaGreatDoor.ResM Go.Proofs.YtkfibepejlgniaaGreatDoor.App Go.Proofs.YtkfibepejlgniaaGreatDoor.TextR Go.Proofs.YtkfibepejlgniaaGreatDoor.RecOk Go.Proofs.YtkfibepejlgniaaGreatDoor.FieldBack Go.Proofs.YtkfibepejlgniaaGreatDoor.DataS Go.Proofs.YtkfibepejlgniaaGreatDoor.HeadDef Go.Proofs.YtkfibepejlgniaaGreatDoor.HeadRd Go.Proofs.YtkfibepejlgniaaGreatDoor.HeadMath Go.Proofs.YtkfibepejlgniaaGreatDoor.PutM Go.Proofs.YtkfibepejlgniaaGreatDoor.MsgMath Go.Proofs.YtkfibepejlgniaaGreatDoor.MsgBack Go.Proofs.YtkfibepejlgniaaGreatDoor.GetQ Go.Proofs.YtkfibepejlgniaaGreatDoor.GetH Go.Proofs.YtkfibepejlgniaaGreatDoor.GetHI Go.Proofs.YtkfibepejlgniaaGreatDoor.GetMS Go.Proofs.YtkfibepejlgniaaGreatDoor.GetM Go.Proofs.YtkfibepejlgniaaGreatDoor.Same Go.Proofs.YtkfibepejlgniaaGreatDoor.SamM Go.Proofs.YtkfibepejlgniaaGreatDoor.DrawX Go.Proofs.YtkfibepejlgniaaGreatDoor.OkM

theorem smm_self (h : Hd) (l1 l2 l3 : List Rec) : smm h h l1 l2 l3 l1 l2 l3 = true := by
  have key : ∀ l : List Rec, SameR.sm l l = true := fun l => SameR.sm_true rfl
  rw [smm_r, key, key, key]; rfl
/-- What is known of a message that fits: it is read from its bytes. -/
theorem fits {h : Hd} {l1 l2 l3 : List Rec} (e : 0 < (pm h l1 l2 l3).length) : gmb (pm h l1 l2 l3) = true ∧ gmh (pm h l1 l2 l3) = h ∧ (s1 (pm h l1 l2 l3)).2.2 = l1 ∧ (s2 (pm h l1 l2 l3)).2.2 = l2 ∧ (s3 (pm h l1 l2 l3)).2.2 = l3 ∧ ghh (pm h l1 l2 l3) = wq h ⟨#[]⟩ 0 ∧ ghn (pm h l1 l2 l3) 6 = (l1.length : Int) ∧ ghn (pm h l1 l2 l3) 8 = (l2.length : Int) ∧ ghn (pm h l1 l2 l3) 10 = (l3.length : Int) ∧ ghb (pm h l1 l2 l3) = true ∧ gmb (pm h l1 l2 l3 ++ [0]) = false ∧ gmb ((pm h l1 l2 l3).take ((pm h l1 l2 l3).length - 1)) = false := by
  cases hm : mok h l1 l2 l3
  · rw [pm_bad hm] at e; cases e
  · by_cases hl : 512 < (pmr h l1 l2 l3).length
    · rw [pm_long hm hl] at e; cases e
    · rw [pm_good hm hl] at e ⊢
      obtain ⟨rd, a1, a2, a3, a4, a5, a6, a7, a8⟩ := back hm
      exact ⟨decide_eq_true ⟨by omega, rd⟩, a1, a2, a3, a4, a5, a6, a7, a8, rd.1, no_more 0 rd, no_less rd e⟩
theorem emp_zero {s : ByteArray} (h : emp s = true) : s.size = 0 := by rw [emp_eq h]; rfl
theorem rok_med {r : Rec} (h : rok r = true) : Med r := by
  rw [rok, Bool.and_eq_true, Bool.and_eq_true] at h
  have hn := (Plain.nm_parts h.1).1
  have hd := h.2.2
  have key : r.host.size ≤ 50 ∧ r.text.size ≤ 12 := by
    unfold dko at hd
    split at hd
    · simp only [Bool.and_eq_true] at hd
      have a := emp_zero hd.2.1
      have b := emp_zero hd.2.2
      omega
    · split at hd
      · simp only [Bool.and_eq_true] at hd
        have a := (Plain.nm_parts hd.1).1
        have b := emp_zero hd.2.2
        omega
      · split at hd
        · simp only [Bool.and_eq_true] at hd
          have a := (Plain.nm_parts hd.1).1
          have b := emp_zero hd.2.2
          omega
        · split at hd
          · simp only [Bool.and_eq_true, txo] at hd
            have a := of_decide_eq_true hd.1.2
            have b := emp_zero hd.2.2
            omega
          · cases hd
  exact ⟨by omega, by omega, by omega⟩
theorem neqQ_same (s : ByteArray) (n : Int) (w : World) : Sem.run Tryz.prog (binOp .neq 25 (.agg #[.string s, .int .i64 n]) (.agg #[.string s, .int .i64 n])) w = .ok (.bool false) w := by
  have u3 := Tryz.underlying3
  have a3 := Tryz.isAgg3
  have z3 := Tryz.sizeOf3
  have u9 := Tryz.underlying9
  have a9 := Tryz.isAgg9
  have z9 := Tryz.sizeOf9
  have hS : Tryz.prog.underlying 25 = some (.struct (Tryz.prog.fieldsOf 25)) := by kernel_rfl
  have hp : Tryz.prog.stoodInHeld 25 = false := by kernel_rfl
  rw [run_neq_struct, show (10000 : Nat) = 9999 + 1 from rfl, run_equalIn_agg w 9999 25 _ _ hS hp]
  simp only [Program.fieldsOf, Tryz.underlying25]
  go_simp
/-- A message that was read: what is known of it. -/
theorem good_msg {l : List UInt8} (h : gmb l = true) : mok (gmh l) (s1 l).2.2 (s2 l).2.2 (s3 l).2.2 = true ∧ Meds (s1 l).2.2 ∧ Meds (s2 l).2.2 ∧ Meds (s3 l).2.2 ∧ (gmh l).qn.size ≤ 50 := by
  have rd := (of_decide_eq_true h).2
  have mk := mok_of rd
  have pp := mok_parts mk
  have key : ∀ L : List Rec, rls L = true → Meds L := fun L hL r hr => rok_med ((rls_parts hL).1 r hr)
  exact ⟨mk, key _ pp.2.2.2.1, key _ pp.2.2.2.2.1, key _ pp.2.2.2.2.2, (Plain.nm_parts (qok_parts pp.2.2.1).1).1⟩

set_option maxRecDepth 100000 in
set_option maxHeartbeats 64000000 in
theorem walk (A : Option Addr) (n c : Nat) (l : List UInt8) (w : World) (he : Env w) (hs : Sl w w.heap.size A n l) (_hc : n ≤ c) (_hnil : A = none → n = 0 ∧ c = 0) :
    Calls Tryz.prog 5 #[.slice A n c] w fun e w' => e = .returned (.bool true) ∧ Below w.heap.size w w' := by
  by_cases hbig : n ≤ 1048576
  case neg =>
    go_enter Tryz.func5, Tryz.ntmps5
    go_wp2_with fail
    refine (big_yes A n c w hbig).mono ?_
    rintro e w1 ⟨rfl, rfl⟩
    go_wp2
    go_ret
    exact ⟨rfl, Below.refl _ _⟩
  have HE := Lib.hid he
  have HS := Lib.hid hs
  clear hs he
  go_enter Tryz.func5, Tryz.ntmps5
  go_wp2_with fail
  refine (big_no A n c w hbig).mono ?_
  rintro e w0 ⟨rfl, rfl⟩
  go_wp2_with fail
  refine (drawGetMsg_any A n c l w HS.out hbig).mono ?_
  rintro e w1 ⟨gb, mb, db, rb, lb, rfl, hm, hd, ht, hb, hl⟩
  cases hg : gmb lb
  case false =>
    have B_1 := Lib.hid hb
    have L1 := Lib.hid hl
    have MB := Lib.hid hm
    have IG := Lib.hid (fun (W : World) (he : Env W) (hs : Sl W W.heap.size (some ⟨gb, 0, none⟩) mb lb) => GetM.impl_bad (some ⟨gb, 0, none⟩) mb db lb W he hs hd (by omega) hg)
    have SG := Lib.hid (fun (W : World) (hs : Sl W W.heap.size (some ⟨gb, 0, none⟩) mb lb) => GetM.spec_bad (some ⟨gb, 0, none⟩) mb db lb W hs hd (by omega) hg)
    have SZ := Lib.hid (fun (x : Hd) => smm_self x [] [] [])
    clear hb hl hm hg
    go_wp2_with fail
    refine (IG.out _ (HE.out.below L1.out) (sl_of B_1.out MB.out)).mono ?_
    rintro e w2 ⟨rfl, hl⟩
    have L2 := Lib.hid (L1.out.trans (hl.mono L1.out.size))
    have B_2 := Lib.hid (B_1.out.below hl B_1.out.lt)
    clear hl L1 B_1
    have al : Below w2.heap.size w2 (w2.alloc (.cells #[.int .i64 zh.id, .bool zh.rp, .bool zh.au, .bool zh.ct, .bool zh.wa, .bool zh.ca, .int .i64 zh.code, .string zh.qn, .int .i64 zh.qt, .slice none 0 0, .slice none 0 0, .slice none 0 0] 28)) := (Below.refl _ _).alloc (Nat.le_refl _) _
    have M3 := Lib.hid (mx_new w2 28 zh (.slice none 0 0) (.slice none 0 0) (.slice none 0 0))
    have L3 := Lib.hid (L2.out.trans (al.mono L2.out.size))
    have B_3 := Lib.hid (B_2.out.below al B_2.out.lt)
    clear al L2 B_2
    go_wp2_with fail
    refine (SG.out _ (sl_of B_3.out MB.out)).mono ?_
    rintro e w4 ⟨rfl, hl⟩
    have L4 := Lib.hid (L3.out.trans (hl.mono L3.out.size))
    have B_4 := Lib.hid (B_3.out.below hl B_3.out.lt)
    have M4 := Lib.hid (M3.out.below hl)
    clear hl L3 B_3 M3
    generalize w2.heap.size = gm at *
    clear B_4 IG SG
    have al : Below w4.heap.size w4 (w4.alloc (.cells #[.int .i64 zh.id, .bool zh.rp, .bool zh.au, .bool zh.ct, .bool zh.wa, .bool zh.ca, .int .i64 zh.code, .string zh.qn, .int .i64 zh.qt, .slice none 0 0, .slice none 0 0, .slice none 0 0] 28)) := (Below.refl _ _).alloc (Nat.le_refl _) _
    have N5 := Lib.hid (mx_new w4 28 zh (.slice none 0 0) (.slice none 0 0) (.slice none 0 0))
    have L5 := Lib.hid (L4.out.trans (al.mono L4.out.size))
    have M5 := Lib.hid (M4.out.below al)
    clear al L4 M4
    go_wp2_with fail
    refine (drawGetQuest_any A n c l _ ((HS.out.below L5.out).wider L5.out.size) hbig).mono ?_
    rintro e w6 ⟨gc, mc_, dc, rc_, lc, kq, rfl, hm, hdc, htc, hb, hl⟩
    have MC := Lib.hid hm
    have C_6 := Lib.hid hb
    generalize w4.heap.size = gn at *
    have L6 := Lib.hid (L5.out.trans (hl.mono L5.out.size))
    have M6 := Lib.hid (M5.out.below hl)
    have N6 := Lib.hid (N5.out.below hl)
    clear hl L5 M5 N5
    clear hm hb 
    have IQ := Lib.hid (fun (W : World) (he : Env W) (hs : Sl W W.heap.size (some ⟨gc, 0, none⟩) mc_ lc) => GetQ.impl (some ⟨gc, 0, none⟩) mc_ dc lc kq W he hs hdc (by omega))
    have SQ := Lib.hid (fun (W : World) (hs : Sl W W.heap.size (some ⟨gc, 0, none⟩) mc_ lc) => GetQ.spec (some ⟨gc, 0, none⟩) mc_ dc lc kq W hs hdc (by omega))
    generalize gq lc kq = QQ at *
    obtain ⟨cq, xq, sq, tq⟩ := QQ
    unfold valQ at IQ SQ
    dsimp only at IQ SQ
    go_wp2_with fail
    refine (IQ.out _ (HE.out.below L6.out) (sl_of C_6.out MC.out)).mono ?_
    rintro e w7 ⟨rfl, hl⟩
    have L7 := Lib.hid (L6.out.trans (hl.mono L6.out.size))
    have M7 := Lib.hid (M6.out.below hl)
    have N7 := Lib.hid (N6.out.below hl)
    have C_7 := Lib.hid (C_6.out.below hl C_6.out.lt)
    clear hl L6 M6 N6 C_6
    have al : Below w7.heap.size w7 (w7.alloc (.cells #[.string sq, .int .i64 tq] 25)) := (Below.refl _ _).alloc (Nat.le_refl _) _
    have Q8 := Lib.hid (qx_new w7 25 sq tq)
    have L8 := Lib.hid (L7.out.trans (al.mono L7.out.size))
    have M8 := Lib.hid (M7.out.below al)
    have N8 := Lib.hid (N7.out.below al)
    have C_8 := Lib.hid (C_7.out.below al C_7.out.lt)
    clear al L7 M7 N7 C_7
    go_wp2_with fail
    refine (SQ.out _ (sl_of C_8.out MC.out)).mono ?_
    rintro e w9 ⟨rfl, hl⟩
    generalize w7.heap.size = gq1 at *
    have L9 := Lib.hid (L8.out.trans (hl.mono L8.out.size))
    have M9 := Lib.hid (M8.out.below hl)
    have N9 := Lib.hid (N8.out.below hl)
    have C_9 := Lib.hid (C_8.out.below hl C_8.out.lt)
    have Q9 := Lib.hid (Q8.out.below hl)
    clear hl L8 M8 N8 C_8 Q8
    clear C_9 IQ SQ
    have al : Below w9.heap.size w9 (w9.alloc (.cells #[.string sq, .int .i64 tq] 25)) := (Below.refl _ _).alloc (Nat.le_refl _) _
    have P10 := Lib.hid (qx_new w9 25 sq tq)
    have L10 := Lib.hid (L9.out.trans (al.mono L9.out.size))
    have M10 := Lib.hid (M9.out.below al)
    have N10 := Lib.hid (N9.out.below al)
    have Q10 := Lib.hid (Q9.out.below al)
    clear al L9 M9 N9 Q9
    go_wp2_with fail
    refine (drawGetHead_any A n c l _ ((HS.out.below L10.out).wider L10.out.size) hbig).mono ?_
    rintro e w11 ⟨gh, mh, dh, rh, lh, rfl, hm, hdh, hth, hb, hl⟩
    have MH := Lib.hid hm
    have H_11 := Lib.hid hb
    generalize w9.heap.size = gq2 at *
    have L11 := Lib.hid (L10.out.trans (hl.mono L10.out.size))
    have M11 := Lib.hid (M10.out.below hl)
    have N11 := Lib.hid (N10.out.below hl)
    have Q11 := Lib.hid (Q10.out.below hl)
    have P11 := Lib.hid (P10.out.below hl)
    clear hl L10 M10 N10 Q10 P10
    clear hm hb 
    have IH := Lib.hid (fun (W : World) (hs : Sl W W.heap.size (some ⟨gh, 0, none⟩) mh lh) => GetHI.impl (some ⟨gh, 0, none⟩) mh dh lh W hs hdh (by omega))
    have SH := Lib.hid (fun (W : World) (hs : Sl W W.heap.size (some ⟨gh, 0, none⟩) mh lh) => GetHS.spec (some ⟨gh, 0, none⟩) mh dh lh W hs hdh (by omega))
    unfold valH at IH SH
    generalize ghh lh = J at *
    generalize ghn lh 6 = y1 at *
    generalize ghn lh 8 = y2 at *
    generalize ghn lh 10 = y3 at *
    generalize ghb lh = yb at *
    have SJ := Lib.hid (SZ.out J)
    go_wp2_with fail
    refine (IH.out _ (sl_of H_11.out MH.out)).mono ?_
    rintro e w12 ⟨rfl, hl⟩
    have L12 := Lib.hid (L11.out.trans (hl.mono L11.out.size))
    have M12 := Lib.hid (M11.out.below hl)
    have N12 := Lib.hid (N11.out.below hl)
    have Q12 := Lib.hid (Q11.out.below hl)
    have P12 := Lib.hid (P11.out.below hl)
    have H_12 := Lib.hid (H_11.out.below hl H_11.out.lt)
    clear hl L11 M11 N11 Q11 P11 H_11
    have al : Below w12.heap.size w12 (w12.alloc (.cells #[.int .i64 J.id, .bool J.rp, .bool J.au, .bool J.ct, .bool J.wa, .bool J.ca, .int .i64 J.code, .string J.qn, .int .i64 J.qt, .slice none 0 0, .slice none 0 0, .slice none 0 0] 28)) := (Below.refl _ _).alloc (Nat.le_refl _) _
    have X13 := Lib.hid (mx_new w12 28 J (.slice none 0 0) (.slice none 0 0) (.slice none 0 0))
    have L13 := Lib.hid (L12.out.trans (al.mono L12.out.size))
    have M13 := Lib.hid (M12.out.below al)
    have N13 := Lib.hid (N12.out.below al)
    have Q13 := Lib.hid (Q12.out.below al)
    have P13 := Lib.hid (P12.out.below al)
    have H_13 := Lib.hid (H_12.out.below al H_12.out.lt)
    clear al L12 M12 N12 Q12 P12 H_12
    go_wp2_with fail
    refine (SH.out _ (sl_of H_13.out MH.out)).mono ?_
    rintro e w14 ⟨rfl, hl⟩
    generalize w12.heap.size = gx1 at *
    have L14 := Lib.hid (L13.out.trans (hl.mono L13.out.size))
    have M14 := Lib.hid (M13.out.below hl)
    have N14 := Lib.hid (N13.out.below hl)
    have Q14 := Lib.hid (Q13.out.below hl)
    have P14 := Lib.hid (P13.out.below hl)
    have H_14 := Lib.hid (H_13.out.below hl H_13.out.lt)
    have X14 := Lib.hid (X13.out.below hl)
    clear hl L13 M13 N13 Q13 P13 H_13 X13
    clear H_14 IH SH
    have al : Below w14.heap.size w14 (w14.alloc (.cells #[.int .i64 J.id, .bool J.rp, .bool J.au, .bool J.ct, .bool J.wa, .bool J.ca, .int .i64 J.code, .string J.qn, .int .i64 J.qt, .slice none 0 0, .slice none 0 0, .slice none 0 0] 28)) := (Below.refl _ _).alloc (Nat.le_refl _) _
    have Y15 := Lib.hid (mx_new w14 28 J (.slice none 0 0) (.slice none 0 0) (.slice none 0 0))
    have L15 := Lib.hid (L14.out.trans (al.mono L14.out.size))
    have M15 := Lib.hid (M14.out.below al)
    have N15 := Lib.hid (N14.out.below al)
    have Q15 := Lib.hid (Q14.out.below al)
    have P15 := Lib.hid (P14.out.below al)
    have X15 := Lib.hid (X14.out.below al)
    clear al L14 M14 N14 Q14 P14 X14
    have z1 : (y1 != y1) = false := by simp
    have z2 : (y2 != y2) = false := by simp
    have z3 : (y3 != y3) = false := by simp
    have z4 : (yb != yb) = false := by cases yb <;> rfl
    have z5 : (xq != xq) = false := by simp
    have z6 : ((cq : Int) != (cq : Int)) = false := by simp
    have hqq := neqQ_same sq tq
    obtain ⟨x0_0, x0_1, x0_2, x0_3, x0_4, x0_5, x0_6, x0_7, x0_8, x0_9, x0_10, x0_11⟩ := M15.out
    obtain ⟨x1_0, x1_1, x1_2, x1_3, x1_4, x1_5, x1_6, x1_7, x1_8, x1_9, x1_10, x1_11⟩ := N15.out
    go_wp2_with fail
    refine (SamL.same zh zh none none 0 0 0 0 [] [] none none 0 0 0 0 [] [] none none 0 0 0 0 [] [] _ Sr.nil Sr.nil (by omega) (by omega) Sr.nil Sr.nil (by omega) (by omega) Sr.nil Sr.nil (by omega) (by omega)).mono ?_
    rintro e w16 ⟨rfl, hl⟩
    rw [SZ.out zh]
    generalize w14.heap.size = gx2 at *
    have L16 := Lib.hid (L15.out.trans (hl.mono L15.out.size))
    have Q16 := Lib.hid (Q15.out.below hl)
    have P16 := Lib.hid (P15.out.below hl)
    have X16 := Lib.hid (X15.out.below hl)
    have Y16 := Lib.hid (Y15.out.below hl)
    clear hl L15 M15 N15 Q15 P15 X15 Y15
    clear  x0_0 x0_1 x0_2 x0_3 x0_4 x0_5 x0_6 x0_7 x0_8 x0_9 x0_10 x0_11 x1_0 x1_1 x1_2 x1_3 x1_4 x1_5 x1_6 x1_7 x1_8 x1_9 x1_10 x1_11
    obtain ⟨x0_0, x0_1, x0_2, x0_3, x0_4, x0_5, x0_6, x0_7, x0_8, x0_9, x0_10, x0_11⟩ := X16.out
    obtain ⟨x1_0, x1_1, x1_2, x1_3, x1_4, x1_5, x1_6, x1_7, x1_8, x1_9, x1_10, x1_11⟩ := Y16.out
    obtain ⟨u0, u1⟩ := Q16.out
    obtain ⟨v0, v1⟩ := P16.out
    go_wp2_with fail
    refine (SamL.same J J none none 0 0 0 0 [] [] none none 0 0 0 0 [] [] none none 0 0 0 0 [] [] _ Sr.nil Sr.nil (by omega) (by omega) Sr.nil Sr.nil (by omega) (by omega) Sr.nil Sr.nil (by omega) (by omega)).mono ?_
    rintro e w17 ⟨rfl, hl⟩
    rw [SJ.out]
    have L17 := Lib.hid (L16.out.trans (hl.mono L16.out.size))
    clear hl L16 Q16 P16 X16 Y16
    clear u0 u1 v0 v1 hqq z1 z2 z3 z4 z5 z6 x0_0 x0_1 x0_2 x0_3 x0_4 x0_5 x0_6 x0_7 x0_8 x0_9 x0_10 x0_11 x1_0 x1_1 x1_2 x1_3 x1_4 x1_5 x1_6 x1_7 x1_8 x1_9 x1_10 x1_11
    go_wp2
    go_ret
    exact ⟨rfl, L17.out⟩
  case true =>
    have B_1 := Lib.hid hb
    have L1 := Lib.hid hl
    have MB := Lib.hid hm
    obtain ⟨k1, k2, k3, k4, k5⟩ := good_msg hg
    have IG := Lib.hid (fun (W : World) (he : Env W) (hs : Sl W W.heap.size (some ⟨gb, 0, none⟩) mb lb) => GetM.impl_good (some ⟨gb, 0, none⟩) mb db lb W he hs hd (by omega) hg)
    have SG := Lib.hid (fun (W : World) (hs : Sl W W.heap.size (some ⟨gb, 0, none⟩) mb lb) => GetM.spec_good (some ⟨gb, 0, none⟩) mb db lb W hs hd (by omega) hg)
    have N1 : (s1 lb).2.2.length ≤ 8 := GetsM.grA_len _ _ _
    have N2 : (s2 lb).2.2.length ≤ 8 := GetsM.grA_len _ _ _
    have N3 : (s3 lb).2.2.length ≤ 8 := GetsM.grA_len _ _ _
    generalize gmh lb = h at *
    generalize (s1 lb).2.2 = l1 at *
    generalize (s2 lb).2.2 = l2 at *
    generalize (s3 lb).2.2 = l3 at *
    have HK := Lib.hid k1
    have D1 := Lib.hid k2
    have D2 := Lib.hid k3
    have D3 := Lib.hid k4
    have SS : Hid (smm h h l1 l2 l3 l1 l2 l3 = true) := smm_self h l1 l2 l3
    have FT := Lib.hid (fun e => fits (h := h) (l1 := l1) (l2 := l2) (l3 := l3) e)
    have KL := pm_len h l1 l2 l3
    clear k1 k2 k3 k4
    obtain ⟨n1, hn1⟩ : ∃ n, l1.length = n := ⟨_, rfl⟩
    rw [hn1] at N1
    obtain ⟨n2, hn2⟩ : ∃ n, l2.length = n := ⟨_, rfl⟩
    rw [hn2] at N2
    obtain ⟨n3, hn3⟩ : ∃ n, l3.length = n := ⟨_, rfl⟩
    rw [hn3] at N3
    rw [hn1, hn2, hn3] at IG SG
    have B1 := Lib.hid hn1
    have B2 := Lib.hid hn2
    have B3 := Lib.hid hn3
    clear hn1 hn2 hn3
    have SZ := Lib.hid (fun (x : Hd) => smm_self x [] [] [])
    clear hb hl hm hg
    go_wp2_with fail
    refine (IG.out _ (HE.out.below L1.out) (sl_of B_1.out MB.out)).mono ?_
    rintro e w2 ⟨p1, e1, rp1, p2, e2, rp2, p3, e3, rp3, rfl, hb1, hb2, hb3, -, -, -, hl⟩
    have P1_2 := Lib.hid hb1
    have P2_2 := Lib.hid hb2
    have P3_2 := Lib.hid hb3
    have L2 := Lib.hid (L1.out.trans (hl.mono L1.out.size))
    have B_2 := Lib.hid (B_1.out.below hl B_1.out.lt)
    clear hl L1 B_1
    clear hb1 hb2 hb3 
    have al : Below w2.heap.size w2 (w2.alloc (.cells #[.int .i64 h.id, .bool h.rp, .bool h.au, .bool h.ct, .bool h.wa, .bool h.ca, .int .i64 h.code, .string h.qn, .int .i64 h.qt, .slice (some ⟨p1, 0, none⟩) n1 e1, .slice (some ⟨p2, 0, none⟩) n2 e2, .slice (some ⟨p3, 0, none⟩) n3 e3] 28)) := (Below.refl _ _).alloc (Nat.le_refl _) _
    have M3 := Lib.hid (mx_new w2 28 h (.slice (some ⟨p1, 0, none⟩) n1 e1) (.slice (some ⟨p2, 0, none⟩) n2 e2) (.slice (some ⟨p3, 0, none⟩) n3 e3))
    have L3 := Lib.hid (L2.out.trans (al.mono L2.out.size))
    have B_3 := Lib.hid (B_2.out.below al B_2.out.lt)
    have P1_3 := Lib.hid (P1_2.out.below al P1_2.out.lt)
    have P2_3 := Lib.hid (P2_2.out.below al P2_2.out.lt)
    have P3_3 := Lib.hid (P3_2.out.below al P3_2.out.lt)
    clear al L2 B_2 P1_2 P2_2 P3_2
    go_wp2_with fail
    refine (SG.out _ (sl_of B_3.out MB.out)).mono ?_
    rintro e w4 ⟨v1, f1, rv1, v2, f2, rv2, v3, f3, rv3, rfl, hb1, hb2, hb3, -, -, -, hl⟩
    have V1_4 := Lib.hid hb1
    have V2_4 := Lib.hid hb2
    have V3_4 := Lib.hid hb3
    have L4 := Lib.hid (L3.out.trans (hl.mono L3.out.size))
    have B_4 := Lib.hid (B_3.out.below hl B_3.out.lt)
    have P1_4 := Lib.hid (P1_3.out.below hl P1_3.out.lt)
    have P2_4 := Lib.hid (P2_3.out.below hl P2_3.out.lt)
    have P3_4 := Lib.hid (P3_3.out.below hl P3_3.out.lt)
    have M4 := Lib.hid (M3.out.below hl)
    clear hl L3 B_3 P1_3 P2_3 P3_3 M3
    clear hb1 hb2 hb3 
    generalize w2.heap.size = gm at *
    clear B_4 IG SG
    have al : Below w4.heap.size w4 (w4.alloc (.cells #[.int .i64 h.id, .bool h.rp, .bool h.au, .bool h.ct, .bool h.wa, .bool h.ca, .int .i64 h.code, .string h.qn, .int .i64 h.qt, .slice (some ⟨v1, 0, none⟩) n1 f1, .slice (some ⟨v2, 0, none⟩) n2 f2, .slice (some ⟨v3, 0, none⟩) n3 f3] 28)) := (Below.refl _ _).alloc (Nat.le_refl _) _
    have N5 := Lib.hid (mx_new w4 28 h (.slice (some ⟨v1, 0, none⟩) n1 f1) (.slice (some ⟨v2, 0, none⟩) n2 f2) (.slice (some ⟨v3, 0, none⟩) n3 f3))
    have L5 := Lib.hid (L4.out.trans (al.mono L4.out.size))
    have P1_5 := Lib.hid (P1_4.out.below al P1_4.out.lt)
    have P2_5 := Lib.hid (P2_4.out.below al P2_4.out.lt)
    have P3_5 := Lib.hid (P3_4.out.below al P3_4.out.lt)
    have M5 := Lib.hid (M4.out.below al)
    have V1_5 := Lib.hid (V1_4.out.below al V1_4.out.lt)
    have V2_5 := Lib.hid (V2_4.out.below al V2_4.out.lt)
    have V3_5 := Lib.hid (V3_4.out.below al V3_4.out.lt)
    clear al L4 P1_4 P2_4 P3_4 M4 V1_4 V2_4 V3_4
    go_wp2_with fail
    refine (drawGetQuest_any A n c l _ ((HS.out.below L5.out).wider L5.out.size) hbig).mono ?_
    rintro e w6 ⟨gc, mc_, dc, rc_, lc, kq, rfl, hm, hdc, htc, hb, hl⟩
    have MC := Lib.hid hm
    have C_6 := Lib.hid hb
    generalize w4.heap.size = gn at *
    have L6 := Lib.hid (L5.out.trans (hl.mono L5.out.size))
    have P1_6 := Lib.hid (P1_5.out.below hl P1_5.out.lt)
    have P2_6 := Lib.hid (P2_5.out.below hl P2_5.out.lt)
    have P3_6 := Lib.hid (P3_5.out.below hl P3_5.out.lt)
    have M6 := Lib.hid (M5.out.below hl)
    have V1_6 := Lib.hid (V1_5.out.below hl V1_5.out.lt)
    have V2_6 := Lib.hid (V2_5.out.below hl V2_5.out.lt)
    have V3_6 := Lib.hid (V3_5.out.below hl V3_5.out.lt)
    have N6 := Lib.hid (N5.out.below hl)
    clear hl L5 P1_5 P2_5 P3_5 M5 V1_5 V2_5 V3_5 N5
    clear hm hb 
    have IQ := Lib.hid (fun (W : World) (he : Env W) (hs : Sl W W.heap.size (some ⟨gc, 0, none⟩) mc_ lc) => GetQ.impl (some ⟨gc, 0, none⟩) mc_ dc lc kq W he hs hdc (by omega))
    have SQ := Lib.hid (fun (W : World) (hs : Sl W W.heap.size (some ⟨gc, 0, none⟩) mc_ lc) => GetQ.spec (some ⟨gc, 0, none⟩) mc_ dc lc kq W hs hdc (by omega))
    generalize gq lc kq = QQ at *
    obtain ⟨cq, xq, sq, tq⟩ := QQ
    unfold valQ at IQ SQ
    dsimp only at IQ SQ
    go_wp2_with fail
    refine (IQ.out _ (HE.out.below L6.out) (sl_of C_6.out MC.out)).mono ?_
    rintro e w7 ⟨rfl, hl⟩
    have L7 := Lib.hid (L6.out.trans (hl.mono L6.out.size))
    have P1_7 := Lib.hid (P1_6.out.below hl P1_6.out.lt)
    have P2_7 := Lib.hid (P2_6.out.below hl P2_6.out.lt)
    have P3_7 := Lib.hid (P3_6.out.below hl P3_6.out.lt)
    have M7 := Lib.hid (M6.out.below hl)
    have V1_7 := Lib.hid (V1_6.out.below hl V1_6.out.lt)
    have V2_7 := Lib.hid (V2_6.out.below hl V2_6.out.lt)
    have V3_7 := Lib.hid (V3_6.out.below hl V3_6.out.lt)
    have N7 := Lib.hid (N6.out.below hl)
    have C_7 := Lib.hid (C_6.out.below hl C_6.out.lt)
    clear hl L6 P1_6 P2_6 P3_6 M6 V1_6 V2_6 V3_6 N6 C_6
    have al : Below w7.heap.size w7 (w7.alloc (.cells #[.string sq, .int .i64 tq] 25)) := (Below.refl _ _).alloc (Nat.le_refl _) _
    have Q8 := Lib.hid (qx_new w7 25 sq tq)
    have L8 := Lib.hid (L7.out.trans (al.mono L7.out.size))
    have P1_8 := Lib.hid (P1_7.out.below al P1_7.out.lt)
    have P2_8 := Lib.hid (P2_7.out.below al P2_7.out.lt)
    have P3_8 := Lib.hid (P3_7.out.below al P3_7.out.lt)
    have M8 := Lib.hid (M7.out.below al)
    have V1_8 := Lib.hid (V1_7.out.below al V1_7.out.lt)
    have V2_8 := Lib.hid (V2_7.out.below al V2_7.out.lt)
    have V3_8 := Lib.hid (V3_7.out.below al V3_7.out.lt)
    have N8 := Lib.hid (N7.out.below al)
    have C_8 := Lib.hid (C_7.out.below al C_7.out.lt)
    clear al L7 P1_7 P2_7 P3_7 M7 V1_7 V2_7 V3_7 N7 C_7
    go_wp2_with fail
    refine (SQ.out _ (sl_of C_8.out MC.out)).mono ?_
    rintro e w9 ⟨rfl, hl⟩
    generalize w7.heap.size = gq1 at *
    have L9 := Lib.hid (L8.out.trans (hl.mono L8.out.size))
    have P1_9 := Lib.hid (P1_8.out.below hl P1_8.out.lt)
    have P2_9 := Lib.hid (P2_8.out.below hl P2_8.out.lt)
    have P3_9 := Lib.hid (P3_8.out.below hl P3_8.out.lt)
    have M9 := Lib.hid (M8.out.below hl)
    have V1_9 := Lib.hid (V1_8.out.below hl V1_8.out.lt)
    have V2_9 := Lib.hid (V2_8.out.below hl V2_8.out.lt)
    have V3_9 := Lib.hid (V3_8.out.below hl V3_8.out.lt)
    have N9 := Lib.hid (N8.out.below hl)
    have C_9 := Lib.hid (C_8.out.below hl C_8.out.lt)
    have Q9 := Lib.hid (Q8.out.below hl)
    clear hl L8 P1_8 P2_8 P3_8 M8 V1_8 V2_8 V3_8 N8 C_8 Q8
    clear C_9 IQ SQ
    have al : Below w9.heap.size w9 (w9.alloc (.cells #[.string sq, .int .i64 tq] 25)) := (Below.refl _ _).alloc (Nat.le_refl _) _
    have P10 := Lib.hid (qx_new w9 25 sq tq)
    have L10 := Lib.hid (L9.out.trans (al.mono L9.out.size))
    have P1_10 := Lib.hid (P1_9.out.below al P1_9.out.lt)
    have P2_10 := Lib.hid (P2_9.out.below al P2_9.out.lt)
    have P3_10 := Lib.hid (P3_9.out.below al P3_9.out.lt)
    have M10 := Lib.hid (M9.out.below al)
    have V1_10 := Lib.hid (V1_9.out.below al V1_9.out.lt)
    have V2_10 := Lib.hid (V2_9.out.below al V2_9.out.lt)
    have V3_10 := Lib.hid (V3_9.out.below al V3_9.out.lt)
    have N10 := Lib.hid (N9.out.below al)
    have Q10 := Lib.hid (Q9.out.below al)
    clear al L9 P1_9 P2_9 P3_9 M9 V1_9 V2_9 V3_9 N9 Q9
    go_wp2_with fail
    refine (drawGetHead_any A n c l _ ((HS.out.below L10.out).wider L10.out.size) hbig).mono ?_
    rintro e w11 ⟨gh, mh, dh, rh, lh, rfl, hm, hdh, hth, hb, hl⟩
    have MH := Lib.hid hm
    have H_11 := Lib.hid hb
    generalize w9.heap.size = gq2 at *
    have L11 := Lib.hid (L10.out.trans (hl.mono L10.out.size))
    have P1_11 := Lib.hid (P1_10.out.below hl P1_10.out.lt)
    have P2_11 := Lib.hid (P2_10.out.below hl P2_10.out.lt)
    have P3_11 := Lib.hid (P3_10.out.below hl P3_10.out.lt)
    have M11 := Lib.hid (M10.out.below hl)
    have V1_11 := Lib.hid (V1_10.out.below hl V1_10.out.lt)
    have V2_11 := Lib.hid (V2_10.out.below hl V2_10.out.lt)
    have V3_11 := Lib.hid (V3_10.out.below hl V3_10.out.lt)
    have N11 := Lib.hid (N10.out.below hl)
    have Q11 := Lib.hid (Q10.out.below hl)
    have P11 := Lib.hid (P10.out.below hl)
    clear hl L10 P1_10 P2_10 P3_10 M10 V1_10 V2_10 V3_10 N10 Q10 P10
    clear hm hb 
    have IH := Lib.hid (fun (W : World) (hs : Sl W W.heap.size (some ⟨gh, 0, none⟩) mh lh) => GetHI.impl (some ⟨gh, 0, none⟩) mh dh lh W hs hdh (by omega))
    have SH := Lib.hid (fun (W : World) (hs : Sl W W.heap.size (some ⟨gh, 0, none⟩) mh lh) => GetHS.spec (some ⟨gh, 0, none⟩) mh dh lh W hs hdh (by omega))
    unfold valH at IH SH
    generalize ghh lh = J at *
    generalize ghn lh 6 = y1 at *
    generalize ghn lh 8 = y2 at *
    generalize ghn lh 10 = y3 at *
    generalize ghb lh = yb at *
    have SJ := Lib.hid (SZ.out J)
    go_wp2_with fail
    refine (IH.out _ (sl_of H_11.out MH.out)).mono ?_
    rintro e w12 ⟨rfl, hl⟩
    have L12 := Lib.hid (L11.out.trans (hl.mono L11.out.size))
    have P1_12 := Lib.hid (P1_11.out.below hl P1_11.out.lt)
    have P2_12 := Lib.hid (P2_11.out.below hl P2_11.out.lt)
    have P3_12 := Lib.hid (P3_11.out.below hl P3_11.out.lt)
    have M12 := Lib.hid (M11.out.below hl)
    have V1_12 := Lib.hid (V1_11.out.below hl V1_11.out.lt)
    have V2_12 := Lib.hid (V2_11.out.below hl V2_11.out.lt)
    have V3_12 := Lib.hid (V3_11.out.below hl V3_11.out.lt)
    have N12 := Lib.hid (N11.out.below hl)
    have Q12 := Lib.hid (Q11.out.below hl)
    have P12 := Lib.hid (P11.out.below hl)
    have H_12 := Lib.hid (H_11.out.below hl H_11.out.lt)
    clear hl L11 P1_11 P2_11 P3_11 M11 V1_11 V2_11 V3_11 N11 Q11 P11 H_11
    have al : Below w12.heap.size w12 (w12.alloc (.cells #[.int .i64 J.id, .bool J.rp, .bool J.au, .bool J.ct, .bool J.wa, .bool J.ca, .int .i64 J.code, .string J.qn, .int .i64 J.qt, .slice none 0 0, .slice none 0 0, .slice none 0 0] 28)) := (Below.refl _ _).alloc (Nat.le_refl _) _
    have X13 := Lib.hid (mx_new w12 28 J (.slice none 0 0) (.slice none 0 0) (.slice none 0 0))
    have L13 := Lib.hid (L12.out.trans (al.mono L12.out.size))
    have P1_13 := Lib.hid (P1_12.out.below al P1_12.out.lt)
    have P2_13 := Lib.hid (P2_12.out.below al P2_12.out.lt)
    have P3_13 := Lib.hid (P3_12.out.below al P3_12.out.lt)
    have M13 := Lib.hid (M12.out.below al)
    have V1_13 := Lib.hid (V1_12.out.below al V1_12.out.lt)
    have V2_13 := Lib.hid (V2_12.out.below al V2_12.out.lt)
    have V3_13 := Lib.hid (V3_12.out.below al V3_12.out.lt)
    have N13 := Lib.hid (N12.out.below al)
    have Q13 := Lib.hid (Q12.out.below al)
    have P13 := Lib.hid (P12.out.below al)
    have H_13 := Lib.hid (H_12.out.below al H_12.out.lt)
    clear al L12 P1_12 P2_12 P3_12 M12 V1_12 V2_12 V3_12 N12 Q12 P12 H_12
    go_wp2_with fail
    refine (SH.out _ (sl_of H_13.out MH.out)).mono ?_
    rintro e w14 ⟨rfl, hl⟩
    generalize w12.heap.size = gx1 at *
    have L14 := Lib.hid (L13.out.trans (hl.mono L13.out.size))
    have P1_14 := Lib.hid (P1_13.out.below hl P1_13.out.lt)
    have P2_14 := Lib.hid (P2_13.out.below hl P2_13.out.lt)
    have P3_14 := Lib.hid (P3_13.out.below hl P3_13.out.lt)
    have M14 := Lib.hid (M13.out.below hl)
    have V1_14 := Lib.hid (V1_13.out.below hl V1_13.out.lt)
    have V2_14 := Lib.hid (V2_13.out.below hl V2_13.out.lt)
    have V3_14 := Lib.hid (V3_13.out.below hl V3_13.out.lt)
    have N14 := Lib.hid (N13.out.below hl)
    have Q14 := Lib.hid (Q13.out.below hl)
    have P14 := Lib.hid (P13.out.below hl)
    have H_14 := Lib.hid (H_13.out.below hl H_13.out.lt)
    have X14 := Lib.hid (X13.out.below hl)
    clear hl L13 P1_13 P2_13 P3_13 M13 V1_13 V2_13 V3_13 N13 Q13 P13 H_13 X13
    clear H_14 IH SH
    have al : Below w14.heap.size w14 (w14.alloc (.cells #[.int .i64 J.id, .bool J.rp, .bool J.au, .bool J.ct, .bool J.wa, .bool J.ca, .int .i64 J.code, .string J.qn, .int .i64 J.qt, .slice none 0 0, .slice none 0 0, .slice none 0 0] 28)) := (Below.refl _ _).alloc (Nat.le_refl _) _
    have Y15 := Lib.hid (mx_new w14 28 J (.slice none 0 0) (.slice none 0 0) (.slice none 0 0))
    have L15 := Lib.hid (L14.out.trans (al.mono L14.out.size))
    have P1_15 := Lib.hid (P1_14.out.below al P1_14.out.lt)
    have P2_15 := Lib.hid (P2_14.out.below al P2_14.out.lt)
    have P3_15 := Lib.hid (P3_14.out.below al P3_14.out.lt)
    have M15 := Lib.hid (M14.out.below al)
    have V1_15 := Lib.hid (V1_14.out.below al V1_14.out.lt)
    have V2_15 := Lib.hid (V2_14.out.below al V2_14.out.lt)
    have V3_15 := Lib.hid (V3_14.out.below al V3_14.out.lt)
    have N15 := Lib.hid (N14.out.below al)
    have Q15 := Lib.hid (Q14.out.below al)
    have P15 := Lib.hid (P14.out.below al)
    have X15 := Lib.hid (X14.out.below al)
    clear al L14 P1_14 P2_14 P3_14 M14 V1_14 V2_14 V3_14 N14 Q14 P14 X14
    have z1 : (y1 != y1) = false := by simp
    have z2 : (y2 != y2) = false := by simp
    have z3 : (y3 != y3) = false := by simp
    have z4 : (yb != yb) = false := by cases yb <;> rfl
    have z5 : (xq != xq) = false := by simp
    have z6 : ((cq : Int) != (cq : Int)) = false := by simp
    have hqq := neqQ_same sq tq
    obtain ⟨x0_0, x0_1, x0_2, x0_3, x0_4, x0_5, x0_6, x0_7, x0_8, x0_9, x0_10, x0_11⟩ := M15.out
    obtain ⟨x1_0, x1_1, x1_2, x1_3, x1_4, x1_5, x1_6, x1_7, x1_8, x1_9, x1_10, x1_11⟩ := N15.out
    go_wp2_with fail
    refine (SamL.same h h _ _ n1 n1 e1 f1 l1 l1 _ _ n2 n2 e2 f2 l2 l2 _ _ n3 n3 e3 f3 l3 l3 _ (bk_sr P1_15.out B1.out) (bk_sr V1_15.out B1.out) (by omega) (by omega) (bk_sr P2_15.out B2.out) (bk_sr V2_15.out B2.out) (by omega) (by omega) (bk_sr P3_15.out B3.out) (bk_sr V3_15.out B3.out) (by omega) (by omega)).mono ?_
    rintro e w16 ⟨rfl, hl⟩
    rw [SS.out]
    generalize w14.heap.size = gx2 at *
    have L16 := Lib.hid (L15.out.trans (hl.mono L15.out.size))
    have P1_16 := Lib.hid (P1_15.out.below hl P1_15.out.lt)
    have P2_16 := Lib.hid (P2_15.out.below hl P2_15.out.lt)
    have P3_16 := Lib.hid (P3_15.out.below hl P3_15.out.lt)
    have M16 := Lib.hid (M15.out.below hl)
    have Q16 := Lib.hid (Q15.out.below hl)
    have P16 := Lib.hid (P15.out.below hl)
    have X16 := Lib.hid (X15.out.below hl)
    have Y16 := Lib.hid (Y15.out.below hl)
    clear hl L15 P1_15 P2_15 P3_15 M15 V1_15 V2_15 V3_15 N15 Q15 P15 X15 Y15
    clear  x0_0 x0_1 x0_2 x0_3 x0_4 x0_5 x0_6 x0_7 x0_8 x0_9 x0_10 x0_11 x1_0 x1_1 x1_2 x1_3 x1_4 x1_5 x1_6 x1_7 x1_8 x1_9 x1_10 x1_11
    obtain ⟨x0_0, x0_1, x0_2, x0_3, x0_4, x0_5, x0_6, x0_7, x0_8, x0_9, x0_10, x0_11⟩ := X16.out
    obtain ⟨x1_0, x1_1, x1_2, x1_3, x1_4, x1_5, x1_6, x1_7, x1_8, x1_9, x1_10, x1_11⟩ := Y16.out
    obtain ⟨u0, u1⟩ := Q16.out
    obtain ⟨v0, v1⟩ := P16.out
    go_wp2_with fail
    refine (SamL.same J J none none 0 0 0 0 [] [] none none 0 0 0 0 [] [] none none 0 0 0 0 [] [] _ Sr.nil Sr.nil (by omega) (by omega) Sr.nil Sr.nil (by omega) (by omega) Sr.nil Sr.nil (by omega) (by omega)).mono ?_
    rintro e w17 ⟨rfl, hl⟩
    rw [SJ.out]
    have L17 := Lib.hid (L16.out.trans (hl.mono L16.out.size))
    have P1_17 := Lib.hid (P1_16.out.below hl P1_16.out.lt)
    have P2_17 := Lib.hid (P2_16.out.below hl P2_16.out.lt)
    have P3_17 := Lib.hid (P3_16.out.below hl P3_16.out.lt)
    have M17 := Lib.hid (M16.out.below hl)
    clear hl L16 P1_16 P2_16 P3_16 M16 Q16 P16 X16 Y16
    clear u0 u1 v0 v1 hqq z1 z2 z3 z4 z5 z6 x0_0 x0_1 x0_2 x0_3 x0_4 x0_5 x0_6 x0_7 x0_8 x0_9 x0_10 x0_11 x1_0 x1_1 x1_2 x1_3 x1_4 x1_5 x1_6 x1_7 x1_8 x1_9 x1_10 x1_11
    obtain ⟨x0_0, x0_1, x0_2, x0_3, x0_4, x0_5, x0_6, x0_7, x0_8, x0_9, x0_10, x0_11⟩ := M17.out
    go_wp2_with fail
    refine (OkM.impl h _ n1 e1 l1 _ n2 e2 l2 _ n3 e3 l3 _ (HE.out.below L17.out) (by omega) (bk_sr P1_17.out B1.out) (by omega) D1.out.mods (bk_sr P2_17.out B2.out) (by omega) D2.out.mods (bk_sr P3_17.out B3.out) (by omega) D3.out.mods).mono ?_
    rintro e w18 ⟨rfl, hl⟩
    rw [HK.out]
    have L18 := Lib.hid (L17.out.trans (hl.mono L17.out.size))
    have P1_18 := Lib.hid (P1_17.out.below hl P1_17.out.lt)
    have P2_18 := Lib.hid (P2_17.out.below hl P2_17.out.lt)
    have P3_18 := Lib.hid (P3_17.out.below hl P3_17.out.lt)
    have M18 := Lib.hid (M17.out.below hl)
    clear hl L17 P1_17 P2_17 P3_17 M17
    clear  x0_0 x0_1 x0_2 x0_3 x0_4 x0_5 x0_6 x0_7 x0_8 x0_9 x0_10 x0_11
    obtain ⟨x0_0, x0_1, x0_2, x0_3, x0_4, x0_5, x0_6, x0_7, x0_8, x0_9, x0_10, x0_11⟩ := M18.out
    go_wp2_with fail
    refine (PutM.impl h _ n1 e1 l1 _ n2 e2 l2 _ n3 e3 l3 _ (HE.out.below L18.out) (by omega) (bk_sr P1_18.out B1.out) (by omega) D1.out (bk_sr P2_18.out B2.out) (by omega) D2.out (bk_sr P3_18.out B3.out) (by omega) D3.out).mono ?_
    rintro e w19 ⟨ge, me, de, re, rfl, hm, hde, -, hb, hl⟩
    have ME := Lib.hid hm
    have E_19 := Lib.hid hb
    have hme : me ≤ 512 := by omega
    have L19 := Lib.hid (L18.out.trans (hl.mono L18.out.size))
    have P1_19 := Lib.hid (P1_18.out.below hl P1_18.out.lt)
    have P2_19 := Lib.hid (P2_18.out.below hl P2_18.out.lt)
    have P3_19 := Lib.hid (P3_18.out.below hl P3_18.out.lt)
    have M19 := Lib.hid (M18.out.below hl)
    clear hl L18 P1_18 P2_18 P3_18 M18
    clear hm hb KL x0_0 x0_1 x0_2 x0_3 x0_4 x0_5 x0_6 x0_7 x0_8 x0_9 x0_10 x0_11
    by_cases h0 : 0 < me
    case neg =>
      have KE : Hid (pm h l1 l2 l3 = []) := List.eq_nil_of_length_eq_zero (by rw [ME.out]; omega)
      rw [KE.out] at E_19
      have h0m : me = 0 := by omega
      subst h0m
      have IB := Lib.hid (fun (W : World) (he : Env W) => GetM.impl_bad (some ⟨ge, 0, none⟩) 0 de [] W he Sl.nil hde (by omega) (by decide))
      go_wp2_with fail
      refine (IB.out _ (HE.out.below L19.out)).mono ?_
      rintro e w20 ⟨rfl, hl⟩
      have L20 := Lib.hid (L19.out.trans (hl.mono L19.out.size))
      have P1_20 := Lib.hid (P1_19.out.below hl P1_19.out.lt)
      have P2_20 := Lib.hid (P2_19.out.below hl P2_19.out.lt)
      have P3_20 := Lib.hid (P3_19.out.below hl P3_19.out.lt)
      have M20 := Lib.hid (M19.out.below hl)
      have E_20 := Lib.hid (E_19.out.below hl E_19.out.lt)
      clear hl L19 P1_19 P2_19 P3_19 M19 E_19
      have LL := Lib.hid (L20.out.alloc L20.out.size (.cells #[.int .i64 zh.id, .bool zh.rp, .bool zh.au, .bool zh.ct, .bool zh.wa, .bool zh.ca, .int .i64 zh.code, .string zh.qn, .int .i64 zh.qt, .slice none 0 0, .slice none 0 0, .slice none 0 0] 28))
      go_wp2
      go_ret
      exact ⟨rfl, LL.out⟩
    obtain ⟨f1, f2, f3, f4, f5, -⟩ := FT.out (by rw [ME.out]; exact h0)
    have IP := Lib.hid (fun (W : World) (he : Env W) (hs : Sl W W.heap.size (some ⟨ge, 0, none⟩) me (pm h l1 l2 l3)) => GetM.impl_good (some ⟨ge, 0, none⟩) me de (pm h l1 l2 l3) W he hs hde (by omega) f1)
    rw [f2, f3, f4, f5, B1.out, B2.out, B3.out] at IP
    clear f1 f2 f3 f4 f5 FT
    generalize pm h l1 l2 l3 = K at *
    have e0 : ((me : Int) == 0) = false := by simp; omega
    have e0' : ¬ (me : Int) = 0 := by omega
    go_wp2_with fail
    refine (IP.out _ (HE.out.below L19.out) (sl_of E_19.out ME.out)).mono ?_
    rintro e w20 ⟨o1, t1, ro1, o2, t2, ro2, o3, t3, ro3, rfl, hb1, hb2, hb3, -, -, -, hl⟩
    have O1_20 := Lib.hid hb1
    have O2_20 := Lib.hid hb2
    have O3_20 := Lib.hid hb3
    have L20 := Lib.hid (L19.out.trans (hl.mono L19.out.size))
    have P1_20 := Lib.hid (P1_19.out.below hl P1_19.out.lt)
    have P2_20 := Lib.hid (P2_19.out.below hl P2_19.out.lt)
    have P3_20 := Lib.hid (P3_19.out.below hl P3_19.out.lt)
    have M20 := Lib.hid (M19.out.below hl)
    have E_20 := Lib.hid (E_19.out.below hl E_19.out.lt)
    clear hl L19 P1_19 P2_19 P3_19 M19 E_19
    clear hb1 hb2 hb3 
    have al : Below w20.heap.size w20 (w20.alloc (.cells #[.int .i64 h.id, .bool h.rp, .bool h.au, .bool h.ct, .bool h.wa, .bool h.ca, .int .i64 h.code, .string h.qn, .int .i64 h.qt, .slice (some ⟨o1, 0, none⟩) n1 t1, .slice (some ⟨o2, 0, none⟩) n2 t2, .slice (some ⟨o3, 0, none⟩) n3 t3] 28)) := (Below.refl _ _).alloc (Nat.le_refl _) _
    have Z21 := Lib.hid (mx_new w20 28 h (.slice (some ⟨o1, 0, none⟩) n1 t1) (.slice (some ⟨o2, 0, none⟩) n2 t2) (.slice (some ⟨o3, 0, none⟩) n3 t3))
    have L21 := Lib.hid (L20.out.trans (al.mono L20.out.size))
    have P1_21 := Lib.hid (P1_20.out.below al P1_20.out.lt)
    have P2_21 := Lib.hid (P2_20.out.below al P2_20.out.lt)
    have P3_21 := Lib.hid (P3_20.out.below al P3_20.out.lt)
    have M21 := Lib.hid (M20.out.below al)
    have E_21 := Lib.hid (E_20.out.below al E_20.out.lt)
    have O1_21 := Lib.hid (O1_20.out.below al O1_20.out.lt)
    have O2_21 := Lib.hid (O2_20.out.below al O2_20.out.lt)
    have O3_21 := Lib.hid (O3_20.out.below al O3_20.out.lt)
    clear al L20 P1_20 P2_20 P3_20 M20 E_20 O1_20 O2_20 O3_20
    obtain ⟨x0_0, x0_1, x0_2, x0_3, x0_4, x0_5, x0_6, x0_7, x0_8, x0_9, x0_10, x0_11⟩ := Z21.out
    obtain ⟨x1_0, x1_1, x1_2, x1_3, x1_4, x1_5, x1_6, x1_7, x1_8, x1_9, x1_10, x1_11⟩ := M21.out
    go_wp2_with fail
    refine (SamL.same h h _ _ n1 n1 t1 e1 l1 l1 _ _ n2 n2 t2 e2 l2 l2 _ _ n3 n3 t3 e3 l3 l3 _ (bk_sr O1_21.out B1.out) (bk_sr P1_21.out B1.out) (by omega) (by omega) (bk_sr O2_21.out B2.out) (bk_sr P2_21.out B2.out) (by omega) (by omega) (bk_sr O3_21.out B3.out) (bk_sr P3_21.out B3.out) (by omega) (by omega)).mono ?_
    rintro e w22 ⟨rfl, hl⟩
    rw [SS.out]
    have L22 := Lib.hid (L21.out.trans (hl.mono L21.out.size))
    have P1_22 := Lib.hid (P1_21.out.below hl P1_21.out.lt)
    have P2_22 := Lib.hid (P2_21.out.below hl P2_21.out.lt)
    have P3_22 := Lib.hid (P3_21.out.below hl P3_21.out.lt)
    have M22 := Lib.hid (M21.out.below hl)
    have E_22 := Lib.hid (E_21.out.below hl E_21.out.lt)
    have O1_22 := Lib.hid (O1_21.out.below hl O1_21.out.lt)
    have O2_22 := Lib.hid (O2_21.out.below hl O2_21.out.lt)
    have O3_22 := Lib.hid (O3_21.out.below hl O3_21.out.lt)
    have Z22 := Lib.hid (Z21.out.below hl)
    clear hl L21 P1_21 P2_21 P3_21 M21 E_21 O1_21 O2_21 O3_21 Z21
    clear  x0_0 x0_1 x0_2 x0_3 x0_4 x0_5 x0_6 x0_7 x0_8 x0_9 x0_10 x0_11 x1_0 x1_1 x1_2 x1_3 x1_4 x1_5 x1_6 x1_7 x1_8 x1_9 x1_10 x1_11
    go_wp2
    go_ret
    exact ⟨rfl, L22.out⟩
end Go.Proofs.YtkfibepejlgniaaGreatDoor.LawPacketsBent
