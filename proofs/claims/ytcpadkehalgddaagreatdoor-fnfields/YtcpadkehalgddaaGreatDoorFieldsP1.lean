/- What the program's iterator over the ancestors of a valid name does (upward, a closure that keeps its place in a captured variable): it yields the joined labels behind the first, the second, and so on, till a round says no more. -/
import Derived.Test.YtcpadkehalgddaaGreatDoorDrawB
import Derived.Deep.RegionHeld3
import Derived.Deep.RegionLaw
import Derived.Test.YtcpadkehalgddaaGreatDoorDrawN
import Derived.Test.YtcpadkehalgddaaGreatDoorPutSpec
import Derived.Test.YtcpadkehalgddaaGreatDoorDrawA
import Derived.Test.YtcpadkehalgddaaGreatDoorFieldMath
import Derived.Test.YtcpadkehalgddaaGreatDoorPut
import Derived.Test.YtcpadkehalgddaaGreatDoorUp
import Derived.Test.YtcpadkehalgddaaGreatDoorShelf
import Derived.Test.YtcpadkehalgddaaGreatDoorAbvSpec
import Derived.Test.YtcpadkehalgddaaGreatDoorWireMath
import Derived.RangeFuncBox
import Derived.RangeFuncLeaves
import Derived.Shelf.Abstract
import Derived.WalkKit
import Derived.OwnWalkIn
import Derived.TacticsInMore
import Derived.LoopNIn
import Derived.LoopIn
import Derived.Maps.AppendAt
/- What the model's l1Bent does: a new slice of bytes, at most one longer than what came in; nothing that was there is turned but the cursor. -/
namespace Go.Proofs.YtcpadkehalgddaaGreatDoor.Bent
open Go.RowKit Go.Proofs.YtcpadkehalgddaaGreatDoor.Mem Go.Proofs.YtcpadkehalgddaaGreatDoor.Draw Go.Proofs.YtcpadkehalgddaaGreatDoor.App Go.Proofs.YtcpadkehalgddaaGreatDoor.Draw2

/-- Some new bytes, at most top, the cursor moved, nothing else turned. -/
def Bnt (w : World) (g top : Nat) (e : Ending) (w' : World) : Prop :=
  ∃ (gb m cap : Nat) (r : List Value) (l : List UInt8), e = .returned (.slice (some ⟨gb, 0, none⟩) m cap) ∧ l.length = m ∧ m ≤ cap ∧ m ≤ top ∧ w.heap.size ≤ gb ∧ Bk w' gb 5 (l.map bv ++ r) ∧ Cur w' g ∧ w.grownBy w' (some g)

/-- Some new bytes as a row of one's own, at most top, the cursor moved, nothing else turned. -/
def BntO (w : World) (g top : Nat) (e : Ending) (w' : World) : Prop :=
  ∃ (gb m cap : Nat) (l : List UInt8), e = .returned (.slice (some ⟨gb, 0, none⟩) m cap) ∧ m ≤ top ∧ w'.ownsRow w.heap.size 5 1 (.slice (some ⟨gb, 0, none⟩) m cap) m (l.map bv) ∧ Cur w' g ∧ w.grownBy w' (some g)

/-- What is known of the copy while the rest runs. -/
def St (w : World) (g gb n cap : Nat) (w' : World) : Prop :=
  ∃ (r : List Value) (l : List UInt8), l.length = n ∧ (n ≤ cap ∧ cap ≤ maxLen) ∧ (l.map bv ++ r).length = cap ∧ w.heap.size ≤ gb ∧ g < gb ∧ Bk w' gb 5 (l.map bv ++ r) ∧ Cur w' g ∧ w.grownBy w' (some g)
section
variable {w w1 w2 : World} {g gb n cap : Nat}
theorem St.later (h : St w g gb n cap w1) (hc : Cur w2 g) (hg : w1.grownBy w2 (some g)) : St w g gb n cap w2 := by
  obtain ⟨r, l, hl, hle, hcap, hb, hne, hk, _, hw⟩ := h
  exact ⟨r, l, hl, hle, hcap, hb, hne, hk.grown hg (fun e => by have := Option.some.inj e; omega), hc, grown_trans hw hg⟩
theorem St.cur' (h : St w g gb n cap w1) : Cur w1 g := by obtain ⟨_, _, _, _, _, _, _, _, hc, _⟩ := h; exact hc
theorem St.drew (h : St w g gb n cap w1) : St w g gb n cap w1.drew := by
  obtain ⟨r, l, hl, hle, hcap, hb, hne, hk, hc, hw⟩ := h
  exact ⟨r, l, hl, hle, hcap, hb, hne, hk, hc, ⟨hw.os, hw.tape, hw.output, hw.size, hw.block⟩⟩
/-- The copy's own cells stand while the cursor moves. -/
theorem St.far (h : St w g gb n cap w1) (hg : w1.grownBy w2 (some g)) (i : Nat) : w2.cell? ⟨gb, i, none⟩ = w1.cell? ⟨gb, i, none⟩ := by
  obtain ⟨r, l, hl, hle, hcap, hb, hne, hk, hc, hw⟩ := h
  exact World.cell?_of_block (hg.block gb hk.lt (fun e => by have := Option.some.inj e; omega))
theorem St.alloc (h : St w g gb n cap w1) (o : Obj) : St w g gb n cap (w1.alloc o) := h.later (h.cur'.alloc o) (World.grownBy_alloc w1 o (some g))
theorem St.gives (h : St w g gb n cap w1) {top : Nat} (ht : n ≤ top) : BntO w g top (.returned (.slice (some ⟨gb, 0, none⟩) n cap)) w1 := by
  obtain ⟨r, l, hl, hle, hcap, hb, _, hk, hc, hw⟩ := h
  exact ⟨gb, n, cap, l, rfl, ht, owns_of_bk hk hb hl hcap hle.2, hc, hw⟩
/-- Its head. -/
theorem St.head (h : St w g gb n cap w1) {m : Nat} (hm : m ≤ n) : St w g gb m cap w1 := by
  obtain ⟨r, l, hl, hle, hcap, hb, hne, hk, hc, hw⟩ := h
  have e : (l.take m).map bv ++ ((l.drop m).map bv ++ r) = l.map bv ++ r := by rw [← List.append_assoc, ← List.map_append, List.take_append_drop]
  exact ⟨(l.drop m).map bv ++ r, l.take m, by simp; omega, ⟨by omega, hle.2⟩, by rw [e]; exact hcap, hb, hne, by rw [e]; exact hk, hc, hw⟩
theorem St.cur (h : St w g gb n cap w1) : Cur w1 g := by obtain ⟨_, _, _, _, _, _, _, _, hc, _⟩ := h; exact hc
theorem St.cell (h : St w g gb n cap w1) (i : Nat) (hi : i < n) : ∃ x : Int, 0 ≤ x ∧ x < 256 ∧ w1.cell? ⟨gb, i, none⟩ = some (.int .u8 x) := by
  obtain ⟨r, l, hl, _, _, _, _, hk, _, _⟩ := h
  have hil : i < l.length := by omega
  refine ⟨(l[i].toNat : Int), by omega, by have := l[i].toNat_lt; omega, ?_⟩
  rw [hk.cell, List.getElem?_append_left (by simpa using hil)]
  simp [bv, hil]
theorem St.free (h : St w g gb n cap w1) (i : Nat) : w1.frozen? ⟨gb, i, none⟩ = false := by
  obtain ⟨r, l, _, _, _, _, _, hk, _, _⟩ := h
  exact hk.free i
theorem St.set (h : St w g gb n cap w1) (i : Nat) (hi : i < n) (x : Int) (h0 : 0 ≤ x) (h1 : x < 256) : St w g gb n cap (w1.setCell ⟨gb, i, none⟩ (.int .u8 x)) := by
  obtain ⟨r, l, hl, hle, hcap, hb, hne, hk, hc, hw⟩ := h
  have e : (l.map bv ++ r).set i (.int .u8 x) = (l.set i (UInt8.ofNat x.toNat)).map bv ++ r := by
    rw [List.set_append_left _ _ (by simp; omega), List.map_set, bv_of x h0 h1]
  refine ⟨r, l.set i (UInt8.ofNat x.toNat), by simp [hl], hle, by rw [← e]; simpa using hcap, hb, hne, by rw [← e]; exact hk.set i _, ?_, ?_⟩
  · exact hc.grown (row := some gb) ⟨rfl, rfl, rfl, by simp [World.setCell], fun k _ hk => Below.heap_setCell _ _ _ _ (fun e => hk (by simp [e]))⟩ (fun k hk => by cases hk; exact hne)
  · exact ⟨hw.os, hw.tape, hw.output, by simpa [World.setCell] using hw.size, fun k hk hne => by
      rw [Below.heap_setCell _ _ _ _ (fun e => by simp at e; omega)]; exact hw.block k hk hne⟩
theorem st_of_owns {l : List UInt8} (h : w1.ownsRow w.heap.size 5 1 (.slice (some ⟨gb, 0, none⟩) n cap) n (l.map bv)) (hl : l.length = n) (hg : g < w.heap.size) (hc : Cur w1 g) (hw : w.grownBy w1 (some g)) : St w g gb n cap w1 := by
  obtain ⟨r, hb, hr, hge⟩ := bk_of_owns h
  have hm : cap ≤ maxLen := by
    rcases h.2 with ⟨h1, _⟩ | ⟨g', cap', cur, hv, _, _, _, hm, _⟩
    · cases h1
    · simp only [Value.slice.injEq, Option.some.injEq, Addr.mk.injEq, true_and, and_true] at hv
      obtain ⟨_, rfl⟩ := hv
      exact hm
  exact ⟨r, l, hl, ⟨by rw [← hr, List.length_append, List.length_map, hl]; omega, hm⟩, hr, hge, by omega, hb, hc, hw⟩
theorem St.owns (h : St w g gb n cap w1) : ∃ l : List UInt8, l.length = n ∧ w1.ownsRow w.heap.size 5 1 (.slice (some ⟨gb, 0, none⟩) n cap) n (l.map bv) := by
  obtain ⟨r, l, hl, hle, hc, hb, hne, hk, _, hw⟩ := h
  exact ⟨l, hl, owns_of_bk hk hb hl hc hle.2⟩
end

theorem xor8 (a b : Int) : 0 ≤ bits .xor .u8 a b ∧ bits .xor .u8 a b < 256 := by
  have h : bits .xor .u8 a b = IntKind.u8.wrap ((BitVec.ofInt 8 a ^^^ BitVec.ofInt 8 b).toNat : Int) := rfl
  rw [h, IntKind.wrap_u8]
  omega
/-- One byte more. -/
theorem St.more {w w1 : World} {g gb n cap : Nat} {l : List UInt8} (h : w1.ownsRow w.heap.size 5 1 (.slice (some ⟨gb, 0, none⟩) (n + 1) cap) (n + 1) (l.map bv)) (hg : g < w.heap.size) (hc : Cur w1 g) (hw : w.grownBy w1 (some g)) : BntO w g (n + 1) (.returned (.slice (some ⟨gb, 0, none⟩) (n + 1) cap)) w1 :=
  St.gives (st_of_owns h (by have := h.1; simpa using this) hg hc hw) (Nat.le_refl _)

set_option maxHeartbeats 4000000 in
theorem l1BentO_any (g : Nat) (A : Option Addr) (n c : Nat) (l : List UInt8) (w : World) (hc : Cur w g) (hs : Sl w w.heap.size A n l) (hnil : A = none → n = 0 ∧ c = 0) (hn : n ≤ 10000) :
    Calls Tryz.prog 60 #[.pointer (some ⟨g, 0, none⟩), .slice A n c] w (BntO w g (n + 1)) := by
  obtain ⟨i0, hi, hz0, hz1, hz2⟩ := info_parts Copy.info
  have HC := Lib.hid hc
  have HS := Lib.hid hs
  have HN := Lib.hid hnil
  clear hc hs hnil
  go_enter Tryz.func60, Tryz.ntmps60
  go_wp2_with (at_builtin; refine append_src rfl (.tmp 7) (.tmp 8) 22 rfl w.heap.size 5 i0 (.int .u8 0) Tryz.underlying22 hi hz0 hz1 hz2 rfl w.heap.size 0 0 [] rfl (owns_new w) A n c _ l rfl (sl_alloc HS.out _) HN.out ?c1 ?c2 ?c3 ?_)
  case c1 => omega
  case c2 => omega
  case c3 => simp
  intro gb cap w1 hown hgrow
  have HT := Lib.hid (st_of_owns (g := g) (by simpa using hown) HS.out.1 HC.out.lt ((HC.out.alloc _).grown hgrow (fun k hk => by cases hk; exact HC.out.lt)) (grown_more (World.grownBy_alloc w _ (some g)) hgrow (Nat.le_refl _)))
  clear hown hgrow
  go_wp2_with fail
  refine (l1Below_any g 7 w1 HT.out.cur (by omega) (by omega)).mono ?_
  rintro e w2 ⟨x, rfl, hx0, hx1, hc2, hg2⟩
  have H2 := Lib.hid (HT.out.later hc2 hg2)
  clear hc2 hg2 HT
  by_cases x0 : x = 0
  · subst x0
    by_cases hn0 : 0 < n
    · go_wp2_with fail
      refine (l1Below_any g n w2 H2.out.cur (by omega) (by omega)).mono ?_
      rintro e w3 ⟨y, rfl, hy0, hy1, hc3, hg3⟩
      have H3 := Lib.hid (H2.out.later hc3 hg3)
      obtain ⟨j, rfl⟩ := Int.eq_ofNat_of_zero_le hy0
      clear hc3 hg3 H2
      go_wp2_with fail
      refine (l1Below_any g 256 w3 H3.out.cur (by omega) (by omega)).mono ?_
      rintro e w4 ⟨z, rfl, hz0, hz1, hc4, hg4⟩
      have H4 := Lib.hid (H3.out.later hc4 hg4)
      clear hc4 hg4 H3
      obtain ⟨u, _, _, hcell⟩ := H4.out.cell j (by omega)
      have hfr := H4.out.free j
      go_wp2
      go_ret
      exact St.gives (H4.out.set j (by omega) z hz0 hz1) (by omega)
    · go_wp2
      go_ret
      exact St.gives H2.out (by omega)
  by_cases x1 : x = 1
  · subst x1
    go_wp2_with fail
    refine (l1Below_any g (n + 1) w2 H2.out.cur (by omega) (by omega)).mono ?_
    rintro e w3 ⟨y, rfl, hy0, hy1, hc3, hg3⟩
    have H3 := Lib.hid (H2.out.later hc3 hg3)
    obtain ⟨j, rfl⟩ := Int.eq_ofNat_of_zero_le hy0
    clear hc3 hg3 H2
    have hle : n ≤ cap := by obtain ⟨_, _, _, h, _⟩ := H3.out; exact h.1
    go_wp2
    go_ret
    exact St.gives (H3.out.head (by omega)) (by omega)
  by_cases x2 : x = 2
  · subst x2
    have HI := Lib.hid (H2.out.cur.alloc (.cells #[.int .i64 0, .int .i64 1, .int .i64 192, .int .i64 255] 3))
    go_wp2_with fail
    refine (l1Int_any g w2.heap.size 4 [0, 1, 192, 255] _ (H2.out.cur.alloc _) (bk_ints w2 [0, 1, 192, 255] _ rfl) (Nat.ne_of_gt H2.out.cur.lt) rfl (by omega) (by omega)).mono ?_
    rintro e w3 ⟨z, rfl, hz, hc3, hg3⟩
    have hb : 0 ≤ z ∧ z < 256 := by simp at hz; omega
    obtain ⟨b0, b1⟩ := hb
    have H3 := Lib.hid ((H2.out.alloc _).later hc3 hg3)
    clear hc3 hg3 H2 hz HI
    obtain ⟨l2, hl2, ho2⟩ := H3.out.owns
    have O2 := Lib.hid ho2
    have E2 := Lib.hid hl2
    clear ho2 hl2
    go_wp2_with (at_builtin; refine append_src rfl (.tmp 37) (.tmp 42) 22 rfl w.heap.size 5 i0 (.int .u8 0) Tryz.underlying22 hi hz0 hz1 hz2 rfl gb n cap (l2.map bv) rfl (O2.out.alloc _) _ 1 1 _ [UInt8.ofNat z.toNat] rfl (sl_new w3 _ [UInt8.ofNat z.toNat] (one_cell z b0 b1).symm) (fun h => by cases h) ?d1 ?d2 ?d3 ?_)
    case d1 => omega
    case d2 => omega
    case d3 => obtain ⟨_, _, _, _, _, _, _, _, _, hw⟩ := H3.out; have := hw.size; simp; omega
    intro g4 cap4 w4 hown hgrow
    have O4 : Hid (w4.ownsRow w.heap.size 5 1 (.slice (some ⟨g4, 0, none⟩) (n + 1) cap4) (n + 1) ((l2 ++ [UInt8.ofNat z.toNat]).map bv)) := by
      show World.ownsRow _ _ _ _ _ _ _
      simpa using hown
    have HX : Hid (Cur w4 g ∧ w.grownBy w4 (some g)) := by
      obtain ⟨_, _, _, _, _, hb, hne, _, hc, hw⟩ := H3.out
      exact ⟨(hc.alloc _).grown hgrow (fun k hk => by cases hk; exact hne), grown_more (grown_trans hw (World.grownBy_alloc w3 _ (some g))) hgrow hb⟩
    clear hown hgrow O2
    go_wp2
    go_ret
    exact St.more O4.out HC.out.lt HX.out.1 HX.out.2
  by_cases x3 : x = 3
  · subst x3
    by_cases hn0 : 0 < n
    · go_wp2_with fail
      refine (l1Below_any g n w2 H2.out.cur (by omega) (by omega)).mono ?_
      rintro e w3 ⟨y, rfl, hy0, hy1, hc3, hg3⟩
      have H3 := Lib.hid (H2.out.later hc3 hg3)
      obtain ⟨j, rfl⟩ := Int.eq_ofNat_of_zero_le hy0
      clear hc3 hg3 H2
      obtain ⟨u, hu0, hu1, hcell⟩ := H3.out.cell j (by omega)
      have hfr := H3.out.free j
      have hj0 : (0 : Int) ≤ (j : Int) := by omega
      go_wp2_with fail
      have HD := Lib.hid H3.out.drew
      have hcd : w3.drew.cell? ⟨gb, j, none⟩ = some (.int .u8 u) := hcell
      clear hcell hfr
      go_region_law (first | (go_simp; go_at_call 53; refine (l1Below_any g 8 w3.drew HD.out.cur (by omega) (by omega)).mono ?_; rintro e w4 ⟨z, rfl, hz0, hz1, hc4, hg4⟩; have hcell4 : w4.cell? ⟨gb, j, none⟩ = some (.int .u8 u) := (HD.out.far hg4 j).trans hcd; have H4 := Lib.hid (HD.out.later hc4 hg4); have hfr4 := H4.out.free j; clear hc4 hg4))
      all_goals
        go_wp2
        go_ret
        exact St.gives (H4.out.set j (by omega) _ (xor8 _ _).1 (xor8 _ _).2) (by omega)
    · go_wp2
      go_ret
      exact St.gives H2.out (by omega)
  · have d0 : (x == 0) = false := by simp; omega
    have d1 : (x == 1) = false := by simp; omega
    have d2 : (x == 2) = false := by simp; omega
    have d3 : (x == 3) = false := by simp; omega
    go_wp2
    go_ret
    exact St.gives H2.out (by omega)

theorem l1Bent_any (g : Nat) (A : Option Addr) (n c : Nat) (l : List UInt8) (w : World) (hc : Cur w g) (hs : Sl w w.heap.size A n l) (hnil : A = none → n = 0 ∧ c = 0) (hn : n ≤ 10000) :
    Calls Tryz.prog 60 #[.pointer (some ⟨g, 0, none⟩), .slice A n c] w (Bnt w g (n + 1)) :=
  (l1BentO_any g A n c l w hc hs hnil hn).mono fun e w' ⟨gb, m, cap, l, he, hm, ho, hc', hg⟩ => by
    have hl : l.length = m := by have := ho.1; simpa using this
    obtain ⟨r, hb, hr, hge⟩ := bk_of_owns ho
    exact ⟨gb, m, cap, r, l, he, hl, by rw [← hr, List.length_append, List.length_map, hl]; omega, hm, hge, hb, hc', hg⟩
end Go.Proofs.YtcpadkehalgddaaGreatDoor.Bent

/- What the model's draws of bytes with names in them do: new slices of at most 400 bytes, offsets, short texts; nothing that was there is turned. -/
namespace Go.Proofs.YtcpadkehalgddaaGreatDoor.DrawW
open Go.RowKit Go.Proofs.YtcpadkehalgddaaGreatDoor.Mem Go.Proofs.YtcpadkehalgddaaGreatDoor.Draw Go.Proofs.YtcpadkehalgddaaGreatDoor.DrawS Go.Proofs.YtcpadkehalgddaaGreatDoor.DrawL Go.Proofs.YtcpadkehalgddaaGreatDoor.DrawN Go.Proofs.YtcpadkehalgddaaGreatDoor.App Go.Proofs.YtcpadkehalgddaaGreatDoor.Draw2 Go.Proofs.YtcpadkehalgddaaGreatDoor.Bent Go.Proofs.YtcpadkehalgddaaGreatDoor.PutSpec

theorem cur_below {w w' : World} {g : Nat} (h : Cur w g) (hb : Below w.heap.size w w') : Cur w' g :=
  h.grown (row := none) ⟨hb.os, hb.tape, hb.output, hb.size, fun k hk _ => hb.block k hk⟩ (fun k hk => by cases hk)
theorem grown_below {a w w' : World} {r : Option Nat} (h : a.grownBy w r) (hb : Below w.heap.size w w') : a.grownBy w' r :=
  grown_trans h ⟨hb.os, hb.tape, hb.output, hb.size, fun k hk _ => hb.block k hk⟩
/-- A row of bytes of one's own at or beyond base, m of them. -/
def Ro (w : World) (base gb m cap : Nat) : Prop := ∃ l : List UInt8, w.ownsRow base 5 1 (.slice (some ⟨gb, 0, none⟩) m cap) m (l.map bv)
section
variable {w w' : World} {base gb m cap : Nat}
theorem Ro.far {g : Nat} (h : Ro w base gb m cap) (hg : w.grownBy w' (some g)) (hb : g < base) : Ro w' base gb m cap := by
  obtain ⟨l, h⟩ := h
  exact ⟨l, h.kept hg (Or.inr (fun e => by have h1 := (h.lt gb rfl).1; have h2 := Option.some.inj e; simp at h2; omega))⟩
theorem Ro.below (h : Ro w base gb m cap) (hb : Below w.heap.size w w') : Ro w' base gb m cap := by
  obtain ⟨l, h⟩ := h
  exact ⟨l, h.kept (row := none) ⟨hb.os, hb.tape, hb.output, hb.size, fun k hk _ => hb.block k hk⟩ (Or.inr (by simp [Value.ownBlock]))⟩
theorem Ro.alloc (h : Ro w base gb m cap) (o : Obj) : Ro (w.alloc o) base gb m cap := by
  obtain ⟨l, h⟩ := h
  exact ⟨l, h.alloc o⟩
theorem Ro.sl (h : Ro w base gb m cap) : ∃ l : List UInt8, Sl w w.heap.size (some ⟨gb, 0, none⟩) m l ∧ m ≤ cap := by
  obtain ⟨l, h⟩ := h
  have hl : l.length = m := by have := h.1; simpa using this
  obtain ⟨r, hb, hr, _⟩ := bk_of_owns h
  exact ⟨l, hl ▸ (hb.sl'.wider hb.lt), by rw [← hr, List.length_append, List.length_map, hl]; omega⟩
end
/-- Two bytes. A def, so that no step of a walk opens it. -/
def duo (y z : Int) : List UInt8 := [UInt8.ofNat y.toNat, UInt8.ofNat z.toNat]
theorem duo_len (y z : Int) : (duo y z).length = 2 := rfl
theorem duo_cells (y z : Int) (h0 : 0 ≤ y) (h1 : y < 256) (k0 : 0 ≤ z) (k1 : z < 256) : (#[.int .u8 y, .int .u8 z] : Array Value).toList = (duo y z).map bv := by
  simp only [duo, List.map_cons, List.map_nil]
  rw [bv_of y h0 h1, bv_of z k0 k1]
def heads : List Int := [192, 193, 255, 3, 13, 0]
theorem heads_byte (x : Int) (h : x ∈ heads) : 0 ≤ x ∧ x < 256 := by simp [heads] at h; omega

/-- Bytes with names in them, and an offset; the cursor moved, nothing else turned. -/
def L4 (w : World) (g : Nat) (e : Ending) (w' : World) : Prop :=
  ∃ (gb m cap a : Nat), e = .returned (.tuple #[.slice (some ⟨gb, 0, none⟩) m cap, .int .i64 (a : Int)]) ∧ m ≤ 340 ∧ a ≤ 340 ∧ Ro w' w.heap.size gb m cap ∧ Cur w' g ∧ w.grownBy w' (some g)

set_option maxRecDepth 100000 in
set_option maxHeartbeats 4000000 in
theorem l4Bytes_any (g : Nat) (w : World) (hc : Cur w g) : Calls Tryz.prog 30 #[.pointer (some ⟨g, 0, none⟩)] w (L4 w g) := by
  obtain ⟨i0, hi, hz0, hz1, hz2⟩ := info_parts Copy.info
  have HC := Lib.hid hc
  have GW := Lib.hid hc.lt
  clear hc
  go_enter Tryz.func30, Tryz.ntmps30
  go_wp2_with fail
  refine (l1Below_any g 3 w HC.out (by omega) (by omega)).mono ?_
  rintro e w1 ⟨x, rfl, hx0, hx1, hc1, hg1⟩
  obtain ⟨m0, rfl⟩ := Int.eq_ofNat_of_zero_le hx0
  have C1 := Lib.hid hc1
  have G1 := Lib.hid hg1
  clear hc1 hg1 HC
  go_wp2_with fail
  refine (l1BytesO_any g m0 w1 C1.out (by omega)).mono ?_
  rintro e w2 ⟨gb, cap, lb, rfl, _, ho, hc2, hg2⟩
  have O2 : Hid (Ro w2 w.heap.size gb m0 cap) := ⟨lb, owns_base ho G1.out.size⟩
  have C2 := Lib.hid hc2
  have G2 := Lib.hid (grown_trans G1.out hg2)
  clear hc2 hg2 ho C1 G1
  go_wp2_with fail
  refine (l1Below_any g 4 w2 C2.out (by omega) (by omega)).mono ?_
  rintro e w3 ⟨y, rfl, hy0, hy1, hc3, hg3⟩
  obtain ⟨q0, rfl⟩ := Int.eq_ofNat_of_zero_le hy0
  have O3 := Lib.hid (O2.out.far hg3 GW.out)
  have C3 := Lib.hid hc3
  have G3 := Lib.hid (grown_trans G2.out hg3)
  clear hc3 hg3 C2 G2 O2
  go_wp2
  go_loopw [4, 5, 6] (fun v a i wr => ∃ (gb m cap a' q : Nat), q ≤ 4 ∧ m + 82 * q ≤ 330 ∧ a' ≤ 330 ∧ i = .int .i64 ((q : Int) - 1) ∧ a = .int .i64 (a' : Int) ∧ v = .slice (some ⟨gb, 0, none⟩) m cap ∧ Hid (Ro wr w.heap.size gb m cap) ∧ Hid (Cur wr g) ∧ Hid (w.grownBy wr (some g))) (fun _ _ i _ => (intOf i + 1).toNat)
  case atStart => exact ⟨gb, m0, cap, m0, q0 + 1, by omega, by omega, by omega, by go_num, rfl, rfl, O3.out, C3.out, G3.out⟩
  case round =>
    clear O3 C3 G3
    obtain ⟨gb, m, cap, a, q, hq, hm, ha, rfl, rfl, rfl, HO, HC, HG⟩ := hrel
    by_cases hq0 : 0 < q
    · obtain ⟨p, rfl⟩ : ∃ p, q = p + 1 := ⟨q - 1, by omega⟩
      have hp0 : (0 : Int) ≤ ((p + 1 : Nat) : Int) - 1 := by omega
      go_wp2_with fail
      refine (l3Name_any g wr HC.out).mono ?_
      rintro e w4 ⟨x, rfl, hx, hc4, hg4⟩
      have hxs : x.size ≤ 20 := hx
      have O4 := Lib.hid (HO.out.far hg4 GW.out)
      have C4 := Lib.hid hc4
      have G4 := Lib.hid (grown_trans HG.out hg4)
      clear hx hc4 hg4 HO HC HG
      obtain ⟨lb, hsl, hmc⟩ := O4.out.sl
      have SL := Lib.hid hsl
      clear hsl
      go_wp2_with fail
      refine (PutSpec.spec (some ⟨gb, 0, none⟩) m cap lb x w4 SL.out hmc (fun h => by cases h) (by omega) (by omega)).mono ?_
      rintro e w5 ⟨g5, cap5, rfl, ho5, hl⟩
      have hm5 : (lb ++ tailN lb x).length ≤ m + 80 := by rw [List.length_append, SL.out.1]; have := tailN_len lb x; omega
      have O5 : Hid (Ro w5 w.heap.size g5 (lb ++ tailN lb x).length cap5) := ⟨_, owns_base ho5 G4.out.size⟩
      have C5 := Lib.hid (cur_below C4.out hl)
      have G5 := Lib.hid (grown_below G4.out hl)
      clear ho5 hl C4 G4 O4 SL
      generalize (lb ++ tailN lb x).length = m5 at *
      go_wp2_with fail
      refine (l1Once_any g 5 w5 C5.out (by omega) (by omega)).mono ?_
      rintro e w6 ⟨b, rfl, hc6, hg6⟩
      have O6 := Lib.hid (O5.out.far hg6 GW.out)
      have C6 := Lib.hid hc6
      have G6 := Lib.hid (grown_trans G5.out hg6)
      clear hc6 hg6 C5 G5 O5
      cases b
      · go_wp2
        go_roundw
        case rel => exact ⟨g5, m5, cap5, m, p, by omega, by omega, by omega, by go_num, rfl, rfl, O6.out, C6.out, G6.out⟩
        case measure => first | (simp [intOf]; done) | (simp [intOf]; omega)
      · go_wp2_with fail
        refine (l1Int_any g w6.heap.size 6 heads _ (C6.out.alloc _) (bk_ints w6 heads _ rfl) (Nat.ne_of_gt C6.out.lt) rfl (by omega) (by omega)).mono ?_
        rintro e w7 ⟨y, rfl, hy, hc7, hg7⟩
        obtain ⟨y0, y1⟩ := heads_byte y hy
        have O7 := Lib.hid ((O6.out.alloc _).far hg7 GW.out)
        have C7 := Lib.hid hc7
        have G7 := Lib.hid (grown_trans (grown_trans G6.out (World.grownBy_alloc w6 _ (some g))) hg7)
        clear hy hc7 hg7 C6 G6 O6
        go_wp2_with fail
        refine (l1Below_any g 12 w7 C7.out (by omega) (by omega)).mono ?_
        rintro e w8 ⟨z, rfl, z0, z1, hc8, hg8⟩
        have O8 := Lib.hid (O7.out.far hg8 GW.out)
        have C8 := Lib.hid hc8
        have G8 := Lib.hid (grown_trans G7.out hg8)
        clear hc8 hg8 C7 G7 O7
        obtain ⟨l8, ho8⟩ := O8.out
        have P8 := Lib.hid ho8
        clear ho8
        have DC := Lib.hid (duo_cells y z y0 y1 z0 (by omega))
        go_wp2_with (at_builtin; refine append_src rfl (.tmp 27) (.tmp 35) 22 rfl w.heap.size 5 i0 (.int .u8 0) Tryz.underlying22 hi hz0 hz1 hz2 rfl g5 m5 cap5 _ rfl (P8.out.alloc _) _ 2 2 _ (duo y z) rfl (sl_new w8 _ (duo y z) DC.out) (fun h => by cases h) ?d1 ?d2 ?d3 ?_)
        case d1 => omega
        case d2 => omega
        case d3 => have := G8.out.size; simp; omega
        intro g9 cap9 w9 hown hgrow
        have O9 : Hid (Ro w9 w.heap.size g9 (m5 + 2) cap9) := ⟨l8 ++ duo y z, by rw [List.map_append]; exact hown⟩
        have C9 := Lib.hid ((C8.out.alloc _).grown hgrow (fun j hj => by have h1 := (P8.out.lt g5 rfl).1; have h2 := GW.out; cases hj; omega))
        have G9 := Lib.hid (grown_more (grown_trans G8.out (World.grownBy_alloc w8 _ (some g))) hgrow (P8.out.lt g5 rfl).1)
        clear hown hgrow P8 C8 G8 O8 DC
        go_wp2
        go_roundw
        case rel => exact ⟨g9, m5 + 2, cap9, m, p, by omega, by omega, by omega, by go_num, rfl, rfl, O9.out, C9.out, G9.out⟩
        case measure => first | (simp [intOf]; done) | (simp [intOf]; omega)
    · have hq1 : q = 0 := by omega
      subst hq1
      have hneg : ¬ (0 : Int) ≤ ((0 : Nat) : Int) - 1 := by omega
      go_wp2_with fail
      refine (l1Once_any g 4 wr HC.out (by omega) (by omega)).mono ?_
      rintro e w4 ⟨b, rfl, hc4, hg4⟩
      have O4 := Lib.hid (HO.out.far hg4 GW.out)
      have C4 := Lib.hid hc4
      have G4 := Lib.hid (grown_trans HG.out hg4)
      clear hc4 hg4 HO HC HG
      cases b
      · go_wp2
        go_ret2
        exact ⟨gb, m, cap, a, rfl, by omega, by omega, O4.out, C4.out, G4.out⟩
      · obtain ⟨lb, hsl, hmc⟩ := O4.out.sl
        have SL := Lib.hid hsl
        clear hsl
        go_wp2_with fail
        refine (l1BentO_any g (some ⟨gb, 0, none⟩) m cap lb w4 C4.out SL.out (fun h => by cases h) (by omega)).mono ?_
        rintro e w5 ⟨g5, m5, cap5, l5, rfl, hm5, ho5, hc5, hg5⟩
        have O5 : Hid (Ro w5 w.heap.size g5 m5 cap5) := ⟨l5, owns_base ho5 G4.out.size⟩
        have C5 := Lib.hid hc5
        have G5 := Lib.hid (grown_trans G4.out hg5)
        clear hc5 hg5 ho5 C4 G4 O4 SL
        go_wp2
        go_ret2
        exact ⟨g5, m5, cap5, a, rfl, by omega, by omega, O5.out, C5.out, G5.out⟩

/-- Bytes and a text; nothing that was there is turned. -/
def ByTx (w : World) (e : Ending) (w' : World) : Prop :=
  ∃ (gb m cap : Nat) (x : ByteArray), e = .returned (.tuple #[.slice (some ⟨gb, 0, none⟩) m cap, .string x]) ∧ m ≤ 400 ∧ x.size ≤ 60 ∧ Ro w' w.heap.size gb m cap ∧ Below w.heap.size w w'
/-- Bytes and an offset; nothing that was there is turned. -/
def ByIn (w : World) (e : Ending) (w' : World) : Prop :=
  ∃ (gb m cap : Nat) (x : Int), e = .returned (.tuple #[.slice (some ⟨gb, 0, none⟩) m cap, .int .i64 x]) ∧ m ≤ 400 ∧ -1 ≤ x ∧ x ≤ 400 ∧ Ro w' w.heap.size gb m cap ∧ Below w.heap.size w w'
theorem Ro.down {w : World} {b base gb m cap : Nat} (h : Ro w base gb m cap) (hb : b ≤ base) : Ro w b gb m cap := by
  obtain ⟨l, h⟩ := h
  exact ⟨l, owns_base h hb⟩

def ats : List Int := [-1, 0, 1, 99]
theorem ats_in (x : Int) (h : x ∈ ats) : -1 ≤ x ∧ x ≤ 99 := by simp [ats] at h; omega

end Go.Proofs.YtcpadkehalgddaaGreatDoor.DrawW

/- What the model's draws for PutRecord and PutRecords do: short slices of bytes, records of short texts; nothing that was there is turned. -/
namespace Go.Proofs.YtcpadkehalgddaaGreatDoor.DrawP
open Go.RowKit Go.Proofs.YtcpadkehalgddaaGreatDoor.Mem Go.Proofs.YtcpadkehalgddaaGreatDoor.MemR Go.Proofs.YtcpadkehalgddaaGreatDoor.BoxR Go.Proofs.YtcpadkehalgddaaGreatDoor.App Go.Proofs.YtcpadkehalgddaaGreatDoor.Draw Go.Proofs.YtcpadkehalgddaaGreatDoor.DrawS Go.Proofs.YtcpadkehalgddaaGreatDoor.DrawL Go.Proofs.YtcpadkehalgddaaGreatDoor.DrawN Go.Proofs.YtcpadkehalgddaaGreatDoor.DrawW Go.Proofs.YtcpadkehalgddaaGreatDoor.AppR Go.Proofs.YtcpadkehalgddaaGreatDoor.ResR Go.Proofs.YtcpadkehalgddaaGreatDoor.DrawR Go.Proofs.YtcpadkehalgddaaGreatDoor.DrawA Go.Proofs.YtcpadkehalgddaaGreatDoor.GetsM

theorem results_tmp_cell {fn : Func} {p u : Tmp} {ty : TypeId} (h : fn.results = #[.tmp u, .cell p ty]) (tmps : Array Value) (P : Program) (w : World) :
    (results fn tmps).run P w = ((asAddr (tmps.getD p undef)).run P w).andThen fun a w₁ => ((loadVar ty a).run P w₁).andThen fun x w₂ => .ok (.tuple #[tmps.getD u undef, x]) w₂ := by
  simp only [results, h]
  simp [Sem.run_bind, Result.andThen]
theorem res2' {fn : Func} {p u : Tmp} {w : World} {g : Nat} {t : TypeId} {r : Rec} {x : Value} {tmps : Array Value} (hf : fn.results = #[.tmp u, .cell p 25]) (h : Bk w g t (rc r)) (h4 : tmps.getD p undef = .pointer (some ⟨g, 0, none⟩)) (h5 : tmps.getD u undef = x) :
    (results fn tmps).run Tryz.prog w = .ok (.tuple #[x, .agg #[.string r.name, .int .i64 r.ty, .int .i64 r.ttl, .int .i64 r.n, .string r.host, .string r.text]]) w := by
  rw [results_tmp_cell hf, h4, h5, as_addr]
  simp only [Result.andThen, load_rec h]
theorem fil_grown (w : World) (g : Nat) (r : Rec) : w.grownBy (fil w g r) (some g) := grown_set (grown_set (grown_set (grown_set (grown_set (grown_set (grown_refl w (some g)) 0 (.string r.name)) 1 (.int .i64 r.ty)) 2 (.int .i64 r.ttl)) 3 (.int .i64 r.n)) 4 (.string r.host)) 5 (.string r.text)

/-- Bytes and a record; nothing that was there is turned. -/
def Dpr (w : World) (e : Ending) (w' : World) : Prop :=
  ∃ (gb m cap : Nat) (l : List UInt8) (r : Rec), e = .returned (.tuple #[.slice (some ⟨gb, 0, none⟩) m cap, .agg #[.string r.name, .int .i64 r.ty, .int .i64 r.ttl, .int .i64 r.n, .string r.host, .string r.text]]) ∧ m ≤ 340 ∧ m ≤ cap ∧ Sml r ∧ Sl w' w'.heap.size (some ⟨gb, 0, none⟩) m l ∧ Below w.heap.size w w'

set_option maxHeartbeats 4000000 in
set_option maxRecDepth 100000 in
theorem drawPutRecord_any (A : Option Addr) (n c : Nat) (l : List UInt8) (w : World) (hs : Sl w w.heap.size A n l) (hn : n ≤ 1048576) : Calls Tryz.prog 7 #[.slice A n c] w (Dpr w) := by
  have HS := Lib.hid (sl_alloc hs (.cells #[.string ⟨#[]⟩, .int .i64 0, .int .i64 0, .int .i64 0, .string ⟨#[]⟩, .string ⟨#[]⟩] 25))
  have Z0 := Lib.hid (zero_box w)
  have L0 := Lib.hid ((Below.refl w.heap.size w).alloc (Nat.le_refl _) (.cells #[.string ⟨#[]⟩, .int .i64 0, .int .i64 0, .int .i64 0, .string ⟨#[]⟩, .string ⟨#[]⟩] 25))
  clear hs
  have K := Lib.hid (l1New_any A n c l _ HS.out hn)
  rw [show (w.alloc (.cells #[.string ⟨#[]⟩, .int .i64 0, .int .i64 0, .int .i64 0, .string ⟨#[]⟩, .string ⟨#[]⟩] 25)).heap.size = w.heap.size + 1 by simp] at K
  go_enter Tryz.func7, Tryz.ntmps7
  go_wp2_with fail
  refine K.out.mono ?_
  rintro e w1 ⟨rfl, hc1, hg1⟩
  have C1 := Lib.hid hc1
  have Z1 := Lib.hid (Z0.out.grown hg1 (fun e => by cases e))
  have L1 := Lib.hid (L0.out.trans ((below_of_grown hg1).mono L0.out.size))
  clear hc1 hg1 Z0 L0 K
  go_wp2_with fail
  refine (l4Bytes_any (w.heap.size + 1) w1 C1.out).mono ?_
  rintro e w2 ⟨gb, m, cap, a, rfl, hm, ha, ho, hc2, hg2⟩
  have O2 := Lib.hid ho
  have C2 := Lib.hid hc2
  have Z2 := Lib.hid (Z1.out.grown hg2 (fun e => by have := Option.some.inj e; omega))
  have G1 := Lib.hid C1.out.lt
  have L2 := Lib.hid (L1.out.grown hg2 L1.out.size (fun j hj => by cases hj; omega))
  clear ho hc2 hg2 C1 Z1 L1
  go_wp2_with fail
  refine (l5Any_any (w.heap.size + 1) w2 C2.out).mono ?_
  rintro e w3 ⟨r, rfl, hr, hc3, hg3⟩
  have HR := Lib.hid hr
  have O3 := Lib.hid (O2.out.far hg3 G1.out)
  have Z3 := Lib.hid (Z2.out.grown hg3 (fun e => by have := Option.some.inj e; omega))
  have L3 := Lib.hid (L2.out.grown hg3 L2.out.size (fun j hj => by cases hj; omega))
  have O4 := Lib.hid (O3.out.far (fil_grown w3 w.heap.size r) (by have := G1.out; omega))
  clear hr hc3 hg3 C2 Z2 L2 O2 O3
  obtain ⟨z0, z1, z2, z3, z4, z5⟩ := bx_of Z3.out
  have fz0 := Z3.out.free 0
  have fz1 := Z3.out.free 1
  have fz2 := Z3.out.free 2
  have fz3 := Z3.out.free 3
  have fz4 := Z3.out.free 4
  have fz5 := Z3.out.free 5
  obtain ⟨lb, hsl, hmc⟩ := O4.out.sl
  have SL := Lib.hid hsl
  clear hsl
  go_wp2
  exact bodyPost_ret (v := .tuple #[.slice (some ⟨gb, 0, none⟩) m cap, .agg #[.string r.name, .int .i64 r.ty, .int .i64 r.ttl, .int .i64 r.n, .string r.host, .string r.text]]) (res2' rfl (fil_bk Z3.out r) rfl rfl) rfl ⟨gb, m, cap, lb, r, rfl, hm, hmc, HR.out, SL.out, fil_below L3.out (Nat.le_refl _) r⟩

/-- Bytes and records; nothing that was there is turned. -/
def Dprs (w : World) (e : Ending) (w' : World) : Prop :=
  ∃ (gb m cap gl cap' : Nat) (l : List UInt8) (L : List Rec), e = .returned (.tuple #[.slice (some ⟨gb, 0, none⟩) m cap, .slice (some ⟨gl, 0, none⟩) L.length cap']) ∧ m ≤ 3 ∧ m ≤ cap ∧ L.length ≤ 5 ∧ (∀ r ∈ L, Sml r) ∧ Sl w' w'.heap.size (some ⟨gb, 0, none⟩) m l ∧ Sr w' w'.heap.size (some ⟨gl, 0, none⟩) L.length L ∧ Below w.heap.size w w'
theorem own_sr {w : World} {base gl n cap : Nat} {L : List Rec} (h : w.ownsRow base 25 6 (.slice (some ⟨gl, 0, none⟩) n cap) n (fl L)) : Sr w w.heap.size (some ⟨gl, 0, none⟩) L.length L := by
  obtain ⟨r, hb, _, _, _⟩ := bk_of_owns6 h
  exact bk_sr hb rfl
theorem own_slb {w : World} {base g m cap : Nat} {l : List UInt8} (h : w.ownsRow base 5 1 (.slice (some ⟨g, 0, none⟩) m cap) m (l.map bv)) : Sl w w.heap.size (some ⟨g, 0, none⟩) m l ∧ m ≤ cap := by
  have hl : l.length = m := by have := h.1; simpa using this
  obtain ⟨r, hb, hr, _⟩ := bk_of_owns h
  exact ⟨hl ▸ (hb.sl'.wider hb.lt), by rw [← hr, List.length_append, List.length_map, hl]; omega⟩

set_option maxHeartbeats 4000000 in
set_option maxRecDepth 100000 in
theorem drawPutRecords_any (A : Option Addr) (n c : Nat) (l : List UInt8) (w : World) (hs : Sl w w.heap.size A n l) (hn : n ≤ 1048576) : Calls Tryz.prog 16 #[.slice A n c] w (Dprs w) := by
  have HS := Lib.hid hs
  clear hs
  go_enter Tryz.func16, Tryz.ntmps16
  go_wp2_with fail
  refine (l1New_any A n c l w HS.out hn).mono ?_
  rintro e w1 ⟨rfl, hc1, hg1⟩
  have C1 := Lib.hid hc1
  have G1 := Lib.hid hc1.lt
  have L1 := Lib.hid (below_of_grown hg1)
  clear hc1 hg1
  go_wp2_with fail
  refine (l5List_any w.heap.size 4 w1 C1.out (by omega)).mono ?_
  rintro e w2 ⟨gl, cap, L, rfl, ho, hL, hS, hc2, hg2⟩
  obtain ⟨m, hm⟩ : ∃ m, L.length = m := ⟨_, rfl⟩
  rw [hm] at ho hL ⊢
  have O2 := Lib.hid ho
  have S2 := Lib.hid hS
  have C2 := Lib.hid hc2
  have L2 := Lib.hid (below_more L1.out hg2 (Nat.le_refl _))
  have G2 := Lib.hid (Nat.lt_of_lt_of_le G1.out hg2.size)
  clear ho hS hc2 hg2 hm C1
  go_wp2_with fail
  refine (l1Once_any w.heap.size 5 w2 C2.out (by omega) (by omega)).mono ?_
  rintro e w3 ⟨b, rfl, hc3, hg3⟩
  have O3 := Lib.hid (own_far O2.out hg3 G1.out)
  have C3 := Lib.hid hc3
  have L3 := Lib.hid (below_more L2.out hg3 (Nat.le_refl _))
  clear hc3 hg3 C2 O2 L2
  cases b
  · go_wp2_with fail
    refine (l1Below_any w.heap.size 3 w3 C3.out (by omega) (by omega)).mono ?_
    rintro e w4 ⟨y, rfl, hy0, hy1, hc, hg⟩
    obtain ⟨my, rfl⟩ := Int.eq_ofNat_of_zero_le hy0
    have O4 := Lib.hid (own_far O3.out hg G1.out)
    have C4 := Lib.hid hc
    have L4 := Lib.hid (below_more L3.out hg (Nat.le_refl _))
    clear hc hg
    go_wp2_with fail
    refine (Draw2.l1BytesO_any w.heap.size my w4 C4.out (by omega)).mono ?_
    rintro e w5 ⟨gb, capb, lb, rfl, hlb, hob, hc, hg⟩
    have O5 := Lib.hid (own_far O4.out hg G1.out)
    have L5 := Lib.hid (below_more L4.out hg (Nat.le_refl _))
    have SR := Lib.hid (own_sr O5.out)
    have hlen := own_len O5.out
    obtain ⟨hsl, hmc⟩ := own_slb hob
    have SB := Lib.hid hsl
    clear hob hc hg hsl
    go_wp2
    go_ret2
    exact ⟨gb, my, capb, gl, cap, lb, L, by rw [hlen]; rfl, by omega, hmc, by omega, S2.out, SB.out, SR.out, L5.out⟩
  · go_wp2_with fail
    refine (l5Any_any w.heap.size w3 C3.out).mono ?_
    rintro e w4 ⟨r, rfl, hr, hc4, hg4⟩
    have HR := Lib.hid hr
    have O5 := Lib.hid ((own_far O3.out hg4 G1.out).alloc (.cells #[.string r.name, .int .i64 r.ty, .int .i64 r.ttl, .int .i64 r.n, .string r.host, .string r.text] 25))
    have C5 := Lib.hid (hc4.alloc (.cells #[.string r.name, .int .i64 r.ty, .int .i64 r.ttl, .int .i64 r.n, .string r.host, .string r.text] 25))
    have L4 := Lib.hid (below_more L3.out hg4 (Nat.le_refl _))
    have L5 := Lib.hid (L4.out.alloc L4.out.size (.cells #[.string r.name, .int .i64 r.ty, .int .i64 r.ttl, .int .i64 r.n, .string r.host, .string r.text] 25))
    have X5 := Lib.hid (one_sr w4 r)
    have G5 := Lib.hid (show w1.heap.size ≤ (w4.alloc (.cells #[.string r.name, .int .i64 r.ty, .int .i64 r.ttl, .int .i64 r.n, .string r.host, .string r.text] 25)).heap.size from by have := (O5.out.lt gl rfl); omega)
    clear hr hc4 hg4 O3 C3 L3 L4
    go_wp2_with (at_builtin; refine append_recs rfl (.tmp 12) (.tmp 15) rfl w1.heap.size gl m cap L rfl O5.out w4.heap.size 0 1 1 _ [r] rfl X5.out ?d1 ?d2 ?d3 ?_)
    case d1 => omega
    case d2 => omega
    case d3 => exact G5.out
    intro g6 cap6 w6 hown hgrow
    have O6 := Lib.hid hown
    have C6 := Lib.hid (cur_far C5.out O5.out hgrow G1.out)
    have L6 := Lib.hid (L5.out.grown hgrow L5.out.size (fun j hj => by cases hj; have := (O5.out.lt gl rfl).1; have := G1.out; omega))
    have S6 : Hid (∀ x ∈ L ++ [r], Sml x) := fun x hx => by
      rcases List.mem_append.1 hx with hx | hx
      · exact S2.out x hx
      · rw [List.mem_singleton.1 hx]; exact HR.out
    clear hown hgrow O5 C5 L5 X5 S2 HR
    go_wp2_with fail
    refine (l1Below_any w.heap.size 3 w6 C6.out (by omega) (by omega)).mono ?_
    rintro e w7 ⟨y, rfl, hy0, hy1, hc, hg⟩
    obtain ⟨my, rfl⟩ := Int.eq_ofNat_of_zero_le hy0
    have O7 := Lib.hid (own_far O6.out hg G1.out)
    have C7 := Lib.hid hc
    have L7 := Lib.hid (below_more L6.out hg (Nat.le_refl _))
    clear hc hg
    go_wp2_with fail
    refine (Draw2.l1BytesO_any w.heap.size my w7 C7.out (by omega)).mono ?_
    rintro e w8 ⟨gb, capb, lb, rfl, hlb, hob, hc, hg⟩
    have O8 := Lib.hid (own_far O7.out hg G1.out)
    have L8 := Lib.hid (below_more L7.out hg (Nat.le_refl _))
    have SR := Lib.hid (own_sr O8.out)
    have hlen := own_len O8.out
    obtain ⟨hsl, hmc⟩ := own_slb hob
    have SB := Lib.hid hsl
    clear hob hc hg hsl
    go_wp2
    go_ret2
    exact ⟨gb, my, capb, g6, cap6, lb, L ++ [r], by rw [hlen]; rfl, by omega, hmc, by omega, S6.out, SB.out, SR.out, L8.out⟩
end Go.Proofs.YtcpadkehalgddaaGreatDoor.DrawP

/- What the model's PutData does: a new slice with the data of a valid record, an empty one for an invalid record. Condition: at most 1048576 bytes in each text. -/
namespace Go.Proofs.YtcpadkehalgddaaGreatDoor.DataS
open Go.RowKit Go.Proofs.YtcpadkehalgddaaGreatDoor.Mem Go.Proofs.YtcpadkehalgddaaGreatDoor.MemR Go.Proofs.YtcpadkehalgddaaGreatDoor.App Go.Proofs.YtcpadkehalgddaaGreatDoor.Put Go.Proofs.YtcpadkehalgddaaGreatDoor.PutLabel Go.Proofs.YtcpadkehalgddaaGreatDoor.BoxR Go.Proofs.YtcpadkehalgddaaGreatDoor.RecOk Go.Proofs.YtcpadkehalgddaaGreatDoor.Plain Go.Proofs.YtcpadkehalgddaaGreatDoor.FieldMath

/-- The texts of a record are not long. -/
def Med (r : Rec) : Prop := r.name.size ≤ 1048576 ∧ r.host.size ≤ 1048576 ∧ r.text.size ≤ 1048576
theorem Med.mod {r : Rec} (h : Med r) : Mod r := ⟨Nat.le_trans h.1 (by decide), Nat.le_trans h.2.1 (by decide), Nat.le_trans h.2.2 (by decide)⟩
/-- A new empty slice. -/
theorem gives_nil {w w1 : World} (h : Below w.heap.size w w1) : Gives w [] (.returned (.slice (some ⟨w1.heap.size, 0, none⟩) 0 0)) (w1.alloc (.cells #[] 5)) :=
  ⟨w1.heap.size, 0, 0, [], rfl, rfl, Nat.le_refl _, h.size, heap_alloc_new w1 _, h.alloc h.size _⟩
theorem text_len {r : Rec} (h : rok r = true) (ht : r.ty = 16) : r.text.size ≤ 12 := by
  rw [rok, ht, dko_16, Bool.and_eq_true, Bool.and_eq_true, Bool.and_eq_true, TextR.txo, Bool.and_eq_true] at h
  exact of_decide_eq_true h.2.2.1.2
theorem data_text (s : ByteArray) : (one s.size).map bv ++ s.data.toList.map bv = (one s.size ++ s.data.toList).map bv := by rw [List.map_append]

/-- Nothing of w has been turned. A def, so that no step of a walk opens it. -/
def Sv (w w' : World) : Prop := Below w.heap.size w w'
theorem kept {w w1 w2 : World} {g : Nat} {n : Int} {s : ByteArray} (h : (w1.cell? ⟨g, 3, none⟩ = some (.int .i64 n) ∧ w1.cell? ⟨g, 4, none⟩ = some (.string s)) ∧ Sv w w1) (hl : Below w1.heap.size w1 w2) : (w2.cell? ⟨g, 3, none⟩ = some (.int .i64 n) ∧ w2.cell? ⟨g, 4, none⟩ = some (.string s)) ∧ Sv w w2 := by
  have hg : g < w1.heap.size := World.block_lt_of_cell? _ _ h.1.1
  exact ⟨⟨(hl.cell (p := ⟨g, 3, none⟩) hg).trans h.1.1, (hl.cell (p := ⟨g, 4, none⟩) hg).trans h.1.2⟩, h.2.trans (hl.mono h.2.size)⟩
theorem kept_draw {w w1 : World} {g : Nat} {n : Int} {s : ByteArray} (h : (w1.cell? ⟨g, 3, none⟩ = some (.int .i64 n) ∧ w1.cell? ⟨g, 4, none⟩ = some (.string s)) ∧ Sv w w1) : (w1.drew.cell? ⟨g, 3, none⟩ = some (.int .i64 n) ∧ w1.drew.cell? ⟨g, 4, none⟩ = some (.string s)) ∧ Sv w w1.drew := kept h ((Below.refl _ _).drew)
theorem kept_alloc {w w1 : World} {g : Nat} {n : Int} {s : ByteArray} (h : (w1.cell? ⟨g, 3, none⟩ = some (.int .i64 n) ∧ w1.cell? ⟨g, 4, none⟩ = some (.string s)) ∧ Sv w w1) (o : Obj) : ((w1.alloc o).cell? ⟨g, 3, none⟩ = some (.int .i64 n) ∧ (w1.alloc o).cell? ⟨g, 4, none⟩ = some (.string s)) ∧ Sv w (w1.alloc o) := kept h ((Below.refl _ _).alloc (Nat.le_refl _) _)

set_option maxRecDepth 100000 in
set_option maxHeartbeats 4000000 in
theorem spec (r : Rec) (w : World) (hr : Med r) : Calls Tryz.prog 12 #[.agg #[.string r.name, .int .i64 r.ty, .int .i64 r.ttl, .int .i64 r.n, .string r.host, .string r.text]] w (Gives w (dat r)) := by
  obtain ⟨i0, hi, hz0, hz1, hz2⟩ := info_parts Copy.info
  have RO := Lib.hid (fun w => RecOk.spec r w hr.mod)
  have TL := Lib.hid (fun h t => text_len (r := r) h t)
  have HY := Lib.hid (fun h => rok_ty (r := r) h)
  have HT := Lib.hid (show dat r = if rok r = true then dta r.ty r.n r.host r.text else [] from rfl)
  obtain ⟨name, ty, ttl, n, host, text⟩ := r
  obtain ⟨b1, b2, b3⟩ := hr
  simp only at b1 b2 b3 RO HY HT TL ⊢
  generalize dat ⟨name, ty, ttl, n, host, text⟩ = D at *
  have L0 := Lib.hid ((Below.refl w.heap.size w).alloc (Nat.le_refl _) (.cells #[.string name, .int .i64 ty, .int .i64 ttl, .int .i64 n, .string host, .string text] 25))
  have X0 := Lib.hid (bx_new w 25 ⟨name, ty, ttl, n, host, text⟩)
  cases hb : rok ⟨name, ty, ttl, n, host, text⟩ with
  | false =>
    have HB := Lib.hid hb
    clear hb
    go_enter Tryz.func12, Tryz.ntmps12
    go_wp2_with fail
    refine (RO.out _).mono ?_
    rw [HB.out]
    rintro e w1 ⟨rfl, hl⟩
    have L1 := Lib.hid (L0.out.trans (hl.mono L0.out.size))
    clear hl L0 X0
    go_wp2
    go_ret
    rw [HT.out, HB.out]
    exact gives_nil L1.out
  | true =>
    have HB := Lib.hid hb
    clear hb
    rcases HY.out HB.out with rfl | rfl | rfl | rfl | rfl
    · have HD : Hid (D = [] ++ tail4 n) := by show _ = _; rw [HT.out, if_pos HB.out, dta_1]; rfl
      go_enter Tryz.func12, Tryz.ntmps12
      go_wp2_with fail
      refine (RO.out _).mono ?_
      rw [HB.out]
      rintro e w1 ⟨rfl, hl⟩
      have L1 := Lib.hid (L0.out.trans (hl.mono L0.out.size))
      have X1 := Lib.hid (X0.out.below hl)
      clear hl L0 X0
      obtain ⟨x0, x1, x2, x3, x4, x5⟩ := X1.out
      obtain ⟨y0, y1, y2, y3, y4, y5⟩ := X1.out.alloc (.cells #[] 5)
      go_wp2_with fail
      refine (specPut4 (some ⟨w1.heap.size, 0, none⟩) 0 0 [] n _ Sl.nil (fun h => by cases h) (by omega)).mono ?_
      rintro e w2 hg
      rw [← HD.out] at hg
      obtain ⟨g, m, c1, rr, rfl, hm, hle, hgg, hk, hl⟩ := hg
      have F := Lib.hid (show Gives w D (.returned (.slice (some ⟨g, 0, none⟩) m c1)) w2 from Gives.later ⟨g, m, c1, rr, rfl, hm, hle, hgg, hk, hl⟩ (L1.out.alloc L1.out.size _))
      clear hm hle hgg hk hl
      go_wp2
      go_ret
      exact F.out
    · have HD : Hid (D = [] ++ tailP host) := by show _ = _; rw [HT.out, if_pos HB.out, dta_2]; rfl
      go_enter Tryz.func12, Tryz.ntmps12
      go_wp2_with fail
      refine (RO.out _).mono ?_
      rw [HB.out]
      rintro e w1 ⟨rfl, hl⟩
      have L1 := Lib.hid (L0.out.trans (hl.mono L0.out.size))
      have X1 := Lib.hid (X0.out.below hl)
      clear hl L0 X0
      obtain ⟨x0, x1, x2, x3, x4, x5⟩ := X1.out
      obtain ⟨y0, y1, y2, y3, y4, y5⟩ := X1.out.alloc (.cells #[] 5)
      go_wp2_with fail
      refine (Plain.spec (some ⟨w1.heap.size, 0, none⟩) 0 0 [] host _ Sl.nil (fun h => by cases h) (by omega) (by omega)).mono ?_
      rintro e w2 hgo
      have hg := hgo.gives
      clear hgo
      rw [← HD.out] at hg
      obtain ⟨g, m, c1, rr, rfl, hm, hle, hgg, hk, hl⟩ := hg
      have F := Lib.hid (show Gives w D (.returned (.slice (some ⟨g, 0, none⟩) m c1)) w2 from Gives.later ⟨g, m, c1, rr, rfl, hm, hle, hgg, hk, hl⟩ (L1.out.alloc L1.out.size _))
      clear hm hle hgg hk hl
      go_wp2
      go_ret
      exact F.out
    · have HD : Hid (D = [] ++ tailP host) := by show _ = _; rw [HT.out, if_pos HB.out, dta_5]; rfl
      go_enter Tryz.func12, Tryz.ntmps12
      go_wp2_with fail
      refine (RO.out _).mono ?_
      rw [HB.out]
      rintro e w1 ⟨rfl, hl⟩
      have L1 := Lib.hid (L0.out.trans (hl.mono L0.out.size))
      have X1 := Lib.hid (X0.out.below hl)
      clear hl L0 X0
      obtain ⟨x0, x1, x2, x3, x4, x5⟩ := X1.out
      obtain ⟨y0, y1, y2, y3, y4, y5⟩ := X1.out.alloc (.cells #[] 5)
      go_wp2_with fail
      refine (Plain.spec (some ⟨w1.heap.size, 0, none⟩) 0 0 [] host _ Sl.nil (fun h => by cases h) (by omega) (by omega)).mono ?_
      rintro e w2 hgo
      have hg := hgo.gives
      clear hgo
      rw [← HD.out] at hg
      obtain ⟨g, m, c1, rr, rfl, hm, hle, hgg, hk, hl⟩ := hg
      have F := Lib.hid (show Gives w D (.returned (.slice (some ⟨g, 0, none⟩) m c1)) w2 from Gives.later ⟨g, m, c1, rr, rfl, hm, hle, hgg, hk, hl⟩ (L1.out.alloc L1.out.size _))
      clear hm hle hgg hk hl
      go_wp2
      go_ret
      exact F.out
    · have HD : Hid (D = tailP host ++ tail4 n) := by show _ = _; rw [HT.out, if_pos HB.out, dta_6]
      go_enter Tryz.func12, Tryz.ntmps12
      go_wp2_with fail
      refine (RO.out _).mono ?_
      rw [HB.out]
      rintro e w1 ⟨rfl, hl⟩
      have L1 := Lib.hid (L0.out.trans (hl.mono L0.out.size))
      have X1 := Lib.hid (X0.out.below hl)
      clear hl L0 X0
      obtain ⟨x0, x1, x2, x3, x4, x5⟩ := X1.out
      have S0 : (w1.cell? ⟨w.heap.size, 3, none⟩ = some (.int .i64 n) ∧ w1.cell? ⟨w.heap.size, 4, none⟩ = some (.string host)) ∧ Sv w w1 := ⟨⟨x3, x4⟩, L1.out⟩
      have PP : Hid (∀ (W : World) (g : Nat), Calls Tryz.prog 41 #[.slice (some ⟨g, 0, none⟩) 0 0, .string host] W (Gives W (tailP host))) := fun W g => (Plain.spec (some ⟨g, 0, none⟩) 0 0 [] host W Sl.nil (fun h => by cases h) (by omega) (by omega)).mono fun e w' h => h.gives
      have hlP := tailP_len host
      have Z1 := Lib.hid L1.out.size
      clear L1 X1
      go_wp2
      clear x3 x4
      go_region_held3 (fun w' => (w'.cell? ⟨w.heap.size, 3, none⟩ = some (.int .i64 n) ∧ w'.cell? ⟨w.heap.size, 4, none⟩ = some (.string host)) ∧ Sv w w')
        (first | exact S0 | assumption | exact kept (by assumption) hl | exact kept_alloc (by assumption) _ | exact kept_draw (by assumption) | fail)
        (first
          | (go_at_call 41; refine (PP.out _ _).mono ?_; rintro e w11 ⟨gp, mp, cp, rp, rfl, hm, -, hgp, hbp, hl⟩)
          | (go_at_call 38; refine (specPut4 (some ⟨gp, 0, none⟩) mp cp (tailP host) n w11 (hm ▸ (hbp.sl'.wider hbp.lt)) (fun h => by cases h) (by rw [← hm]; omega)).mono ?_; rintro e w12 ⟨g, m, c1, rr, rfl, hm2, hle, hgg, hk, hl⟩)
          | fail)
      rename_i hH
      have hgw : w.heap.size ≤ g := by
        have h1 := Z1.out
        have h2 := hgp
        have h3 := hbp.lt
        simp at h2
        omega
      have F := Lib.hid (show Gives w D (.returned (.slice (some ⟨g, 0, none⟩) m c1)) w12 from ⟨g, m, c1, rr, rfl, by rw [HD.out]; exact hm2, hle, hgw, by rw [HD.out]; exact hk, hH.2⟩)
      clear hm hbp hm2 hle hgg hk hl hH hgw hgp S0
      go_wp2
      go_ret
      exact F.out
    · have HD : Hid (D = one text.size ++ text.data.toList) := by show _ = _; rw [HT.out, if_pos HB.out, dta_16]
      have ht : text.size ≤ 12 := TL.out HB.out rfl
      have ht1 : (text.size : Int) ≤ 12 := by omega
      go_enter Tryz.func12, Tryz.ntmps12
      go_wp2_with fail
      refine (RO.out _).mono ?_
      rw [HB.out]
      rintro e w1 ⟨rfl, hl⟩
      have L1 := Lib.hid (L0.out.trans (hl.mono L0.out.size))
      have X1 := Lib.hid (X0.out.below hl)
      clear hl L0 X0
      obtain ⟨x0, x1, x2, x3, x4, x5⟩ := X1.out
      obtain ⟨y0, y1, y2, y3, y4, y5⟩ := X1.out.alloc (.cells #[.int .u8 (text.size : Int)] 5)
      have B1 : Hid (Bk (w1.alloc (.cells #[.int .u8 (text.size : Int)] 5)) w1.heap.size 5 ((one text.size).map bv ++ [])) := by
        show Bk _ _ _ _
        unfold Bk
        rw [List.append_nil, ← one_cells text.size (by omega), heap_alloc_new]
      have O1 := Lib.hid (owns_of_bk (base := w.heap.size) (n := 1) (cap := 1) B1.out L1.out.size (one_len _) (by simp [one_len]) (by unfold maxLen; omega))
      go_wp2_with (at_builtin; refine append_str rfl (.tmp 30) (.tmp 32) 22 9 rfl w.heap.size 5 i0 Tryz.underlying22 Tryz.underlying9 hi hz0 hz1 hz2 w1.heap.size 1 1 _ rfl O1.out text rfl ?e1 ?e2 ?e3 ?_)
      case e1 => omega
      case e2 => omega
      case e3 => have := L1.out.size; simp; omega
      intro g3 cap3 w3 hown hgrow
      rw [data_text, ← HD.out] at hown
      have F := Lib.hid (gives_of_owns hown ((L1.out.alloc L1.out.size (.cells #[.int .u8 (text.size : Int)] 5)).grown hgrow (by have := L1.out.size; simp; omega) (fun j hj => by cases hj; exact L1.out.size)))
      clear hown hgrow
      go_wp2
      go_ret
      exact F.out
end Go.Proofs.YtcpadkehalgddaaGreatDoor.DataS

/- What Put2 does, in the program and in its model, told of a row of one's own: a new slice that holds the old bytes and the number's. -/
namespace Go.Proofs.YtcpadkehalgddaaGreatDoor.PutO
open Go.RowKit Go.Proofs.YtcpadkehalgddaaGreatDoor.Mem Go.Proofs.YtcpadkehalgddaaGreatDoor.App Go.Proofs.YtcpadkehalgddaaGreatDoor.Put

theorem GivesO.later {w0 w w' : World} {l : List UInt8} {e : Ending} (h : GivesO w l e w') (hb : Below w0.heap.size w0 w) : GivesO w0 l e w' := by
  obtain ⟨g, cap, he, ho, hl⟩ := h
  exact ⟨g, cap, he, owns_base ho hb.size, hb.trans (hl.mono hb.size)⟩
theorem appendedO (A A' : Option Addr) (n c n' c' : Nat) (l m : List UInt8) (w : World) (hs : Sl w w.heap.size A n l) (hs' : Sl w w.heap.size A' n' m)
    (hnil : A = none → n = 0 ∧ c = 0) (hnil' : A' = none → n' = 0 ∧ c' = 0) (hn : n ≤ 400000000) (hn' : n' ≤ 400000000) :
    Calls Tryz.prog 32 #[.slice A n c, .slice A' n' c'] w (GivesO w (l ++ m)) := by
  refine (appended_any A A' n c n' c' l m w hs hs' hnil hnil' hn hn').mono fun e w' ⟨he, hb, hl⟩ => ?_
  have h1 := hs.1
  have h2 := hs'.1
  rw [he]
  exact givesO_of (owns_of_bk (r := []) (by rw [List.append_nil]; exact hb) (Nat.le_refl _) (by rw [List.length_append, h1, h2]) (by rw [List.append_nil, List.length_map, List.length_append, h1, h2]) (by unfold maxLen; omega)) hl

set_option maxHeartbeats 1000000 in
theorem implPut2O (A : Option Addr) (n c : Nat) (l : List UInt8) (k : Int) (w : World) (hs : Sl w w.heap.size A n l) (hnil : A = none → n = 0 ∧ c = 0) (hn : n ≤ 400000000) :
    Calls Tryz.prog 34 #[.slice A n c, .int .i64 k] w (GivesO w (l ++ tail2 k)) := by
  have HS := Lib.hid hs
  have HN := Lib.hid hnil
  clear hs hnil
  by_cases hk : 0 ≤ k ∧ k ≤ 65535
  · have HT : Hid (tail2 k = two k) := if_pos hk
    obtain ⟨h0, h1⟩ := hk
    go_enter Tryz.func34, Tryz.ntmps34
    go_wp2_with fail
    refine (appendedO A _ n c 2 2 l (two k) _ (sl_alloc HS.out _) (sl_new _ _ (two k) (two_cells k h0 h1).symm) HN.out (fun h => by cases h) hn (by omega)).mono ?_
    rintro e w1 ⟨g, c1, rfl, ho, hl⟩
    generalize (l ++ two k).length = m at *
    have HO := Lib.hid ho
    have HL := Lib.hid hl
    clear ho hl
    go_wp2
    go_ret
    rw [HT.out]
    exact GivesO.later (w := w.alloc _) (givesO_of HO.out HL.out) ((Below.refl _ _).alloc (Nat.le_refl _) _)
  · have HT : Hid (tail2 k = []) := if_neg hk
    rcases (show k < 0 ∨ (¬ k < 0 ∧ 65535 < k) by omega) with hk | ⟨h0, hk⟩
    all_goals
      go_enter Tryz.func34, Tryz.ntmps34
      go_wp2_with fail
      refine (appendedO A none n c 0 0 l [] w HS.out Sl.nil HN.out (fun _ => ⟨rfl, rfl⟩) hn (by omega)).mono ?_
      rintro e w1 ⟨g, c1, rfl, ho, hl⟩
      generalize (l ++ []).length = m at *
      have HO := Lib.hid ho
      have HL := Lib.hid hl
      clear ho hl
      go_wp2
      go_ret
      rw [HT.out]
      exact givesO_of HO.out HL.out

set_option maxHeartbeats 1000000 in
theorem specPut2O (A : Option Addr) (n c : Nat) (l : List UInt8) (k : Int) (w : World) (hs : Sl w w.heap.size A n l) (hnil : A = none → n = 0 ∧ c = 0) (hn : n ≤ 400000000) :
    Calls Tryz.prog 39 #[.slice A n c, .int .i64 k] w (GivesO w (l ++ tail2 k)) := by
  obtain ⟨i0, hi, hz0, hz1, hz2⟩ := info_parts Copy.info
  have HS := Lib.hid hs
  have HN := Lib.hid hnil
  clear hs hnil
  have HT : Hid (tail2 k = if 0 ≤ k ∧ k ≤ 65535 then two k else []) := rfl
  go_enter Tryz.func39, Tryz.ntmps39
  go_wp2_with (at_builtin; refine append_src rfl (.tmp 6) (.tmp 7) 22 rfl w.heap.size 5 i0 (.int .u8 0) Tryz.underlying22 hi hz0 hz1 hz2 rfl w.heap.size 0 0 [] rfl (owns_new w) A n c _ l rfl (sl_alloc HS.out _) HN.out ?c1 ?c2 ?c3 ?_)
  case c1 => omega
  case c2 => omega
  case c3 => simp
  intro g1 cap1 w1 hown hgrow
  have O1 := Lib.hid hown
  have L1 := Lib.hid ((((Below.refl w.heap.size w).alloc (Nat.le_refl _) (.cells #[] 5))).grown hgrow (by simp) (fun j hj => by cases hj; exact Nat.le_refl _))
  clear hown hgrow
  by_cases hk : 0 ≤ k ∧ k ≤ 65535
  · obtain ⟨h0, h1⟩ := hk
    go_wp2_with fail
    refine (l1In_yes k 0 65535 w1 h0 h1).mono ?_
    rintro e w2 ⟨rfl, rfl⟩
    have hand := and255 k h0 (by omega)
    go_wp2_with (at_builtin; refine append_src rfl (.tmp 13) (.tmp 20) 22 rfl w.heap.size 5 i0 (.int .u8 0) Tryz.underlying22 hi hz0 hz1 hz2 rfl g1 n cap1 (l.map bv) rfl (O1.out.alloc _) _ 2 2 _ (two k) rfl (sl_new w1 _ (two k) (two_cells k h0 h1).symm) (fun h => by cases h) ?d1 ?d2 ?d3 ?_)
    case d1 => omega
    case d2 => omega
    case d3 => have := L1.out.size; simp; omega
    intro g2 cap2 w2 hown hgrow
    rw [← List.map_append] at hown
    have O2 := Lib.hid hown
    have L2 := Lib.hid ((L1.out.alloc L1.out.size _).grown hgrow (by have := L1.out.size; simp; omega) (fun j hj => by cases hj; exact (O1.out.lt g1 rfl).1))
    clear hown hgrow hand
    go_wp2
    go_ret
    rw [HT.out, if_pos ⟨h0, h1⟩]
    exact givesO_of O2.out L2.out
  · go_wp2_with fail
    refine (l1In_no k 0 65535 w1 hk).mono ?_
    rintro e w2 ⟨rfl, rfl⟩
    have H := Lib.hid hk
    clear hk
    go_wp2
    go_ret
    rw [HT.out, if_neg H.out, List.append_nil]
    exact givesO_of O1.out L1.out
end Go.Proofs.YtcpadkehalgddaaGreatDoor.PutO

/- What the model's PutRecord does: a new slice that holds the old bytes and those of a valid record. Conditions: fewer than 199000001 bytes in the slice, at most 1048576 in each text. -/
namespace Go.Proofs.YtcpadkehalgddaaGreatDoor.RecS
open Go.RowKit Go.Proofs.YtcpadkehalgddaaGreatDoor.Mem Go.Proofs.YtcpadkehalgddaaGreatDoor.MemR Go.Proofs.YtcpadkehalgddaaGreatDoor.App Go.Proofs.YtcpadkehalgddaaGreatDoor.Put Go.Proofs.YtcpadkehalgddaaGreatDoor.PutO Go.Proofs.YtcpadkehalgddaaGreatDoor.PutLabel Go.Proofs.YtcpadkehalgddaaGreatDoor.BoxR Go.Proofs.YtcpadkehalgddaaGreatDoor.RecOk Go.Proofs.YtcpadkehalgddaaGreatDoor.Plain Go.Proofs.YtcpadkehalgddaaGreatDoor.PutSpec Go.Proofs.YtcpadkehalgddaaGreatDoor.FieldMath Go.Proofs.YtcpadkehalgddaaGreatDoor.DataS

/-- The bytes as they grow. -/
def t1 (l : List UInt8) (r : Rec) : List UInt8 := l ++ tailN l r.name
def t2 (l : List UInt8) (r : Rec) : List UInt8 := t1 l r ++ tail2 r.ty
def t3 (l : List UInt8) (r : Rec) : List UInt8 := t2 l r ++ tail2 1
def t4 (l : List UInt8) (r : Rec) : List UInt8 := t3 l r ++ tail4 r.ttl
def t5 (l : List UInt8) (r : Rec) : List UInt8 := t4 l r ++ tail2 ((dat r).length : Int)
section
variable (l : List UInt8) (r : Rec)
theorem l1 : (t1 l r).length ≤ l.length + 80 := by unfold t1; rw [List.length_append]; have := tailN_len l r.name; omega
theorem l2 : (t2 l r).length ≤ l.length + 82 := by unfold t2; rw [List.length_append]; have := tail2_len r.ty; have := l1 l r; omega
theorem l3 : (t3 l r).length ≤ l.length + 84 := by unfold t3; rw [List.length_append]; have := tail2_len 1; have := l2 l r; omega
theorem l4 : (t4 l r).length ≤ l.length + 88 := by unfold t4; rw [List.length_append]; have := tail4_len r.ttl; have := l3 l r; omega
theorem l5 : (t5 l r).length ≤ l.length + 90 := by unfold t5; rw [List.length_append]; have := tail2_len ((dat r).length : Int); have := l4 l r; omega
theorem t_all (h : rok r = true) : t5 l r ++ dat r = l ++ tailR l r := by
  unfold t5 t4 t3 t2 t1
  rw [tailR, if_pos h]
  simp only [List.append_assoc]
theorem t_none (h : rok r = false) : l ++ tailR l r = l := by
  rw [tailR, h]
  simp
end
theorem kept6 {w w1 w2 : World} {g : Nat} {r : Rec} (h : (w1.cell? ⟨g, 0, none⟩ = some (.string r.name) ∧ w1.cell? ⟨g, 1, none⟩ = some (.int .i64 r.ty) ∧ w1.cell? ⟨g, 2, none⟩ = some (.int .i64 r.ttl) ∧ w1.cell? ⟨g, 3, none⟩ = some (.int .i64 r.n) ∧ w1.cell? ⟨g, 4, none⟩ = some (.string r.host) ∧ w1.cell? ⟨g, 5, none⟩ = some (.string r.text)) ∧ Sv w w1) (hl : Below w1.heap.size w1 w2) :
    (w2.cell? ⟨g, 0, none⟩ = some (.string r.name) ∧ w2.cell? ⟨g, 1, none⟩ = some (.int .i64 r.ty) ∧ w2.cell? ⟨g, 2, none⟩ = some (.int .i64 r.ttl) ∧ w2.cell? ⟨g, 3, none⟩ = some (.int .i64 r.n) ∧ w2.cell? ⟨g, 4, none⟩ = some (.string r.host) ∧ w2.cell? ⟨g, 5, none⟩ = some (.string r.text)) ∧ Sv w w2 :=
  ⟨show Bx w2 g r from (show Bx w1 g r from h.1).below hl, h.2.trans (hl.mono h.2.size)⟩
theorem kept6_draw {w w1 : World} {g : Nat} {r : Rec} (h : (w1.cell? ⟨g, 0, none⟩ = some (.string r.name) ∧ w1.cell? ⟨g, 1, none⟩ = some (.int .i64 r.ty) ∧ w1.cell? ⟨g, 2, none⟩ = some (.int .i64 r.ttl) ∧ w1.cell? ⟨g, 3, none⟩ = some (.int .i64 r.n) ∧ w1.cell? ⟨g, 4, none⟩ = some (.string r.host) ∧ w1.cell? ⟨g, 5, none⟩ = some (.string r.text)) ∧ Sv w w1) :
    (w1.drew.cell? ⟨g, 0, none⟩ = some (.string r.name) ∧ w1.drew.cell? ⟨g, 1, none⟩ = some (.int .i64 r.ty) ∧ w1.drew.cell? ⟨g, 2, none⟩ = some (.int .i64 r.ttl) ∧ w1.drew.cell? ⟨g, 3, none⟩ = some (.int .i64 r.n) ∧ w1.drew.cell? ⟨g, 4, none⟩ = some (.string r.host) ∧ w1.drew.cell? ⟨g, 5, none⟩ = some (.string r.text)) ∧ Sv w w1.drew := kept6 h ((Below.refl _ _).drew)

set_option maxRecDepth 100000 in
set_option maxHeartbeats 4000000 in
theorem spec (A : Option Addr) (n c : Nat) (l : List UInt8) (r : Rec) (w : World) (hs : Sl w w.heap.size A n l) (hnc : n ≤ c) (hnil : A = none → n = 0 ∧ c = 0) (hn : n ≤ 199000000) (hr : Med r) :
    Calls Tryz.prog 11 #[.slice A n c, .agg #[.string r.name, .int .i64 r.ty, .int .i64 r.ttl, .int .i64 r.n, .string r.host, .string r.text]] w (GivesO w (l ++ tailR l r)) := by
  obtain ⟨i0, hi, hz0, hz1, hz2⟩ := info_parts Copy.info
  have HS := Lib.hid hs
  have HL := Lib.hid hs.1
  have HN := Lib.hid hnil
  clear hs hnil
  have RO := Lib.hid (fun w => RecOk.spec r w hr.mod)
  have PD := Lib.hid (fun w => DataS.spec r w hr)
  have hnm : r.name.size ≤ 1048576 := hr.1
  have TA := Lib.hid (t_all l r)
  have TN := Lib.hid (t_none l r)
  have X0 := Lib.hid (bx_new w 25 r)
  have L0 := Lib.hid ((Below.refl w.heap.size w).alloc (Nat.le_refl _) (.cells #[.string r.name, .int .i64 r.ty, .int .i64 r.ttl, .int .i64 r.n, .string r.host, .string r.text] 25))
  obtain ⟨u, hu⟩ : ∃ u, rok r = u := ⟨_, rfl⟩
  have HB := Lib.hid hu
  clear hu
  go_enter Tryz.func11, Tryz.ntmps11
  go_wp2_with fail
  refine (RO.out _).mono ?_
  rw [HB.out]
  rintro e w1 ⟨rfl, hl⟩
  have L1 := Lib.hid (L0.out.trans (hl.mono L0.out.size))
  have X1 := Lib.hid (X0.out.below hl)
  clear hl L0 X0 RO
  cases u with
  | false =>
    have SA := Lib.hid (sl_alloc ((HS.out.below L1.out).wider L1.out.size) (.cells #[] 5))
    have ON := Lib.hid (owns_base (owns_new w1) L1.out.size)
    go_wp2_with (at_builtin; refine append_src rfl (.tmp 10) (.tmp 11) 22 rfl w.heap.size 5 i0 (.int .u8 0) Tryz.underlying22 hi hz0 hz1 hz2 rfl w1.heap.size 0 0 [] rfl ON.out A n c _ l rfl SA.out HN.out ?c1 ?c2 ?c3 ?_)
    case c1 => omega
    case c2 => omega
    case c3 => have := L1.out.size; simp; omega
    intro g1 cap1 w2 hown hgrow
    have O1 := Lib.hid hown
    have L2 := Lib.hid ((L1.out.alloc L1.out.size (.cells #[] 5)).grown hgrow (by have := L1.out.size; simp; omega) (fun j hj => by cases hj; exact L1.out.size))
    clear hown hgrow
    go_wp2
    go_ret
    rw [TN.out HB.out]
    exact givesO_of O1.out L2.out
  | true =>
    have h1 := l1 l r
    have h2 := l2 l r
    have h3 := l3 l r
    have h4 := l4 l r
    have h5 := l5 l r
    rw [HL.out] at h1 h2 h3 h4 h5
    have hd := dat_len r
    have PN : Hid (∀ (W : World), ((W.cell? ⟨w.heap.size, 0, none⟩ = some (.string r.name) ∧ W.cell? ⟨w.heap.size, 1, none⟩ = some (.int .i64 r.ty) ∧ W.cell? ⟨w.heap.size, 2, none⟩ = some (.int .i64 r.ttl) ∧ W.cell? ⟨w.heap.size, 3, none⟩ = some (.int .i64 r.n) ∧ W.cell? ⟨w.heap.size, 4, none⟩ = some (.string r.host) ∧ W.cell? ⟨w.heap.size, 5, none⟩ = some (.string r.text)) ∧ Sv w W) → Calls Tryz.prog 40 #[.slice A n c, .string r.name] W (Gives W (t1 l r))) :=
      fun W hW => (PutSpec.spec A n c l r.name W ((HS.out.below hW.2).wider hW.2.size) hnc HN.out (by omega) (by omega)).mono fun e w' h => h.gives
    have P2 : Hid (∀ (g m c : Nat) (rr : List Value) (W : World), (t1 l r).length = m → Bk W g 5 ((t1 l r).map bv ++ rr) → Calls Tryz.prog 39 #[.slice (some ⟨g, 0, none⟩) m c, .int .i64 r.ty] W (Gives W (t2 l r))) :=
      fun g m c rr W hm hb => specPut2 (some ⟨g, 0, none⟩) m c (t1 l r) r.ty W (hm ▸ (hb.sl'.wider hb.lt)) (fun h => by cases h) (by omega)
    have P3 : Hid (∀ (g m c : Nat) (rr : List Value) (W : World), (t2 l r).length = m → Bk W g 5 ((t2 l r).map bv ++ rr) → Calls Tryz.prog 39 #[.slice (some ⟨g, 0, none⟩) m c, .int .i64 1] W (Gives W (t3 l r))) :=
      fun g m c rr W hm hb => specPut2 (some ⟨g, 0, none⟩) m c (t2 l r) 1 W (hm ▸ (hb.sl'.wider hb.lt)) (fun h => by cases h) (by omega)
    have P4 : Hid (∀ (g m c : Nat) (rr : List Value) (W : World), (t3 l r).length = m → Bk W g 5 ((t3 l r).map bv ++ rr) → Calls Tryz.prog 38 #[.slice (some ⟨g, 0, none⟩) m c, .int .i64 r.ttl] W (Gives W (t4 l r))) :=
      fun g m c rr W hm hb => specPut4 (some ⟨g, 0, none⟩) m c (t3 l r) r.ttl W (hm ▸ (hb.sl'.wider hb.lt)) (fun h => by cases h) (by omega)
    have P5 : Hid (∀ (g m c : Nat) (rr : List Value) (W : World), (t4 l r).length = m → Bk W g 5 ((t4 l r).map bv ++ rr) → Calls Tryz.prog 39 #[.slice (some ⟨g, 0, none⟩) m c, .int .i64 ((dat r).length : Int)] W (GivesO W (t5 l r))) :=
      fun g m c rr W hm hb => specPut2O (some ⟨g, 0, none⟩) m c (t4 l r) ((dat r).length : Int) W (hm ▸ (hb.sl'.wider hb.lt)) (fun h => by cases h) (by omega)
    have S0 : (w1.cell? ⟨w.heap.size, 0, none⟩ = some (.string r.name) ∧ w1.cell? ⟨w.heap.size, 1, none⟩ = some (.int .i64 r.ty) ∧ w1.cell? ⟨w.heap.size, 2, none⟩ = some (.int .i64 r.ttl) ∧ w1.cell? ⟨w.heap.size, 3, none⟩ = some (.int .i64 r.n) ∧ w1.cell? ⟨w.heap.size, 4, none⟩ = some (.string r.host) ∧ w1.cell? ⟨w.heap.size, 5, none⟩ = some (.string r.text)) ∧ Sv w w1 := ⟨X1.out, L1.out⟩
    generalize t1 l r = T1 at *
    generalize t2 l r = T2 at *
    generalize t3 l r = T3 at *
    generalize t4 l r = T4 at *
    generalize t5 l r = T5 at *
    generalize dat r = D at *
    have LW := Lib.hid (Nat.le_trans L1.out.size (Nat.le_refl _))
    clear X1
    go_wp2
    go_region_held3 (fun w' => (w'.cell? ⟨w.heap.size, 0, none⟩ = some (.string r.name) ∧ w'.cell? ⟨w.heap.size, 1, none⟩ = some (.int .i64 r.ty) ∧ w'.cell? ⟨w.heap.size, 2, none⟩ = some (.int .i64 r.ttl) ∧ w'.cell? ⟨w.heap.size, 3, none⟩ = some (.int .i64 r.n) ∧ w'.cell? ⟨w.heap.size, 4, none⟩ = some (.string r.host) ∧ w'.cell? ⟨w.heap.size, 5, none⟩ = some (.string r.text)) ∧ Sv w w')
      (first | exact S0 | assumption | exact kept6 (by assumption) hl | exact kept6_draw (by assumption) | fail)
      (first
        | (go_at_call 40; refine (PN.out _ (by assumption)).mono ?_; rintro e w11 ⟨g1, m1, c1, r1, rfl, hm1, -, hg1, hb1, hl⟩)
        | (go_at_call 38; refine (P4.out _ _ _ _ _ hm3 hb3).mono ?_; rintro e w14 ⟨g4, m4, c4, r4, rfl, hm4, -, hg4, hb4, hl⟩)
        | (go_at_call 39; refine (P3.out _ _ _ _ _ hm2 hb2).mono ?_; rintro e w13 ⟨g3, m3, c3, r3, rfl, hm3, -, hg3, hb3, hl⟩)
        | (go_at_call 39; refine (P2.out _ _ _ _ _ hm1 hb1).mono ?_; rintro e w12 ⟨g2, m2, c2, r2, rfl, hm2, -, hg2, hb2, hl⟩)
        | fail)
    rename_i hH
    have X14 : Hid (Bx w14 w.heap.size r) := hH.1
    have L14 : Hid (Below w.heap.size w w14) := hH.2
    have M4 := Lib.hid hm4
    have B4 := Lib.hid hb4
    clear hH hm1 hb1 hg1 hm2 hb2 hg2 hm3 hb3 hg3 hm4 hb4 hg4 hl S0 PN P2 P3 P4 L1 LW
    obtain ⟨x0, x1, x2, x3, x4, x5⟩ := X14.out
    go_wp2_with fail
    refine (PD.out _).mono ?_
    rintro e w15 ⟨gd, md, cd, rd, rfl, hmd, hled, hgd, hbd, hl⟩
    have BD := Lib.hid hbd
    have B5 := Lib.hid (B4.out.below hl B4.out.lt)
    have L15 := Lib.hid (L14.out.trans (hl.mono L14.out.size))
    subst hmd
    clear hgd hbd hl x0 x1 x2 x3 x4 x5 X14 B4 L14
    go_wp2_with fail
    refine (P5.out g4 m4 c4 r4 w15 M4.out B5.out).mono ?_
    rintro e w16 ⟨g5, c5, rfl, ho, hl⟩
    have O6 := Lib.hid (owns_base ho L15.out.size)
    have G6 := Lib.hid (show w15.heap.size ≤ g5 from (ho.lt g5 rfl).1)
    have BD6 := Lib.hid (BD.out.below hl BD.out.lt)
    have L16 := Lib.hid (L15.out.trans (hl.mono L15.out.size))
    have SD := Lib.hid (show Sl w16 w16.heap.size (some ⟨gd, 0, none⟩) D.length D from BD6.out.sl'.wider BD6.out.lt)
    clear ho hl B5 BD L15 BD6
    obtain ⟨m5, hm5⟩ : ∃ m, m = T5.length := ⟨_, rfl⟩
    rw [← hm5] at O6 h5 ⊢
    clear hm5
    go_wp2_with (at_builtin; refine append_src rfl (.tmp 29) (.tmp 30) 22 rfl w.heap.size 5 i0 (.int .u8 0) Tryz.underlying22 hi hz0 hz1 hz2 rfl g5 m5 c5 (T5.map bv) rfl O6.out (some ⟨gd, 0, none⟩) D.length cd _ D rfl SD.out (fun h => by cases h) ?d1 ?d2 ?d3 ?_)
    case d1 => omega
    case d2 => omega
    case d3 => exact L16.out.size
    intro g7 c7 w17 hown hgrow
    rw [← List.map_append, TA.out HB.out] at hown
    have O7 := Lib.hid hown
    have L17 := Lib.hid (L16.out.grown hgrow L16.out.size (fun j hj => by cases hj; exact (O6.out.lt g5 rfl).1))
    clear hown hgrow
    go_wp2
    go_ret
    exact givesO_of O7.out L17.out
end Go.Proofs.YtcpadkehalgddaaGreatDoor.RecS

/- What the program's PutData does: a new slice with the data of a valid record, an empty one for an invalid record. Conditions: at most 1048576 bytes in each text; the library's variable internal/bytealg.MaxLen holds an int. -/
namespace Go.Proofs.YtcpadkehalgddaaGreatDoor.DataP
open Go.RowKit Go.Proofs.YtcpadkehalgddaaGreatDoor.Mem Go.Proofs.YtcpadkehalgddaaGreatDoor.MemR Go.Proofs.YtcpadkehalgddaaGreatDoor.App Go.Proofs.YtcpadkehalgddaaGreatDoor.Put Go.Proofs.YtcpadkehalgddaaGreatDoor.PutLabel Go.Proofs.YtcpadkehalgddaaGreatDoor.BoxR Go.Proofs.YtcpadkehalgddaaGreatDoor.Labels Go.Proofs.YtcpadkehalgddaaGreatDoor.RecOk Go.Proofs.YtcpadkehalgddaaGreatDoor.Plain Go.Proofs.YtcpadkehalgddaaGreatDoor.FieldMath Go.Proofs.YtcpadkehalgddaaGreatDoor.DataS

set_option maxHeartbeats 1000000 in
theorem of_addr (r : Rec) (w : World) (h : r.ty = 1) : Calls Tryz.prog 36 #[.agg #[.string r.name, .int .i64 r.ty, .int .i64 r.ttl, .int .i64 r.n, .string r.host, .string r.text]] w fun e w' => e = .returned (.iface 92 (.int .i64 r.n)) ∧ Below w.heap.size w w' := by
  obtain ⟨name, ty, ttl, n, host, text⟩ := r
  obtain rfl : ty = 1 := h
  have L0 := Lib.hid ((Below.refl w.heap.size w).alloc (Nat.le_refl _) (.cells #[.string name, .int .i64 1, .int .i64 ttl, .int .i64 n, .string host, .string text] 25))
  dsimp only
  go_enter Tryz.func36, Tryz.ntmps36
  go_wp2
  go_ret
  exact ⟨rfl, L0.out⟩

set_option maxHeartbeats 1000000 in
theorem of_server (r : Rec) (w : World) (h : r.ty = 2) : Calls Tryz.prog 36 #[.agg #[.string r.name, .int .i64 r.ty, .int .i64 r.ttl, .int .i64 r.n, .string r.host, .string r.text]] w fun e w' => e = .returned (.iface 93 (.string r.host)) ∧ Below w.heap.size w w' := by
  obtain ⟨name, ty, ttl, n, host, text⟩ := r
  obtain rfl : ty = 2 := h
  have L0 := Lib.hid ((Below.refl w.heap.size w).alloc (Nat.le_refl _) (.cells #[.string name, .int .i64 2, .int .i64 ttl, .int .i64 n, .string host, .string text] 25))
  dsimp only
  go_enter Tryz.func36, Tryz.ntmps36
  go_wp2
  go_ret
  exact ⟨rfl, L0.out⟩

set_option maxHeartbeats 1000000 in
theorem of_alias (r : Rec) (w : World) (h : r.ty = 5) : Calls Tryz.prog 36 #[.agg #[.string r.name, .int .i64 r.ty, .int .i64 r.ttl, .int .i64 r.n, .string r.host, .string r.text]] w fun e w' => e = .returned (.iface 94 (.string r.host)) ∧ Below w.heap.size w w' := by
  obtain ⟨name, ty, ttl, n, host, text⟩ := r
  obtain rfl : ty = 5 := h
  have L0 := Lib.hid ((Below.refl w.heap.size w).alloc (Nat.le_refl _) (.cells #[.string name, .int .i64 5, .int .i64 ttl, .int .i64 n, .string host, .string text] 25))
  dsimp only
  go_enter Tryz.func36, Tryz.ntmps36
  go_wp2
  go_ret
  exact ⟨rfl, L0.out⟩

set_option maxHeartbeats 1000000 in
theorem of_start (r : Rec) (w : World) (h : r.ty = 6) : Calls Tryz.prog 36 #[.agg #[.string r.name, .int .i64 r.ty, .int .i64 r.ttl, .int .i64 r.n, .string r.host, .string r.text]] w fun e w' => e = .returned (.iface 96 (.agg #[.string r.host, .int .i64 r.n])) ∧ Below w.heap.size w w' := by
  obtain ⟨name, ty, ttl, n, host, text⟩ := r
  obtain rfl : ty = 6 := h
  have L0 := Lib.hid ((Below.refl w.heap.size w).alloc (Nat.le_refl _) (.cells #[.string name, .int .i64 6, .int .i64 ttl, .int .i64 n, .string host, .string text] 25))
  dsimp only
  go_enter Tryz.func36, Tryz.ntmps36
  go_wp2
  go_ret
  exact ⟨rfl, L0.out⟩

set_option maxHeartbeats 1000000 in
theorem of_text (r : Rec) (w : World) (h : r.ty = 16) : Calls Tryz.prog 36 #[.agg #[.string r.name, .int .i64 r.ty, .int .i64 r.ttl, .int .i64 r.n, .string r.host, .string r.text]] w fun e w' => e = .returned (.iface 97 (.string r.text)) ∧ Below w.heap.size w w' := by
  obtain ⟨name, ty, ttl, n, host, text⟩ := r
  obtain rfl : ty = 16 := h
  have L0 := Lib.hid ((Below.refl w.heap.size w).alloc (Nat.le_refl _) (.cells #[.string name, .int .i64 16, .int .i64 ttl, .int .i64 n, .string host, .string text] 25))
  dsimp only
  go_enter Tryz.func36, Tryz.ntmps36
  go_wp2
  go_ret
  exact ⟨rfl, L0.out⟩

set_option maxHeartbeats 1000000 in
theorem put_addr (n : Int) (w : World) : Calls Tryz.prog 148 #[.int .i64 n] w (Gives w (tail4 n)) := by
  have HP := Lib.hid (implPut4 none 0 0 [] n w Sl.nil (fun _ => ⟨rfl, rfl⟩) (by omega))
  go_enter Tryz.func148, Tryz.ntmps148
  go_wp2_with fail
  refine HP.out.mono ?_
  rintro e w1 ⟨g, m, c1, rr, rfl, hm, hle, hgg, hk, hl⟩
  have F := Lib.hid (show Gives w (tail4 n) (.returned (.slice (some ⟨g, 0, none⟩) m c1)) w1 from ⟨g, m, c1, rr, rfl, hm, hle, hgg, hk, hl⟩)
  clear hm hle hgg hk hl
  go_wp2
  go_ret
  exact F.out

set_option maxHeartbeats 1000000 in
theorem put_server (s : ByteArray) (w : World) (he : Env w) (hz : s.size ≤ 1048576) : Calls Tryz.prog 149 #[.string s] w (Gives w (tailP s)) := by
  have HP := Lib.hid (Plain.impl none 0 0 [] s w he Sl.nil (fun _ => ⟨rfl, rfl⟩) (by omega) (by omega))
  clear he
  go_enter Tryz.func149, Tryz.ntmps149
  go_wp2_with fail
  refine HP.out.mono ?_
  rintro e w1 ⟨g, m, c1, rr, rfl, hm, hle, hgg, hk, hl⟩
  have F := Lib.hid (show Gives w (tailP s) (.returned (.slice (some ⟨g, 0, none⟩) m c1)) w1 from ⟨g, m, c1, rr, rfl, hm, hle, hgg, hk, hl⟩)
  clear hm hle hgg hk hl
  go_wp2
  go_ret
  exact F.out

set_option maxHeartbeats 1000000 in
theorem put_alias (s : ByteArray) (w : World) (he : Env w) (hz : s.size ≤ 1048576) : Calls Tryz.prog 150 #[.string s] w (Gives w (tailP s)) := by
  have HP := Lib.hid (Plain.impl none 0 0 [] s w he Sl.nil (fun _ => ⟨rfl, rfl⟩) (by omega) (by omega))
  clear he
  go_enter Tryz.func150, Tryz.ntmps150
  go_wp2_with fail
  refine HP.out.mono ?_
  rintro e w1 ⟨g, m, c1, rr, rfl, hm, hle, hgg, hk, hl⟩
  have F := Lib.hid (show Gives w (tailP s) (.returned (.slice (some ⟨g, 0, none⟩) m c1)) w1 from ⟨g, m, c1, rr, rfl, hm, hle, hgg, hk, hl⟩)
  clear hm hle hgg hk hl
  go_wp2
  go_ret
  exact F.out

theorem kept2 {w w1 w2 : World} {g : Nat} {n : Int} {s : ByteArray} (h : (w1.cell? ⟨g, 0, none⟩ = some (.string s) ∧ w1.cell? ⟨g, 1, none⟩ = some (.int .i64 n)) ∧ Sv w w1) (hl : Below w1.heap.size w1 w2) : (w2.cell? ⟨g, 0, none⟩ = some (.string s) ∧ w2.cell? ⟨g, 1, none⟩ = some (.int .i64 n)) ∧ Sv w w2 := by
  have hg : g < w1.heap.size := World.block_lt_of_cell? _ _ h.1.1
  exact ⟨⟨(hl.cell (p := ⟨g, 0, none⟩) hg).trans h.1.1, (hl.cell (p := ⟨g, 1, none⟩) hg).trans h.1.2⟩, h.2.trans (hl.mono h.2.size)⟩
theorem kept2_draw {w w1 : World} {g : Nat} {n : Int} {s : ByteArray} (h : (w1.cell? ⟨g, 0, none⟩ = some (.string s) ∧ w1.cell? ⟨g, 1, none⟩ = some (.int .i64 n)) ∧ Sv w w1) : (w1.drew.cell? ⟨g, 0, none⟩ = some (.string s) ∧ w1.drew.cell? ⟨g, 1, none⟩ = some (.int .i64 n)) ∧ Sv w w1.drew := kept2 h ((Below.refl _ _).drew)

set_option maxHeartbeats 4000000 in
theorem put_start (s : ByteArray) (n : Int) (w : World) (he : Env w) (hz : s.size ≤ 1048576) : Calls Tryz.prog 151 #[.agg #[.string s, .int .i64 n]] w (Gives w (tailP s ++ tail4 n)) := by
  have HE := Lib.hid he
  clear he
  have B0 : Hid (Bk (w.alloc (.cells #[.string s, .int .i64 n] 96)) w.heap.size 96 [.string s, .int .i64 n]) := heap_alloc_new w _
  have x0 : (w.alloc (.cells #[.string s, .int .i64 n] 96)).cell? ⟨w.heap.size, 0, none⟩ = some (.string s) := by rw [B0.out.cell]; rfl
  have x1 : (w.alloc (.cells #[.string s, .int .i64 n] 96)).cell? ⟨w.heap.size, 1, none⟩ = some (.int .i64 n) := by rw [B0.out.cell]; rfl
  have S0 : ((w.alloc (.cells #[.string s, .int .i64 n] 96)).cell? ⟨w.heap.size, 0, none⟩ = some (.string s) ∧ (w.alloc (.cells #[.string s, .int .i64 n] 96)).cell? ⟨w.heap.size, 1, none⟩ = some (.int .i64 n)) ∧ Sv w (w.alloc (.cells #[.string s, .int .i64 n] 96)) := ⟨⟨x0, x1⟩, (Below.refl w.heap.size w).alloc (Nat.le_refl _) _⟩
  have PP : Hid (∀ (W : World), ((W.cell? ⟨w.heap.size, 0, none⟩ = some (.string s) ∧ W.cell? ⟨w.heap.size, 1, none⟩ = some (.int .i64 n)) ∧ Sv w W) → Calls Tryz.prog 68 #[.slice none 0 0, .string s] W (Gives W (tailP s))) := fun W hW => Plain.impl none 0 0 [] s W (HE.out.below hW.2) Sl.nil (fun _ => ⟨rfl, rfl⟩) (by omega) (by omega)
  have hlP := tailP_len s
  clear B0
  go_enter Tryz.func151, Tryz.ntmps151
  go_wp2
  clear x0 x1
  go_region_held3 (fun w' => (w'.cell? ⟨w.heap.size, 0, none⟩ = some (.string s) ∧ w'.cell? ⟨w.heap.size, 1, none⟩ = some (.int .i64 n)) ∧ Sv w w')
    (first | exact S0 | assumption | exact kept2 (by assumption) hl | exact kept2_draw (by assumption) | fail)
    (first
      | (go_at_call 68; refine (PP.out _ (by assumption)).mono ?_; rintro e w11 ⟨gp, mp, cp, rp, rfl, hm, -, hgp, hbp, hl⟩)
      | (go_at_call 35; refine (implPut4 (some ⟨gp, 0, none⟩) mp cp (tailP s) n w11 (hm ▸ (hbp.sl'.wider hbp.lt)) (fun h => by cases h) (by rw [← hm]; omega)).mono ?_; rintro e w12 ⟨g, m, c1, rr, rfl, hm2, hle, hgg, hk, hl⟩)
      | fail)
  rename_i hH
  have hgw : w.heap.size ≤ g := by
    have h2 := hgp
    have h3 := hbp.lt
    simp at h2
    omega
  have F := Lib.hid (show Gives w (tailP s ++ tail4 n) (.returned (.slice (some ⟨g, 0, none⟩) m c1)) w12 from ⟨g, m, c1, rr, rfl, hm2, hle, hgw, hk, hH.2⟩)
  clear hm hbp hm2 hle hgg hk hl hH hgw hgp S0
  go_wp2
  go_ret
  exact F.out

set_option maxHeartbeats 4000000 in
theorem put_text (s : ByteArray) (w : World) (hz : s.size ≤ 12) : Calls Tryz.prog 152 #[.string s] w (Gives w (one s.size ++ s.data.toList)) := by
  obtain ⟨i0, hi, hz0, hz1, hz2⟩ := info_parts Copy.info
  have ht1 : (s.size : Int) ≤ 12 := by omega
  have B1 : Hid (Bk (w.alloc (.cells #[.int .u8 (s.size : Int)] 5)) w.heap.size 5 ((one s.size).map bv ++ [])) := by
    show Bk _ _ _ _
    unfold Bk
    rw [List.append_nil, ← one_cells s.size (by omega), heap_alloc_new]
  have O1 := Lib.hid (owns_of_bk (base := w.heap.size) (n := 1) (cap := 1) B1.out (Nat.le_refl _) (one_len _) (by simp [one_len]) (by unfold maxLen; omega))
  go_enter Tryz.func152, Tryz.ntmps152
  go_wp2_with (at_builtin; refine append_str rfl (.tmp 6) (.tmp 7) 22 9 rfl w.heap.size 5 i0 Tryz.underlying22 Tryz.underlying9 hi hz0 hz1 hz2 w.heap.size 1 1 _ rfl O1.out s rfl ?e1 ?e2 ?e3 ?_)
  case e1 => omega
  case e2 => omega
  case e3 => simp
  intro g3 cap3 w3 hown hgrow
  rw [data_text] at hown
  have F := Lib.hid (gives_of_owns hown (((Below.refl w.heap.size w).alloc (Nat.le_refl _) (.cells #[.int .u8 (s.size : Int)] 5)).grown hgrow (by simp) (fun j hj => by cases hj; exact Nat.le_refl _)))
  clear hown hgrow
  go_wp2
  go_ret
  exact F.out

theorem meth_addr (n : Int) (w : World) : (method 265 92 (.int .i64 n) "loop.example/g00497/impl.put").run Tryz.prog w = .ok (148, .int .i64 n) w := by kernel_rfl
theorem meth_server (s : ByteArray) (w : World) : (method 265 93 (.string s) "loop.example/g00497/impl.put").run Tryz.prog w = .ok (149, .string s) w := by kernel_rfl
theorem meth_alias (s : ByteArray) (w : World) : (method 265 94 (.string s) "loop.example/g00497/impl.put").run Tryz.prog w = .ok (150, .string s) w := by kernel_rfl
theorem meth_start (s : ByteArray) (n : Int) (w : World) : (method 265 96 (.agg #[.string s, .int .i64 n]) "loop.example/g00497/impl.put").run Tryz.prog w = .ok (151, .agg #[.string s, .int .i64 n]) w := by kernel_rfl
theorem meth_text (s : ByteArray) (w : World) : (method 265 97 (.string s) "loop.example/g00497/impl.put").run Tryz.prog w = .ok (152, .string s) w := by kernel_rfl

set_option maxHeartbeats 1000000 in
theorem impl (r : Rec) (w : World) (he : Env w) (hr : Med r) : Calls Tryz.prog 9 #[.agg #[.string r.name, .int .i64 r.ty, .int .i64 r.ttl, .int .i64 r.n, .string r.host, .string r.text]] w (Gives w (dat r)) := by
  have HE := Lib.hid he
  clear he
  have B1 : r.host.size ≤ 1048576 := hr.2.1
  have RO := Lib.hid (fun w he => RecOk.impl r w he hr.mod)
  have TL := Lib.hid (fun h t => text_len (r := r) h t)
  have HY := Lib.hid (fun h => rok_ty (r := r) h)
  have HT := Lib.hid (show dat r = if rok r = true then dta r.ty r.n r.host r.text else [] from rfl)
  have X0 := Lib.hid (bx_new w 25 r)
  have L0 := Lib.hid ((Below.refl w.heap.size w).alloc (Nat.le_refl _) (.cells #[.string r.name, .int .i64 r.ty, .int .i64 r.ttl, .int .i64 r.n, .string r.host, .string r.text] 25))
  generalize dat r = D at *
  obtain ⟨u, hu⟩ : ∃ u, rok r = u := ⟨_, rfl⟩
  have HB := Lib.hid hu
  clear hu
  go_enter Tryz.func9, Tryz.ntmps9
  go_wp2_with fail
  refine (RO.out _ (HE.out.below L0.out)).mono ?_
  rw [HB.out]
  rintro e w1 ⟨rfl, hl⟩
  have L1 := Lib.hid (L0.out.trans (hl.mono L0.out.size))
  have X1 := Lib.hid (X0.out.below hl)
  clear hl L0 X0 RO
  cases u with
  | false =>
    go_wp2
    go_ret
    rw [HT.out, HB.out]
    exact gives_nil L1.out
  | true =>
    obtain ⟨x0, x1, x2, x3, x4, x5⟩ := X1.out
    rcases HY.out HB.out with h1 | h1 | h1 | h1 | h1
    · have H1 := Lib.hid h1
      clear h1
      have hm := meth_addr r.n
      go_wp2_with fail
      refine (of_addr r w1 H1.out).mono ?_
      rintro e w2 ⟨rfl, hl⟩
      have L2 := Lib.hid (L1.out.trans (hl.mono L1.out.size))
      have PU := Lib.hid (put_addr r.n w2)
      clear hl L1 x0 x1 x2 x3 x4 x5 X1
      go_wp2_with fail
      refine PU.out.mono ?_
      rintro e w3 ⟨g, m, c1, rr, rfl, hm1, hle, hgg, hk, hl⟩
      have HD : Hid (D = tail4 r.n) := by show _ = _; rw [HT.out, if_pos HB.out, H1.out, dta_1]
      have F := Lib.hid (show Gives w (tail4 r.n) (.returned (.slice (some ⟨g, 0, none⟩) m c1)) w3 from Gives.later ⟨g, m, c1, rr, rfl, hm1, hle, hgg, hk, hl⟩ L2.out)
      clear hm1 hle hgg hk hl
      go_wp2
      go_ret
      rw [HD.out]
      exact F.out
    · have H1 := Lib.hid h1
      clear h1
      have hm := meth_server r.host
      go_wp2_with fail
      refine (of_server r w1 H1.out).mono ?_
      rintro e w2 ⟨rfl, hl⟩
      have L2 := Lib.hid (L1.out.trans (hl.mono L1.out.size))
      have PU := Lib.hid (put_server r.host w2 (HE.out.below L2.out) B1)
      clear hl L1 x0 x1 x2 x3 x4 x5 X1
      go_wp2_with fail
      refine PU.out.mono ?_
      rintro e w3 ⟨g, m, c1, rr, rfl, hm1, hle, hgg, hk, hl⟩
      have HD : Hid (D = tailP r.host) := by show _ = _; rw [HT.out, if_pos HB.out, H1.out, dta_2]
      have F := Lib.hid (show Gives w (tailP r.host) (.returned (.slice (some ⟨g, 0, none⟩) m c1)) w3 from Gives.later ⟨g, m, c1, rr, rfl, hm1, hle, hgg, hk, hl⟩ L2.out)
      clear hm1 hle hgg hk hl
      go_wp2
      go_ret
      rw [HD.out]
      exact F.out
    · have H1 := Lib.hid h1
      clear h1
      have hm := meth_alias r.host
      go_wp2_with fail
      refine (of_alias r w1 H1.out).mono ?_
      rintro e w2 ⟨rfl, hl⟩
      have L2 := Lib.hid (L1.out.trans (hl.mono L1.out.size))
      have PU := Lib.hid (put_alias r.host w2 (HE.out.below L2.out) B1)
      clear hl L1 x0 x1 x2 x3 x4 x5 X1
      go_wp2_with fail
      refine PU.out.mono ?_
      rintro e w3 ⟨g, m, c1, rr, rfl, hm1, hle, hgg, hk, hl⟩
      have HD : Hid (D = tailP r.host) := by show _ = _; rw [HT.out, if_pos HB.out, H1.out, dta_5]
      have F := Lib.hid (show Gives w (tailP r.host) (.returned (.slice (some ⟨g, 0, none⟩) m c1)) w3 from Gives.later ⟨g, m, c1, rr, rfl, hm1, hle, hgg, hk, hl⟩ L2.out)
      clear hm1 hle hgg hk hl
      go_wp2
      go_ret
      rw [HD.out]
      exact F.out
    · have H1 := Lib.hid h1
      clear h1
      have hm := meth_start r.host r.n
      go_wp2_with fail
      refine (of_start r w1 H1.out).mono ?_
      rintro e w2 ⟨rfl, hl⟩
      have L2 := Lib.hid (L1.out.trans (hl.mono L1.out.size))
      have PU := Lib.hid (put_start r.host r.n w2 (HE.out.below L2.out) B1)
      clear hl L1 x0 x1 x2 x3 x4 x5 X1
      go_wp2_with fail
      refine PU.out.mono ?_
      rintro e w3 ⟨g, m, c1, rr, rfl, hm1, hle, hgg, hk, hl⟩
      have HD : Hid (D = tailP r.host ++ tail4 r.n) := by show _ = _; rw [HT.out, if_pos HB.out, H1.out, dta_6]
      have F := Lib.hid (show Gives w (tailP r.host ++ tail4 r.n) (.returned (.slice (some ⟨g, 0, none⟩) m c1)) w3 from Gives.later ⟨g, m, c1, rr, rfl, hm1, hle, hgg, hk, hl⟩ L2.out)
      clear hm1 hle hgg hk hl
      go_wp2
      go_ret
      rw [HD.out]
      exact F.out
    · have H1 := Lib.hid h1
      clear h1
      have hm := meth_text r.text
      go_wp2_with fail
      refine (of_text r w1 H1.out).mono ?_
      rintro e w2 ⟨rfl, hl⟩
      have L2 := Lib.hid (L1.out.trans (hl.mono L1.out.size))
      have PU := Lib.hid (put_text r.text w2 (TL.out HB.out H1.out))
      clear hl L1 x0 x1 x2 x3 x4 x5 X1
      go_wp2_with fail
      refine PU.out.mono ?_
      rintro e w3 ⟨g, m, c1, rr, rfl, hm1, hle, hgg, hk, hl⟩
      have HD : Hid (D = one r.text.size ++ r.text.data.toList) := by show _ = _; rw [HT.out, if_pos HB.out, H1.out, dta_16]
      have F := Lib.hid (show Gives w (one r.text.size ++ r.text.data.toList) (.returned (.slice (some ⟨g, 0, none⟩) m c1)) w3 from Gives.later ⟨g, m, c1, rr, rfl, hm1, hle, hgg, hk, hl⟩ L2.out)
      clear hm1 hle hgg hk hl
      go_wp2
      go_ret
      rw [HD.out]
      exact F.out

end Go.Proofs.YtcpadkehalgddaaGreatDoor.DataP

/- What the program's Up does, by the library's proved contract of strings.Cut: it returns the text behind the first dot of its argument, none where there is no dot. Condition: at most 1048576 bytes; the library's variable internal/bytealg.MaxLen holds an int. -/
namespace Go.Proofs.YtcpadkehalgddaaGreatDoor.UpImpl
open Go.RowKit Go.Proofs.YtcpadkehalgddaaGreatDoor.Mem Go.Proofs.YtcpadkehalgddaaGreatDoor.MemS Go.Proofs.YtcpadkehalgddaaGreatDoor.JoinSpec Go.Proofs.YtcpadkehalgddaaGreatDoor.Split Go.Proofs.YtcpadkehalgddaaGreatDoor.JoinLab Go.Proofs.YtcpadkehalgddaaGreatDoor.NameMath Go.Proofs.YtcpadkehalgddaaGreatDoor.Labels Go.Proofs.YtcpadkehalgddaaGreatDoor.Up

theorem index_none : ∀ l : List UInt8, 46 ∉ l → Lib.index l [46] = -1
  | [], _ => rfl
  | c :: l, h => by
    have ih := index_none l (fun e => h (by simp [e]))
    have hc : ¬ (46 : UInt8) = c := fun e => h (by rw [e]; simp)
    have h1 : ([46] : List UInt8).isPrefixOf (c :: l) = false := by
      show ((46 : UInt8) == c && _) = false
      rw [beq_eq_false_iff_ne.2 hc]; rfl
    rw [Lib.index, ih, h1]
    simp
theorem cut_ab (s : ByteArray) : (⟨(Lib.cut s.data.toList [46]).2.1.toArray⟩ : ByteArray) = Ab s := by
  apply text_ext
  rw [Ab, Jo_list]
  show (Lib.cut s.data.toList [46]).2.1 = _
  by_cases h0 : s.size = 0
  · have hz : s.data.toList.length = s.size := by simp
    have e : s.data.toList = [] := List.eq_nil_of_length_eq_zero (by omega)
    rw [Lab, if_pos h0, e]
    rfl
  · rw [jo, List.map_drop, lab_list s h0]
    by_cases hm : 46 ∈ s.data.toList
    · obtain ⟨a, b, e, ha⟩ := parts hm
      rw [e, spa_some a [] b ha, List.drop_succ_cons, List.drop_zero, join_spa, List.nil_append, Lib.cut, index_at a b ha, if_pos (by omega)]
      simp
    · rw [spa_none _ _ hm, Lib.cut, index_none _ hm, if_neg (by decide)]
      rfl

theorem cut (s : ByteArray) (w : World) (he : Env w) (hs : s.size ≤ 1048576) : Calls Tryz.prog 113 #[.string s, .string ⟨#[46]⟩] w fun e w' => ∃ x b n, e = .returned (.tuple #[.string x, .string (Ab s), .bool b]) ∧ w' = w.drewN n := by
  obtain ⟨m, hm⟩ := he
  refine (Go.Proofs.Any.strings_Cut { Tryz.laysM145 with } s ⟨#[46]⟩ m w (by omega) hm).mono fun e w' ⟨hr, n, hw⟩ => ?_
  rw [show (⟨#[46]⟩ : ByteArray).data.toList = [46] from rfl, cut_ab] at hr
  exact ⟨_, _, n, hr, hw⟩

set_option maxHeartbeats 1000000 in
theorem impl (s : ByteArray) (w : World) (he : Env w) (hs : s.size ≤ 1048576) : Calls Tryz.prog 102 #[.string s] w fun e w' => e = .returned (.string (Ab s)) ∧ Below w.heap.size w w' := by
  have HC := Lib.hid (cut s w he hs)
  clear he
  generalize Ab s = U at *
  go_enter Tryz.func102, Tryz.ntmps102
  go_wp2_with fail
  refine HC.out.mono ?_
  rintro e w1 ⟨x, b, n, rfl, rfl⟩
  go_wp2
  go_ret
  exact ⟨rfl, drewN_below _ _ _⟩
end Go.Proofs.YtcpadkehalgddaaGreatDoor.UpImpl

/- What the program's iterator over the ancestors of a valid name does (upward, a closure that keeps its place in a captured variable): it yields the joined labels behind the first, the second, and so on, till a round says no more. -/
namespace Go.Proofs.YtcpadkehalgddaaGreatDoor.AbvIter
open Go.RowKit Go.Shelf Go.Proofs.YtcpadkehalgddaaGreatDoor.Mem Go.Proofs.YtcpadkehalgddaaGreatDoor.MemS Go.Proofs.YtcpadkehalgddaaGreatDoor.JoinSpec Go.Proofs.YtcpadkehalgddaaGreatDoor.Split Go.Proofs.YtcpadkehalgddaaGreatDoor.JoinLab Go.Proofs.YtcpadkehalgddaaGreatDoor.Label Go.Proofs.YtcpadkehalgddaaGreatDoor.Labels Go.Proofs.YtcpadkehalgddaaGreatDoor.NameOk Go.Proofs.YtcpadkehalgddaaGreatDoor.Up Go.Proofs.YtcpadkehalgddaaGreatDoor.WireMath

attribute [local go_sem] Oper.semAt_some

/-- The i-th ancestor. A def, so that no step of a walk opens it. -/
def u (s : ByteArray) (i : Nat) : ByteArray := Jo ((Lab s).drop i)
theorem u_zero (s : ByteArray) : u s 0 = s := by unfold u; rw [List.drop_zero, jo_lab]
theorem okL_drop {L : List ByteArray} (h : okL L = true) (i : Nat) : okL (L.drop i) = true := by
  rw [okL, List.all_eq_true] at h ⊢
  exact fun x hx => h x (List.mem_of_mem_drop hx)
theorem u_up {s : ByteArray} (h : okL (Lab s) = true) (i : Nat) : Ab (u s i) = u s (i + 1) := by
  unfold Ab u
  rw [lab_ok (okL_drop h i), List.drop_drop]
theorem u_end (s : ByteArray) : u s (Lab s).length = ⟨#[]⟩ := by
  unfold u
  rw [List.drop_length]
  rfl
theorem jo_less {x : ByteArray} {r : List ByteArray} (h : 0 < x.size) : (Jo r).size < (Jo (x :: r)).size := by
  have hz : x.data.toList.length = x.size := by simp
  rw [Jo_size, Jo_size]
  cases r with
  | nil =>
    have e : jo [x] = x.data.toList := by simp [jo, Lib.join_one]
    have e0 : jo [] = [] := by simp [jo, Lib.join_nil]
    rw [e, e0, hz]
    simpa using h
  | cons y r =>
    have e : jo (x :: y :: r) = x.data.toList ++ 46 :: jo (y :: r) := by
      rw [jo, List.map_cons, join_more _ _ (by simp)]
      rfl
    rw [e, List.length_append, List.length_cons]
    omega
theorem u_less {s : ByteArray} (h : okL (Lab s) = true) {i : Nat} (hi : i < (Lab s).length) : (u s (i + 1)).size < (u s i).size := by
  unfold u
  rw [List.drop_eq_getElem_cons hi]
  refine jo_less ?_
  have h1 := lok_ne (okL_mem h _ (List.getElem_mem hi))
  have hz : (Lab s)[i].data.toList.length = (Lab s)[i].size := by simp
  omega
theorem u_ne {s : ByteArray} (h : okL (Lab s) = true) {i : Nat} (hi : i < (Lab s).length) : (u s i).size ≠ 0 := by
  have := u_less h hi
  omega
theorem u_small {s : ByteArray} (h : okL (Lab s) = true) : ∀ i, i ≤ (Lab s).length → (u s i).size ≤ s.size
  | 0, _ => by rw [u_zero]; exact Nat.le_refl _
  | i + 1, hi => by
    have h1 := u_small h i (by omega)
    have h2 := u_less h (i := i) (by omega)
    omega
/-- The size of the text in a box. -/
def bx (w : World) (B : Nat) : Nat := match w.cell? ⟨B, 0, none⟩ with
  | some (.string t) => t.size
  | _ => 0
theorem bx_of {w : World} {B : Nat} {t : TypeId} {x : ByteArray} (h : Boxed w B t (.string x)) : bx w B = x.size := by
  unfold bx
  rw [h.cell]

set_option maxRecDepth 100000 in
set_option maxHeartbeats 1000000 in
theorem iter (m l Bs : Nat) (hm : 1 ≤ m) (s : ByteArray) (hok : okL (Lab s) = true) (hz : s.size ≤ 1048576) (J : Nat → World → Prop) (Jx : World → Prop)
    (hY : ∀ i W, J i W → i ≤ (Lab s).length → YieldAt Fence.wide (m - 1) Tryz.prog l #[.string (u s i)] W fun e W' =>
      (e = .returned (.bool true) ∧ i < (Lab s).length ∧ J (i + 1) W' ∧ W'.heap[Bs]? = W.heap[Bs]?) ∨ (e = .returned (.bool false) ∧ Jx W'))
    (hk : ∀ i W W' row, J i W → W.grownBy W' row → (∀ r, row = some r → r = Bs) → J i W') (henv : ∀ i W, J i W → Env W)
    (W : World) (h0 : J 0 W) (hb : Boxed W Bs 9 (.string s)) :
    CallsIn Fence.wide m Tryz.prog 101 #[.func (.yield l) #[] #[], .pointer (some ⟨Bs, 0, none⟩)] W fun e W' => (∃ v, e = .returned v) ∧ Jx W' := by
  refine callsIn_of_wp Tryz.func101 rfl trivial ?_ rfl
  simp only [Tryz.ntmps101, List.size_toArray, List.length_cons, List.length_nil, Nat.reduceAdd, Nat.reduceSub, Array.replicate_succ, Array.replicate_zero, List.push_toArray, List.append_toArray, List.nil_append, List.cons_append]
  gi_wp2
  gi_loopw [3] (fun _ wr => ∃ i : Nat, i ≤ (Lab s).length ∧ J i wr ∧ Boxed wr Bs 9 (.string (u s i))) (fun _ wr => bx wr Bs)
  case atStart => exact ⟨0, Nat.zero_le _, h0, by rw [u_zero]; exact hb⟩
  case round =>
    obtain ⟨i, hi, hJ, hB⟩ := hrel
    obtain ⟨fn, tmps, assign, body, hy, hR⟩ := hY i wr hJ hi
    have hc := hB.cell
    gi_wp2
    refine hR.mono ?_
    rintro e W3 (⟨rfl, hlt, hJ3, hB3⟩ | ⟨rfl, hx⟩)
    · have hB4 : Boxed W3 Bs 9 (.string (u s i)) := hB3.trans hB
      have hc3 := hB4.cell
      have hf3 := hB4.frozen
      have UP := Lib.hid (UpImpl.impl (u s i) W3 (henv _ _ hJ3) (by have := u_small hok i hi; omega))
      have HU := Lib.hid (u_up hok i)
      rw [HU.out] at UP
      have HLE := Lib.hid (u_less hok hlt)
      gi_wp2
      refine ⟨trivial, (callsIn_wide.2 UP.out).mono ?_⟩
      rintro e W5 ⟨rfl, hl5⟩
      have hB5 : Boxed W5 Bs 9 (.string (u s i)) := (hl5.block Bs hB4.lt).trans hB4
      have hc5 := hB5.cell
      have hf5 := hB5.frozen
      have J5 := hk _ _ _ none hJ3 ⟨hl5.os, hl5.tape, hl5.output, hl5.size, fun k hk _ => hl5.block k hk⟩ (fun r e => by cases e)
      have J6 := hk _ _ _ (some Bs) J5 (grownBy_setCell' W5 Bs (.string (u s (i + 1)))) (fun r e => by cases e; rfl)
      gi_wp2
      go_roundw
      case rel => exact ⟨i + 1, by omega, J6, hB5.set _⟩
      case measure => rw [bx_of (hB5.set (.string (u s (i + 1)))), bx_of hB]; exact HLE.out
    · gi_wp2
      go_end0
      exact ⟨⟨_, rfl⟩, hx⟩
end Go.Proofs.YtcpadkehalgddaaGreatDoor.AbvIter
