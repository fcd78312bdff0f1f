/- What the model's l1Bent does: a new slice of bytes, at most one longer than what came in; nothing that was there is turned but the cursor. -/
import Derived.Test.YtcpadkehalgddaaGreatDoorDrawB
import Derived.Deep.RegionHeld3
import Derived.Deep.RegionLaw
namespace Go.Proofs.YtcpadkehalgddaaGreatDoor.Bent
open Go.RowKit Go.Proofs.YtcpadkehalgddaaGreatDoor.Mem Go.Proofs.YtcpadkehalgddaaGreatDoor.Draw Go.Proofs.YtcpadkehalgddaaGreatDoor.App Go.Proofs.YtcpadkehalgddaaGreatDoor.Draw2

/-- Some new bytes, at most top, the cursor moved, nothing else turned. -/
def Bnt (w : World) (g top : Nat) (e : Ending) (w' : World) : Prop :=
  ∃ (gb m cap : Nat) (r : List Value) (l : List UInt8), e = .returned (.slice (some ⟨gb, 0, none⟩) m cap) ∧ l.length = m ∧ m ≤ cap ∧ m ≤ top ∧ w.heap.size ≤ gb ∧ Bk w' gb 5 (l.map bv ++ r) ∧ Cur w' g ∧ w.grownBy w' (some g)

/-- Some new bytes as a row of one's own, at most top, the cursor moved, nothing else turned. -/
def BntO (w : World) (g top : Nat) (e : Ending) (w' : World) : Prop :=
  ∃ (gb m cap : Nat) (l : List UInt8), e = .returned (.slice (some ⟨gb, 0, none⟩) m cap) ∧ m ≤ top ∧ w'.ownsRow w.heap.size 5 1 (.slice (some ⟨gb, 0, none⟩) m cap) m (l.map bv) ∧ Cur w' g ∧ w.grownBy w' (some g)

/-- What is known of the copy while the rest runs. -/
def St (w : World) (g gb n cap : Nat) (w' : World) : Prop :=
  ∃ (r : List Value) (l : List UInt8), l.length = n ∧ (n ≤ cap ∧ cap ≤ maxLen) ∧ (l.map bv ++ r).length = cap ∧ w.heap.size ≤ gb ∧ g < gb ∧ Bk w' gb 5 (l.map bv ++ r) ∧ Cur w' g ∧ w.grownBy w' (some g)
section
variable {w w1 w2 : World} {g gb n cap : Nat}
theorem St.later (h : St w g gb n cap w1) (hc : Cur w2 g) (hg : w1.grownBy w2 (some g)) : St w g gb n cap w2 := by
  obtain ⟨r, l, hl, hle, hcap, hb, hne, hk, _, hw⟩ := h
  exact ⟨r, l, hl, hle, hcap, hb, hne, hk.grown hg (fun e => by have := Option.some.inj e; omega), hc, grown_trans hw hg⟩
theorem St.cur' (h : St w g gb n cap w1) : Cur w1 g := by obtain ⟨_, _, _, _, _, _, _, _, hc, _⟩ := h; exact hc
theorem St.drew (h : St w g gb n cap w1) : St w g gb n cap w1.drew := by
  obtain ⟨r, l, hl, hle, hcap, hb, hne, hk, hc, hw⟩ := h
  exact ⟨r, l, hl, hle, hcap, hb, hne, hk, hc, ⟨hw.os, hw.tape, hw.output, hw.size, hw.block⟩⟩
/-- The copy's own cells stand while the cursor moves. -/
theorem St.far (h : St w g gb n cap w1) (hg : w1.grownBy w2 (some g)) (i : Nat) : w2.cell? ⟨gb, i, none⟩ = w1.cell? ⟨gb, i, none⟩ := by
  obtain ⟨r, l, hl, hle, hcap, hb, hne, hk, hc, hw⟩ := h
  exact World.cell?_of_block (hg.block gb hk.lt (fun e => by have := Option.some.inj e; omega))
theorem St.alloc (h : St w g gb n cap w1) (o : Obj) : St w g gb n cap (w1.alloc o) := h.later (h.cur'.alloc o) (World.grownBy_alloc w1 o (some g))
theorem St.gives (h : St w g gb n cap w1) {top : Nat} (ht : n ≤ top) : BntO w g top (.returned (.slice (some ⟨gb, 0, none⟩) n cap)) w1 := by
  obtain ⟨r, l, hl, hle, hcap, hb, _, hk, hc, hw⟩ := h
  exact ⟨gb, n, cap, l, rfl, ht, owns_of_bk hk hb hl hcap hle.2, hc, hw⟩
/-- Its head. -/
theorem St.head (h : St w g gb n cap w1) {m : Nat} (hm : m ≤ n) : St w g gb m cap w1 := by
  obtain ⟨r, l, hl, hle, hcap, hb, hne, hk, hc, hw⟩ := h
  have e : (l.take m).map bv ++ ((l.drop m).map bv ++ r) = l.map bv ++ r := by rw [← List.append_assoc, ← List.map_append, List.take_append_drop]
  exact ⟨(l.drop m).map bv ++ r, l.take m, by simp; omega, ⟨by omega, hle.2⟩, by rw [e]; exact hcap, hb, hne, by rw [e]; exact hk, hc, hw⟩
theorem St.cur (h : St w g gb n cap w1) : Cur w1 g := by obtain ⟨_, _, _, _, _, _, _, _, hc, _⟩ := h; exact hc
theorem St.cell (h : St w g gb n cap w1) (i : Nat) (hi : i < n) : ∃ x : Int, 0 ≤ x ∧ x < 256 ∧ w1.cell? ⟨gb, i, none⟩ = some (.int .u8 x) := by
  obtain ⟨r, l, hl, _, _, _, _, hk, _, _⟩ := h
  have hil : i < l.length := by omega
  refine ⟨(l[i].toNat : Int), by omega, by have := l[i].toNat_lt; omega, ?_⟩
  rw [hk.cell, List.getElem?_append_left (by simpa using hil)]
  simp [bv, hil]
theorem St.free (h : St w g gb n cap w1) (i : Nat) : w1.frozen? ⟨gb, i, none⟩ = false := by
  obtain ⟨r, l, _, _, _, _, _, hk, _, _⟩ := h
  exact hk.free i
theorem St.set (h : St w g gb n cap w1) (i : Nat) (hi : i < n) (x : Int) (h0 : 0 ≤ x) (h1 : x < 256) : St w g gb n cap (w1.setCell ⟨gb, i, none⟩ (.int .u8 x)) := by
  obtain ⟨r, l, hl, hle, hcap, hb, hne, hk, hc, hw⟩ := h
  have e : (l.map bv ++ r).set i (.int .u8 x) = (l.set i (UInt8.ofNat x.toNat)).map bv ++ r := by
    rw [List.set_append_left _ _ (by simp; omega), List.map_set, bv_of x h0 h1]
  refine ⟨r, l.set i (UInt8.ofNat x.toNat), by simp [hl], hle, by rw [← e]; simpa using hcap, hb, hne, by rw [← e]; exact hk.set i _, ?_, ?_⟩
  · exact hc.grown (row := some gb) ⟨rfl, rfl, rfl, by simp [World.setCell], fun k _ hk => Below.heap_setCell _ _ _ _ (fun e => hk (by simp [e]))⟩ (fun k hk => by cases hk; exact hne)
  · exact ⟨hw.os, hw.tape, hw.output, by simpa [World.setCell] using hw.size, fun k hk hne => by
      rw [Below.heap_setCell _ _ _ _ (fun e => by simp at e; omega)]; exact hw.block k hk hne⟩
theorem st_of_owns {l : List UInt8} (h : w1.ownsRow w.heap.size 5 1 (.slice (some ⟨gb, 0, none⟩) n cap) n (l.map bv)) (hl : l.length = n) (hg : g < w.heap.size) (hc : Cur w1 g) (hw : w.grownBy w1 (some g)) : St w g gb n cap w1 := by
  obtain ⟨r, hb, hr, hge⟩ := bk_of_owns h
  have hm : cap ≤ maxLen := by
    rcases h.2 with ⟨h1, _⟩ | ⟨g', cap', cur, hv, _, _, _, hm, _⟩
    · cases h1
    · simp only [Value.slice.injEq, Option.some.injEq, Addr.mk.injEq, true_and, and_true] at hv
      obtain ⟨_, rfl⟩ := hv
      exact hm
  exact ⟨r, l, hl, ⟨by rw [← hr, List.length_append, List.length_map, hl]; omega, hm⟩, hr, hge, by omega, hb, hc, hw⟩
theorem St.owns (h : St w g gb n cap w1) : ∃ l : List UInt8, l.length = n ∧ w1.ownsRow w.heap.size 5 1 (.slice (some ⟨gb, 0, none⟩) n cap) n (l.map bv) := by
  obtain ⟨r, l, hl, hle, hc, hb, hne, hk, _, hw⟩ := h
  exact ⟨l, hl, owns_of_bk hk hb hl hc hle.2⟩
end

theorem xor8 (a b : Int) : 0 ≤ bits .xor .u8 a b ∧ bits .xor .u8 a b < 256 := by
  have h : bits .xor .u8 a b = IntKind.u8.wrap ((BitVec.ofInt 8 a ^^^ BitVec.ofInt 8 b).toNat : Int) := rfl
  rw [h, IntKind.wrap_u8]
  omega
/-- One byte more. -/
theorem St.more {w w1 : World} {g gb n cap : Nat} {l : List UInt8} (h : w1.ownsRow w.heap.size 5 1 (.slice (some ⟨gb, 0, none⟩) (n + 1) cap) (n + 1) (l.map bv)) (hg : g < w.heap.size) (hc : Cur w1 g) (hw : w.grownBy w1 (some g)) : BntO w g (n + 1) (.returned (.slice (some ⟨gb, 0, none⟩) (n + 1) cap)) w1 :=
  St.gives (st_of_owns h (by have := h.1; simpa using this) hg hc hw) (Nat.le_refl _)

set_option maxHeartbeats 4000000 in
theorem l1BentO_any (g : Nat) (A : Option Addr) (n c : Nat) (l : List UInt8) (w : World) (hc : Cur w g) (hs : Sl w w.heap.size A n l) (hnil : A = none → n = 0 ∧ c = 0) (hn : n ≤ 10000) :
    Calls Tryz.prog 60 #[.pointer (some ⟨g, 0, none⟩), .slice A n c] w (BntO w g (n + 1)) := by
  obtain ⟨i0, hi, hz0, hz1, hz2⟩ := info_parts Copy.info
  have HC := Lib.hid hc
  have HS := Lib.hid hs
  have HN := Lib.hid hnil
  clear hc hs hnil
  go_enter Tryz.func60, Tryz.ntmps60
  go_wp2_with (at_builtin; refine append_src rfl (.tmp 7) (.tmp 8) 22 rfl w.heap.size 5 i0 (.int .u8 0) Tryz.underlying22 hi hz0 hz1 hz2 rfl w.heap.size 0 0 [] rfl (owns_new w) A n c _ l rfl (sl_alloc HS.out _) HN.out ?c1 ?c2 ?c3 ?_)
  case c1 => omega
  case c2 => omega
  case c3 => simp
  intro gb cap w1 hown hgrow
  have HT := Lib.hid (st_of_owns (g := g) (by simpa using hown) HS.out.1 HC.out.lt ((HC.out.alloc _).grown hgrow (fun k hk => by cases hk; exact HC.out.lt)) (grown_more (World.grownBy_alloc w _ (some g)) hgrow (Nat.le_refl _)))
  clear hown hgrow
  go_wp2_with fail
  refine (l1Below_any g 7 w1 HT.out.cur (by omega) (by omega)).mono ?_
  rintro e w2 ⟨x, rfl, hx0, hx1, hc2, hg2⟩
  have H2 := Lib.hid (HT.out.later hc2 hg2)
  clear hc2 hg2 HT
  by_cases x0 : x = 0
  · subst x0
    by_cases hn0 : 0 < n
    · go_wp2_with fail
      refine (l1Below_any g n w2 H2.out.cur (by omega) (by omega)).mono ?_
      rintro e w3 ⟨y, rfl, hy0, hy1, hc3, hg3⟩
      have H3 := Lib.hid (H2.out.later hc3 hg3)
      obtain ⟨j, rfl⟩ := Int.eq_ofNat_of_zero_le hy0
      clear hc3 hg3 H2
      go_wp2_with fail
      refine (l1Below_any g 256 w3 H3.out.cur (by omega) (by omega)).mono ?_
      rintro e w4 ⟨z, rfl, hz0, hz1, hc4, hg4⟩
      have H4 := Lib.hid (H3.out.later hc4 hg4)
      clear hc4 hg4 H3
      obtain ⟨u, _, _, hcell⟩ := H4.out.cell j (by omega)
      have hfr := H4.out.free j
      go_wp2
      go_ret
      exact St.gives (H4.out.set j (by omega) z hz0 hz1) (by omega)
    · go_wp2
      go_ret
      exact St.gives H2.out (by omega)
  by_cases x1 : x = 1
  · subst x1
    go_wp2_with fail
    refine (l1Below_any g (n + 1) w2 H2.out.cur (by omega) (by omega)).mono ?_
    rintro e w3 ⟨y, rfl, hy0, hy1, hc3, hg3⟩
    have H3 := Lib.hid (H2.out.later hc3 hg3)
    obtain ⟨j, rfl⟩ := Int.eq_ofNat_of_zero_le hy0
    clear hc3 hg3 H2
    have hle : n ≤ cap := by obtain ⟨_, _, _, h, _⟩ := H3.out; exact h.1
    go_wp2
    go_ret
    exact St.gives (H3.out.head (by omega)) (by omega)
  by_cases x2 : x = 2
  · subst x2
    have HI := Lib.hid (H2.out.cur.alloc (.cells #[.int .i64 0, .int .i64 1, .int .i64 192, .int .i64 255] 3))
    go_wp2_with fail
    refine (l1Int_any g w2.heap.size 4 [0, 1, 192, 255] _ (H2.out.cur.alloc _) (bk_ints w2 [0, 1, 192, 255] _ rfl) (Nat.ne_of_gt H2.out.cur.lt) rfl (by omega) (by omega)).mono ?_
    rintro e w3 ⟨z, rfl, hz, hc3, hg3⟩
    have hb : 0 ≤ z ∧ z < 256 := by simp at hz; omega
    obtain ⟨b0, b1⟩ := hb
    have H3 := Lib.hid ((H2.out.alloc _).later hc3 hg3)
    clear hc3 hg3 H2 hz HI
    obtain ⟨l2, hl2, ho2⟩ := H3.out.owns
    have O2 := Lib.hid ho2
    have E2 := Lib.hid hl2
    clear ho2 hl2
    go_wp2_with (at_builtin; refine append_src rfl (.tmp 37) (.tmp 42) 22 rfl w.heap.size 5 i0 (.int .u8 0) Tryz.underlying22 hi hz0 hz1 hz2 rfl gb n cap (l2.map bv) rfl (O2.out.alloc _) _ 1 1 _ [UInt8.ofNat z.toNat] rfl (sl_new w3 _ [UInt8.ofNat z.toNat] (one_cell z b0 b1).symm) (fun h => by cases h) ?d1 ?d2 ?d3 ?_)
    case d1 => omega
    case d2 => omega
    case d3 => obtain ⟨_, _, _, _, _, _, _, _, _, hw⟩ := H3.out; have := hw.size; simp; omega
    intro g4 cap4 w4 hown hgrow
    have O4 : Hid (w4.ownsRow w.heap.size 5 1 (.slice (some ⟨g4, 0, none⟩) (n + 1) cap4) (n + 1) ((l2 ++ [UInt8.ofNat z.toNat]).map bv)) := by
      show World.ownsRow _ _ _ _ _ _ _
      simpa using hown
    have HX : Hid (Cur w4 g ∧ w.grownBy w4 (some g)) := by
      obtain ⟨_, _, _, _, _, hb, hne, _, hc, hw⟩ := H3.out
      exact ⟨(hc.alloc _).grown hgrow (fun k hk => by cases hk; exact hne), grown_more (grown_trans hw (World.grownBy_alloc w3 _ (some g))) hgrow hb⟩
    clear hown hgrow O2
    go_wp2
    go_ret
    exact St.more O4.out HC.out.lt HX.out.1 HX.out.2
  by_cases x3 : x = 3
  · subst x3
    by_cases hn0 : 0 < n
    · go_wp2_with fail
      refine (l1Below_any g n w2 H2.out.cur (by omega) (by omega)).mono ?_
      rintro e w3 ⟨y, rfl, hy0, hy1, hc3, hg3⟩
      have H3 := Lib.hid (H2.out.later hc3 hg3)
      obtain ⟨j, rfl⟩ := Int.eq_ofNat_of_zero_le hy0
      clear hc3 hg3 H2
      obtain ⟨u, hu0, hu1, hcell⟩ := H3.out.cell j (by omega)
      have hfr := H3.out.free j
      have hj0 : (0 : Int) ≤ (j : Int) := by omega
      go_wp2_with fail
      have HD := Lib.hid H3.out.drew
      have hcd : w3.drew.cell? ⟨gb, j, none⟩ = some (.int .u8 u) := hcell
      clear hcell hfr
      go_region_law (first | (go_simp; go_at_call 53; refine (l1Below_any g 8 w3.drew HD.out.cur (by omega) (by omega)).mono ?_; rintro e w4 ⟨z, rfl, hz0, hz1, hc4, hg4⟩; have hcell4 : w4.cell? ⟨gb, j, none⟩ = some (.int .u8 u) := (HD.out.far hg4 j).trans hcd; have H4 := Lib.hid (HD.out.later hc4 hg4); have hfr4 := H4.out.free j; clear hc4 hg4))
      all_goals
        go_wp2
        go_ret
        exact St.gives (H4.out.set j (by omega) _ (xor8 _ _).1 (xor8 _ _).2) (by omega)
    · go_wp2
      go_ret
      exact St.gives H2.out (by omega)
  · have d0 : (x == 0) = false := by simp; omega
    have d1 : (x == 1) = false := by simp; omega
    have d2 : (x == 2) = false := by simp; omega
    have d3 : (x == 3) = false := by simp; omega
    go_wp2
    go_ret
    exact St.gives H2.out (by omega)

theorem l1Bent_any (g : Nat) (A : Option Addr) (n c : Nat) (l : List UInt8) (w : World) (hc : Cur w g) (hs : Sl w w.heap.size A n l) (hnil : A = none → n = 0 ∧ c = 0) (hn : n ≤ 10000) :
    Calls Tryz.prog 60 #[.pointer (some ⟨g, 0, none⟩), .slice A n c] w (Bnt w g (n + 1)) :=
  (l1BentO_any g A n c l w hc hs hnil hn).mono fun e w' ⟨gb, m, cap, l, he, hm, ho, hc', hg⟩ => by
    have hl : l.length = m := by have := ho.1; simpa using this
    obtain ⟨r, hb, hr, hge⟩ := bk_of_owns ho
    exact ⟨gb, m, cap, r, l, he, hl, by rw [← hr, List.length_append, List.length_map, hl]; omega, hm, hge, hb, hc', hg⟩
end Go.Proofs.YtcpadkehalgddaaGreatDoor.Bent
