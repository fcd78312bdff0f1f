/- What Put2 and Put4 do, in the program and in its model: a new slice that holds the old bytes and the number's. -/
import Derived.Test.YtaladeifmaldeaaCopy
namespace Go.Proofs.Ytaladeifmaldeaa.Put
open Go.RowKit Go.Proofs.Ytaladeifmaldeaa.Mem

set_option maxHeartbeats 1000000 in
theorem appended_any (A A' : Option Addr) (n c n' c' : Nat) (l m : List UInt8) (w : World) (hs : Sl w w.heap.size A n l) (hs' : Sl w w.heap.size A' n' m)
    (hnil : A = none → n = 0 ∧ c = 0) (hnil' : A' = none → n' = 0 ∧ c' = 0) (hn : n ≤ 2000000) (hn' : n' ≤ 2000000) :
    Calls Try.prog 38 #[.slice A n c, .slice A' n' c'] w fun e w' => e = .returned (.slice (some ⟨w.heap.size, 0, none⟩) (n + n') (n + n')) ∧ Bk w' w.heap.size 5 ((l ++ m).map bv) ∧ Below w.heap.size w w' := by
  obtain ⟨i0, hi, hz0, hz1, hz2⟩ := info_parts Copy.info
  have HS := Lib.hid hs
  have HS' := Lib.hid hs'
  have HN := Lib.hid hnil
  have HN' := Lib.hid hnil'
  clear hs hs' hnil hnil'
  go_enter Try.func38, Try.ntmps38
  go_wp2_with (at_make; refine wpList_make_own _ rfl _ _ 22 rfl w.heap.size 5 i0 (.int .u8 0) 1 Try.underlying22 hi hz0 hz1 .i64 .i64 _ (n + n') rfl rfl ?c1 ?c2 ?c3 ?c4 ?_)
  case c1 => omega
  case c2 => rw [hz2]; omega
  case c3 => unfold maxLen; omega
  case c4 => exact Nat.le_refl _
  intro w1 hown hgrow
  have L1 := Lib.hid ((Below.refl w.heap.size w).grown hgrow (Nat.le_refl _) (fun k hk => by cases hk))
  have O1 := Lib.hid hown
  clear hown hgrow
  go_wp2_with (at_builtin; refine wpList_append_fits_any _ rfl (.tmp 12) (.tmp 13) 22 rfl w.heap.size 5 i0 1 Try.underlying22 hi hz1 w.heap.size 0 (n + n') _ rfl O1.out A n c (l.map bv) rfl ?d1 HN.out ?d2 (oneCells l) ?d3 ?_)
  case d1 => simp [HS.out.1]
  case d2 => exact cells_of (HS.out.below L1.out)
  case d3 => omega
  intro w2 hown hgrow
  have L2 := Lib.hid (L1.out.grown hgrow L1.out.size (fun k hk => by cases hk; exact Nat.le_refl _))
  have O2 := Lib.hid hown
  clear hown hgrow O1 L1
  go_wp2_with (at_builtin; refine wpList_append_fits_any _ rfl (.tmp 15) (.tmp 16) 22 rfl w.heap.size 5 i0 1 Try.underlying22 hi hz1 w.heap.size n (n + n') _ rfl O2.out A' n' c' (m.map bv) rfl ?e1 HN'.out ?e2 (oneCells m) ?e3 ?_)
  case e1 => simp [HS'.out.1]
  case e2 => exact cells_of (HS'.out.below L2.out)
  case e3 => omega
  intro w3 hown hgrow
  have L3 := Lib.hid (L2.out.grown hgrow L2.out.size (fun k hk => by cases hk; exact Nat.le_refl _))
  obtain ⟨r, hb, hr, _⟩ := bk_of_owns hown
  have hr' : r = [] := by
    have h1 := HS.out.1
    have h2 := HS'.out.1
    simp at hr
    exact List.eq_nil_of_length_eq_zero (by omega)
  subst hr'
  have HB := Lib.hid hb
  clear hb hr hown hgrow O2 L2
  go_wp2
  go_ret
  exact ⟨rfl, by simpa using HB.out, L3.out⟩
/-- The bytes of a number, the most significant first. -/
def two (k : Int) : List UInt8 := [UInt8.ofNat (k / 256).toNat, UInt8.ofNat (k % 256).toNat]
def quad (k : Int) : List UInt8 := [UInt8.ofNat (k / 16777216).toNat, UInt8.ofNat (k / 65536 % 256).toNat, UInt8.ofNat (k / 256 % 256).toNat, UInt8.ofNat (k % 256).toNat]
theorem bv_of (x : Int) (h0 : 0 ≤ x) (h1 : x < 256) : bv (UInt8.ofNat x.toNat) = .int .u8 x := by
  unfold bv
  rw [UInt8.toNat_ofNat_of_lt' (by simp [UInt8.size]; omega), Int.toNat_of_nonneg h0]
theorem two_cells (k : Int) (h0 : 0 ≤ k) (h1 : k ≤ 65535) : (two k).map bv = [.int .u8 (k / 256), .int .u8 (k % 256)] := by
  simp only [two, List.map_cons, List.map_nil]
  rw [bv_of _ (by omega) (by omega), bv_of _ (by omega) (by omega)]
theorem quad_cells (k : Int) (h0 : 0 ≤ k) (h1 : k ≤ 2147483647) : (quad k).map bv = [.int .u8 (k / 16777216), .int .u8 (k / 65536 % 256), .int .u8 (k / 256 % 256), .int .u8 (k % 256)] := by
  simp only [quad, List.map_cons, List.map_nil]
  rw [bv_of _ (by omega) (by omega), bv_of _ (by omega) (by omega), bv_of _ (by omega) (by omega), bv_of _ (by omega) (by omega)]

/-- A new block of bytes reads as a slice. -/
theorem sl_new (w : World) (cs : Array Value) (m : List UInt8) (h : cs.toList = m.map bv) : Sl (w.alloc (.cells cs 5)) (w.alloc (.cells cs 5)).heap.size (some ⟨w.heap.size, 0, none⟩) m.length m := by
  have hb : Bk (w.alloc (.cells cs 5)) w.heap.size 5 (m.map bv) := by
    unfold Bk
    rw [heap_alloc_new, ← h]
  exact hb.sl.wider hb.lt
theorem sl_alloc {w : World} {A : Option Addr} {n : Nat} {l : List UInt8} (h : Sl w w.heap.size A n l) (o : Obj) : Sl (w.alloc o) (w.alloc o).heap.size A n l :=
  (h.below ((Below.refl _ _).alloc (Nat.le_refl _) o)).wider (by simp)

/-- appended, on whatever world it is called. -/
theorem appended_gives (A A' : Option Addr) (n c n' c' : Nat) (l m : List UInt8) (w : World) (hs : Sl w w.heap.size A n l) (hs' : Sl w w.heap.size A' n' m)
    (hnil : A = none → n = 0 ∧ c = 0) (hnil' : A' = none → n' = 0 ∧ c' = 0) (hn : n ≤ 2000000) (hn' : n' ≤ 2000000) :
    Calls Try.prog 38 #[.slice A n c, .slice A' n' c'] w (Gives w (l ++ m)) := by
  refine (appended_any A A' n c n' c' l m w hs hs' hnil hnil' hn hn').mono fun e w' ⟨he, hb, hl⟩ => ?_
  have h1 := hs.1
  have h2 := hs'.1
  exact ⟨w.heap.size, n + n', n + n', [], he, by simp [h1, h2], Nat.le_refl _, Nat.le_refl _, by simpa using hb, hl⟩

theorem and255 (x : Int) (h0 : 0 ≤ x) (h1 : x < 2 ^ 40) : bits .and .i64 x 255 = x % 256 :=
  bits_mask .i64 40 (by decide) (fun n h₀ h₁ => by rw [IntKind.wrap_i64]; omega) 8 (by decide) x h0 h1

/-- What Put2 puts behind b. -/
def tail2 (k : Int) : List UInt8 := if 0 ≤ k ∧ k ≤ 65535 then two k else []
def tail4 (k : Int) : List UInt8 := if 0 ≤ k ∧ k ≤ 2147483647 then quad k else []

set_option maxHeartbeats 1000000 in
theorem implPut2 (A : Option Addr) (n c : Nat) (l : List UInt8) (k : Int) (w : World) (hs : Sl w w.heap.size A n l) (hnil : A = none → n = 0 ∧ c = 0) (hn : n ≤ 2000000) :
    Calls Try.prog 13 #[.slice A n c, .int .i64 k] w (Gives w (l ++ tail2 k)) := by
  have HS := Lib.hid hs
  have HN := Lib.hid hnil
  clear hs hnil
  by_cases hk : 0 ≤ k ∧ k ≤ 65535
  · have HT : Hid (tail2 k = two k) := if_pos hk
    obtain ⟨h0, h1⟩ := hk
    go_enter Try.func13, Try.ntmps13
    go_wp2_with fail
    refine (appended_gives A _ n c 2 2 l (two k) _ (sl_alloc HS.out _) (sl_new _ _ (two k) (two_cells k h0 h1).symm) HN.out (fun h => by cases h) hn (by omega)).mono ?_
    rintro e w1 ⟨g, m, c1, r, rfl, hm, hle, hg, hb, hl⟩
    have HM := Lib.hid hm
    have HB := Lib.hid hb
    have HL := Lib.hid hl
    have HG := Lib.hid hg
    clear hm hb hl hg
    go_wp2
    go_ret
    rw [HT.out]
    exact Gives.later (w := w.alloc _) ⟨g, m, c1, r, rfl, HM.out, hle, HG.out, HB.out, HL.out⟩ ((Below.refl _ _).alloc (Nat.le_refl _) _)
  · have HT : Hid (tail2 k = []) := if_neg hk
    rcases (show k < 0 ∨ (¬ k < 0 ∧ 65535 < k) by omega) with hk | ⟨h0, hk⟩
    all_goals
      go_enter Try.func13, Try.ntmps13
      go_wp2_with fail
      refine (appended_gives A none n c 0 0 l [] w HS.out Sl.nil HN.out (fun _ => ⟨rfl, rfl⟩) hn (by omega)).mono ?_
      rintro e w1 ⟨g, m, c1, r, rfl, hm, hle, hg, hb, hl⟩
      have HM := Lib.hid hm
      have HB := Lib.hid hb
      have HL := Lib.hid hl
      clear hm hb hl
      go_wp2
      go_ret
      rw [HT.out]
      exact ⟨g, m, c1, r, rfl, HM.out, hle, hg, HB.out, HL.out⟩

theorem owns_new (w : World) : (w.alloc (.cells #[] 5)).ownsRow w.heap.size 5 1 (.slice (some ⟨w.heap.size, 0, none⟩) 0 0) 0 [] :=
  World.ownsRow_made w #[] 0 (Nat.le_refl _) (Nat.zero_le _) (by simp)

theorem l1In_yes (a b c : Int) (w : World) (h1 : b ≤ a) (h2 : a ≤ c) : Calls Try.prog 40 #[.int .i64 a, .int .i64 b, .int .i64 c] w fun e w' => e = .returned (.bool true) ∧ w = w' := by
  go_enter Try.func40, Try.ntmps40
  go_wp2
  go_ret
  exact ⟨rfl, rfl⟩
theorem l1In_no (a b c : Int) (w : World) (h : ¬ (b ≤ a ∧ a ≤ c)) : Calls Try.prog 40 #[.int .i64 a, .int .i64 b, .int .i64 c] w fun e w' => e = .returned (.bool false) ∧ w = w' := by
  rcases (show a < b ∨ (b ≤ a ∧ c < a) by omega) with h1 | ⟨h1, h2⟩
  · clear h
    go_enter Try.func40, Try.ntmps40
    go_wp2
    go_ret
    exact ⟨rfl, rfl⟩
  · clear h
    have hd : decide (a ≤ c) = false := by simp; omega
    go_enter Try.func40, Try.ntmps40
    go_wp2
    go_ret
    exact ⟨rfl, rfl⟩

set_option maxHeartbeats 1000000 in
theorem specPut2 (A : Option Addr) (n c : Nat) (l : List UInt8) (k : Int) (w : World) (hs : Sl w w.heap.size A n l) (hnil : A = none → n = 0 ∧ c = 0) (hn : n ≤ 2000000) :
    Calls Try.prog 18 #[.slice A n c, .int .i64 k] w (Gives w (l ++ tail2 k)) := by
  obtain ⟨i0, hi, hz0, hz1, hz2⟩ := info_parts Copy.info
  have HS := Lib.hid hs
  have HN := Lib.hid hnil
  clear hs hnil
  have HT : Hid (tail2 k = if 0 ≤ k ∧ k ≤ 65535 then two k else []) := rfl
  go_enter Try.func18, Try.ntmps18
  go_wp2_with (at_builtin; refine append_src rfl (.tmp 6) (.tmp 7) 22 rfl w.heap.size 5 i0 (.int .u8 0) Try.underlying22 hi hz0 hz1 hz2 rfl w.heap.size 0 0 [] rfl (owns_new w) A n c _ l rfl (sl_alloc HS.out _) HN.out ?c1 ?c2 ?c3 ?_)
  case c1 => omega
  case c2 => omega
  case c3 => simp
  intro g1 cap1 w1 hown hgrow
  have O1 := Lib.hid hown
  have L1 := Lib.hid ((((Below.refl w.heap.size w).alloc (Nat.le_refl _) (.cells #[] 5))).grown hgrow (by simp) (fun j hj => by cases hj; exact Nat.le_refl _))
  clear hown hgrow
  by_cases hk : 0 ≤ k ∧ k ≤ 65535
  · obtain ⟨h0, h1⟩ := hk
    go_wp2_with fail
    refine (l1In_yes k 0 65535 w1 h0 h1).mono ?_
    rintro e w2 ⟨rfl, rfl⟩
    have hand := and255 k h0 (by omega)
    go_wp2_with (at_builtin; refine append_src rfl (.tmp 13) (.tmp 20) 22 rfl w.heap.size 5 i0 (.int .u8 0) Try.underlying22 hi hz0 hz1 hz2 rfl g1 n cap1 (l.map bv) rfl (O1.out.alloc _) _ 2 2 _ (two k) rfl (sl_new w1 _ (two k) (two_cells k h0 h1).symm) (fun h => by cases h) ?d1 ?d2 ?d3 ?_)
    case d1 => omega
    case d2 => omega
    case d3 => have := L1.out.size; simp; omega
    intro g2 cap2 w2 hown hgrow
    rw [← List.map_append] at hown
    have O2 := Lib.hid hown
    have L2 := Lib.hid ((L1.out.alloc L1.out.size _).grown hgrow (by have := L1.out.size; simp; omega) (fun j hj => by cases hj; exact (O1.out.lt g1 rfl).1))
    clear hown hgrow hand
    go_wp2
    go_ret
    rw [HT.out, if_pos ⟨h0, h1⟩]
    exact gives_of_owns O2.out L2.out
  · go_wp2_with fail
    refine (l1In_no k 0 65535 w1 hk).mono ?_
    rintro e w2 ⟨rfl, rfl⟩
    have H := Lib.hid hk
    clear hk
    go_wp2
    go_ret
    rw [HT.out, if_neg H.out, List.append_nil]
    exact gives_of_owns O1.out L1.out

set_option maxHeartbeats 1000000 in
theorem implPut4 (A : Option Addr) (n c : Nat) (l : List UInt8) (k : Int) (w : World) (hs : Sl w w.heap.size A n l) (hnil : A = none → n = 0 ∧ c = 0) (hn : n ≤ 2000000) :
    Calls Try.prog 20 #[.slice A n c, .int .i64 k] w (Gives w (l ++ tail4 k)) := by
  have HS := Lib.hid hs
  have HN := Lib.hid hnil
  clear hs hnil
  by_cases hk : 0 ≤ k ∧ k ≤ 2147483647
  · have HT : Hid (tail4 k = quad k) := if_pos hk
    obtain ⟨h0, h1⟩ := hk
    go_enter Try.func20, Try.ntmps20
    go_wp2_with fail
    refine (appended_gives A _ n c 4 4 l (quad k) _ (sl_alloc HS.out _) (sl_new _ _ (quad k) (quad_cells k h0 h1).symm) HN.out (fun h => by cases h) hn (by omega)).mono ?_
    rintro e w1 ⟨g, m, c1, r, rfl, hm, hle, hg, hb, hl⟩
    have HM := Lib.hid hm
    have HB := Lib.hid hb
    have HL := Lib.hid hl
    have HG := Lib.hid hg
    clear hm hb hl hg
    go_wp2
    go_ret
    rw [HT.out]
    exact Gives.later (w := w.alloc _) ⟨g, m, c1, r, rfl, HM.out, hle, HG.out, HB.out, HL.out⟩ ((Below.refl _ _).alloc (Nat.le_refl _) _)
  · have HT : Hid (tail4 k = []) := if_neg hk
    rcases (show k < 0 ∨ (¬ k < 0 ∧ 2147483647 < k) by omega) with hk | ⟨h0, hk⟩
    all_goals
      go_enter Try.func20, Try.ntmps20
      go_wp2_with fail
      refine (appended_gives A none n c 0 0 l [] w HS.out Sl.nil HN.out (fun _ => ⟨rfl, rfl⟩) hn (by omega)).mono ?_
      rintro e w1 ⟨g, m, c1, r, rfl, hm, hle, hg, hb, hl⟩
      have HM := Lib.hid hm
      have HB := Lib.hid hb
      have HL := Lib.hid hl
      clear hm hb hl
      go_wp2
      go_ret
      rw [HT.out]
      exact ⟨g, m, c1, r, rfl, HM.out, hle, hg, HB.out, HL.out⟩

set_option maxHeartbeats 1000000 in
theorem specPut4 (A : Option Addr) (n c : Nat) (l : List UInt8) (k : Int) (w : World) (hs : Sl w w.heap.size A n l) (hnil : A = none → n = 0 ∧ c = 0) (hn : n ≤ 2000000) :
    Calls Try.prog 25 #[.slice A n c, .int .i64 k] w (Gives w (l ++ tail4 k)) := by
  obtain ⟨i0, hi, hz0, hz1, hz2⟩ := info_parts Copy.info
  have HS := Lib.hid hs
  have HN := Lib.hid hnil
  clear hs hnil
  have HT : Hid (tail4 k = if 0 ≤ k ∧ k ≤ 2147483647 then quad k else []) := rfl
  go_enter Try.func25, Try.ntmps25
  go_wp2_with (at_builtin; refine append_src rfl (.tmp 6) (.tmp 7) 22 rfl w.heap.size 5 i0 (.int .u8 0) Try.underlying22 hi hz0 hz1 hz2 rfl w.heap.size 0 0 [] rfl (owns_new w) A n c _ l rfl (sl_alloc HS.out _) HN.out ?c1 ?c2 ?c3 ?_)
  case c1 => omega
  case c2 => omega
  case c3 => simp
  intro g1 cap1 w1 hown hgrow
  have O1 := Lib.hid hown
  have L1 := Lib.hid ((((Below.refl w.heap.size w).alloc (Nat.le_refl _) (.cells #[] 5))).grown hgrow (by simp) (fun j hj => by cases hj; exact Nat.le_refl _))
  clear hown hgrow
  by_cases hk : 0 ≤ k ∧ k ≤ 2147483647
  · obtain ⟨h0, h1⟩ := hk
    go_wp2_with fail
    refine (l1In_yes k 0 2147483647 w1 h0 h1).mono ?_
    rintro e w2 ⟨rfl, rfl⟩
    have hand := and255 k h0 (by omega)
    have hand1 := and255 (k / 256) (by omega) (by omega)
    have hand2 := and255 (k / 65536) (by omega) (by omega)
    go_wp2_with (at_builtin; refine append_src rfl (.tmp 13) (.tmp 28) 22 rfl w.heap.size 5 i0 (.int .u8 0) Try.underlying22 hi hz0 hz1 hz2 rfl g1 n cap1 (l.map bv) rfl (O1.out.alloc _) _ 4 4 _ (quad k) rfl (sl_new w1 _ (quad k) (quad_cells k h0 h1).symm) (fun h => by cases h) ?d1 ?d2 ?d3 ?_)
    case d1 => omega
    case d2 => omega
    case d3 => have := L1.out.size; simp; omega
    intro g2 cap2 w2 hown hgrow
    rw [← List.map_append] at hown
    have O2 := Lib.hid hown
    have L2 := Lib.hid ((L1.out.alloc L1.out.size _).grown hgrow (by have := L1.out.size; simp; omega) (fun j hj => by cases hj; exact (O1.out.lt g1 rfl).1))
    clear hown hgrow hand hand1 hand2
    go_wp2
    go_ret
    rw [HT.out, if_pos ⟨h0, h1⟩]
    exact gives_of_owns O2.out L2.out
  · go_wp2_with fail
    refine (l1In_no k 0 2147483647 w1 hk).mono ?_
    rintro e w2 ⟨rfl, rfl⟩
    have H := Lib.hid hk
    clear hk
    go_wp2
    go_ret
    rw [HT.out, if_neg H.out, List.append_nil]
    exact gives_of_owns O1.out L1.out

end Go.Proofs.Ytaladeifmaldeaa.Put
