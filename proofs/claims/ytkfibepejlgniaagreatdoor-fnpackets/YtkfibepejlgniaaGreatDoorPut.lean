/- What Put2 and Put4 do, in the program and in its model: a new slice that holds the old bytes and the number's. -/
import Derived.Test.YtkfibepejlgniaaGreatDoorApp
namespace Go.Proofs.YtkfibepejlgniaaGreatDoor.Put
open Go.RowKit Go.Proofs.YtkfibepejlgniaaGreatDoor.Mem Go.Proofs.YtkfibepejlgniaaGreatDoor.App

/-- The bytes of a number, the most significant first. -/
def two (k : Int) : List UInt8 := [UInt8.ofNat (k / 256).toNat, UInt8.ofNat (k % 256).toNat]
def quad (k : Int) : List UInt8 := [UInt8.ofNat (k / 16777216).toNat, UInt8.ofNat (k / 65536 % 256).toNat, UInt8.ofNat (k / 256 % 256).toNat, UInt8.ofNat (k % 256).toNat]
theorem two_cells (k : Int) (h0 : 0 ≤ k) (h1 : k ≤ 65535) : (two k).map bv = [.int .u8 (k / 256), .int .u8 (k % 256)] := by
  simp only [two, List.map_cons, List.map_nil]
  rw [bv_of _ (by omega) (by omega), bv_of _ (by omega) (by omega)]
theorem quad_cells (k : Int) (h0 : 0 ≤ k) (h1 : k ≤ 2147483647) : (quad k).map bv = [.int .u8 (k / 16777216), .int .u8 (k / 65536 % 256), .int .u8 (k / 256 % 256), .int .u8 (k % 256)] := by
  simp only [quad, List.map_cons, List.map_nil]
  rw [bv_of _ (by omega) (by omega), bv_of _ (by omega) (by omega), bv_of _ (by omega) (by omega), bv_of _ (by omega) (by omega)]

theorem and255 (x : Int) (h0 : 0 ≤ x) (h1 : x < 2 ^ 40) : bits .and .i64 x 255 = x % 256 :=
  bits_mask .i64 40 (by decide) (fun n h₀ h₁ => by rw [IntKind.wrap_i64]; omega) 8 (by decide) x h0 h1

/-- What Put2 puts behind b. -/
def tail2 (k : Int) : List UInt8 := if 0 ≤ k ∧ k ≤ 65535 then two k else []
def tail4 (k : Int) : List UInt8 := if 0 ≤ k ∧ k ≤ 2147483647 then quad k else []

set_option maxHeartbeats 1000000 in
theorem implPut2 (A : Option Addr) (n c : Nat) (l : List UInt8) (k : Int) (w : World) (hs : Sl w w.heap.size A n l) (hnil : A = none → n = 0 ∧ c = 0) (hn : n ≤ 400000000) :
    Calls Tryz.prog 83 #[.slice A n c, .int .i64 k] w (Gives w (l ++ tail2 k)) := by
  have HS := Lib.hid hs
  have HN := Lib.hid hnil
  clear hs hnil
  by_cases hk : 0 ≤ k ∧ k ≤ 65535
  · have HT : Hid (tail2 k = two k) := if_pos hk
    obtain ⟨h0, h1⟩ := hk
    go_enter Tryz.func83, Tryz.ntmps83
    go_wp2_with fail
    refine (appended_gives A _ n c 2 2 l (two k) _ (sl_alloc HS.out _) (sl_new _ _ (two k) (two_cells k h0 h1).symm) HN.out (fun h => by cases h) hn (by omega)).mono ?_
    rintro e w1 ⟨g, m, c1, r, rfl, hm, hle, hg, hb, hl⟩
    have HM := Lib.hid hm
    have HB := Lib.hid hb
    have HL := Lib.hid hl
    have HG := Lib.hid hg
    clear hm hb hl hg
    go_wp2
    go_ret
    rw [HT.out]
    exact Gives.later (w := w.alloc _) ⟨g, m, c1, r, rfl, HM.out, hle, HG.out, HB.out, HL.out⟩ ((Below.refl _ _).alloc (Nat.le_refl _) _)
  · have HT : Hid (tail2 k = []) := if_neg hk
    rcases (show k < 0 ∨ (¬ k < 0 ∧ 65535 < k) by omega) with hk | ⟨h0, hk⟩
    all_goals
      go_enter Tryz.func83, Tryz.ntmps83
      go_wp2_with fail
      refine (appended_gives A none n c 0 0 l [] w HS.out Sl.nil HN.out (fun _ => ⟨rfl, rfl⟩) hn (by omega)).mono ?_
      rintro e w1 ⟨g, m, c1, r, rfl, hm, hle, hg, hb, hl⟩
      have HM := Lib.hid hm
      have HB := Lib.hid hb
      have HL := Lib.hid hl
      clear hm hb hl
      go_wp2
      go_ret
      rw [HT.out]
      exact ⟨g, m, c1, r, rfl, HM.out, hle, hg, HB.out, HL.out⟩

theorem l1In_yes (a b c : Int) (w : World) (h1 : b ≤ a) (h2 : a ≤ c) : Calls Tryz.prog 68 #[.int .i64 a, .int .i64 b, .int .i64 c] w fun e w' => e = .returned (.bool true) ∧ w = w' := by
  go_enter Tryz.func68, Tryz.ntmps68
  go_wp2
  go_ret
  exact ⟨rfl, rfl⟩
theorem l1In_no (a b c : Int) (w : World) (h : ¬ (b ≤ a ∧ a ≤ c)) : Calls Tryz.prog 68 #[.int .i64 a, .int .i64 b, .int .i64 c] w fun e w' => e = .returned (.bool false) ∧ w = w' := by
  rcases (show a < b ∨ (b ≤ a ∧ c < a) by omega) with h1 | ⟨h1, h2⟩
  · clear h
    go_enter Tryz.func68, Tryz.ntmps68
    go_wp2
    go_ret
    exact ⟨rfl, rfl⟩
  · clear h
    have hd : decide (a ≤ c) = false := by simp; omega
    go_enter Tryz.func68, Tryz.ntmps68
    go_wp2
    go_ret
    exact ⟨rfl, rfl⟩

set_option maxHeartbeats 1000000 in
theorem specPut2 (A : Option Addr) (n c : Nat) (l : List UInt8) (k : Int) (w : World) (hs : Sl w w.heap.size A n l) (hnil : A = none → n = 0 ∧ c = 0) (hn : n ≤ 400000000) :
    Calls Tryz.prog 85 #[.slice A n c, .int .i64 k] w (Gives w (l ++ tail2 k)) := by
  obtain ⟨i0, hi, hz0, hz1, hz2⟩ := info_parts Copy.info
  have HS := Lib.hid hs
  have HN := Lib.hid hnil
  clear hs hnil
  have HT : Hid (tail2 k = if 0 ≤ k ∧ k ≤ 65535 then two k else []) := rfl
  go_enter Tryz.func85, Tryz.ntmps85
  go_wp2_with (at_builtin; refine append_src rfl (.tmp 6) (.tmp 7) 22 rfl w.heap.size 5 i0 (.int .u8 0) Tryz.underlying22 hi hz0 hz1 hz2 rfl w.heap.size 0 0 [] rfl (owns_new w) A n c _ l rfl (sl_alloc HS.out _) HN.out ?c1 ?c2 ?c3 ?_)
  case c1 => omega
  case c2 => omega
  case c3 => simp
  intro g1 cap1 w1 hown hgrow
  have O1 := Lib.hid hown
  have L1 := Lib.hid ((((Below.refl w.heap.size w).alloc (Nat.le_refl _) (.cells #[] 5))).grown hgrow (by simp) (fun j hj => by cases hj; exact Nat.le_refl _))
  clear hown hgrow
  by_cases hk : 0 ≤ k ∧ k ≤ 65535
  · obtain ⟨h0, h1⟩ := hk
    go_wp2_with fail
    refine (l1In_yes k 0 65535 w1 h0 h1).mono ?_
    rintro e w2 ⟨rfl, rfl⟩
    have hand := and255 k h0 (by omega)
    go_wp2_with (at_builtin; refine append_src rfl (.tmp 13) (.tmp 20) 22 rfl w.heap.size 5 i0 (.int .u8 0) Tryz.underlying22 hi hz0 hz1 hz2 rfl g1 n cap1 (l.map bv) rfl (O1.out.alloc _) _ 2 2 _ (two k) rfl (sl_new w1 _ (two k) (two_cells k h0 h1).symm) (fun h => by cases h) ?d1 ?d2 ?d3 ?_)
    case d1 => omega
    case d2 => omega
    case d3 => have := L1.out.size; simp; omega
    intro g2 cap2 w2 hown hgrow
    rw [← List.map_append] at hown
    have O2 := Lib.hid hown
    have L2 := Lib.hid ((L1.out.alloc L1.out.size _).grown hgrow (by have := L1.out.size; simp; omega) (fun j hj => by cases hj; exact (O1.out.lt g1 rfl).1))
    clear hown hgrow hand
    go_wp2
    go_ret
    rw [HT.out, if_pos ⟨h0, h1⟩]
    exact gives_of_owns O2.out L2.out
  · go_wp2_with fail
    refine (l1In_no k 0 65535 w1 hk).mono ?_
    rintro e w2 ⟨rfl, rfl⟩
    have H := Lib.hid hk
    clear hk
    go_wp2
    go_ret
    rw [HT.out, if_neg H.out, List.append_nil]
    exact gives_of_owns O1.out L1.out

set_option maxHeartbeats 1000000 in
theorem implPut4 (A : Option Addr) (n c : Nat) (l : List UInt8) (k : Int) (w : World) (hs : Sl w w.heap.size A n l) (hnil : A = none → n = 0 ∧ c = 0) (hn : n ≤ 400000000) :
    Calls Tryz.prog 168 #[.slice A n c, .int .i64 k] w (Gives w (l ++ tail4 k)) := by
  have HS := Lib.hid hs
  have HN := Lib.hid hnil
  clear hs hnil
  by_cases hk : 0 ≤ k ∧ k ≤ 2147483647
  · have HT : Hid (tail4 k = quad k) := if_pos hk
    obtain ⟨h0, h1⟩ := hk
    go_enter Tryz.func168, Tryz.ntmps168
    go_wp2_with fail
    refine (appended_gives A _ n c 4 4 l (quad k) _ (sl_alloc HS.out _) (sl_new _ _ (quad k) (quad_cells k h0 h1).symm) HN.out (fun h => by cases h) hn (by omega)).mono ?_
    rintro e w1 ⟨g, m, c1, r, rfl, hm, hle, hg, hb, hl⟩
    have HM := Lib.hid hm
    have HB := Lib.hid hb
    have HL := Lib.hid hl
    have HG := Lib.hid hg
    clear hm hb hl hg
    go_wp2
    go_ret
    rw [HT.out]
    exact Gives.later (w := w.alloc _) ⟨g, m, c1, r, rfl, HM.out, hle, HG.out, HB.out, HL.out⟩ ((Below.refl _ _).alloc (Nat.le_refl _) _)
  · have HT : Hid (tail4 k = []) := if_neg hk
    rcases (show k < 0 ∨ (¬ k < 0 ∧ 2147483647 < k) by omega) with hk | ⟨h0, hk⟩
    all_goals
      go_enter Tryz.func168, Tryz.ntmps168
      go_wp2_with fail
      refine (appended_gives A none n c 0 0 l [] w HS.out Sl.nil HN.out (fun _ => ⟨rfl, rfl⟩) hn (by omega)).mono ?_
      rintro e w1 ⟨g, m, c1, r, rfl, hm, hle, hg, hb, hl⟩
      have HM := Lib.hid hm
      have HB := Lib.hid hb
      have HL := Lib.hid hl
      clear hm hb hl
      go_wp2
      go_ret
      rw [HT.out]
      exact ⟨g, m, c1, r, rfl, HM.out, hle, hg, HB.out, HL.out⟩

set_option maxHeartbeats 1000000 in
theorem specPut4 (A : Option Addr) (n c : Nat) (l : List UInt8) (k : Int) (w : World) (hs : Sl w w.heap.size A n l) (hnil : A = none → n = 0 ∧ c = 0) (hn : n ≤ 400000000) :
    Calls Tryz.prog 170 #[.slice A n c, .int .i64 k] w (Gives w (l ++ tail4 k)) := by
  obtain ⟨i0, hi, hz0, hz1, hz2⟩ := info_parts Copy.info
  have HS := Lib.hid hs
  have HN := Lib.hid hnil
  clear hs hnil
  have HT : Hid (tail4 k = if 0 ≤ k ∧ k ≤ 2147483647 then quad k else []) := rfl
  go_enter Tryz.func170, Tryz.ntmps170
  go_wp2_with (at_builtin; refine append_src rfl (.tmp 6) (.tmp 7) 22 rfl w.heap.size 5 i0 (.int .u8 0) Tryz.underlying22 hi hz0 hz1 hz2 rfl w.heap.size 0 0 [] rfl (owns_new w) A n c _ l rfl (sl_alloc HS.out _) HN.out ?c1 ?c2 ?c3 ?_)
  case c1 => omega
  case c2 => omega
  case c3 => simp
  intro g1 cap1 w1 hown hgrow
  have O1 := Lib.hid hown
  have L1 := Lib.hid ((((Below.refl w.heap.size w).alloc (Nat.le_refl _) (.cells #[] 5))).grown hgrow (by simp) (fun j hj => by cases hj; exact Nat.le_refl _))
  clear hown hgrow
  by_cases hk : 0 ≤ k ∧ k ≤ 2147483647
  · obtain ⟨h0, h1⟩ := hk
    go_wp2_with fail
    refine (l1In_yes k 0 2147483647 w1 h0 h1).mono ?_
    rintro e w2 ⟨rfl, rfl⟩
    have hand := and255 k h0 (by omega)
    have hand1 := and255 (k / 256) (by omega) (by omega)
    have hand2 := and255 (k / 65536) (by omega) (by omega)
    go_wp2_with (at_builtin; refine append_src rfl (.tmp 13) (.tmp 28) 22 rfl w.heap.size 5 i0 (.int .u8 0) Tryz.underlying22 hi hz0 hz1 hz2 rfl g1 n cap1 (l.map bv) rfl (O1.out.alloc _) _ 4 4 _ (quad k) rfl (sl_new w1 _ (quad k) (quad_cells k h0 h1).symm) (fun h => by cases h) ?d1 ?d2 ?d3 ?_)
    case d1 => omega
    case d2 => omega
    case d3 => have := L1.out.size; simp; omega
    intro g2 cap2 w2 hown hgrow
    rw [← List.map_append] at hown
    have O2 := Lib.hid hown
    have L2 := Lib.hid ((L1.out.alloc L1.out.size _).grown hgrow (by have := L1.out.size; simp; omega) (fun j hj => by cases hj; exact (O1.out.lt g1 rfl).1))
    clear hown hgrow hand hand1 hand2
    go_wp2
    go_ret
    rw [HT.out, if_pos ⟨h0, h1⟩]
    exact gives_of_owns O2.out L2.out
  · go_wp2_with fail
    refine (l1In_no k 0 2147483647 w1 hk).mono ?_
    rintro e w2 ⟨rfl, rfl⟩
    have H := Lib.hid hk
    clear hk
    go_wp2
    go_ret
    rw [HT.out, if_neg H.out, List.append_nil]
    exact gives_of_owns O1.out L1.out

end Go.Proofs.YtkfibepejlgniaaGreatDoor.Put
