/- What Put2 does, in the program and in its model, told of a row of one's own: a new slice that holds the old bytes and the number's. -/
import Derived.Test.YtkfibepejlgniaaGreatDoorPut
namespace Go.Proofs.YtkfibepejlgniaaGreatDoor.PutO
open Go.RowKit Go.Proofs.YtkfibepejlgniaaGreatDoor.Mem Go.Proofs.YtkfibepejlgniaaGreatDoor.App Go.Proofs.YtkfibepejlgniaaGreatDoor.Put

theorem GivesO.later {w0 w w' : World} {l : List UInt8} {e : Ending} (h : GivesO w l e w') (hb : Below w0.heap.size w0 w) : GivesO w0 l e w' := by
  obtain ⟨g, cap, he, ho, hl⟩ := h
  exact ⟨g, cap, he, owns_base ho hb.size, hb.trans (hl.mono hb.size)⟩
theorem appendedO (A A' : Option Addr) (n c n' c' : Nat) (l m : List UInt8) (w : World) (hs : Sl w w.heap.size A n l) (hs' : Sl w w.heap.size A' n' m)
    (hnil : A = none → n = 0 ∧ c = 0) (hnil' : A' = none → n' = 0 ∧ c' = 0) (hn : n ≤ 400000000) (hn' : n' ≤ 400000000) :
    Calls Tryz.prog 88 #[.slice A n c, .slice A' n' c'] w (GivesO w (l ++ m)) := by
  refine (appended_any A A' n c n' c' l m w hs hs' hnil hnil' hn hn').mono fun e w' ⟨he, hb, hl⟩ => ?_
  have h1 := hs.1
  have h2 := hs'.1
  rw [he]
  exact givesO_of (owns_of_bk (r := []) (by rw [List.append_nil]; exact hb) (Nat.le_refl _) (by rw [List.length_append, h1, h2]) (by rw [List.append_nil, List.length_map, List.length_append, h1, h2]) (by unfold maxLen; omega)) hl

set_option maxHeartbeats 1000000 in
theorem implPut2O (A : Option Addr) (n c : Nat) (l : List UInt8) (k : Int) (w : World) (hs : Sl w w.heap.size A n l) (hnil : A = none → n = 0 ∧ c = 0) (hn : n ≤ 400000000) :
    Calls Tryz.prog 83 #[.slice A n c, .int .i64 k] w (GivesO w (l ++ tail2 k)) := by
  have HS := Lib.hid hs
  have HN := Lib.hid hnil
  clear hs hnil
  by_cases hk : 0 ≤ k ∧ k ≤ 65535
  · have HT : Hid (tail2 k = two k) := if_pos hk
    obtain ⟨h0, h1⟩ := hk
    go_enter Tryz.func83, Tryz.ntmps83
    go_wp2_with fail
    refine (appendedO A _ n c 2 2 l (two k) _ (sl_alloc HS.out _) (sl_new _ _ (two k) (two_cells k h0 h1).symm) HN.out (fun h => by cases h) hn (by omega)).mono ?_
    rintro e w1 ⟨g, c1, rfl, ho, hl⟩
    generalize (l ++ two k).length = m at *
    have HO := Lib.hid ho
    have HL := Lib.hid hl
    clear ho hl
    go_wp2
    go_ret
    rw [HT.out]
    exact GivesO.later (w := w.alloc _) (givesO_of HO.out HL.out) ((Below.refl _ _).alloc (Nat.le_refl _) _)
  · have HT : Hid (tail2 k = []) := if_neg hk
    rcases (show k < 0 ∨ (¬ k < 0 ∧ 65535 < k) by omega) with hk | ⟨h0, hk⟩
    all_goals
      go_enter Tryz.func83, Tryz.ntmps83
      go_wp2_with fail
      refine (appendedO A none n c 0 0 l [] w HS.out Sl.nil HN.out (fun _ => ⟨rfl, rfl⟩) hn (by omega)).mono ?_
      rintro e w1 ⟨g, c1, rfl, ho, hl⟩
      generalize (l ++ []).length = m at *
      have HO := Lib.hid ho
      have HL := Lib.hid hl
      clear ho hl
      go_wp2
      go_ret
      rw [HT.out]
      exact givesO_of HO.out HL.out

set_option maxHeartbeats 1000000 in
theorem specPut2O (A : Option Addr) (n c : Nat) (l : List UInt8) (k : Int) (w : World) (hs : Sl w w.heap.size A n l) (hnil : A = none → n = 0 ∧ c = 0) (hn : n ≤ 400000000) :
    Calls Tryz.prog 85 #[.slice A n c, .int .i64 k] w (GivesO w (l ++ tail2 k)) := by
  obtain ⟨i0, hi, hz0, hz1, hz2⟩ := info_parts Copy.info
  have HS := Lib.hid hs
  have HN := Lib.hid hnil
  clear hs hnil
  have HT : Hid (tail2 k = if 0 ≤ k ∧ k ≤ 65535 then two k else []) := rfl
  go_enter Tryz.func85, Tryz.ntmps85
  go_wp2_with (at_builtin; refine append_src rfl (.tmp 6) (.tmp 7) 22 rfl w.heap.size 5 i0 (.int .u8 0) Tryz.underlying22 hi hz0 hz1 hz2 rfl w.heap.size 0 0 [] rfl (owns_new w) A n c _ l rfl (sl_alloc HS.out _) HN.out ?c1 ?c2 ?c3 ?_)
  case c1 => omega
  case c2 => omega
  case c3 => simp
  intro g1 cap1 w1 hown hgrow
  have O1 := Lib.hid hown
  have L1 := Lib.hid ((((Below.refl w.heap.size w).alloc (Nat.le_refl _) (.cells #[] 5))).grown hgrow (by simp) (fun j hj => by cases hj; exact Nat.le_refl _))
  clear hown hgrow
  by_cases hk : 0 ≤ k ∧ k ≤ 65535
  · obtain ⟨h0, h1⟩ := hk
    go_wp2_with fail
    refine (l1In_yes k 0 65535 w1 h0 h1).mono ?_
    rintro e w2 ⟨rfl, rfl⟩
    have hand := and255 k h0 (by omega)
    go_wp2_with (at_builtin; refine append_src rfl (.tmp 13) (.tmp 20) 22 rfl w.heap.size 5 i0 (.int .u8 0) Tryz.underlying22 hi hz0 hz1 hz2 rfl g1 n cap1 (l.map bv) rfl (O1.out.alloc _) _ 2 2 _ (two k) rfl (sl_new w1 _ (two k) (two_cells k h0 h1).symm) (fun h => by cases h) ?d1 ?d2 ?d3 ?_)
    case d1 => omega
    case d2 => omega
    case d3 => have := L1.out.size; simp; omega
    intro g2 cap2 w2 hown hgrow
    rw [← List.map_append] at hown
    have O2 := Lib.hid hown
    have L2 := Lib.hid ((L1.out.alloc L1.out.size _).grown hgrow (by have := L1.out.size; simp; omega) (fun j hj => by cases hj; exact (O1.out.lt g1 rfl).1))
    clear hown hgrow hand
    go_wp2
    go_ret
    rw [HT.out, if_pos ⟨h0, h1⟩]
    exact givesO_of O2.out L2.out
  · go_wp2_with fail
    refine (l1In_no k 0 65535 w1 hk).mono ?_
    rintro e w2 ⟨rfl, rfl⟩
    have H := Lib.hid hk
    clear hk
    go_wp2
    go_ret
    rw [HT.out, if_neg H.out, List.append_nil]
    exact givesO_of O1.out L1.out
end Go.Proofs.YtkfibepejlgniaaGreatDoor.PutO
