/- What the program's Labels does, by the library's proved contract of strings.Split: a new slice with the pieces of the text between its dots, none for the empty text. Condition: at most 400000000 bytes; the library's variable internal/bytealg.MaxLen holds an int. -/
import Derived.Test.YtmkcjjgicinggaaGreatDoorLabSpec
import Derived.Test.YtmkcjjgicinggaaGreatDoorShelf
namespace Go.Proofs.YtmkcjjgicinggaaGreatDoor.Labels
open Go.RowKit Go.Proofs.YtmkcjjgicinggaaGreatDoor.Mem Go.Proofs.YtmkcjjgicinggaaGreatDoor.MemS Go.Proofs.YtmkcjjgicinggaaGreatDoor.AppS Go.Proofs.YtmkcjjgicinggaaGreatDoor.Split

theorem split (s : ByteArray) (w : World) (he : Env w) (hs : s.size ≤ 400000000) (h0 : s.size ≠ 0) : Calls Tryz.prog 209 #[.string s, .string ⟨#[46]⟩] w (GivesS w (Lab s)) := by
  obtain ⟨m, hm⟩ := he
  refine (Go.Proofs.Any.strings_Split { Tryz.laysM146 with } Tryz.laysM146.i9 s ⟨#[46]⟩ m w (by omega) hm (Nat.le_refl 1)).mono fun e w' ⟨hr, hw⟩ => ?_
  have hl := Lib.splitB_all ⟨#[46]⟩ (Nat.le_refl 1) 0 _ s rfl
  rw [split_lab s h0] at hw hl
  refine ⟨w.heap.size, _, _, [], hr, hl, Nat.le_refl _, Nat.le_refl _, ?_, hw ▸ (Below.refl _ _).alloc (Nat.le_refl _) _⟩
  rw [hw, List.append_nil]
  exact heap_alloc_new w _

set_option maxHeartbeats 1000000 in
theorem impl (s : ByteArray) (w : World) (he : Env w) (hs : s.size ≤ 400000000) : Calls Tryz.prog 158 #[.string s] w (GivesS w (Lab s)) := by
  have HE := Lib.hid he
  clear he
  by_cases h0 : s.size = 0
  · have HL : Hid (Lab s = []) := if_pos h0
    obtain rfl : s = ⟨#[]⟩ := text_ext (List.eq_nil_of_length_eq_zero (by simpa using h0))
    clear h0 hs
    go_enter Tryz.func158, Tryz.ntmps158
    go_wp2
    go_ret
    rw [HL.out]
    exact gives_of_owns (l := []) (owns_new w) ((Below.refl _ _).alloc (Nat.le_refl _) _)
  · have hne : s.toList.isEmpty = false := not_empty s h0
    have H0 := Lib.hid h0
    clear h0
    go_enter Tryz.func158, Tryz.ntmps158
    go_wp2_with fail
    refine (split s w HE.out hs H0.out).mono ?_
    rintro e w1 ⟨g, m, c, r, rfl, hm, hc, hg, hb, hl⟩
    have HM := Lib.hid hm
    have HG := Lib.hid hg
    have HB := Lib.hid hb
    have HL := Lib.hid hl
    clear hm hg hb hl
    go_wp2
    go_ret
    exact ⟨g, m, c, r, rfl, HM.out, hc, HG.out, HB.out, HL.out⟩
end Go.Proofs.YtmkcjjgicinggaaGreatDoor.Labels
