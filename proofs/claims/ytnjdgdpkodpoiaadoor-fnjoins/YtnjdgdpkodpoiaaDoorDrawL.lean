/- What the model's draws of labels do: texts of at most 20 bytes; nothing that was there is turned but the cursor. -/
import Derived.Test.YtnjdgdpkodpoiaaDoorDrawS
namespace Go.Proofs.YtnjdgdpkodpoiaaDoor.DrawL
open Go.RowKit Go.Proofs.YtnjdgdpkodpoiaaDoor.Mem Go.Proofs.YtnjdgdpkodpoiaaDoor.Draw Go.Proofs.YtnjdgdpkodpoiaaDoor.DrawS

/-- A short text. -/
def Short (x : ByteArray) : Prop := x.size ≤ 20
theorem all_short (l : List ByteArray) (h : (l.all fun x => decide (x.size ≤ 20)) = true) : ∀ x ∈ l, Short x := fun x hx => of_decide_eq_true (p := x.size ≤ 20) (List.all_eq_true.1 h x hx)
def labels : List ByteArray := [⟨#[97]⟩, ⟨#[98]⟩, ⟨#[99]⟩, ⟨#[119, 119, 119]⟩, ⟨#[110, 115]⟩, ⟨#[110, 115, 49]⟩, ⟨#[99, 111, 109]⟩, ⟨#[111, 114, 103]⟩, ⟨#[101, 120]⟩, ⟨#[116, 119, 101, 108, 118, 101, 98, 121, 116, 101, 115, 48]⟩, ⟨#[120, 45, 121]⟩, ⟨#[95, 116]⟩]
theorem labels_short : ∀ x ∈ labels, Short x := all_short _ (by decide)
def odds : List ByteArray := [⟨#[]⟩, ⟨#[65]⟩, ⟨#[87, 119, 119]⟩, ⟨#[116, 104, 105, 114, 116, 101, 101, 110, 98, 121, 116, 101, 115]⟩, ⟨#[97, 32, 98]⟩, ⟨#[97, 46, 98]⟩, ⟨#[0]⟩, ⟨#[123]⟩, ⟨#[64]⟩]
theorem odds_short : ∀ x ∈ odds, Short x := all_short _ (by decide)

set_option maxHeartbeats 1000000 in
theorem l2Label_any (g : Nat) (w : World) (hc : Cur w g) : Calls Tryd.prog 27 #[.pointer (some ⟨g, 0, none⟩)] w (Txt w g Short) := by
  have HC := Lib.hid hc
  clear hc
  go_enter Tryd.func27, Tryd.ntmps27
  go_wp2_with fail
  refine (l1Str_any g w.heap.size 12 labels _ (HC.out.alloc _) (bk_texts w labels _ rfl) (Nat.ne_of_gt HC.out.lt) rfl (by omega) (by omega)).mono ?_
  rintro e w1 ⟨x, rfl, hx, hc1, hg1⟩
  have HX := Lib.hid (labels_short x hx)
  have HC1 := Lib.hid hc1
  have HG1 := Lib.hid (grown_trans (World.grownBy_alloc w _ (some g)) hg1)
  clear hc1 hg1 hx
  go_wp2
  go_ret
  exact ⟨x, rfl, HX.out, HC1.out, HG1.out⟩

set_option maxHeartbeats 1000000 in
theorem l2Any_any (g : Nat) (w : World) (hc : Cur w g) : Calls Tryd.prog 20 #[.pointer (some ⟨g, 0, none⟩)] w (Txt w g Short) := by
  have HC := Lib.hid hc
  clear hc
  go_enter Tryd.func20, Tryd.ntmps20
  go_wp2_with fail
  refine (l1Once_any g 4 w HC.out (by omega) (by omega)).mono ?_
  rintro e w1 ⟨b, rfl, hc1, hg1⟩
  have HC1 := Lib.hid hc1
  have HG1 := Lib.hid hg1
  clear hc1 hg1
  cases b
  · go_wp2_with fail
    refine (l2Label_any g w1 HC1.out).mono ?_
    rintro e w2 ⟨x, rfl, hx, hc2, hg2⟩
    have HX := Lib.hid hx
    have HC2 := Lib.hid hc2
    have HG2 := Lib.hid (grown_trans HG1.out hg2)
    clear hc2 hg2 hx
    go_wp2
    go_ret
    exact ⟨x, rfl, HX.out, HC2.out, HG2.out⟩
  · go_wp2_with fail
    refine (l1Str_any g w1.heap.size 9 odds _ (HC1.out.alloc _) (bk_texts w1 odds _ rfl) (Nat.ne_of_gt HC1.out.lt) rfl (by omega) (by omega)).mono ?_
    rintro e w2 ⟨x, rfl, hx, hc2, hg2⟩
    have HX := Lib.hid (odds_short x hx)
    have HC2 := Lib.hid hc2
    have HG2 := Lib.hid (grown_trans HG1.out (grown_trans (World.grownBy_alloc w1 _ (some g)) hg2))
    clear hc2 hg2 hx
    go_wp2
    go_ret
    exact ⟨x, rfl, HX.out, HC2.out, HG2.out⟩
end Go.Proofs.YtnjdgdpkodpoiaaDoor.DrawL
