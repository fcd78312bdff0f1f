/- What the model's draws of names do: texts of at most 20 bytes; nothing that was there is turned but the cursor. -/
import Derived.Test.YtlakegeabnjegaaGreatDoorDrawL
import Derived.Test.YtlakegeabnjegaaGreatDoorUp
namespace Go.Proofs.YtlakegeabnjegaaGreatDoor.DrawN
open Go.RowKit Go.Proofs.YtlakegeabnjegaaGreatDoor.Mem Go.Proofs.YtlakegeabnjegaaGreatDoor.MemS Go.Proofs.YtlakegeabnjegaaGreatDoor.Draw Go.Proofs.YtlakegeabnjegaaGreatDoor.DrawS Go.Proofs.YtlakegeabnjegaaGreatDoor.DrawL Go.Proofs.YtlakegeabnjegaaGreatDoor.JoinSpec Go.Proofs.YtlakegeabnjegaaGreatDoor.Split Go.Proofs.YtlakegeabnjegaaGreatDoor.JoinLab Go.Proofs.YtlakegeabnjegaaGreatDoor.Up

theorem below_of_grown {w w' : World} (h : w.grownBy w' none) : Below w.heap.size w w' := ⟨h.os, h.tape, h.output, h.size, fun k hk => h.block k hk (fun e => by cases e)⟩
theorem below_more {w w1 w2 : World} {g : Nat} (h : Below w.heap.size w w1) (k : w1.grownBy w2 (some g)) (hg : w.heap.size ≤ g) : Below w.heap.size w w2 := h.grown k h.size (fun j hj => by cases hj; exact hg)
theorem jo_tail (L : List ByteArray) : (jo (L.drop 1)).length ≤ (jo L).length := by
  match L with
  | [] => simp
  | [x] => simp [jo, Lib.join_nil]
  | x :: y :: r =>
    have e : jo (x :: y :: r) = x.data.toList ++ 46 :: jo (y :: r) := by
      rw [jo, List.map_cons, join_more _ _ (by simp)]
      rfl
    rw [e, List.drop_succ_cons, List.drop_zero, List.length_append, List.length_cons]
    omega
theorem ab_short {s : ByteArray} (h : Short s) : Short (Ab s) := by
  have h1 := jo_tail (Lab s)
  have e : (jo (Lab s)).length = s.size := by rw [← Jo_size, jo_lab]
  have h2 : s.size ≤ 20 := h
  show (Jo _).size ≤ 20
  rw [Jo_size]
  omega

def names : List ByteArray := [⟨#[]⟩, ⟨#[99, 111, 109]⟩, ⟨#[101, 120, 46, 99, 111, 109]⟩, ⟨#[119, 119, 119, 46, 101, 120, 46, 99, 111, 109]⟩, ⟨#[110, 115, 46, 101, 120, 46, 99, 111, 109]⟩, ⟨#[111, 114, 103]⟩, ⟨#[97, 46, 111, 114, 103]⟩, ⟨#[98, 46, 97, 46, 111, 114, 103]⟩, ⟨#[110, 115, 49, 46, 111, 114, 103]⟩, ⟨#[120, 46, 121, 46, 122, 46, 101, 120, 46, 99, 111, 109]⟩]
theorem names_short : ∀ x ∈ names, Short x := all_short _ (by decide)

set_option maxHeartbeats 1000000 in
theorem l3Name_any (g : Nat) (w : World) (hc : Cur w g) : Calls Tryz.prog 54 #[.pointer (some ⟨g, 0, none⟩)] w (Txt w g Short) := by
  have HC := Lib.hid hc
  clear hc
  go_enter Tryz.func54, Tryz.ntmps54
  go_wp2_with fail
  refine (l1Str_any g w.heap.size 10 names _ (HC.out.alloc _) (bk_texts w names _ rfl) (Nat.ne_of_gt HC.out.lt) rfl (by omega) (by omega)).mono ?_
  rintro e w1 ⟨x, rfl, hx, hc1, hg1⟩
  have HX := Lib.hid (names_short x hx)
  have HC1 := Lib.hid hc1
  have HG1 := Lib.hid (grown_trans (World.grownBy_alloc w _ (some g)) hg1)
  clear hc1 hg1 hx
  go_wp2
  go_ret
  exact ⟨x, rfl, HX.out, HC1.out, HG1.out⟩

/-- A text of at most 60 bytes. -/
def Mid (x : ByteArray) : Prop := x.size ≤ 60
theorem all_mid (l : List ByteArray) (h : (l.all fun x => decide (x.size ≤ 60)) = true) : ∀ x ∈ l, Mid x := fun x hx => of_decide_eq_true (p := x.size ≤ 60) (List.all_eq_true.1 h x hx)
def oddNames : List ByteArray := [⟨#[46]⟩, ⟨#[97, 46]⟩, ⟨#[65, 46, 99, 111, 109]⟩, ⟨#[97, 46, 46, 98]⟩, ⟨#[97, 46, 98, 46, 99, 46, 100, 46, 101, 46, 102]⟩, ⟨#[97, 46, 98, 46, 99, 46, 100, 46, 101, 46, 102, 46, 103]⟩, ⟨#[116, 119, 101, 108, 118, 101, 98, 121, 116, 101, 115, 48, 46, 116, 119, 101, 108, 118, 101, 98, 121, 116, 101, 115, 48, 46, 116, 119, 101, 108, 118, 101, 98, 121, 116, 101, 115, 48, 46, 116, 119, 101, 108, 118, 101, 98, 121, 116, 101, 115, 48]⟩, ⟨#[116, 104, 105, 114, 116, 101, 101, 110, 98, 121, 116, 101, 115, 46, 97]⟩]
theorem oddNames_mid : ∀ x ∈ oddNames, Mid x := all_mid _ (by decide)

set_option maxHeartbeats 1000000 in
theorem l3Any_any (g : Nat) (w : World) (hc : Cur w g) : Calls Tryz.prog 50 #[.pointer (some ⟨g, 0, none⟩)] w (Txt w g Mid) := by
  have HC := Lib.hid hc
  clear hc
  go_enter Tryz.func50, Tryz.ntmps50
  go_wp2_with fail
  refine (l1Once_any g 5 w HC.out (by omega) (by omega)).mono ?_
  rintro e w1 ⟨b, rfl, hc1, hg1⟩
  have C1 := Lib.hid hc1
  have G1 := Lib.hid hg1
  clear hc1 hg1 HC
  cases b
  · go_wp2_with fail
    refine (l3Name_any g w1 C1.out).mono ?_
    rintro e w2 ⟨x, rfl, hx, hc2, hg2⟩
    have HX : Hid (Mid x) := by have h : x.size ≤ 20 := hx; show x.size ≤ 60; omega
    have C2 := Lib.hid hc2
    have G2 := Lib.hid (grown_trans G1.out hg2)
    clear hc2 hg2 hx
    go_wp2
    go_ret
    exact ⟨x, rfl, HX.out, C2.out, G2.out⟩
  · go_wp2_with fail
    refine (l1Str_any g w1.heap.size 8 oddNames _ (C1.out.alloc _) (bk_texts w1 oddNames _ rfl) (Nat.ne_of_gt C1.out.lt) rfl (by omega) (by omega)).mono ?_
    rintro e w2 ⟨x, rfl, hx, hc2, hg2⟩
    have HX := Lib.hid (oddNames_mid x hx)
    have C2 := Lib.hid hc2
    have G2 := Lib.hid (grown_trans (grown_trans G1.out (World.grownBy_alloc w1 _ (some g))) hg2)
    clear hc2 hg2 hx
    go_wp2
    go_ret
    exact ⟨x, rfl, HX.out, C2.out, G2.out⟩

/-- Two short texts; nothing that was there is turned. -/
def Two (w : World) (e : Ending) (w' : World) : Prop := ∃ x y : ByteArray, e = .returned (.tuple #[.string x, .string y]) ∧ Short x ∧ Short y ∧ Below w.heap.size w w'

end Go.Proofs.YtlakegeabnjegaaGreatDoor.DrawN
