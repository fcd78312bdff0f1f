/- What the model's draws of names do: texts of at most 20 bytes; nothing that was there is turned but the cursor. -/
import Derived.Test.YtebodggjcndbeaaDoorDrawL
import Derived.Test.YtebodggjcndbeaaDoorUp
namespace Go.Proofs.YtebodggjcndbeaaDoor.DrawN
open Go.RowKit Go.Proofs.YtebodggjcndbeaaDoor.Mem Go.Proofs.YtebodggjcndbeaaDoor.MemS Go.Proofs.YtebodggjcndbeaaDoor.Draw Go.Proofs.YtebodggjcndbeaaDoor.DrawS Go.Proofs.YtebodggjcndbeaaDoor.DrawL Go.Proofs.YtebodggjcndbeaaDoor.JoinSpec Go.Proofs.YtebodggjcndbeaaDoor.Split Go.Proofs.YtebodggjcndbeaaDoor.JoinLab Go.Proofs.YtebodggjcndbeaaDoor.Up

theorem below_of_grown {w w' : World} (h : w.grownBy w' none) : Below w.heap.size w w' := ⟨h.os, h.tape, h.output, h.size, fun k hk => h.block k hk (fun e => by cases e)⟩
theorem below_more {w w1 w2 : World} {g : Nat} (h : Below w.heap.size w w1) (k : w1.grownBy w2 (some g)) (hg : w.heap.size ≤ g) : Below w.heap.size w w2 := h.grown k h.size (fun j hj => by cases hj; exact hg)
theorem jo_tail (L : List ByteArray) : (jo (L.drop 1)).length ≤ (jo L).length := by
  match L with
  | [] => simp
  | [x] => simp [jo, Lib.join_nil]
  | x :: y :: r =>
    have e : jo (x :: y :: r) = x.data.toList ++ 46 :: jo (y :: r) := by
      rw [jo, List.map_cons, join_more _ _ (by simp)]
      rfl
    rw [e, List.drop_succ_cons, List.drop_zero, List.length_append, List.length_cons]
    omega
theorem ab_short {s : ByteArray} (h : Short s) : Short (Ab s) := by
  have h1 := jo_tail (Lab s)
  have e : (jo (Lab s)).length = s.size := by rw [← Jo_size, jo_lab]
  have h2 : s.size ≤ 20 := h
  show (Jo _).size ≤ 20
  rw [Jo_size]
  omega

def names : List ByteArray := [⟨#[]⟩, ⟨#[99, 111, 109]⟩, ⟨#[101, 120, 46, 99, 111, 109]⟩, ⟨#[119, 119, 119, 46, 101, 120, 46, 99, 111, 109]⟩, ⟨#[110, 115, 46, 101, 120, 46, 99, 111, 109]⟩, ⟨#[111, 114, 103]⟩, ⟨#[97, 46, 111, 114, 103]⟩, ⟨#[98, 46, 97, 46, 111, 114, 103]⟩, ⟨#[110, 115, 49, 46, 111, 114, 103]⟩, ⟨#[120, 46, 121, 46, 122, 46, 101, 120, 46, 99, 111, 109]⟩]
theorem names_short : ∀ x ∈ names, Short x := all_short _ (by decide)

set_option maxHeartbeats 1000000 in
theorem l3Name_any (g : Nat) (w : World) (hc : Cur w g) : Calls Tryd.prog 17 #[.pointer (some ⟨g, 0, none⟩)] w (Txt w g Short) := by
  have HC := Lib.hid hc
  clear hc
  go_enter Tryd.func17, Tryd.ntmps17
  go_wp2_with fail
  refine (l1Str_any g w.heap.size 10 names _ (HC.out.alloc _) (bk_texts w names _ rfl) (Nat.ne_of_gt HC.out.lt) rfl (by omega) (by omega)).mono ?_
  rintro e w1 ⟨x, rfl, hx, hc1, hg1⟩
  have HX := Lib.hid (names_short x hx)
  have HC1 := Lib.hid hc1
  have HG1 := Lib.hid (grown_trans (World.grownBy_alloc w _ (some g)) hg1)
  clear hc1 hg1 hx
  go_wp2
  go_ret
  exact ⟨x, rfl, HX.out, HC1.out, HG1.out⟩

/-- Two short texts; nothing that was there is turned. -/
def Two (w : World) (e : Ending) (w' : World) : Prop := ∃ x y : ByteArray, e = .returned (.tuple #[.string x, .string y]) ∧ Short x ∧ Short y ∧ Below w.heap.size w w'

set_option maxHeartbeats 2000000 in
theorem drawLessName_any (A : Option Addr) (n c : Nat) (l : List UInt8) (w : World) (hs : Sl w w.heap.size A n l) (hn : n ≤ 1048576) : Calls Tryd.prog 8 #[.slice A n c] w (Two w) := by
  have HS := Lib.hid hs
  clear hs
  go_enter Tryd.func8, Tryd.ntmps8
  go_wp2_with fail
  refine (l1New_any A n c l w HS.out hn).mono ?_
  rintro e w1 ⟨rfl, hc1, hg1⟩
  have C1 := Lib.hid hc1
  have L1 := Lib.hid (below_of_grown hg1)
  clear hc1 hg1
  go_wp2_with fail
  refine (l3Name_any w.heap.size w1 C1.out).mono ?_
  rintro e w2 ⟨x, rfl, hx, hc2, hg2⟩
  have HX := Lib.hid hx
  have C2 := Lib.hid hc2
  have L2 := Lib.hid (below_more L1.out hg2 (Nat.le_refl _))
  clear hc2 hg2 hx C1 L1
  go_wp2_with fail
  refine (l1Once_any w.heap.size 3 w2 C2.out (by omega) (by omega)).mono ?_
  rintro e w3 ⟨b, rfl, hc3, hg3⟩
  have C3 := Lib.hid hc3
  have L3 := Lib.hid (below_more L2.out hg3 (Nat.le_refl _))
  clear hc3 hg3 C2 L2
  cases b
  · go_wp2_with fail
    refine (l3Name_any w.heap.size w3 C3.out).mono ?_
    rintro e w4 ⟨y, rfl, hy, hc4, hg4⟩
    have HY := Lib.hid hy
    have L4 := Lib.hid (below_more L3.out hg4 (Nat.le_refl _))
    clear hc4 hg4 hy C3 L3
    go_wp2
    go_ret2
    exact ⟨x, y, rfl, HX.out, HY.out, L4.out⟩
  · have HU := Lib.hid (Up.spec x w3 (by have h : x.size ≤ 20 := HX.out; omega))
    have HA := Lib.hid (ab_short HX.out)
    generalize Ab x = y at *
    go_wp2_with fail
    refine HU.out.mono ?_
    rintro e w4 ⟨rfl, hl⟩
    have L4 := Lib.hid (L3.out.trans (hl.mono L3.out.size))
    clear hl C3 L3
    go_wp2
    go_ret2
    exact ⟨y, x, rfl, HA.out, HX.out, L4.out⟩
end Go.Proofs.YtebodggjcndbeaaDoor.DrawN
