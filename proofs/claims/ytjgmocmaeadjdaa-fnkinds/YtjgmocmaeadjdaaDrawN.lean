/- What the model's draws of names do: texts of at most 20 bytes; nothing that was there is turned but the cursor. -/
import Derived.Test.YtjgmocmaeadjdaaDrawL
import Derived.Test.YtjgmocmaeadjdaaUp
namespace Go.Proofs.Ytjgmocmaeadjdaa.DrawN
open Go.RowKit Go.Proofs.Ytjgmocmaeadjdaa.Mem Go.Proofs.Ytjgmocmaeadjdaa.MemS Go.Proofs.Ytjgmocmaeadjdaa.Draw Go.Proofs.Ytjgmocmaeadjdaa.DrawS Go.Proofs.Ytjgmocmaeadjdaa.DrawL Go.Proofs.Ytjgmocmaeadjdaa.JoinSpec Go.Proofs.Ytjgmocmaeadjdaa.Split Go.Proofs.Ytjgmocmaeadjdaa.JoinLab Go.Proofs.Ytjgmocmaeadjdaa.Up

theorem below_of_grown {w w' : World} (h : w.grownBy w' none) : Below w.heap.size w w' := ⟨h.os, h.tape, h.output, h.size, fun k hk => h.block k hk (fun e => by cases e)⟩
theorem below_more {w w1 w2 : World} {g : Nat} (h : Below w.heap.size w w1) (k : w1.grownBy w2 (some g)) (hg : w.heap.size ≤ g) : Below w.heap.size w w2 := h.grown k h.size (fun j hj => by cases hj; exact hg)
theorem jo_tail (L : List ByteArray) : (jo (L.drop 1)).length ≤ (jo L).length := by
  match L with
  | [] => simp
  | [x] => simp [jo, Lib.join_nil]
  | x :: y :: r =>
    have e : jo (x :: y :: r) = x.data.toList ++ 46 :: jo (y :: r) := by
      rw [jo, List.map_cons, join_more _ _ (by simp)]
      rfl
    rw [e, List.drop_succ_cons, List.drop_zero, List.length_append, List.length_cons]
    omega
theorem ab_short {s : ByteArray} (h : Short s) : Short (Ab s) := by
  have h1 := jo_tail (Lab s)
  have e : (jo (Lab s)).length = s.size := by rw [← Jo_size, jo_lab]
  have h2 : s.size ≤ 20 := h
  show (Jo _).size ≤ 20
  rw [Jo_size]
  omega

def names : List ByteArray := [⟨#[]⟩, ⟨#[99, 111, 109]⟩, ⟨#[101, 120, 46, 99, 111, 109]⟩, ⟨#[119, 119, 119, 46, 101, 120, 46, 99, 111, 109]⟩, ⟨#[110, 115, 46, 101, 120, 46, 99, 111, 109]⟩, ⟨#[111, 114, 103]⟩, ⟨#[97, 46, 111, 114, 103]⟩, ⟨#[98, 46, 97, 46, 111, 114, 103]⟩, ⟨#[110, 115, 49, 46, 111, 114, 103]⟩, ⟨#[120, 46, 121, 46, 122, 46, 101, 120, 46, 99, 111, 109]⟩]
theorem names_short : ∀ x ∈ names, Short x := all_short _ (by decide)

set_option maxHeartbeats 1000000 in
theorem l3Name_any (g : Nat) (w : World) (hc : Cur w g) : Calls Try.prog 79 #[.pointer (some ⟨g, 0, none⟩)] w (Txt w g Short) := by
  have HC := Lib.hid hc
  clear hc
  go_enter Try.func79, Try.ntmps79
  go_wp2_with fail
  refine (l1Str_any g w.heap.size 10 names _ (HC.out.alloc _) (bk_texts w names _ rfl) (Nat.ne_of_gt HC.out.lt) rfl (by omega) (by omega)).mono ?_
  rintro e w1 ⟨x, rfl, hx, hc1, hg1⟩
  have HX := Lib.hid (names_short x hx)
  have HC1 := Lib.hid hc1
  have HG1 := Lib.hid (grown_trans (World.grownBy_alloc w _ (some g)) hg1)
  clear hc1 hg1 hx
  go_wp2
  go_ret
  exact ⟨x, rfl, HX.out, HC1.out, HG1.out⟩

/-- A text of at most 60 bytes. -/
def Mid (x : ByteArray) : Prop := x.size ≤ 60
theorem all_mid (l : List ByteArray) (h : (l.all fun x => decide (x.size ≤ 60)) = true) : ∀ x ∈ l, Mid x := fun x hx => of_decide_eq_true (p := x.size ≤ 60) (List.all_eq_true.1 h x hx)
def oddNames : List ByteArray := [⟨#[46]⟩, ⟨#[97, 46]⟩, ⟨#[65, 46, 99, 111, 109]⟩, ⟨#[97, 46, 46, 98]⟩, ⟨#[97, 46, 98, 46, 99, 46, 100, 46, 101, 46, 102]⟩, ⟨#[97, 46, 98, 46, 99, 46, 100, 46, 101, 46, 102, 46, 103]⟩, ⟨#[116, 119, 101, 108, 118, 101, 98, 121, 116, 101, 115, 48, 46, 116, 119, 101, 108, 118, 101, 98, 121, 116, 101, 115, 48, 46, 116, 119, 101, 108, 118, 101, 98, 121, 116, 101, 115, 48, 46, 116, 119, 101, 108, 118, 101, 98, 121, 116, 101, 115, 48]⟩, ⟨#[116, 104, 105, 114, 116, 101, 101, 110, 98, 121, 116, 101, 115, 46, 97]⟩]
theorem oddNames_mid : ∀ x ∈ oddNames, Mid x := all_mid _ (by decide)

/-- Two short texts; nothing that was there is turned. -/
def Two (w : World) (e : Ending) (w' : World) : Prop := ∃ x y : ByteArray, e = .returned (.tuple #[.string x, .string y]) ∧ Short x ∧ Short y ∧ Below w.heap.size w w'

end Go.Proofs.Ytjgmocmaeadjdaa.DrawN
