/- What the model's draw of a text out of a list does: it returns a text of the list, and writes nothing but its own cursor. -/
import Derived.Test.YtjgmocmaeadjdaaDrawC
namespace Go.Proofs.Ytjgmocmaeadjdaa.DrawS
open Go.RowKit Go.Proofs.Ytjgmocmaeadjdaa.Mem Go.Proofs.Ytjgmocmaeadjdaa.Draw

/-- A text with a property, the cursor moved, nothing else turned. -/
def Txt (w : World) (g : Nat) (P : ByteArray → Prop) (e : Ending) (w' : World) : Prop := ∃ x : ByteArray, e = .returned (.string x) ∧ P x ∧ Cur w' g ∧ w.grownBy w' (some g)
theorem Txt.weaken {w : World} {g : Nat} {P Q : ByteArray → Prop} {e : Ending} {w' : World} (h : Txt w g P e w') (k : ∀ x, P x → Q x) : Txt w g Q e w' := by
  obtain ⟨x, he, hx, hc, hg⟩ := h
  exact ⟨x, he, k x hx, hc, hg⟩

/-- A literal list of texts is a new block. -/
theorem bk_texts (w : World) (xs : List ByteArray) (cs : Array Value) (h : cs.toList = xs.map Value.string) : Bk (w.alloc (.cells cs 9)) w.heap.size 9 (xs.map Value.string) := by
  unfold Bk
  rw [heap_alloc_new, ← h]

set_option maxHeartbeats 1000000 in
theorem l1Str_any (g gl m : Nat) (xs : List ByteArray) (w : World) (hc : Cur w g) (hl : Bk w gl 9 (xs.map Value.string)) (hne : gl ≠ g) (hm : xs.length = m) (h0 : 0 < m) (h1 : m ≤ 100) :
    Calls Try.prog 66 #[.pointer (some ⟨g, 0, none⟩), .slice (some ⟨gl, 0, none⟩) m m] w (Txt w g (· ∈ xs)) := by
  have HC := Lib.hid hc
  have HL := Lib.hid hl
  have HM := Lib.hid hm
  have HN := Lib.hid hne
  clear hc hl hm hne
  go_enter Try.func66, Try.ntmps66
  go_wp2_with fail
  refine (l1Below_any g m w HC.out (by omega) (by omega)).mono ?_
  rintro e w1 ⟨x, rfl, hx0, hx1, hc1, hg1⟩
  obtain ⟨j, rfl⟩ := Int.eq_ofNat_of_zero_le hx0
  have hj : j < xs.length := by rw [HM.out]; omega
  have hcell : w1.cell? ⟨gl, j, none⟩ = some (.string xs[j]) := by
    rw [(HL.out.grown hg1 (fun e => HN.out (Option.some.inj e))).cell, List.getElem?_map, List.getElem?_eq_getElem hj]
    rfl
  have HC1 := Lib.hid hc1
  have HG1 := Lib.hid hg1
  clear hc1 hg1
  go_wp2
  go_ret
  exact ⟨xs[j], rfl, List.getElem_mem hj, HC1.out, HG1.out⟩
end Go.Proofs.Ytjgmocmaeadjdaa.DrawS
