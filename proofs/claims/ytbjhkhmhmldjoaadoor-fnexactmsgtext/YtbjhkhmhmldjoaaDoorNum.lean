/- What NumText does in the program, by the library's proved contract of strconv.Itoa, where the table of powers of ten reads as its text lays it. -/
import Derived.Test.YtbjhkhmhmldjoaaDoorNumSpec
import Derived.Test.YtbjhkhmhmldjoaaDoorShelfN
import Derived.Lib.LaidTab
import Derived.Stop.LaidErr
namespace Go.Proofs.YtbjhkhmhmldjoaaDoor.Num
open Go.RowKit Go.Proofs.YtbjhkhmhmldjoaaDoor.Mem

theorem gPow : Tryd.prog.globalNamed "internal/strconv.uint64pow10" = some 1 := by kernel_rfl
theorem gPowType : (Tryd.prog.globals[1]?).map (·.type) = some 135 := by kernel_rfl
theorem cellsPow : Tryd.prog.cellsOf 135 = 20 := by kernel_rfl
theorem cells64 : Tryd.prog.cellsOf 125 = 1 := by kernel_rfl

/-- The table of powers of ten reads as it should. -/
def Tab (w : World) : Prop := Lib.TabIs Tryd.prog w "internal/strconv.uint64pow10" .u64 Lib.pow10Tab
theorem Tab.lt {w : World} (h : Tab w) : 1 < w.heap.size := by
  have hc := Lib.TabIs.cell h gPow 0 (by rw [Lib.pow10Tab_length]; omega)
  exact World.block_lt_of_cell? _ _ hc
theorem Tab.below {w w' : World} (h : Tab w) (hb : Below w.heap.size w w') : Tab w' := var?_below hb gPow h.lt h

theorem grow_below (w : World) (k : Nat) (os : Array Obj) : Below w.heap.size w (Go.Sort.grow (w.drewN k) os) := by
  refine ⟨rfl, rfl, rfl, ?_, fun i hi => ?_⟩
  · show w.heap.size ≤ (w.heap ++ os).size
    simp
  · show (w.heap ++ os)[i]? = w.heap[i]?
    rw [Array.getElem?_append_left hi]

theorem bounds {n : Int} (h : (Lit.int .i64 n).wf = true) : -9223372036854775808 ≤ n ∧ n ≤ 9223372036854775807 := by
  have e1 : IntKind.i64.min = -9223372036854775808 := by decide
  have e2 : IntKind.i64.max = 9223372036854775807 := by decide
  simp [Lit.wf] at h
  omega

/-- A def, so that no step of a walk opens it. -/
def Txt (n : Int) : ByteArray := ⟨(Lib.itoa n).toArray⟩

theorem itoa (n : Int) (h : (Lit.int .i64 n).wf = true) (w : World) (ht : Tab w) :
    Calls Tryd.prog 88 #[.int .i64 n] w fun e w' => e = .returned (.string (Txt n)) ∧ Below w.heap.size w w' :=
  (Go.Proofs.Any.strconv_Itoa Tryd.laysM171 n (bounds h).1 (bounds h).2 w ht).mono fun _ _ ⟨he, k, os, hw⟩ => ⟨he, hw ▸ grow_below w k os⟩

set_option maxHeartbeats 400000 in
theorem impl (n : Int) (h : (Lit.int .i64 n).wf = true) (w : World) (ht : Tab w) :
    Calls Tryd.prog 50 #[.int .i64 n] w fun e w' => e = .returned (.string (Txt n)) ∧ Below w.heap.size w w' := by
  have HT := Lib.hid ht
  have HH := Lib.hid h
  clear ht h
  go_enter Tryd.func50, Tryd.ntmps50
  go_wp2_with fail
  refine (itoa n HH.out w HT.out).mono ?_
  rintro e w1 ⟨rfl, hl⟩
  have HL := Lib.hid hl
  clear hl
  go_wp2
  go_ret
  exact ⟨rfl, HL.out⟩

theorem spec (n : Int) (h : (Lit.int .i64 n).wf = true) (w : World) :
    Calls Tryd.prog 55 #[.int .i64 n] w fun e w' => e = .returned (.string (Txt n)) ∧ Below w.heap.size w w' :=
  NumSpec.any n (bounds h).1 (bounds h).2 w

end Go.Proofs.YtbjhkhmhmldjoaaDoor.Num
