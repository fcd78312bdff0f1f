/- What the world's shape and the listed tables give the walks of this seat, and one world in which the listed tables of unicode/utf8, math/bits and internal/strconv read as their text lays them. -/
import Derived.Test.YtbjhkhmhmldjoaaDoorLabels
import Derived.Test.YtbjhkhmhmldjoaaDoorNum
import Derived.LaidLaws
namespace Go.Proofs.YtbjhkhmhmldjoaaDoor.LaidT
open Go.RowKit Go.Proofs.YtbjhkhmhmldjoaaDoor.Labels Go.Proofs.YtbjhkhmhmldjoaaDoor.Num

theorem env {W : World} (h : W.ShapedOpen Tryd.prog) : Env W := Tryd.laysM146.s1_3 W h

def acc : List Int := [128, 191, 160, 191, 128, 159, 144, 191, 128, 143, 0, 0, 0, 0, 0, 0, 0, 0, 0, 0, 0, 0, 0, 0, 0, 0, 0, 0, 0, 0, 0, 0]
theorem gFirst : Tryd.prog.globalNamed "unicode/utf8.first" = some 2 := by kernel_rfl
theorem gAcc : Tryd.prog.globalNamed "unicode/utf8.acceptRanges" = some 3 := by kernel_rfl
/-- A block of cells, with other cells in it. -/
def put (cs : Array Value) : Obj → Obj
  | .cells _ t frozen => .cells cs t frozen
  | o => o
def tab32 : List Int := [0, 1, 28, 2, 29, 14, 24, 3, 30, 22, 20, 15, 25, 17, 4, 8, 31, 27, 13, 23, 21, 19, 16, 7, 26, 12, 18, 6, 11, 5, 10, 9]
def tab64 : List Int := [0, 1, 56, 2, 57, 49, 28, 3, 61, 58, 42, 50, 38, 29, 17, 4, 62, 47, 59, 36, 45, 43, 51, 22, 53, 39, 33, 30, 24, 18, 12, 5, 63, 55, 48, 27, 60, 41, 37, 16, 46, 35, 44, 21, 52, 32, 23, 11, 54, 26, 40, 15, 34, 20, 31, 10, 25, 14, 19, 9, 13, 8, 7, 6]
/-- The settled world, the five tables holding what their text lays. -/
noncomputable def laidWorld (os : Os) : World :=
  { World.holding Tryd.prog os ⟨#[], #[], []⟩ with heap := (((((World.holding Tryd.prog os ⟨#[], #[], []⟩).heap.modify 2 (put (Go.Pinned.utf8FirstZ.map (fun n : Nat => Value.int .u8 (n : Int))).toArray)).modify 3 (put (acc.map (Value.int .u8)).toArray)).modify 1 (put (Lib.pow10Tab.map (Value.int .u64)).toArray)).modify 4 (put (tab32.map (Value.int .u8)).toArray)).modify 5 (put (tab64.map (Value.int .u8)).toArray) }
def five : List (String × DataW Unit) := [("math/bits.deBruijn32tab", Rows.laid_math_bits_deBruijn32tab), ("math/bits.deBruijn64tab", Rows.laid_math_bits_deBruijn64tab), ("internal/strconv.uint64pow10", Rows.laid_internal_strconv_uint64pow10), ("unicode/utf8.acceptRanges", Rows.laid_unicode_utf8_acceptRanges), ("unicode/utf8.first", Rows.laid_unicode_utf8_first)]
theorem powLaid : (Rows.laid_internal_strconv_uint64pow10 : DataW Unit) = Lib.tabData .u64 Lib.pow10Tab := by kernel_rfl
/-- The table of powers of ten, out of what the rows list. -/
theorem tab {W : World} (h : laidMet Tryd.prog five W) : Tab W := by
  unfold five at h
  have h1 := h.tail.tail
  rw [powLaid] at h1
  exact Lib.tabIs_of_head gPow gPowType Tryd.underlying135 Tryd.underlying125 cells64 cellsPow h1
theorem laid_met (os : Os) (args : Array Value) : laidMet Tryd.prog five ((laidWorld os).forCall (fun _ _ => 0) ⟨#[], args, []⟩).memory :=
  laidMet_of_run' 8 (by kernel_rfl) (by kernel_rfl)
end Go.Proofs.YtbjhkhmhmldjoaaDoor.LaidT
