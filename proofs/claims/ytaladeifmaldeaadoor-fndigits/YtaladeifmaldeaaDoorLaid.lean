/- What the listed variables of the library give a walk, and one world in which they read as listed. -/
import Derived.Test.YtaladeifmaldeaaDoorParse
import Derived.LaidLaws
namespace Go.Proofs.YtaladeifmaldeaaDoor.Laid
open Go.RowKit Go.Proofs.YtaladeifmaldeaaDoor.Num Go.Proofs.YtaladeifmaldeaaDoor.Parse

def five : List (String × DataW Unit) := [("math/bits.deBruijn32tab", Rows.laid_math_bits_deBruijn32tab), ("math/bits.deBruijn64tab", Rows.laid_math_bits_deBruijn64tab), ("internal/strconv.uint64pow10", Rows.laid_internal_strconv_uint64pow10), ("strconv.ErrRange", Rows.laid_strconv_ErrRange), ("strconv.ErrSyntax", Rows.laid_strconv_ErrSyntax)]
theorem powLaid : (Rows.laid_internal_strconv_uint64pow10 : DataW Unit) = Lib.tabData .u64 Lib.pow10Tab := by kernel_rfl
theorem gSynType : (Tryd.prog.globals[0]?).map (·.type) = some 38 := by kernel_rfl
theorem gRanType : (Tryd.prog.globals[1]?).map (·.type) = some 38 := by kernel_rfl
theorem cellsErr : Tryd.prog.cellsOf 72 = 1 := by kernel_rfl
theorem cellsStr : Tryd.prog.cellsOf 9 = 1 := by kernel_rfl
theorem star : "*" ++ "errors.errorString" = "*errors.errorString" := by decide
theorem oneRow (u : TypeId) (h : Tryd.prog.typeName? 3 u = some "*errors.errorString") : u = 70 :=
  typeName_ptr_named (nm := "errors.errorString") (by rw [star]; kernel_rfl) (by kernel_rfl) (by decide) u (by rw [star]; exact h)

/-- What the walks need, out of what the rows list. -/
theorem env {W : World} (h : laidMet Tryd.prog five W) : Env W := by
  unfold five at h
  have ht : Tab W := by
    have h1 := h.tail.tail
    rw [powLaid] at h1
    exact Lib.tabIs_of_head gPow gPowType Tryd.underlying75 Tryd.underlying56 cells64 cellsPow h1
  obtain ⟨a0, s0, hv0, -, -, -⟩ := laid_sentinel h.tail.tail.tail gRan gRanType Tryd.underlying38 oneRow Tryd.underlying70 Tryd.underlying72 rfl rfl Tryd.underlying9 cellsErr cellsStr
  obtain ⟨a1, s1, hv1, -, -, -⟩ := laid_sentinel h.tail.tail.tail.tail gSyn gSynType Tryd.underlying38 oneRow Tryd.underlying70 Tryd.underlying72 rfl rfl Tryd.underlying9 cellsErr cellsStr
  exact ⟨ht, ⟨_, _, hv1⟩, ⟨_, _, hv0⟩⟩

def tab32 : List Int := [0, 1, 28, 2, 29, 14, 24, 3, 30, 22, 20, 15, 25, 17, 4, 8, 31, 27, 13, 23, 21, 19, 16, 7, 26, 12, 18, 6, 11, 5, 10, 9]
def tab64 : List Int := [0, 1, 56, 2, 57, 49, 28, 3, 61, 58, 42, 50, 38, 29, 17, 4, 62, 47, 59, 36, 45, 43, 51, 22, 53, 39, 33, 30, 24, 18, 12, 5, 63, 55, 48, 27, 60, 41, 37, 16, 46, 35, 44, 21, 52, 32, 23, 11, 54, 26, 40, 15, 34, 20, 31, 10, 25, 14, 19, 9, 13, 8, 7, 6]
/-- A block of cells, with other cells in it. -/
def put (cs : Array Value) : Obj → Obj
  | .cells _ t frozen => .cells cs t frozen
  | o => o
def synS : ByteArray := { data := #[105, 110, 118, 97, 108, 105, 100, 32, 115, 121, 110, 116, 97, 120] }
def ranS : ByteArray := { data := #[118, 97, 108, 117, 101, 32, 111, 117, 116, 32, 111, 102, 32, 114, 97, 110, 103, 101] }
/-- So many blocks has the settled world. -/
noncomputable def low : Nat := (World.holding Tryd.prog default ⟨#[], #[], []⟩).heap.size
/-- The settled world, the tables and the two errors holding what their text lays. -/
noncomputable def laidWorld (os : Os) : World :=
  let w0 := World.holding Tryd.prog os ⟨#[.cells #[.string synS] 72, .cells #[.string ranS] 72], #[], []⟩
  { w0 with heap := ((((w0.heap.modify 0 (put #[.iface 70 (.pointer (some ⟨low, 0, none⟩))])).modify 1 (put #[.iface 70 (.pointer (some ⟨low + 1, 0, none⟩))])).modify 2 (put (Lib.pow10Tab.map (Value.int .u64)).toArray)).modify 3 (put (tab32.map (Value.int .u8)).toArray)).modify 4 (put (tab64.map (Value.int .u8)).toArray) }
theorem laid_met (os : Os) (args : Array Value) : laidMet Tryd.prog five ((laidWorld os).forCall (fun _ _ => 0) ⟨#[], args, []⟩).memory :=
  laidMet_of_run' 8 (by kernel_rfl) (by kernel_rfl)

set_option maxHeartbeats 1000000 in
/-- The law FnExactParseNum at every string. -/
theorem walk (s : ByteArray) (w : World) (_hs : s.size ≤ maxLen) (he : Env w) :
    Calls Tryd.prog 5 #[.string s] w fun e w' => e = .returned (.bool true) ∧ Below w.heap.size w w' := by
  have HE := Lib.hid he
  clear he
  by_cases hbig : s.size ≤ 1048576
  · have hb' : ¬ (1048576 : Int) < (s.size : Int) := by omega
    go_enter Tryd.func5, Tryd.ntmps5
    go_wp2_with fail
    refine (Parse.spec s (by omega) w).mono ?_
    rintro e w1 ⟨x, b, rfl, hg, hl⟩
    have HG := Lib.hid hg
    have HL := Lib.hid hl
    clear hg hl
    go_wp2_with fail
    refine (Parse.impl s (by omega) w1 (HE.out.below HL.out)).mono ?_
    rintro e w2 ⟨y, c, rfl, hg2, hl2⟩
    have HL2 := Lib.hid (HL.out.trans (hl2.mono HL.out.size))
    obtain ⟨rfl, rfl⟩ := HG.out.uniq hg2
    have h1 : (x != x) = false := by simp
    clear hg2 hl2 HG HL
    cases b
    all_goals
      go_wp2
      go_ret
      exact ⟨rfl, HL2.out⟩
  · have hb' : (1048576 : Int) < (s.size : Int) := by omega
    go_enter Tryd.func5, Tryd.ntmps5
    go_wp2
    go_ret
    exact ⟨rfl, Below.refl _ _⟩
end Go.Proofs.YtaladeifmaldeaaDoor.Laid
