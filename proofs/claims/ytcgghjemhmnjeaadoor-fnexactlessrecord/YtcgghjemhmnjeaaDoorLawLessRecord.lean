/- The law FnExactLessRecord returns true at every two records, where the library's variable internal/bytealg.MaxLen holds an int: LessRecord answers as its model. -/
import Derived.Test.YtcgghjemhmnjeaaDoorLessR
import Derived.Test.YtcgghjemhmnjeaaDoorSzR
import Derived.Test.YtcgghjemhmnjeaaDoorCopyR
import Derived.Test.YtcgghjemhmnjeaaDoorBoxR
namespace Go.Proofs.YtcgghjemhmnjeaaDoor.LawLessRecord
open Go.RowKit Go.Proofs.YtcgghjemhmnjeaaDoor.Mem Go.Proofs.YtcgghjemhmnjeaaDoor.MemR Go.Proofs.YtcgghjemhmnjeaaDoor.Labels Go.Proofs.YtcgghjemhmnjeaaDoor.LessR Go.Proofs.YtcgghjemhmnjeaaDoor.SzR Go.Proofs.YtcgghjemhmnjeaaDoor.CopyR Go.Proofs.YtcgghjemhmnjeaaDoor.BoxR

set_option maxHeartbeats 4000000 in
theorem walk (a b : Rec) (w : World) (he : Env w) (hz : a.name.size ≤ 9223372036854775807 ∧ a.host.size ≤ 9223372036854775807 ∧ a.text.size ≤ 9223372036854775807) (hz' : b.name.size ≤ 9223372036854775807 ∧ b.host.size ≤ 9223372036854775807 ∧ b.text.size ≤ 9223372036854775807) :
    Calls Tryd.prog 5 #[.agg #[.string a.name, .int .i64 a.ty, .int .i64 a.ttl, .int .i64 a.n, .string a.host, .string a.text], .agg #[.string b.name, .int .i64 b.ty, .int .i64 b.ttl, .int .i64 b.n, .string b.host, .string b.text]] w fun e w' => e = .returned (.bool true) ∧ Below w.heap.size w w' := by
  have mixed : Tryd.prog.follows .mixedOrders = true := by kernel_rfl
  have HE := Lib.hid he
  have Z0 := Lib.hid hz
  have Z1 := Lib.hid hz'
  clear he hz hz'
  go_enter Tryd.func5, Tryd.ntmps5
  go_wp2_with fail
  have B0 := Lib.hid (boxed w (.cells #[.string a.name, .int .i64 a.ty, .int .i64 a.ttl, .int .i64 a.n, .string a.host, .string a.text] 38) (.cells #[.string b.name, .int .i64 b.ty, .int .i64 b.ttl, .int .i64 b.n, .string b.host, .string b.text] 38))
  have X0 := Lib.hid ((bx_new w 38 a).alloc (.cells #[.string b.name, .int .i64 b.ty, .int .i64 b.ttl, .int .i64 b.n, .string b.host, .string b.text] 38))
  have Y0 := Lib.hid (bx_new (w.alloc (.cells #[.string a.name, .int .i64 a.ty, .int .i64 a.ttl, .int .i64 a.n, .string a.host, .string a.text] 38)) 38 b)
  refine (szRecord_any a 1048576 _ (by omega) (by omega) Z0.out).mono ?_
  rintro e w1 ⟨y, rfl, hy0, hy1, hy, hl⟩
  have YY := Lib.hid hy
  have L1 := Lib.hid (B0.out.trans (hl.mono B0.out.size))
  have X1 := Lib.hid (X0.out.below hl)
  have Y1 := Lib.hid (Y0.out.below hl)
  have hsz : (w.alloc (.cells #[.string a.name, .int .i64 a.ty, .int .i64 a.ttl, .int .i64 a.n, .string a.host, .string a.text] 38)).heap.size = w.heap.size + 1 := by simp
  rw [hsz] at Y1
  clear hy hl X0 Y0 B0 hsz
  by_cases hneg : y < 0
  · go_wp2
    go_ret
    exact ⟨rfl, L1.out⟩
  have FA := Lib.hid (show Fine a by
    have h := YY.out (by omega)
    unfold rz at h
    exact ⟨by omega, by omega⟩)
  clear YY
  obtain ⟨x0, x1, x2, x3, x4, x5⟩ := X1.out
  obtain ⟨y0, y1, y2, y3, y4, y5⟩ := Y1.out
  go_wp2_with fail
  clear x0 x1 x2 x3 x4 x5 y0 y1 y2 y3 y4 y5
  refine (szRecord_any b y w1 (by omega) (by omega) Z1.out).mono ?_
  rintro e w2 ⟨z, rfl, hz0, hz1, hz, hl⟩
  have ZZ := Lib.hid hz
  have L2 := Lib.hid (L1.out.trans (hl.mono L1.out.size))
  have X2 := Lib.hid (X1.out.below hl)
  have Y2 := Lib.hid (Y1.out.below hl)
  clear hz hl X1 Y1 L1
  by_cases hneg' : z < 0
  · go_wp2
    go_ret
    exact ⟨rfl, L2.out⟩
  have FB := Lib.hid (show Fine b by
    have h := ZZ.out (by omega)
    unfold rz at h
    exact ⟨by omega, by omega⟩)
  clear ZZ
  go_wp2_with fail
  have SP := Lib.hid (fun W (_ : Below w2.heap.size w2 W) => LessR.spec a b W FA.out FB.out)
  obtain ⟨u, hu⟩ : ∃ u, lr a b = u := ⟨_, rfl⟩
  have HU := Lib.hid hu
  clear hu
  rw [HU.out] at SP
  have x0 : ∀ d os, (Sort.grow (redrawn w2 d) os).cell? _ = some _ := fun d os => (X2.out.drawn d os).1
  have x1 : ∀ d os, (Sort.grow (redrawn w2 d) os).cell? _ = some _ := fun d os => (X2.out.drawn d os).2.1
  have x2 : ∀ d os, (Sort.grow (redrawn w2 d) os).cell? _ = some _ := fun d os => (X2.out.drawn d os).2.2.1
  have x3 : ∀ d os, (Sort.grow (redrawn w2 d) os).cell? _ = some _ := fun d os => (X2.out.drawn d os).2.2.2.1
  have x4 : ∀ d os, (Sort.grow (redrawn w2 d) os).cell? _ = some _ := fun d os => (X2.out.drawn d os).2.2.2.2.1
  have x5 : ∀ d os, (Sort.grow (redrawn w2 d) os).cell? _ = some _ := fun d os => (X2.out.drawn d os).2.2.2.2.2
  have y0 : ∀ d os, (Sort.grow (redrawn w2 d) os).cell? _ = some _ := fun d os => (Y2.out.drawn d os).1
  have y1 : ∀ d os, (Sort.grow (redrawn w2 d) os).cell? _ = some _ := fun d os => (Y2.out.drawn d os).2.1
  have y2 : ∀ d os, (Sort.grow (redrawn w2 d) os).cell? _ = some _ := fun d os => (Y2.out.drawn d os).2.2.1
  have y3 : ∀ d os, (Sort.grow (redrawn w2 d) os).cell? _ = some _ := fun d os => (Y2.out.drawn d os).2.2.2.1
  have y4 : ∀ d os, (Sort.grow (redrawn w2 d) os).cell? _ = some _ := fun d os => (Y2.out.drawn d os).2.2.2.2.1
  have y5 : ∀ d os, (Sort.grow (redrawn w2 d) os).cell? _ = some _ := fun d os => (Y2.out.drawn d os).2.2.2.2.2
  refine wp_region_quiet_below (by assumption) (by kernel_rfl) ?_
  repeat (quiet_step (first | (go_at_call 24; exact in_class (fun W _ => toRecord_any _ W)) | (go_at_call 15; exact in_class SP.out)))
  refine wpQuiet_nil ?_
  intro w3 hw3
  have hl := of_class hw3
  have L3 := Lib.hid (L2.out.trans (hl.mono L2.out.size))
  have X3 := Lib.hid (X2.out.below hl)
  have Y3 := Lib.hid (Y2.out.below hl)
  clear hl hw3 X2 Y2 L2 x0 x1 x2 x3 x4 x5 y0 y1 y2 y3 y4 y5 SP
  go_wp2_with fail
  have IM := Lib.hid (fun W (h : Below w3.heap.size w3 W) => LessR.impl a b W (HE.out.below (L3.out.trans (h.mono L3.out.size))) FA.out FB.out)
  rw [HU.out] at IM
  have x0 : ∀ d os, (Sort.grow (redrawn w3 d) os).cell? _ = some _ := fun d os => (X3.out.drawn d os).1
  have x1 : ∀ d os, (Sort.grow (redrawn w3 d) os).cell? _ = some _ := fun d os => (X3.out.drawn d os).2.1
  have x2 : ∀ d os, (Sort.grow (redrawn w3 d) os).cell? _ = some _ := fun d os => (X3.out.drawn d os).2.2.1
  have x3 : ∀ d os, (Sort.grow (redrawn w3 d) os).cell? _ = some _ := fun d os => (X3.out.drawn d os).2.2.2.1
  have x4 : ∀ d os, (Sort.grow (redrawn w3 d) os).cell? _ = some _ := fun d os => (X3.out.drawn d os).2.2.2.2.1
  have x5 : ∀ d os, (Sort.grow (redrawn w3 d) os).cell? _ = some _ := fun d os => (X3.out.drawn d os).2.2.2.2.2
  have y0 : ∀ d os, (Sort.grow (redrawn w3 d) os).cell? _ = some _ := fun d os => (Y3.out.drawn d os).1
  have y1 : ∀ d os, (Sort.grow (redrawn w3 d) os).cell? _ = some _ := fun d os => (Y3.out.drawn d os).2.1
  have y2 : ∀ d os, (Sort.grow (redrawn w3 d) os).cell? _ = some _ := fun d os => (Y3.out.drawn d os).2.2.1
  have y3 : ∀ d os, (Sort.grow (redrawn w3 d) os).cell? _ = some _ := fun d os => (Y3.out.drawn d os).2.2.2.1
  have y4 : ∀ d os, (Sort.grow (redrawn w3 d) os).cell? _ = some _ := fun d os => (Y3.out.drawn d os).2.2.2.2.1
  have y5 : ∀ d os, (Sort.grow (redrawn w3 d) os).cell? _ = some _ := fun d os => (Y3.out.drawn d os).2.2.2.2.2
  refine wp_region_quiet_below (by assumption) (by kernel_rfl) ?_
  repeat (quiet_step (first | (go_at_call 24; exact in_class (fun W _ => toRecord_any _ W)) | (go_at_call 14; exact in_class IM.out)))
  refine wpQuiet_nil ?_
  intro w4 hw4
  have hl := of_class hw4
  have L4 := Lib.hid (L3.out.trans (hl.mono L3.out.size))
  clear hl hw4 X3 Y3 L3 x0 x1 x2 x3 x4 x5 y0 y1 y2 y3 y4 y5 IM HU
  have hbb : (u != u) = false := by cases u <;> rfl
  go_wp2
  go_ret
  exact ⟨rfl, L4.out⟩
end Go.Proofs.YtcgghjemhmnjeaaDoor.LawLessRecord
