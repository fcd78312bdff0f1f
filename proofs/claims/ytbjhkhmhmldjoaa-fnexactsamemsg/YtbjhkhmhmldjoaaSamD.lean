/- Some ways of SameMsg. -/
import Derived.Test.YtbjhkhmhmldjoaaSamM
namespace Go.Proofs.Ytbjhkhmhmldjoaa.SamD
open Go.RowKit Go.Proofs.Ytbjhkhmhmldjoaa.Mem Go.Proofs.Ytbjhkhmhmldjoaa.MemR Go.Proofs.Ytbjhkhmhmldjoaa.BoxR Go.Proofs.Ytbjhkhmhmldjoaa.MemM Go.Proofs.Ytbjhkhmhmldjoaa.ResM Go.Proofs.Ytbjhkhmhmldjoaa.SameR Go.Proofs.Ytbjhkhmhmldjoaa.SamM

set_option maxRecDepth 100000 in
set_option maxHeartbeats 8000000 in
theorem sp_r1 (ia : Int) (pa : Bool) (qa : Bool) (ra : Bool) (sa : Bool) (ta : Bool) (da : Int) (nma : ByteArray) (tya : Int) (A1 A1' : Option Addr) (n1 n1' c1 c1' : Nat) (A2 A2' : Option Addr) (n2 n2' c2 c2' : Nat) (A3 A3' : Option Addr) (n3 n3' c3 c3' : Nat) (w : World) (C1 : ∀ W : World, Below w.heap.size w W → Calls Try.prog 26 #[.slice A1 n1 c1, .slice A1' n1' c1'] W fun e w' => e = .returned (.bool false) ∧ Below W.heap.size W w') : Calls Try.prog 8 #[.agg #[.int .i64 ia, .bool pa, .bool qa, .bool ra, .bool sa, .bool ta, .int .i64 da, .string nma, .int .i64 tya, .slice A1 n1 c1, .slice A2 n2 c2, .slice A3 n3 c3], .agg #[.int .i64 ia, .bool pa, .bool qa, .bool ra, .bool sa, .bool ta, .int .i64 da, .string nma, .int .i64 tya, .slice A1' n1' c1', .slice A2' n2' c2', .slice A3' n3' c3']] w fun e w' => e = .returned (.bool false) ∧ Below w.heap.size w w' := by
  have hg := grdQ
  have hqs := eqlQ_same nma tya
  have D1 := Lib.hid C1
  clear C1
  have L0 := Lib.hid (((Below.refl w.heap.size w).alloc (Nat.le_refl _) (.cells #[.int .i64 ia, .bool pa, .bool qa, .bool ra, .bool sa, .bool ta, .int .i64 da, .string nma, .int .i64 tya, .slice A1 n1 c1, .slice A2 n2 c2, .slice A3 n3 c3] 32)).alloc (by simp) (.cells #[.int .i64 ia, .bool pa, .bool qa, .bool ra, .bool sa, .bool ta, .int .i64 da, .string nma, .int .i64 tya, .slice A1' n1' c1', .slice A2' n2' c2', .slice A3' n3' c3'] 32))
  have X0 : Hid (Mx ((w.alloc (.cells #[.int .i64 ia, .bool pa, .bool qa, .bool ra, .bool sa, .bool ta, .int .i64 da, .string nma, .int .i64 tya, .slice A1 n1 c1, .slice A2 n2 c2, .slice A3 n3 c3] 32)).alloc (.cells #[.int .i64 ia, .bool pa, .bool qa, .bool ra, .bool sa, .bool ta, .int .i64 da, .string nma, .int .i64 tya, .slice A1' n1' c1', .slice A2' n2' c2', .slice A3' n3' c3'] 32)) w.heap.size ⟨ia, pa, qa, ra, sa, ta, da, nma, tya⟩ (.slice A1 n1 c1) (.slice A2 n2 c2) (.slice A3 n3 c3)) := (mx_new w 32 ⟨ia, pa, qa, ra, sa, ta, da, nma, tya⟩ (.slice A1 n1 c1) (.slice A2 n2 c2) (.slice A3 n3 c3)).alloc _
  have Y0 : Hid (Mx ((w.alloc (.cells #[.int .i64 ia, .bool pa, .bool qa, .bool ra, .bool sa, .bool ta, .int .i64 da, .string nma, .int .i64 tya, .slice A1 n1 c1, .slice A2 n2 c2, .slice A3 n3 c3] 32)).alloc (.cells #[.int .i64 ia, .bool pa, .bool qa, .bool ra, .bool sa, .bool ta, .int .i64 da, .string nma, .int .i64 tya, .slice A1' n1' c1', .slice A2' n2' c2', .slice A3' n3' c3'] 32)) (w.heap.size + 1) ⟨ia, pa, qa, ra, sa, ta, da, nma, tya⟩ (.slice A1' n1' c1') (.slice A2' n2' c2') (.slice A3' n3' c3')) := mx_of (h := ⟨ia, pa, qa, ra, sa, ta, da, nma, tya⟩) (x := .slice A1' n1' c1') (y := .slice A2' n2' c2') (z := .slice A3' n3' c3') at2
  go_enter Try.func8, Try.ntmps8
  go_wp2_with fail
  refine (D1.out _ L0.out).mono ?_
  rintro e w1 ⟨rfl, hl⟩
  have L1 := Lib.hid (L0.out.trans (hl.mono L0.out.size))
  have X1 := Lib.hid (X0.out.below hl)
  have Y1 := Lib.hid (Y0.out.below hl)
  clear hl L0 X0 Y0 
  go_wp2
  go_ret
  exact ⟨rfl, L1.out⟩

set_option maxRecDepth 100000 in
set_option maxHeartbeats 8000000 in
theorem sp_r2 (ia : Int) (pa : Bool) (qa : Bool) (ra : Bool) (sa : Bool) (ta : Bool) (da : Int) (nma : ByteArray) (tya : Int) (A1 A1' : Option Addr) (n1 n1' c1 c1' : Nat) (A2 A2' : Option Addr) (n2 n2' c2 c2' : Nat) (A3 A3' : Option Addr) (n3 n3' c3 c3' : Nat) (w : World) (C1 : ∀ W : World, Below w.heap.size w W → Calls Try.prog 26 #[.slice A1 n1 c1, .slice A1' n1' c1'] W fun e w' => e = .returned (.bool true) ∧ Below W.heap.size W w') (C2 : ∀ W : World, Below w.heap.size w W → Calls Try.prog 26 #[.slice A2 n2 c2, .slice A2' n2' c2'] W fun e w' => e = .returned (.bool false) ∧ Below W.heap.size W w') : Calls Try.prog 8 #[.agg #[.int .i64 ia, .bool pa, .bool qa, .bool ra, .bool sa, .bool ta, .int .i64 da, .string nma, .int .i64 tya, .slice A1 n1 c1, .slice A2 n2 c2, .slice A3 n3 c3], .agg #[.int .i64 ia, .bool pa, .bool qa, .bool ra, .bool sa, .bool ta, .int .i64 da, .string nma, .int .i64 tya, .slice A1' n1' c1', .slice A2' n2' c2', .slice A3' n3' c3']] w fun e w' => e = .returned (.bool false) ∧ Below w.heap.size w w' := by
  have hg := grdQ
  have hqs := eqlQ_same nma tya
  have D1 := Lib.hid C1
  have D2 := Lib.hid C2
  clear C1 C2
  have L0 := Lib.hid (((Below.refl w.heap.size w).alloc (Nat.le_refl _) (.cells #[.int .i64 ia, .bool pa, .bool qa, .bool ra, .bool sa, .bool ta, .int .i64 da, .string nma, .int .i64 tya, .slice A1 n1 c1, .slice A2 n2 c2, .slice A3 n3 c3] 32)).alloc (by simp) (.cells #[.int .i64 ia, .bool pa, .bool qa, .bool ra, .bool sa, .bool ta, .int .i64 da, .string nma, .int .i64 tya, .slice A1' n1' c1', .slice A2' n2' c2', .slice A3' n3' c3'] 32))
  have X0 : Hid (Mx ((w.alloc (.cells #[.int .i64 ia, .bool pa, .bool qa, .bool ra, .bool sa, .bool ta, .int .i64 da, .string nma, .int .i64 tya, .slice A1 n1 c1, .slice A2 n2 c2, .slice A3 n3 c3] 32)).alloc (.cells #[.int .i64 ia, .bool pa, .bool qa, .bool ra, .bool sa, .bool ta, .int .i64 da, .string nma, .int .i64 tya, .slice A1' n1' c1', .slice A2' n2' c2', .slice A3' n3' c3'] 32)) w.heap.size ⟨ia, pa, qa, ra, sa, ta, da, nma, tya⟩ (.slice A1 n1 c1) (.slice A2 n2 c2) (.slice A3 n3 c3)) := (mx_new w 32 ⟨ia, pa, qa, ra, sa, ta, da, nma, tya⟩ (.slice A1 n1 c1) (.slice A2 n2 c2) (.slice A3 n3 c3)).alloc _
  have Y0 : Hid (Mx ((w.alloc (.cells #[.int .i64 ia, .bool pa, .bool qa, .bool ra, .bool sa, .bool ta, .int .i64 da, .string nma, .int .i64 tya, .slice A1 n1 c1, .slice A2 n2 c2, .slice A3 n3 c3] 32)).alloc (.cells #[.int .i64 ia, .bool pa, .bool qa, .bool ra, .bool sa, .bool ta, .int .i64 da, .string nma, .int .i64 tya, .slice A1' n1' c1', .slice A2' n2' c2', .slice A3' n3' c3'] 32)) (w.heap.size + 1) ⟨ia, pa, qa, ra, sa, ta, da, nma, tya⟩ (.slice A1' n1' c1') (.slice A2' n2' c2') (.slice A3' n3' c3')) := mx_of (h := ⟨ia, pa, qa, ra, sa, ta, da, nma, tya⟩) (x := .slice A1' n1' c1') (y := .slice A2' n2' c2') (z := .slice A3' n3' c3') at2
  go_enter Try.func8, Try.ntmps8
  go_wp2_with fail
  refine (D1.out _ L0.out).mono ?_
  rintro e w1 ⟨rfl, hl⟩
  have L1 := Lib.hid (L0.out.trans (hl.mono L0.out.size))
  have X1 := Lib.hid (X0.out.below hl)
  have Y1 := Lib.hid (Y0.out.below hl)
  clear hl L0 X0 Y0 
  obtain ⟨x0, x1, x2, x3, x4, x5, x6, x7, x8, x9, x10, x11⟩ := X1.out
  obtain ⟨y0, y1, y2, y3, y4, y5, y6, y7, y8, y9, y10, y11⟩ := Y1.out
  go_wp2_with fail
  refine (D2.out _ L1.out).mono ?_
  rintro e w2 ⟨rfl, hl⟩
  have L2 := Lib.hid (L1.out.trans (hl.mono L1.out.size))
  have X2 := Lib.hid (X1.out.below hl)
  have Y2 := Lib.hid (Y1.out.below hl)
  clear hl L1 X1 Y1 x0 x1 x2 x3 x4 x5 x6 x7 x8 x9 x10 x11 y0 y1 y2 y3 y4 y5 y6 y7 y8 y9 y10 y11
  go_wp2
  go_ret
  exact ⟨rfl, L2.out⟩

end Go.Proofs.Ytbjhkhmhmldjoaa.SamD
