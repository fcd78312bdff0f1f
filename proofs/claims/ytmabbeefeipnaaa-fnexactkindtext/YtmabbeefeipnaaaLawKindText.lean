/- The law FnExactKindText returns true at every number: KindText answers as its model. -/
import Derived.Test.YtmabbeefeipnaaaKindT
import Derived.Below
namespace Go.Proofs.Ytmabbeefeipnaaa.LawKindText
open Go.RowKit Go.Proofs.Ytmabbeefeipnaaa.Mem Go.Proofs.Ytmabbeefeipnaaa.KindT

theorem walk (n : Int) (w : World) : Calls Try.prog 8 #[.int .i64 n] w fun e w' => e = .returned (.bool true) ∧ Below w.heap.size w w' := by
  have C := Lib.hid (fun W => KindT.spec n W)
  have D := Lib.hid (fun W => KindT.impl n W)
  generalize kt n = b at *
  go_enter Try.func8, Try.ntmps8
  go_wp2_with fail
  refine (C.out _).mono ?_
  rintro e w1 ⟨rfl, hl⟩
  have L1 := Lib.hid hl
  clear hl
  go_wp2_with fail
  refine (D.out _).mono ?_
  rintro e w2 ⟨rfl, hl⟩
  have L2 := Lib.hid (L1.out.trans (hl.mono L1.out.size))
  clear hl
  have e0 : (b.toList == b.toList) = true := by simp
  have e1 : (b.data.toList == b.data.toList) = true := by simp
  go_wp2
  go_ret
  exact ⟨rfl, L2.out⟩

end Go.Proofs.Ytmabbeefeipnaaa.LawKindText
