/- The law FnExactLeastTtl returns true at every slice of records, and turns nothing that was there: LeastTtl answers as its model. -/
import Derived.Test.YtaahaepgabcebaaSzR
import Derived.Test.YtaahaepgabcebaaCopyR
import Derived.Test.YtaahaepgabcebaaEqR
import Derived.Test.YtaahaepgabcebaaMarkR
import Derived.Test.YtaahaepgabcebaaLt
namespace Go.Proofs.Ytaahaepgabcebaa.LawLeastTtl
open Go.RowKit Go.Proofs.Ytaahaepgabcebaa.Mem Go.Proofs.Ytaahaepgabcebaa.MemR Go.Proofs.Ytaahaepgabcebaa.SzR Go.Proofs.Ytaahaepgabcebaa.CopyR Go.Proofs.Ytaahaepgabcebaa.EqR Go.Proofs.Ytaahaepgabcebaa.MarkR Go.Proofs.Ytaahaepgabcebaa.SetMath

set_option maxHeartbeats 8000000 in
theorem walk (A : Option Addr) (n c : Nat) (l : List Rec) (w : World) (hs : Sr w w.heap.size A n l) (hn : n ≤ 9223372036854775807) (hz : ∀ r ∈ l, r.name.size ≤ 9223372036854775807 ∧ r.host.size ≤ 9223372036854775807 ∧ r.text.size ≤ 9223372036854775807) :
    Calls Try.prog 5 #[.slice A n c] w fun e w' => e = .returned (.bool true) ∧ Below w.heap.size w w' := by
  have S0 := Lib.hid hs
  have Z0 := Lib.hid hz
  clear hs hz
  go_enter Try.func5, Try.ntmps5
  go_wp2_with fail
  refine (szRecordS_any A n c l 1048576 w S0.out (by omega) (by omega) hn Z0.out).mono ?_
  rintro e w1 ⟨y, rfl, hy0, hy1, hy, hl⟩
  have Y0 := Lib.hid hy
  have L1 := Lib.hid hl
  clear hy hl
  by_cases hneg : y < 0
  · go_wp2
    go_ret
    exact ⟨rfl, L1.out⟩
  have Y1 := Lib.hid (Y0.out (by omega))
  clear Y0
  have bm : n ≤ 1048576 := by have := Y1.out; have := S0.out.1; omega
  have bn : n ≤ 400000000 := by omega
  have HN : Hid (l.length = n) := S0.out.1
  have HZ : Hid (MemR.tot l + l.length ≤ 1048576) := show _ ≤ _ by have := Y1.out; omega
  clear Y1 Z0
  have hk0 : ¬ (1 : Int) + 6 * (n : Int) < 0 := by omega
  have TR : Hid (∀ W : World, Below w.heap.size w W → Calls Try.prog 25 #[.slice A n c] W fun e w' => ∃ g, e = .returned (.slice (some ⟨g, 0, none⟩) n n) ∧ Bk w' g 37 (fl l) ∧ W.heap.size ≤ g ∧ Below W.heap.size W w') :=
    fun W hW => (toRecordS_any A n c l W ((S0.out.below hW).wider hW.size) (by omega)).mono fun e w' ⟨h1, h2, h3⟩ => ⟨_, h1, h2, Nat.le_refl _, h3⟩
  have SP : Hid (∀ (g : Nat) (W : World), Bk W g 37 (fl l) → Calls Try.prog 23 #[.slice (some ⟨g, 0, none⟩) n n] W fun e w' => e = .returned (.int .i64 (mn l)) ∧ Below W.heap.size W w') :=
    fun g W h => Lt.spec _ n n l W (bk_sr0 h HN.out) bn
  have IM : Hid (∀ (g : Nat) (W : World), Bk W g 37 (fl l) → Calls Try.prog 17 #[.slice (some ⟨g, 0, none⟩) n n] W fun e w' => e = .returned (.int .i64 (mn l)) ∧ Below W.heap.size W w') :=
    fun g W h => Lt.impl _ n n l W (bk_sr0 h HN.out) bn
  generalize mn l = x at *
  have hx : (x != x) = false := by simp
  go_wp2_with fail
  refine (TR.out w1 L1.out).mono ?_
  rintro e w2 ⟨gv, rfl, hb, hg, hl⟩
  have V2 := Lib.hid hb
  have L2 := Lib.hid (L1.out.trans (hl.mono L1.out.size))
  clear hl L1 hb hg
  go_wp2_with fail
  refine (SP.out _ w2 V2.out).mono ?_
  rintro e w3 ⟨rfl, hl⟩
  have L3 := Lib.hid (L2.out.trans (hl.mono L2.out.size))
  clear hl L2 V2 
  go_wp2_with fail
  refine (TR.out w3 L3.out).mono ?_
  rintro e w4 ⟨gx, rfl, hb, hg, hl⟩
  have X4 := Lib.hid hb
  have L4 := Lib.hid (L3.out.trans (hl.mono L3.out.size))
  clear hl L3 hb hg
  go_wp2_with fail
  refine (IM.out _ w4 X4.out).mono ?_
  rintro e w5 ⟨rfl, hl⟩
  have L5 := Lib.hid (L4.out.trans (hl.mono L4.out.size))
  have X5 := Lib.hid (X4.out.below hl X4.out.lt)
  clear hl L4 X4 
  go_wp2_with fail
  refine (TR.out w5 L5.out).mono ?_
  rintro e w6 ⟨gu, rfl, hb, hg, hl⟩
  have U6 := Lib.hid hb
  have L6 := Lib.hid (L5.out.trans (hl.mono L5.out.size))
  have X6 := Lib.hid (X5.out.below hl X5.out.lt)
  clear hl L5 X5 hb hg
  go_wp2_with fail
  refine (eqRecordS_same _ _ n n n l w6 (bk_sr0 X6.out HN.out) (bk_sr0 U6.out HN.out) bn).mono ?_
  rintro e w7 ⟨rfl, hl⟩
  have L7 := Lib.hid (L6.out.trans (hl.mono L6.out.size))
  clear hl L6 X6 U6 
  go_wp2
  go_ret
  exact ⟨rfl, L7.out⟩

end Go.Proofs.Ytaahaepgabcebaa.LawLeastTtl
