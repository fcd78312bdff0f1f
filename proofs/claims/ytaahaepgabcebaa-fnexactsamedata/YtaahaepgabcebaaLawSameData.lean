/- The law FnExactSameData returns true at every two slices of records and turns nothing that was there. -/
import Derived.Test.YtaahaepgabcebaaSzR
import Derived.Test.YtaahaepgabcebaaCopyR
import Derived.Test.YtaahaepgabcebaaEqR
import Derived.Test.YtaahaepgabcebaaSameDS
import Derived.Test.YtaahaepgabcebaaSameDI
namespace Go.Proofs.Ytaahaepgabcebaa.LawSameData
open Go.RowKit Go.Proofs.Ytaahaepgabcebaa.Mem Go.Proofs.Ytaahaepgabcebaa.MemR Go.Proofs.Ytaahaepgabcebaa.SzR Go.Proofs.Ytaahaepgabcebaa.CopyR Go.Proofs.Ytaahaepgabcebaa.EqR Go.Proofs.Ytaahaepgabcebaa.DataM

set_option maxHeartbeats 4000000 in
theorem walk (A : Option Addr) (n c : Nat) (l : List Rec) (A' : Option Addr) (n' c' : Nat) (l' : List Rec) (w : World) (hs : Sr w w.heap.size A n l) (hn : n ≤ 9223372036854775807) (hz : ∀ r ∈ l, r.name.size ≤ 9223372036854775807 ∧ r.host.size ≤ 9223372036854775807 ∧ r.text.size ≤ 9223372036854775807)
    (hs' : Sr w w.heap.size A' n' l') (hn' : n' ≤ 9223372036854775807) (hz' : ∀ r ∈ l', r.name.size ≤ 9223372036854775807 ∧ r.host.size ≤ 9223372036854775807 ∧ r.text.size ≤ 9223372036854775807) :
    Calls Try.prog 9 #[.slice A n c, .slice A' n' c'] w fun e w' => e = .returned (.bool true) ∧ Below w.heap.size w w' := by
  have S0 := Lib.hid hs
  have T0 := Lib.hid hs'
  have Z0 := Lib.hid hz
  have Z1 := Lib.hid hz'
  clear hs hs' hz hz'
  obtain ⟨sb, hsb⟩ : ∃ sb, sd l l' = sb := ⟨_, rfl⟩
  have HSB := Lib.hid hsb
  clear hsb
  go_enter Try.func9, Try.ntmps9
  go_wp2_with fail
  refine (szRecordS_any A n c l 1048576 w S0.out (by omega) (by omega) hn Z0.out).mono ?_
  rintro e w1 ⟨y, rfl, hy0, hy1, hy, hl⟩
  have Y0 := Lib.hid hy
  have L1 := Lib.hid hl
  have S1 := Lib.hid (S0.out.on hl)
  have T1 := Lib.hid (T0.out.on hl)
  clear hy hl S0 T0
  by_cases hneg : y < 0
  · go_wp2
    go_ret
    exact ⟨rfl, L1.out⟩
  have Y1 := Lib.hid (Y0.out (by omega))
  clear Y0
  go_wp2_with fail
  refine (szRecordS_any A' n' c' l' y w1 T1.out (by omega) (by omega) hn' Z1.out).mono ?_
  rintro e w2 ⟨z, rfl, hz0, hz1, hz, hl⟩
  have Y2 := Lib.hid hz
  have L2 := Lib.hid (L1.out.trans (hl.mono L1.out.size))
  have S2 := Lib.hid (S1.out.on hl)
  have T2 := Lib.hid (T1.out.on hl)
  clear hz hl S1 T1 L1
  by_cases hneg' : z < 0
  · go_wp2
    go_ret
    exact ⟨rfl, L2.out⟩
  have bn : n ≤ 400000000 := by have := Y1.out; have := S2.out.1; omega
  have bn' : n' ≤ 400000000 := by have := Y2.out (by omega); have := T2.out.1; omega
  clear Y1 Y2 Z0 Z1
  go_wp2_with fail
  refine (toRecordS_any A n c l w2 S2.out bn).mono ?_
  rintro e w3 ⟨rfl, hb, hl⟩
  have P3 := Lib.hid hb
  have L3 := Lib.hid (L2.out.trans (hl.mono L2.out.size))
  have S3 := Lib.hid (S2.out.on hl)
  have T3 := Lib.hid (T2.out.on hl)
  clear hb hl S2 T2 L2
  generalize w2.heap.size = g at *
  go_wp2_with fail
  refine (toRecordS_any A' n' c' l' w3 T3.out bn').mono ?_
  rintro e w4 ⟨rfl, hb, hl⟩
  have P4 := Lib.hid (P3.out.below hl P3.out.lt)
  have Q4 := Lib.hid hb
  have L4 := Lib.hid (L3.out.trans (hl.mono L3.out.size))
  have S4 := Lib.hid (S3.out.on hl)
  have T4 := Lib.hid (T3.out.on hl)
  clear hb hl S3 T3 L3 P3
  generalize w3.heap.size = g' at *
  go_wp2_with fail
  refine (SameDS.spec _ _ n n n' n' l l' w4 (bk_sr0 P4.out S4.out.1) (bk_sr0 Q4.out T4.out.1) bn bn').mono ?_
  rw [HSB.out]
  rintro e w5 ⟨rfl, hl⟩
  have L5 := Lib.hid (L4.out.trans (hl.mono L4.out.size))
  have S5 := Lib.hid (S4.out.on hl)
  have T5 := Lib.hid (T4.out.on hl)
  clear hl S4 T4 L4 P4 Q4
  go_wp2_with fail
  refine (toRecordS_any A n c l w5 S5.out bn).mono ?_
  rintro e w6 ⟨rfl, hb, hl⟩
  have P6 := Lib.hid hb
  have L6 := Lib.hid (L5.out.trans (hl.mono L5.out.size))
  have S6 := Lib.hid (S5.out.on hl)
  have T6 := Lib.hid (T5.out.on hl)
  clear hb hl S5 T5 L5
  generalize w5.heap.size = h at *
  go_wp2_with fail
  refine (toRecordS_any A' n' c' l' w6 T6.out bn').mono ?_
  rintro e w7 ⟨rfl, hb, hl⟩
  have P7 := Lib.hid (P6.out.below hl P6.out.lt)
  have Q7 := Lib.hid hb
  have L7 := Lib.hid (L6.out.trans (hl.mono L6.out.size))
  have S7 := Lib.hid (S6.out.on hl)
  have T7 := Lib.hid (T6.out.on hl)
  clear hb hl S6 T6 L6 P6
  generalize w6.heap.size = h' at *
  go_wp2_with fail
  refine (SameDI.impl _ _ n n _ _ n' n' l l' w7 (bk_sr0 P7.out S7.out.1) (bk_sr0 Q7.out T7.out.1) bn bn').mono ?_
  rw [HSB.out]
  rintro e w8 ⟨rfl, hl⟩
  have P8 := Lib.hid (P7.out.below hl P7.out.lt)
  have Q8 := Lib.hid (Q7.out.below hl Q7.out.lt)
  have L8 := Lib.hid (L7.out.trans (hl.mono L7.out.size))
  have S8 := Lib.hid (S7.out.on hl)
  have T8 := Lib.hid (T7.out.on hl)
  clear hl S7 T7 L7 P7 Q7 HSB
  have hbb : (sb != sb) = false := by cases sb <;> rfl
  go_wp2_with fail
  refine (toRecordS_any A n c l w8 S8.out bn).mono ?_
  rintro e w9 ⟨rfl, hb, hl⟩
  have P9 := Lib.hid (P8.out.below hl P8.out.lt)
  have Q9 := Lib.hid (Q8.out.below hl Q8.out.lt)
  have R9 := Lib.hid hb
  have L9 := Lib.hid (L8.out.trans (hl.mono L8.out.size))
  have S9 := Lib.hid (S8.out.on hl)
  have T9 := Lib.hid (T8.out.on hl)
  clear hb hl S8 T8 L8 P8 Q8 hbb
  generalize w8.heap.size = i at *
  go_wp2_with fail
  refine (eqRecordS_same _ _ n n n l w9 (bk_sr0 P9.out S9.out.1) (bk_sr0 R9.out S9.out.1) bn).mono ?_
  rintro e w10 ⟨rfl, hl⟩
  have Q10 := Lib.hid (Q9.out.below hl Q9.out.lt)
  have L10 := Lib.hid (L9.out.trans (hl.mono L9.out.size))
  have T10 := Lib.hid (T9.out.on hl)
  clear hl S9 T9 L9 P9 Q9 R9
  go_wp2_with fail
  refine (toRecordS_any A' n' c' l' w10 T10.out bn').mono ?_
  rintro e w11 ⟨rfl, hb, hl⟩
  have Q11 := Lib.hid (Q10.out.below hl Q10.out.lt)
  have R11 := Lib.hid hb
  have L11 := Lib.hid (L10.out.trans (hl.mono L10.out.size))
  have T11 := Lib.hid (T10.out.on hl)
  clear hb hl T10 L10 Q10
  generalize w10.heap.size = i' at *
  go_wp2_with fail
  refine (eqRecordS_same _ _ n' n' n' l' w11 (bk_sr0 Q11.out T11.out.1) (bk_sr0 R11.out T11.out.1) bn').mono ?_
  rintro e w12 ⟨rfl, hl⟩
  have L12 := Lib.hid (L11.out.trans (hl.mono L11.out.size))
  clear hl T11 L11 Q11 R11
  go_wp2
  go_ret
  exact ⟨rfl, L12.out⟩
end Go.Proofs.Ytaahaepgabcebaa.LawSameData
