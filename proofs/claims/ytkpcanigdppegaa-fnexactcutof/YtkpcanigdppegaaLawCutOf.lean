/- The law FnExactCutOf returns true at every zone and every name, and turns nothing that was there: CutOf answers as its model. -/
import Derived.Test.YtkpcanigdppegaaSzZ
import Derived.Test.YtkpcanigdppegaaToZ
import Derived.Test.YtkpcanigdppegaaEqZ
import Derived.Test.YtkpcanigdppegaaCutOfS
import Derived.Test.YtkpcanigdppegaaCutOfI
import Derived.Deep.RegionHeld3
namespace Go.Proofs.Ytkpcanigdppegaa.LawCutOf
open Go.RowKit Go.Proofs.Ytkpcanigdppegaa.Mem Go.Proofs.Ytkpcanigdppegaa.MemR Go.Proofs.Ytkpcanigdppegaa.MemZ Go.Proofs.Ytkpcanigdppegaa.SzZ Go.Proofs.Ytkpcanigdppegaa.ToZ Go.Proofs.Ytkpcanigdppegaa.EqZ Go.Proofs.Ytkpcanigdppegaa.SetMath Go.Proofs.Ytkpcanigdppegaa.NameMath Go.Proofs.Ytkpcanigdppegaa.ZoneMath 

set_option maxHeartbeats 8000000 in
theorem walk (z : ByteArray) (A : Option Addr) (n c : Nat) (l : List Rec) (s : ByteArray) (w : World) (hzs : z.size ≤ 9223372036854775807) (hs : Sr w w.heap.size A n l) (hn : n ≤ 9223372036854775807) (hz : ∀ r ∈ l, r.name.size ≤ 9223372036854775807 ∧ r.host.size ≤ 9223372036854775807 ∧ r.text.size ≤ 9223372036854775807) :
    Calls Try.prog 3 #[.agg #[.string z, .slice A n c], .string s] w fun e w' => e = .returned (.bool true) ∧ Below w.heap.size w w' := by
  have S0 := Lib.hid hs
  have Z0 := Lib.hid hz
  clear hs hz
  have L0 := Lib.hid ((Below.refl w.heap.size w).alloc (Nat.le_refl _) (.cells #[.string z, .slice A n c] 24))
  have J0 := Lib.hid (zx_new w 24 z (.slice A n c))
  by_cases hbig : 1048576 < s.size
  · have hb' : (1048576 : Int) < (s.size : Int) := by omega
    go_enter Try.func3, Try.ntmps3
    go_wp2
    go_ret
    exact ⟨rfl, L0.out⟩
  have hb' : ¬ (1048576 : Int) < (s.size : Int) := by omega
  go_enter Try.func3, Try.ntmps3
  obtain ⟨x0, x1⟩ := J0.out
  go_wp2_with fail
  refine (szZone_any z A n c l 1048576 _ (by omega) (by omega) hzs (S0.out.on L0.out) hn Z0.out).mono ?_
  rintro e w1 ⟨y, rfl, hy0, hy1, hy, hl⟩
  have Y0 := Lib.hid hy
  have L1 := Lib.hid (L0.out.trans (hl.mono L0.out.size))
  have J1 := Lib.hid (J0.out.below hl)
  clear hy hl L0 J0 x0 x1
  by_cases hneg : y < 0
  · go_wp2
    go_ret
    exact ⟨rfl, L1.out⟩
  have Y1 := Lib.hid (Y0.out (by omega))
  clear Y0
  have bm : n ≤ 1048576 := by have := Y1.out; have := S0.out.1; omega
  have bn : n ≤ 400000000 := by omega
  have bz : z.size ≤ 400000000 := by have := Y1.out; omega
  have HN : Hid (l.length = n) := S0.out.1
  have HR : Hid (∀ r ∈ l, r.name.size ≤ 400000000) := fun r hr => by
    have := Y1.out
    have h1 := tot_le l r hr
    unfold rz at h1
    omega
  clear Y1 Z0
  have hk0 : ¬ (1 : Int) + 6 * (n : Int) < 0 := by omega
  have TR : Hid (∀ W : World, Below w.heap.size w W → Calls Try.prog 11 #[.agg #[.string z, .slice A n c]] W fun e w' => ∃ g, e = .returned (.agg #[.string z, .slice (some ⟨g, 0, none⟩) n n]) ∧ Bk w' g 36 (fl l) ∧ W.heap.size ≤ g ∧ Below W.heap.size W w') :=
    fun W hW => toZone_any z A n c l W ((S0.out.below hW).wider hW.size) bn
  have SP : Hid (∀ (g : Nat) (W : World), Bk W g 36 (fl l) → Calls Try.prog 10 #[.agg #[.string z, .slice (some ⟨g, 0, none⟩) n n], .string s] W fun e w' => e = .returned (cv (co s (uq (cn z l)))) ∧ Below W.heap.size W w') :=
    fun g W h => CutOfS.spec z s g 0 n n l W (bk_sr0 h HN.out) bn bz (by omega) HR.out
  have IM : Hid (∀ (g : Nat) (W : World), Bk W g 36 (fl l) → Calls Try.prog 12 #[.agg #[.string z, .slice (some ⟨g, 0, none⟩) n n], .string s] W fun e w' => e = .returned (cv (co s (uq (cn z l)))) ∧ Below W.heap.size W w') :=
    fun g W h => CutOfI.impl z s g 0 n n l W (bk_sr0 h HN.out) bn bz (by omega) HR.out
  obtain ⟨x, b, hxb⟩ : ∃ x b, cv (co s (uq (cn z l))) = .tuple #[.string x, .bool b] := by cases co s (uq (cn z l)) <;> exact ⟨_, _, rfl⟩
  rw [hxb] at SP IM
  have s0 : (x.toList == x.toList) = true := by simp
  have s1 : (x.data.toList == x.data.toList) = true := by simp
  have s2 : (b != b) = false := by simp
  obtain ⟨x0, x1⟩ := J1.out
  go_wp2_with fail
  refine (TR.out _ L1.out).mono ?_
  rintro e w2 ⟨gv, rfl, hb, hg, hl⟩
  have V2 := Lib.hid hb
  have L2 := Lib.hid (L1.out.trans (hl.mono L1.out.size))
  have J2 := Lib.hid (J1.out.below hl)
  clear hl L1 J1 hb hg x0 x1
  go_wp2_with fail
  refine (SP.out _ w2 V2.out).mono ?_
  rintro e w3 ⟨rfl, hl⟩
  have L3 := Lib.hid (L2.out.trans (hl.mono L2.out.size))
  have J3 := Lib.hid (J2.out.below hl)
  clear hl L2 J2 V2 
  obtain ⟨x0, x1⟩ := J3.out
  go_wp2_with fail
  refine (TR.out _ L3.out).mono ?_
  rintro e w4 ⟨gx, rfl, hb, hg, hl⟩
  have X4 := Lib.hid hb
  have L4 := Lib.hid (L3.out.trans (hl.mono L3.out.size))
  have J4 := Lib.hid (J3.out.below hl)
  clear hl L3 J3 hb hg x0 x1
  have al : Below w4.heap.size w4 (w4.alloc (.cells #[.string z, .slice (some ⟨gx, 0, none⟩) n n] 30)) := (Below.refl _ _).alloc (Nat.le_refl _) _
  have L5 := Lib.hid (L4.out.trans (al.mono L4.out.size))
  have J5 := Lib.hid (J4.out.below al)
  have X5 := Lib.hid (X4.out.below al X4.out.lt)
  have Q5 := Lib.hid (zx_new w4 30 z (.slice (some ⟨gx, 0, none⟩) n n))
  clear al L4 J4 X4
  go_wp2_with fail
  refine (IM.out _ _ X5.out).mono ?_
  rintro e w6 ⟨rfl, hl⟩
  have L6 := Lib.hid (L5.out.trans (hl.mono L5.out.size))
  have J6 := Lib.hid (J5.out.below hl)
  have X6 := Lib.hid (X5.out.below hl X5.out.lt)
  have Q6 := Lib.hid (Q5.out.below hl)
  clear hl L5 J5 X5 Q5 
  generalize w4.heap.size = gq at *
  have TM : Hid (∀ W : World, (((W.cell? ⟨w.heap.size, 0, none⟩ = some (.string z) ∧ W.cell? ⟨w.heap.size, 1, none⟩ = some (.slice A n c)) ∧ (W.cell? ⟨gq, 0, none⟩ = some (.string z) ∧ W.cell? ⟨gq, 1, none⟩ = some (.slice (some ⟨gx, 0, none⟩) n n))) ∧ Svz w6 W) → Calls Try.prog 11 #[.agg #[.string z, .slice A n c]] W fun e w' => ∃ g, e = .returned (.agg #[.string z, .slice (some ⟨g, 0, none⟩) n n]) ∧ Bk w' g 36 (fl l) ∧ W.heap.size ≤ g ∧ Below W.heap.size W w') := fun W hW => TR.out W (L6.out.trans ((show Below w6.heap.size w6 W from hW.2).mono L6.out.size))
  have EQZ : Hid (∀ (W : World) (t : Nat), (((W.cell? ⟨w.heap.size, 0, none⟩ = some (.string z) ∧ W.cell? ⟨w.heap.size, 1, none⟩ = some (.slice A n c)) ∧ (W.cell? ⟨gq, 0, none⟩ = some (.string z) ∧ W.cell? ⟨gq, 1, none⟩ = some (.slice (some ⟨gx, 0, none⟩) n n))) ∧ Svz w6 W) → Bk W t 36 (fl l) → Calls Try.prog 13 #[.agg #[.string z, .slice (some ⟨gx, 0, none⟩) n n], .agg #[.string z, .slice (some ⟨t, 0, none⟩) n n]] W fun e w' => e = .returned (.bool true) ∧ Below W.heap.size W w') := fun W t hW ht => eqZone_same z _ _ n n n l W (bk_sr0 (X6.out.below hW.2 X6.out.lt) HN.out) (bk_sr0 ht HN.out) bn
  have SS0 : ((w6.cell? ⟨w.heap.size, 0, none⟩ = some (.string z) ∧ w6.cell? ⟨w.heap.size, 1, none⟩ = some (.slice A n c)) ∧ (w6.cell? ⟨gq, 0, none⟩ = some (.string z) ∧ w6.cell? ⟨gq, 1, none⟩ = some (.slice (some ⟨gx, 0, none⟩) n n))) ∧ Svz w6 w6 := ⟨⟨J6.out, Q6.out⟩, Below.refl _ _⟩
  go_wp2
  go_region_held3 (fun w' => ((w'.cell? ⟨w.heap.size, 0, none⟩ = some (.string z) ∧ w'.cell? ⟨w.heap.size, 1, none⟩ = some (.slice A n c)) ∧ (w'.cell? ⟨gq, 0, none⟩ = some (.string z) ∧ w'.cell? ⟨gq, 1, none⟩ = some (.slice (some ⟨gx, 0, none⟩) n n))) ∧ Svz w6 w')
    (first | with_reducible exact SS0 | with_reducible assumption | exact kept2z (by assumption) hl | exact kept2z_draw (by assumption) | fail)
    (first
      | (go_at_call 11; (with_reducible refine (TM.out _ (by assumption)).mono ?_); rintro e wt6 ⟨t1, rfl, hb1, -, hl⟩)
      | (go_at_call 13; (with_reducible refine (EQZ.out _ _ (by assumption) hb1).mono ?_); rintro e w7 ⟨rfl, hl⟩)
      | fail)
  rename_i hH
  have hz : Below w6.heap.size w6 w7 := hH.2
  clear hH hb1 hl SS0 TM EQZ
  have L7 := Lib.hid (L6.out.trans (hz.mono L6.out.size))
  have J7 := Lib.hid (J6.out.below hz)
  have X7 := Lib.hid (X6.out.below hz X6.out.lt)
  have Q7 := Lib.hid (Q6.out.below hz)
  clear hz L6 J6 X6 Q6
  go_wp2
  go_ret
  exact ⟨rfl, L7.out⟩

end Go.Proofs.Ytkpcanigdppegaa.LawCutOf
