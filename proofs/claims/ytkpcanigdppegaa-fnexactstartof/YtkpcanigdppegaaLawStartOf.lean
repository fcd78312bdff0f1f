/- The law FnExactStartOf returns true at every zone, and turns nothing that was there: StartOf answers as its model. -/
import Derived.Test.YtkpcanigdppegaaSzZ
import Derived.Test.YtkpcanigdppegaaToZ
import Derived.Test.YtkpcanigdppegaaEqZ
import Derived.Test.YtkpcanigdppegaaStartS
import Derived.Test.YtkpcanigdppegaaEqR
import Derived.Test.YtkpcanigdppegaaStartOfI
import Derived.Deep.RegionHeld3
namespace Go.Proofs.Ytkpcanigdppegaa.LawStartOf
open Go.RowKit Go.Proofs.Ytkpcanigdppegaa.Mem Go.Proofs.Ytkpcanigdppegaa.MemR Go.Proofs.Ytkpcanigdppegaa.MemZ Go.Proofs.Ytkpcanigdppegaa.SzZ Go.Proofs.Ytkpcanigdppegaa.ToZ Go.Proofs.Ytkpcanigdppegaa.EqZ Go.Proofs.Ytkpcanigdppegaa.SetMath Go.Proofs.Ytkpcanigdppegaa.NameMath Go.Proofs.Ytkpcanigdppegaa.ZoneMath Go.Proofs.Ytkpcanigdppegaa.EqR Go.Proofs.Ytkpcanigdppegaa.BoxR

set_option maxHeartbeats 8000000 in
theorem walk (z : ByteArray) (A : Option Addr) (n c : Nat) (l : List Rec) (w : World) (hzs : z.size ≤ 9223372036854775807) (hs : Sr w w.heap.size A n l) (hn : n ≤ 9223372036854775807) (hz : ∀ r ∈ l, r.name.size ≤ 9223372036854775807 ∧ r.host.size ≤ 9223372036854775807 ∧ r.text.size ≤ 9223372036854775807) :
    Calls Try.prog 6 #[.agg #[.string z, .slice A n c]] w fun e w' => e = .returned (.bool true) ∧ Below w.heap.size w w' := by
  have S0 := Lib.hid hs
  have Z0 := Lib.hid hz
  clear hs hz
  have L0 := Lib.hid ((Below.refl w.heap.size w).alloc (Nat.le_refl _) (.cells #[.string z, .slice A n c] 24))
  have J0 := Lib.hid (zx_new w 24 z (.slice A n c))
  go_enter Try.func6, Try.ntmps6
  obtain ⟨x0, x1⟩ := J0.out
  go_wp2_with fail
  refine (szZone_any z A n c l 1048576 _ (by omega) (by omega) hzs (S0.out.on L0.out) hn Z0.out).mono ?_
  rintro e w1 ⟨y, rfl, hy0, hy1, hy, hl⟩
  have Y0 := Lib.hid hy
  have L1 := Lib.hid (L0.out.trans (hl.mono L0.out.size))
  have J1 := Lib.hid (J0.out.below hl)
  clear hy hl L0 J0 x0 x1
  by_cases hneg : y < 0
  · go_wp2
    go_ret
    exact ⟨rfl, L1.out⟩
  have Y1 := Lib.hid (Y0.out (by omega))
  clear Y0
  have bm : n ≤ 1048576 := by have := Y1.out; have := S0.out.1; omega
  have bn : n ≤ 400000000 := by omega
  have bz : z.size ≤ 400000000 := by have := Y1.out; omega
  have HN : Hid (l.length = n) := S0.out.1
  have HR : Hid (∀ r ∈ l, r.name.size ≤ 400000000) := fun r hr => by
    have := Y1.out
    have h1 := tot_le l r hr
    unfold rz at h1
    omega
  clear Y1 Z0
  have hk0 : ¬ (1 : Int) + 6 * (n : Int) < 0 := by omega
  have TR : Hid (∀ W : World, Below w.heap.size w W → Calls Try.prog 11 #[.agg #[.string z, .slice A n c]] W fun e w' => ∃ g, e = .returned (.agg #[.string z, .slice (some ⟨g, 0, none⟩) n n]) ∧ Bk w' g 36 (fl l) ∧ W.heap.size ≤ g ∧ Below W.heap.size W w') :=
    fun W hW => toZone_any z A n c l W ((S0.out.below hW).wider hW.size) bn
  have SP : Hid (∀ (g : Nat) (W : World), Bk W g 36 (fl l) → Calls Try.prog 18 #[.agg #[.string z, .slice (some ⟨g, 0, none⟩) n n]] W fun e w' => e = .returned (.agg #[.string ((st l)).name, .int .i64 ((st l)).ty, .int .i64 ((st l)).ttl, .int .i64 ((st l)).n, .string ((st l)).host, .string ((st l)).text]) ∧ Below W.heap.size W w') :=
    fun g W h => StartS.spec z g 0 n n l W (bk_sr0 h HN.out) bn
  have IM : Hid (∀ (g : Nat) (W : World), Bk W g 36 (fl l) → Calls Try.prog 19 #[.agg #[.string z, .slice (some ⟨g, 0, none⟩) n n]] W fun e w' => e = .returned (.agg #[.string ((st l)).name, .int .i64 ((st l)).ty, .int .i64 ((st l)).ttl, .int .i64 ((st l)).n, .string ((st l)).host, .string ((st l)).text]) ∧ Below W.heap.size W w') :=
    fun g W h => StartOfI.impl z g 0 n n l W (bk_sr0 h HN.out) bn bz HR.out
  generalize st l = L at *
  obtain ⟨x0, x1⟩ := J1.out
  go_wp2_with fail
  refine (TR.out _ L1.out).mono ?_
  rintro e w2 ⟨gv, rfl, hb, hg, hl⟩
  have V2 := Lib.hid hb
  have L2 := Lib.hid (L1.out.trans (hl.mono L1.out.size))
  have J2 := Lib.hid (J1.out.below hl)
  clear hl L1 J1 hb hg x0 x1
  go_wp2_with fail
  refine (SP.out _ w2 V2.out).mono ?_
  rintro e w3 ⟨rfl, hl⟩
  have L3 := Lib.hid (L2.out.trans (hl.mono L2.out.size))
  have J3 := Lib.hid (J2.out.below hl)
  clear hl L2 J2 V2 
  have al : Below w3.heap.size w3 (w3.alloc (.cells #[.string L.name, .int .i64 L.ty, .int .i64 L.ttl, .int .i64 L.n, .string L.host, .string L.text] 36)) := (Below.refl _ _).alloc (Nat.le_refl _) _
  have L4 := Lib.hid (L3.out.trans (al.mono L3.out.size))
  have J4 := Lib.hid (J3.out.below al)
  have P4 := Lib.hid (bx_new w3 36 L)
  clear al L3 J3
  obtain ⟨x0, x1⟩ := J4.out
  go_wp2_with fail
  refine (TR.out _ L4.out).mono ?_
  rintro e w5 ⟨gx, rfl, hb, hg, hl⟩
  have X5 := Lib.hid hb
  have L5 := Lib.hid (L4.out.trans (hl.mono L4.out.size))
  have J5 := Lib.hid (J4.out.below hl)
  have P5 := Lib.hid (P4.out.below hl)
  clear hl L4 J4 P4 hb hg x0 x1
  generalize w3.heap.size = gp at *
  have al : Below w5.heap.size w5 (w5.alloc (.cells #[.string z, .slice (some ⟨gx, 0, none⟩) n n] 30)) := (Below.refl _ _).alloc (Nat.le_refl _) _
  have L6 := Lib.hid (L5.out.trans (al.mono L5.out.size))
  have J6 := Lib.hid (J5.out.below al)
  have P6 := Lib.hid (P5.out.below al)
  have X6 := Lib.hid (X5.out.below al X5.out.lt)
  have Q6 := Lib.hid (zx_new w5 30 z (.slice (some ⟨gx, 0, none⟩) n n))
  clear al L5 J5 P5 X5
  go_wp2_with fail
  refine (IM.out _ _ X6.out).mono ?_
  rintro e w7 ⟨rfl, hl⟩
  have L7 := Lib.hid (L6.out.trans (hl.mono L6.out.size))
  have J7 := Lib.hid (J6.out.below hl)
  have P7 := Lib.hid (P6.out.below hl)
  have X7 := Lib.hid (X6.out.below hl X6.out.lt)
  have Q7 := Lib.hid (Q6.out.below hl)
  clear hl L6 J6 P6 X6 Q6 
  generalize w5.heap.size = gq at *
  have al : Below w7.heap.size w7 (w7.alloc (.cells #[.string L.name, .int .i64 L.ty, .int .i64 L.ttl, .int .i64 L.n, .string L.host, .string L.text] 36)) := (Below.refl _ _).alloc (Nat.le_refl _) _
  have L8 := Lib.hid (L7.out.trans (al.mono L7.out.size))
  have J8 := Lib.hid (J7.out.below al)
  have P8 := Lib.hid (P7.out.below al)
  have X8 := Lib.hid (X7.out.below al X7.out.lt)
  have Q8 := Lib.hid (Q7.out.below al)
  have D8 := Lib.hid (bx_new w7 36 L)
  clear al L7 J7 P7 X7 Q7
  obtain ⟨p0, p1, p2, p3, p4, p5⟩ := P8.out
  go_wp2_with fail
  refine (eqRecord_same L _).mono ?_
  rintro e w9 ⟨rfl, hl⟩
  have L9 := Lib.hid (L8.out.trans (hl.mono L8.out.size))
  have J9 := Lib.hid (J8.out.below hl)
  have X9 := Lib.hid (X8.out.below hl X8.out.lt)
  have Q9 := Lib.hid (Q8.out.below hl)
  clear hl L8 J8 P8 X8 Q8 D8 p0 p1 p2 p3 p4 p5
  have TM : Hid (∀ W : World, (((W.cell? ⟨w.heap.size, 0, none⟩ = some (.string z) ∧ W.cell? ⟨w.heap.size, 1, none⟩ = some (.slice A n c)) ∧ (W.cell? ⟨gq, 0, none⟩ = some (.string z) ∧ W.cell? ⟨gq, 1, none⟩ = some (.slice (some ⟨gx, 0, none⟩) n n))) ∧ Svz w9 W) → Calls Try.prog 11 #[.agg #[.string z, .slice A n c]] W fun e w' => ∃ g, e = .returned (.agg #[.string z, .slice (some ⟨g, 0, none⟩) n n]) ∧ Bk w' g 36 (fl l) ∧ W.heap.size ≤ g ∧ Below W.heap.size W w') := fun W hW => TR.out W (L9.out.trans ((show Below w9.heap.size w9 W from hW.2).mono L9.out.size))
  have EQZ : Hid (∀ (W : World) (t : Nat), (((W.cell? ⟨w.heap.size, 0, none⟩ = some (.string z) ∧ W.cell? ⟨w.heap.size, 1, none⟩ = some (.slice A n c)) ∧ (W.cell? ⟨gq, 0, none⟩ = some (.string z) ∧ W.cell? ⟨gq, 1, none⟩ = some (.slice (some ⟨gx, 0, none⟩) n n))) ∧ Svz w9 W) → Bk W t 36 (fl l) → Calls Try.prog 13 #[.agg #[.string z, .slice (some ⟨gx, 0, none⟩) n n], .agg #[.string z, .slice (some ⟨t, 0, none⟩) n n]] W fun e w' => e = .returned (.bool true) ∧ Below W.heap.size W w') := fun W t hW ht => eqZone_same z _ _ n n n l W (bk_sr0 (X9.out.below hW.2 X9.out.lt) HN.out) (bk_sr0 ht HN.out) bn
  have SS0 : ((w9.cell? ⟨w.heap.size, 0, none⟩ = some (.string z) ∧ w9.cell? ⟨w.heap.size, 1, none⟩ = some (.slice A n c)) ∧ (w9.cell? ⟨gq, 0, none⟩ = some (.string z) ∧ w9.cell? ⟨gq, 1, none⟩ = some (.slice (some ⟨gx, 0, none⟩) n n))) ∧ Svz w9 w9 := ⟨⟨J9.out, Q9.out⟩, Below.refl _ _⟩
  go_wp2
  go_region_held3 (fun w' => ((w'.cell? ⟨w.heap.size, 0, none⟩ = some (.string z) ∧ w'.cell? ⟨w.heap.size, 1, none⟩ = some (.slice A n c)) ∧ (w'.cell? ⟨gq, 0, none⟩ = some (.string z) ∧ w'.cell? ⟨gq, 1, none⟩ = some (.slice (some ⟨gx, 0, none⟩) n n))) ∧ Svz w9 w')
    (first | with_reducible exact SS0 | with_reducible assumption | exact kept2z (by assumption) hl | exact kept2z_draw (by assumption) | fail)
    (first
      | (go_at_call 11; (with_reducible refine (TM.out _ (by assumption)).mono ?_); rintro e wt9 ⟨t1, rfl, hb1, -, hl⟩)
      | (go_at_call 13; (with_reducible refine (EQZ.out _ _ (by assumption) hb1).mono ?_); rintro e w10 ⟨rfl, hl⟩)
      | fail)
  rename_i hH
  have hz : Below w9.heap.size w9 w10 := hH.2
  clear hH hb1 hl SS0 TM EQZ
  have L10 := Lib.hid (L9.out.trans (hz.mono L9.out.size))
  have J10 := Lib.hid (J9.out.below hz)
  have X10 := Lib.hid (X9.out.below hz X9.out.lt)
  have Q10 := Lib.hid (Q9.out.below hz)
  clear hz L9 J9 X9 Q9
  go_wp2
  go_ret
  exact ⟨rfl, L10.out⟩

end Go.Proofs.Ytkpcanigdppegaa.LawStartOf
