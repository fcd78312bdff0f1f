/- The law FnExactKindIn returns true at every zone and every question, and turns nothing that was there: KindIn answers as its model. -/
import Derived.Test.YtmabbeefeipnaaaSzZ
import Derived.Test.YtmabbeefeipnaaaToZ
import Derived.Test.YtmabbeefeipnaaaEqZ
import Derived.Test.YtmabbeefeipnaaaSzM
import Derived.Test.YtmabbeefeipnaaaToM
import Derived.Test.YtmabbeefeipnaaaMarkZ
import Derived.Test.YtmabbeefeipnaaaServeMath
import Derived.Test.YtmabbeefeipnaaaKindS
import Derived.Test.YtmabbeefeipnaaaKindI
import Derived.Deep.RegionHeld3
namespace Go.Proofs.Ytmabbeefeipnaaa.LawKindIn
open Go.RowKit Go.Proofs.Ytmabbeefeipnaaa.Mem Go.Proofs.Ytmabbeefeipnaaa.MemR Go.Proofs.Ytmabbeefeipnaaa.MemZ Go.Proofs.Ytmabbeefeipnaaa.MemM Go.Proofs.Ytmabbeefeipnaaa.SzZ Go.Proofs.Ytmabbeefeipnaaa.SzM Go.Proofs.Ytmabbeefeipnaaa.ToZ Go.Proofs.Ytmabbeefeipnaaa.EqZ Go.Proofs.Ytmabbeefeipnaaa.MarkZ Go.Proofs.Ytmabbeefeipnaaa.SetMath Go.Proofs.Ytmabbeefeipnaaa.NameMath Go.Proofs.Ytmabbeefeipnaaa.ZoneMath Go.Proofs.Ytmabbeefeipnaaa.ServeMath Go.Proofs.Ytmabbeefeipnaaa.KindS 

theorem keptq {w0 w w' : World} {g k : Nat} {s nm : ByteArray} {x : Value} {ty : Int} (m : (Zx w g s x ∧ Qx w k nm ty) ∧ Svz w0 w) (hl : Below w.heap.size w w') : (Zx w' g s x ∧ Qx w' k nm ty) ∧ Svz w0 w' := ⟨⟨m.1.1.below hl, m.1.2.below hl⟩, m.2.trans (hl.mono m.2.size)⟩

theorem keptq_draw {w0 w : World} {g k : Nat} {s nm : ByteArray} {x : Value} {ty : Int} (m : (Zx w g s x ∧ Qx w k nm ty) ∧ Svz w0 w) : (Zx w.drew g s x ∧ Qx w.drew k nm ty) ∧ Svz w0 w.drew := keptq m ((Below.refl _ _).drew)

set_option maxRecDepth 100000 in
set_option maxHeartbeats 8000000 in
theorem walk (z : ByteArray) (A : Option Addr) (n c : Nat) (l : List Rec) (nm : ByteArray) (ty : Int) (w : World) (hzs : z.size ≤ 9223372036854775807) (hs : Sr w w.heap.size A n l) (hn : n ≤ 9223372036854775807) (hz : ∀ r ∈ l, r.name.size ≤ 9223372036854775807 ∧ r.host.size ≤ 9223372036854775807 ∧ r.text.size ≤ 9223372036854775807) (hqs : nm.size ≤ 9223372036854775807) :
    Calls Try.prog 3 #[.agg #[.string z, .slice A n c], .agg #[.string nm, .int .i64 ty]] w fun e w' => e = .returned (.bool true) ∧ Below w.heap.size w w' := by
  have S0 := Lib.hid hs
  have Z0 := Lib.hid hz
  have L0 := Lib.hid (two w z nm ty (.slice A n c) 24 26).2
  have J0 := Lib.hid (two w z nm ty (.slice A n c) 24 26).1.1
  have Y0 := Lib.hid (two w z nm ty (.slice A n c) 24 26).1.2
  clear hs hz
  go_enter Try.func3, Try.ntmps3
  obtain ⟨x0, x1⟩ := J0.out
  obtain ⟨y0, y1⟩ := Y0.out
  go_wp2_with fail
  refine (szZone_any z A n c l 1048576 _ (by omega) (by omega) hzs (S0.out.on L0.out) hn Z0.out).mono ?_
  rintro e w1 ⟨y, rfl, hy0, hy1, hy, hl⟩
  have E0 := Lib.hid hy
  have L1 := Lib.hid (L0.out.trans (hl.mono L0.out.size))
  have J1 := Lib.hid (J0.out.below hl)
  have Y1 := Lib.hid (Y0.out.below hl)
  clear hy hl L0 J0 Y0 x0 x1 y0 y1
  by_cases hneg : y < 0
  · go_wp2
    go_ret
    exact ⟨rfl, L1.out⟩
  have E1 := Lib.hid (E0.out (by omega))
  clear E0
  have bm : n ≤ 1048576 := by have := E1.out; have := S0.out.1; omega
  have bn : n ≤ 400000000 := by omega
  have bz : z.size ≤ 400000000 := by have := E1.out; omega
  have HN : Hid (l.length = n) := S0.out.1
  have HR : Hid (∀ r ∈ l, r.name.size ≤ 400000000) := fun r hr => by
    have := E1.out
    have h1 := tot_le l r hr
    unfold rz at h1
    omega
  clear E1 Z0
  obtain ⟨y0, y1⟩ := Y1.out
  go_wp2_with fail
  refine (szQuest_any nm ty y _ (by omega) (by omega) hqs).mono ?_
  rintro e w2 ⟨y2, rfl, hz0, hz1, hz2, hl⟩
  have E2 := Lib.hid hz2
  have L2 := Lib.hid (L1.out.trans (hl.mono L1.out.size))
  have J2 := Lib.hid (J1.out.below hl)
  have Y2 := Lib.hid (Y1.out.below hl)
  clear hz2 hl L1 J1 Y1 y0 y1
  by_cases hneg2 : y2 < 0
  · go_wp2
    go_ret
    exact ⟨rfl, L2.out⟩
  have bq : nm.size ≤ 400000000 := by have := E2.out (by omega); omega
  clear E2
  have hk0 : ¬ (1 : Int) + 6 * (n : Int) < 0 := by omega
  have TR : Hid (∀ W : World, Below w.heap.size w W → Calls Try.prog 12 #[.agg #[.string z, .slice A n c]] W fun e w' => ∃ g, e = .returned (.agg #[.string z, .slice (some ⟨g, 0, none⟩) n n]) ∧ Bk w' g 68 (fl l) ∧ W.heap.size ≤ g ∧ Below W.heap.size W w') :=
    fun W hW => toZone_any z A n c l W ((S0.out.below hW).wider hW.size) bn
  have SP : Hid (∀ (g : Nat) (W : World), Bk W g 68 (fl l) → Calls Try.prog 11 #[.agg #[.string z, .slice (some ⟨g, 0, none⟩) n n], .agg #[.string nm, .int .i64 ty]] W fun e w' => e = .returned (.int .i64 (kd z nm ty l)) ∧ Below W.heap.size W w') :=
    fun g W h => KindS.spec z nm ty g 0 n n l W (bk_sr0 h HN.out) (by omega) bz bq HR.out
  have IM : Hid (∀ (g : Nat) (W : World), Bk W g 68 (fl l) → Calls Try.prog 14 #[.agg #[.string z, .slice (some ⟨g, 0, none⟩) n n], .agg #[.string nm, .int .i64 ty]] W fun e w' => e = .returned (.int .i64 (kd z nm ty l)) ∧ Below W.heap.size W w') :=
    fun g W h => KindI.impl z nm ty g 0 n n l W (bk_sr0 h HN.out) (by omega) bz bq HR.out
  generalize kd z nm ty l = v at *
  have hv : (v != v) = false := by simp
  have TM : Hid (∀ W : World, (((W.cell? ⟨w.heap.size, 0, none⟩ = some (.string z) ∧ W.cell? ⟨w.heap.size, 1, none⟩ = some (.slice A n c)) ∧ (W.cell? ⟨w.heap.size + 1, 0, none⟩ = some (.string nm) ∧ W.cell? ⟨w.heap.size + 1, 1, none⟩ = some (.int .i64 ty))) ∧ Svz w2 W) → Calls Try.prog 12 #[.agg #[.string z, .slice A n c]] W fun e w' => ∃ g, e = .returned (.agg #[.string z, .slice (some ⟨g, 0, none⟩) n n]) ∧ Bk w' g 68 (fl l) ∧ W.heap.size ≤ g ∧ Below W.heap.size W w') := fun W hW => TR.out W (L2.out.trans ((show Below w2.heap.size w2 W from hW.2).mono L2.out.size))
  have TQ : Hid (∀ W : World, Calls Try.prog 13 #[.agg #[.string nm, .int .i64 ty]] W fun e w' => e = .returned (.agg #[.string nm, .int .i64 ty]) ∧ Below W.heap.size W w') := fun W => Go.Proofs.Ytmabbeefeipnaaa.ToM.toQuest_any nm ty W
  have SS0 : ((w2.cell? ⟨w.heap.size, 0, none⟩ = some (.string z) ∧ w2.cell? ⟨w.heap.size, 1, none⟩ = some (.slice A n c)) ∧ (w2.cell? ⟨w.heap.size + 1, 0, none⟩ = some (.string nm) ∧ w2.cell? ⟨w.heap.size + 1, 1, none⟩ = some (.int .i64 ty))) ∧ Svz w2 w2 := ⟨⟨J2.out, Y2.out⟩, Below.refl _ _⟩
  go_wp2
  go_region_held3 (fun w' => ((w'.cell? ⟨w.heap.size, 0, none⟩ = some (.string z) ∧ w'.cell? ⟨w.heap.size, 1, none⟩ = some (.slice A n c)) ∧ (w'.cell? ⟨w.heap.size + 1, 0, none⟩ = some (.string nm) ∧ w'.cell? ⟨w.heap.size + 1, 1, none⟩ = some (.int .i64 ty))) ∧ Svz w2 w')
    (first | with_reducible exact SS0 | with_reducible assumption | exact keptq (by assumption) hl | exact keptq_draw (by assumption) | fail)
    (first
      | (go_at_call 12; (with_reducible refine (TM.out _ (by assumption)).mono ?_); rintro e wt2 ⟨t1, rfl, hb1, ht1, hl⟩; have hl1 := hl)
      | (go_at_call 13; (with_reducible refine (TQ.out _).mono ?_); rintro e wq2 ⟨rfl, hl⟩; have hb2 := hb1.below hl hb1.lt; have hl2 := hl)
      | (go_at_call 11; (with_reducible refine (SP.out t1 _ hb2).mono ?_); rintro e w3 ⟨rfl, hl⟩; have hl3 := hl)
      | fail)
  rename_i hH
  have hz : Below w2.heap.size w2 w3 := hH.2
  have L3 := Lib.hid (L2.out.trans (hz.mono L2.out.size))
  have J3 := Lib.hid (J2.out.below hz)
  have Y3 := Lib.hid (Y2.out.below hz)
  clear hz hH hl SS0 TQ hl2 hl3 TM hb1 hb2 ht1 hl1  L2 J2 Y2
  obtain ⟨x0, x1⟩ := J3.out
  go_wp2_with fail
  refine (TR.out _ L3.out).mono ?_
  rintro e w4 ⟨gx, rfl, hb, hg, hl⟩
  have X4 := Lib.hid hb
  have L4 := Lib.hid (L3.out.trans (hl.mono L3.out.size))
  have J4 := Lib.hid (J3.out.below hl)
  have Y4 := Lib.hid (Y3.out.below hl)
  clear hl L3 J3 Y3 hb hg x0 x1
  have al : Below w4.heap.size w4 (w4.alloc (.cells #[.string z, .slice (some ⟨gx, 0, none⟩) n n] 32)) := (Below.refl _ _).alloc (Nat.le_refl _) _
  have L5 := Lib.hid (L4.out.trans (al.mono L4.out.size))
  have J5 := Lib.hid (J4.out.below al)
  have Y5 := Lib.hid (Y4.out.below al)
  have X5 := Lib.hid (X4.out.below al X4.out.lt)
  have Q5 := Lib.hid (zx_new w4 32 z (.slice (some ⟨gx, 0, none⟩) n n))
  clear al L4 J4 Y4 X4
  go_upto_region 10 with (fail)
  generalize w4.alloc (.cells #[.string z, .slice (some ⟨gx, 0, none⟩) n n] 32) = w5 at *
  generalize w4.heap.size = gq at *
  have TQ : Hid (∀ W : World, Calls Try.prog 13 #[.agg #[.string nm, .int .i64 ty]] W fun e w' => e = .returned (.agg #[.string nm, .int .i64 ty]) ∧ Below W.heap.size W w') := fun W => Go.Proofs.Ytmabbeefeipnaaa.ToM.toQuest_any nm ty W
  have SS0 : ((w5.cell? ⟨gq, 0, none⟩ = some (.string z) ∧ w5.cell? ⟨gq, 1, none⟩ = some (.slice (some ⟨gx, 0, none⟩) n n)) ∧ (w5.cell? ⟨w.heap.size + 1, 0, none⟩ = some (.string nm) ∧ w5.cell? ⟨w.heap.size + 1, 1, none⟩ = some (.int .i64 ty))) ∧ Svz w5 w5 := ⟨⟨Q5.out, Y5.out⟩, Below.refl _ _⟩
  have IMQ : Hid (∀ W : World, (((W.cell? ⟨gq, 0, none⟩ = some (.string z) ∧ W.cell? ⟨gq, 1, none⟩ = some (.slice (some ⟨gx, 0, none⟩) n n)) ∧ (W.cell? ⟨w.heap.size + 1, 0, none⟩ = some (.string nm) ∧ W.cell? ⟨w.heap.size + 1, 1, none⟩ = some (.int .i64 ty))) ∧ Svz w5 W) → Calls Try.prog 14 #[.agg #[.string z, .slice (some ⟨gx, 0, none⟩) n n], .agg #[.string nm, .int .i64 ty]] W (fun e w' => e = .returned (.int .i64 v) ∧ Below W.heap.size W w')) := fun W hW => IM.out gx W (X5.out.below hW.2 X5.out.lt)
  go_wp2
  go_region_held3 (fun w' => ((w'.cell? ⟨gq, 0, none⟩ = some (.string z) ∧ w'.cell? ⟨gq, 1, none⟩ = some (.slice (some ⟨gx, 0, none⟩) n n)) ∧ (w'.cell? ⟨w.heap.size + 1, 0, none⟩ = some (.string nm) ∧ w'.cell? ⟨w.heap.size + 1, 1, none⟩ = some (.int .i64 ty))) ∧ Svz w5 w')
    (first | with_reducible exact SS0 | with_reducible assumption | exact keptq (by assumption) hl | exact keptq_draw (by assumption) | fail)
    (first
      | (go_at_call 13; (with_reducible refine (TQ.out _).mono ?_); rintro e wq5 ⟨rfl, hl⟩; have hl2 := hl)
      | (go_at_call 14; (with_reducible refine (IMQ.out _ (by assumption)).mono ?_); rintro e w6 ⟨rfl, hl⟩; have hl3 := hl)
      | fail)
  rename_i hH
  have hz : Below w5.heap.size w5 w6 := hH.2
  have L6 := Lib.hid (L5.out.trans (hz.mono L5.out.size))
  have J6 := Lib.hid (J5.out.below hz)
  have Y6 := Lib.hid (Y5.out.below hz)
  have X6 := Lib.hid (X5.out.below hz X5.out.lt)
  have Q6 := Lib.hid (Q5.out.below hz)
  clear hz hH hl SS0 TQ hl2 hl3 IMQ  L5 J5 Y5 X5 Q5
  have TM : Hid (∀ W : World, (((W.cell? ⟨w.heap.size, 0, none⟩ = some (.string z) ∧ W.cell? ⟨w.heap.size, 1, none⟩ = some (.slice A n c)) ∧ (W.cell? ⟨gq, 0, none⟩ = some (.string z) ∧ W.cell? ⟨gq, 1, none⟩ = some (.slice (some ⟨gx, 0, none⟩) n n))) ∧ Svz w6 W) → Calls Try.prog 12 #[.agg #[.string z, .slice A n c]] W fun e w' => ∃ g, e = .returned (.agg #[.string z, .slice (some ⟨g, 0, none⟩) n n]) ∧ Bk w' g 68 (fl l) ∧ W.heap.size ≤ g ∧ Below W.heap.size W w') := fun W hW => TR.out W (L6.out.trans ((show Below w6.heap.size w6 W from hW.2).mono L6.out.size))
  have EQZ : Hid (∀ (W : World) (t : Nat), (((W.cell? ⟨w.heap.size, 0, none⟩ = some (.string z) ∧ W.cell? ⟨w.heap.size, 1, none⟩ = some (.slice A n c)) ∧ (W.cell? ⟨gq, 0, none⟩ = some (.string z) ∧ W.cell? ⟨gq, 1, none⟩ = some (.slice (some ⟨gx, 0, none⟩) n n))) ∧ Svz w6 W) → Bk W t 68 (fl l) → Calls Try.prog 15 #[.agg #[.string z, .slice (some ⟨gx, 0, none⟩) n n], .agg #[.string z, .slice (some ⟨t, 0, none⟩) n n]] W fun e w' => e = .returned (.bool true) ∧ Below W.heap.size W w') := fun W t hW ht => eqZone_same z _ _ n n n l W (bk_sr0 (X6.out.below hW.2 X6.out.lt) HN.out) (bk_sr0 ht HN.out) bn
  have SS0 : ((w6.cell? ⟨w.heap.size, 0, none⟩ = some (.string z) ∧ w6.cell? ⟨w.heap.size, 1, none⟩ = some (.slice A n c)) ∧ (w6.cell? ⟨gq, 0, none⟩ = some (.string z) ∧ w6.cell? ⟨gq, 1, none⟩ = some (.slice (some ⟨gx, 0, none⟩) n n))) ∧ Svz w6 w6 := ⟨⟨J6.out, Q6.out⟩, Below.refl _ _⟩
  go_wp2
  go_region_held3 (fun w' => ((w'.cell? ⟨w.heap.size, 0, none⟩ = some (.string z) ∧ w'.cell? ⟨w.heap.size, 1, none⟩ = some (.slice A n c)) ∧ (w'.cell? ⟨gq, 0, none⟩ = some (.string z) ∧ w'.cell? ⟨gq, 1, none⟩ = some (.slice (some ⟨gx, 0, none⟩) n n))) ∧ Svz w6 w')
    (first | with_reducible exact SS0 | with_reducible assumption | exact kept2z (by assumption) hl | exact kept2z_draw (by assumption) | fail)
    (first
      | (go_at_call 12; (with_reducible refine (TM.out _ (by assumption)).mono ?_); rintro e wt6 ⟨t1, rfl, hb1, -, hl⟩)
      | (go_at_call 15; (with_reducible refine (EQZ.out _ _ (by assumption) hb1).mono ?_); rintro e w7 ⟨rfl, hl⟩)
      | fail)
  rename_i hH
  have hz : Below w6.heap.size w6 w7 := hH.2
  have L7 := Lib.hid (L6.out.trans (hz.mono L6.out.size))
  have J7 := Lib.hid (J6.out.below hz)
  have Y7 := Lib.hid (Y6.out.below hz)
  have X7 := Lib.hid (X6.out.below hz X6.out.lt)
  have Q7 := Lib.hid (Q6.out.below hz)
  clear hz hH hl SS0 hb1 TM EQZ L6 J6 Y6 X6 Q6
  go_wp2
  go_ret
  exact ⟨rfl, L7.out⟩

end Go.Proofs.Ytmabbeefeipnaaa.LawKindIn
