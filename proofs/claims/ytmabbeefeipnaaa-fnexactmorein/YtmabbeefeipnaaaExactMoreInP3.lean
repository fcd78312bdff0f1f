/- The law FnExactMoreIn returns true at every zone and every question, and turns nothing that was there. No condition. -/
import Derived.Test.YtmabbeefeipnaaaSzZ
import Derived.Test.YtmabbeefeipnaaaToZ
import Derived.Test.YtmabbeefeipnaaaEqZ
import Derived.Test.YtmabbeefeipnaaaSzM
import Derived.Test.YtmabbeefeipnaaaToM
import Derived.Test.YtmabbeefeipnaaaMarkZ
import Derived.Test.YtmabbeefeipnaaaServeMath
import Derived.Test.YtmabbeefeipnaaaKindS
import Derived.Test.YtmabbeefeipnaaaMorS
import Derived.Test.YtmabbeefeipnaaaExactMoreInP2
import Derived.Test.YtmabbeefeipnaaaEqR
import Derived.Test.YtmabbeefeipnaaaMarkR
import Derived.Deep.RegionHeld3
import Derived.Test.YtmabbeefeipnaaaMemR
import Derived.Deep.Slices
import Derived.Deep.Fields
import Derived.ChangeSame
import Derived.ProofKit
import Derived.OpenShut
import Derived.Test.YtmabbeefeipnaaaMemM
import Derived.WalkKit
import Derived.ShutString
import Derived.ChangeOld
import Derived.Below
/- The law FnExactMoreIn returns true at every zone and every question, and turns nothing that was there: MoreIn answers as its model, and its answer owns its memory. -/
namespace Go.Proofs.Ytmabbeefeipnaaa.LawMoreIn
open Go.RowKit Go.Proofs.Ytmabbeefeipnaaa.Mem Go.Proofs.Ytmabbeefeipnaaa.MemR Go.Proofs.Ytmabbeefeipnaaa.MemZ Go.Proofs.Ytmabbeefeipnaaa.MemM Go.Proofs.Ytmabbeefeipnaaa.SzZ Go.Proofs.Ytmabbeefeipnaaa.SzM Go.Proofs.Ytmabbeefeipnaaa.ToZ Go.Proofs.Ytmabbeefeipnaaa.EqZ Go.Proofs.Ytmabbeefeipnaaa.MarkZ Go.Proofs.Ytmabbeefeipnaaa.SetMath Go.Proofs.Ytmabbeefeipnaaa.NameMath Go.Proofs.Ytmabbeefeipnaaa.ZoneMath Go.Proofs.Ytmabbeefeipnaaa.ServeMath Go.Proofs.Ytmabbeefeipnaaa.KindS Go.Proofs.Ytmabbeefeipnaaa.EqR Go.Proofs.Ytmabbeefeipnaaa.MarkR Go.Proofs.Ytmabbeefeipnaaa.MarkR3 Go.Proofs.Ytmabbeefeipnaaa.ResC Go.Proofs.Ytmabbeefeipnaaa.AnsI

theorem keptq {w0 w w' : World} {g k : Nat} {s nm : ByteArray} {x : Value} {ty : Int} (m : (Zx w g s x ∧ Qx w k nm ty) ∧ Svz w0 w) (hl : Below w.heap.size w w') : (Zx w' g s x ∧ Qx w' k nm ty) ∧ Svz w0 w' := ⟨⟨m.1.1.below hl, m.1.2.below hl⟩, m.2.trans (hl.mono m.2.size)⟩

theorem keptq_draw {w0 w : World} {g k : Nat} {s nm : ByteArray} {x : Value} {ty : Int} (m : (Zx w g s x ∧ Qx w k nm ty) ∧ Svz w0 w) : (Zx w.drew g s x ∧ Qx w.drew k nm ty) ∧ Svz w0 w.drew := keptq m ((Below.refl _ _).drew)

theorem qx_grown {w w' : World} {g : Nat} {nm : ByteArray} {ty : Int} {row : Option Nat} (k : Qx w g nm ty) (hb : w.grownBy w' row) (hg : some g ≠ row) : Qx w' g nm ty :=
  ⟨(World.cell?_of_block (hb.block g k.lt hg)).trans k.1, (World.cell?_of_block (hb.block g k.lt hg)).trans k.2⟩

set_option maxRecDepth 100000 in
set_option maxHeartbeats 8000000 in
theorem walk (z : ByteArray) (A : Option Addr) (n c : Nat) (l : List Rec) (nm : ByteArray) (ty : Int) (w : World) (hzs : z.size ≤ 9223372036854775807) (hs : Sr w w.heap.size A n l) (hn : n ≤ 9223372036854775807) (hz : ∀ r ∈ l, r.name.size ≤ 9223372036854775807 ∧ r.host.size ≤ 9223372036854775807 ∧ r.text.size ≤ 9223372036854775807) (hqs : nm.size ≤ 9223372036854775807) :
    Calls Try.prog 5 #[.agg #[.string z, .slice A n c], .agg #[.string nm, .int .i64 ty]] w fun e w' => e = .returned (.bool true) ∧ Below w.heap.size w w' := by
  have S0 := Lib.hid hs
  have Z0 := Lib.hid hz
  have L0 := Lib.hid (two w z nm ty (.slice A n c) 24 26).2
  have J0 := Lib.hid (two w z nm ty (.slice A n c) 24 26).1.1
  have Y0 := Lib.hid (two w z nm ty (.slice A n c) 24 26).1.2
  clear hs hz
  go_enter Try.func5, Try.ntmps5
  obtain ⟨x0, x1⟩ := J0.out
  obtain ⟨y0, y1⟩ := Y0.out
  go_wp2_with fail
  refine (szZone_any z A n c l 1048576 _ (by omega) (by omega) hzs (S0.out.on L0.out) hn Z0.out).mono ?_
  rintro e w1 ⟨y, rfl, hy0, hy1, hy, hl⟩
  have E0 := Lib.hid hy
  have L1 := Lib.hid (L0.out.trans (hl.mono L0.out.size))
  have J1 := Lib.hid (J0.out.below hl)
  have Y1 := Lib.hid (Y0.out.below hl)
  clear hy hl L0 J0 Y0 x0 x1 y0 y1
  by_cases hneg : y < 0
  · go_wp2
    go_ret
    exact ⟨rfl, L1.out⟩
  have E1 := Lib.hid (E0.out (by omega))
  clear E0
  have bm : n ≤ 1048576 := by have := E1.out; have := S0.out.1; omega
  have bn : n ≤ 400000000 := by omega
  have bz : z.size ≤ 400000000 := by have := E1.out; omega
  have HN : Hid (l.length = n) := S0.out.1
  have HR : Hid (∀ r ∈ l, r.name.size ≤ 400000000) := fun r hr => by
    have := E1.out
    have h1 := tot_le l r hr
    unfold rz at h1
    omega
  clear E1 Z0
  obtain ⟨y0, y1⟩ := Y1.out
  go_wp2_with fail
  refine (szQuest_any nm ty y _ (by omega) (by omega) hqs).mono ?_
  rintro e w2 ⟨y2, rfl, hz0, hz1, hz2, hl⟩
  have E2 := Lib.hid hz2
  have L2 := Lib.hid (L1.out.trans (hl.mono L1.out.size))
  have J2 := Lib.hid (J1.out.below hl)
  have Y2 := Lib.hid (Y1.out.below hl)
  clear hz2 hl L1 J1 Y1 y0 y1
  by_cases hneg2 : y2 < 0
  · go_wp2
    go_ret
    exact ⟨rfl, L2.out⟩
  have bq : nm.size ≤ 400000000 := by have := E2.out (by omega); omega
  clear E2
  have hk0 : ¬ (1 : Int) + 6 * (n : Int) < 0 := by omega
  have TR : Hid (∀ W : World, Below w.heap.size w W → Calls Try.prog 12 #[.agg #[.string z, .slice A n c]] W fun e w' => ∃ g, e = .returned (.agg #[.string z, .slice (some ⟨g, 0, none⟩) n n]) ∧ Bk w' g 68 (fl l) ∧ W.heap.size ≤ g ∧ Below W.heap.size W w') :=
    fun W hW => toZone_any z A n c l W ((S0.out.below hW).wider hW.size) bn
  have SP : Hid (∀ (g : Nat) (W : World), Bk W g 68 (fl l) → Calls Try.prog 22 #[.agg #[.string z, .slice (some ⟨g, 0, none⟩) n n], .agg #[.string nm, .int .i64 ty]] W fun e w' => ∃ g m c r, e = .returned (.slice (some ⟨g, 0, none⟩) m c) ∧ (mol (kd z nm ty l) z nm l).length = m ∧ m ≤ c ∧ W.heap.size ≤ g ∧ Bk w' g 68 (fl (mol (kd z nm ty l) z nm l) ++ r) ∧ Below W.heap.size W w') :=
    fun g W h => MorS.spec z nm ty g 0 n n l W (bk_sr0 h HN.out) (by omega) bz bq HR.out
  have IM : Hid (∀ (g : Nat) (W : World), Bk W g 68 (fl l) → Calls Try.prog 23 #[.agg #[.string z, .slice (some ⟨g, 0, none⟩) n n], .agg #[.string nm, .int .i64 ty]] W (GivesN W (mol (kd z nm ty l) z nm l))) :=
    fun g W h => AnsI.moreIn z nm ty g 0 n n l W (bk_sr0 h HN.out) (by omega) bz bq HR.out
  have HLL : Hid ((mol (kd z nm ty l) z nm l).length ≤ 1100000000000) := by
    show _ ≤ _
    exact Nat.le_trans (mol_len _ _ _ _) (by have := HN.out; omega)
  generalize mol (kd z nm ty l) z nm l = L at *
  have EQ : Hid (∀ (A : Option Addr) (h m c c' B : Nat) (r' : List Value) (W : World), Sec B W A m c L → Bk W h 68 (fl L ++ r') → Calls Try.prog 18 #[.slice A m c, .slice (some ⟨h, 0, none⟩) m c'] W fun e w' => e = .returned (.bool true) ∧ Below W.heap.size W w') :=
    fun A h m c c' B r' W h1 h2 => eqRecordS_wide _ _ m c c' L W h1.sr (bk_sr h2 h1.len) (by have := HLL.out; have := h1.len; omega)
  have TM : Hid (∀ W : World, (((W.cell? ⟨w.heap.size, 0, none⟩ = some (.string z) ∧ W.cell? ⟨w.heap.size, 1, none⟩ = some (.slice A n c)) ∧ (W.cell? ⟨w.heap.size + 1, 0, none⟩ = some (.string nm) ∧ W.cell? ⟨w.heap.size + 1, 1, none⟩ = some (.int .i64 ty))) ∧ Svz w2 W) → Calls Try.prog 12 #[.agg #[.string z, .slice A n c]] W fun e w' => ∃ g, e = .returned (.agg #[.string z, .slice (some ⟨g, 0, none⟩) n n]) ∧ Bk w' g 68 (fl l) ∧ W.heap.size ≤ g ∧ Below W.heap.size W w') := fun W hW => TR.out W (L2.out.trans ((show Below w2.heap.size w2 W from hW.2).mono L2.out.size))
  have TQ : Hid (∀ W : World, Calls Try.prog 13 #[.agg #[.string nm, .int .i64 ty]] W fun e w' => e = .returned (.agg #[.string nm, .int .i64 ty]) ∧ Below W.heap.size W w') := fun W => Go.Proofs.Ytmabbeefeipnaaa.ToM.toQuest_any nm ty W
  have SS0 : ((w2.cell? ⟨w.heap.size, 0, none⟩ = some (.string z) ∧ w2.cell? ⟨w.heap.size, 1, none⟩ = some (.slice A n c)) ∧ (w2.cell? ⟨w.heap.size + 1, 0, none⟩ = some (.string nm) ∧ w2.cell? ⟨w.heap.size + 1, 1, none⟩ = some (.int .i64 ty))) ∧ Svz w2 w2 := ⟨⟨J2.out, Y2.out⟩, Below.refl _ _⟩
  go_wp2
  go_region_held3 (fun w' => ((w'.cell? ⟨w.heap.size, 0, none⟩ = some (.string z) ∧ w'.cell? ⟨w.heap.size, 1, none⟩ = some (.slice A n c)) ∧ (w'.cell? ⟨w.heap.size + 1, 0, none⟩ = some (.string nm) ∧ w'.cell? ⟨w.heap.size + 1, 1, none⟩ = some (.int .i64 ty))) ∧ Svz w2 w')
    (first | with_reducible exact SS0 | with_reducible assumption | exact keptq (by assumption) hl | exact keptq_draw (by assumption) | fail)
    (first
      | (go_at_call 12; (with_reducible refine (TM.out _ (by assumption)).mono ?_); rintro e wt2 ⟨t1, rfl, hb1, ht1, hl⟩; have hl1 := hl)
      | (go_at_call 13; (with_reducible refine (TQ.out _).mono ?_); rintro e wq2 ⟨rfl, hl⟩; have hb2 := hb1.below hl hb1.lt; have hl2 := hl)
      | (go_at_call 22; (with_reducible refine (SP.out t1 _ hb2).mono ?_); rintro e w3 ⟨gw, m, cw, rw, rfl, hm, hcw, hg, hb, hl⟩; have hl3 := hl)
      | fail)
  rename_i hH
  have hz : Below w2.heap.size w2 w3 := hH.2
  have HM := Lib.hid hm
  have hmn : m ≤ 1100000000000 := by have := HLL.out; omega
  have W3 := Lib.hid hb
  have L3 := Lib.hid (L2.out.trans (hz.mono L2.out.size))
  have J3 := Lib.hid (J2.out.below hz)
  have Y3 := Lib.hid (Y2.out.below hz)
  clear hz hH hl SS0 TQ hl2 hl3 TM hb1 hb2 ht1 hl1 hm hcw hg hb L2 J2 Y2
  obtain ⟨x0, x1⟩ := J3.out
  go_wp2_with fail
  refine (TR.out _ L3.out).mono ?_
  rintro e w4 ⟨gx, rfl, hb, hg, hl⟩
  have X4 := Lib.hid hb
  have NWX := Lib.hid (show gw ≠ gx from fun e => by have := W3.out.lt; omega)
  have GX := Lib.hid (Nat.le_trans L3.out.size hg)
  have NJX := Lib.hid (show w.heap.size ≠ gx from fun e => by have := J3.out.lt; omega)
  have NYX := Lib.hid (show w.heap.size + 1 ≠ gx from fun e => by have := Y3.out.lt; omega)
  have L4 := Lib.hid (L3.out.trans (hl.mono L3.out.size))
  have J4 := Lib.hid (J3.out.below hl)
  have Y4 := Lib.hid (Y3.out.below hl)
  have W4 := Lib.hid (W3.out.below hl W3.out.lt)
  clear hl L3 J3 Y3 W3 hb hg x0 x1
  have NQX : Hid (w4.heap.size ≠ gx) := fun e => by have := X4.out.lt; omega
  have al : Below w4.heap.size w4 (w4.alloc (.cells #[.string z, .slice (some ⟨gx, 0, none⟩) n n] 32)) := (Below.refl _ _).alloc (Nat.le_refl _) _
  have L5 := Lib.hid (L4.out.trans (al.mono L4.out.size))
  have J5 := Lib.hid (J4.out.below al)
  have Y5 := Lib.hid (Y4.out.below al)
  have W5 := Lib.hid (W4.out.below al W4.out.lt)
  have X5 := Lib.hid (X4.out.below al X4.out.lt)
  have Q5 := Lib.hid (zx_new w4 32 z (.slice (some ⟨gx, 0, none⟩) n n))
  clear al L4 J4 Y4 W4 X4
  go_upto_region 10 with (fail)
  generalize w4.alloc (.cells #[.string z, .slice (some ⟨gx, 0, none⟩) n n] 32) = w5 at *
  generalize w4.heap.size = gq at *
  have TQ : Hid (∀ W : World, Calls Try.prog 13 #[.agg #[.string nm, .int .i64 ty]] W fun e w' => e = .returned (.agg #[.string nm, .int .i64 ty]) ∧ Below W.heap.size W w') := fun W => Go.Proofs.Ytmabbeefeipnaaa.ToM.toQuest_any nm ty W
  have SS0 : ((w5.cell? ⟨gq, 0, none⟩ = some (.string z) ∧ w5.cell? ⟨gq, 1, none⟩ = some (.slice (some ⟨gx, 0, none⟩) n n)) ∧ (w5.cell? ⟨w.heap.size + 1, 0, none⟩ = some (.string nm) ∧ w5.cell? ⟨w.heap.size + 1, 1, none⟩ = some (.int .i64 ty))) ∧ Svz w5 w5 := ⟨⟨Q5.out, Y5.out⟩, Below.refl _ _⟩
  have IMQ : Hid (∀ W : World, (((W.cell? ⟨gq, 0, none⟩ = some (.string z) ∧ W.cell? ⟨gq, 1, none⟩ = some (.slice (some ⟨gx, 0, none⟩) n n)) ∧ (W.cell? ⟨w.heap.size + 1, 0, none⟩ = some (.string nm) ∧ W.cell? ⟨w.heap.size + 1, 1, none⟩ = some (.int .i64 ty))) ∧ Svz w5 W) → Calls Try.prog 23 #[.agg #[.string z, .slice (some ⟨gx, 0, none⟩) n n], .agg #[.string nm, .int .i64 ty]] W (GivesN W L)) := fun W hW => IM.out gx W (X5.out.below hW.2 X5.out.lt)
  go_wp2
  go_region_held3 (fun w' => ((w'.cell? ⟨gq, 0, none⟩ = some (.string z) ∧ w'.cell? ⟨gq, 1, none⟩ = some (.slice (some ⟨gx, 0, none⟩) n n)) ∧ (w'.cell? ⟨w.heap.size + 1, 0, none⟩ = some (.string nm) ∧ w'.cell? ⟨w.heap.size + 1, 1, none⟩ = some (.int .i64 ty))) ∧ Svz w5 w')
    (first | with_reducible exact SS0 | with_reducible assumption | exact keptq (by assumption) hl | exact keptq_draw (by assumption) | fail)
    (first
      | (go_at_call 13; (with_reducible refine (TQ.out _).mono ?_); rintro e wq5 ⟨rfl, hl⟩; have hl2 := hl)
      | (go_at_call 23; (with_reducible refine (IMQ.out _ (by assumption)).mono ?_); rintro e w6 ⟨Ag, m', cg, rfl, hsec, hl⟩; have hl3 := hl)
      | fail)
  rename_i hH
  have hz : Below w5.heap.size w5 w6 := hH.2
  obtain rfl : m = m' := HM.out.symm.trans hsec.len
  have HS0 := Lib.hid hsec
  have HQ : Hid (w5.heap.size ≤ wq5.heap.size) := hl2.size
  have BQ : Hid (gq < w5.heap.size ∧ gw < w5.heap.size ∧ gx < w5.heap.size ∧ w.heap.size + 1 < w5.heap.size ∧ w.heap.size ≤ w5.heap.size) := ⟨Q5.out.lt, W5.out.lt, X5.out.lt, Y5.out.lt, L5.out.size⟩
  have L6 := Lib.hid (L5.out.trans (hz.mono L5.out.size))
  have J6 := Lib.hid (J5.out.below hz)
  have Y6 := Lib.hid (Y5.out.below hz)
  have W6 := Lib.hid (W5.out.below hz W5.out.lt)
  have X6 := Lib.hid (X5.out.below hz X5.out.lt)
  have Q6 := Lib.hid (Q5.out.below hz)
  clear hz hH hl SS0 TQ hl2 hl3 IMQ hsec L5 J5 Y5 W5 X5 Q5
  have hk1 : ¬ (1 : Int) < 0 := by omega
  rcases HS0.out with ⟨rfl, rfl, rfl, hL⟩ | ⟨gg, rg, rfl, hlen, hcg, hgg, hbg⟩
  · subst hL
    clear HS0
    go_wp2_with fail
    refine (EQ.out none gw 0 0 cw 0 rw w6 Sec.nil W6.out).mono ?_
    rintro e w7 ⟨rfl, hl⟩
    have L7 := Lib.hid (L6.out.trans (hl.mono L6.out.size))
    have J7 := Lib.hid (J6.out.below hl)
    have Y7 := Lib.hid (Y6.out.below hl)
    have W7 := Lib.hid (W6.out.below hl W6.out.lt)
    have X7 := Lib.hid (X6.out.below hl X6.out.lt)
    have Q7 := Lib.hid (Q6.out.below hl)
    clear hl L6 J6 Y6 W6 X6 Q6 
    have TM : Hid (∀ W : World, (((W.cell? ⟨w.heap.size, 0, none⟩ = some (.string z) ∧ W.cell? ⟨w.heap.size, 1, none⟩ = some (.slice A n c)) ∧ (W.cell? ⟨gq, 0, none⟩ = some (.string z) ∧ W.cell? ⟨gq, 1, none⟩ = some (.slice (some ⟨gx, 0, none⟩) n n))) ∧ Svz w7 W) → Calls Try.prog 12 #[.agg #[.string z, .slice A n c]] W fun e w' => ∃ g, e = .returned (.agg #[.string z, .slice (some ⟨g, 0, none⟩) n n]) ∧ Bk w' g 68 (fl l) ∧ W.heap.size ≤ g ∧ Below W.heap.size W w') := fun W hW => TR.out W (L7.out.trans ((show Below w7.heap.size w7 W from hW.2).mono L7.out.size))
    have EQZ : Hid (∀ (W : World) (t : Nat), (((W.cell? ⟨w.heap.size, 0, none⟩ = some (.string z) ∧ W.cell? ⟨w.heap.size, 1, none⟩ = some (.slice A n c)) ∧ (W.cell? ⟨gq, 0, none⟩ = some (.string z) ∧ W.cell? ⟨gq, 1, none⟩ = some (.slice (some ⟨gx, 0, none⟩) n n))) ∧ Svz w7 W) → Bk W t 68 (fl l) → Calls Try.prog 15 #[.agg #[.string z, .slice (some ⟨gx, 0, none⟩) n n], .agg #[.string z, .slice (some ⟨t, 0, none⟩) n n]] W fun e w' => e = .returned (.bool true) ∧ Below W.heap.size W w') := fun W t hW ht => eqZone_same z _ _ n n n l W (bk_sr0 (X7.out.below hW.2 X7.out.lt) HN.out) (bk_sr0 ht HN.out) bn
    have SS0 : ((w7.cell? ⟨w.heap.size, 0, none⟩ = some (.string z) ∧ w7.cell? ⟨w.heap.size, 1, none⟩ = some (.slice A n c)) ∧ (w7.cell? ⟨gq, 0, none⟩ = some (.string z) ∧ w7.cell? ⟨gq, 1, none⟩ = some (.slice (some ⟨gx, 0, none⟩) n n))) ∧ Svz w7 w7 := ⟨⟨J7.out, Q7.out⟩, Below.refl _ _⟩
    go_wp2
    go_region_held3 (fun w' => ((w'.cell? ⟨w.heap.size, 0, none⟩ = some (.string z) ∧ w'.cell? ⟨w.heap.size, 1, none⟩ = some (.slice A n c)) ∧ (w'.cell? ⟨gq, 0, none⟩ = some (.string z) ∧ w'.cell? ⟨gq, 1, none⟩ = some (.slice (some ⟨gx, 0, none⟩) n n))) ∧ Svz w7 w')
      (first | with_reducible exact SS0 | with_reducible assumption | exact kept2z (by assumption) hl | exact kept2z_draw (by assumption) | fail)
      (first
        | (go_at_call 12; (with_reducible refine (TM.out _ (by assumption)).mono ?_); rintro e wt7 ⟨t1, rfl, hb1, -, hl⟩)
        | (go_at_call 15; (with_reducible refine (EQZ.out _ _ (by assumption) hb1).mono ?_); rintro e w8 ⟨rfl, hl⟩)
        | fail)
    rename_i hH
    have hz : Below w7.heap.size w7 w8 := hH.2
    have L8 := Lib.hid (L7.out.trans (hz.mono L7.out.size))
    have J8 := Lib.hid (J7.out.below hz)
    have Y8 := Lib.hid (Y7.out.below hz)
    have W8 := Lib.hid (W7.out.below hz W7.out.lt)
    have X8 := Lib.hid (X7.out.below hz X7.out.lt)
    have Q8 := Lib.hid (Q7.out.below hz)
    clear hz hH hl SS0 hb1 TM EQZ L7 J7 Y7 W7 X7 Q7
    obtain ⟨x0, x1⟩ := Q8.out
    go_wp2_with fail
    refine (markZone_one z gx n n l [] w8 (by rw [List.append_nil]; exact X8.out) HN.out (by omega)).mono ?_
    rintro e w9 ⟨rfl, gr⟩
    have L9 := Lib.hid (L8.out.grown gr L8.out.size (fun j hj => by cases hj; exact GX.out))
    have J9 := Lib.hid (J8.out.grown gr (fun e => NJX.out (Option.some.inj e)))
    have Y9 := Lib.hid (qx_grown Y8.out gr (fun e => NYX.out (Option.some.inj e)))
    have W9 := Lib.hid (W8.out.grown gr (fun e => NWX.out (Option.some.inj e)))
    have Q9 := Lib.hid (Q8.out.grown gr (fun e => NQX.out (Option.some.inj e)))
    clear gr L8 J8 Y8 W8 X8 Q8 x0 x1
    go_wp2_with fail
    refine (EQ.out none gw 0 0 cw 0 rw w9 Sec.nil W9.out).mono ?_
    rintro e w10 ⟨rfl, hl⟩
    have L10 := Lib.hid (L9.out.trans (hl.mono L9.out.size))
    have J10 := Lib.hid (J9.out.below hl)
    have Y10 := Lib.hid (Y9.out.below hl)
    have W10 := Lib.hid (W9.out.below hl W9.out.lt)
    have Q10 := Lib.hid (Q9.out.below hl)
    clear hl L9 J9 Y9 W9 Q9 
    go_wp2_with fail
    refine (mark_none 1 _).mono ?_
    rintro e w10 ⟨rfl, rfl⟩
    go_wp2_with fail
    refine (held_none 1 _).mono ?_
    rintro e w10 ⟨rfl, rfl⟩
    go_upto_region 27 with (fail)
    have TM : Hid (∀ W : World, (((W.cell? ⟨w.heap.size, 0, none⟩ = some (.string z) ∧ W.cell? ⟨w.heap.size, 1, none⟩ = some (.slice A n c)) ∧ (W.cell? ⟨w.heap.size + 1, 0, none⟩ = some (.string nm) ∧ W.cell? ⟨w.heap.size + 1, 1, none⟩ = some (.int .i64 ty))) ∧ Svz w10 W) → Calls Try.prog 12 #[.agg #[.string z, .slice A n c]] W fun e w' => ∃ g, e = .returned (.agg #[.string z, .slice (some ⟨g, 0, none⟩) n n]) ∧ Bk w' g 68 (fl l) ∧ W.heap.size ≤ g ∧ Below W.heap.size W w') := fun W hW => TR.out W (L10.out.trans ((show Below w10.heap.size w10 W from hW.2).mono L10.out.size))
    have TQ : Hid (∀ W : World, Calls Try.prog 13 #[.agg #[.string nm, .int .i64 ty]] W fun e w' => e = .returned (.agg #[.string nm, .int .i64 ty]) ∧ Below W.heap.size W w') := fun W => Go.Proofs.Ytmabbeefeipnaaa.ToM.toQuest_any nm ty W
    have SS0 : ((w10.cell? ⟨w.heap.size, 0, none⟩ = some (.string z) ∧ w10.cell? ⟨w.heap.size, 1, none⟩ = some (.slice A n c)) ∧ (w10.cell? ⟨w.heap.size + 1, 0, none⟩ = some (.string nm) ∧ w10.cell? ⟨w.heap.size + 1, 1, none⟩ = some (.int .i64 ty))) ∧ Svz w10 w10 := ⟨⟨J10.out, Y10.out⟩, Below.refl _ _⟩
    go_wp2
    go_region_held3 (fun w' => ((w'.cell? ⟨w.heap.size, 0, none⟩ = some (.string z) ∧ w'.cell? ⟨w.heap.size, 1, none⟩ = some (.slice A n c)) ∧ (w'.cell? ⟨w.heap.size + 1, 0, none⟩ = some (.string nm) ∧ w'.cell? ⟨w.heap.size + 1, 1, none⟩ = some (.int .i64 ty))) ∧ Svz w10 w')
      (first | with_reducible exact SS0 | with_reducible assumption | exact keptq (by assumption) hl | exact keptq_draw (by assumption) | fail)
      (first
        | (go_at_call 12; (with_reducible refine (TM.out _ (by assumption)).mono ?_); rintro e wt10 ⟨t1, rfl, hb1, ht1, hl⟩; have hl1 := hl)
        | (go_at_call 13; (with_reducible refine (TQ.out _).mono ?_); rintro e wq10 ⟨rfl, hl⟩; have hb2 := hb1.below hl hb1.lt; have hl2 := hl)
        | (go_at_call 23; (with_reducible refine (IM.out t1 _ hb2).mono ?_); rintro e w11 ⟨Ah, m', ch, rfl, hsec, hl⟩; have hl3 := hl)
        | fail)
    rename_i hH
    have hz : Below w10.heap.size w10 w11 := hH.2
    obtain rfl : 0 = m' := HM.out.symm.trans hsec.len
    have H11 := Lib.hid hsec
    have L11 := Lib.hid (L10.out.trans (hz.mono L10.out.size))
    have J11 := Lib.hid (J10.out.below hz)
    have Y11 := Lib.hid (Y10.out.below hz)
    have W11 := Lib.hid (W10.out.below hz W10.out.lt)
    have Q11 := Lib.hid (Q10.out.below hz)
    clear hz hH hl SS0 TQ hl2 hl3 TM hb1 hb2 ht1 hl1 hsec L10 J10 Y10 W10 Q10
    go_wp2_with fail
    refine (EQ.out Ah gw 0 ch cw _ rw w11 H11.out W11.out).mono ?_
    rintro e w12 ⟨rfl, hl⟩
    have L12 := Lib.hid (L11.out.trans (hl.mono L11.out.size))
    have J12 := Lib.hid (J11.out.below hl)
    have Y12 := Lib.hid (Y11.out.below hl)
    have Q12 := Lib.hid (Q11.out.below hl)
    clear hl L11 J11 Y11 W11 Q11 H11 
    go_wp2_with fail
    refine (held_none 1 _).mono ?_
    rintro e w12 ⟨rfl, rfl⟩
    go_wp2
    go_ret
    exact ⟨rfl, L12.out⟩
  · have G6 := Lib.hid hbg
    have HCG := Lib.hid hcg
    have HGG : Hid (w5.heap.size ≤ gg) := Nat.le_trans HQ.out hgg
    have NWG : Hid (gw ≠ gg) := fun e => by have := BQ.out; have := HGG.out; omega
    have NXG : Hid (gx ≠ gg) := fun e => by have := BQ.out; have := HGG.out; omega
    have NQG : Hid (gq ≠ gg) := fun e => by have := BQ.out; have := HGG.out; omega
    have NJG : Hid (w.heap.size ≠ gg) := fun e => by have := BQ.out; have := HGG.out; omega
    have NYG : Hid (w.heap.size + 1 ≠ gg) := fun e => by have := BQ.out; have := HGG.out; omega
    have GG : Hid (w.heap.size ≤ gg) := Nat.le_trans BQ.out.2.2.2.2 HGG.out
    clear HS0 hlen hcg hgg hbg HGG
    go_wp2_with fail
    refine (EQ.out _ gw m _ cw 0 rw w6 (.inr ⟨gg, rg, rfl, HM.out, HCG.out, Nat.zero_le _, G6.out⟩ : Sec 0 _ _ _ _ _) W6.out).mono ?_
    rintro e w7 ⟨rfl, hl⟩
    have L7 := Lib.hid (L6.out.trans (hl.mono L6.out.size))
    have J7 := Lib.hid (J6.out.below hl)
    have Y7 := Lib.hid (Y6.out.below hl)
    have W7 := Lib.hid (W6.out.below hl W6.out.lt)
    have X7 := Lib.hid (X6.out.below hl X6.out.lt)
    have Q7 := Lib.hid (Q6.out.below hl)
    have G7 := Lib.hid (G6.out.below hl G6.out.lt)
    clear hl L6 J6 Y6 W6 X6 Q6 G6 
    have TM : Hid (∀ W : World, (((W.cell? ⟨w.heap.size, 0, none⟩ = some (.string z) ∧ W.cell? ⟨w.heap.size, 1, none⟩ = some (.slice A n c)) ∧ (W.cell? ⟨gq, 0, none⟩ = some (.string z) ∧ W.cell? ⟨gq, 1, none⟩ = some (.slice (some ⟨gx, 0, none⟩) n n))) ∧ Svz w7 W) → Calls Try.prog 12 #[.agg #[.string z, .slice A n c]] W fun e w' => ∃ g, e = .returned (.agg #[.string z, .slice (some ⟨g, 0, none⟩) n n]) ∧ Bk w' g 68 (fl l) ∧ W.heap.size ≤ g ∧ Below W.heap.size W w') := fun W hW => TR.out W (L7.out.trans ((show Below w7.heap.size w7 W from hW.2).mono L7.out.size))
    have EQZ : Hid (∀ (W : World) (t : Nat), (((W.cell? ⟨w.heap.size, 0, none⟩ = some (.string z) ∧ W.cell? ⟨w.heap.size, 1, none⟩ = some (.slice A n c)) ∧ (W.cell? ⟨gq, 0, none⟩ = some (.string z) ∧ W.cell? ⟨gq, 1, none⟩ = some (.slice (some ⟨gx, 0, none⟩) n n))) ∧ Svz w7 W) → Bk W t 68 (fl l) → Calls Try.prog 15 #[.agg #[.string z, .slice (some ⟨gx, 0, none⟩) n n], .agg #[.string z, .slice (some ⟨t, 0, none⟩) n n]] W fun e w' => e = .returned (.bool true) ∧ Below W.heap.size W w') := fun W t hW ht => eqZone_same z _ _ n n n l W (bk_sr0 (X7.out.below hW.2 X7.out.lt) HN.out) (bk_sr0 ht HN.out) bn
    have SS0 : ((w7.cell? ⟨w.heap.size, 0, none⟩ = some (.string z) ∧ w7.cell? ⟨w.heap.size, 1, none⟩ = some (.slice A n c)) ∧ (w7.cell? ⟨gq, 0, none⟩ = some (.string z) ∧ w7.cell? ⟨gq, 1, none⟩ = some (.slice (some ⟨gx, 0, none⟩) n n))) ∧ Svz w7 w7 := ⟨⟨J7.out, Q7.out⟩, Below.refl _ _⟩
    go_wp2
    go_region_held3 (fun w' => ((w'.cell? ⟨w.heap.size, 0, none⟩ = some (.string z) ∧ w'.cell? ⟨w.heap.size, 1, none⟩ = some (.slice A n c)) ∧ (w'.cell? ⟨gq, 0, none⟩ = some (.string z) ∧ w'.cell? ⟨gq, 1, none⟩ = some (.slice (some ⟨gx, 0, none⟩) n n))) ∧ Svz w7 w')
      (first | with_reducible exact SS0 | with_reducible assumption | exact kept2z (by assumption) hl | exact kept2z_draw (by assumption) | fail)
      (first
        | (go_at_call 12; (with_reducible refine (TM.out _ (by assumption)).mono ?_); rintro e wt7 ⟨t1, rfl, hb1, -, hl⟩)
        | (go_at_call 15; (with_reducible refine (EQZ.out _ _ (by assumption) hb1).mono ?_); rintro e w8 ⟨rfl, hl⟩)
        | fail)
    rename_i hH
    have hz : Below w7.heap.size w7 w8 := hH.2
    have L8 := Lib.hid (L7.out.trans (hz.mono L7.out.size))
    have J8 := Lib.hid (J7.out.below hz)
    have Y8 := Lib.hid (Y7.out.below hz)
    have W8 := Lib.hid (W7.out.below hz W7.out.lt)
    have X8 := Lib.hid (X7.out.below hz X7.out.lt)
    have Q8 := Lib.hid (Q7.out.below hz)
    have G8 := Lib.hid (G7.out.below hz G7.out.lt)
    clear hz hH hl SS0 hb1 TM EQZ L7 J7 Y7 W7 X7 Q7 G7
    obtain ⟨x0, x1⟩ := Q8.out
    go_wp2_with fail
    refine (markZone_one z gx n n l [] w8 (by rw [List.append_nil]; exact X8.out) HN.out (by omega)).mono ?_
    rintro e w9 ⟨rfl, gr⟩
    have L9 := Lib.hid (L8.out.grown gr L8.out.size (fun j hj => by cases hj; exact GX.out))
    have J9 := Lib.hid (J8.out.grown gr (fun e => NJX.out (Option.some.inj e)))
    have Y9 := Lib.hid (qx_grown Y8.out gr (fun e => NYX.out (Option.some.inj e)))
    have W9 := Lib.hid (W8.out.grown gr (fun e => NWX.out (Option.some.inj e)))
    have Q9 := Lib.hid (Q8.out.grown gr (fun e => NQX.out (Option.some.inj e)))
    have G9 := Lib.hid (G8.out.grown gr (fun e => NXG.out (Option.some.inj e).symm))
    clear gr L8 J8 Y8 W8 X8 Q8 G8 x0 x1
    go_wp2_with fail
    refine (EQ.out _ gw m _ cw 0 rw w9 (.inr ⟨gg, rg, rfl, HM.out, HCG.out, Nat.zero_le _, G9.out⟩ : Sec 0 _ _ _ _ _) W9.out).mono ?_
    rintro e w10 ⟨rfl, hl⟩
    have L10 := Lib.hid (L9.out.trans (hl.mono L9.out.size))
    have J10 := Lib.hid (J9.out.below hl)
    have Y10 := Lib.hid (Y9.out.below hl)
    have W10 := Lib.hid (W9.out.below hl W9.out.lt)
    have Q10 := Lib.hid (Q9.out.below hl)
    have G10 := Lib.hid (G9.out.below hl G9.out.lt)
    clear hl L9 J9 Y9 W9 Q9 G9 
    go_wp2_with fail
    refine (markRecordS_wide gg m cg L rg w10 G10.out HM.out hmn).mono ?_
    rintro e w11 ⟨rfl, mm, gr⟩
    have M11 := Lib.hid mm
    have L11 := Lib.hid (L10.out.grown gr L10.out.size (fun j hj => by cases hj; exact GG.out))
    have J11 := Lib.hid (J10.out.grown gr (fun e => NJG.out (Option.some.inj e)))
    have Y11 := Lib.hid (qx_grown Y10.out gr (fun e => NYG.out (Option.some.inj e)))
    have W11 := Lib.hid (W10.out.grown gr (fun e => NWG.out (Option.some.inj e)))
    have Q11 := Lib.hid (Q10.out.grown gr (fun e => NQG.out (Option.some.inj e)))
    clear gr L10 J10 Y10 W10 Q10 G10 mm
    have q0 : ¬ (1 : Int) + 6 * (m : Int) < 0 := by omega
    have q1 : ((1 : Int) + 6 * (m : Int) != 1 + 6 * (m : Int)) = false := by simp
    go_wp2_with fail
    refine (heldRecordS_wide gg m cg rg w11 M11.out hmn).mono ?_
    rintro e w12 ⟨rfl, hl⟩
    have L12 := Lib.hid (L11.out.trans (hl.mono L11.out.size))
    have J12 := Lib.hid (J11.out.below hl)
    have Y12 := Lib.hid (Y11.out.below hl)
    have W12 := Lib.hid (W11.out.below hl W11.out.lt)
    have Q12 := Lib.hid (Q11.out.below hl)
    have M12 := Lib.hid (M11.out.below hl M11.out.lt)
    clear hl L11 J11 Y11 W11 Q11 M11 
    go_upto_region 27 with (fail)
    have TM : Hid (∀ W : World, (((W.cell? ⟨w.heap.size, 0, none⟩ = some (.string z) ∧ W.cell? ⟨w.heap.size, 1, none⟩ = some (.slice A n c)) ∧ (W.cell? ⟨w.heap.size + 1, 0, none⟩ = some (.string nm) ∧ W.cell? ⟨w.heap.size + 1, 1, none⟩ = some (.int .i64 ty))) ∧ Svz w12 W) → Calls Try.prog 12 #[.agg #[.string z, .slice A n c]] W fun e w' => ∃ g, e = .returned (.agg #[.string z, .slice (some ⟨g, 0, none⟩) n n]) ∧ Bk w' g 68 (fl l) ∧ W.heap.size ≤ g ∧ Below W.heap.size W w') := fun W hW => TR.out W (L12.out.trans ((show Below w12.heap.size w12 W from hW.2).mono L12.out.size))
    have TQ : Hid (∀ W : World, Calls Try.prog 13 #[.agg #[.string nm, .int .i64 ty]] W fun e w' => e = .returned (.agg #[.string nm, .int .i64 ty]) ∧ Below W.heap.size W w') := fun W => Go.Proofs.Ytmabbeefeipnaaa.ToM.toQuest_any nm ty W
    have SS0 : ((w12.cell? ⟨w.heap.size, 0, none⟩ = some (.string z) ∧ w12.cell? ⟨w.heap.size, 1, none⟩ = some (.slice A n c)) ∧ (w12.cell? ⟨w.heap.size + 1, 0, none⟩ = some (.string nm) ∧ w12.cell? ⟨w.heap.size + 1, 1, none⟩ = some (.int .i64 ty))) ∧ Svz w12 w12 := ⟨⟨J12.out, Y12.out⟩, Below.refl _ _⟩
    go_wp2
    go_region_held3 (fun w' => ((w'.cell? ⟨w.heap.size, 0, none⟩ = some (.string z) ∧ w'.cell? ⟨w.heap.size, 1, none⟩ = some (.slice A n c)) ∧ (w'.cell? ⟨w.heap.size + 1, 0, none⟩ = some (.string nm) ∧ w'.cell? ⟨w.heap.size + 1, 1, none⟩ = some (.int .i64 ty))) ∧ Svz w12 w')
      (first | with_reducible exact SS0 | with_reducible assumption | exact keptq (by assumption) hl | exact keptq_draw (by assumption) | fail)
      (first
        | (go_at_call 12; (with_reducible refine (TM.out _ (by assumption)).mono ?_); rintro e wt12 ⟨t1, rfl, hb1, ht1, hl⟩; have hl1 := hl)
        | (go_at_call 13; (with_reducible refine (TQ.out _).mono ?_); rintro e wq12 ⟨rfl, hl⟩; have hb2 := hb1.below hl hb1.lt; have hl2 := hl)
        | (go_at_call 23; (with_reducible refine (IM.out t1 _ hb2).mono ?_); rintro e w13 ⟨Ah, m', ch, rfl, hsec, hl⟩; have hl3 := hl)
        | fail)
    rename_i hH
    have hz : Below w12.heap.size w12 w13 := hH.2
    obtain rfl : m = m' := HM.out.symm.trans hsec.len
    have H13 := Lib.hid hsec
    have L13 := Lib.hid (L12.out.trans (hz.mono L12.out.size))
    have J13 := Lib.hid (J12.out.below hz)
    have Y13 := Lib.hid (Y12.out.below hz)
    have W13 := Lib.hid (W12.out.below hz W12.out.lt)
    have Q13 := Lib.hid (Q12.out.below hz)
    have M13 := Lib.hid (M12.out.below hz M12.out.lt)
    clear hz hH hl SS0 TQ hl2 hl3 TM hb1 hb2 ht1 hl1 hsec L12 J12 Y12 W12 Q12 M12
    go_wp2_with fail
    refine (EQ.out Ah gw m ch cw _ rw w13 H13.out W13.out).mono ?_
    rintro e w14 ⟨rfl, hl⟩
    have L14 := Lib.hid (L13.out.trans (hl.mono L13.out.size))
    have J14 := Lib.hid (J13.out.below hl)
    have Y14 := Lib.hid (Y13.out.below hl)
    have Q14 := Lib.hid (Q13.out.below hl)
    have M14 := Lib.hid (M13.out.below hl M13.out.lt)
    clear hl L13 J13 Y13 W13 Q13 M13 H13 
    go_wp2_with fail
    refine (heldRecordS_wide gg m cg rg w14 M14.out hmn).mono ?_
    rintro e w15 ⟨rfl, hl⟩
    have L15 := Lib.hid (L14.out.trans (hl.mono L14.out.size))
    have J15 := Lib.hid (J14.out.below hl)
    have Y15 := Lib.hid (Y14.out.below hl)
    have Q15 := Lib.hid (Q14.out.below hl)
    clear hl L14 J14 Y14 Q14 M14 
    go_wp2
    go_ret
    exact ⟨rfl, L15.out⟩

end Go.Proofs.Ytmabbeefeipnaaa.LawMoreIn

/- What a record that comes in, and a slice of records that comes in, read as. -/
namespace Go.Proofs.Ytmabbeefeipnaaa.RowR
open Go.Proofs.Ytmabbeefeipnaaa.Mem Go.Proofs.Ytmabbeefeipnaaa.MemR
open Go.ChangeShapes Go.WideShapes Go.ChangeAt Go.RowKit Go.Deep

/-- The texts of a record are no longer than any text. -/
def Small (r : Rec) : Prop := r.name.size ≤ 9223372036854775807 ∧ r.host.size ≤ 9223372036854775807 ∧ r.text.size ≤ 9223372036854775807
/-- The argument reads as records. -/
def IsRecs (w : World) (a : Option Addr) (len : Nat) (l : List Rec) : Prop :=
  Sr w w.heap.size a len l ∧ len ≤ 9223372036854775807 ∧ ∀ r ∈ l, Small r

section
variable {H : Type} {enc : TypeId × Value → H} {w : World} {base : Nat} {spare : Nat → Bool} {held : Bool}
theorem six_of {cs : List Value} {s0 s4 s5 : ByteArray} {x1 x2 x3 : Int} (h : cs.length = 6) (e0 : (cs.drop 0).take 1 = [.string s0]) (e1 : (cs.drop 1).take 1 = [.int .i64 x1]) (e2 : (cs.drop 2).take 1 = [.int .i64 x2])
    (e3 : (cs.drop 3).take 1 = [.int .i64 x3]) (e4 : (cs.drop 4).take 1 = [.string s4]) (e5 : (cs.drop 5).take 1 = [.string s5]) : cs = rc ⟨s0, x1, x2, x3, s4, s5⟩ := by
  match cs, h with
  | [c0, c1, c2, c3, c4, c5], _ =>
    simp only [List.drop_zero, List.drop_succ_cons, List.take_succ_cons, List.take_zero, List.cons.injEq, and_true] at e0 e1 e2 e3 e4 e5
    subst e0 e1 e2 e3 e4 e5
    rfl
theorem rec_of {fuel : Nat} {cs : List Value} {x : DataW H × List MemPlace} (h : DataW.trod enc Try.prog w base spare held fuel 80 cs = some x) : ∃ r : Rec, cs = rc r ∧ Small r := by
  obtain ⟨xs, n, _, _, hc, hl, hg⟩ := DataW.trod_struct Try.underlying80 h
  have h6 : cs.length = 6 := hc.trans (by kernel_rfl)
  have hx : xs.length = 6 := hl
  have ks : Try.prog.cellsOf 9 = 1 := by kernel_rfl
  have ki : Try.prog.cellsOf 3 = 1 := by kernel_rfl
  have g : ∀ i, i < 6 → xs[i]? = some (xs[i]!) := fun i hi => by rw [getElem!_pos xs i (by omega)]; exact List.getElem?_eq_getElem (by omega)
  have f0 := (hg 0 _ rfl).trans (g 0 (by omega))
  have f1 := (hg 1 _ rfl).trans (g 1 (by omega))
  have f2 := (hg 2 _ rfl).trans (g 2 (by omega))
  have f3 := (hg 3 _ rfl).trans (g 3 (by omega))
  have f4 := (hg 4 _ rfl).trans (g 4 (by omega))
  have f5 := (hg 5 _ rfl).trans (g 5 (by omega))
  obtain ⟨s0, e0, _, z0⟩ := DataW.trod_string Try.underlying9 f0
  obtain ⟨x1, e1, _⟩ := DataW.trod_int Try.underlying3 f1
  obtain ⟨x2, e2, _⟩ := DataW.trod_int Try.underlying3 f2
  obtain ⟨x3, e3, _⟩ := DataW.trod_int Try.underlying3 f3
  obtain ⟨s4, e4, _, z4⟩ := DataW.trod_string Try.underlying9 f4
  obtain ⟨s5, e5, _, z5⟩ := DataW.trod_string Try.underlying9 f5
  replace e0 : (cs.drop 0).take (Try.prog.cellsOf 9) = [.string s0] := e0
  replace e1 : (cs.drop 1).take (Try.prog.cellsOf 3) = [.int .i64 x1] := e1
  replace e2 : (cs.drop 2).take (Try.prog.cellsOf 3) = [.int .i64 x2] := e2
  replace e3 : (cs.drop 3).take (Try.prog.cellsOf 3) = [.int .i64 x3] := e3
  replace e4 : (cs.drop 4).take (Try.prog.cellsOf 9) = [.string s4] := e4
  replace e5 : (cs.drop 5).take (Try.prog.cellsOf 9) = [.string s5] := e5
  rw [ks] at e0 e4 e5
  rw [ki] at e1 e2 e3
  unfold maxLen at z0 z4 z5
  exact ⟨⟨s0, x1, x2, x3, s4, s5⟩, six_of h6 e0 e1 e2 e3 e4 e5, z0, z4, z5⟩
set_option maxRecDepth 100000 in
/-- A record that comes in. -/
theorem rec_in {r : Reach} {b0 : Nat} {v : Value} {d : DataW H} {p : List MemPlace} (hv : Value.okWide Try.prog w r b0 80 v) (h : DataW.Trod enc Try.prog w base spare held 80 v d p) :
    ∃ r : Rec, v = .agg #[.string r.name, .int .i64 r.ty, .int .i64 r.ttl, .int .i64 r.n, .string r.host, .string r.text] ∧ Small r := by
  obtain ⟨cs, rfl, _⟩ := okWide_struct Try.underlying80 hv
  obtain ⟨fuel, hf⟩ := h
  obtain ⟨r, hr, hz⟩ := rec_of hf
  refine ⟨r, ?_, hz⟩
  have e : cs.toList = rc r := hr
  rw [show cs = (rc r).toArray from by rw [← e]]
  rfl
end

section
variable {H : Type} {enc : TypeId × Value → H} {w : World}

set_option maxRecDepth 100000 in
/-- A slice of records that comes in. -/
theorem recs_in {a : Option Addr} {len cap : Nat} {d : DataW H} {p : List MemPlace} (h : DataW.Trod enc Try.prog w 0 (fun _ => true) true 22 (.slice a len cap) d p) : ∃ l, IsRecs w a len l := by
  obtain ⟨fuel, hf⟩ := h
  rcases open_slice Try.underlying22 hf with ⟨hcs, _⟩ | ⟨x, len', cap', m, n, D, Pl, hcs, _, hl, hm, hmm, _, hx⟩
  · simp [Value.cells] at hcs
    obtain ⟨rfl, rfl, rfl⟩ := hcs
    exact ⟨[], Sr.nil, by omega, fun r h => by simp at h⟩
  · simp [Value.cells] at hcs
    obtain ⟨rfl, rfl, rfl⟩ := hcs
    unfold maxLen at hm
    simp only [if_true] at hmm
    subst hmm
    have hC : Try.prog.cellsOf 80 = 6 := by kernel_rfl
    rw [hC] at hx
    obtain ⟨b, off, spot⟩ := x
    rcases Nat.eq_zero_or_pos len with h0 | h0
    · subst h0
      exact ⟨[], Sr.nil, by omega, fun r h => by simp at h⟩
    have hs : spot = none := by
      obtain ⟨cs', hc, _⟩ := hx 0 (by omega)
      obtain ⟨_, hl6, hat⟩ := World.cells?_some hc
      have c0 := hat 0 (by omega)
      rw [List.getElem?_eq_getElem (by omega)] at c0
      simpa [Addr.add] using World.cell?_spot c0
    subst hs
    have key : ∀ i : Nat, ∃ r : Rec, i < len → (b < w.heap.size ∧ Ce w b (off + i * 6) r ∧ Small r) := fun i => by
      by_cases hi : i < len
      · obtain ⟨cs', hc, ht⟩ := hx i (by omega)
        obtain ⟨r, rfl, hz⟩ := rec_of ht
        obtain ⟨_, _, hat⟩ := World.cells?_some hc
        refine ⟨r, fun _ => ?_⟩
        have hc : ∀ c, c < 6 → w.cell? ⟨b, off + i * 6 + c, none⟩ = (rc r)[c]? := fun c hc => by
          rw [← hat c hc, Addr.add_lit, Addr.add_lit]
        have c0 : w.cell? ⟨b, off + i * 6 + 0, none⟩ = some (.string r.name) := hc 0 (by omega)
        exact ⟨World.block_lt_of_cell? _ _ c0, ⟨c0, hc 1 (by omega), hc 2 (by omega), hc 3 (by omega), hc 4 (by omega), hc 5 (by omega)⟩, hz⟩
      · exact ⟨zr, fun h => absurd h hi⟩
    obtain ⟨f, hf⟩ := Classical.axiomOfChoice key
    refine ⟨(List.range len).map f, ⟨by simp, fun hn => ?_⟩, by omega, fun r hr => ?_⟩
    · refine ⟨b, off, rfl, (hf 0 hn).1, fun j hj => ?_⟩
      have hj' : j < len := by simpa using hj
      have := (hf j hj').2.1
      simpa using this
    · obtain ⟨i, hi, rfl⟩ := List.mem_map.1 hr
      exact (hf i (List.mem_range.1 hi)).2.2

end
end Go.Proofs.Ytmabbeefeipnaaa.RowR

/- What a question and a message that come in read as. -/
namespace Go.Proofs.Ytmabbeefeipnaaa.RowM
open Go.Proofs.Ytmabbeefeipnaaa.Mem Go.Proofs.Ytmabbeefeipnaaa.MemR Go.Proofs.Ytmabbeefeipnaaa.MemM Go.Proofs.Ytmabbeefeipnaaa.RowR
open Go.ChangeShapes Go.WideShapes Go.ChangeAt Go.RowKit Go.Deep

section
variable {H : Type} {enc : TypeId × Value → H} {w : World} {base : Nat} {spare : Nat → Bool} {held : Bool}
theorem two_of {cs : List Value} {s0 : ByteArray} {x1 : Int} (h : cs.length = 2) (e0 : (cs.drop 0).take 1 = [.string s0]) (e1 : (cs.drop 1).take 1 = [.int .i64 x1]) : cs = [.string s0, .int .i64 x1] := by
  match cs, h with
  | [c0, c1], _ =>
    simp only [List.drop_zero, List.drop_succ_cons, List.take_succ_cons, List.take_zero, List.cons.injEq, and_true] at e0 e1
    subst e0 e1
    rfl

theorem quest_of {fuel : Nat} {cs : List Value} {x : DataW H × List MemPlace} (h : DataW.trod enc Try.prog w base spare held fuel 26 cs = some x) : ∃ (s : ByteArray) (n : Int), cs = [.string s, .int .i64 n] ∧ s.size ≤ 9223372036854775807 := by
  obtain ⟨xs, n, _, _, hc, hl, hg⟩ := DataW.trod_struct Try.underlying26 h
  have h2 : cs.length = 2 := hc.trans (by kernel_rfl)
  have hx : xs.length = 2 := hl
  have ks : Try.prog.cellsOf 9 = 1 := by kernel_rfl
  have ki : Try.prog.cellsOf 3 = 1 := by kernel_rfl
  have g : ∀ i, i < 2 → xs[i]? = some (xs[i]!) := fun i hi => by rw [getElem!_pos xs i (by omega)]; exact List.getElem?_eq_getElem (by omega)
  have f0 := (hg 0 _ rfl).trans (g 0 (by omega))
  have f1 := (hg 1 _ rfl).trans (g 1 (by omega))
  obtain ⟨s0, e0, _, z0⟩ := DataW.trod_string Try.underlying9 f0
  obtain ⟨x1, e1, _⟩ := DataW.trod_int Try.underlying3 f1
  replace e0 : (cs.drop 0).take (Try.prog.cellsOf 9) = [.string s0] := e0
  replace e1 : (cs.drop 1).take (Try.prog.cellsOf 3) = [.int .i64 x1] := e1
  rw [ks] at e0
  rw [ki] at e1
  unfold maxLen at z0
  exact ⟨s0, x1, two_of h2 e0 e1, z0⟩

set_option maxRecDepth 100000 in
/-- A question that comes in. -/
theorem quest_in {r : Reach} {b0 : Nat} {v : Value} {d : DataW H} {p : List MemPlace} (hv : Value.okWide Try.prog w r b0 26 v) (h : DataW.Trod enc Try.prog w base spare held 26 v d p) :
    ∃ (s : ByteArray) (n : Int), v = .agg #[.string s, .int .i64 n] ∧ s.size ≤ 9223372036854775807 := by
  obtain ⟨cs, rfl, _⟩ := okWide_struct Try.underlying26 hv
  obtain ⟨fuel, hf⟩ := h
  obtain ⟨s, n, hr, hz⟩ := quest_of hf
  refine ⟨s, n, ?_, hz⟩
  have e : cs.toList = [.string s, .int .i64 n] := hr
  rw [show cs = ([.string s, .int .i64 n] : List Value).toArray from by rw [← e]]

theorem twelve_of {cs : List Value} {x0 x6 x8 : Int} {b1 b2 b3 b4 b5 : Bool} {s7 : ByteArray} {v1 v2 v3 : Value} (h : cs.length = 12)
    (e0 : (cs.drop 0).take 1 = [.int .i64 x0]) (e1 : (cs.drop 1).take 1 = [.bool b1]) (e2 : (cs.drop 2).take 1 = [.bool b2]) (e3 : (cs.drop 3).take 1 = [.bool b3]) (e4 : (cs.drop 4).take 1 = [.bool b4]) (e5 : (cs.drop 5).take 1 = [.bool b5]) (e6 : (cs.drop 6).take 1 = [.int .i64 x6]) (e7 : (cs.drop 7).take 2 = [.string s7, .int .i64 x8])
    (e9 : (cs.drop 9).take 1 = [v1]) (e10 : (cs.drop 10).take 1 = [v2]) (e11 : (cs.drop 11).take 1 = [v3]) : cs = mc ⟨x0, b1, b2, b3, b4, b5, x6, s7, x8⟩ v1 v2 v3 := by
  match cs, h with
  | [c0, c1, c2, c3, c4, c5, c6, c7, c8, c9, c10, c11], _ =>
    simp only [List.drop_zero, List.drop_succ_cons, List.take_succ_cons, List.take_zero, List.cons.injEq, and_true] at e0 e1 e2 e3 e4 e5 e6 e7 e9 e10 e11
    obtain ⟨e7, e8⟩ := e7
    subst e0 e1 e2 e3 e4 e5 e6 e7 e8 e9 e10 e11
    rfl

theorem slice_cells {fuel : Nat} {cs : List Value} {x : DataW H × List MemPlace} (h : DataW.trod enc Try.prog w base spare held fuel 22 cs = some x) : ∃ a len cap, cs = [.slice a len cap] := by
  rcases open_slice Try.underlying22 h with ⟨hcs, _⟩ | ⟨x, len', cap', m, n, D, Pl, hcs, _⟩
  · exact ⟨_, _, _, hcs⟩
  · exact ⟨_, _, _, hcs⟩
end

section
variable {H : Type} {enc : TypeId × Value → H} {w : World}

theorem recs_of {fuel : Nat} {cs : List Value} {x : DataW H × List MemPlace} (h : DataW.trod enc Try.prog w 0 (fun _ => true) true fuel 22 cs = some x) : ∃ a len cap l, cs = [.slice a len cap] ∧ IsRecs w a len l := by
  obtain ⟨a, len, cap, rfl⟩ := slice_cells h
  obtain ⟨d, p⟩ := x
  obtain ⟨l, hl⟩ := recs_in (a := a) (len := len) (cap := cap) (d := d) (p := p) ⟨fuel, h⟩
  exact ⟨a, len, cap, l, rfl, hl⟩

set_option maxRecDepth 100000 in
set_option maxHeartbeats 1000000 in
theorem msg_of {fuel : Nat} {cs : List Value} {x : DataW H × List MemPlace} (h : DataW.trod enc Try.prog w 0 (fun _ => true) true fuel 43 cs = some x) :
    ∃ (hd : Hd) (a1 : Option Addr) (n1 c1 : Nat) (l1 : List Rec) (a2 : Option Addr) (n2 c2 : Nat) (l2 : List Rec) (a3 : Option Addr) (n3 c3 : Nat) (l3 : List Rec),
      cs = mc hd (.slice a1 n1 c1) (.slice a2 n2 c2) (.slice a3 n3 c3) ∧ hd.qn.size ≤ 9223372036854775807 ∧ IsRecs w a1 n1 l1 ∧ IsRecs w a2 n2 l2 ∧ IsRecs w a3 n3 l3 := by
  obtain ⟨xs, n, _, _, hc, hl, hg⟩ := DataW.trod_struct Try.underlying43 h
  have h12 : cs.length = 12 := hc.trans (by kernel_rfl)
  have hx : xs.length = 11 := hl
  have kb : Try.prog.cellsOf 4 = 1 := by kernel_rfl
  have ki : Try.prog.cellsOf 3 = 1 := by kernel_rfl
  have kq : Try.prog.cellsOf 26 = 2 := by kernel_rfl
  have kr : Try.prog.cellsOf 22 = 1 := by kernel_rfl
  have g : ∀ i, i < 11 → xs[i]? = some (xs[i]!) := fun i hi => by rw [getElem!_pos xs i (by omega)]; exact List.getElem?_eq_getElem (by omega)
  have f0 := (hg 0 _ rfl).trans (g 0 (by omega))
  have f1 := (hg 1 _ rfl).trans (g 1 (by omega))
  have f2 := (hg 2 _ rfl).trans (g 2 (by omega))
  have f3 := (hg 3 _ rfl).trans (g 3 (by omega))
  have f4 := (hg 4 _ rfl).trans (g 4 (by omega))
  have f5 := (hg 5 _ rfl).trans (g 5 (by omega))
  have f6 := (hg 6 _ rfl).trans (g 6 (by omega))
  have f7 := (hg 7 _ rfl).trans (g 7 (by omega))
  have f8 := (hg 8 _ rfl).trans (g 8 (by omega))
  have f9 := (hg 9 _ rfl).trans (g 9 (by omega))
  have f10 := (hg 10 _ rfl).trans (g 10 (by omega))
  obtain ⟨x0, e0, _⟩ := DataW.trod_int Try.underlying3 f0
  obtain ⟨x1, e1, _⟩ := DataW.trod_bool Try.underlying4 f1
  obtain ⟨x2, e2, _⟩ := DataW.trod_bool Try.underlying4 f2
  obtain ⟨x3, e3, _⟩ := DataW.trod_bool Try.underlying4 f3
  obtain ⟨x4, e4, _⟩ := DataW.trod_bool Try.underlying4 f4
  obtain ⟨x5, e5, _⟩ := DataW.trod_bool Try.underlying4 f5
  obtain ⟨x6, e6, _⟩ := DataW.trod_int Try.underlying3 f6
  obtain ⟨s7, x7, e7, z7⟩ := quest_of f7
  obtain ⟨a8, n8, c8, l8, e8, z8⟩ := recs_of f8
  obtain ⟨a9, n9, c9, l9, e9, z9⟩ := recs_of f9
  obtain ⟨a10, n10, c10, l10, e10, z10⟩ := recs_of f10
  replace e0 : (cs.drop 0).take (Try.prog.cellsOf 3) = [.int .i64 x0] := e0
  replace e1 : (cs.drop 1).take (Try.prog.cellsOf 4) = [.bool x1] := e1
  replace e2 : (cs.drop 2).take (Try.prog.cellsOf 4) = [.bool x2] := e2
  replace e3 : (cs.drop 3).take (Try.prog.cellsOf 4) = [.bool x3] := e3
  replace e4 : (cs.drop 4).take (Try.prog.cellsOf 4) = [.bool x4] := e4
  replace e5 : (cs.drop 5).take (Try.prog.cellsOf 4) = [.bool x5] := e5
  replace e6 : (cs.drop 6).take (Try.prog.cellsOf 3) = [.int .i64 x6] := e6
  replace e7 : (cs.drop 7).take (Try.prog.cellsOf 26) = [.string s7, .int .i64 x7] := e7
  replace e8 : (cs.drop 9).take (Try.prog.cellsOf 22) = [.slice a8 n8 c8] := e8
  replace e9 : (cs.drop 10).take (Try.prog.cellsOf 22) = [.slice a9 n9 c9] := e9
  replace e10 : (cs.drop 11).take (Try.prog.cellsOf 22) = [.slice a10 n10 c10] := e10
  rw [ki] at e0 e6
  rw [kb] at e1 e2 e3 e4 e5
  rw [kq] at e7
  rw [kr] at e8 e9 e10
  exact ⟨⟨x0, x1, x2, x3, x4, x5, x6, s7, x7⟩, a8, n8, c8, l8, a9, n9, c9, l9, a10, n10, c10, l10, twelve_of h12 e0 e1 e2 e3 e4 e5 e6 e7 e8 e9 e10, z7, z8, z9, z10⟩

set_option maxRecDepth 100000 in
/-- A message that comes in. -/
theorem msg_in {r : Reach} {b0 : Nat} {v : Value} {d : DataW H} {p : List MemPlace} (hv : Value.okWide Try.prog w r b0 43 v) (h : DataW.Trod enc Try.prog w 0 (fun _ => true) true 43 v d p) :
    ∃ (hd : Hd) (a1 : Option Addr) (n1 c1 : Nat) (l1 : List Rec) (a2 : Option Addr) (n2 c2 : Nat) (l2 : List Rec) (a3 : Option Addr) (n3 c3 : Nat) (l3 : List Rec),
      v = .agg #[.int .i64 hd.id, .bool hd.rp, .bool hd.au, .bool hd.ct, .bool hd.wa, .bool hd.ca, .int .i64 hd.code, .string hd.qn, .int .i64 hd.qt, .slice a1 n1 c1, .slice a2 n2 c2, .slice a3 n3 c3] ∧ hd.qn.size ≤ 9223372036854775807 ∧ IsRecs w a1 n1 l1 ∧ IsRecs w a2 n2 l2 ∧ IsRecs w a3 n3 l3 := by
  obtain ⟨cs, rfl, _⟩ := okWide_struct Try.underlying43 hv
  obtain ⟨fuel, hf⟩ := h
  obtain ⟨hd, a1, n1, c1, l1, a2, n2, c2, l2, a3, n3, c3, l3, hr, hz⟩ := msg_of hf
  refine ⟨hd, a1, n1, c1, l1, a2, n2, c2, l2, a3, n3, c3, l3, ?_, hz⟩
  have e : cs.toList = mc hd (.slice a1 n1 c1) (.slice a2 n2 c2) (.slice a3 n3 c3) := hr
  rw [show cs = (mc hd (.slice a1 n1 c1) (.slice a2 n2 c2) (.slice a3 n3 c3)).toArray from by rw [← e]]
  rfl

end
end Go.Proofs.Ytmabbeefeipnaaa.RowM

/- What a zone that comes in reads as. -/
namespace Go.Proofs.Ytmabbeefeipnaaa.RowZ
open Go.Proofs.Ytmabbeefeipnaaa.Mem Go.Proofs.Ytmabbeefeipnaaa.MemR Go.Proofs.Ytmabbeefeipnaaa.RowR
open Go.ChangeShapes Go.WideShapes Go.ChangeAt Go.RowKit Go.Deep

section
variable {H : Type} {enc : TypeId × Value → H} {w : World} {base : Nat} {spare : Nat → Bool} {held : Bool}
theorem zone_cells {cs : List Value} {s0 : ByteArray} {v1 : Value} (h : cs.length = 2) (e0 : (cs.drop 0).take 1 = [.string s0]) (e1 : (cs.drop 1).take 1 = [v1]) : cs = [.string s0, v1] := by
  match cs, h with
  | [c0, c1], _ =>
    simp only [List.drop_zero, List.drop_succ_cons, List.take_succ_cons, List.take_zero, List.cons.injEq, and_true] at e0 e1
    subst e0 e1
    rfl

theorem slice_cells {fuel : Nat} {cs : List Value} {x : DataW H × List MemPlace} (h : DataW.trod enc Try.prog w base spare held fuel 22 cs = some x) : ∃ a len cap, cs = [.slice a len cap] := by
  rcases open_slice Try.underlying22 h with ⟨hcs, _⟩ | ⟨x, len', cap', m, n, D, Pl, hcs, _⟩
  · exact ⟨_, _, _, hcs⟩
  · exact ⟨_, _, _, hcs⟩
end

section
variable {H : Type} {enc : TypeId × Value → H} {w : World}

theorem recs_of {fuel : Nat} {cs : List Value} {x : DataW H × List MemPlace} (h : DataW.trod enc Try.prog w 0 (fun _ => true) true fuel 22 cs = some x) : ∃ a len cap l, cs = [.slice a len cap] ∧ IsRecs w a len l := by
  obtain ⟨a, len, cap, rfl⟩ := slice_cells h
  obtain ⟨d, p⟩ := x
  obtain ⟨l, hl⟩ := recs_in (a := a) (len := len) (cap := cap) (d := d) (p := p) ⟨fuel, h⟩
  exact ⟨a, len, cap, l, rfl, hl⟩

theorem zone_of {fuel : Nat} {cs : List Value} {x : DataW H × List MemPlace} (h : DataW.trod enc Try.prog w 0 (fun _ => true) true fuel 24 cs = some x) :
    ∃ (s : ByteArray) (a : Option Addr) (n c : Nat) (l : List Rec), cs = [.string s, .slice a n c] ∧ s.size ≤ 9223372036854775807 ∧ IsRecs w a n l := by
  obtain ⟨xs, n, _, _, hc, hl, hg⟩ := DataW.trod_struct Try.underlying24 h
  have h2 : cs.length = 2 := hc.trans (by kernel_rfl)
  have hx : xs.length = 2 := hl
  have ks : Try.prog.cellsOf 9 = 1 := by kernel_rfl
  have kr : Try.prog.cellsOf 22 = 1 := by kernel_rfl
  have g : ∀ i, i < 2 → xs[i]? = some (xs[i]!) := fun i hi => by rw [getElem!_pos xs i (by omega)]; exact List.getElem?_eq_getElem (by omega)
  have f0 := (hg 0 _ rfl).trans (g 0 (by omega))
  have f1 := (hg 1 _ rfl).trans (g 1 (by omega))
  obtain ⟨s0, e0, _, z0⟩ := DataW.trod_string Try.underlying9 f0
  obtain ⟨a1, n1, c1, l1, e1, z1⟩ := recs_of f1
  replace e0 : (cs.drop 0).take (Try.prog.cellsOf 9) = [.string s0] := e0
  replace e1 : (cs.drop 1).take (Try.prog.cellsOf 22) = [.slice a1 n1 c1] := e1
  rw [ks] at e0
  rw [kr] at e1
  unfold maxLen at z0
  exact ⟨s0, a1, n1, c1, l1, zone_cells h2 e0 e1, z0, z1⟩

set_option maxRecDepth 100000 in
/-- A zone that comes in. -/
theorem zone_in {r : Reach} {b0 : Nat} {v : Value} {d : DataW H} {p : List MemPlace} (hv : Value.okWide Try.prog w r b0 24 v) (h : DataW.Trod enc Try.prog w 0 (fun _ => true) true 24 v d p) :
    ∃ (s : ByteArray) (a : Option Addr) (n c : Nat) (l : List Rec), v = .agg #[.string s, .slice a n c] ∧ s.size ≤ 9223372036854775807 ∧ IsRecs w a n l := by
  obtain ⟨cs, rfl, _⟩ := okWide_struct Try.underlying24 hv
  obtain ⟨fuel, hf⟩ := h
  obtain ⟨s, a, n, c, l, hr, hz⟩ := zone_of hf
  refine ⟨s, a, n, c, l, ?_, hz⟩
  have e : cs.toList = [.string s, .slice a n c] := hr
  rw [show cs = ([.string s, .slice a n c] : List Value).toArray from by rw [← e]]

end
end Go.Proofs.Ytmabbeefeipnaaa.RowZ

/- The law FnExactMoreIn returns true at every zone and every question, and turns nothing that was there. No condition. -/
namespace Go.Proofs.Ytmabbeefeipnaaa.exactMoreInPlain
open Go.ChangeShapes Go.WideShapes Go.ChangeAt Go.RowKit Go.Proofs.Ytmabbeefeipnaaa.Mem Go.Proofs.Ytmabbeefeipnaaa.RowM Go.Proofs.Ytmabbeefeipnaaa.RowZ

theorem own : ownKnob Try.prog.godebug = none := by kernel_rfl
theorem laidOut : laidOutB Try.prog = true := by kernel_rfl

set_option maxRecDepth 100000 in
set_option linter.unusedVariables false in
theorem contract (H : Type) (enc : TypeId × Value → H) (W : World) (base : Nat) (args : Array Value) (ds gs : List (DataW H)) (before : List MemPlace)
    (hval0 : ∀ (j : Nat) t v, Try.f5.params[j]? = some t → args[j]? = some v → Value.okWide Try.prog W .any base t v)
    (hW : DataW.Whole enc Try.prog Try.f5.params.toList Rows.fnExactMoreInSpec.vars false W args.toList ds gs before)  :
    Calls Try.prog 5 args W fun e W' => ∃ v, e = .returned v ∧ Rows.fnExactMoreInSpec.post enc Try.prog Try.f5 false true false false W args v W' := by
  have hval : ∀ (j : Nat) t v, Try.f5.params[j]? = some t → args[j]? = some v → Value.okWide Try.prog W .any base t v := hval0
  have hW' := hW
  obtain ⟨p, q, hA0, hV, rfl, _, _⟩ := hW
  have hA : DataW.TrodAll enc Try.prog W 0 (fun _ => true) true Try.f5.params.toList args.toList ds p := hA0
  rw [Try.params5] at hA hval
  obtain ⟨v0, vs0, d0, ds0, p0, q0, _, rfl, rfl, h0, r0⟩ := trodAll_cons hA
  obtain ⟨v1, vs1, d1, ds1, p1, q1, _, rfl, rfl, h1, r1⟩ := trodAll_cons r0
  obtain ⟨rfl, rfl, rfl⟩ := trodAll_nil r1
  obtain rfl : args = #[v0, v1] := by cases args; simp_all
  obtain ⟨rfl, rfl⟩ := trodVars_none hV
  have k0 := h0
  have lt0 : ∀ x ∈ p0, x.block < W.heap.size := by obtain ⟨m, hm⟩ := k0; exact DataW.trod_lt m _ _ _ hm
  obtain ⟨x0, a0, len0, cap0, l0, rfl, z0, i0⟩ := zone_in (hval 0 24 v0 rfl rfl) h0
  have k1 := h1
  have lt1 : ∀ x ∈ p1, x.block < W.heap.size := by obtain ⟨m, hm⟩ := k1; exact DataW.trod_lt m _ _ _ hm
  obtain ⟨x1, y1, rfl, z1⟩ := quest_in (hval 1 26 v1 rfl rfl) h1
  clear hA0 hval0
  refine (LawMoreIn.walk x0 a0 len0 cap0 l0 x1 y1 W  z0 i0.1 i0.2.1 i0.2.2 z1).mono fun e W' ⟨he, bel⟩ => ?_
  subst he
  exact ⟨_, rfl, _, _, _, [], _, [], hW', trodAll_mk1 (shut_bool Try.underlying4 _), (trodAll_cons_mk (Below.trod laidOut (by kernel_rfl) (of_decide_eq_true (by kernel_rfl)) k0 bel lt0) (trodAll_cons_mk (Below.trod laidOut (by kernel_rfl) (of_decide_eq_true (by kernel_rfl)) k1 bel lt1) trodAll_mk0)), rfl, bel.frame _, fun h => by cases h⟩

set_option maxRecDepth 100000 in
theorem lifted (os : Os) (started : os.Started) (H : Type) (enc : TypeId × Value → H) :
    ReturnsInHanded {} Try.checked os 5 .any (Rows.fnExactMoreInSpec.pre6 enc Try.prog Try.f5 Rows.fnExactMoreInRow.domain false) (Rows.fnExactMoreInSpec.post enc Try.prog Try.f5 false true false false) := by
  refine returnsInHanded_of_change (C := Try.checked) own started (by kernel_rfl) Try.func5
    (ChangeSpec.witness6 (enc := enc) (C := Try.checked) false ⟨#[], #[.agg #[.string ⟨#[]⟩, .slice none 0 0], .agg #[.string ⟨#[]⟩, .int .i64 0]], []⟩ 8 (by kernel_rfl) (by kernel_rfl) (by kernel_rfl) (by kernel_rfl)) ?_
  intro W base args ds gs before hval0 hW _ _
  exact contract H enc W base args ds gs before hval0 hW

theorem over : Rows.fnExactMoreInRow.holds Try.pinned (OpenSpec.ofChange Rows.fnExactMoreInSpec) :=
  OpenClaim.holds_of_wide 5 Try.f5 rfl rfl rfl rfl rfl rfl rfl ⟨rfl, rfl, rfl, rfl, rfl⟩ rfl rfl rfl rfl rfl (by kernel_rfl) Try.func5 (by kernel_rfl)
    (of_decide_eq_true (by kernel_rfl)) (by unfold Func.isWrapper; first | (rw [if_pos (by decide +kernel)]; kernel_rfl) | (rw [if_neg (by decide +kernel)]; exact ⟨rfl, rfl⟩))
    (fun os started H enc _ => lifted os started H enc)

theorem proved : Rows.FnExactMoreInSaid := over
end Go.Proofs.Ytmabbeefeipnaaa.exactMoreInPlain
namespace Go.Proofs.Ytmabbeefeipnaaa
theorem fnExactMoreIn_holds : Rows.FnExactMoreInSaid := exactMoreInPlain.proved
end Go.Proofs.Ytmabbeefeipnaaa
