/- What sort.pdqsort_func does: it sorts a range. Conditions: a strict weak order; what breakPatterns_func and reverseRange_func do (the library's proved contracts give it). -/
import Derived.Test.YtmkcjjgicinggaaGreatDoorGsIns
import Derived.Test.YtmkcjjgicinggaaGreatDoorGsHeap
import Derived.Test.YtmkcjjgicinggaaGreatDoorGsPart
import Derived.Test.YtmkcjjgicinggaaGreatDoorGsPeq
import Derived.Test.YtmkcjjgicinggaaGreatDoorGsPins
import Derived.Test.YtmkcjjgicinggaaGreatDoorGsPiv
import Derived.Test.YtmkcjjgicinggaaGreatDoorGsRnd
namespace Go.Proofs.YtmkcjjgicinggaaGreatDoor.GsPdq
open Go.RowKit Go.Sort Go.Lib Go.Proofs.YtmkcjjgicinggaaGreatDoor.Mem Go.Proofs.YtmkcjjgicinggaaGreatDoor.GsDef Go.Proofs.YtmkcjjgicinggaaGreatDoor.GsIns Go.Proofs.YtmkcjjgicinggaaGreatDoor.GsHeap Go.Proofs.YtmkcjjgicinggaaGreatDoor.GsPart Go.Proofs.YtmkcjjgicinggaaGreatDoor.GsPeq Go.Proofs.YtmkcjjgicinggaaGreatDoor.GsPins Go.Proofs.YtmkcjjgicinggaaGreatDoor.GsPiv Go.Proofs.YtmkcjjgicinggaaGreatDoor.GsRnd

section
variable {α : Type} [Inhabited α] {g : Nat} {lb : Array Value} {sf : Nat} {sb : Array Value} {enc : α → Value} {lt : α → α → Bool} {blk off size : Nat} {w0 : World}

theorem hint_two {h : Hint} (e : hintCode h = 2) : h = .decreasing := by cases h <;> simp [hintCode] at e ⊢

theorem eighth {x y p q : Nat} (h1 : q ≤ p) (h2 : y ≤ x) : decide (((x : Int) - (y : Int)) / 8 ≤ (p : Int) - (q : Int)) = decide (p - q ≥ (x - y) / 8) :=
  decide_eq_decide.2 ⟨fun h => by omega, fun h => by omega⟩

/-- What the two callees that ask nothing of the comparison do. -/
def Two (g : Nat) (lb : Array Value) (sf : Nat) (sb : Array Value) (enc : α → Value) (blk off size : Nat) (w0 : World) : Prop :=
  ∀ (a b : Nat) (d : Array α) (W : World), St enc w0 blk off d W → d.size = size → a ≤ b → b ≤ size →
    Calls Tryz.prog 203 #[.agg #[.func (.func g) #[] lb, .func (.func sf) #[] sb], .int .i64 a, .int .i64 b] W (Did enc w0 blk off (breakPatterns d a b) W) ∧
    Calls Tryz.prog 205 #[.agg #[.func (.func g) #[] lb, .func (.func sf) #[] sb], .int .i64 a, .int .i64 b] W (Did enc w0 blk off (reverseRange d a b) W)

set_option maxHeartbeats 32000000 in
set_option maxRecDepth 1000000 in
theorem pdq (E : En Tryz.prog g lb sf sb enc lt blk off size w0) (hO : SWO lt) (TWO : Two g lb sf sb enc blk off size w0) :
    ∀ (N a b limit : Nat) (d : Array α) (w : World), b - a < N → St enc w0 blk off d w → d.size = size → a ≤ b → b ≤ size → limit < 4611686018427387904 → Sort.Below lt a b d →
    Calls Tryz.prog 157 #[.agg #[.func (.func g) #[] lb, .func (.func sf) #[] sb], .int .i64 a, .int .i64 b, .int .i64 limit] w (Did enc w0 blk off (Sort.pdq lt d a b limit true true) w) := by
  intro N
  induction N with
  | zero => intro a b limit d w h; omega
  | succ N ih =>
    intro a b limit d w hN S hs hab hb hlim hBel
    have IH := Lib.hid ih
    clear ih
    have small := E.small
    have eg := E.eg
    have HS := Lib.hid (S.alloc (.cells #[.func (.func g) #[] lb, .func (.func sf) #[] sb] 185))
    have HT := Lib.hid (tw_new w 185 (.func (.func g) #[] lb) (.func (.func sf) #[] sb))
    have HG := Lib.hid (World.grownBy_alloc w (.cells #[.func (.func g) #[] lb, .func (.func sf) #[] sb] 185) (some blk))
    have NB : Hid (some w.heap.size ≠ some blk) := fun e => by have := S.lt; cases e; omega
    have HZ := Lib.hid hs
    have HB0 := Lib.hid hBel
    clear S hs hBel
    go_enter Tryz.func157, Tryz.ntmps157
    go_wp2
    generalize w.alloc (.cells #[.func (.func g) #[] lb, .func (.func sf) #[] sb] 185) = w1 at *
    go_loopw [1, 2, 3, 8, 9] (fun v1 v2 v3 v8 v9 wr => ∃ (a' b' lim : Nat) (wb wp : Bool) (dk : Array α), v1 = .int .i64 a' ∧ v2 = .int .i64 b' ∧ v3 = .int .i64 lim ∧ v8 = .bool wb ∧ v9 = .bool wp ∧ a' ≤ b' ∧ b' ≤ size ∧ b' - a' ≤ b - a ∧ lim ≤ limit ∧ Hid (dk.size = size) ∧ Hid (Sort.Below lt a' b' dk) ∧
      Hid (St enc w0 blk off dk wr) ∧ Hid (Tw wr w.heap.size (.func (.func g) #[] lb) (.func (.func sf) #[] sb)) ∧ Hid (w.grownBy wr (some blk)) ∧ Hid (Sort.pdq lt dk a' b' lim wb wp = Sort.pdq lt d a b limit true true)) (fun v1 v2 _ _ _ _ => (intOf v2 - intOf v1).toNat)
    case atStart => exact ⟨a, b, limit, true, true, d, rfl, rfl, rfl, rfl, rfl, hab, hb, Nat.le_refl _, Nat.le_refl _, HZ.out, HB0.out, HS.out, HT.out, HG.out, rfl⟩
    case round =>
      clear HS HT HG HZ HB0
      obtain ⟨a', b', lim, wb, wp, dk, rfl, rfl, rfl, rfl, rfl, hab', hb', hba, hll, HZ, HB, HS, HT, HG, HO⟩ := hrel
      by_cases h12 : b' - a' ≤ 12
      · have h12z : (b' : Int) - (a' : Int) ≤ 12 := by omega
        have C := Lib.hid (ins E a' b' dk wr HS.out HZ.out hab' hb')
        have HF : Hid (Sort.pdq lt d a b limit true true = Sort.insertionSort lt dk a' b') := show _ = _ by rw [← HO.out, pdq_small h12]
        obtain ⟨c0, c1⟩ := HT.out
        go_wp2_with fail
        refine C.out.mono ?_
        rintro e w2 ⟨rfl, hS, hG⟩
        have HS2 := Lib.hid hS
        have HG2 := Lib.hid (gr_trans HG.out hG)
        clear hS hG HS HG HT C c0 c1
        go_wp2
        go_end0
        exact ⟨rfl, by rw [HF.out]; exact HS2.out, HG2.out⟩
      · have h12z : ¬ (b' : Int) - (a' : Int) ≤ 12 := by omega
        by_cases hl0 : lim = 0
        · subst hl0
          have C := Lib.hid (heap E a' b' dk wr HS.out HZ.out hab' hb')
          have HF : Hid (Sort.pdq lt d a b limit true true = heapSort lt dk a' b') := show _ = _ by rw [← HO.out, pdq_heap h12 rfl]
          obtain ⟨c0, c1⟩ := HT.out
          go_wp2_with fail
          refine C.out.mono ?_
          rintro e w2 ⟨rfl, hS, hG⟩
          have HS2 := Lib.hid hS
          have HG2 := Lib.hid (gr_trans HG.out hG)
          clear hS hG HS HG HT C c0 c1
          go_wp2
          go_end0
          exact ⟨rfl, by rw [HF.out]; exact HS2.out, HG2.out⟩
        · have hl0z : ¬ (lim : Int) = 0 := by omega
          have hl0b : ((lim : Int) == 0) = false := by simpa using hl0z
          clear hl0z
          obtain ⟨d1, lm, c1', c2', d2, pv, ht, p1, p2, F1, F2, F3, F4, F5, F6, F7, ⟨z1, ⟨zc1, zc2⟩, z2, ⟨zp1, zp2⟩, z3⟩, hlm, F8, F9, F10⟩ := rnd (lt := lt) hO dk a' b' lim wb wp (by omega) (by rw [HZ.out]; exact hb') HB.out h12 hl0
          have G1 := Lib.hid F1
          have G2 := Lib.hid F2
          have G3 := Lib.hid F3
          have G4 := Lib.hid F4
          have G5 := Lib.hid F5
          have G6 := Lib.hid F6
          have G7 := Lib.hid F7
          have G8 := Lib.hid F8
          have G9 := Lib.hid F9
          have G10 := Lib.hid F10
          have Z1 : Hid (d1.size = size) := z1.trans HZ.out
          have Z2 : Hid (d2.size = size) := z2.trans HZ.out
          have Z3 : Hid (p1.size = size) := z3.trans HZ.out
          clear F1 F2 F3 F4 F5 F6 F7 F8 F9 F10 z1 z2 z3
          go_upto_if 35 with (fail)
          go_cut [3] (fun s3 wx => s3 = .int .i64 lm ∧ Hid (St enc w0 blk off d1 wx) ∧ Hid (Tw wx w.heap.size (.func (.func g) #[] lb) (.func (.func sf) #[] sb)) ∧ Hid (w.grownBy wx (some blk)))
          case first =>
            cases wb
            · obtain ⟨e1, e2⟩ := G2.out rfl
              have E1 := Lib.hid e1
              have C := Lib.hid (TWO a' b' dk wr HS.out HZ.out hab' hb').1
              have e3 : ((lim : Int) - 1) = (lm : Int) := by omega
              clear e1 e2
              obtain ⟨c0, c1⟩ := HT.out
              go_wp2_with fail
              refine C.out.mono ?_
              rintro e w2 ⟨rfl, hS, hG⟩
              have HS2 := Lib.hid hS
              have HT2 := Lib.hid (HT.out.grown hG NB.out)
              have HG2 := Lib.hid (gr_trans HG.out hG)
              clear hS hG HS HG HT C c0 c1
              go_wp2_with fail
              go_meet
              case rel => exact ⟨by first | rfl | rw [e3], by rw [E1.out]; exact HS2.out, HT2.out, HG2.out⟩
            · obtain ⟨e1, e2⟩ := G1.out rfl
              have E1 := Lib.hid e1
              have E2 := Lib.hid e2
              clear e1 e2
              go_wp2_with fail
              go_meet
              case rel => exact ⟨by rw [E2.out], by rw [E1.out]; exact HS.out, HT.out, HG.out⟩
          case rest =>
            clear HS HT HG
            obtain ⟨rfl, HS, HT, HG⟩ := hcut
            have C := Lib.hid (pivot E a' b' d1 wc HS.out Z1.out (by omega) hb')
            rw [G3.out] at C
            obtain ⟨c0, c1⟩ := HT.out
            go_upto_if 50 with (fail)
            refine C.out.mono ?_
            rintro e w2 ⟨rfl, hS, hl⟩
            replace HS := Lib.hid hS
            replace HT := Lib.hid (HT.out.below hl)
            replace HG := Lib.hid (gr_trans HG.out (gr_below hl _))
            clear hS hl C c0 c1
            go_upto_if 50 with (fail)
            go_cut [11, 12] (fun s11 s12 wx => s11 = .int .i64 pv ∧ s12 = .int .i64 (hintCode ht) ∧ Hid (St enc w0 blk off d2 wx) ∧ Hid (Tw wx w.heap.size (.func (.func g) #[] lb) (.func (.func sf) #[] sb)) ∧ Hid (w.grownBy wx (some blk)))
            case first =>
              by_cases hh : c2' = .decreasing
              · obtain ⟨e2, epv, eht⟩ := G4.out hh
                have E2 := Lib.hid e2
                have epz : (b' : Int) - 1 - ((c1' : Int) - (a' : Int)) = (pv : Int) := by omega
                have EH := Lib.hid eht
                subst hh
                clear e2 epv eht
                have hcode : (hintCode .decreasing == 2) = true := rfl
                have hcode2 : hintCode .decreasing = 2 := rfl
                have C := Lib.hid (TWO a' b' d1 w2 HS.out Z1.out hab' hb').2
                obtain ⟨c0, c1⟩ := HT.out
                go_wp2_with fail
                refine C.out.mono ?_
                rintro e w3 ⟨rfl, hS, hG⟩
                have HS2 := Lib.hid hS
                have HT2 := Lib.hid (HT.out.grown hG NB.out)
                have HG2 := Lib.hid (gr_trans HG.out hG)
                clear hS hG HS HG HT C c0 c1
                go_wp2_with fail
                go_meet
                case rel => exact ⟨by first | rfl | rw [epz], by rw [EH.out]; rfl, by rw [E2.out]; exact HS2.out, HT2.out, HG2.out⟩
              · obtain ⟨e2, epv, eht⟩ := G5.out hh
                have E2 := Lib.hid e2
                have EP := Lib.hid epv
                have EH := Lib.hid eht
                have hc2 : ¬ hintCode c2' = 2 := fun h => hh (hint_two h)
                have hcode : (hintCode c2' == 2) = false := by simpa using hc2
                clear e2 epv eht hc2
                go_wp2_with fail
                go_meet
                case rel => exact ⟨by rw [EP.out], by rw [EH.out], by rw [E2.out]; exact HS.out, HT.out, HG.out⟩
            case rest =>
              clear HS HT HG
              obtain ⟨rfl, rfl, HS, HT, HG⟩ := hcut
              go_upto_region 16 with (fail)
              go_cut [12, 68] (fun s12 s68 wx => s12 = .int .i64 (hintCode ht) ∧ s68 = .bool (wb && wp && decide (ht = .increasing)) ∧ wx = wc)
              case first =>
                cases wb <;> cases wp <;> cases ht <;>
                  (go_wp2_with fail
                   go_meet
                   exact ⟨rfl, rfl, rfl⟩)
              case rest =>
                obtain ⟨rfl, rfl, rfl⟩ := hcut
                go_upto_if 68 with (fail)
                go_cut [] (fun wx => Hid (p2 = false) ∧ Hid (St enc w0 blk off p1 wx) ∧ Hid (Tw wx w.heap.size (.func (.func g) #[] lb) (.func (.func sf) #[] sb)) ∧ Hid (w.grownBy wx (some blk)))
                case first =>
                  cases h68 : (wb && wp && decide (ht = .increasing))
                  · obtain ⟨e1, e2⟩ := G7.out h68
                    have E1 := Lib.hid e1
                    have E2 := Lib.hid e2
                    clear e1 e2
                    go_wp2_with fail
                    go_meet
                    case rel => exact ⟨E2.out, by rw [E1.out]; exact HS.out, HT.out, HG.out⟩
                  · have C := Lib.hid (pins E a' b' d2 wc HS.out Z2.out (by omega) hb')
                    rw [G6.out h68] at C
                    obtain ⟨c0, c1⟩ := HT.out
                    cases p2 with
                    | true =>
                      have HF : Hid (Sort.pdq lt d a b limit true true = p1) := show _ = _ by rw [← HO.out, G8.out rfl]
                      go_wp2_with fail
                      refine C.out.mono ?_
                      rintro e w3 ⟨rfl, hS, hG⟩
                      have HS2 := Lib.hid hS
                      have HG2 := Lib.hid (gr_trans HG.out hG)
                      clear hS hG HS HG HT C c0 c1
                      go_wp2_with fail
                      (try simp only [Exit.inBlock, Exit.then])
                      refine bodyPost_ret (results_none rfl _ _ _) rfl ?_
                      exact ⟨rfl, by rw [HF.out]; exact HS2.out, HG2.out⟩
                    | false =>
                      go_wp2_with fail
                      refine C.out.mono ?_
                      rintro e w3 ⟨rfl, hS, hG⟩
                      have HS2 := Lib.hid hS
                      have HT2 := Lib.hid (HT.out.grown hG NB.out)
                      have HG2 := Lib.hid (gr_trans HG.out hG)
                      clear hS hG HS HG HT C c0 c1
                      go_wp2_with fail
                      go_meet
                      case rel => exact ⟨(by first | exact True.intro | exact rfl), HS2.out, HT2.out, HG2.out⟩
                case rest =>
                  clear HS HT HG
                  obtain ⟨HP2, HS, HT, HG⟩ := hcut
                  go_upto_region 18 with (fail)
                  go_cut [83] (fun s83 wx => s83 = .bool (decide (a' > 0) && !lt p1[a' - 1]! p1[pv]!) ∧ Hid (St enc w0 blk off p1 wx) ∧ Hid (Tw wx w.heap.size (.func (.func g) #[] lb) (.func (.func sf) #[] sb)) ∧ Hid (w.grownBy wx (some blk)))
                  case first =>
                    by_cases ha0 : a' > 0
                    · have ha0z : (a' : Int) > 0 := by omega
                      have L := Lib.hid (E.less _ p1 HS.out Z3.out (a' - 1) pv (by omega) (by omega))
                      rw [show ((a' - 1 : Nat) : Int) = (a' : Int) - 1 by omega] at L
                      have c0 := HT.out.1
                      go_wp2_with fail
                      go_at_fn g
                      refine L.out.mono ?_
                      rintro e w3 ⟨rfl, hl⟩
                      replace HS := Lib.hid (HS.out.below hl)
                      replace HT := Lib.hid (HT.out.below hl)
                      replace HG := Lib.hid (gr_trans HG.out (gr_below hl _))
                      clear c0 hl L
                      go_wp2_with fail
                      go_meet
                      case rel => exact ⟨by rw [decide_eq_true ha0, Bool.true_and], HS.out, HT.out, HG.out⟩
                    · have ha0z : ¬ (a' : Int) > 0 := by omega
                      go_wp2_with fail
                      go_meet
                      case rel => exact ⟨by rw [decide_eq_false ha0, Bool.false_and], HS.out, HT.out, HG.out⟩
                  case rest =>
                    clear HS HT HG
                    obtain ⟨rfl, HS, HT, HG⟩ := hcut
                    cases h87 : (decide (a' > 0) && !lt p1[a' - 1]! p1[pv]!) with
                    | true =>
                      obtain ⟨mid, d4, hx⟩ : ∃ mid d4, partitionEqual lt p1 a' b' pv = (mid, d4) := ⟨_, _, rfl⟩
                      obtain ⟨r1, r2, r3, r4, r5⟩ := G9.out HP2.out h87 mid d4 hx
                      have C := Lib.hid (parteq E a' b' pv p1 wc HS.out Z3.out zp1 zp2 hb')
                      rw [hx] at C
                      have HN : Hid (Sort.pdq lt d4 mid b' lm wb wp = Sort.pdq lt d a b limit true true) := show _ = _ by rw [← HO.out, r5]
                      have HBN := Lib.hid r4
                      have HZN : Hid (d4.size = size) := r3.trans Z3.out
                      clear hx r3 r4 r5
                      obtain ⟨c0, c1⟩ := HT.out
                      go_wp2_with fail
                      refine C.out.mono ?_
                      rintro e w3 ⟨rfl, hS, hG⟩
                      have HS2 := Lib.hid hS
                      have HT2 := Lib.hid (HT.out.grown hG NB.out)
                      have HG2 := Lib.hid (gr_trans HG.out hG)
                      clear hS hG HS HG HT C c0 c1
                      go_wp2
                      go_roundw
                      case rel => exact ⟨mid, b', lm, wb, wp, d4, rfl, rfl, rfl, rfl, rfl, r2, hb', by omega, by omega, HZN.out, HBN.out, HS2.out, HT2.out, HG2.out, HN.out⟩
                      case measure => (simp [intOf] <;> omega)
                    | false =>
                      obtain ⟨mid, ap, d4, hx⟩ : ∃ mid ap d4, partition lt p1 a' b' pv = (mid, ap, d4) := ⟨_, _, _, rfl⟩
                      obtain ⟨r1, r2, r3, r4, r5⟩ := G10.out HP2.out h87 mid ap d4 hx
                      have C := Lib.hid (GsPart.part E a' b' pv p1 wc HS.out Z3.out zp1 zp2 hb')
                      rw [hx] at C
                      have R4 := Lib.hid r4
                      have R5 := Lib.hid r5
                      have HZN : Hid (d4.size = size) := r3.trans Z3.out
                      clear hx r3 r4 r5
                      obtain ⟨c0, c1⟩ := HT.out
                      go_wp2_with fail
                      refine C.out.mono ?_
                      rintro e w3 ⟨rfl, hS, hG⟩
                      have HS2 := Lib.hid hS
                      have HT2 := Lib.hid (HT.out.grown hG NB.out)
                      have HG2 := Lib.hid (gr_trans HG.out hG)
                      clear hS hG HS HG HT C c0 c1
                      by_cases h4 : mid - a' < b' - mid
                      · have h4z : (mid : Int) - (a' : Int) < (b' : Int) - (mid : Int) := by omega
                        obtain ⟨q1, q2, q3, q4⟩ := R4.out h4
                        have HN : Hid (Sort.pdq lt (Sort.pdq lt d4 a' mid lm true true) (mid + 1) b' lm (decide (mid - a' ≥ (b' - a') / 8)) ap = Sort.pdq lt d a b limit true true) := show _ = _ by rw [← HO.out, q4]
                        have HBN := Lib.hid q3
                        have HZM : Hid ((Sort.pdq lt d4 a' mid lm true true).size = size) := q2.trans HZN.out
                        have C := Lib.hid (IH.out a' mid lm d4 w3 (by omega) HS2.out HZN.out r1 (by omega) (by omega) q1)
                        clear q1 q2 q3 q4 R4 R5
                        generalize Sort.pdq lt d4 a' mid lm true true = d5 at *
                        obtain ⟨c0, c1⟩ := HT2.out
                        go_wp2_with fail
                        refine C.out.mono ?_
                        rintro e w4 ⟨rfl, hS, hG⟩
                        have HS3 := Lib.hid hS
                        have HT3 := Lib.hid (HT2.out.grown hG NB.out)
                        have HG3 := Lib.hid (gr_trans HG2.out hG)
                        clear hS hG HS2 HG2 HT2 C c0 c1
                        go_wp2
                        go_roundw
                        case rel => exact ⟨mid + 1, b', lm, decide (mid - a' ≥ (b' - a') / 8), ap, d5, by go_num, rfl, rfl, congrArg Value.bool (eighth (by omega) (by omega)), rfl, by omega, by omega, by omega, by omega, HZM.out, HBN.out, HS3.out, HT3.out, HG3.out, HN.out⟩
                        case measure => (simp [intOf] <;> omega)
                      · have h4z : ¬ (mid : Int) - (a' : Int) < (b' : Int) - (mid : Int) := by omega
                        obtain ⟨q1, q2, q3, q4⟩ := R5.out h4
                        have HN : Hid (Sort.pdq lt (Sort.pdq lt d4 (mid + 1) b' lm true true) a' mid lm (decide (b' - mid ≥ (b' - a') / 8)) ap = Sort.pdq lt d a b limit true true) := show _ = _ by rw [← HO.out, q4]
                        have HBN := Lib.hid q3
                        have HZM : Hid ((Sort.pdq lt d4 (mid + 1) b' lm true true).size = size) := q2.trans HZN.out
                        have C := Lib.hid (IH.out (mid + 1) b' lm d4 w3 (by omega) HS2.out HZN.out (by omega) (by omega) (by omega) q1)
                        rw [show ((mid + 1 : Nat) : Int) = (mid : Int) + 1 by omega] at C
                        clear q1 q2 q3 q4 R4 R5
                        generalize Sort.pdq lt d4 (mid + 1) b' lm true true = d5 at *
                        obtain ⟨c0, c1⟩ := HT2.out
                        go_wp2_with fail
                        refine C.out.mono ?_
                        rintro e w4 ⟨rfl, hS, hG⟩
                        have HS3 := Lib.hid hS
                        have HT3 := Lib.hid (HT2.out.grown hG NB.out)
                        have HG3 := Lib.hid (gr_trans HG2.out hG)
                        clear hS hG HS2 HG2 HT2 C c0 c1
                        go_wp2
                        go_roundw
                        case rel => exact ⟨a', mid, lm, decide (b' - mid ≥ (b' - a') / 8), ap, d5, rfl, rfl, rfl, congrArg Value.bool (eighth (by omega) (by omega)), rfl, by omega, by omega, by omega, by omega, HZM.out, HBN.out, HS3.out, HT3.out, HG3.out, HN.out⟩
                        case measure => (simp [intOf] <;> omega)
end
end Go.Proofs.YtmkcjjgicinggaaGreatDoor.GsPdq
