/- The card of the law FnDataSame: it returns true at every slice of bytes: SameData asks for no order and no time to live; Hosts and Addrs answer as their models. -/
import Derived.Test.YtaahaepgabcebaaDoorDataSameP3
import Derived.Test.YtaahaepgabcebaaDoorDataSameP1
import Derived.Test.YtaahaepgabcebaaDoorDataSameP2
import Derived.Test.YtaahaepgabcebaaDoorSortP
import Derived.Test.YtaahaepgabcebaaDoorWt
import Derived.Test.YtaahaepgabcebaaDoorLabels
import Derived.LaidLaws
import Derived.Test.YtaahaepgabcebaaDoorCards
import Derived.Test.YtaahaepgabcebaaDoorTie
import Derived.ProofKit
import Derived.OpenShut
import Derived.ShutString
import Derived.ChangeOld
import Derived.Below
import Derived.Deep.DeepHandedRow
/- What the laws' own comparison of two slices of bytes does. Condition: fewer than 400000001 bytes. -/
namespace Go.Proofs.YtaahaepgabcebaaDoor.Same
open Go.RowKit Go.Proofs.YtaahaepgabcebaaDoor.Mem Go.Proofs.YtaahaepgabcebaaDoor.Eq

theorem big_no (A : Option Addr) (n c : Nat) (w : World) (h : n ≤ 1048576) : Calls Tryd.prog 4 #[.slice A n c] w fun e w' => e = .returned (.bool false) ∧ w = w' := by
  have hd : decide ((1048576 : Int) < (n : Int)) = false := by simp; omega
  go_enter Tryd.func4, Tryd.ntmps4
  go_wp2
  go_ret
  exact ⟨rfl, rfl⟩
theorem big_yes (A : Option Addr) (n c : Nat) (w : World) (h : ¬ n ≤ 1048576) : Calls Tryd.prog 4 #[.slice A n c] w fun e w' => e = .returned (.bool true) ∧ w = w' := by
  have hd : decide ((1048576 : Int) < (n : Int)) = true := by simp; omega
  go_enter Tryd.func4, Tryd.ntmps4
  go_wp2
  go_ret
  exact ⟨rfl, rfl⟩
end Go.Proofs.YtaahaepgabcebaaDoor.Same

/- The law FnDataSame returns true at every slice of bytes, where the library's variable internal/bytealg.MaxLen holds an int, and turns nothing that was there: SameData asks for no order and no time to live; Hosts and Addrs answer as their models. -/
namespace Go.Proofs.YtaahaepgabcebaaDoor.LawDataSame
open Go.RowKit Go.Proofs.YtaahaepgabcebaaDoor.Mem Go.Proofs.YtaahaepgabcebaaDoor.MemS Go.Proofs.YtaahaepgabcebaaDoor.MemR Go.Proofs.YtaahaepgabcebaaDoor.MemI Go.Proofs.YtaahaepgabcebaaDoor.SetMath Go.Proofs.YtaahaepgabcebaaDoor.DataM Go.Proofs.YtaahaepgabcebaaDoor.Labels Go.Proofs.YtaahaepgabcebaaDoor.LessR Go.Proofs.YtaahaepgabcebaaDoor.SrtMath Go.Proofs.YtaahaepgabcebaaDoor.Same Go.Proofs.YtaahaepgabcebaaDoor.DrawR Go.Proofs.YtaahaepgabcebaaDoor.DrawSu Go.Proofs.YtaahaepgabcebaaDoor.DrawSv

theorem sd_sort {l L : List Rec} (h : Srt l L) (t : Int) : sd l (L.map (SetMath.wr t)) = true := by
  refine sd_iff.2 (fun x => ?_)
  have e : zs (L.map (SetMath.wr t)) = zs L := by simp only [zs, List.map_map]; rfl
  rw [e]
  exact (h.1.map (SetMath.wr 0)).mem_iff.symm
theorem sd_none {l m : List Rec} (h : sd l m = true) : l.length = 0 ↔ m.length = 0 := by
  have hi := sd_iff.1 h
  constructor
  · intro h0
    have e : l = [] := List.eq_nil_of_length_eq_zero h0
    subst e
    cases m with
    | nil => rfl
    | cons y m => exact absurd ((hi (SetMath.wr 0 y)).2 (by simp [zs])) (by simp [zs])
  · intro h0
    have e : m = [] := List.eq_nil_of_length_eq_zero h0
    subst e
    cases l with
    | nil => rfl
    | cons y l => exact absurd ((hi (SetMath.wr 0 y)).1 (by simp [zs])) (by simp [zs])
theorem both {m n : Nat} (h : m = 0 ↔ n = 0) : (((m : Int) == 0) == ((n : Int) == 0)) = true := by
  by_cases h0 : m = 0
  · have h1 := h.1 h0
    rw [h0, h1]; rfl
  · have h1 : n ≠ 0 := fun e => h0 (h.2 e)
    have e1 : ((m : Int) == 0) = false := by simp; omega
    have e2 : ((n : Int) == 0) = false := by simp; omega
    rw [e1, e2]; rfl

set_option maxRecDepth 100000 in
set_option maxHeartbeats 16000000 in
theorem walk (A : Option Addr) (n c : Nat) (l : List UInt8) (w : World) (he : Env w) (hs : Sl w w.heap.size A n l) (_hc : n ≤ c) (_hnil : A = none → n = 0 ∧ c = 0) :
    Calls Tryd.prog 3 #[.slice A n c] w fun e w' => e = .returned (.bool true) ∧ Below w.heap.size w w' := by
  by_cases hbig : n ≤ 1048576
  case neg =>
    go_enter Tryd.func3, Tryd.ntmps3
    go_wp2_with fail
    refine (big_yes A n c w hbig).mono ?_
    rintro e w1 ⟨rfl, rfl⟩
    go_wp2
    go_ret
    exact ⟨rfl, Below.refl _ _⟩
  have HS := Lib.hid hs
  have HE := Lib.hid he
  clear hs he
  go_enter Tryd.func3, Tryd.ntmps3
  go_wp2_with fail
  refine (big_no A n c w hbig).mono ?_
  rintro e w0 ⟨rfl, rfl⟩
  go_wp2_with fail
  refine (drawSameData_any A n c l w HS.out hbig).mono ?_
  rintro e w1 ⟨ga, ma, ca, P, gb, ob, mb, cb, Q, rfl, hma, hmb, hsm, hP, hQ, hl⟩
  have P1 := Lib.hid hP
  have PN := Lib.hid hP.1
  have Q1 := Lib.hid hQ
  have QN := Lib.hid hQ.1
  have SMP := Lib.hid (fine_of hsm)
  have L1 := Lib.hid hl
  clear hP hQ hl hsm
  obtain ⟨b, hb⟩ : ∃ b, sd P Q = b := ⟨_, rfl⟩
  have HB := Lib.hid hb
  have HC := Lib.hid ((sd_symm Q P).trans hb)
  clear hb
  go_wp2_with fail
  refine (drawHosts_any A n c l _ ((HS.out.below L1.out).wider L1.out.size) hbig).mono ?_
  rintro e w2 ⟨gh, mh, ch, H, rfl, hmh, -, hH, hl⟩
  have H2 := Lib.hid hH
  have L2 := Lib.hid (L1.out.trans (hl.mono L1.out.size))
  have P2 := Lib.hid (P1.out.on hl)
  have Q2 := Lib.hid (Q1.out.on hl)
  clear hl L1 P1 Q1 hH
  go_wp2_with fail
  refine (drawAddrs_any A n c l _ ((HS.out.below L2.out).wider L2.out.size) hbig).mono ?_
  rintro e w3 ⟨gr, mr, cr, R, s, rfl, hmr, -, hR, hl⟩
  have R3 := Lib.hid hR
  have L3 := Lib.hid (L2.out.trans (hl.mono L2.out.size))
  have P3 := Lib.hid (P2.out.on hl)
  have Q3 := Lib.hid (Q2.out.on hl)
  have H3 := Lib.hid (H2.out.on hl)
  clear hl L2 P2 Q2 H2 hR
  go_wp2_with fail
  refine (SameDI.impl ga 0 ma ca gb ob mb cb P Q _ P3.out Q3.out (by omega) (by omega)).mono ?_
  rw [HB.out]
  rintro e w4 ⟨rfl, hl⟩
  have L4 := Lib.hid (L3.out.trans (hl.mono L3.out.size))
  have P4 := Lib.hid (P3.out.on hl)
  have Q4 := Lib.hid (Q3.out.on hl)
  have H4 := Lib.hid (H3.out.on hl)
  have R4 := Lib.hid (R3.out.on hl)
  clear hl L3 P3 Q3 H3 R3
  go_wp2_with fail
  refine (SameDS.spec _ _ ma ca mb cb P Q _ P4.out Q4.out (by omega) (by omega)).mono ?_
  rw [HB.out]
  rintro e w5 ⟨rfl, hl⟩
  have L5 := Lib.hid (L4.out.trans (hl.mono L4.out.size))
  have P5 := Lib.hid (P4.out.on hl)
  have Q5 := Lib.hid (Q4.out.on hl)
  have H5 := Lib.hid (H4.out.on hl)
  have R5 := Lib.hid (R4.out.on hl)
  clear hl L4 P4 Q4 H4 R4
  have bb : (b != b) = false := by cases b <;> rfl
  have be : (b == b) = true := by cases b <;> rfl
  go_wp2_with fail
  refine (HostI.impl gh 0 mh ch H _ H5.out (by omega)).mono ?_
  rintro e w6 ⟨g1, m1, c1, r1, rfl, hm, -, -, hb, hl⟩
  have X1_6 := Lib.hid hb
  have XN := Lib.hid hm
  have hm1 : m1 ≤ 6 := by have h1 := len_uq (SetMath.hl H); have h2 := hl_len H; have h3 := H5.out.1; omega
  have L6 := Lib.hid (L5.out.trans (hl.mono L5.out.size))
  have P6 := Lib.hid (P5.out.on hl)
  have Q6 := Lib.hid (Q5.out.on hl)
  have H6 := Lib.hid (H5.out.on hl)
  have R6 := Lib.hid (R5.out.on hl)
  clear hl L5 P5 Q5 H5 R5 hb hm
  go_wp2_with fail
  refine (HostS.spec gh 0 mh ch H _ H6.out (by omega)).mono ?_
  rintro e w7 ⟨g2, m2, c2, r2, rfl, hm, -, -, hb, hl⟩
  obtain rfl : m1 = m2 := XN.out.symm.trans hm
  have X2_7 := Lib.hid hb
  have L7 := Lib.hid (L6.out.trans (hl.mono L6.out.size))
  have P7 := Lib.hid (P6.out.on hl)
  have Q7 := Lib.hid (Q6.out.on hl)
  have R7 := Lib.hid (R6.out.on hl)
  have X1_7 := Lib.hid (X1_6.out.below hl X1_6.out.lt)
  clear hl L6 P6 Q6 H6 R6 X1_6 hb hm
  go_wp2_with fail
  refine (SameS.sameStrs_same _ _ m1 c1 c2 (uq (SetMath.hl H)) _ _ (bk_ssw X1_7.out XN.out) (bk_ssw X2_7.out XN.out) (by omega)).mono ?_
  rintro e w8 ⟨rfl, hl⟩
  have L8 := Lib.hid (L7.out.trans (hl.mono L7.out.size))
  have P8 := Lib.hid (P7.out.on hl)
  have Q8 := Lib.hid (Q7.out.on hl)
  have R8 := Lib.hid (R7.out.on hl)
  clear hl L7 P7 Q7 R7 X1_7 X2_7 
  go_wp2_with fail
  refine (AdrI.impl s gr 0 mr cr R _ R8.out (by omega)).mono ?_
  rintro e w9 ⟨g3, m3, c3, r3, rfl, hm, -, -, hb, hl⟩
  have X3_9 := Lib.hid hb
  have YN := Lib.hid hm
  have hm3 : m3 ≤ 6 := by have h1 := len_uq (al s R); have h2 := al_len s R; have h3 := R8.out.1; omega
  have L9 := Lib.hid (L8.out.trans (hl.mono L8.out.size))
  have P9 := Lib.hid (P8.out.on hl)
  have Q9 := Lib.hid (Q8.out.on hl)
  have R9 := Lib.hid (R8.out.on hl)
  clear hl L8 P8 Q8 R8 hb hm
  go_wp2_with fail
  refine (AdrS.spec s gr 0 mr cr R _ R9.out (by omega)).mono ?_
  rintro e w10 ⟨g4, m4, c4, r4, rfl, hm, -, -, hb, hl⟩
  obtain rfl : m3 = m4 := YN.out.symm.trans hm
  have X4_10 := Lib.hid hb
  have L10 := Lib.hid (L9.out.trans (hl.mono L9.out.size))
  have P10 := Lib.hid (P9.out.on hl)
  have Q10 := Lib.hid (Q9.out.on hl)
  have X3_10 := Lib.hid (X3_9.out.below hl X3_9.out.lt)
  clear hl L9 P9 Q9 R9 X3_9 hb hm
  go_wp2_with fail
  refine (SameI.sameInts_same _ _ m3 c3 c4 (uq (al s R)) _ (bk_si X3_10.out YN.out) (bk_si X4_10.out YN.out) (by omega)).mono ?_
  rintro e w11 ⟨rfl, hl⟩
  have L11 := Lib.hid (L10.out.trans (hl.mono L10.out.size))
  have P11 := Lib.hid (P10.out.on hl)
  have Q11 := Lib.hid (Q10.out.on hl)
  clear hl L10 P10 Q10 X3_10 X4_10 
  go_wp2_with fail
  refine (SameDI.impl ga 0 ma ca gb ob mb cb P Q _ P11.out Q11.out (by omega) (by omega)).mono ?_
  rw [HB.out]
  rintro e w12 ⟨rfl, hl⟩
  have L12 := Lib.hid (L11.out.trans (hl.mono L11.out.size))
  have P12 := Lib.hid (P11.out.on hl)
  have Q12 := Lib.hid (Q11.out.on hl)
  clear hl L11 P11 Q11
  go_wp2_with fail
  refine (SameDI.impl gb ob mb cb ga 0 ma ca Q P _ Q12.out P12.out (by omega) (by omega)).mono ?_
  rw [HC.out]
  rintro e w13 ⟨rfl, hl⟩
  have L13 := Lib.hid (L12.out.trans (hl.mono L12.out.size))
  have P13 := Lib.hid (P12.out.on hl)
  have Q13 := Lib.hid (Q12.out.on hl)
  clear hl L12 P12 Q12
  go_wp2_with fail
  refine (SortP.impl ga 0 ma ca P _ P13.out (HE.out.below L13.out) (by omega) SMP.out).mono ?_
  rintro e w14 ⟨LS, g5, c5, r5, hS, rfl, -, -, hb, hl⟩
  have X5_14 := Lib.hid hb
  have SR := Lib.hid hS
  have ZN := Lib.hid (hS.length.trans PN.out)
  have L14 := Lib.hid (L13.out.trans (hl.mono L13.out.size))
  have P14 := Lib.hid (P13.out.on hl)
  have Q14 := Lib.hid (Q13.out.on hl)
  clear hl L13 P13 Q13 hb hS
  go_wp2_with fail
  refine (Wt.impl 7 g5 0 ma c5 LS _ (bk_sr X5_14.out ZN.out) (by omega)).mono ?_
  rintro e w15 ⟨g6, m6, c6, r6, rfl, hm, -, -, hb, hl⟩
  have X6_15 := Lib.hid hb
  have VN := Lib.hid hm
  have hm6 : m6 ≤ 6 := by have h1 := ZN.out; rw [List.length_map] at hm; omega
  have L15 := Lib.hid (L14.out.trans (hl.mono L14.out.size))
  have P15 := Lib.hid (P14.out.on hl)
  have Q15 := Lib.hid (Q14.out.on hl)
  clear hl L14 P14 Q14 X5_14 hb hm
  have ST := Lib.hid (sd_sort SR.out 7)
  go_wp2_with fail
  refine (SameDI.impl ga 0 ma ca g6 0 m6 c6 P (LS.map (SetMath.wr 7)) _ P15.out (bk_sr X6_15.out VN.out) (by omega) (by omega)).mono ?_
  rw [ST.out]
  rintro e w16 ⟨rfl, hl⟩
  have L16 := Lib.hid (L15.out.trans (hl.mono L15.out.size))
  have P16 := Lib.hid (P15.out.on hl)
  have Q16 := Lib.hid (Q15.out.on hl)
  clear hl L15 P15 Q15 X6_15
  go_wp2_with fail
  refine (SameDI.impl ga 0 ma ca gb ob mb cb P Q _ P16.out Q16.out (by omega) (by omega)).mono ?_
  rw [HB.out]
  rintro e w17 ⟨rfl, hl⟩
  have LZ := Lib.hid (L16.out.trans (hl.mono L16.out.size))
  clear hl
  cases b with
  | false =>
    go_wp2
    go_ret
    exact ⟨rfl, LZ.out⟩
  | true =>
    have zz := both (m := ma) (n := mb) (by have h := sd_none HB.out; rw [PN.out, QN.out] at h; exact h)
    go_wp2
    go_ret
    exact ⟨rfl, LZ.out⟩
end Go.Proofs.YtaahaepgabcebaaDoor.LawDataSame

/- What the world's shape gives the walks of this seat, and one world in which the listed tables of unicode/utf8 read as their text lays them. -/
namespace Go.Proofs.YtaahaepgabcebaaDoor.LaidU
open Go.RowKit Go.Proofs.YtaahaepgabcebaaDoor.Labels

theorem env {W : World} (h : W.ShapedOpen Tryd.prog) : Env W := Tryd.laysM146.s1_3 W h

def acc : List Int := [128, 191, 160, 191, 128, 159, 144, 191, 128, 143, 0, 0, 0, 0, 0, 0, 0, 0, 0, 0, 0, 0, 0, 0, 0, 0, 0, 0, 0, 0, 0, 0]
theorem gFirst : Tryd.prog.globalNamed "unicode/utf8.first" = some 1 := by kernel_rfl
theorem gAcc : Tryd.prog.globalNamed "unicode/utf8.acceptRanges" = some 2 := by kernel_rfl
/-- A block of cells, with other cells in it. -/
def put (cs : Array Value) : Obj → Obj
  | .cells _ t frozen => .cells cs t frozen
  | o => o
/-- The settled world, the two tables holding what their text lays. -/
noncomputable def laidWorld (os : Os) : World :=
  { World.holding Tryd.prog os ⟨#[], #[], []⟩ with heap := ((World.holding Tryd.prog os ⟨#[], #[], []⟩).heap.modify 1 (put (Go.Pinned.utf8FirstZ.map (fun n : Nat => Value.int .u8 (n : Int))).toArray)).modify 2 (put (acc.map (Value.int .u8)).toArray) }
def two : List (String × DataW Unit) := [("unicode/utf8.acceptRanges", Rows.laid_unicode_utf8_acceptRanges), ("unicode/utf8.first", Rows.laid_unicode_utf8_first)]
theorem laid_met (os : Os) (args : Array Value) : laidMet Tryd.prog two ((laidWorld os).forCall (fun _ _ => 0) ⟨#[], args, []⟩).memory :=
  laidMet_of_run' 8 (by kernel_rfl) (by kernel_rfl)
end Go.Proofs.YtaahaepgabcebaaDoor.LaidU

/- The card of the law FnDataSame: it returns true at every slice of bytes: SameData asks for no order and no time to live; Hosts and Addrs answer as their models. -/
namespace Go.Proofs.YtaahaepgabcebaaDoor.dataSameCard
open Go.ChangeShapes Go.WideShapes Go.ChangeAt Go.RowKit Go.Proofs.YtaahaepgabcebaaDoor.LaidU Go.Proofs.YtaahaepgabcebaaDoor.Mem

theorem own : ownKnob Tryd.prog.godebug = none := by kernel_rfl
theorem laidOut : laidOutB Tryd.prog = true := by kernel_rfl

set_option maxRecDepth 100000 in
theorem contract (H : Type) (enc : TypeId × Value → H) (W : World) (base : Nat) (args : Array Value) (ds gs : List (DataW H)) (before : List MemPlace)
    (hval0 : ∀ (j : Nat) t v, Tryd.f3.params[j]? = some t → args[j]? = some v → Value.okWide Tryd.prog W .any base t v)
    (hW : DataW.Whole enc Tryd.prog Tryd.f3.params.toList Rows.fnDataSameSpec.vars false W args.toList ds gs before) (hsh : W.ShapedOpen Tryd.prog) :
    Calls Tryd.prog 3 args W fun e W' => ∃ v, e = .returned v ∧ Rows.fnDataSameSpec.post enc Tryd.prog Tryd.f3 false true false false W args v W' := by
  have hval : ∀ (j : Nat) t v, Tryd.f3.params[j]? = some t → args[j]? = some v → Value.okWide Tryd.prog W .any base t v := hval0
  have hW' := hW
  obtain ⟨p, q, hA0, hV, rfl, _, _⟩ := hW
  have hA : DataW.TrodAll enc Tryd.prog W 0 (fun _ => true) true Tryd.f3.params.toList args.toList ds p := hA0
  rw [Tryd.params3] at hA hval
  obtain ⟨v0, vs0, d0, ds0, p0, q0, _, rfl, rfl, h0, r0⟩ := trodAll_cons hA
  obtain ⟨rfl, rfl, rfl⟩ := trodAll_nil r0
  obtain rfl : args = #[v0] := by cases args; simp_all
  obtain ⟨rfl, rfl⟩ := trodVars_none hV
  obtain ⟨a0, len0, cap0, rfl⟩ := okWide_slice Tryd.underlying22 (hval 0 22 v0 rfl rfl)
  have k0 := h0
  have lt0 : ∀ x ∈ p0, x.block < W.heap.size := by obtain ⟨m, hm⟩ := k0; exact DataW.trod_lt m _ _ _ hm
  obtain ⟨l0, s0, c0, z0⟩ : ∃ l : List UInt8, Sl W W.heap.size a0 len0 l ∧ len0 ≤ cap0 ∧ (a0 = none → len0 = 0 ∧ cap0 = 0) := by
    obtain ⟨fuel, hf⟩ := h0
    rcases open_ints Tryd.underlying22 Tryd.underlying5 (by kernel_rfl) hf with ⟨hcs, _⟩ | ⟨x, l, c, zs, hcs, _, hl, hm, hz, _, hcell, hwz⟩
    · simp [Value.cells] at hcs
      obtain ⟨rfl, rfl, rfl⟩ := hcs
      exact sl_of_row (zs := []) (.inl ⟨rfl, rfl, rfl, rfl⟩)
    · simp [Value.cells] at hcs
      obtain ⟨rfl, rfl, rfl⟩ := hcs
      exact sl_of_row (zs := zs) (.inr ⟨_, rfl, hl, hm, by simpa using hz, hcell, hwz⟩)
  clear hA0 hval0
  refine (LawDataSame.walk a0 len0 cap0 l0 W (env hsh) s0 c0 z0).mono fun e W' ⟨he, bel⟩ => ?_
  subst he
  exact ⟨_, rfl, _, _, _, [], _, [], hW', trodAll_mk1 (shut_bool Tryd.underlying4 _), (trodAll_cons_mk (Below.trod laidOut (by kernel_rfl) (of_decide_eq_true (by kernel_rfl)) k0 bel lt0) trodAll_mk0), rfl, bel.frame _, fun h => by cases h⟩

theorem reads (os : Os) {H : Type} (enc : TypeId × Value → H) : ∃ places, DataW.whole enc Tryd.prog ((laidWorld os).forCall (fun _ _ => 0) ⟨#[], #[.slice none 0 0], []⟩).memory Tryd.f3.params.toList Rows.fnDataSameSpec.vars false #[Value.slice none 0 0].toList 8 = some ([.nil], [], places) :=
  ⟨[], by kernel_rfl⟩

set_option maxRecDepth 100000 in
theorem lifted (os : Os) (started : os.Started) (H : Type) (enc : TypeId × Value → H) (F : Stop.Interp) :
    ReturnsInHanded {} Tryd.checked os 3 .any ((OpenSpec.ofChange Rows.fnDataSameSpec).preRow enc Tryd.prog Tryd.f3 Rows.fnDataSameRow.domain false Rows.fnDataSameRow.laid) (((OpenSpec.ofChange Rows.fnDataSameSpec).at F).post enc Tryd.prog Tryd.f3 false true false false) := by
  obtain ⟨places, hx⟩ := reads os enc
  refine returnsInHanded_of_row (C := Tryd.checked) (s := OpenSpec.ofChange Rows.fnDataSameSpec) own started (by kernel_rfl) Tryd.func3
    (witness_row_at (enc := enc) (C := Tryd.checked) false (laidWorld os) #[.slice none 0 0] rfl (by kernel_rfl) (by kernel_rfl) (by kernel_rfl)
      (OpenSpec.preRow_of_cond 8 hx (by kernel_rfl) (fun k hk => by cases hk) (by kernel_rfl) (laid_met os _))) ?_
  intro W base args ds gs before hval hW _ _ _ _ hsh _
  exact contract H enc W base args ds gs before hval hW hsh

theorem said : Rows.FnDataSameSaid :=
  OpenClaim.holds_of_cond 3 Tryd.f3 rfl rfl rfl rfl rfl rfl rfl ⟨rfl, rfl, rfl, rfl, rfl⟩ rfl rfl rfl rfl rfl (by kernel_rfl) Tryd.func3 (by kernel_rfl)
    (of_decide_eq_true (by kernel_rfl)) (by unfold Func.isWrapper; first | (rw [if_pos (by decide +kernel)]; kernel_rfl) | (rw [if_neg (by decide +kernel)]; exact ⟨rfl, rfl⟩))
    (fun os started H enc _ F => by rw [OpenClaim.pre_eq_preRow]; exact lifted os started H enc F)

theorem plain (f : FuncId) (fn : Func) (hf : Tryd.pinned.checked.prog.funcNamed "loop.example/g00497/laws.FnDataSame" = some f) (hfn : Tryd.pinned.checked.prog.funcs[f]? = some fn) :
    false = Tryd.pinned.checked.prog.looks [] ∧ ∀ (j : Nat) t, fn.params[j]? = some t → Tryd.pinned.checked.prog.wantsStandIn t = false := by
  obtain rfl : f = 3 := Option.some.inj ((show Tryd.prog.funcNamed "loop.example/g00497/laws.FnDataSame" = some 3 by kernel_rfl).symm.trans hf) |>.symm
  obtain rfl : fn = Tryd.f3 := (Option.some.inj (Tryd.func3.symm.trans hfn)).symm
  refine ⟨by kernel_rfl, fun j t ht => ?_⟩
  rw [Tryd.params3] at ht
  obtain rfl : t = 22 := by simpa using Array.mem_of_getElem? ht
  exact (show Tryd.prog.wantsStandIn 22 = false by kernel_rfl)

theorem card : Rows.FnDataSameCardSaid :=
  Claim7.holds_tied_plain_at .later [] _ _ _ _ said (fun _ h => by cases h) (by kernel_rfl) (fun _ h => by cases h) fnDataSame_row_tie rfl ⟨rfl, rfl⟩ (by kernel_rfl) rfl plain (by kernel_rfl)
end Go.Proofs.YtaahaepgabcebaaDoor.dataSameCard
namespace Go.Proofs.YtaahaepgabcebaaDoor
theorem fnDataSame_holds : Rows.FnDataSameCardSaid := dataSameCard.card
end Go.Proofs.YtaahaepgabcebaaDoor
