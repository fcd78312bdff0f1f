/- On every slice of bytes the law FnLists returns true: records are read back out of their encoding, where the listed tables of the library read as their text lays them (the card ties that to the program's text). -/
import Derived.Test.YtcpadkehalgddaaGreatDoorListsP1
import Derived.Test.YtcpadkehalgddaaGreatDoorListsP2
import Derived.Test.YtcpadkehalgddaaGreatDoorListsP3
import Derived.Test.YtcpadkehalgddaaGreatDoorLabels
import Derived.LaidLaws
import Derived.Test.YtcpadkehalgddaaGreatDoorCards
import Derived.Test.YtcpadkehalgddaaGreatDoorTie
import Derived.ProofKit
import Derived.OpenShut
import Derived.ShutString
import Derived.ChangeOld
import Derived.Below
import Derived.Deep.DeepHandedRow
/- The law FnLists returns true on every slice that reads as bytes, where the library's variable internal/bytealg.MaxLen holds an int, and turns nothing that was there: records are read back out of their encoding. -/
namespace Go.Proofs.YtcpadkehalgddaaGreatDoor.LawLists
open Go.RowKit Go.Proofs.YtcpadkehalgddaaGreatDoor.Mem Go.Proofs.YtcpadkehalgddaaGreatDoor.MemR Go.Proofs.YtcpadkehalgddaaGreatDoor.Labels Go.Proofs.YtcpadkehalgddaaGreatDoor.RecOk Go.Proofs.YtcpadkehalgddaaGreatDoor.Same Go.Proofs.YtcpadkehalgddaaGreatDoor.App Go.Proofs.YtcpadkehalgddaaGreatDoor.FieldMath Go.Proofs.YtcpadkehalgddaaGreatDoor.FieldBack Go.Proofs.YtcpadkehalgddaaGreatDoor.DataS Go.Proofs.YtcpadkehalgddaaGreatDoor.GetsM Go.Proofs.YtcpadkehalgddaaGreatDoor.DrawR Go.Proofs.YtcpadkehalgddaaGreatDoor.DrawP Go.Proofs.YtcpadkehalgddaaGreatDoor.SameR

theorem sml_med {r : Rec} (h : Sml r) : Med r := ⟨Nat.le_trans h.1 (by decide), Nat.le_trans h.2.1 (by decide), Nat.le_trans h.2.2 (by decide)⟩
theorem back_l {l : List UInt8} {L : List Rec} {n : Nat} (h : ∀ r ∈ L, rok r = true) (hn : L.length = n) (h8 : n ≤ 8) : grA (puts l L) (l.length : Int) (n : Int) = (0, ((puts l L).length : Int), L) := by
  subst hn
  rw [grA, if_pos ⟨by omega, by omega⟩, Int.toNat_natCast, back_list L l [] h]
  simp

set_option maxRecDepth 100000 in
set_option maxHeartbeats 4000000 in
theorem walk (A : Option Addr) (n c : Nat) (l : List UInt8) (w : World) (he : Env w) (hs : Sl w w.heap.size A n l) (_hc : n ≤ c) (_hnil : A = none → n = 0 ∧ c = 0) :
    Calls Tryz.prog 4 #[.slice A n c] w fun e w' => e = .returned (.bool true) ∧ Below w.heap.size w w' := by
  have HS := Lib.hid hs
  have HE := Lib.hid he
  clear hs he _hnil
  by_cases hn : ¬ n ≤ 1048576
  · go_enter Tryz.func4, Tryz.ntmps4
    go_wp2_with fail
    refine (big_yes A n c w hn).mono ?_
    rintro e w0 ⟨rfl, rfl⟩
    go_wp2
    go_ret
    exact ⟨rfl, Below.refl _ _⟩
  have hn : n ≤ 1048576 := Decidable.byContradiction hn
  go_enter Tryz.func4, Tryz.ntmps4
  go_wp2_with fail
  refine (big_no A n c w hn).mono ?_
  rintro e w0 ⟨rfl, rfl⟩
  go_wp2_with fail
  refine (drawPutRecords_any A n c l w HS.out hn).mono ?_
  rintro e w1 ⟨gb, m, cap, gl, cap', lb, L, rfl, hm, hmc, hL5, hSm, hsl, hsr, hl⟩
  have FA : Hid (∀ r ∈ L, Med r) := fun r hr => sml_med (hSm r hr)
  have LW := Lib.hid hl
  have HB := Lib.hid hsl
  have HR := Lib.hid hsr
  have ML := Lib.hid hsl.1
  have HXL : Hid ((puts lb L).length ≤ 1000) := by show _ ≤ _; have := puts_len L lb; rw [hsl.1] at this; omega
  obtain ⟨q, hq⟩ : ∃ q, L.length = q := ⟨_, rfl⟩
  rw [hq] at HR hL5 ⊢
  have HQ := Lib.hid hq
  clear hl hsl hsr hSm hq
  have SBx : Hid (∀ W : World, Below w1.heap.size w1 W → Sl W W.heap.size (some ⟨gb, 0, none⟩) m lb) := fun W hW => (HB.out.below hW).wider hW.size
  have SRx : Hid (∀ W : World, Below w1.heap.size w1 W → Sr W W.heap.size (some ⟨gl, 0, none⟩) q L) := fun W hW => (HR.out.below hW).wider hW.size
  have EN : Hid (∀ W : World, Below w1.heap.size w1 W → Env W) := fun W hW => HE.out.below (LW.out.trans (hW.mono LW.out.size))
  have XI : Hid (∀ W : World, Below w1.heap.size w1 W → Calls Tryz.prog 17 #[.slice (some ⟨gb, 0, none⟩) m cap, .slice (some ⟨gl, 0, none⟩) q cap'] W (Gives W (puts lb L))) :=
    fun W hW => (PutsP.impl _ _ m cap q cap' lb L W (EN.out W hW) (SBx.out W hW) (fun h => by cases h) (by omega) (SRx.out W hW) (by omega) FA.out).mono fun _ _ h => h.gives
  have XS : Hid (∀ W : World, Below w1.heap.size w1 W → Calls Tryz.prog 18 #[.slice (some ⟨gb, 0, none⟩) m cap, .slice (some ⟨gl, 0, none⟩) q cap'] W (Gives W (puts lb L))) :=
    fun W hW => (PutsS.spec _ _ m cap q cap' lb L W (SBx.out W hW) (fun h => by cases h) (by omega) (SRx.out W hW) (by omega) FA.out).mono fun _ _ h => h.gives
  have GR : Hid ((∀ r ∈ L, rok r = true) → ∀ (g mx cx : Nat) (rx : List Value) (W : World), Below w1.heap.size w1 W → (puts lb L).length = mx → mx ≤ cx → Bk W g 5 ((puts lb L).map bv ++ rx) → Calls Tryz.prog 19 #[.slice (some ⟨g, 0, none⟩) mx cx, .int .i64 (m : Int), .int .i64 (q : Int)] W fun e w' => ∃ g cap r, e = .returned (.tuple #[.slice (some ⟨g, 0, none⟩) q cap, .int .i64 (mx : Int), .int .i64 0]) ∧ Bk w' g 25 (fl L ++ r) ∧ W.heap.size ≤ g ∧ Below W.heap.size W w') := fun h g mx cx rx W hW hm hc hb => by
    have := GetsI.recs (some ⟨g, 0, none⟩) mx cx (puts lb L) (m : Int) (q : Int) W (EN.out W hW) (hm ▸ (hb.sl'.wider hb.lt)) hc (by have := HXL.out; omega)
    rw [← ML.out, back_l h HQ.out (by omega), ML.out] at this
    refine this.mono fun e w' hh => ?_
    obtain ⟨g', cap', r', he, h1, h2, h3⟩ := hh.bk
    dsimp only at he h1
    rw [HQ.out, hm] at he
    exact ⟨g', cap', r', he, h1, h2, h3⟩
  generalize puts lb L = X at *
  have L1 := Lib.hid (Below.refl w1.heap.size w1)
  clear HE HS HB HR
  go_wp2_with fail
  refine (XI.out w1 L1.out).mono ?_
  rintro e w2 ⟨gx, mx, cx, rx, rfl, hmx, hcx, hg, hb, hl⟩
  have MX := Lib.hid hmx
  have X2 := Lib.hid hb
  have L2 := Lib.hid (L1.out.trans (hl.mono L1.out.size))
  clear hl L1 hmx hg hb
  go_wp2_with fail
  refine (XS.out w2 L2.out).mono ?_
  rintro e w3 ⟨gy, my, cy, ry, rfl, hmy, hcy, hg, hb, hl⟩
  have MY := Lib.hid hmy
  have Y3 := Lib.hid hb
  have L3 := Lib.hid (L2.out.trans (hl.mono L2.out.size))
  have X3 := Lib.hid (X2.out.below hl X2.out.lt)
  clear hl L2 X2 hmy hg hb
  go_wp2_with fail
  refine (same_same _ _ mx cx my cy X w3 (MX.out ▸ (X3.out.sl'.wider X3.out.lt)) (MY.out ▸ (Y3.out.sl'.wider Y3.out.lt)) (by have := HXL.out; have := MX.out; omega) (by have := HXL.out; have := MY.out; omega)).mono ?_
  rintro e w4 ⟨rfl, hl⟩
  have L4 := Lib.hid (L3.out.trans (hl.mono L3.out.size))
  have X4 := Lib.hid (X3.out.below hl X3.out.lt)
  clear hl L3 X3 Y3 
  have hmx1 : mx ≤ 1000 := by have := HXL.out; have := MX.out; omega
  go_wp2
  go_loopw [6] (fun i wr => ∃ j : Nat, j ≤ q ∧ i = .int .i64 (j : Int) ∧ Hid (∀ i (h : i < L.length), i < j → rok L[i] = true) ∧ Hid (Bk wr gx 5 (X.map bv ++ rx)) ∧ Hid (Below w1.heap.size w1 wr)) (fun i _ => q - (intOf i).toNat)
  case atStart => exact ⟨0, Nat.zero_le _, rfl, (fun i h hi => by omega), X4.out, L4.out⟩
  case round =>
    clear X4 L4
    obtain ⟨j, hj, rfl, HA, HX, HL⟩ := hrel
    by_cases hlt : j < q
    · have hjl : j < L.length := by rw [HQ.out]; exact hlt
      obtain ⟨b, off, hA, hbB, hcs⟩ := (SRx.out wr HL.out).2 (by omega)
      obtain ⟨rfl, rfl⟩ : gl = b ∧ 0 = off := by simpa using hA
      obtain ⟨e0, e1, e2, e3, e4, e5⟩ := hcs j hjl
      rw [Nat.zero_add] at e0 e1 e2 e3 e4 e5
      have RO := Lib.hid (RecOk.impl L[j] wr (EN.out wr HL.out) (FA.out L[j] (List.getElem_mem hjl)).mod)
      have HA2 : Hid (rok L[j] = true → ∀ i (h : i < L.length), i < j + 1 → rok L[i] = true) := fun hr i h hi => by
        rcases Nat.lt_or_ge i j with h1 | h1
        · exact HA.out i h h1
        · obtain rfl : i = j := by omega
          exact hr
      obtain ⟨u, hu⟩ : ∃ u, rok L[j] = u := ⟨_, rfl⟩
      have HU := Lib.hid hu
      rw [hu] at RO HA2
      clear hu hcs hA HA
      generalize L[j] = r at *
      go_wp2_with fail
      refine RO.out.mono ?_
      rintro e w5 ⟨rfl, hl⟩
      have L5 := Lib.hid (HL.out.trans (hl.mono HL.out.size))
      have X5 := Lib.hid (HX.out.below hl HX.out.lt)
      clear hl HL HX e0 e1 e2 e3 e4 e5 RO
      cases u
      · go_wp2
        go_ret
        exact ⟨rfl, LW.out.trans (L5.out.mono LW.out.size)⟩
      · go_wp2
        go_roundw
        case rel => exact ⟨j + 1, by omega, by go_num, HA2.out trivial, X5.out, L5.out⟩
        case measure => simp [intOf]; omega
    · obtain rfl : j = q := by omega
      have ALL : Hid (∀ r ∈ L, rok r = true) := fun r hr => by
        obtain ⟨i, hi, rfl⟩ := List.getElem_of_mem hr
        exact HA.out i hi (by rw [← HQ.out]; exact hi)
      have G1 := Lib.hid (GR.out ALL.out gx mx cx rx wr HL.out MX.out hcx HX.out)
      have hmm : ((mx : Int) == (mx : Int)) = true := by simp
      clear HA ALL
      go_wp2_with fail
      refine G1.out.mono ?_
      rintro e w5 ⟨gr, cr, rr, rfl, hb, hg, hl⟩
      have L5 := Lib.hid (HL.out.trans (hl.mono HL.out.size))
      have R5 := Lib.hid hb
      clear hl hb hg HL HX G1
      have SM := Lib.hid (SameR.recs (some ⟨gr, 0, none⟩) (some ⟨gl, 0, none⟩) j cr j cap' L L w5 (bk_sr R5.out HQ.out) (SRx.out w5 L5.out) (by omega) (by omega))
      rw [sm_true rfl] at SM
      go_wp2_with fail
      refine SM.out.mono ?_
      rintro e w6 ⟨rfl, hl⟩
      have L6 := Lib.hid (L5.out.trans (hl.mono L5.out.size))
      clear hl
      go_wp2
      go_ret
      exact ⟨rfl, LW.out.trans (L6.out.mono LW.out.size)⟩
end Go.Proofs.YtcpadkehalgddaaGreatDoor.LawLists

/- What the world's shape gives the walks of this seat, and one world in which the listed tables of unicode/utf8 read as their text lays them. -/
namespace Go.Proofs.YtcpadkehalgddaaGreatDoor.LaidU
open Go.RowKit Go.Proofs.YtcpadkehalgddaaGreatDoor.Labels

theorem env {W : World} (h : W.ShapedOpen Tryz.prog) : Env W := Tryz.laysM146.s1_3 W h

def acc : List Int := [128, 191, 160, 191, 128, 159, 144, 191, 128, 143, 0, 0, 0, 0, 0, 0, 0, 0, 0, 0, 0, 0, 0, 0, 0, 0, 0, 0, 0, 0, 0, 0]
theorem gFirst : Tryz.prog.globalNamed "unicode/utf8.first" = some 1 := by kernel_rfl
theorem gAcc : Tryz.prog.globalNamed "unicode/utf8.acceptRanges" = some 2 := by kernel_rfl
/-- A block of cells, with other cells in it. -/
def put (cs : Array Value) : Obj → Obj
  | .cells _ t frozen => .cells cs t frozen
  | o => o
/-- The settled world, the two tables holding what their text lays. -/
noncomputable def laidWorld (os : Os) : World :=
  { World.holding Tryz.prog os ⟨#[], #[], []⟩ with heap := ((World.holding Tryz.prog os ⟨#[], #[], []⟩).heap.modify 1 (put (Go.Pinned.utf8FirstZ.map (fun n : Nat => Value.int .u8 (n : Int))).toArray)).modify 2 (put (acc.map (Value.int .u8)).toArray) }
def two : List (String × DataW Unit) := [("unicode/utf8.acceptRanges", Rows.laid_unicode_utf8_acceptRanges), ("unicode/utf8.first", Rows.laid_unicode_utf8_first)]
theorem laid_met (os : Os) (args : Array Value) : laidMet Tryz.prog two ((laidWorld os).forCall (fun _ _ => 0) ⟨#[], args, []⟩).memory :=
  laidMet_of_run' 8 (by kernel_rfl) (by kernel_rfl)
end Go.Proofs.YtcpadkehalgddaaGreatDoor.LaidU

/- On every slice of bytes the law FnLists returns true: records are read back out of their encoding, where the listed tables of the library read as their text lays them (the card ties that to the program's text). -/
namespace Go.Proofs.YtcpadkehalgddaaGreatDoor.listsCard
open Go.ChangeShapes Go.WideShapes Go.ChangeAt Go.RowKit Go.Proofs.YtcpadkehalgddaaGreatDoor.LaidU Go.Proofs.YtcpadkehalgddaaGreatDoor.Mem

theorem own : ownKnob Tryz.prog.godebug = none := by kernel_rfl
theorem laidOut : laidOutB Tryz.prog = true := by kernel_rfl

set_option maxRecDepth 100000 in
theorem contract (H : Type) (enc : TypeId × Value → H) (W : World) (base : Nat) (args : Array Value) (ds gs : List (DataW H)) (before : List MemPlace)
    (hval0 : ∀ (j : Nat) t v, Tryz.f4.params[j]? = some t → args[j]? = some v → Value.okWide Tryz.prog W .any base t v)
    (hW : DataW.Whole enc Tryz.prog Tryz.f4.params.toList Rows.fnListsSpec.vars false W args.toList ds gs before) (hsh : W.ShapedOpen Tryz.prog) :
    Calls Tryz.prog 4 args W fun e W' => ∃ v, e = .returned v ∧ Rows.fnListsSpec.post enc Tryz.prog Tryz.f4 false true false false W args v W' := by
  have hval : ∀ (j : Nat) t v, Tryz.f4.params[j]? = some t → args[j]? = some v → Value.okWide Tryz.prog W .any base t v := hval0
  have hW' := hW
  obtain ⟨p, q, hA0, hV, rfl, _, _⟩ := hW
  have hA : DataW.TrodAll enc Tryz.prog W 0 (fun _ => true) true Tryz.f4.params.toList args.toList ds p := hA0
  rw [Tryz.params4] at hA hval
  obtain ⟨v0, vs0, d0, ds0, p0, q0, _, rfl, rfl, h0, r0⟩ := trodAll_cons hA
  obtain ⟨rfl, rfl, rfl⟩ := trodAll_nil r0
  obtain rfl : args = #[v0] := by cases args; simp_all
  obtain ⟨rfl, rfl⟩ := trodVars_none hV
  obtain ⟨a0, len0, cap0, rfl⟩ := okWide_slice Tryz.underlying22 (hval 0 22 v0 rfl rfl)
  have k0 := h0
  have lt0 : ∀ x ∈ p0, x.block < W.heap.size := by obtain ⟨m, hm⟩ := k0; exact DataW.trod_lt m _ _ _ hm
  obtain ⟨l0, s0, c0, z0⟩ : ∃ l : List UInt8, Sl W W.heap.size a0 len0 l ∧ len0 ≤ cap0 ∧ (a0 = none → len0 = 0 ∧ cap0 = 0) := by
    obtain ⟨fuel, hf⟩ := h0
    rcases open_ints Tryz.underlying22 Tryz.underlying5 (by kernel_rfl) hf with ⟨hcs, _⟩ | ⟨x, l, c, zs, hcs, _, hl, hm, hz, _, hcell, hwz⟩
    · simp [Value.cells] at hcs
      obtain ⟨rfl, rfl, rfl⟩ := hcs
      exact sl_of_row (zs := []) (.inl ⟨rfl, rfl, rfl, rfl⟩)
    · simp [Value.cells] at hcs
      obtain ⟨rfl, rfl, rfl⟩ := hcs
      exact sl_of_row (zs := zs) (.inr ⟨_, rfl, hl, hm, by simpa using hz, hcell, hwz⟩)
  clear hA0 hval0
  refine (LawLists.walk a0 len0 cap0 l0 W (env hsh) s0 c0 z0).mono fun e W' ⟨he, bel⟩ => ?_
  subst he
  exact ⟨_, rfl, _, _, _, [], _, [], hW', trodAll_mk1 (shut_bool Tryz.underlying4 _), (trodAll_cons_mk (Below.trod laidOut (by kernel_rfl) (of_decide_eq_true (by kernel_rfl)) k0 bel lt0) trodAll_mk0), rfl, bel.frame _, fun h => by cases h⟩

theorem reads (os : Os) {H : Type} (enc : TypeId × Value → H) : ∃ places, DataW.whole enc Tryz.prog ((laidWorld os).forCall (fun _ _ => 0) ⟨#[], #[.slice none 0 0], []⟩).memory Tryz.f4.params.toList Rows.fnListsSpec.vars false #[Value.slice none 0 0].toList 8 = some ([.nil], [], places) :=
  ⟨[], by kernel_rfl⟩

set_option maxRecDepth 100000 in
theorem lifted (os : Os) (started : os.Started) (H : Type) (enc : TypeId × Value → H) (F : Stop.Interp) :
    ReturnsInHanded {} Tryz.checked os 4 .any ((OpenSpec.ofChange Rows.fnListsSpec).preRow enc Tryz.prog Tryz.f4 Rows.fnListsRow.domain false Rows.fnListsRow.laid) (((OpenSpec.ofChange Rows.fnListsSpec).at F).post enc Tryz.prog Tryz.f4 false true false false) := by
  obtain ⟨places, hx⟩ := reads os enc
  refine returnsInHanded_of_row (C := Tryz.checked) (s := OpenSpec.ofChange Rows.fnListsSpec) own started (by kernel_rfl) Tryz.func4
    (witness_row_at (enc := enc) (C := Tryz.checked) false (laidWorld os) #[.slice none 0 0] rfl (by kernel_rfl) (by kernel_rfl) (by kernel_rfl)
      (OpenSpec.preRow_of_cond 8 hx (by kernel_rfl) (fun k hk => by cases hk) (by kernel_rfl) (laid_met os _))) ?_
  intro W base args ds gs before hval hW _ _ _ _ hsh _
  exact contract H enc W base args ds gs before hval hW hsh

theorem said : Rows.FnListsSaid :=
  OpenClaim.holds_of_cond 4 Tryz.f4 rfl rfl rfl rfl rfl rfl rfl ⟨rfl, rfl, rfl, rfl, rfl⟩ rfl rfl rfl rfl rfl (by kernel_rfl) Tryz.func4 (by kernel_rfl)
    (of_decide_eq_true (by kernel_rfl)) (by unfold Func.isWrapper; first | (rw [if_pos (by decide +kernel)]; kernel_rfl) | (rw [if_neg (by decide +kernel)]; exact ⟨rfl, rfl⟩))
    (fun os started H enc _ F => by rw [OpenClaim.pre_eq_preRow]; exact lifted os started H enc F)

theorem plain (f : FuncId) (fn : Func) (hf : Tryz.pinned.checked.prog.funcNamed "loop.example/g00497/laws.FnLists" = some f) (hfn : Tryz.pinned.checked.prog.funcs[f]? = some fn) :
    true = Tryz.pinned.checked.prog.looks [] ∧ ∀ (j : Nat) t, fn.params[j]? = some t → Tryz.pinned.checked.prog.wantsStandIn t = false := by
  obtain rfl : f = 4 := Option.some.inj ((show Tryz.prog.funcNamed "loop.example/g00497/laws.FnLists" = some 4 by kernel_rfl).symm.trans hf) |>.symm
  obtain rfl : fn = Tryz.f4 := (Option.some.inj (Tryz.func4.symm.trans hfn)).symm
  refine ⟨by kernel_rfl, fun j t ht => ?_⟩
  rw [Tryz.params4] at ht
  obtain rfl : t = 22 := by simpa using Array.mem_of_getElem? ht
  exact (show Tryz.prog.wantsStandIn 22 = false by kernel_rfl)

theorem card : Rows.FnListsCardSaid :=
  Claim7.holds_tied_plain_at .later [] _ _ _ _ said (fun _ h => by cases h) (by kernel_rfl) (fun _ h => by cases h) fnLists_row_tie rfl ⟨rfl, rfl⟩ (by kernel_rfl) rfl plain (by kernel_rfl)
end Go.Proofs.YtcpadkehalgddaaGreatDoor.listsCard
namespace Go.Proofs.YtcpadkehalgddaaGreatDoor
theorem fnLists_holds : Rows.FnListsCardSaid := listsCard.card
end Go.Proofs.YtcpadkehalgddaaGreatDoor
