/- What slices.insertionSortCmpFunc does: it sorts a range by insertion. -/
import Derived.Test.YtaahaepgabcebaaDoorSwapK
import Derived.Sort.WalkB12
namespace Go.Proofs.YtaahaepgabcebaaDoor.InsK
open Go.RowKit Go.Sort Go.Shelf Go.Proofs.YtaahaepgabcebaaDoor.Merge Go.Proofs.YtaahaepgabcebaaDoor.SortK Go.Proofs.YtaahaepgabcebaaDoor.SwapK

section
variable {P : Program} {α : Type} [Inhabited α] {k : Nat}
/-- The comparison, called in whatever world of the sort's, answers by cf; it may make memory, and turns nothing that was there. -/
def Cmp (P : Program) (g : Nat) (cb : Array Value) (enc : α → List Value) (k : Nat) (cf : α → α → Int) (blk off size : Nat) (w0 : World) : Prop :=
  ∀ (W : World) (dk : Array α), dk.size = size → SB enc k w0 blk off dk W → ∀ x y : α, Calls P g (#[.agg (enc x).toArray, .agg (enc y).toArray] ++ cb) W fun e w' => e = .returned (.int .i64 (cf x y)) ∧ Below W.heap.size W w'
/-- Less, by the comparison. -/
def lt (cf : α → α → Int) (x y : α) : Bool := decide (cf x y < 0)

set_option maxHeartbeats 4000000 in
set_option maxRecDepth 1000000 in
theorem insertion (F : Facts P k) (enc : α → List Value) (cf : α → α → Int) (g : Nat) (cb : Array Value) (blk off cap a b : Nat) (d0 d : Array α) (w0 w : World) (eg : ∀ args w, (callFunc g args).run P w = .ok (.enter g args) w) (hC : Cmp P g cb enc k cf blk off d0.size w0)
    (R : Row enc k w0 blk off d0) (hs : d.size = d0.size) (S : SB enc k w0 blk off d w) (hab : a ≤ b) (hb : b ≤ d.size) (hsz : d.size < 4611686018427387904) :
    Calls P 49 #[.slice (some ⟨blk, off, none⟩) d.size cap, .int .i64 a, .int .i64 b, .func (.func g) #[] cb] w fun e w' => e = .returned (.tuple #[]) ∧ SB enc k w0 blk off (Sort.insertionSort (lt cf) d a b) w' := by
  have mixed := F.mixed; have t0 := F.t0; have a0 := F.a0; have z0 := F.z0; have v0 := F.v0; have t3 := F.t3; have a3 := F.a3; have z3 := F.z3; have v3 := F.v3; have t4 := F.t4; have a4 := F.a4; have z4 := F.z4; have v4 := F.v4; have tS := F.tS; have aS := F.aS; have zS := F.zS; have vS := F.vS; have tF := F.tF; have aF := F.aF; have zF := F.zF; have vF := F.vF; have aE := F.aE; have zE := F.zE
  have FG := F.fIns
  have HC := Lib.hid hC
  have S0 := Lib.hid S
  have HS := Lib.hid hs
  clear S hC hs
  go_enter FG, Tryd.ntmps49
  go_wp2
  go_loopw [8, 9] (fun vi _ wr => ∃ (i : Nat) (dk : Array α), vi = .int .i64 i ∧ a < i ∧ i ≤ b + 1 ∧ Hid (dk.size = d.size) ∧ Hid (SB enc k w0 blk off dk wr) ∧ Hid (insOuter (lt cf) a b i dk = insOuter (lt cf) a b (a + 1) d)) (fun vi _ _ => b + 1 - (intOf vi).toNat)
  case atStart => exact ⟨a + 1, d, by go_num, by omega, by omega, rfl, S0.out, rfl⟩
  case round =>
    clear S0
    obtain ⟨i, dk, rfl, hai, hib, HZ, S1, HO⟩ := hrel
    by_cases hlt : i < b
    · have hltz : (i : Int) < (b : Int) := by omega
      go_wp2
      go_loopw [9] (fun vj wr2 => ∃ (j : Nat) (dj : Array α), vj = .int .i64 j ∧ a ≤ j ∧ j ≤ i ∧ Hid (dj.size = d.size) ∧ Hid (SB enc k w0 blk off dj wr2) ∧ Hid (insInner (lt cf) a j dj = insInner (lt cf) a i dk)) (fun vj _ => (intOf vj).toNat)
      case atStart => exact ⟨i, dk, rfl, by omega, Nat.le_refl _, HZ.out, S1.out, rfl⟩
      case round =>
        clear S1 HZ
        obtain ⟨j, dj, rfl, haj, hji, HZ, S1, HI⟩ := hrel
        have OUT := Lib.hid (fun (hst : j ≤ a ∨ lt cf dj[j]! dj[j - 1]! = false) => show insOuter (lt cf) a b (i + 1) dj = insOuter (lt cf) a b (a + 1) d by
          rw [← HO.out, insOuter_go _ _ _ _ _ hlt, ← HI.out, insInner_stop _ _ _ _ hst])
        by_cases hja : a < j
        · have hjaz : (a : Int) < (j : Int) := by omega
          obtain ⟨jp, rfl⟩ : ∃ jp, j = jp + 1 := ⟨j - 1, by omega⟩
          have hwp : IntKind.i64.wrap (jp : Int) = (jp : Int) := by rw [IntKind.wrap_i64]; omega
          have jz : (jp : Int) + 1 < (d.size : Int) := by omega
          have jz1 : (jp : Int) < (d.size : Int) := by omega
          have hjaz' : (a : Int) < (jp : Int) + 1 := by omega
          have p0 : (0 : Int) ≤ (jp : Int) + 1 := by omega
          have e0 : ((jp : Int) + 1).toNat = jp + 1 := by omega
          have b1 : jp + 1 < dj.size := by rw [HZ.out]; omega
          have hz0 : dj.size = d0.size := HZ.out.trans HS.out
          have lj := fun dd os => (S1.out.inClass dd os).load R hz0 P (jp + 1) b1
          have lp := fun dd os => (S1.out.inClass dd os).load R hz0 P jp (by omega)
          have hcg := fun dd os => HC.out _ dj hz0 (S1.out.inClass dd os) dj[jp + 1]! dj[jp]!
          have n1 : (enc dj[jp + 1]!).length = k := R.hk _
          have n2 : (enc dj[jp]!).length = k := R.hk _
          have HX : Hid (lt cf dj[jp + 1]! dj[jp]! = decide (cf dj[jp + 1]! dj[jp]! < 0)) := rfl
          have S2 := Lib.hid (fun W (hb : Below wr.heap.size wr W) => (S1.out.below hb).drew.swap R (jp + 1) jp b1 (by omega))
          have K1 := Lib.hid (fun W (hb : Below wr.heap.size wr W) => (S1.out.below hb).drew.load R hz0 P (jp + 1) b1)
          have K2 := Lib.hid (fun W (hb : Below wr.heap.size wr W) => (S1.out.below hb).drew.load R hz0 P jp (by omega))
          have K3 := Lib.hid (fun W (hb : Below wr.heap.size wr W) => (S1.out.below hb).drew.st1 R hz0 P (jp + 1) b1 dj[jp]!)
          have K4 := Lib.hid (fun W (hb : Below wr.heap.size wr W) => (S1.out.below hb).drew.st2 R hz0 P (jp + 1) jp b1 (by omega) dj[jp]! dj[jp + 1]!)
          have SO := Lib.hid (fun W (hb : Below wr.heap.size wr W) => S1.out.below hb)
          have HG := Lib.hid (fun (h : lt cf dj[jp + 1]! dj[jp]! = true) => show insInner (lt cf) a jp (swp dj (jp + 1) jp) = insInner (lt cf) a i dk by
            have := insInner_go (lt cf) a (jp + 1) dj hja (by simpa using h)
            simp only [Nat.add_sub_cancel] at this
            rw [← HI.out, this])
          have HW : Hid ((swp dj (jp + 1) jp).size = d.size) := by show _ = _; rw [size_swp]; exact HZ.out
          have OU2 := Lib.hid (fun (h : lt cf dj[jp + 1]! dj[jp]! = false) => OUT.out (Or.inr (by simpa using h)))
          generalize enc dj[jp + 1]! = cJ at *
          generalize enc dj[jp]! = cP at *
          generalize cf dj[jp + 1]! dj[jp]! = cv at *
          clear HI OUT S1 hz0
          by_cases hlv : cv < 0
          · have HT := Lib.hid (HX.out.trans (decide_eq_true hlv))
            go_wp2_with fail
            refine wp_region_quiet_below (by assumption) (by kernel_rfl) ?_
            repeat (quiet_step (first | (go_at_fn g; exact Calls.regrown_of (hcg _ _))))
            refine wpQuiet_nil ?_
            intro w3 hw3
            have hl : Below wr.heap.size wr w3 := by obtain ⟨p, rfl⟩ := hw3; exact below_regrown _ _ _
            clear hw3 lj lp hcg
            have l1 := K1.out w3 hl
            have l2 := K2.out w3 hl
            have s1 := K3.out w3 hl
            have s2 := K4.out w3 hl
            have S3 := Lib.hid (S2.out w3 hl)
            clear hl K1 K2 K3 K4 S2 SO
            go_wp2_with fail
            go_big_region_o
            clear l1 l2 s1 s2
            generalize (w3.drew.setCells blk (off + (jp + 1) * k) cP).setCells blk (off + jp * k) cJ = w4 at S3 ⊢
            go_wp2
            go_roundw
            case rel => exact ⟨jp, swp dj (jp + 1) jp, by first | rfl | go_num, by omega, by omega, HW.out, S3.out, HG.out HT.out⟩
            case measure => simp [intOf]
          · have HT := Lib.hid (HX.out.trans (decide_eq_false hlv))
            go_wp2_with fail
            refine wp_region_quiet_below (by assumption) (by kernel_rfl) ?_
            repeat (quiet_step (first | (go_at_fn g; exact Calls.regrown_of (hcg _ _))))
            refine wpQuiet_nil ?_
            intro w3 hw3
            have hl : Below wr.heap.size wr w3 := by obtain ⟨p, rfl⟩ := hw3; exact below_regrown _ _ _
            clear hw3 lj lp hcg
            have S3 := Lib.hid (SO.out w3 hl)
            clear hl K1 K2 K3 K4 S2 SO
            go_wp2
            go_roundw
            case rel => exact ⟨i + 1, dj, by go_num, by omega, by omega, HZ.out, S3.out, OU2.out HT.out⟩
            case measure => simp [intOf]; omega
        · have hjaz : decide ((j : Int) > (a : Int)) = false := decide_eq_false (by omega)
          have hjaz' : ¬ (a : Int) < (j : Int) := by omega
          have S2 := Lib.hid S1.out.drew
          clear S1
          go_wp2_with fail
          go_big_region_o
          all_goals go_wp2
          go_roundw
          case rel => exact ⟨i + 1, dj, by go_num, by omega, by omega, HZ.out, S2.out, OUT.out (Or.inl (by omega))⟩
          case measure => simp [intOf]; omega
    · have hltz : ¬ (i : Int) < (b : Int) := by omega
      go_wp2
      go_end0
      refine ⟨rfl, ?_⟩
      unfold Sort.insertionSort
      rw [← HO.out, insOuter_stop _ _ _ _ _ hlt]
      exact S1.out
end
end Go.Proofs.YtaahaepgabcebaaDoor.InsK
