/- What slices.symMergeCmpFunc does: it merges two neighbouring sorted ranges. -/
import Derived.Test.YtaahaepgabcebaaDoorRotK
import Derived.Test.YtaahaepgabcebaaDoorInsK
namespace Go.Proofs.YtaahaepgabcebaaDoor.SymK
open Go.RowKit Go.Sort Go.Shelf Go.Proofs.YtaahaepgabcebaaDoor.Merge Go.Proofs.YtaahaepgabcebaaDoor.SortK Go.Proofs.YtaahaepgabcebaaDoor.SwapK Go.Proofs.YtaahaepgabcebaaDoor.RotK Go.Proofs.YtaahaepgabcebaaDoor.InsK

section
variable {P : Program} {α : Type} [Inhabited α] {k : Nat}
/-- The range [a, b) of the row in order. -/
def Mrg (enc : α → List Value) (k : Nat) (cf : α → α → Int) (w0 : World) (blk off a b : Nat) (d : Array α) (w' : World) : Prop := ∃ d', Merged (lt cf) a b d d' ∧ SB enc k w0 blk off d' w'
/-- What a merge gives, for ranges shorter than N. -/
def Upto (P : Program) (k : Nat) (enc : α → List Value) (cf : α → α → Int) (g : Nat) (cb : Array Value) (blk off cap : Nat) (d0 : Array α) (w0 : World) (N : Nat) : Prop :=
  ∀ (a m b : Nat) (d : Array α) (w : World), b - a < N → d.size = d0.size → SB enc k w0 blk off d w → a < m → m < b → b ≤ d0.size → SortedIn (lt cf) a m d → SortedIn (lt cf) m b d →
    Calls P 50 #[.slice (some ⟨blk, off, none⟩) d0.size cap, .int .i64 a, .int .i64 m, .int .i64 b, .func (.func g) #[] cb] w fun e w' => e = .returned (.tuple #[]) ∧ Mrg enc k cf w0 blk off a b d w'

set_option maxHeartbeats 8000000 in
set_option maxRecDepth 1000000 in
theorem left1 (F : Facts P k) (enc : α → List Value) (cf : α → α → Int) (g : Nat) (cb : Array Value) (blk off cap : Nat) (d0 : Array α) (w0 : World) (eg : ∀ args w, (callFunc g args).run P w = .ok (.enter g args) w) (hC : Cmp P g cb enc k cf blk off d0.size w0) (O : SWO (lt cf)) (R : Row enc k w0 blk off d0) (hsz : d0.size < 4611686018427387904) (a b : Nat) (d : Array α) (w : World) (hs : d.size = d0.size) (S : SB enc k w0 blk off d w) (h2 : a + 1 < b) (h3 : b ≤ d0.size) (k2 : SortedIn (lt cf) (a + 1) b d) :
    Calls P 50 #[.slice (some ⟨blk, off, none⟩) d0.size cap, .int .i64 a, .int .i64 ((a + 1 : Nat) : Int), .int .i64 b, .func (.func g) #[] cb] w fun e w' => e = .returned (.tuple #[]) ∧ Mrg enc k cf w0 blk off a b d w' := by
  have mixed := F.mixed; have t0 := F.t0; have a0 := F.a0; have z0 := F.z0; have v0 := F.v0; have t3 := F.t3; have a3 := F.a3; have z3 := F.z3; have v3 := F.v3; have t4 := F.t4; have a4 := F.a4; have z4 := F.z4; have v4 := F.v4; have tS := F.tS; have aS := F.aS; have zS := F.zS; have vS := F.vS; have tF := F.tF; have aF := F.aF; have zF := F.zF; have vF := F.vF; have tU := F.tU; have aU := F.aU; have zU := F.zU; have vU := F.vU; have aE := F.aE; have zE := F.zE
  have FG := F.fSym
  have HC := Lib.hid hC
  have S0 := Lib.hid S
  have HS := Lib.hid hs
  have K2 := Lib.hid k2
  clear S hC hs k2
  have q0 : (((a + 1 : Nat) : Int) - (a : Int) == 1) = true := beq_iff_eq.2 (by omega)
  obtain ⟨m, hm⟩ : ∃ m, m = a + 1 := ⟨_, rfl⟩
  rw [← hm] at q0 K2 ⊢
  have HM := Lib.hid hm
  have hm1 : m ≤ a + 1 := by omega
  have hm2 : a + 1 ≤ m := by omega
  clear hm
  go_enter FG, Tryd.ntmps50
  go_wp2
  go_loopw [10, 11, 12] (fun x y _ wr => ∃ i j : Nat, x = .int .i64 i ∧ y = .int .i64 j ∧ m ≤ i ∧ i ≤ j ∧ j ≤ b ∧ Hid (BsA (lt cf) d a m b i j) ∧ Hid (SB enc k w0 blk off d wr)) (fun x y _ _ => (intOf y).toNat - (intOf x).toNat)
  case atStart => exact ⟨m, b, rfl, rfl, Nat.le_refl _, by omega, Nat.le_refl _, bsA_start d a m b (by omega), S0.out⟩
  case round =>
    clear S0
    obtain ⟨i, j, rfl, rfl, hi, hij, hj, BS, S1⟩ := hrel
    by_cases hlt : i < j
    · obtain ⟨h, hh⟩ : ∃ h, h = (i + j) / 2 := ⟨_, rfl⟩
      have c1 : i ≤ h := by omega
      have c2 : h < j := by omega
      have hq : ((i : Int) + (j : Int)) / 2 = (h : Int) := by omega
      have bh : (h : Int) < (d0.size : Int) := by omega
      have ba : (a : Int) < (d0.size : Int) := by omega
      clear hh
      have lj := fun dd os => (S1.out.inClass dd os).load R HS.out P h (by rw [HS.out]; omega)
      have lp := fun dd os => (S1.out.inClass dd os).load R HS.out P a (by rw [HS.out]; omega)
      have hcg := fun dd os => HC.out _ d HS.out (S1.out.inClass dd os) d[h]! d[a]!
      have n1 : (enc d[h]!).length = k := R.hk _
      have n2 : (enc d[a]!).length = k := R.hk _
      have HX : Hid (lt cf d[h]! d[a]! = decide (cf d[h]! d[a]! < 0)) := rfl
      have UP := Lib.hid (fun (h' : lt cf d[h]! d[a]! = true) => bsA_up O K2.out BS.out c1 c2 h')
      have DN := Lib.hid (fun (h' : lt cf d[h]! d[a]! = false) => bsA_down O K2.out BS.out c1 c2 h')
      have SO := Lib.hid (fun W (hb : Below wr.heap.size wr W) => S1.out.below hb)
      generalize enc d[h]! = cJ at *
      generalize enc d[a]! = cP at *
      generalize cf d[h]! d[a]! = cv at *
      clear S1 BS
      by_cases hlv : cv < 0
      · have HT := Lib.hid (HX.out.trans (decide_eq_true hlv))
        go_wp2_with fail
        refine wp_region_quiet_below (by assumption) (by kernel_rfl) ?_
        repeat (quiet_step (first | (go_at_fn g; exact Calls.regrown_of (hcg _ _))))
        refine wpQuiet_nil ?_
        intro w3 hw3
        have hl : Below wr.heap.size wr w3 := by obtain ⟨p, rfl⟩ := hw3; exact below_regrown _ _ _
        have S3 := Lib.hid (SO.out w3 hl)
        clear hw3 lj lp hcg hl SO
        go_wp2
        go_roundw
        case rel => exact ⟨h + 1, j, by go_num, rfl, by omega, by omega, by omega, UP.out HT.out, S3.out⟩
        case measure => simp [intOf]; omega
      · have HT := Lib.hid (HX.out.trans (decide_eq_false hlv))
        go_wp2_with fail
        refine wp_region_quiet_below (by assumption) (by kernel_rfl) ?_
        repeat (quiet_step (first | (go_at_fn g; exact Calls.regrown_of (hcg _ _))))
        refine wpQuiet_nil ?_
        intro w3 hw3
        have hl : Below wr.heap.size wr w3 := by obtain ⟨p, rfl⟩ := hw3; exact below_regrown _ _ _
        have S3 := Lib.hid (SO.out w3 hl)
        clear hw3 lj lp hcg hl SO
        go_wp2
        go_roundw
        case rel => exact ⟨i, h, rfl, rfl, by omega, by omega, by omega, DN.out HT.out, S3.out⟩
        case measure => simp [intOf]; omega
    · obtain rfl : i = j := by omega
      go_wp2
      go_loopw [13] (fun x wr => ∃ t : Nat, x = .int .i64 ((a + t : Nat) : Int) ∧ t ≤ i - 1 - a ∧ Hid (SB enc k w0 blk off (bubU a t d) wr)) (fun x _ => i - (intOf x).toNat)
      case atStart => exact ⟨0, rfl, Nat.zero_le _, S1.out⟩
      case round =>
        clear S1
        obtain ⟨t, rfl, ht, S1⟩ := hrel
        by_cases hlt' : t < i - 1 - a
        · have HN : Hid (bubU a (t + 1) d = swp (bubU a t d) (a + t) (a + t + 1)) := rfl
          have hz0 : (bubU a t d).size = d0.size := (bubU_size a t d).trans HS.out
          obtain ⟨x, hx⟩ : ∃ x, x = a + t := ⟨_, rfl⟩
          rw [← hx] at HN ⊢
          have hx1 : x ≤ a + t := by omega
          have hx2 : a + t ≤ x := by omega
          have HX := Lib.hid hx
          clear hx
          have hlz : (x : Int) < (i : Int) - 1 := by omega
          generalize bubU a t d = dk at *
          have ea : ((x : Int) + 1).toNat = x + 1 := by omega
          have pa : (0 : Int) ≤ (x : Int) + 1 := by omega
          have ba : (x : Int) + 1 < (d0.size : Int) := by omega
          have ra : IntKind.i64.wrap ((x : Int) + 1) = (x : Int) + 1 := by rw [IntKind.wrap_i64]; omega
          have bx : (x : Int) < (d0.size : Int) := by omega
          have S2 := Lib.hid (S1.out.drew.swap R x (x + 1) (by omega) (by omega))
          have l1 := S1.out.drew.load R hz0 P x (by omega)
          have l2 := S1.out.drew.load R hz0 P (x + 1) (by omega)
          have s1 := S1.out.drew.st1 R hz0 P x (by omega) dk[x + 1]!
          have s2 := S1.out.drew.st2 R hz0 P x (x + 1) (by omega) (by omega) dk[x + 1]! dk[x]!
          have n1 : (enc dk[x]!).length = k := R.hk _
          have n2 : (enc dk[x + 1]!).length = k := R.hk _
          generalize enc dk[x]! = cI at S2 l1 s2 n1
          generalize enc dk[x + 1]! = cJ at S2 l2 s1 s2 n2
          clear S1 hz0
          go_wp2_with fail
          go_big_region_o
          clear l1 l2 s1 s2
          generalize (wr.drew.setCells blk (off + x * k) cJ).setCells blk (off + (x + 1) * k) cI = w2 at S2 ⊢
          go_wp2
          go_roundw
          case rel => exact ⟨t + 1, by congr 1; omega, by omega, by show SB _ _ _ _ _ _ _; rw [HN.out]; exact S2.out⟩
          case measure => simp [intOf]; omega
        · obtain rfl : t = i - 1 - a := by omega
          have hlz : ¬ ((a + (i - 1 - a) : Nat) : Int) < (i : Int) - 1 := by omega
          go_wp2
          (try simp only [Exit.inBlock, Exit.then])
          refine bodyPost_ret (results_none rfl _ _ _) rfl ?_
          refine ⟨rfl, _, ?_, S1.out⟩
          have B' := BS.out
          have k' := K2.out
          rw [HM.out] at B' k'
          exact bsA_end O k' (by rw [HS.out]; exact h3) B'

set_option maxHeartbeats 8000000 in
set_option maxRecDepth 1000000 in
theorem right1 (F : Facts P k) (enc : α → List Value) (cf : α → α → Int) (g : Nat) (cb : Array Value) (blk off cap : Nat) (d0 : Array α) (w0 : World) (eg : ∀ args w, (callFunc g args).run P w = .ok (.enter g args) w) (hC : Cmp P g cb enc k cf blk off d0.size w0) (O : SWO (lt cf)) (R : Row enc k w0 blk off d0) (hsz : d0.size < 4611686018427387904) (a m : Nat) (d : Array α) (w : World) (hs : d.size = d0.size) (S : SB enc k w0 blk off d w) (h1 : a + 1 < m) (h3 : m + 1 ≤ d0.size) (k1 : SortedIn (lt cf) a m d) :
    Calls P 50 #[.slice (some ⟨blk, off, none⟩) d0.size cap, .int .i64 a, .int .i64 m, .int .i64 ((m + 1 : Nat) : Int), .func (.func g) #[] cb] w fun e w' => e = .returned (.tuple #[]) ∧ Mrg enc k cf w0 blk off a (m + 1) d w' := by
  have mixed := F.mixed; have t0 := F.t0; have a0 := F.a0; have z0 := F.z0; have v0 := F.v0; have t3 := F.t3; have a3 := F.a3; have z3 := F.z3; have v3 := F.v3; have t4 := F.t4; have a4 := F.a4; have z4 := F.z4; have v4 := F.v4; have tS := F.tS; have aS := F.aS; have zS := F.zS; have vS := F.vS; have tF := F.tF; have aF := F.aF; have zF := F.zF; have vF := F.vF; have tU := F.tU; have aU := F.aU; have zU := F.zU; have vU := F.vU; have aE := F.aE; have zE := F.zE
  have FG := F.fSym
  have HC := Lib.hid hC
  have S0 := Lib.hid S
  have HS := Lib.hid hs
  have K1 := Lib.hid k1
  clear S hC hs k1
  have q0 : ((m : Int) - (a : Int) == 1) = false := beq_eq_false_iff_ne.2 (by omega)
  have q1 : (((m + 1 : Nat) : Int) - (m : Int) == 1) = true := beq_iff_eq.2 (by omega)
  obtain ⟨b, hb⟩ : ∃ b, b = m + 1 := ⟨_, rfl⟩
  rw [← hb] at q1 ⊢
  have HM := Lib.hid hb
  have hm1 : b ≤ m + 1 := by omega
  have hm2 : m + 1 ≤ b := by omega
  clear hb
  go_enter FG, Tryd.ntmps50
  go_wp2
  go_loopw [14, 15, 16] (fun x y _ wr => ∃ i j : Nat, x = .int .i64 i ∧ y = .int .i64 j ∧ a ≤ i ∧ i ≤ j ∧ j ≤ m ∧ Hid (BsB (lt cf) d a m i j) ∧ Hid (SB enc k w0 blk off d wr)) (fun x y _ _ => (intOf y).toNat - (intOf x).toNat)
  case atStart => exact ⟨a, m, rfl, rfl, Nat.le_refl _, by omega, Nat.le_refl _, bsB_start d a m (by omega), S0.out⟩
  case round =>
    clear S0
    obtain ⟨i, j, rfl, rfl, hi, hij, hj, BS, S1⟩ := hrel
    by_cases hlt : i < j
    · obtain ⟨h, hh⟩ : ∃ h, h = (i + j) / 2 := ⟨_, rfl⟩
      have c1 : i ≤ h := by omega
      have c2 : h < j := by omega
      have hq : ((i : Int) + (j : Int)) / 2 = (h : Int) := by omega
      have bh : (h : Int) < (d0.size : Int) := by omega
      have bm : (m : Int) < (d0.size : Int) := by omega
      clear hh
      have lj := fun dd os => (S1.out.inClass dd os).load R HS.out P m (by rw [HS.out]; omega)
      have lp := fun dd os => (S1.out.inClass dd os).load R HS.out P h (by rw [HS.out]; omega)
      have hcg := fun dd os => HC.out _ d HS.out (S1.out.inClass dd os) d[m]! d[h]!
      have n1 : (enc d[m]!).length = k := R.hk _
      have n2 : (enc d[h]!).length = k := R.hk _
      have HX : Hid (lt cf d[m]! d[h]! = decide (cf d[m]! d[h]! < 0)) := rfl
      have UP := Lib.hid (fun (h' : lt cf d[m]! d[h]! = false) => bsB_up O K1.out BS.out c1 c2 h')
      have DN := Lib.hid (fun (h' : lt cf d[m]! d[h]! = true) => bsB_down O K1.out BS.out c1 c2 h')
      have SO := Lib.hid (fun W (hb : Below wr.heap.size wr W) => S1.out.below hb)
      generalize enc d[m]! = cJ at *
      generalize enc d[h]! = cP at *
      generalize cf d[m]! d[h]! = cv at *
      clear S1 BS
      by_cases hlv : cv < 0
      · have HT := Lib.hid (HX.out.trans (decide_eq_true hlv))
        have hl0 : (!decide (cv < 0)) = false := by rw [decide_eq_true hlv]; rfl
        go_wp2_with fail
        refine wp_region_quiet_below (by assumption) (by kernel_rfl) ?_
        repeat (quiet_step (first | (go_at_fn g; exact Calls.regrown_of (hcg _ _))))
        refine wpQuiet_nil ?_
        intro w3 hw3
        have hl : Below wr.heap.size wr w3 := by obtain ⟨p, rfl⟩ := hw3; exact below_regrown _ _ _
        have S3 := Lib.hid (SO.out w3 hl)
        clear hw3 lj lp hcg hl SO
        go_wp2
        go_roundw
        case rel => exact ⟨i, h, rfl, rfl, by omega, by omega, by omega, DN.out HT.out, S3.out⟩
        case measure => simp [intOf]; omega
      · have HT := Lib.hid (HX.out.trans (decide_eq_false hlv))
        have hl0 : (!decide (cv < 0)) = true := by rw [decide_eq_false hlv]; rfl
        go_wp2_with fail
        refine wp_region_quiet_below (by assumption) (by kernel_rfl) ?_
        repeat (quiet_step (first | (go_at_fn g; exact Calls.regrown_of (hcg _ _))))
        refine wpQuiet_nil ?_
        intro w3 hw3
        have hl : Below wr.heap.size wr w3 := by obtain ⟨p, rfl⟩ := hw3; exact below_regrown _ _ _
        have S3 := Lib.hid (SO.out w3 hl)
        clear hw3 lj lp hcg hl SO
        go_wp2
        go_roundw
        case rel => exact ⟨h + 1, j, by go_num, rfl, by omega, by omega, by omega, UP.out HT.out, S3.out⟩
        case measure => simp [intOf]; omega
    · obtain rfl : i = j := by omega
      go_wp2
      go_loopw [17] (fun x wr => ∃ t : Nat, x = .int .i64 ((m - t : Nat) : Int) ∧ t ≤ m - i ∧ Hid (SB enc k w0 blk off (bubD m t d) wr)) (fun x _ => (intOf x).toNat)
      case atStart => exact ⟨0, rfl, Nat.zero_le _, S1.out⟩
      case round =>
        clear S1
        obtain ⟨t, rfl, ht, S1⟩ := hrel
        by_cases hlt' : t < m - i
        · have HN : Hid (bubD m (t + 1) d = swp (bubD m t d) (m - t) (m - t - 1)) := rfl
          have hz0 : (bubD m t d).size = d0.size := (bubD_size m t d).trans HS.out
          obtain ⟨y, hy⟩ : ∃ y, m - t = y + 1 := ⟨m - t - 1, by omega⟩
          rw [hy, Nat.add_sub_cancel] at HN
          rw [hy]
          have hy1 : y + 1 + t ≤ m := by omega
          have hy2 : m ≤ y + 1 + t := by omega
          clear hy
          have hlz : (i : Int) < (y : Int) + 1 := by omega
          generalize bubD m t d = dk at *
          have hwp : IntKind.i64.wrap (y : Int) = (y : Int) := by rw [IntKind.wrap_i64]; omega
          have jz : (y : Int) + 1 < (d0.size : Int) := by omega
          have jz1 : (y : Int) < (d0.size : Int) := by omega
          have p0 : (0 : Int) ≤ (y : Int) + 1 := by omega
          have e0 : ((y : Int) + 1).toNat = y + 1 := by omega
          have S2 := Lib.hid (S1.out.drew.swap R (y + 1) y (by omega) (by omega))
          have l1 := S1.out.drew.load R hz0 P (y + 1) (by omega)
          have l2 := S1.out.drew.load R hz0 P y (by omega)
          have s1 := S1.out.drew.st1 R hz0 P (y + 1) (by omega) dk[y]!
          have s2 := S1.out.drew.st2 R hz0 P (y + 1) y (by omega) (by omega) dk[y]! dk[y + 1]!
          have n1 : (enc dk[y + 1]!).length = k := R.hk _
          have n2 : (enc dk[y]!).length = k := R.hk _
          generalize enc dk[y + 1]! = cI at S2 l1 s2 n1
          generalize enc dk[y]! = cJ at S2 l2 s1 s2 n2
          clear S1 hz0
          go_wp2_with fail
          go_big_region_o
          clear l1 l2 s1 s2
          generalize (wr.drew.setCells blk (off + (y + 1) * k) cJ).setCells blk (off + y * k) cI = w2 at S2 ⊢
          go_wp2
          go_roundw
          case rel => exact ⟨t + 1, by congr 1; omega, by omega, by show SB _ _ _ _ _ _ _; rw [HN.out]; exact S2.out⟩
          case measure => simp [intOf]
        · obtain rfl : t = m - i := by omega
          have hlz : ¬ (i : Int) < ((m - (m - i) : Nat) : Int) := by omega
          go_wp2
          (try simp only [Exit.inBlock, Exit.then])
          refine bodyPost_ret (results_none rfl _ _ _) rfl ?_
          refine ⟨rfl, _, ?_, S1.out⟩
          rw [HM.out]
          exact bsB_end O K1.out (by rw [HS.out]; exact h3) BS.out

end
end Go.Proofs.YtaahaepgabcebaaDoor.SymK
