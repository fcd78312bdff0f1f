/- What slices.symMergeCmpFunc does in general: it merges two neighbouring sorted ranges, by halves. -/
import Derived.Test.YtaahaepgabcebaaDoorSymK
namespace Go.Proofs.YtaahaepgabcebaaDoor.SymG
open Go.RowKit Go.Sort Go.Shelf Go.Proofs.YtaahaepgabcebaaDoor.Merge Go.Proofs.YtaahaepgabcebaaDoor.SortK Go.Proofs.YtaahaepgabcebaaDoor.SwapK Go.Proofs.YtaahaepgabcebaaDoor.RotK Go.Proofs.YtaahaepgabcebaaDoor.InsK Go.Proofs.YtaahaepgabcebaaDoor.SymK

section
variable {P : Program} {α : Type} [Inhabited α] {k : Nat}

set_option maxHeartbeats 16000000 in
set_option maxRecDepth 1000000 in
theorem step_hi (F : Facts P k) (enc : α → List Value) (cf : α → α → Int) (g : Nat) (cb : Array Value) (blk off cap : Nat) (d0 : Array α) (w0 : World) (eg : ∀ args w, (callFunc g args).run P w = .ok (.enter g args) w) (hC : Cmp P g cb enc k cf blk off d0.size w0) (O : SWO (lt cf)) (R : Row enc k w0 blk off d0) (hsz : d0.size < 4611686018427387904) (N : Nat) (ih0 : Upto P k enc cf g cb blk off cap d0 w0 N) (a m b : Nat) (d : Array α) (w : World) (hN : b - a < N + 1) (hs : d.size = d0.size) (S : SB enc k w0 blk off d w) (h1 : a + 1 < m) (h2 : m + 1 < b) (h3 : b ≤ d0.size) (k1 : SortedIn (lt cf) a m d) (k2 : SortedIn (lt cf) m b d) (hm : (a + b) / 2 < m) :
    Calls P 50 #[.slice (some ⟨blk, off, none⟩) d0.size cap, .int .i64 a, .int .i64 m, .int .i64 b, .func (.func g) #[] cb] w fun e w' => e = .returned (.tuple #[]) ∧ Mrg enc k cf w0 blk off a b d w' := by
  have mixed := F.mixed; have t0 := F.t0; have a0 := F.a0; have z0 := F.z0; have v0 := F.v0; have t3 := F.t3; have a3 := F.a3; have z3 := F.z3; have v3 := F.v3; have t4 := F.t4; have a4 := F.a4; have z4 := F.z4; have v4 := F.v4; have tS := F.tS; have aS := F.aS; have zS := F.zS; have vS := F.vS; have tF := F.tF; have aF := F.aF; have zF := F.zF; have vF := F.vF; have tU := F.tU; have aU := F.aU; have zU := F.zU; have vU := F.vU; have aE := F.aE; have zE := F.zE
  have FG := F.fSym
  have eS : ∀ args w, (callFunc 50 args).run P w = .ok (.enter 50 args) w := enters_of F.fSym (by kernel_rfl) rfl
  have eR : ∀ args w, (callFunc 53 args).run P w = .ok (.enter 53 args) w := enters_of F.fRot (by kernel_rfl) rfl
  have HC := Lib.hid hC
  have S0 := Lib.hid S
  have HS := Lib.hid hs
  have K1 := Lib.hid k1
  have K2 := Lib.hid k2
  have ih := Lib.hid ih0
  clear S hC hs k1 k2 ih0
  have q0 : ((m : Int) - (a : Int) == 1) = false := beq_eq_false_iff_ne.2 (by omega)
  have q1 : ((b : Int) - (m : Int) == 1) = false := beq_eq_false_iff_ne.2 (by omega)
  have FN := Lib.hid (fun s (B : BsC (lt cf) d ((a + b) / 2 + m - 1) ((a + b) / 2 + m - b) ((a + b) / 2) s s) => found_hi O (by omega) (by omega) hm K1.out K2.out B)
  have MI := Lib.hid (mir_hi (a := a) (m := m) (b := b) (by omega) (by omega) hm)
  obtain ⟨mid, hmid⟩ : ∃ mid, mid = (a + b) / 2 := ⟨_, rfl⟩
  have hq : ((a : Int) + (b : Int)) / 2 = (mid : Int) := by omega
  rw [← hmid] at FN MI hm
  have HMD := Lib.hid hmid
  have g1 : 2 * mid ≤ a + b := by omega
  have g2 : a + b ≤ 2 * mid + 1 := by omega
  clear hmid
  obtain ⟨nn, hnn⟩ : ∃ nn, nn = mid + m := ⟨_, rfl⟩
  have hn : (mid : Int) + (m : Int) = (nn : Int) := by omega
  have g3 : nn ≤ mid + m := by omega
  have g4 : mid + m ≤ nn := by omega
  clear hnn
  obtain ⟨p, hp⟩ : ∃ p, p = mid + m - 1 := ⟨_, rfl⟩
  have hpe : (nn : Int) - 1 = (p : Int) := by omega
  rw [← hp] at FN MI
  have g5 : p + 1 ≤ nn := by omega
  have g6 : nn ≤ p + 1 := by omega
  clear hp
  obtain ⟨s0, hs0⟩ : ∃ s0, s0 = mid + m - b := ⟨_, rfl⟩
  have hse : (nn : Int) - (b : Int) = (s0 : Int) := by omega
  rw [← hs0] at FN MI
  have g7 : s0 + b ≤ mid + m := by omega
  have g8 : mid + m ≤ s0 + b := by omega
  clear hs0
  have hmz : (mid : Int) < (m : Int) := by omega
  go_enter FG, Tryd.ntmps50
  go_wp2
  go_loopw [20, 21, 23] (fun x y _ wr => ∃ s r : Nat, x = .int .i64 s ∧ y = .int .i64 r ∧ s0 ≤ s ∧ s ≤ r ∧ r ≤ mid ∧ Hid (BsC (lt cf) d p s0 mid s r) ∧ Hid (SB enc k w0 blk off d wr)) (fun x y _ _ => (intOf y).toNat - (intOf x).toNat)
  case atStart => exact ⟨s0, mid, rfl, rfl, Nat.le_refl _, by omega, Nat.le_refl _, bsC_start d p s0 mid (by omega), S0.out⟩
  case round =>
    clear S0
    obtain ⟨s, r, rfl, rfl, hs1, hsr, hr1, BS, S1⟩ := hrel
    by_cases hlt : s < r
    · obtain ⟨c, hc⟩ : ∃ c, c = (s + r) / 2 := ⟨_, rfl⟩
      have c1 : s ≤ c := by omega
      have c2 : c < r := by omega
      have hcq : ((s : Int) + (r : Int)) / 2 = (c : Int) := by omega
      clear hc
      have mc := MI.out.2.2 c (by omega) (by omega)
      obtain ⟨q, hq'⟩ : ∃ q, q = p - c := ⟨_, rfl⟩
      rw [← hq'] at mc
      obtain ⟨mc1, mc2, mc3⟩ := mc
      have hqe : (p : Int) - (c : Int) = (q : Int) := by omega
      have hqw : IntKind.i64.wrap (q : Int) = (q : Int) := by rw [IntKind.wrap_i64]; omega
      have bq : (q : Int) < (d0.size : Int) := by omega
      have bc : (c : Int) < (d0.size : Int) := by omega
      have lj := fun dd os => (S1.out.inClass dd os).load R HS.out P q (by rw [HS.out]; omega)
      have lp := fun dd os => (S1.out.inClass dd os).load R HS.out P c (by rw [HS.out]; omega)
      have hcg := fun dd os => HC.out _ d HS.out (S1.out.inClass dd os) d[q]! d[c]!
      have n1 : (enc d[q]!).length = k := R.hk _
      have n2 : (enc d[c]!).length = k := R.hk _
      have HX : Hid (lt cf d[q]! d[c]! = decide (cf d[q]! d[c]! < 0)) := rfl
      have UP := Lib.hid (fun (h' : lt cf d[q]! d[c]! = false) => bsC_up O K1.out K2.out MI.out BS.out c1 c2 (by rw [← hq']; exact h'))
      have DN := Lib.hid (fun (h' : lt cf d[q]! d[c]! = true) => bsC_down O K1.out K2.out MI.out BS.out c1 c2 (by rw [← hq']; exact h'))
      have SO := Lib.hid (fun W (hb : Below wr.heap.size wr W) => S1.out.below hb)
      clear hq'
      generalize enc d[q]! = cJ at *
      generalize enc d[c]! = cP at *
      generalize cf d[q]! d[c]! = cv at *
      clear S1 BS
      by_cases hlv : cv < 0
      · have HT := Lib.hid (HX.out.trans (decide_eq_true hlv))
        have hl0 : (!decide (cv < 0)) = false := by rw [decide_eq_true hlv]; rfl
        go_wp2_with fail
        refine wp_region_quiet_below (by assumption) (by kernel_rfl) ?_
        repeat (quiet_step (first | (go_at_fn g; exact Calls.regrown_of (hcg _ _))))
        refine wpQuiet_nil ?_
        intro w3 hw3
        have hl : Below wr.heap.size wr w3 := by obtain ⟨p, rfl⟩ := hw3; exact below_regrown _ _ _
        have S3 := Lib.hid (SO.out w3 hl)
        clear hw3 lj lp hcg hl SO
        go_wp2
        go_roundw
        case rel => exact ⟨s, c, rfl, rfl, by omega, by omega, by omega, DN.out HT.out, S3.out⟩
        case measure => simp [intOf]; omega
      · have HT := Lib.hid (HX.out.trans (decide_eq_false hlv))
        have hl0 : (!decide (cv < 0)) = true := by rw [decide_eq_false hlv]; rfl
        go_wp2_with fail
        refine wp_region_quiet_below (by assumption) (by kernel_rfl) ?_
        repeat (quiet_step (first | (go_at_fn g; exact Calls.regrown_of (hcg _ _))))
        refine wpQuiet_nil ?_
        intro w3 hw3
        have hl : Below wr.heap.size wr w3 := by obtain ⟨p, rfl⟩ := hw3; exact below_regrown _ _ _
        have S3 := Lib.hid (SO.out w3 hl)
        clear hw3 lj lp hcg hl SO
        go_wp2
        go_roundw
        case rel => exact ⟨c + 1, r, by go_num, rfl, by omega, by omega, by omega, UP.out HT.out, S3.out⟩
        case measure => simp [intOf]; omega
    · obtain rfl : s = r := by omega
      have FD := Lib.hid (FN.out s BS.out)
      obtain ⟨f1, f2, f3, f4, _⟩ := FD.out
      rw [← HMD.out] at f3 f4
      obtain ⟨e, he⟩ : ∃ e, e = mid + m - s := ⟨_, rfl⟩
      have hee : (nn : Int) - (s : Int) = (e : Int) := by omega
      have HE := Lib.hid he
      have g9 : e + s ≤ mid + m := by omega
      have g10 : mid + m ≤ e + s := by omega
      clear he FN MI BS
      by_cases cA : s < m
      · by_cases cB : s < mid
        · by_cases cC : a < s
          · by_cases cD : e < b
            · have y1 : m < e := by omega
              have y2 : mid < e := by omega
              have hc := rotate F enc g cb blk off cap s m e d0 d w0 wr R HS.out S1.out (by omega) (by omega) (by rw [HS.out]; omega) (by rw [HS.out]; exact hsz)
              rw [HS.out] at hc
              have C1 := Lib.hid hc
              clear hc
              go_wp2_with fail
              refine (C1.out).mono ?_
              rintro e1 w1 ⟨rfl, d1, hp, hmv, hS⟩
              have H1 := Lib.hid (FD.out.2.2.2.2 d1 (by rw [← HMD.out, ← HE.out]; exact hmv.2))
              rw [← HMD.out, ← HE.out] at H1
              have P1 := Lib.hid (permIn_mono _ _ _ _ a b (by omega) (by omega) (by rw [HS.out]; omega) hp)
              have Z1 := Lib.hid (hp.1.trans HS.out)
              have T1 := Lib.hid hS
              clear hp hmv hS C1
              go_wp2_with fail
              refine (ih.out a s mid d1 w1 (by omega) Z1.out T1.out (by omega) (by omega) (by omega) H1.out.2.2.2.2.1 H1.out.2.2.2.2.2.1).mono ?_
              rintro e2 w2 ⟨rfl, d2, hp, hS⟩
              have H2 := Lib.hid (halves_left (by rw [Z1.out]; omega) H1.out hp)
              have P2 := Lib.hid (permIn_trans _ _ _ _ _ P1.out (merged_wide hp (by omega) (by omega) (by rw [Z1.out]; omega)))
              have Z2 := Lib.hid (hp.1.1.trans Z1.out)
              have T2 := Lib.hid hS
              clear hp hS H1 P1 Z1 T1
              go_wp2_with fail
              refine (ih.out mid e b d2 w2 (by omega) Z2.out T2.out (by omega) (by omega) (by omega) H2.out.2.2.2.2.2.2.1 H2.out.2.2.2.2.2.2.2.1).mono ?_
              rintro e3 w3 ⟨rfl, d3, hp, hS⟩
              have H3 := Lib.hid (halves_right (by rw [Z2.out]; omega) H2.out hp)
              have P3 := Lib.hid (permIn_trans _ _ _ _ _ P2.out (merged_wide hp (by omega) (by omega) (by rw [Z2.out]; omega)))
              have T3 := Lib.hid hS
              clear hp hS
              clear H2 P2 Z2 T2
              go_wp2
              go_end0
              exact ⟨rfl, _, ⟨P3.out, H3.out⟩, T3.out⟩
            · have y1 : m < e := by omega
              have y2 : mid < e := by omega
              have hc := rotate F enc g cb blk off cap s m e d0 d w0 wr R HS.out S1.out (by omega) (by omega) (by rw [HS.out]; omega) (by rw [HS.out]; exact hsz)
              rw [HS.out] at hc
              have C1 := Lib.hid hc
              clear hc
              go_wp2_with fail
              refine (C1.out).mono ?_
              rintro e1 w1 ⟨rfl, d1, hp, hmv, hS⟩
              have H1 := Lib.hid (FD.out.2.2.2.2 d1 (by rw [← HMD.out, ← HE.out]; exact hmv.2))
              rw [← HMD.out, ← HE.out] at H1
              have P1 := Lib.hid (permIn_mono _ _ _ _ a b (by omega) (by omega) (by rw [HS.out]; omega) hp)
              have Z1 := Lib.hid (hp.1.trans HS.out)
              have T1 := Lib.hid hS
              clear hp hmv hS C1
              go_wp2_with fail
              refine (ih.out a s mid d1 w1 (by omega) Z1.out T1.out (by omega) (by omega) (by omega) H1.out.2.2.2.2.1 H1.out.2.2.2.2.2.1).mono ?_
              rintro e2 w2 ⟨rfl, d2, hp, hS⟩
              have H2 := Lib.hid (halves_left (by rw [Z1.out]; omega) H1.out hp)
              have P2 := Lib.hid (permIn_trans _ _ _ _ _ P1.out (merged_wide hp (by omega) (by omega) (by rw [Z1.out]; omega)))
              have Z2 := Lib.hid (hp.1.1.trans Z1.out)
              have T2 := Lib.hid hS
              clear hp hS H1 P1 Z1 T1
              have H3 := Lib.hid (halves_done H2.out (by omega))
              have P3 := Lib.hid P2.out
              have T3 := Lib.hid T2.out
              clear H2 P2 Z2 T2
              go_wp2
              go_end0
              exact ⟨rfl, _, ⟨P3.out, H3.out⟩, T3.out⟩
          · by_cases cD : e < b
            · have y1 : m < e := by omega
              have y2 : mid < e := by omega
              have hc := rotate F enc g cb blk off cap s m e d0 d w0 wr R HS.out S1.out (by omega) (by omega) (by rw [HS.out]; omega) (by rw [HS.out]; exact hsz)
              rw [HS.out] at hc
              have C1 := Lib.hid hc
              clear hc
              go_wp2_with fail
              refine (C1.out).mono ?_
              rintro e1 w1 ⟨rfl, d1, hp, hmv, hS⟩
              have H1 := Lib.hid (FD.out.2.2.2.2 d1 (by rw [← HMD.out, ← HE.out]; exact hmv.2))
              rw [← HMD.out, ← HE.out] at H1
              have P1 := Lib.hid (permIn_mono _ _ _ _ a b (by omega) (by omega) (by rw [HS.out]; omega) hp)
              have Z1 := Lib.hid (hp.1.trans HS.out)
              have T1 := Lib.hid hS
              clear hp hmv hS C1
              have H2 := Lib.hid (halves_none H1.out (by omega))
              have P2 := Lib.hid P1.out
              have Z2 := Lib.hid Z1.out
              have T2 := Lib.hid T1.out
              clear H1 P1 Z1 T1
              go_wp2_with fail
              refine (ih.out mid e b d1 w1 (by omega) Z2.out T2.out (by omega) (by omega) (by omega) H2.out.2.2.2.2.2.2.1 H2.out.2.2.2.2.2.2.2.1).mono ?_
              rintro e3 w3 ⟨rfl, d3, hp, hS⟩
              have H3 := Lib.hid (halves_right (by rw [Z2.out]; omega) H2.out hp)
              have P3 := Lib.hid (permIn_trans _ _ _ _ _ P2.out (merged_wide hp (by omega) (by omega) (by rw [Z2.out]; omega)))
              have T3 := Lib.hid hS
              clear hp hS
              clear H2 P2 Z2 T2
              go_wp2
              go_end0
              exact ⟨rfl, _, ⟨P3.out, H3.out⟩, T3.out⟩
            · have y1 : m < e := by omega
              have y2 : mid < e := by omega
              have hc := rotate F enc g cb blk off cap s m e d0 d w0 wr R HS.out S1.out (by omega) (by omega) (by rw [HS.out]; omega) (by rw [HS.out]; exact hsz)
              rw [HS.out] at hc
              have C1 := Lib.hid hc
              clear hc
              go_wp2_with fail
              refine (C1.out).mono ?_
              rintro e1 w1 ⟨rfl, d1, hp, hmv, hS⟩
              have H1 := Lib.hid (FD.out.2.2.2.2 d1 (by rw [← HMD.out, ← HE.out]; exact hmv.2))
              rw [← HMD.out, ← HE.out] at H1
              have P1 := Lib.hid (permIn_mono _ _ _ _ a b (by omega) (by omega) (by rw [HS.out]; omega) hp)
              have Z1 := Lib.hid (hp.1.trans HS.out)
              have T1 := Lib.hid hS
              clear hp hmv hS C1
              have H2 := Lib.hid (halves_none H1.out (by omega))
              have P2 := Lib.hid P1.out
              have Z2 := Lib.hid Z1.out
              have T2 := Lib.hid T1.out
              clear H1 P1 Z1 T1
              have H3 := Lib.hid (halves_done H2.out (by omega))
              have P3 := Lib.hid P2.out
              have T3 := Lib.hid T2.out
              clear H2 P2 Z2 T2
              go_wp2
              go_end0
              exact ⟨rfl, _, ⟨P3.out, H3.out⟩, T3.out⟩
        · have hB : ¬ s < mid := cB
          have y0 : a < s := by omega
          have y1 : ¬ m < e := by omega
          have y2 : mid < e := by omega
          have y3 : e < b := by omega
          have H1 := Lib.hid (FD.out.2.2.2.2 d (fun t => by rw [rotI_id (by omega) (by omega) (by omega)]))
          rw [← HMD.out, ← HE.out] at H1
          have P1 := Lib.hid (permIn_refl d a b)
          have Z1 := Lib.hid HS.out
          have T1 := Lib.hid S1.out
          have H2 := Lib.hid (halves_none H1.out (by omega))
          have P2 := Lib.hid P1.out
          have Z2 := Lib.hid Z1.out
          have T2 := Lib.hid T1.out
          clear H1 P1 Z1 T1
          go_wp2_with fail
          refine (ih.out mid e b d wr (by omega) Z2.out T2.out (by omega) (by omega) (by omega) H2.out.2.2.2.2.2.2.1 H2.out.2.2.2.2.2.2.2.1).mono ?_
          rintro e3 w3 ⟨rfl, d3, hp, hS⟩
          have H3 := Lib.hid (halves_right (by rw [Z2.out]; omega) H2.out hp)
          have P3 := Lib.hid (permIn_trans _ _ _ _ _ P2.out (merged_wide hp (by omega) (by omega) (by rw [Z2.out]; omega)))
          have T3 := Lib.hid hS
          clear hp hS
          clear H2 P2 Z2 T2
          go_wp2
          go_end0
          exact ⟨rfl, _, ⟨P3.out, H3.out⟩, T3.out⟩
      · by_cases cB : s < mid
        · have y0 : a < s := by omega
          have y1 : ¬ mid < e := by omega
          have H1 := Lib.hid (FD.out.2.2.2.2 d (fun t => by rw [rotI_id (by omega) (by omega) (by omega)]))
          rw [← HMD.out, ← HE.out] at H1
          have P1 := Lib.hid (permIn_refl d a b)
          have Z1 := Lib.hid HS.out
          have T1 := Lib.hid S1.out
          go_wp2_with fail
          refine (ih.out a s mid d wr (by omega) Z1.out T1.out (by omega) (by omega) (by omega) H1.out.2.2.2.2.1 H1.out.2.2.2.2.2.1).mono ?_
          rintro e2 w2 ⟨rfl, d2, hp, hS⟩
          have H2 := Lib.hid (halves_left (by rw [Z1.out]; omega) H1.out hp)
          have P2 := Lib.hid (permIn_trans _ _ _ _ _ P1.out (merged_wide hp (by omega) (by omega) (by rw [Z1.out]; omega)))
          have Z2 := Lib.hid (hp.1.1.trans Z1.out)
          have T2 := Lib.hid hS
          clear hp hS H1 P1 Z1 T1
          have H3 := Lib.hid (halves_done H2.out (by omega))
          have P3 := Lib.hid P2.out
          have T3 := Lib.hid T2.out
          clear H2 P2 Z2 T2
          go_wp2
          go_end0
          exact ⟨rfl, _, ⟨P3.out, H3.out⟩, T3.out⟩
        · have y0 : a < s := by omega
          have y1 : ¬ mid < e := by omega
          have H1 := Lib.hid (FD.out.2.2.2.2 d (fun t => by rw [rotI_id (by omega) (by omega) (by omega)]))
          rw [← HMD.out, ← HE.out] at H1
          have P1 := Lib.hid (permIn_refl d a b)
          have Z1 := Lib.hid HS.out
          have T1 := Lib.hid S1.out
          have H2 := Lib.hid (halves_none H1.out (by omega))
          have P2 := Lib.hid P1.out
          have Z2 := Lib.hid Z1.out
          have T2 := Lib.hid T1.out
          clear H1 P1 Z1 T1
          have H3 := Lib.hid (halves_done H2.out (by omega))
          have P3 := Lib.hid P2.out
          have T3 := Lib.hid T2.out
          clear H2 P2 Z2 T2
          go_wp2
          go_end0
          exact ⟨rfl, _, ⟨P3.out, H3.out⟩, T3.out⟩

set_option maxHeartbeats 16000000 in
set_option maxRecDepth 1000000 in
theorem step_lo (F : Facts P k) (enc : α → List Value) (cf : α → α → Int) (g : Nat) (cb : Array Value) (blk off cap : Nat) (d0 : Array α) (w0 : World) (eg : ∀ args w, (callFunc g args).run P w = .ok (.enter g args) w) (hC : Cmp P g cb enc k cf blk off d0.size w0) (O : SWO (lt cf)) (R : Row enc k w0 blk off d0) (hsz : d0.size < 4611686018427387904) (N : Nat) (ih0 : Upto P k enc cf g cb blk off cap d0 w0 N) (a m b : Nat) (d : Array α) (w : World) (hN : b - a < N + 1) (hs : d.size = d0.size) (S : SB enc k w0 blk off d w) (h1 : a + 1 < m) (h2 : m + 1 < b) (h3 : b ≤ d0.size) (k1 : SortedIn (lt cf) a m d) (k2 : SortedIn (lt cf) m b d) (hm : m ≤ (a + b) / 2) :
    Calls P 50 #[.slice (some ⟨blk, off, none⟩) d0.size cap, .int .i64 a, .int .i64 m, .int .i64 b, .func (.func g) #[] cb] w fun e w' => e = .returned (.tuple #[]) ∧ Mrg enc k cf w0 blk off a b d w' := by
  have mixed := F.mixed; have t0 := F.t0; have a0 := F.a0; have z0 := F.z0; have v0 := F.v0; have t3 := F.t3; have a3 := F.a3; have z3 := F.z3; have v3 := F.v3; have t4 := F.t4; have a4 := F.a4; have z4 := F.z4; have v4 := F.v4; have tS := F.tS; have aS := F.aS; have zS := F.zS; have vS := F.vS; have tF := F.tF; have aF := F.aF; have zF := F.zF; have vF := F.vF; have tU := F.tU; have aU := F.aU; have zU := F.zU; have vU := F.vU; have aE := F.aE; have zE := F.zE
  have FG := F.fSym
  have eS : ∀ args w, (callFunc 50 args).run P w = .ok (.enter 50 args) w := enters_of F.fSym (by kernel_rfl) rfl
  have eR : ∀ args w, (callFunc 53 args).run P w = .ok (.enter 53 args) w := enters_of F.fRot (by kernel_rfl) rfl
  have HC := Lib.hid hC
  have S0 := Lib.hid S
  have HS := Lib.hid hs
  have K1 := Lib.hid k1
  have K2 := Lib.hid k2
  have ih := Lib.hid ih0
  clear S hC hs k1 k2 ih0
  have q0 : ((m : Int) - (a : Int) == 1) = false := beq_eq_false_iff_ne.2 (by omega)
  have q1 : ((b : Int) - (m : Int) == 1) = false := beq_eq_false_iff_ne.2 (by omega)
  have FN := Lib.hid (fun s (B : BsC (lt cf) d ((a + b) / 2 + m - 1) (a) (m) s s) => found_lo O (by omega) (by omega) hm K1.out K2.out B)
  have MI := Lib.hid (mir_lo (a := a) (m := m) (b := b) (by omega) (by omega) hm)
  obtain ⟨mid, hmid⟩ : ∃ mid, mid = (a + b) / 2 := ⟨_, rfl⟩
  have hq : ((a : Int) + (b : Int)) / 2 = (mid : Int) := by omega
  rw [← hmid] at FN MI hm
  have HMD := Lib.hid hmid
  have g1 : 2 * mid ≤ a + b := by omega
  have g2 : a + b ≤ 2 * mid + 1 := by omega
  clear hmid
  obtain ⟨nn, hnn⟩ : ∃ nn, nn = mid + m := ⟨_, rfl⟩
  have hn : (mid : Int) + (m : Int) = (nn : Int) := by omega
  have g3 : nn ≤ mid + m := by omega
  have g4 : mid + m ≤ nn := by omega
  clear hnn
  obtain ⟨p, hp⟩ : ∃ p, p = mid + m - 1 := ⟨_, rfl⟩
  have hpe : (nn : Int) - 1 = (p : Int) := by omega
  rw [← hp] at FN MI
  have g5 : p + 1 ≤ nn := by omega
  have g6 : nn ≤ p + 1 := by omega
  clear hp
  have hmz : ¬ (mid : Int) < (m : Int) := by omega
  go_enter FG, Tryd.ntmps50
  go_wp2
  go_loopw [20, 21, 23] (fun x y _ wr => ∃ s r : Nat, x = .int .i64 s ∧ y = .int .i64 r ∧ a ≤ s ∧ s ≤ r ∧ r ≤ m ∧ Hid (BsC (lt cf) d p a m s r) ∧ Hid (SB enc k w0 blk off d wr)) (fun x y _ _ => (intOf y).toNat - (intOf x).toNat)
  case atStart => exact ⟨a, m, rfl, rfl, Nat.le_refl _, by omega, Nat.le_refl _, bsC_start d p a m (by omega), S0.out⟩
  case round =>
    clear S0
    obtain ⟨s, r, rfl, rfl, hs1, hsr, hr1, BS, S1⟩ := hrel
    by_cases hlt : s < r
    · obtain ⟨c, hc⟩ : ∃ c, c = (s + r) / 2 := ⟨_, rfl⟩
      have c1 : s ≤ c := by omega
      have c2 : c < r := by omega
      have hcq : ((s : Int) + (r : Int)) / 2 = (c : Int) := by omega
      clear hc
      have mc := MI.out.2.2 c (by omega) (by omega)
      obtain ⟨q, hq'⟩ : ∃ q, q = p - c := ⟨_, rfl⟩
      rw [← hq'] at mc
      obtain ⟨mc1, mc2, mc3⟩ := mc
      have hqe : (p : Int) - (c : Int) = (q : Int) := by omega
      have hqw : IntKind.i64.wrap (q : Int) = (q : Int) := by rw [IntKind.wrap_i64]; omega
      have bq : (q : Int) < (d0.size : Int) := by omega
      have bc : (c : Int) < (d0.size : Int) := by omega
      have lj := fun dd os => (S1.out.inClass dd os).load R HS.out P q (by rw [HS.out]; omega)
      have lp := fun dd os => (S1.out.inClass dd os).load R HS.out P c (by rw [HS.out]; omega)
      have hcg := fun dd os => HC.out _ d HS.out (S1.out.inClass dd os) d[q]! d[c]!
      have n1 : (enc d[q]!).length = k := R.hk _
      have n2 : (enc d[c]!).length = k := R.hk _
      have HX : Hid (lt cf d[q]! d[c]! = decide (cf d[q]! d[c]! < 0)) := rfl
      have UP := Lib.hid (fun (h' : lt cf d[q]! d[c]! = false) => bsC_up O K1.out K2.out MI.out BS.out c1 c2 (by rw [← hq']; exact h'))
      have DN := Lib.hid (fun (h' : lt cf d[q]! d[c]! = true) => bsC_down O K1.out K2.out MI.out BS.out c1 c2 (by rw [← hq']; exact h'))
      have SO := Lib.hid (fun W (hb : Below wr.heap.size wr W) => S1.out.below hb)
      clear hq'
      generalize enc d[q]! = cJ at *
      generalize enc d[c]! = cP at *
      generalize cf d[q]! d[c]! = cv at *
      clear S1 BS
      by_cases hlv : cv < 0
      · have HT := Lib.hid (HX.out.trans (decide_eq_true hlv))
        have hl0 : (!decide (cv < 0)) = false := by rw [decide_eq_true hlv]; rfl
        go_wp2_with fail
        refine wp_region_quiet_below (by assumption) (by kernel_rfl) ?_
        repeat (quiet_step (first | (go_at_fn g; exact Calls.regrown_of (hcg _ _))))
        refine wpQuiet_nil ?_
        intro w3 hw3
        have hl : Below wr.heap.size wr w3 := by obtain ⟨p, rfl⟩ := hw3; exact below_regrown _ _ _
        have S3 := Lib.hid (SO.out w3 hl)
        clear hw3 lj lp hcg hl SO
        go_wp2
        go_roundw
        case rel => exact ⟨s, c, rfl, rfl, by omega, by omega, by omega, DN.out HT.out, S3.out⟩
        case measure => simp [intOf]; omega
      · have HT := Lib.hid (HX.out.trans (decide_eq_false hlv))
        have hl0 : (!decide (cv < 0)) = true := by rw [decide_eq_false hlv]; rfl
        go_wp2_with fail
        refine wp_region_quiet_below (by assumption) (by kernel_rfl) ?_
        repeat (quiet_step (first | (go_at_fn g; exact Calls.regrown_of (hcg _ _))))
        refine wpQuiet_nil ?_
        intro w3 hw3
        have hl : Below wr.heap.size wr w3 := by obtain ⟨p, rfl⟩ := hw3; exact below_regrown _ _ _
        have S3 := Lib.hid (SO.out w3 hl)
        clear hw3 lj lp hcg hl SO
        go_wp2
        go_roundw
        case rel => exact ⟨c + 1, r, by go_num, rfl, by omega, by omega, by omega, UP.out HT.out, S3.out⟩
        case measure => simp [intOf]; omega
    · obtain rfl : s = r := by omega
      have FD := Lib.hid (FN.out s BS.out)
      obtain ⟨f1, f2, f3, f4, _⟩ := FD.out
      rw [← HMD.out] at f3 f4
      obtain ⟨e, he⟩ : ∃ e, e = mid + m - s := ⟨_, rfl⟩
      have hee : (nn : Int) - (s : Int) = (e : Int) := by omega
      have HE := Lib.hid he
      have g9 : e + s ≤ mid + m := by omega
      have g10 : mid + m ≤ e + s := by omega
      clear he FN MI BS
      by_cases cA : s < m
      · by_cases cB : s < mid
        · by_cases cC : a < s
          · by_cases cD : e < b
            · have y1 : m < e := by omega
              have y2 : mid < e := by omega
              have hc := rotate F enc g cb blk off cap s m e d0 d w0 wr R HS.out S1.out (by omega) (by omega) (by rw [HS.out]; omega) (by rw [HS.out]; exact hsz)
              rw [HS.out] at hc
              have C1 := Lib.hid hc
              clear hc
              go_wp2_with fail
              refine (C1.out).mono ?_
              rintro e1 w1 ⟨rfl, d1, hp, hmv, hS⟩
              have H1 := Lib.hid (FD.out.2.2.2.2 d1 (by rw [← HMD.out, ← HE.out]; exact hmv.2))
              rw [← HMD.out, ← HE.out] at H1
              have P1 := Lib.hid (permIn_mono _ _ _ _ a b (by omega) (by omega) (by rw [HS.out]; omega) hp)
              have Z1 := Lib.hid (hp.1.trans HS.out)
              have T1 := Lib.hid hS
              clear hp hmv hS C1
              go_wp2_with fail
              refine (ih.out a s mid d1 w1 (by omega) Z1.out T1.out (by omega) (by omega) (by omega) H1.out.2.2.2.2.1 H1.out.2.2.2.2.2.1).mono ?_
              rintro e2 w2 ⟨rfl, d2, hp, hS⟩
              have H2 := Lib.hid (halves_left (by rw [Z1.out]; omega) H1.out hp)
              have P2 := Lib.hid (permIn_trans _ _ _ _ _ P1.out (merged_wide hp (by omega) (by omega) (by rw [Z1.out]; omega)))
              have Z2 := Lib.hid (hp.1.1.trans Z1.out)
              have T2 := Lib.hid hS
              clear hp hS H1 P1 Z1 T1
              go_wp2_with fail
              refine (ih.out mid e b d2 w2 (by omega) Z2.out T2.out (by omega) (by omega) (by omega) H2.out.2.2.2.2.2.2.1 H2.out.2.2.2.2.2.2.2.1).mono ?_
              rintro e3 w3 ⟨rfl, d3, hp, hS⟩
              have H3 := Lib.hid (halves_right (by rw [Z2.out]; omega) H2.out hp)
              have P3 := Lib.hid (permIn_trans _ _ _ _ _ P2.out (merged_wide hp (by omega) (by omega) (by rw [Z2.out]; omega)))
              have T3 := Lib.hid hS
              clear hp hS
              clear H2 P2 Z2 T2
              go_wp2
              go_end0
              exact ⟨rfl, _, ⟨P3.out, H3.out⟩, T3.out⟩
            · have y1 : m < e := by omega
              have y2 : mid < e := by omega
              have hc := rotate F enc g cb blk off cap s m e d0 d w0 wr R HS.out S1.out (by omega) (by omega) (by rw [HS.out]; omega) (by rw [HS.out]; exact hsz)
              rw [HS.out] at hc
              have C1 := Lib.hid hc
              clear hc
              go_wp2_with fail
              refine (C1.out).mono ?_
              rintro e1 w1 ⟨rfl, d1, hp, hmv, hS⟩
              have H1 := Lib.hid (FD.out.2.2.2.2 d1 (by rw [← HMD.out, ← HE.out]; exact hmv.2))
              rw [← HMD.out, ← HE.out] at H1
              have P1 := Lib.hid (permIn_mono _ _ _ _ a b (by omega) (by omega) (by rw [HS.out]; omega) hp)
              have Z1 := Lib.hid (hp.1.trans HS.out)
              have T1 := Lib.hid hS
              clear hp hmv hS C1
              go_wp2_with fail
              refine (ih.out a s mid d1 w1 (by omega) Z1.out T1.out (by omega) (by omega) (by omega) H1.out.2.2.2.2.1 H1.out.2.2.2.2.2.1).mono ?_
              rintro e2 w2 ⟨rfl, d2, hp, hS⟩
              have H2 := Lib.hid (halves_left (by rw [Z1.out]; omega) H1.out hp)
              have P2 := Lib.hid (permIn_trans _ _ _ _ _ P1.out (merged_wide hp (by omega) (by omega) (by rw [Z1.out]; omega)))
              have Z2 := Lib.hid (hp.1.1.trans Z1.out)
              have T2 := Lib.hid hS
              clear hp hS H1 P1 Z1 T1
              have H3 := Lib.hid (halves_done H2.out (by omega))
              have P3 := Lib.hid P2.out
              have T3 := Lib.hid T2.out
              clear H2 P2 Z2 T2
              go_wp2
              go_end0
              exact ⟨rfl, _, ⟨P3.out, H3.out⟩, T3.out⟩
          · by_cases cD : e < b
            · have y1 : m < e := by omega
              have y2 : mid < e := by omega
              have hc := rotate F enc g cb blk off cap s m e d0 d w0 wr R HS.out S1.out (by omega) (by omega) (by rw [HS.out]; omega) (by rw [HS.out]; exact hsz)
              rw [HS.out] at hc
              have C1 := Lib.hid hc
              clear hc
              go_wp2_with fail
              refine (C1.out).mono ?_
              rintro e1 w1 ⟨rfl, d1, hp, hmv, hS⟩
              have H1 := Lib.hid (FD.out.2.2.2.2 d1 (by rw [← HMD.out, ← HE.out]; exact hmv.2))
              rw [← HMD.out, ← HE.out] at H1
              have P1 := Lib.hid (permIn_mono _ _ _ _ a b (by omega) (by omega) (by rw [HS.out]; omega) hp)
              have Z1 := Lib.hid (hp.1.trans HS.out)
              have T1 := Lib.hid hS
              clear hp hmv hS C1
              have H2 := Lib.hid (halves_none H1.out (by omega))
              have P2 := Lib.hid P1.out
              have Z2 := Lib.hid Z1.out
              have T2 := Lib.hid T1.out
              clear H1 P1 Z1 T1
              go_wp2_with fail
              refine (ih.out mid e b d1 w1 (by omega) Z2.out T2.out (by omega) (by omega) (by omega) H2.out.2.2.2.2.2.2.1 H2.out.2.2.2.2.2.2.2.1).mono ?_
              rintro e3 w3 ⟨rfl, d3, hp, hS⟩
              have H3 := Lib.hid (halves_right (by rw [Z2.out]; omega) H2.out hp)
              have P3 := Lib.hid (permIn_trans _ _ _ _ _ P2.out (merged_wide hp (by omega) (by omega) (by rw [Z2.out]; omega)))
              have T3 := Lib.hid hS
              clear hp hS
              clear H2 P2 Z2 T2
              go_wp2
              go_end0
              exact ⟨rfl, _, ⟨P3.out, H3.out⟩, T3.out⟩
            · have y1 : m < e := by omega
              have y2 : mid < e := by omega
              have hc := rotate F enc g cb blk off cap s m e d0 d w0 wr R HS.out S1.out (by omega) (by omega) (by rw [HS.out]; omega) (by rw [HS.out]; exact hsz)
              rw [HS.out] at hc
              have C1 := Lib.hid hc
              clear hc
              go_wp2_with fail
              refine (C1.out).mono ?_
              rintro e1 w1 ⟨rfl, d1, hp, hmv, hS⟩
              have H1 := Lib.hid (FD.out.2.2.2.2 d1 (by rw [← HMD.out, ← HE.out]; exact hmv.2))
              rw [← HMD.out, ← HE.out] at H1
              have P1 := Lib.hid (permIn_mono _ _ _ _ a b (by omega) (by omega) (by rw [HS.out]; omega) hp)
              have Z1 := Lib.hid (hp.1.trans HS.out)
              have T1 := Lib.hid hS
              clear hp hmv hS C1
              have H2 := Lib.hid (halves_none H1.out (by omega))
              have P2 := Lib.hid P1.out
              have Z2 := Lib.hid Z1.out
              have T2 := Lib.hid T1.out
              clear H1 P1 Z1 T1
              have H3 := Lib.hid (halves_done H2.out (by omega))
              have P3 := Lib.hid P2.out
              have T3 := Lib.hid T2.out
              clear H2 P2 Z2 T2
              go_wp2
              go_end0
              exact ⟨rfl, _, ⟨P3.out, H3.out⟩, T3.out⟩
        · have hB : ¬ s < mid := cB
          have y0 : a < s := by omega
          have y1 : ¬ m < e := by omega
          have y2 : mid < e := by omega
          have y3 : e < b := by omega
          have H1 := Lib.hid (FD.out.2.2.2.2 d (fun t => by rw [rotI_id (by omega) (by omega) (by omega)]))
          rw [← HMD.out, ← HE.out] at H1
          have P1 := Lib.hid (permIn_refl d a b)
          have Z1 := Lib.hid HS.out
          have T1 := Lib.hid S1.out
          have H2 := Lib.hid (halves_none H1.out (by omega))
          have P2 := Lib.hid P1.out
          have Z2 := Lib.hid Z1.out
          have T2 := Lib.hid T1.out
          clear H1 P1 Z1 T1
          go_wp2_with fail
          refine (ih.out mid e b d wr (by omega) Z2.out T2.out (by omega) (by omega) (by omega) H2.out.2.2.2.2.2.2.1 H2.out.2.2.2.2.2.2.2.1).mono ?_
          rintro e3 w3 ⟨rfl, d3, hp, hS⟩
          have H3 := Lib.hid (halves_right (by rw [Z2.out]; omega) H2.out hp)
          have P3 := Lib.hid (permIn_trans _ _ _ _ _ P2.out (merged_wide hp (by omega) (by omega) (by rw [Z2.out]; omega)))
          have T3 := Lib.hid hS
          clear hp hS
          clear H2 P2 Z2 T2
          go_wp2
          go_end0
          exact ⟨rfl, _, ⟨P3.out, H3.out⟩, T3.out⟩
      · by_cases cB : s < mid
        · have y0 : a < s := by omega
          have y1 : ¬ mid < e := by omega
          have H1 := Lib.hid (FD.out.2.2.2.2 d (fun t => by rw [rotI_id (by omega) (by omega) (by omega)]))
          rw [← HMD.out, ← HE.out] at H1
          have P1 := Lib.hid (permIn_refl d a b)
          have Z1 := Lib.hid HS.out
          have T1 := Lib.hid S1.out
          go_wp2_with fail
          refine (ih.out a s mid d wr (by omega) Z1.out T1.out (by omega) (by omega) (by omega) H1.out.2.2.2.2.1 H1.out.2.2.2.2.2.1).mono ?_
          rintro e2 w2 ⟨rfl, d2, hp, hS⟩
          have H2 := Lib.hid (halves_left (by rw [Z1.out]; omega) H1.out hp)
          have P2 := Lib.hid (permIn_trans _ _ _ _ _ P1.out (merged_wide hp (by omega) (by omega) (by rw [Z1.out]; omega)))
          have Z2 := Lib.hid (hp.1.1.trans Z1.out)
          have T2 := Lib.hid hS
          clear hp hS H1 P1 Z1 T1
          have H3 := Lib.hid (halves_done H2.out (by omega))
          have P3 := Lib.hid P2.out
          have T3 := Lib.hid T2.out
          clear H2 P2 Z2 T2
          go_wp2
          go_end0
          exact ⟨rfl, _, ⟨P3.out, H3.out⟩, T3.out⟩
        · have y0 : a < s := by omega
          have y1 : ¬ mid < e := by omega
          have H1 := Lib.hid (FD.out.2.2.2.2 d (fun t => by rw [rotI_id (by omega) (by omega) (by omega)]))
          rw [← HMD.out, ← HE.out] at H1
          have P1 := Lib.hid (permIn_refl d a b)
          have Z1 := Lib.hid HS.out
          have T1 := Lib.hid S1.out
          have H2 := Lib.hid (halves_none H1.out (by omega))
          have P2 := Lib.hid P1.out
          have Z2 := Lib.hid Z1.out
          have T2 := Lib.hid T1.out
          clear H1 P1 Z1 T1
          have H3 := Lib.hid (halves_done H2.out (by omega))
          have P3 := Lib.hid P2.out
          have T3 := Lib.hid T2.out
          clear H2 P2 Z2 T2
          go_wp2
          go_end0
          exact ⟨rfl, _, ⟨P3.out, H3.out⟩, T3.out⟩

theorem merge (F : Facts P k) (enc : α → List Value) (cf : α → α → Int) (g : Nat) (cb : Array Value) (blk off cap : Nat) (d0 : Array α) (w0 : World) (eg : ∀ args w, (callFunc g args).run P w = .ok (.enter g args) w) (hC : Cmp P g cb enc k cf blk off d0.size w0) (O : SWO (lt cf)) (R : Row enc k w0 blk off d0) (hsz : d0.size < 4611686018427387904) : ∀ N, Upto P k enc cf g cb blk off cap d0 w0 N
  | 0 => fun a m b d w hN => absurd hN (Nat.not_lt_zero _)
  | N + 1 => fun a m b d w hN hs S h1 h2 h3 k1 k2 => by
    have ih := merge F enc cf g cb blk off cap d0 w0 eg hC O R hsz N
    by_cases c1 : m = a + 1
    · subst c1
      exact left1 F enc cf g cb blk off cap d0 w0 eg hC O R hsz a b d w hs S h2 h3 k2
    · by_cases c2 : b = m + 1
      · subst c2
        exact right1 F enc cf g cb blk off cap d0 w0 eg hC O R hsz a m d w hs S (by omega) h3 k1
      · by_cases c3 : (a + b) / 2 < m
        · exact step_hi F enc cf g cb blk off cap d0 w0 eg hC O R hsz N ih a m b d w hN hs S (by omega) (by omega) h3 k1 k2 c3
        · exact step_lo F enc cf g cb blk off cap d0 w0 eg hC O R hsz N ih a m b d w hN hs S (by omega) (by omega) h3 k1 k2 (by omega)
end
end Go.Proofs.YtaahaepgabcebaaDoor.SymG
