/- What slices.stableCmpFunc does: it sorts the row. Condition: at most 4000000 elements. -/
import Derived.Test.YtaahaepgabcebaaDoorSymG
import Derived.Test.YtaahaepgabcebaaDoorMerge2
namespace Go.Proofs.YtaahaepgabcebaaDoor.StabK
open Go.RowKit Go.Sort Go.Shelf Go.Proofs.YtaahaepgabcebaaDoor.Merge Go.Proofs.YtaahaepgabcebaaDoor.SortK Go.Proofs.YtaahaepgabcebaaDoor.SwapK Go.Proofs.YtaahaepgabcebaaDoor.RotK Go.Proofs.YtaahaepgabcebaaDoor.InsK Go.Proofs.YtaahaepgabcebaaDoor.SymK Go.Proofs.YtaahaepgabcebaaDoor.SymG

section
variable {P : Program} {α : Type} [Inhabited α] {k : Nat}
/-- The row so far: a permutation of d, with full runs of length s up to a. -/
def Pre (cf : α → α → Int) (s n a : Nat) (d dk : Array α) : Prop := PermIn 0 n d dk ∧ ∃ q, Full (lt cf) s dk q a
theorem pre_next {cf : α → α → Int} {s n a : Nat} {d dk d' : Array α} (hn : n ≤ dk.size) (h : Pre cf s n a d dk) (M : Merged (lt cf) a (a + s) dk d') (ha : a + s ≤ n) : Pre cf s n (a + s) d d' := by
  obtain ⟨h1, q, h2⟩ := h
  exact ⟨permIn_trans _ _ _ _ _ h1 (merged_wide M (Nat.zero_le _) ha hn), q + 1, a, rfl, M.2, full_congr q a (fun t ht => M.1.2.1 t (Or.inl ht)) h2⟩
/-- ... and runs of length s from there on. -/
def All (cf : α → α → Int) (s n : Nat) (d dk : Array α) : Prop := PermIn 0 n d dk ∧ ∃ q, Runs (lt cf) s n dk q 0
theorem pre_end {cf : α → α → Int} {s n a : Nat} {d dk d' : Array α} (hn : n ≤ dk.size) (h : Pre cf s n a d dk) (M : Merged (lt cf) a n dk d') (ha : a ≤ n) (hs : n ≤ a + s) : All cf s n d d' := by
  obtain ⟨h1, q, h2⟩ := h
  exact ⟨permIn_trans _ _ _ _ _ h1 (merged_wide M (Nat.zero_le _) (Nat.le_refl _) hn), full_runs q a 0 (full_congr q a (fun t ht => M.1.2.1 t (Or.inl ht)) h2) ha ⟨M.2, hs⟩⟩
theorem pre_none {cf : α → α → Int} {s n a : Nat} {d dk : Array α} (h : Pre cf s n a d dk) (M : SortedIn (lt cf) a n dk) (ha : a ≤ n) (hs : n ≤ a + s) : All cf s n d dk := by
  obtain ⟨h1, q, h2⟩ := h
  exact ⟨h1, full_runs q a 0 h2 ha ⟨M, hs⟩⟩
theorem ins_merged {cf : α → α → Int} (O : SWO (lt cf)) (d : Array α) (a b : Nat) (hab : a ≤ b) (hb : b ≤ d.size) : Merged (lt cf) a b d (Sort.insertionSort (lt cf) d a b) := insertionSort_holds O d a b hab hb

set_option maxHeartbeats 8000000 in
set_option maxRecDepth 1000000 in
theorem stable (F : Facts P k) (enc : α → List Value) (cf : α → α → Int) (g : Nat) (cb : Array Value) (blk off cap : Nat) (d0 : Array α) (w0 : World) (eg : ∀ args w, (callFunc g args).run P w = .ok (.enter g args) w) (hC : Cmp P g cb enc k cf blk off d0.size w0) (O : SWO (lt cf)) (R : Row enc k w0 blk off d0) (hsz : d0.size ≤ 800000000) (d : Array α) (w : World) (hs : d.size = d0.size) (S : SB enc k w0 blk off d w) :
    Calls P 42 #[.slice (some ⟨blk, off, none⟩) d0.size cap, .int .i64 d0.size, .func (.func g) #[] cb] w fun e w' => e = .returned (.tuple #[]) ∧ Mrg enc k cf w0 blk off 0 d0.size d w' := by
  have mixed := F.mixed; have t0 := F.t0; have a0 := F.a0; have z0 := F.z0; have v0 := F.v0; have t3 := F.t3; have a3 := F.a3; have z3 := F.z3; have v3 := F.v3; have t4 := F.t4; have a4 := F.a4; have z4 := F.z4; have v4 := F.v4; have tS := F.tS; have aS := F.aS; have zS := F.zS; have vS := F.vS; have tF := F.tF; have aF := F.aF; have zF := F.zF; have vF := F.vF; have tU := F.tU; have aU := F.aU; have zU := F.zU; have vU := F.vU; have aE := F.aE; have zE := F.zE
  have FG := F.fSta
  have eS : ∀ args w, (callFunc 50 args).run P w = .ok (.enter 50 args) w := enters_of F.fSym (by kernel_rfl) rfl
  have eI : ∀ args w, (callFunc 49 args).run P w = .ok (.enter 49 args) w := enters_of F.fIns (by kernel_rfl) rfl
  have IN := Lib.hid (fun (a b : Nat) (dk : Array α) (W : World) (h : dk.size = d0.size) (hS : SB enc k w0 blk off dk W) (hab : a ≤ b) (hb : b ≤ d0.size) => insertion F enc cf g cb blk off cap a b d0 dk w0 W eg hC R h hS hab (by rw [h]; exact hb) (by rw [h]; omega))
  have SM := Lib.hid (fun N => merge F enc cf g cb blk off cap d0 w0 eg hC O R (by omega) N)
  have S0 := Lib.hid S
  have HS := Lib.hid hs
  have P0 : Hid (Pre cf 20 d0.size 0 d d) := ⟨permIn_refl _ _ _, 0, rfl⟩
  clear S hC hs
  obtain ⟨n, hn⟩ : ∃ n, n = d0.size := ⟨_, rfl⟩
  rw [← hn] at P0 hsz ⊢
  have HN := Lib.hid hn
  clear hn
  go_enter FG, Tryd.ntmps42
  go_wp2
  go_loopw [7, 8] (fun x y wr => ∃ (a : Nat) (dk : Array α), x = .int .i64 a ∧ y = .int .i64 ((a + 20 : Nat) : Int) ∧ a ≤ n ∧ Hid (dk.size = d0.size) ∧ Hid (Pre cf 20 n a d dk) ∧ Hid (SB enc k w0 blk off dk wr)) (fun x _ _ => n - (intOf x).toNat)
  case atStart => exact ⟨0, d, rfl, rfl, Nat.zero_le _, HS.out, P0.out, S0.out⟩
  case round =>
    clear S0 P0
    obtain ⟨a, dk, rfl, rfl, ha, HZ, PR, S1⟩ := hrel
    by_cases hle : a + 20 ≤ n
    · have hc := IN.out a (a + 20) dk wr HZ.out S1.out (by omega) (by rw [← HN.out]; exact hle)
      rw [HZ.out, ← HN.out] at hc
      have HC := Lib.hid hc
      clear hc
      have M1 := Lib.hid (pre_next (by rw [HZ.out, ← HN.out]; exact Nat.le_refl _) PR.out (ins_merged O dk a (a + 20) (by omega) (by rw [HZ.out, ← HN.out]; exact hle)) hle)
      have Z1 := Lib.hid ((ins_merged O dk a (a + 20) (by omega) (by rw [HZ.out, ← HN.out]; exact hle)).1.1.trans HZ.out)
      generalize Sort.insertionSort (lt cf) dk a (a + 20) = dj at *
      obtain ⟨b, hb⟩ : ∃ b, b = a + 20 := ⟨_, rfl⟩
      rw [← hb] at HC M1 hle ⊢
      have hb1 : b ≤ a + 20 := by omega
      have hb2 : a + 20 ≤ b := by omega
      clear hb
      go_wp2_with fail
      refine HC.out.mono ?_
      rintro e w1 ⟨rfl, hS⟩
      have S2 := Lib.hid hS
      clear hS HC
      go_wp2
      go_roundw
      case rel => exact ⟨b, dj, rfl, by congr 1 <;> omega, by omega, Z1.out, M1.out, S2.out⟩
      case measure => simp [intOf]; omega
    · have hc := IN.out a n dk wr HZ.out S1.out ha (by rw [← HN.out]; exact Nat.le_refl _)
      rw [HZ.out, ← HN.out] at hc
      have HC := Lib.hid hc
      clear hc
      have A1 := Lib.hid (pre_end (by rw [HZ.out, ← HN.out]; exact Nat.le_refl _) PR.out (ins_merged O dk a n ha (by rw [HZ.out, ← HN.out]; exact Nat.le_refl _)) ha (by omega))
      have Z1 := Lib.hid ((ins_merged O dk a n ha (by rw [HZ.out, ← HN.out]; exact Nat.le_refl _)).1.1.trans HZ.out)
      generalize Sort.insertionSort (lt cf) dk a n = dj at *
      have hle' : ¬ ((a + 20 : Nat) : Int) ≤ (n : Int) := by omega
      clear PR S1 HZ
      go_wp2_with fail
      refine HC.out.mono ?_
      rintro e w1 ⟨rfl, hS⟩
      have S2 := Lib.hid hS
      clear hS HC
      go_wp2
      go_loopw [6, 7, 8, 9] (fun x _ _ _ wr => ∃ (s : Nat) (dk : Array α), x = .int .i64 s ∧ 20 ≤ s ∧ s ≤ 2 * n + 20 ∧ Hid (dk.size = d0.size) ∧ Hid (All cf s n d dk) ∧ Hid (SB enc k w0 blk off dk wr)) (fun x _ _ _ _ => n - (intOf x).toNat)
      case atStart => exact ⟨20, dj, rfl, Nat.le_refl _, by omega, Z1.out, A1.out, S2.out⟩
      case round =>
        clear S2 A1 Z1
        obtain ⟨s, dk, rfl, hs1, hs2, HZ, AL, S1⟩ := hrel
        by_cases hsn : s < n
        · have P1 : Hid (Pre cf (2 * s) n 0 d dk) := ⟨AL.out.1, 0, rfl⟩
          go_wp2
          go_loopw [7, 8] (fun x y wr => ∃ (a : Nat) (dk : Array α), x = .int .i64 a ∧ y = .int .i64 ((a + 2 * s : Nat) : Int) ∧ a ≤ n ∧ Hid (dk.size = d0.size) ∧ Hid (Pre cf (2 * s) n a d dk) ∧ Hid (∃ q, Runs (lt cf) s n dk q a) ∧ Hid (SB enc k w0 blk off dk wr)) (fun x _ _ => n - (intOf x).toNat)
          case atStart => exact ⟨0, dk, rfl, by first | rfl | (congr 1 <;> omega), Nat.zero_le _, HZ.out, P1.out, AL.out.2, S1.out⟩
          case round =>
            clear S1 HZ AL P1
            obtain ⟨a, dk, rfl, rfl, ha, HZ, PR, RU, S1⟩ := hrel
            by_cases hle' : a + 2 * s ≤ n
            · obtain ⟨q, hq⟩ := RU.out
              obtain ⟨r1, r2, r3⟩ := runs_two hq hle' (by omega)
              have hc := SM.out (n + 1) a (a + s) (a + 2 * s) dk wr (by omega) HZ.out S1.out (by omega) (by omega) (by rw [← HN.out]; exact hle') r1 r2
              rw [← HN.out] at hc
              have HC := Lib.hid hc
              have R3 := Lib.hid r3
              clear hc hq r1 r2 r3 RU
              obtain ⟨b, hb⟩ : ∃ b, b = a + 2 * s := ⟨_, rfl⟩
              obtain ⟨m, hm⟩ : ∃ m, m = a + s := ⟨_, rfl⟩
              rw [← hb, ← hm] at HC
              have hme : (a : Int) + (s : Int) = (m : Int) := by omega
              have HB := Lib.hid hb
              rw [← hb]
              have hb1 : b ≤ a + 2 * s := by omega
              have hb2 : a + 2 * s ≤ b := by omega
              have hbn : b ≤ n := by omega
              clear hb hm hle'
              go_wp2_with fail
              refine HC.out.mono ?_
              rintro e w1 ⟨rfl, d1, hM, hS⟩
              have S2 := Lib.hid hS
              have Z2 := Lib.hid (hM.1.1.trans HZ.out)
              rw [HB.out] at hM
              have P2 := Lib.hid (pre_next (by rw [HZ.out, ← HN.out]; exact Nat.le_refl _) PR.out hM (by omega))
              have R2 := Lib.hid (show ∃ q, Runs (lt cf) s n d1 q (a + 2 * s) from by obtain ⟨q, hq⟩ := R3.out; exact ⟨q, runs_congr q _ (fun t ht => hM.1.2.1 t (Or.inr ht)) hq⟩)
              rw [← HB.out] at P2 R2
              clear hM hS HC R3 PR S1
              go_wp2
              go_roundw
              case rel => exact ⟨b, d1, rfl, by congr 1 <;> omega, hbn, Z2.out, P2.out, R2.out, S2.out⟩
              case measure => simp [intOf]; omega
            · have hle2 : ¬ ((a + 2 * s : Nat) : Int) ≤ (n : Int) := by omega
              by_cases hmn : a + s < n
              · obtain ⟨q, hq⟩ := RU.out
                obtain ⟨r1, r2⟩ := runs_tail hq hmn (by omega)
                have hc := SM.out (n + 1) a (a + s) n dk wr (by omega) HZ.out S1.out (by omega) hmn (by rw [← HN.out]; exact Nat.le_refl _) r1 r2
                rw [← HN.out] at hc
                have HC := Lib.hid hc
                clear hc hq r1 r2 RU
                obtain ⟨m, hm⟩ : ∃ m, m = a + s := ⟨_, rfl⟩
                rw [← hm] at HC hmn
                have hme : (a : Int) + (s : Int) = (m : Int) := by omega
                clear hm
                go_wp2_with fail
                refine HC.out.mono ?_
                rintro e w1 ⟨rfl, d1, hM, hS⟩
                have S2 := Lib.hid hS
                have Z2 := Lib.hid (hM.1.1.trans HZ.out)
                have A2 := Lib.hid (pre_end (by rw [HZ.out, ← HN.out]; exact Nat.le_refl _) PR.out hM ha (by omega))
                clear hM hS HC PR S1
                go_wp2
                go_roundw
                case rel => exact ⟨2 * s, d1, by congr 1 <;> omega, by omega, by omega, Z2.out, A2.out, S2.out⟩
                case measure => simp [intOf]; omega
              · have hmn' : ¬ (a : Int) + (s : Int) < (n : Int) := by omega
                have A2 := Lib.hid (show All cf (2 * s) n d dk from by obtain ⟨q, hq⟩ := RU.out; exact pre_none PR.out (runs_one hq (by omega)) ha (by omega))
                clear RU PR
                go_wp2
                go_roundw
                case rel => exact ⟨2 * s, dk, by congr 1 <;> omega, by omega, by omega, HZ.out, A2.out, S1.out⟩
                case measure => simp [intOf]; omega
        · have hsn' : ¬ (s : Int) < (n : Int) := by omega
          go_wp2
          go_end0
          refine ⟨rfl, dk, ⟨AL.out.1, ?_⟩, S1.out⟩
          obtain ⟨q, hq⟩ := AL.out.2
          exact runs_done hq (by omega)
end
end Go.Proofs.YtaahaepgabcebaaDoor.StabK
