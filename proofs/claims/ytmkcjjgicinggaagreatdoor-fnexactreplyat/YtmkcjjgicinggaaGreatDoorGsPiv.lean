/- What sort.choosePivot_func does: it chooses a place of the range; the row is not turned. -/
import Derived.Test.YtmkcjjgicinggaaGreatDoorGsMed
namespace Go.Proofs.YtmkcjjgicinggaaGreatDoor.GsPiv
open Go.RowKit Go.Sort Go.Lib Go.Proofs.YtmkcjjgicinggaaGreatDoor.Mem Go.Proofs.YtmkcjjgicinggaaGreatDoor.GsDef Go.Proofs.YtmkcjjgicinggaaGreatDoor.GsMed

section
variable {α : Type} [Inhabited α] {g : Nat} {lb : Array Value} {sf : Nat} {sb : Array Value} {enc : α → Value} {lt : α → α → Bool} {blk off size : Nat} {w0 : World}

theorem grown_new {w w1 w2 : World} {c : Nat} (h : Below w.heap.size w w1) (hc : w.heap.size ≤ c) (hg : w1.grownBy w2 (some c)) : Below w.heap.size w w2 :=
  ⟨hg.os.trans h.os, hg.tape.trans h.tape, hg.output.trans h.output, Nat.le_trans h.size hg.size, fun k hk => (hg.block k (Nat.lt_of_lt_of_le hk h.size) (fun e => by cases e; omega)).trans (h.block k hk)⟩

theorem med_lt {d : Array α} {x y z s n : Nat} (hx : x < n) (hy : y < n) (hz : z < n) : (Sort.median lt d x y z s).1 < n := by
  rcases median_mem lt d x y z s with h | h | h <;> rw [h] <;> assumption

theorem adj_lt {d : Array α} {x s n : Nat} (hx : x + 1 < n) : (Sort.medianAdjacent lt d x s).1 < n := by
  rcases medianAdjacent_mem lt d x s with h | h | h <;> rw [h] <;> omega

set_option maxHeartbeats 8000000 in
set_option maxRecDepth 100000 in
theorem pivot (E : En Tryz.prog g lb sf sb enc lt blk off size w0) (a b : Nat) (d : Array α) (w : World) (S : St enc w0 blk off d w) (hs : d.size = size) (hab : a < b) (hb : b ≤ size) :
    Calls Tryz.prog 204 #[.agg #[.func (.func g) #[] lb, .func (.func sf) #[] sb], .int .i64 a, .int .i64 b] w fun e w' =>
      e = .returned (.tuple #[.int .i64 (choosePivot lt d a b).1, .int .i64 (hintCode (choosePivot lt d a b).2)]) ∧ St enc w0 blk off d w' ∧ Below w.heap.size w w' := by
  have small := E.small
  have hw0 : w0.heap.size ≤ w.heap.size := S.1.1.size
  have HS := Lib.hid ((S.alloc (.cells #[.func (.func g) #[] lb, .func (.func sf) #[] sb] 185)).alloc (.cells #[.int .i64 0] 3))
  have HL := Lib.hid (((Below.refl w.heap.size w).alloc (Nat.le_refl _) (.cells #[.func (.func g) #[] lb, .func (.func sf) #[] sb] 185)).alloc (by simp) (.cells #[.int .i64 0] 3))
  have hz1 : (w.alloc (.cells #[.func (.func g) #[] lb, .func (.func sf) #[] sb] 185)).heap.size = w.heap.size + 1 := by simp
  have HT := Lib.hid ((tw_new w 185 (.func (.func g) #[] lb) (.func (.func sf) #[] sb)).below ((Below.refl _ _).alloc (Nat.le_refl _) (.cells #[.int .i64 0] 3)))
  have HC : Hid (Cs ((w.alloc (.cells #[.func (.func g) #[] lb, .func (.func sf) #[] sb] 185)).alloc (.cells #[.int .i64 0] 3)) (w.heap.size + 1) 0) := by
    have hb : Bk ((w.alloc (.cells #[.func (.func g) #[] lb, .func (.func sf) #[] sb] 185)).alloc (.cells #[.int .i64 0] 3)) (w.heap.size + 1) 3 [.int .i64 0] := by
      have := heap_alloc_new (w.alloc (.cells #[.func (.func g) #[] lb, .func (.func sf) #[] sb] 185)) (.cells #[.int .i64 0] 3)
      rw [hz1] at this
      exact this
    exact ⟨hb.cell 0, hb.free 0⟩
  have NB : Hid (some w.heap.size ≠ some (w.heap.size + 1)) := fun e => absurd (Option.some.inj e) (by omega)
  have HZ := Lib.hid hs
  have hc : w0.heap.size ≤ w.heap.size + 1 := by omega
  have ME := Lib.hid (fun x y z s W S C h1 h2 h3 h4 => median E x y z (w.heap.size + 1) s d W S hs C hc h1 h2 h3 h4)
  have MA := Lib.hid (fun x s W S C h1 h2 h3 => adjacent E x (w.heap.size + 1) s d W S hs C hc h1 h2 h3)
  obtain ⟨I, hI⟩ : ∃ I : Nat, I = a + (b - a) / 4 * 1 := ⟨_, rfl⟩
  obtain ⟨J, hJ⟩ : ∃ J : Nat, J = a + (b - a) / 4 * 2 := ⟨_, rfl⟩
  obtain ⟨K, hK⟩ : ∃ K : Nat, K = a + (b - a) / 4 * 3 := ⟨_, rfl⟩
  have HF : Hid (choosePivot lt d a b = ((rawPivot lt d a b).1, hintOf (rawPivot lt d a b).2)) := choosePivot_eq lt d a b
  have HR : Hid (rawPivot lt d a b = if b - a ≥ 8 then (if b - a ≥ 50 then Sort.median lt d (Sort.medianAdjacent lt d I 0).1 (Sort.medianAdjacent lt d J (Sort.medianAdjacent lt d I 0).2).1 (Sort.medianAdjacent lt d K (Sort.medianAdjacent lt d J (Sort.medianAdjacent lt d I 0).2).2).1 (Sort.medianAdjacent lt d K (Sort.medianAdjacent lt d J (Sort.medianAdjacent lt d I 0).2).2).2 else Sort.median lt d I J K 0) else (J, 0)) := show _ = _ by subst hI hJ hK; rfl
  have bI : I < b := by omega
  have bJ : J < b := by omega
  have bK : K < b := by omega
  have eI : ((a : Int) + ((b : Int) - (a : Int)) / 4) = (I : Int) := by omega
  have eJ : ((a : Int) + ((b : Int) - (a : Int)) / 4 * 2) = (J : Int) := by omega
  have eK : ((a : Int) + ((b : Int) - (a : Int)) / 4 * 3) = (K : Int) := by omega
  have hba : ((b : Int) - (a : Int)) ≥ 0 := by omega
  clear S hs hz1
  have HI : Hid (50 ≤ b - a → 1 ≤ I ∧ I + 1 < size ∧ 1 ≤ J ∧ J + 1 < size ∧ 1 ≤ K ∧ K + 1 < size) := fun h => by omega
  clear hI hJ hK
  go_enter Tryz.func204, Tryz.ntmps204
  go_upto_region 3 with (fail)
  generalize (w.alloc (.cells #[.func (.func g) #[] lb, .func (.func sf) #[] sb] 185)).alloc (.cells #[.int .i64 0] 3) = w1 at *
  generalize hcc : w.heap.size + 1 = c at *
  have hcw : w.heap.size ≤ c := by omega
  clear hcc
  go_upto_if 32 with (fail)
  go_cut [10, 11, 12] (fun _ s11 _ wx => ∃ j s : Nat, s11 = .int .i64 j ∧ Hid (rawPivot lt d a b = (j, s)) ∧ Hid (St enc w0 blk off d wx) ∧ Hid (Cs wx c s) ∧ Hid (Below w.heap.size w wx))
  case first =>
    by_cases h8 : b - a ≥ 8
    · have h8z : (b : Int) - (a : Int) ≥ 8 := by omega
      by_cases h50 : b - a ≥ 50
      · have h50z : (b : Int) - (a : Int) ≥ 50 := by omega
        obtain ⟨i1, i2, i3, i4, i5, i6⟩ := HI.out h50
        obtain ⟨m1, s1, e1⟩ : ∃ m s, Sort.medianAdjacent lt d I 0 = (m, s) := ⟨_, _, rfl⟩
        obtain ⟨m2, s2, e2⟩ : ∃ m s, Sort.medianAdjacent lt d J s1 = (m, s) := ⟨_, _, rfl⟩
        obtain ⟨m3, s3, e3⟩ : ∃ m s, Sort.medianAdjacent lt d K s2 = (m, s) := ⟨_, _, rfl⟩
        obtain ⟨m4, s4, e4⟩ : ∃ m s, Sort.median lt d m1 m2 m3 s3 = (m, s) := ⟨_, _, rfl⟩
        have k1 := medianAdjacent_count lt d I 0
        have k2 := medianAdjacent_count lt d J s1
        have k3 := medianAdjacent_count lt d K s2
        have l1 := adj_lt (lt := lt) (d := d) (s := 0) i2
        have l2 := adj_lt (lt := lt) (d := d) (s := s1) i4
        have l3 := adj_lt (lt := lt) (d := d) (s := s2) i6
        rw [e1] at k1 l1
        rw [e2] at k2 l2
        rw [e3] at k3 l3
        have M1 := Lib.hid (fun W S C => MA.out I 0 W S C i1 i2 (by omega))
        have M2 := Lib.hid (fun W S C => MA.out J s1 W S C i3 i4 (by simp only at k1; omega))
        have M3 := Lib.hid (fun W S C => MA.out K s2 W S C i5 i6 (by simp only at k1 k2; omega))
        have M4 := Lib.hid (fun W S C => ME.out m1 m2 m3 s3 W S C l1 l2 l3 (by simp only at k1 k2 k3; omega))
        have HQ : Hid (rawPivot lt d a b = (m4, s4)) := show _ = _ by rw [HR.out, if_pos h8, if_pos h50]; simp only [e1, e2, e3, e4]
        rw [e1] at M1
        rw [e2] at M2
        rw [e3] at M3
        rw [e4] at M4
        clear MA ME e1 e2 e3 e4 k1 k2 k3 l1 l2 l3 HR HI
        obtain ⟨c0, c1⟩ := HT.out
        go_wp2_with fail
        refine (M1.out w1 HS.out HC.out).mono ?_
        rintro e w2 ⟨rfl, hS, hC, hG⟩
        replace HS := Lib.hid hS
        replace HC := Lib.hid hC
        replace HT := Lib.hid (HT.out.grown hG NB.out)
        replace HL := Lib.hid (grown_new HL.out hcw hG)
        clear hS hC hG c0 c1 M1
        obtain ⟨c0, c1⟩ := HT.out
        go_wp2_with fail
        refine (M2.out w2 HS.out HC.out).mono ?_
        rintro e w3 ⟨rfl, hS, hC, hG⟩
        replace HS := Lib.hid hS
        replace HC := Lib.hid hC
        replace HT := Lib.hid (HT.out.grown hG NB.out)
        replace HL := Lib.hid (grown_new HL.out hcw hG)
        clear hS hC hG c0 c1 M2
        obtain ⟨c0, c1⟩ := HT.out
        go_wp2_with fail
        refine (M3.out w3 HS.out HC.out).mono ?_
        rintro e w4 ⟨rfl, hS, hC, hG⟩
        replace HS := Lib.hid hS
        replace HC := Lib.hid hC
        replace HT := Lib.hid (HT.out.grown hG NB.out)
        replace HL := Lib.hid (grown_new HL.out hcw hG)
        clear hS hC hG c0 c1 M3
        obtain ⟨c0, c1⟩ := HT.out
        go_wp2_with fail
        refine (M4.out w4 HS.out HC.out).mono ?_
        rintro e w5 ⟨rfl, hS, hC, hG⟩
        replace HS := Lib.hid hS
        replace HC := Lib.hid hC
        replace HL := Lib.hid (grown_new HL.out hcw hG)
        clear hS hC hG c0 c1 M4 HT
        go_wp2_with fail
        go_meet
        case rel => exact ⟨m4, s4, rfl, HQ.out, HS.out, HC.out, HL.out⟩
      · have h50z : ¬ (b : Int) - (a : Int) ≥ 50 := by omega
        obtain ⟨m4, s4, e4⟩ : ∃ m s, Sort.median lt d I J K 0 = (m, s) := ⟨_, _, rfl⟩
        have M4 := Lib.hid (fun W S C => ME.out I J K 0 W S C (by omega) (by omega) (by omega) (by omega))
        have HQ : Hid (rawPivot lt d a b = (m4, s4)) := show _ = _ by rw [HR.out, if_pos h8, if_neg h50]; simp only [e4]
        rw [e4] at M4
        clear MA ME e4 HR HI
        obtain ⟨c0, c1⟩ := HT.out
        go_wp2_with fail
        refine (M4.out w1 HS.out HC.out).mono ?_
        rintro e w5 ⟨rfl, hS, hC, hG⟩
        replace HS := Lib.hid hS
        replace HC := Lib.hid hC
        replace HL := Lib.hid (grown_new HL.out hcw hG)
        clear hS hC hG c0 c1 M4 HT
        go_wp2_with fail
        go_meet
        case rel => exact ⟨m4, s4, rfl, HQ.out, HS.out, HC.out, HL.out⟩
    · have h8z : ¬ (b : Int) - (a : Int) ≥ 8 := by omega
      have HQ : Hid (rawPivot lt d a b = (J, 0)) := show _ = _ by rw [HR.out, if_neg h8]
      go_wp2_with fail
      go_meet
      case rel => exact ⟨J, 0, rfl, HQ.out, HS.out, HC.out, HL.out⟩
  case rest =>
    clear HS HC HL HT MA ME HR HI
    obtain ⟨j, s, rfl, HQ, HS, HC, HL⟩ := hcut
    have HV : Hid (choosePivot lt d a b = (j, hintOf s)) := show _ = _ by rw [HF.out, HQ.out]
    obtain ⟨c0, _⟩ := HC.out
    by_cases h0 : s = 0
    · subst h0
      go_wp2
      go_ret2
      exact ⟨by rw [HV.out]; rfl, HS.out, HL.out⟩
    · have h0z : ((s : Int) == 0) = false := by simpa using h0
      by_cases h12 : s = 12
      · subst h12
        go_wp2
        go_ret2
        exact ⟨by rw [HV.out]; rfl, HS.out, HL.out⟩
      · have h12z : ((s : Int) == 12) = false := by have : ¬ (s : Int) = 12 := by omega
                                                    simpa using this
        have HH : Hid (hintCode (hintOf s) = 0) := show _ = _ by unfold hintOf; rw [if_neg h0, if_neg h12]; rfl
        go_wp2
        go_ret2
        exact ⟨by rw [HV.out]; simp only [HH.out]; rfl, HS.out, HL.out⟩
end
end Go.Proofs.YtmkcjjgicinggaaGreatDoor.GsPiv
