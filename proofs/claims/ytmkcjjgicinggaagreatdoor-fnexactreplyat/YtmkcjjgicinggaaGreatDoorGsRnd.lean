/- Plain mathematics: one round of the library's sort, by what its tests say. -/
import Derived.Test.YtmkcjjgicinggaaGreatDoorMem
import Derived.Sort.AssemblyPlain
import Derived.Sort.Walk13a
import Derived.Sort.LotD4
namespace Go.Proofs.YtmkcjjgicinggaaGreatDoor.GsRnd
open Go.RowKit Go.Sort Go.Lib

section
variable {α : Type} [Inhabited α] {lt : α → α → Bool}

set_option maxHeartbeats 1000000 in
theorem rnd (hO : SWO lt) (d : Array α) (a b lim : Nat) (wb wp : Bool) (hab : a < b) (hb : b ≤ d.size) (hB : Sort.Below lt a b d) (h12 : ¬ b - a ≤ 12) (h0 : ¬ lim = 0) :
    ∃ (d1 : Array α) (lm c1 : Nat) (c2 : Hint) (d2 : Array α) (pv : Nat) (ht : Hint) (p1 : Array α) (p2 : Bool),
      (wb = true → d1 = d ∧ lm = lim) ∧ (wb = false → d1 = breakPatterns d a b ∧ lm = lim - 1) ∧ choosePivot lt d1 a b = (c1, c2) ∧
      (c2 = .decreasing → d2 = reverseRange d1 a b ∧ pv = (b - 1) - (c1 - a) ∧ ht = .increasing) ∧ (c2 ≠ .decreasing → d2 = d1 ∧ pv = c1 ∧ ht = c2) ∧
      ((wb && wp && decide (ht = .increasing)) = true → partialInsertionSort lt d2 a b = (p1, p2)) ∧ ((wb && wp && decide (ht = .increasing)) = false → p1 = d2 ∧ p2 = false) ∧
      (d1.size = d.size ∧ (a ≤ c1 ∧ c1 < b) ∧ d2.size = d.size ∧ (a ≤ pv ∧ pv < b) ∧ p1.size = d.size) ∧ lm ≤ lim ∧
      (p2 = true → pdq lt d a b lim wb wp = p1) ∧
      (p2 = false → (decide (a > 0) && !lt p1[a - 1]! p1[pv]!) = true → ∀ mid d4, partitionEqual lt p1 a b pv = (mid, d4) → a < mid ∧ mid ≤ b ∧ d4.size = p1.size ∧ Sort.Below lt mid b d4 ∧ pdq lt d a b lim wb wp = pdq lt d4 mid b lm wb wp) ∧
      (p2 = false → (decide (a > 0) && !lt p1[a - 1]! p1[pv]!) = false → ∀ mid ap d4, partition lt p1 a b pv = (mid, ap, d4) → a ≤ mid ∧ mid < b ∧ d4.size = p1.size ∧
        (mid - a < b - mid → Sort.Below lt a mid d4 ∧ (pdq lt d4 a mid lm true true).size = d4.size ∧ Sort.Below lt (mid + 1) b (pdq lt d4 a mid lm true true) ∧ pdq lt d a b lim wb wp = pdq lt (pdq lt d4 a mid lm true true) (mid + 1) b lm (decide (mid - a ≥ (b - a) / 8)) ap) ∧
        (¬ mid - a < b - mid → Sort.Below lt (mid + 1) b d4 ∧ (pdq lt d4 (mid + 1) b lm true true).size = d4.size ∧ Sort.Below lt a mid (pdq lt d4 (mid + 1) b lm true true) ∧ pdq lt d a b lim wb wp = pdq lt (pdq lt d4 (mid + 1) b lm true true) a mid lm (decide (b - mid ≥ (b - a) / 8)) ap)) := by
  obtain ⟨s1, B1, hc, s2, B2, hpv, s3, B3⟩ := rd_facts (lt := lt) (limit := lim) (wb := wb) (wp := wp) hO partialInsertionSort_holds reverseRange_holds hab hb hB
  refine ⟨(rd lt d a b lim wb wp).d1, (rd lt d a b lim wb wp).lim, (rd lt d a b lim wb wp).c.1, (rd lt d a b lim wb wp).c.2, (rd lt d a b lim wb wp).d2, (rd lt d a b lim wb wp).pivot, (rd lt d a b lim wb wp).hint, (rd lt d a b lim wb wp).pi.1, (rd lt d a b lim wb wp).pi.2,
    fun e => by subst e; exact rd_true, fun e => by subst e; exact rd_false, rd_c.symm, fun e => rd_dec e, fun e => rd_not e, fun e => (rd_pi_yes e).symm, fun e => ⟨by rw [rd_pi_no e], by rw [rd_pi_no e]⟩, ⟨s1, hc, s2, hpv, s3⟩, rd_lim_le, fun e => pdq_done h12 h0 e, ?_, ?_⟩
  · intro hp h87 mid d4 hx
    have h87' := h87
    simp only [Bool.and_eq_true, decide_eq_true_eq, Bool.not_eq_true'] at h87'
    obtain ⟨r1, r2, r3, r4, _⟩ := round_eq hO (partitionEqual_holds lt) h87'.1 hpv.1 hpv.2 (by omega) B3 h87'.2 hx
    exact ⟨r1, r2, r3, r4, by rw [pdq_eq h12 h0 hp h87 (by rw [hx]; exact ⟨r1, r2⟩), hx]⟩
  · intro hp h87 mid ap d4 hx
    obtain ⟨r1, r2, r3, r4, r5, r6, r7⟩ := round_part hO (partition_holds lt) hpv.1 hpv.2 (by omega) B3 hx
    refine ⟨r1, r2, r3, fun h4 => ?_, fun h4 => ?_⟩
    · obtain ⟨pL, sL⟩ := pdq_sorts lt hO d4 a mid (rd lt d a b lim wb wp).lim true true (by omega) (by omega) r4
      exact ⟨r4, pL.1, (r6 _ pL sL).1, by rw [pdq_left h12 h0 hp h87 (by rw [hx]; exact ⟨r1, r2⟩) (by rw [hx]; exact h4), hx]⟩
    · obtain ⟨pL, sL⟩ := pdq_sorts lt hO d4 (mid + 1) b (rd lt d a b lim wb wp).lim true true (by omega) (by omega) r5
      exact ⟨r5, pL.1, (r7 _ pL sL).1, by rw [pdq_right h12 h0 hp h87 (by rw [hx]; exact ⟨r1, r2⟩) (by rw [hx]; exact h4), hx]⟩
end
end Go.Proofs.YtmkcjjgicinggaaGreatDoor.GsRnd
