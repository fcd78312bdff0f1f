/- What the law's own helpers markQuestS and heldQuestS do: both fields of every question are overwritten by a mark of their own; and the marks are found. Condition: fewer than 2000001 questions. -/
import Derived.Test.YtaahaepgabcebaaMarkR
import Derived.Test.YtaahaepgabcebaaMemQ
namespace Go.Proofs.Ytaahaepgabcebaa.MarkQ
open Go.RowKit Go.Proofs.Ytaahaepgabcebaa.Mem Go.Proofs.Ytaahaepgabcebaa.SetMath Go.Proofs.Ytaahaepgabcebaa.MemQ Go.Proofs.Ytaahaepgabcebaa.MarkS Go.Proofs.Ytaahaepgabcebaa.BoxR

/-- The question of marks from u on. -/
def mq (u : Nat) : Key := ⟨Mt u, (u : Int) + 1⟩
/-- So many of them. -/
def mqs (n : Nat) : List Key := (List.range n).map (fun j => mq (1 + 2 * j))
theorem mqs_len (n : Nat) : (mqs n).length = n := by simp [mqs]
theorem mqs_at (n j : Nat) (h : j < (mqs n).length) : (mqs n)[j] = mq (1 + 2 * j) := by simp [mqs]
theorem mqs_snoc (n : Nat) : mqs (n + 1) = mqs n ++ [mq (1 + 2 * n)] := by simp [mqs, List.range_succ]
theorem mid_len (l : List Key) (j : Nat) (h : j < l.length) : j < (mqs j ++ l.drop j).length := by rw [List.length_append, mqs_len, List.length_drop]; omega
theorem mid_set (l : List Key) (j : Nat) (h : j < l.length) : (mqs j ++ l.drop j).set j (mq (1 + 2 * j)) = mqs (j + 1) ++ l.drop (j + 1) := by
  rw [List.set_append_right _ _ (by rw [mqs_len]; omega), mqs_len, Nat.sub_self, List.drop_eq_getElem_cons h, List.set_cons_zero, mqs_snoc, List.append_assoc]
  rfl
theorem put_q (L : List Key) (r : List Value) (k : Nat) (x : Key) (h : k < L.length) : ((fq L ++ r).set (k * 2) (.string x.name)).set (k * 2 + 1) (.int .i64 x.ty) = fq (L.set k x) ++ r := by
  have hl := fq_len L
  rw [List.set_append_left _ _ (by omega), List.set_append_left _ _ (by simp; omega), fq_put L k x h]

set_option maxHeartbeats 4000000 in
theorem markQuestS_one (g n c : Nat) (l : List Key) (r : List Value) (w : World) (hb : Bk w g 34 (fq l ++ r)) (hl : l.length = n) (hn : n ≤ 2000000) :
    Calls Try.prog 42 #[.slice (some ⟨g, 0, none⟩) n c, .int .i64 1] w fun e w' => e = .returned (.int .i64 (1 + 2 * (n : Int))) ∧ Bk w' g 34 (fq (mqs n) ++ r) ∧ w.grownBy w' (some g) := by
  have HB := Lib.hid hb
  have HL := Lib.hid hl
  clear hb hl
  go_enter Try.func42, Try.ntmps42
  go_wp2
  go_loopw [1, 5] (fun kk i wr => ∃ j u : Nat, j ≤ n ∧ i = .int .i64 j ∧ kk = .int .i64 (u : Int) ∧ Hid (u = 1 + 2 * j) ∧ Hid (Bk wr g 34 (fq (mqs j ++ l.drop j) ++ r)) ∧ Hid (w.grownBy wr (some g))) (fun _ i _ => n - (intOf i).toNat)
  case atStart => exact ⟨0, 1, Nat.zero_le _, rfl, rfl, rfl, HB.out, World.grownBy.refl _ _⟩
  case round =>
    clear HB
    obtain ⟨j, u, hj, rfl, rfl, HU, HJ, HG⟩ := hrel
    have hu : u ≤ 12000001 := by have := HU.out; omega
    by_cases hlt : j < n
    · have hu0 : 0 < u := by have := HU.out; omega
      have hjl : j < l.length := by rw [HL.out]; exact hlt
      have HM := Lib.hid (mid_set l j hjl)
      have hML := mid_len l j hjl
      generalize mqs j ++ l.drop j = M at *
      go_wp2_with fail
      refine (markText_any u hu0 (by omega) wr).mono ?_
      rintro e w1 ⟨rfl, hl1⟩
      have B1 := Lib.hid (HJ.out.below hl1 HJ.out.lt)
      have G1 := Lib.hid (grown_trans HG.out (grown_of_below hl1 (some g)))
      clear hl1 HJ HG
      obtain ⟨z0, z1⟩ := bk_cq B1.out j hML
      have f0 := B1.out.free (j * 2)
      have f1 := B1.out.free (j * 2 + 1)
      have B2 := Lib.hid ((B1.out.set (j * 2) (.string (Mt u))).set (j * 2 + 1) (.int .i64 ((u : Int) + 1)))
      have G2 := Lib.hid (grown_set (grown_set G1.out (j * 2) (.string (Mt u))) (j * 2 + 1) (.int .i64 ((u : Int) + 1)))
      go_wp2
      go_roundw
      case rel =>
        refine ⟨j + 1, u + 2, by omega, by go_num, by go_num, show _ = _ by have := HU.out; omega, ?_, G2.out⟩
        show Bk _ _ _ _
        have h := B2.out
        have hp := put_q M r j (mq u) hML
        have hq : mq u = mq (1 + 2 * j) := by rw [HU.out]
        rw [hq, HM.out, ← hq] at hp
        rw [← hp]
        exact h
      case measure => simp [intOf]; omega
    · have hje : j = n := by omega
      subst hje
      go_wp2
      go_ret
      refine ⟨?_, ?_, HG.out⟩
      · rw [HU.out]
        push_cast
        rfl
      · have h := HJ.out
        rw [List.drop_eq_nil_of_le (by rw [HL.out]; exact Nat.le_refl _), List.append_nil] at h
        exact h

set_option maxHeartbeats 4000000 in
theorem heldQuestS_one (g n c : Nat) (r : List Value) (w : World) (hb : Bk w g 34 (fq (mqs n) ++ r)) (hn : n ≤ 2000000) :
    Calls Try.prog 43 #[.slice (some ⟨g, 0, none⟩) n c, .int .i64 1] w fun e w' => e = .returned (.int .i64 (1 + 2 * (n : Int))) ∧ Below w.heap.size w w' := by
  have mixed : Try.prog.follows .mixedOrders = true := by kernel_rfl
  have HB := Lib.hid hb
  clear hb
  go_enter Try.func43, Try.ntmps43
  go_wp2
  go_loopw [1, 5] (fun kk i wr => ∃ j u : Nat, j ≤ n ∧ i = .int .i64 j ∧ kk = .int .i64 (u : Int) ∧ Hid (u = 1 + 2 * j) ∧ Hid (Below w.heap.size w wr)) (fun _ i _ => n - (intOf i).toNat)
  case atStart => exact ⟨0, 1, Nat.zero_le _, rfl, rfl, rfl, Below.refl _ _⟩
  case round =>
    obtain ⟨j, u, hj, rfl, rfl, HU, HG⟩ := hrel
    have hu : u ≤ 12000001 := by have := HU.out; omega
    by_cases hlt : j < n
    · have hu0 : 0 < u := by have := HU.out; omega
      have hjl : j < (mqs n).length := by rw [mqs_len]; exact hlt
      have C : Hid (Cq wr g (j * 2) (mq u)) := by
        have h := bk_cq (HB.out.below HG.out HB.out.lt) j hjl
        rw [mqs_at n j hjl, ← HU.out] at h
        exact h
      have x0 : ∀ d os, (Sort.grow (redrawn wr d) os).cell? ⟨g, j * 2, none⟩ = some (.string (Mt u)) := cell_regrown C.out.1
      go_wp2_with fail
      refine wp_region_quiet_below (by assumption) (by kernel_rfl) ?_
      repeat (quiet_step (first | (go_at_call 58; exact in_class (fun W _ => markText_any u hu0 (by omega) W))))
      refine wpQuiet_nil ?_
      intro w2 hw2
      have L2 := Lib.hid (of_class hw2)
      clear hw2 x0
      have C2 : Hid (Cq w2 g (j * 2) (mq u)) := C.out.below L2.out (Nat.lt_of_lt_of_le HB.out.lt HG.out.size)
      have G2 := Lib.hid (HG.out.trans (L2.out.mono HG.out.size))
      clear L2 C HG
      have z1 : w2.cell? ⟨g, j * 2 + 1, none⟩ = some (.int .i64 ((u : Int) + 1)) := C2.out.2
      go_wp2
      go_roundw
      case rel => exact ⟨j + 1, u + 2, by omega, by go_num, by go_num, show _ = _ by have := HU.out; omega, G2.out⟩
      case measure => simp [intOf]; omega
    · have hje : j = n := by omega
      subst hje
      go_wp2
      go_ret
      refine ⟨?_, HG.out⟩
      rw [HU.out]
      push_cast
      rfl
end Go.Proofs.Ytaahaepgabcebaa.MarkQ
