/- Plain mathematics: a text cut at its dots. Nothing of the program is named here but the seat itself. -/
import Derived.Test.YtmkcjjgicinggaaGreatDoorJoinSpec
import Derived.Lib.SplitLaws
namespace Go.Proofs.YtmkcjjgicinggaaGreatDoor.Split
open Go.Proofs.YtmkcjjgicinggaaGreatDoor.MemS Go.Proofs.YtmkcjjgicinggaaGreatDoor.JoinSpec

/-- The pieces of l between its dots; acc stands before the first of them. -/
def spa : List UInt8 → List UInt8 → List (List UInt8)
  | acc, [] => [acc]
  | acc, c :: l => if c = 46 then acc :: spa [] l else spa (acc ++ [c]) l
/-- The labels of a text. A def, so that no step of a walk opens it. -/
def Lab (s : ByteArray) : List ByteArray := if s.size = 0 then [] else (spa [] s.data.toList).map (fun l => ⟨l.toArray⟩)

theorem spa_dot (acc l : List UInt8) : spa acc (46 :: l) = acc :: spa [] l := by rw [spa, if_pos rfl]
theorem spa_other (acc l : List UInt8) (c : UInt8) (h : c ≠ 46) : spa acc (c :: l) = spa (acc ++ [c]) l := by rw [spa, if_neg h]
theorem spa_none : ∀ (l acc : List UInt8), 46 ∉ l → spa acc l = [acc ++ l]
  | [], acc, _ => by simp [spa]
  | c :: l, acc, h => by
    rw [spa_other acc l c (fun e => h (by simp [e])), spa_none l _ (fun e => h (by simp [e]))]
    simp
theorem spa_some : ∀ (a acc b : List UInt8), 46 ∉ a → spa acc (a ++ 46 :: b) = (acc ++ a) :: spa [] b
  | [], acc, b, _ => by simp [spa_dot]
  | c :: a, acc, b, h => by
    rw [List.cons_append, spa_other acc _ c (fun e => h (by simp [e])), spa_some a _ b (fun e => h (by simp [e]))]
    simp
theorem spa_length : ∀ (l acc : List UInt8), (spa acc l).length ≤ l.length + 1
  | [], acc => by simp [spa]
  | c :: l, acc => by
    unfold spa
    split
    · have := spa_length l []
      simp only [List.length_cons]
      omega
    · have := spa_length l (acc ++ [c])
      simp only [List.length_cons]
      omega

theorem parts {l : List UInt8} (h : 46 ∈ l) : ∃ a b, l = a ++ 46 :: b ∧ 46 ∉ a := by
  induction l with
  | nil => simp at h
  | cons c l ih =>
    by_cases hc : c = 46
    · exact ⟨[], l, by simp [hc], by simp⟩
    · obtain ⟨a, b, rfl, ha⟩ := ih ((List.mem_cons.1 h).resolve_left (fun e => hc e.symm))
      exact ⟨c :: a, b, rfl, fun h => (List.mem_cons.1 h).elim (fun e => hc e.symm) ha⟩
theorem index_at : ∀ (a b : List UInt8), 46 ∉ a → Lib.index (a ++ 46 :: b) [46] = (a.length : Int)
  | [], b, _ => by
    rw [List.nil_append, Lib.index, if_pos (by rfl)]; rfl
  | c :: a, b, h => by
    have ih := index_at a b (fun e => h (by simp [e]))
    have hc : ¬ (46 : UInt8) = c := fun e => h (by rw [e]; simp)
    rw [List.cons_append, Lib.index, ih]
    have h1 : ([46] : List UInt8).isPrefixOf (c :: (a ++ 46 :: b)) = false := by
      show ((46 : UInt8) == c && _) = false
      rw [beq_eq_false_iff_ne.2 hc]; rfl
    have h2 : ((a.length : Int) == -1) = false := by rw [beq_eq_false_iff_ne]; omega
    rw [h1, h2]
    simp

/-- The library's own words for the same. -/
theorem splitK_spa : ∀ (k : Nat) (l : List UInt8), Lib.count l [46] = k → Lib.splitK [46] 0 k l = spa [] l
  | 0, l, h => by
    rw [Lib.count_one, List.count_eq_zero] at h
    rw [spa_none l [] h]
    rfl
  | k + 1, l, h => by
    have hm : 46 ∈ l := by
      rw [Lib.count_one] at h
      exact List.count_pos_iff.1 (by omega)
    obtain ⟨a, b, rfl, ha⟩ := parts hm
    have hb : Lib.count b [46] = k := by
      rw [Lib.count_one, List.count_append, List.count_eq_zero.2 ha, List.count_cons] at h
      rw [Lib.count_one]
      simp at h
      exact h
    have hne : ((a.length : Int) == -1) = false := by rw [beq_eq_false_iff_ne]; omega
    rw [Lib.splitK, index_at a b ha, hne, spa_some a [] b ha, Int.toNat_natCast, List.nil_append]
    have hd : (a ++ 46 :: b).drop (a.length + ([46] : List UInt8).length) = b := by simp
    rw [hd, splitK_spa k b hb]
    simp
theorem split_lab (s : ByteArray) (h : s.size ≠ 0) : Lib.splitB ⟨#[46]⟩ 0 (Lib.countB s ⟨#[46]⟩) s = Lab s := by
  have h1 := Lib.splitB_data ⟨#[46]⟩ 0 (Lib.countB s ⟨#[46]⟩) s
  have h2 : Lib.splitK [46] 0 (Lib.countB s ⟨#[46]⟩) s.data.toList = spa [] s.data.toList := splitK_spa _ _ rfl
  have h3 : (Lab s).map (·.data.toList) = spa [] s.data.toList := by
    rw [Lab, if_neg h, List.map_map]
    conv => rhs; rw [← List.map_id (spa [] s.data.toList)]
    exact List.map_congr_left fun l _ => by simp
  have h4 : (Lib.splitB ⟨#[46]⟩ 0 (Lib.countB s ⟨#[46]⟩) s).map (·.data.toList) = (Lab s).map (·.data.toList) := by rw [h1, h3]; exact h2
  have inj : ∀ (x y : List ByteArray), x.map (·.data.toList) = y.map (·.data.toList) → x = y := by
    intro x
    induction x with
    | nil => intro y hy; cases y with
      | nil => rfl
      | cons => simp at hy
    | cons a x ih => intro y hy; cases y with
      | nil => simp at hy
      | cons b y =>
        simp only [List.map_cons, List.cons.injEq] at hy
        rw [text_ext hy.1, ih y hy.2]
  exact inj _ _ h4
theorem lab_len (s : ByteArray) : (Lab s).length ≤ s.size + 1 := by
  unfold Lab
  split
  · simp
  · have := spa_length s.data.toList []
    have hz : s.data.toList.length = s.size := by simp
    rw [List.length_map]
    omega
theorem lab_list (s : ByteArray) (h : s.size ≠ 0) : (Lab s).map (·.data.toList) = spa [] s.data.toList := by
  rw [Lab, if_neg h, List.map_map]
  conv => rhs; rw [← List.map_id (spa [] s.data.toList)]
  exact List.map_congr_left fun l _ => by simp
end Go.Proofs.YtmkcjjgicinggaaGreatDoor.Split
