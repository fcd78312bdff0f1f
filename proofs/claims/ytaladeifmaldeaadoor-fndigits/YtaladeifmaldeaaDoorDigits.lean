/- Plain facts on decimal numerals: what they spell, how long they are, that the library's parser reads them back. -/
import Derived.Test.YtaladeifmaldeaaDoorRows
import Derived.Lib.ItoaNum
import Derived.Lib.AtoiAll
namespace Go.Proofs.YtaladeifmaldeaaDoor.Digits

/-- What digits spell, behind what was spelt before. -/
def val (acc : Nat) : List UInt8 → Nat
  | [] => acc
  | c :: r => val (acc * 10 + (c.toNat - 48)) r
theorem val_snoc (l : List UInt8) (c : UInt8) (acc : Nat) : val acc (l ++ [c]) = val acc l * 10 + (c.toNat - 48) := by
  induction l generalizing acc with
  | nil => rfl
  | cons x l ih => exact ih _
theorem le_val (l : List UInt8) (acc : Nat) : acc ≤ val acc l := by
  induction l generalizing acc with
  | nil => exact Nat.le_refl _
  | cons x l ih => exact Nat.le_trans (by omega) (ih (acc * 10 + (x.toNat - 48)))

def IsD (c : UInt8) : Prop := 48 ≤ c.toNat ∧ c.toNat ≤ 57
theorem dig (v : Nat) (h : v < 10) : (UInt8.ofNat (48 + v)).toNat = 48 + v := UInt8.toNat_ofNat_of_lt' (by simp [UInt8.size]; omega)

theorem dec_step (u : Nat) (h : ¬ u < 10) : Lib.decDigits u = Lib.decDigits (u / 10) ++ [UInt8.ofNat (48 + u % 10)] := by rw [Lib.decDigits, dif_neg h]
theorem dec_val (u : Nat) : val 0 (Lib.decDigits u) = u := by
  induction u using Nat.strongRecOn with
  | ind u ih =>
    by_cases h : u < 10
    · have h2 := dig u h
      have h3 : val 0 [UInt8.ofNat (48 + u)] = 0 * 10 + ((UInt8.ofNat (48 + u)).toNat - 48) := rfl
      rw [Lib.decDigits_one h, h3]
      omega
    · have h1 := ih (u / 10) (by omega)
      have h2 := dig (u % 10) (by omega)
      rw [dec_step u h, val_snoc, h1, h2]
      omega
theorem dec_digits (u : Nat) : ∀ c ∈ Lib.decDigits u, IsD c := by
  induction u using Nat.strongRecOn with
  | ind u ih =>
    intro c hc
    by_cases h : u < 10
    · rw [Lib.decDigits_one h] at hc
      obtain rfl := List.mem_singleton.1 hc
      have := dig u h
      unfold IsD
      omega
    · rw [dec_step u h] at hc
      rcases List.mem_append.1 hc with hc | hc
      · exact ih (u / 10) (by omega) c hc
      · obtain rfl := List.mem_singleton.1 hc
        have := dig (u % 10) (by omega)
        unfold IsD
        omega
theorem dec_pos (u : Nat) : 1 ≤ (Lib.decDigits u).length := by
  by_cases h : u < 10
  · rw [Lib.decDigits_one h]; simp
  · rw [dec_step u h]; simp
theorem dec_len (k u : Nat) (h : u < 10 ^ (k + 1)) : (Lib.decDigits u).length ≤ k + 1 := by
  induction k generalizing u with
  | zero => rw [Lib.decDigits_one (by omega)]; simp
  | succ k ih =>
    by_cases h10 : u < 10
    · rw [Lib.decDigits_one h10]; simp
    · rw [dec_step u h10, List.length_append]
      have := ih (u / 10) (by rw [Nat.pow_succ] at h; omega)
      simp
      omega

theorem parse_ok (l : List UInt8) (acc : Nat) (h : ∀ c ∈ l, IsD c) (hv : val acc l < 1844674407370955162) : Lib.parseUint10 acc l = .ok (val acc l) := by
  induction l generalizing acc with
  | nil => rfl
  | cons c r ih =>
    have hc := h c (List.mem_cons_self ..)
    have hr : ∀ x ∈ r, IsD x := fun x hx => h x (List.mem_cons_of_mem _ hx)
    have hle := le_val r (acc * 10 + (c.toNat - 48))
    have hv' : val (acc * 10 + (c.toNat - 48)) r < 1844674407370955162 := hv
    unfold IsD at hc
    simp only [Lib.parseUint10]
    rw [if_pos hc, if_neg (by omega), if_neg (by omega), ih _ hr hv']
    rfl
/-- The library's parser reads a numeral back. -/
theorem atoi_dec (u : Nat) (h : u ≤ 2147483647) : Lib.atoiAll (Lib.decDigits u) = .ok (u : Int) := by
  have hp := parse_ok (Lib.decDigits u) 0 (dec_digits u) (by rw [dec_val]; omega)
  rw [dec_val] at hp
  have hd := dec_digits u
  have hl := dec_pos u
  generalize Lib.decDigits u = l at *
  cases l with
  | nil => simp at hl
  | cons c r =>
    have hc := hd c (List.mem_cons_self ..)
    unfold IsD at hc
    have hm : Lib.parseMag (c :: r) = .ok u := by
      unfold Lib.parseMag
      rw [if_neg (by simp)]
      exact hp
    unfold Lib.atoiAll
    simp only []
    rw [if_neg (by omega), hm]
    simp only []
    rw [if_neg (by omega), if_neg (by omega), if_neg (by omega)]

/-- What ParseNum answers of the text l. -/
def Good (l : List UInt8) (x : Int) (b : Bool) : Prop :=
  (b = true ∧ 0 ≤ x ∧ x ≤ 2147483647 ∧ Lib.itoa x = l) ∨ (b = false ∧ x = 0 ∧ ∀ k : Int, 0 ≤ k → k ≤ 2147483647 → Lib.itoa k ≠ l)
theorem itoa_of (x : Int) (h : 0 ≤ x) : Lib.itoa x = Lib.decDigits x.toNat := by rw [Lib.itoa, if_neg (by omega)]
theorem itoa_inj {x y : Int} (hx : 0 ≤ x) (hy : 0 ≤ y) (h : Lib.itoa x = Lib.itoa y) : x = y := by
  rw [itoa_of x hx, itoa_of y hy] at h
  have := congrArg (val 0) h
  rw [dec_val, dec_val] at this
  omega
theorem Good.uniq {l : List UInt8} {x y : Int} {b c : Bool} (h : Good l x b) (k : Good l y c) : x = y ∧ b = c := by
  rcases h with ⟨rfl, h1, h2, h3⟩ | ⟨rfl, rfl, h3⟩
  · rcases k with ⟨rfl, k1, k2, k3⟩ | ⟨rfl, rfl, k3⟩
    · exact ⟨itoa_inj h1 k1 (h3.trans k3.symm), rfl⟩
    · exact absurd h3 (k3 x h1 h2)
  · rcases k with ⟨rfl, k1, k2, k3⟩ | ⟨rfl, rfl, k3⟩
    · exact absurd k3 (h3 y k1 k2)
    · exact ⟨rfl, rfl⟩
theorem atoi_itoa (k : Int) (h0 : 0 ≤ k) (h1 : k ≤ 2147483647) : Lib.atoiAll (Lib.itoa k) = .ok k := by
  rw [itoa_of k h0, atoi_dec k.toNat (by omega), Int.toNat_of_nonneg h0]
/-- A numeral in range has one to ten digits, and spells its number. -/
theorem itoa_shape (k : Int) (h0 : 0 ≤ k) (h1 : k ≤ 2147483647) : (1 ≤ (Lib.itoa k).length ∧ (Lib.itoa k).length ≤ 10) ∧ (∀ c ∈ Lib.itoa k, IsD c) ∧ (val 0 (Lib.itoa k) : Int) = k := by
  rw [itoa_of k h0]
  exact ⟨⟨dec_pos _, dec_len 9 _ (by omega)⟩, dec_digits _, by rw [dec_val]; omega⟩
end Go.Proofs.YtaladeifmaldeaaDoor.Digits
