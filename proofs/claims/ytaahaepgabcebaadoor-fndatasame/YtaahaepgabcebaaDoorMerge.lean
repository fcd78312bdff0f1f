/- Plain mathematics of a stable sort in place: exchanges of ranges, rotations, and the merging of two sorted ranges by halves. Nothing of the program is named here but the seat itself. -/
import Derived.Sort.LotA
namespace Go.Proofs.YtaahaepgabcebaaDoor.Merge
open Go.Sort
section
variable {α : Type} [Inhabited α]

theorem swp_at (d : Array α) (i j t : Nat) (hi : i < d.size) (hj : j < d.size) : (swp d i j)[t]! = d[if t = j then i else if t = i then j else t]! := by
  by_cases h : t = j
  · rw [if_pos h, h]; exact swp_right d i j hj
  · rw [if_neg h]
    by_cases h' : t = i
    · rw [if_pos h', h']; exact swp_left d i j hi (fun e => h (h'.trans e))
    · rw [if_neg h']; exact swp_other d i j t h' h

/-- The first n elements from a on exchanged with those from b on. -/
def srng (a b : Nat) : Nat → Array α → Array α
  | 0, d => d
  | n + 1, d => swp (srng a b n d) (a + n) (b + n)
def srI (a b n t : Nat) : Nat := if a ≤ t ∧ t < a + n then t - a + b else if b ≤ t ∧ t < b + n then t - b + a else t
theorem srng_size (a b : Nat) : ∀ (n : Nat) (d : Array α), (srng a b n d).size = d.size
  | 0, _ => rfl
  | n + 1, d => by rw [srng, size_swp, srng_size a b n d]
theorem srng_at (a b : Nat) : ∀ (n : Nat) (d : Array α) (t : Nat), a + n ≤ b → b + n ≤ d.size → (srng a b n d)[t]! = d[srI a b n t]!
  | 0, d, t, _, _ => by
    have : srI a b 0 t = t := by unfold srI; rw [if_neg (by omega), if_neg (by omega)]
    rw [this]; rfl
  | n + 1, d, t, h1, h2 => by
    rw [srng, swp_at _ _ _ _ (by rw [srng_size]; omega) (by rw [srng_size]; omega), srng_at a b n d _ (by omega) (by omega)]
    congr 1
    unfold srI
    by_cases e1 : t = b + n
    · rw [if_pos e1]
      rw [if_neg (by omega), if_neg (by omega), if_neg (by omega), if_pos (by omega)]; omega
    · rw [if_neg e1]
      by_cases e2 : t = a + n
      · rw [if_pos e2]
        rw [if_neg (by omega), if_neg (by omega), if_pos (by omega)]; omega
      · rw [if_neg e2]
        by_cases e3 : a ≤ t ∧ t < a + n
        · rw [if_pos e3, if_pos (by omega)]
        · rw [if_neg e3, if_neg (show ¬(a ≤ t ∧ t < a + (n + 1)) by omega)]
          by_cases e4 : b ≤ t ∧ t < b + n
          · rw [if_pos e4, if_pos (by omega)]
          · rw [if_neg e4, if_neg (by omega)]
theorem srng_perm (a b lo hi : Nat) : ∀ (n : Nat) (d : Array α), lo ≤ a → a + n ≤ hi → lo ≤ b → b + n ≤ hi → hi ≤ d.size → PermIn lo hi d (srng a b n d)
  | 0, d, _, _, _, _, _ => permIn_refl _ _ _
  | n + 1, d, h1, h2, h3, h4, h5 => by
    rw [srng]
    exact permIn_trans _ _ _ _ _ (srng_perm a b lo hi n d h1 (by omega) h3 (by omega) h5) (swp_permIn _ _ _ _ _ (by omega) (by omega) (by omega) (by omega) (by rw [srng_size]; exact h5))

/-- From which place an element comes when [p, m) and [m, q) change places. -/
def rotI (p m q t : Nat) : Nat := if t < p then t else if t < p + (q - m) then m + (t - p) else if t < q then p + (t - (p + (q - m))) else t
/-- d' holds at t what d holds at f t. -/
def Moved (f : Nat → Nat) (d d' : Array α) : Prop := d'.size = d.size ∧ ∀ t, d'[t]! = d[f t]!

/-- What is left to be done by a rotation of [a, m) and [m, b): the last i places before m and the first j from m on. -/
def RotInv (d dk : Array α) (a m b i j : Nat) : Prop :=
  0 < i ∧ 0 < j ∧ i ≤ m ∧ a ≤ m - i ∧ m + j ≤ b ∧ b ≤ d.size ∧ PermIn a b d dk ∧ ∀ d' : Array α, Moved (rotI (m - i) m (m + j)) dk d' → Moved (rotI a m b) d d'
theorem rot_start (d : Array α) (a m b : Nat) (h1 : a < m) (h2 : m < b) (h3 : b ≤ d.size) : RotInv d d a m b (m - a) (b - m) := by
  refine ⟨by omega, by omega, by omega, by omega, by omega, h3, permIn_refl _ _ _, fun d' h => ?_⟩
  rwa [show m - (m - a) = a by omega, show m + (b - m) = b by omega] at h
theorem rot_big {d dk : Array α} {a m b i j : Nat} (h : RotInv d dk a m b i j) (hij : j < i) : RotInv d (srng (m - i) m j dk) a m b (i - j) j := by
  obtain ⟨h1, h2, h3, h4, h5, h6, h7, h8⟩ := h
  have hs : dk.size = d.size := h7.1
  refine ⟨by omega, h2, by omega, by omega, h5, h6, permIn_trans _ _ _ _ _ h7 (srng_perm _ _ _ _ _ _ (by omega) (by omega) (by omega) (by omega) (by omega)), fun d' h => h8 d' ⟨h.1.trans (srng_size _ _ _ _), fun t => ?_⟩⟩
  rw [h.2 t, srng_at _ _ _ _ _ (by omega) (by omega)]
  congr 1
  unfold srI rotI
  by_cases e1 : t < m - i
  · rw [if_pos (show t < m - (i - j) by omega), if_pos e1, if_neg (by omega), if_neg (by omega)]
  · rw [if_neg e1]
    by_cases e2 : t < m - i + (m + j - m)
    · rw [if_pos e2, if_pos (show t < m - (i - j) by omega), if_pos (by omega)]; omega
    · rw [if_neg e2, if_neg (show ¬ t < m - (i - j) by omega)]
      by_cases e3 : t < m - (i - j) + (m + j - m)
      · rw [if_pos e3, if_pos (show t < m + j by omega), if_neg (by omega), if_pos (by omega)]; omega
      · rw [if_neg e3]
        by_cases e4 : t < m + j
        · rw [if_pos e4, if_pos e4, if_neg (by omega), if_neg (by omega)]; omega
        · rw [if_neg e4, if_neg e4, if_neg (by omega), if_neg (by omega)]
theorem rot_small {d dk : Array α} {a m b i j : Nat} (h : RotInv d dk a m b i j) (hij : i < j) : RotInv d (srng (m - i) (m + j - i) i dk) a m b i (j - i) := by
  obtain ⟨h1, h2, h3, h4, h5, h6, h7, h8⟩ := h
  have hs : dk.size = d.size := h7.1
  refine ⟨h1, by omega, h3, h4, by omega, h6, permIn_trans _ _ _ _ _ h7 (srng_perm _ _ _ _ _ _ (by omega) (by omega) (by omega) (by omega) (by omega)), fun d' h => h8 d' ⟨h.1.trans (srng_size _ _ _ _), fun t => ?_⟩⟩
  rw [h.2 t, srng_at _ _ _ _ _ (by omega) (by omega)]
  congr 1
  unfold srI rotI
  by_cases e1 : t < m - i
  · rw [if_pos e1, if_pos e1, if_neg (by omega), if_neg (by omega)]
  · rw [if_neg e1, if_neg e1]
    by_cases e2 : t < m - i + (m + (j - i) - m)
    · rw [if_pos e2, if_pos (show t < m - i + (m + j - m) by omega), if_neg (by omega), if_neg (by omega)]
    · rw [if_neg e2]
      by_cases e3 : t < m + (j - i)
      · rw [if_pos e3, if_pos (show t < m - i + (m + j - m) by omega), if_pos (by omega)]; omega
      · rw [if_neg e3, if_neg (show ¬ t < m - i + (m + j - m) by omega)]
        by_cases e4 : t < m + j
        · rw [if_pos e4, if_neg (by omega), if_pos (by omega)]; omega
        · rw [if_neg e4, if_neg (by omega), if_neg (by omega)]
theorem rot_end {d dk : Array α} {a m b i : Nat} (h : RotInv d dk a m b i i) : PermIn a b d (srng (m - i) m i dk) ∧ Moved (rotI a m b) d (srng (m - i) m i dk) := by
  obtain ⟨h1, h2, h3, h4, h5, h6, h7, h8⟩ := h
  have hs : dk.size = d.size := h7.1
  refine ⟨permIn_trans _ _ _ _ _ h7 (srng_perm _ _ _ _ _ _ (by omega) (by omega) (by omega) (by omega) (by omega)), h8 _ ⟨srng_size _ _ _ _, fun t => ?_⟩⟩
  rw [srng_at _ _ _ _ _ (by omega) (by omega)]
  congr 1
  unfold srI rotI
  by_cases e1 : t < m - i
  · rw [if_pos e1, if_neg (by omega), if_neg (by omega)]
  · rw [if_neg e1]
    by_cases e2 : t < m - i + (m + i - m)
    · rw [if_pos e2, if_pos (by omega)]; omega
    · rw [if_neg e2]
      by_cases e3 : t < m + i
      · rw [if_pos e3, if_neg (by omega), if_pos (by omega)]; omega
      · rw [if_neg e3, if_neg (by omega), if_neg (by omega)]

/-- The element at a carried n places up. -/
def bubU (a : Nat) : Nat → Array α → Array α
  | 0, d => d
  | n + 1, d => swp (bubU a n d) (a + n) (a + n + 1)
theorem bubU_size (a : Nat) : ∀ (n : Nat) (d : Array α), (bubU a n d).size = d.size
  | 0, _ => rfl
  | n + 1, d => by rw [bubU, size_swp, bubU_size a n d]
theorem bubU_at (a : Nat) : ∀ (n : Nat) (d : Array α) (t : Nat), a + n < d.size → (bubU a n d)[t]! = d[rotI a (a + 1) (a + n + 1) t]!
  | 0, d, t, _ => by
    have : rotI a (a + 1) (a + 0 + 1) t = t := by
      unfold rotI
      by_cases e1 : t < a
      · rw [if_pos e1]
      · rw [if_neg e1, if_neg (by omega)]
        by_cases e2 : t < a + 0 + 1
        · rw [if_pos e2]; omega
        · rw [if_neg e2]
    rw [this]; rfl
  | n + 1, d, t, h => by
    rw [bubU, swp_at _ _ _ _ (by rw [bubU_size]; omega) (by rw [bubU_size]; omega), bubU_at a n d _ (by omega)]
    congr 1
    unfold rotI
    by_cases e1 : t = a + n + 1
    · rw [if_pos e1, if_neg (show ¬ a + n < a by omega), if_neg (show ¬ a + n < a + (a + n + 1 - (a + 1)) by omega), if_pos (by omega), if_neg (by omega), if_neg (by omega), if_pos (by omega)]; omega
    · rw [if_neg e1]
      by_cases e2 : t = a + n
      · rw [if_pos e2, if_neg (by omega), if_neg (by omega), if_neg (by omega), if_neg (by omega), if_pos (by omega)]; omega
      · rw [if_neg e2]
        by_cases e3 : t < a
        · rw [if_pos e3, if_pos e3]
        · rw [if_neg e3, if_neg e3]
          by_cases e4 : t < a + n
          · rw [if_pos (show t < a + (a + n + 1 - (a + 1)) by omega), if_pos (by omega)]
          · rw [if_neg (show ¬ t < a + (a + n + 1 - (a + 1)) by omega), if_neg (show ¬ t < a + n + 1 by omega), if_neg (by omega), if_neg (by omega)]
theorem bubU_perm (a lo hi : Nat) : ∀ (n : Nat) (d : Array α), lo ≤ a → a + n < hi → hi ≤ d.size → PermIn lo hi d (bubU a n d)
  | 0, d, _, _, _ => permIn_refl _ _ _
  | n + 1, d, h1, h2, h5 => by
    rw [bubU]
    exact permIn_trans _ _ _ _ _ (bubU_perm a lo hi n d h1 (by omega) h5) (swp_permIn _ _ _ _ _ (by omega) (by omega) (by omega) (by omega) (by rw [bubU_size]; exact h5))

/-- The element at m carried n places down. -/
def bubD (m : Nat) : Nat → Array α → Array α
  | 0, d => d
  | n + 1, d => swp (bubD m n d) (m - n) (m - n - 1)
theorem bubD_size (m : Nat) : ∀ (n : Nat) (d : Array α), (bubD m n d).size = d.size
  | 0, _ => rfl
  | n + 1, d => by rw [bubD, size_swp, bubD_size m n d]
theorem bubD_at (m : Nat) : ∀ (n : Nat) (d : Array α) (t : Nat), n ≤ m → m < d.size → (bubD m n d)[t]! = d[rotI (m - n) m (m + 1) t]!
  | 0, d, t, _, _ => by
    have : rotI (m - 0) m (m + 1) t = t := by
      unfold rotI
      by_cases e1 : t < m - 0
      · rw [if_pos e1]
      · rw [if_neg e1]
        by_cases e2 : t < m - 0 + (m + 1 - m)
        · rw [if_pos e2]; omega
        · rw [if_neg e2, if_neg (by omega)]
    rw [this]; rfl
  | n + 1, d, t, h0, h => by
    rw [bubD, swp_at _ _ _ _ (by rw [bubD_size]; omega) (by rw [bubD_size]; omega), bubD_at m n d _ (by omega) (by omega)]
    congr 1
    unfold rotI
    by_cases e1 : t = m - n - 1
    · rw [if_pos e1, if_neg (show ¬ m - n < m - n by omega), if_pos (show m - n < m - n + (m + 1 - m) by omega), if_neg (by omega), if_pos (by omega)]; omega
    · rw [if_neg e1]
      by_cases e2 : t = m - n
      · rw [if_pos e2, if_pos (by omega), if_neg (by omega), if_neg (by omega), if_pos (by omega)]; omega
      · rw [if_neg e2]
        by_cases e3 : t < m - n
        · rw [if_pos e3, if_pos (by omega)]
        · rw [if_neg e3, if_neg (show ¬ t < m - n + (m + 1 - m) by omega), if_neg (show ¬ t < m - (n + 1) by omega), if_neg (show ¬ t < m - (n + 1) + (m + 1 - m) by omega)]
          by_cases e4 : t < m + 1
          · rw [if_pos e4, if_pos e4]; omega
          · rw [if_neg e4, if_neg e4]
theorem bubD_perm (m lo hi : Nat) : ∀ (n : Nat) (d : Array α), n ≤ m → lo ≤ m - n → m < hi → hi ≤ d.size → PermIn lo hi d (bubD m n d)
  | 0, d, _, _, _, _ => permIn_refl _ _ _
  | n + 1, d, h0, h1, h2, h5 => by
    rw [bubD]
    exact permIn_trans _ _ _ _ _ (bubD_perm m lo hi n d (by omega) (by omega) h2 h5) (swp_permIn _ _ _ _ _ (by omega) (by omega) (by omega) (by omega) (by rw [bubD_size]; exact h5))
end

section
variable {α : Type} {lt : α → α → Bool}
theorem up_down (S : SWO lt) {x y : α} (h : lt x y = true) : lt y x = false := by
  cases e : lt y x with
  | false => rfl
  | true =>
    have := S.trans x y x h e
    rw [S.irrefl] at this
    cases this
/-- x not above y, y below z: x below z. -/
theorem le_lt (S : SWO lt) {x y z : α} (h : lt y x = false) (k : lt y z = true) : lt x z = true := by
  cases e : lt x z with
  | true => rfl
  | false =>
    have := S.ntrans y x z h e
    rw [this] at k
    cases k
theorem lt_le (S : SWO lt) {x y z : α} (h : lt x y = true) (k : lt z y = false) : lt x z = true := by
  cases e : lt x z with
  | true => rfl
  | false =>
    have := S.ntrans x z y e k
    rw [this] at h
    cases h

end

section
variable {α : Type} [Inhabited α] {lt : α → α → Bool}
/-- The range [a, b) has been put in order, and nothing else has been touched. -/
def Merged (lt : α → α → Bool) (a b : Nat) (d d' : Array α) : Prop := PermIn a b d d' ∧ SortedIn lt a b d'

/-- The search for the first place from m on whose element is not below the one at a. -/
def BsA (lt : α → α → Bool) (d : Array α) (a m b i j : Nat) : Prop :=
  m ≤ i ∧ i ≤ j ∧ j ≤ b ∧ (∀ t, m ≤ t → t < i → lt d[t]! d[a]! = true) ∧ ∀ t, j ≤ t → t < b → lt d[t]! d[a]! = false
theorem bsA_start (d : Array α) (a m b : Nat) (h : m ≤ b) : BsA lt d a m b m b := ⟨Nat.le_refl _, h, Nat.le_refl _, fun t h1 h2 => by omega, fun t h1 h2 => by omega⟩
theorem bsA_up (S : SWO lt) {d : Array α} {a m b i j h : Nat} (hs : SortedIn lt m b d) (B : BsA lt d a m b i j) (h1 : i ≤ h) (h2 : h < j) (hl : lt d[h]! d[a]! = true) : BsA lt d a m b (h + 1) j := by
  obtain ⟨b1, b2, b3, b4, b5⟩ := B
  refine ⟨by omega, by omega, b3, fun t t1 t2 => ?_, b5⟩
  by_cases e : t = h
  · rw [e]; exact hl
  · exact le_lt S (hs t h t1 (by omega) (by omega)) hl
theorem bsA_down (S : SWO lt) {d : Array α} {a m b i j h : Nat} (hs : SortedIn lt m b d) (B : BsA lt d a m b i j) (h1 : i ≤ h) (h2 : h < j) (hl : lt d[h]! d[a]! = false) : BsA lt d a m b i h := by
  obtain ⟨b1, b2, b3, b4, b5⟩ := B
  refine ⟨b1, h1, by omega, b4, fun t t1 t2 => ?_⟩
  by_cases e : t = h
  · rw [e]; exact hl
  · exact S.ntrans _ _ _ (hs h t (by omega) (by omega) t2) hl
theorem bsA_end (S : SWO lt) {d : Array α} {a b i : Nat} (hs : SortedIn lt (a + 1) b d) (hb : b ≤ d.size) (B : BsA lt d a (a + 1) b i i) : Merged lt a b d (bubU a (i - 1 - a) d) := by
  obtain ⟨b1, b2, b3, b4, b5⟩ := B
  refine ⟨bubU_perm a a b _ d (Nat.le_refl _) (by omega) hb, fun p q hp hpq hq => ?_⟩
  rw [bubU_at a _ d p (by omega), bubU_at a _ d q (by omega)]
  have rp : ∀ t, a ≤ t → t + 1 < i → rotI a (a + 1) (a + (i - 1 - a) + 1) t = t + 1 := fun t t1 t2 => by
    unfold rotI; rw [if_neg (by omega), if_pos (by omega)]; omega
  have re : ∀ t, t + 1 = i → rotI a (a + 1) (a + (i - 1 - a) + 1) t = a := fun t t1 => by
    unfold rotI; rw [if_neg (by omega), if_neg (by omega), if_pos (by omega)]; omega
  have ro : ∀ t, i ≤ t → rotI a (a + 1) (a + (i - 1 - a) + 1) t = t := fun t t1 => by
    unfold rotI; rw [if_neg (by omega), if_neg (by omega), if_neg (by omega)]
  by_cases c1 : q + 1 < i
  · rw [rp q (by omega) c1, rp p hp (by omega)]; exact hs _ _ (by omega) (by omega) (by omega)
  · by_cases c2 : q + 1 = i
    · rw [re q c2, rp p hp (by omega)]; exact up_down S (b4 _ (by omega) (by omega))
    · rw [ro q (by omega)]
      by_cases c3 : p + 1 < i
      · rw [rp p hp c3]; exact hs _ _ (by omega) (by omega) hq
      · by_cases c4 : p + 1 = i
        · rw [re p c4]; exact b5 q (by omega) hq
        · rw [ro p (by omega)]; exact hs _ _ (by omega) hpq hq

/-- The search for the first place below m whose element is above the one at m. -/
def BsB (lt : α → α → Bool) (d : Array α) (a m i j : Nat) : Prop :=
  a ≤ i ∧ i ≤ j ∧ j ≤ m ∧ (∀ t, a ≤ t → t < i → lt d[m]! d[t]! = false) ∧ ∀ t, j ≤ t → t < m → lt d[m]! d[t]! = true
theorem bsB_start (d : Array α) (a m : Nat) (h : a ≤ m) : BsB lt d a m a m := ⟨Nat.le_refl _, h, Nat.le_refl _, fun t h1 h2 => by omega, fun t h1 h2 => by omega⟩
theorem bsB_up (S : SWO lt) {d : Array α} {a m i j h : Nat} (hs : SortedIn lt a m d) (B : BsB lt d a m i j) (h1 : i ≤ h) (h2 : h < j) (hl : lt d[m]! d[h]! = false) : BsB lt d a m (h + 1) j := by
  obtain ⟨b1, b2, b3, b4, b5⟩ := B
  refine ⟨by omega, by omega, b3, fun t t1 t2 => ?_, b5⟩
  by_cases e : t = h
  · rw [e]; exact hl
  · exact S.ntrans _ _ _ hl (hs t h t1 (by omega) (by omega))
theorem bsB_down (S : SWO lt) {d : Array α} {a m i j h : Nat} (hs : SortedIn lt a m d) (B : BsB lt d a m i j) (h1 : i ≤ h) (h2 : h < j) (hl : lt d[m]! d[h]! = true) : BsB lt d a m i h := by
  obtain ⟨b1, b2, b3, b4, b5⟩ := B
  refine ⟨b1, h1, by omega, b4, fun t t1 t2 => ?_⟩
  by_cases e : t = h
  · rw [e]; exact hl
  · exact lt_le S hl (hs h t (by omega) (by omega) t2)
theorem bsB_end (S : SWO lt) {d : Array α} {a m i : Nat} (hs : SortedIn lt a m d) (hb : m + 1 ≤ d.size) (B : BsB lt d a m i i) : Merged lt a (m + 1) d (bubD m (m - i) d) := by
  obtain ⟨b1, b2, b3, b4, b5⟩ := B
  refine ⟨bubD_perm m a (m + 1) _ d (by omega) (by omega) (by omega) hb, fun p q hp hpq hq => ?_⟩
  rw [bubD_at m _ d p (by omega) (by omega), bubD_at m _ d q (by omega) (by omega)]
  have rl : ∀ t, t < i → rotI (m - (m - i)) m (m + 1) t = t := fun t t1 => by
    unfold rotI; rw [if_pos (by omega)]
  have re : rotI (m - (m - i)) m (m + 1) i = m := by
    unfold rotI; rw [if_neg (by omega), if_pos (by omega)]; omega
  have ru : ∀ t, i < t → t < m + 1 → rotI (m - (m - i)) m (m + 1) t = t - 1 := fun t t1 t2 => by
    unfold rotI; rw [if_neg (by omega), if_neg (by omega), if_pos (by omega)]; omega
  by_cases c1 : q < i
  · rw [rl q c1, rl p (by omega)]; exact hs _ _ hp hpq (by omega)
  · by_cases c2 : q = i
    · rw [c2, re, rl p (by omega)]; exact b4 p hp (by omega)
    · rw [ru q (by omega) hq]
      by_cases c3 : p < i
      · rw [rl p c3]; exact hs _ _ hp (by omega) (by omega)
      · by_cases c4 : p = i
        · rw [c4, re]; exact up_down S (b5 _ (by omega) (by omega))
        · rw [ru p (by omega) (by omega)]; exact hs _ _ (by omega) (by omega) (by omega)

/-- The search for the place from which the two ranges are turned: s0 and r0 bound it, x + c mirrors c. -/
def BsC (lt : α → α → Bool) (d : Array α) (x s0 r0 s r : Nat) : Prop :=
  s0 ≤ s ∧ s ≤ r ∧ r ≤ r0 ∧ (∀ c, s0 ≤ c → c < s → lt d[x - c]! d[c]! = false) ∧ ∀ c, r ≤ c → c < r0 → lt d[x - c]! d[c]! = true
theorem bsC_start (d : Array α) (x s0 r0 : Nat) (h : s0 ≤ r0) : BsC lt d x s0 r0 s0 r0 := ⟨Nat.le_refl _, h, Nat.le_refl _, fun t h1 h2 => by omega, fun t h1 h2 => by omega⟩
/-- What the mirror keeps to: places below m on the one side, from m on on the other. -/
def Mir (a m b x s0 r0 : Nat) : Prop := a ≤ s0 ∧ r0 ≤ m ∧ ∀ c, s0 ≤ c → c < r0 → m ≤ x - c ∧ x - c < b ∧ c ≤ x
theorem bsC_up (S : SWO lt) {d : Array α} {a m b x s0 r0 s r h : Nat} (h1 : SortedIn lt a m d) (h2 : SortedIn lt m b d) (M : Mir a m b x s0 r0) (B : BsC lt d x s0 r0 s r) (k1 : s ≤ h) (k2 : h < r) (hl : lt d[x - h]! d[h]! = false) : BsC lt d x s0 r0 (h + 1) r := by
  obtain ⟨b1, b2, b3, b4, b5⟩ := B
  obtain ⟨m1, m2, m3⟩ := M
  refine ⟨by omega, by omega, b3, fun t t1 t2 => ?_, b5⟩
  by_cases e : t = h
  · rw [e]; exact hl
  · have ht := m3 t t1 (by omega)
    have hh := m3 h (by omega) (by omega)
    exact S.ntrans _ _ _ (h2 (x - h) (x - t) hh.1 (by omega) ht.2.1) (S.ntrans _ _ _ hl (h1 t h (by omega) (by omega) (by omega)))
theorem bsC_down (S : SWO lt) {d : Array α} {a m b x s0 r0 s r h : Nat} (h1 : SortedIn lt a m d) (h2 : SortedIn lt m b d) (M : Mir a m b x s0 r0) (B : BsC lt d x s0 r0 s r) (k1 : s ≤ h) (k2 : h < r) (hl : lt d[x - h]! d[h]! = true) : BsC lt d x s0 r0 s h := by
  obtain ⟨b1, b2, b3, b4, b5⟩ := B
  obtain ⟨m1, m2, m3⟩ := M
  refine ⟨b1, k1, by omega, b4, fun t t1 t2 => ?_⟩
  by_cases e : t = h
  · rw [e]; exact hl
  · have ht := m3 t (by omega) t2
    have hh := m3 h (by omega) (by omega)
    exact le_lt S (h2 (x - t) (x - h) ht.1 (by omega) hh.2.1) (lt_le S hl (h1 h t (by omega) (by omega) (by omega)))

/-- Both halves behind the turning: what is left to be merged in each. -/
def Halves (lt : α → α → Bool) (a s mid e b : Nat) (d : Array α) : Prop :=
  a ≤ s ∧ s ≤ mid ∧ mid ≤ e ∧ e ≤ b ∧ SortedIn lt a s d ∧ SortedIn lt s mid d ∧ SortedIn lt mid e d ∧ SortedIn lt e b d ∧ ∀ p q, a ≤ p → p < mid → mid ≤ q → q < b → lt d[q]! d[p]! = false
theorem halves_of (S : SWO lt) {d d' : Array α} {a m b mid s s0 r0 : Nat} (h1 : SortedIn lt a m d) (h2 : SortedIn lt m b d) (ha : a < m)
    (M : Mir a m b (mid + m - 1) s0 r0) (B : BsC lt d (mid + m - 1) s0 r0 s s)
    (hlo : s0 = a ∨ s0 + b = mid + m) (hhi : r0 = m ∨ r0 = mid) (hse : s ≤ mid + m) (hs1 : s ≤ mid) (hm1 : mid ≤ mid + m - s) (he1 : m ≤ mid + m - s) (he2 : mid + m - s ≤ b)
    (R : ∀ t, d'[t]! = d[rotI s m (mid + m - s) t]!) : Halves lt a s mid (mid + m - s) b d' := by
  obtain ⟨b1, b2, b3, b4, b5⟩ := B
  obtain ⟨m1, m2, m3⟩ := M
  have rl : ∀ t, t < s → d'[t]! = d[t]! := fun t t1 => by
    rw [R]; congr 1; unfold rotI; rw [if_pos t1]
  have rm : ∀ t, s ≤ t → t < mid → d'[t]! = d[m + (t - s)]! := fun t t1 t2 => by
    rw [R]; congr 1; unfold rotI; rw [if_neg (by omega), if_pos (by omega)]
  have rn : ∀ t, mid ≤ t → t < mid + m - s → d'[t]! = d[s + (t - mid)]! := fun t t1 t2 => by
    rw [R]; congr 1; unfold rotI; rw [if_neg (by omega), if_neg (by omega), if_pos t2]; omega
  have ro : ∀ t, mid + m - s ≤ t → d'[t]! = d[t]! := fun t t1 => by
    rw [R]; congr 1; unfold rotI
    by_cases c : t < s
    · rw [if_pos c]
    · rw [if_neg c, if_neg (by omega), if_neg (by omega)]
  -- the two crossings
  have x1 : ∀ p q, a ≤ p → p < s → mid + m - s ≤ q → q < b → lt d[q]! d[p]! = false := fun p q p1 p2 q1 q2 => by
    by_cases c : s0 < s
    · have hm := m3 (s - 1) (by omega) (by omega)
      have := b4 (s - 1) (by omega) (by omega)
      have ex : mid + m - 1 - (s - 1) = mid + m - s := by omega
      rw [ex] at this hm
      have y1 : lt d[q]! d[mid + m - s]! = false := by
        by_cases e : q = mid + m - s
        · rw [e]; exact S.irrefl _
        · exact h2 _ _ (by omega) (by omega) q2
      have y2 : lt d[s - 1]! d[p]! = false := by
        by_cases e : p = s - 1
        · rw [e]; exact S.irrefl _
        · exact h1 _ _ p1 (by omega) (by omega)
      exact S.ntrans _ _ _ y1 (S.ntrans _ _ _ this y2)
    · rcases hlo with h | h
      · omega
      · omega
  have x2 : ∀ p q, m ≤ p → p < mid + m - s → s ≤ q → q < m → lt d[q]! d[p]! = false := fun p q p1 p2 q1 q2 => by
    by_cases c : s < r0
    · have hm := m3 s (by omega) c
      have := b5 s (Nat.le_refl _) c
      have ex : mid + m - 1 - s = mid + m - s - 1 := by omega
      rw [ex] at this hm
      have y1 : lt d[mid + m - s - 1]! d[p]! = false := by
        by_cases e : p = mid + m - s - 1
        · rw [e]; exact S.irrefl _
        · exact h2 _ _ p1 (by omega) (by omega)
      have y2 : lt d[q]! d[s]! = false := by
        by_cases e : q = s
        · rw [e]; exact S.irrefl _
        · exact h1 _ _ (by omega) (by omega) q2
      exact S.ntrans _ _ _ y2 (S.ntrans _ _ _ (up_down S this) y1)
    · rcases hhi with h | h
      · omega
      · omega
  refine ⟨by omega, hs1, hm1, he2, fun p q p1 pq q1 => ?_, fun p q p1 pq q1 => ?_, fun p q p1 pq q1 => ?_, fun p q p1 pq q1 => ?_, fun p q p1 p2 q1 q2 => ?_⟩
  · rw [rl p (by omega), rl q q1]; exact h1 p q p1 pq (by omega)
  · rw [rm p p1 (by omega), rm q (by omega) q1]; exact h2 _ _ (by omega) (by omega) (by omega)
  · rw [rn p p1 (by omega), rn q (by omega) q1]; exact h1 _ _ (by omega) (by omega) (by omega)
  · rw [ro p p1, ro q (by omega)]; exact h2 p q (by omega) pq q1
  · by_cases cp : p < s
    · rw [rl p cp]
      by_cases cq : q < mid + m - s
      · rw [rn q q1 cq]
        exact h1 _ _ p1 (by omega) (by omega)
      · rw [ro q (by omega)]; exact x1 p q p1 cp (by omega) q2
    · rw [rm p (by omega) p2]
      by_cases cq : q < mid + m - s
      · rw [rn q q1 cq]; exact x2 _ _ (by omega) (by omega) (by omega) (by omega)
      · rw [ro q (by omega)]; exact h2 _ _ (by omega) (by omega) q2
theorem halves_left {d d' : Array α} {a s mid e b : Nat} (hb : b ≤ d.size) (H : Halves lt a s mid e b d) (M : Merged lt a mid d d') : Halves lt a mid mid e b d' := by
  obtain ⟨h1, h2, h3, h4, h5, h6, h7, h8, h9⟩ := H
  have out : ∀ t, mid ≤ t → d'[t]! = d[t]! := fun t ht => M.1.2.1 t (Or.inr ht)
  refine ⟨by omega, Nat.le_refl _, h3, h4, M.2, fun p q p1 pq q1 => by omega, fun p q p1 pq q1 => ?_, fun p q p1 pq q1 => ?_, fun p q p1 p2 q1 q2 => ?_⟩
  · rw [out p p1, out q (by omega)]; exact h7 p q p1 pq q1
  · rw [out p (by omega), out q (by omega)]; exact h8 p q p1 pq q1
  · rw [out q q1]
    exact permIn_all d d' a mid (fun x => lt d[q]! x = false) (by omega) M.1 (fun i i1 i2 => h9 i q i1 i2 q1 q2) p p1 p2
theorem halves_none {d : Array α} {a s mid e b : Nat} (H : Halves lt a s mid e b d) (h : ¬ (a < s ∧ s < mid)) : Halves lt a mid mid e b d := by
  obtain ⟨h1, h2, h3, h4, h5, h6, h7, h8, h9⟩ := H
  refine ⟨by omega, Nat.le_refl _, h3, h4, ?_, fun p q p1 pq q1 => by omega, h7, h8, h9⟩
  by_cases c : a < s
  · rw [show mid = s by omega]; exact h5
  · rw [show a = s by omega]; exact h6
theorem halves_right {d d' : Array α} {a mid e b : Nat} (hb : b ≤ d.size) (H : Halves lt a mid mid e b d) (M : Merged lt mid b d d') : SortedIn lt a b d' := by
  obtain ⟨h1, h2, h3, h4, h5, h6, h7, h8, h9⟩ := H
  have out : ∀ t, t < mid → d'[t]! = d[t]! := fun t ht => M.1.2.1 t (Or.inl ht)
  intro p q p1 pq q1
  by_cases cq : q < mid
  · rw [out p (by omega), out q cq]; exact h5 p q p1 pq cq
  · by_cases cp : p < mid
    · rw [out p cp]
      exact permIn_all d d' mid b (fun x => lt x d[p]! = false) hb M.1 (fun i i1 i2 => h9 p i p1 cp i1 i2) q (by omega) q1
    · exact M.2 p q (by omega) pq q1
theorem halves_done {d : Array α} {a mid e b : Nat} (H : Halves lt a mid mid e b d) (h : ¬ (mid < e ∧ e < b)) : SortedIn lt a b d := by
  obtain ⟨h1, h2, h3, h4, h5, h6, h7, h8, h9⟩ := H
  have hr : SortedIn lt mid b d := by
    by_cases c : mid < e
    · rw [show b = e by omega]; exact h7
    · rw [show mid = e by omega]; exact h8
  intro p q p1 pq q1
  by_cases cq : q < mid
  · exact h5 p q p1 pq cq
  · by_cases cp : p < mid
    · exact h9 p q p1 cp (by omega) q1
    · exact hr p q (by omega) pq q1
theorem merged_wide {d d' : Array α} {a b lo hi : Nat} (h : Merged lt a b d d') (h1 : lo ≤ a) (h2 : b ≤ hi) (h3 : hi ≤ d.size) : PermIn lo hi d d' := permIn_mono _ _ _ _ _ _ h1 h2 h3 h.1

theorem rotI_id {s m e : Nat} (h : s = m ∨ e = m) (h1 : s ≤ m) (h2 : m ≤ e) (t : Nat) : rotI s m e t = t := by
  unfold rotI
  by_cases c1 : t < s
  · rw [if_pos c1]
  · rw [if_neg c1]
    by_cases c2 : t < s + (e - m)
    · rw [if_pos c2]; omega
    · rw [if_neg c2]
      by_cases c3 : t < e
      · rw [if_pos c3]; omega
      · rw [if_neg c3]
theorem mir_hi {a m b : Nat} (h1 : a < m) (h2 : m < b) (h : (a + b) / 2 < m) : Mir a m b ((a + b) / 2 + m - 1) ((a + b) / 2 + m - b) ((a + b) / 2) :=
  ⟨by omega, by omega, fun c c1 c2 => ⟨by omega, by omega, by omega⟩⟩
theorem mir_lo {a m b : Nat} (h1 : a < m) (h2 : m < b) (h : m ≤ (a + b) / 2) : Mir a m b ((a + b) / 2 + m - 1) a m :=
  ⟨by omega, by omega, fun c c1 c2 => ⟨by omega, by omega, by omega⟩⟩
/-- The search is done: where the turning begins, and what it keeps to. -/
def Found (lt : α → α → Bool) (d : Array α) (a m b s : Nat) : Prop :=
  a ≤ s ∧ s ≤ m ∧ s ≤ (a + b) / 2 ∧ (a + b) / 2 + m ≤ b + s ∧ ∀ d' : Array α, (∀ t, d'[t]! = d[rotI s m ((a + b) / 2 + m - s) t]!) → Halves lt a s ((a + b) / 2) ((a + b) / 2 + m - s) b d'
theorem found_hi (S : SWO lt) {d : Array α} {a m b s : Nat} (h1 : a < m) (h2 : m < b) (h : (a + b) / 2 < m) (k1 : SortedIn lt a m d) (k2 : SortedIn lt m b d) (B : BsC lt d ((a + b) / 2 + m - 1) ((a + b) / 2 + m - b) ((a + b) / 2) s s) : Found lt d a m b s := by
  have b1 := B.1
  have b3 := B.2.2.1
  exact ⟨by omega, by omega, b3, by omega, fun d' R => halves_of S k1 k2 h1 (mir_hi h1 h2 h) B (Or.inr (by omega)) (Or.inr rfl) (by omega) b3 (by omega) (by omega) (by omega) R⟩
theorem found_lo (S : SWO lt) {d : Array α} {a m b s : Nat} (h1 : a < m) (h2 : m < b) (h : m ≤ (a + b) / 2) (k1 : SortedIn lt a m d) (k2 : SortedIn lt m b d) (B : BsC lt d ((a + b) / 2 + m - 1) a m s s) : Found lt d a m b s := by
  have b1 := B.1
  have b3 := B.2.2.1
  exact ⟨b1, b3, by omega, by omega, fun d' R => halves_of S k1 k2 h1 (mir_lo h1 h2 h) B (Or.inl rfl) (Or.inl rfl) (by omega) (by omega) (by omega) (by omega) (by omega) R⟩

/-- From a on up to n: q full runs of k elements, each in order, and a last one in order. -/
def Runs (lt : α → α → Bool) (k n : Nat) (d : Array α) : Nat → Nat → Prop
  | 0, a => SortedIn lt a n d ∧ n ≤ a + k
  | q + 1, a => a + k ≤ n ∧ SortedIn lt a (a + k) d ∧ Runs lt k n d q (a + k)
/-- q full runs from 0 up to a. -/
def Full (lt : α → α → Bool) (k : Nat) (d : Array α) : Nat → Nat → Prop
  | 0, a => a = 0
  | q + 1, a => ∃ a0, a = a0 + k ∧ SortedIn lt a0 a d ∧ Full lt k d q a0
theorem runs_congr {k n : Nat} {d d' : Array α} : ∀ (q a : Nat), (∀ t, a ≤ t → d'[t]! = d[t]!) → Runs lt k n d q a → Runs lt k n d' q a
  | 0, a, h, ⟨r1, r2⟩ => ⟨fun p q p1 pq q1 => by rw [h p p1, h q (by omega)]; exact r1 p q p1 pq q1, r2⟩
  | q + 1, a, h, ⟨r1, r2, r3⟩ => ⟨r1, fun p q p1 pq q1 => by rw [h p p1, h q (by omega)]; exact r2 p q p1 pq q1, runs_congr q (a + k) (fun t ht => h t (by omega)) r3⟩
theorem full_congr {k : Nat} {d d' : Array α} : ∀ (q a : Nat), (∀ t, t < a → d'[t]! = d[t]!) → Full lt k d q a → Full lt k d' q a
  | 0, a, _, h => h
  | q + 1, a, h, ⟨a0, e, r1, r2⟩ => ⟨a0, e, fun p q p1 pq q1 => by rw [h p (by omega), h q q1]; exact r1 p q p1 pq q1, full_congr q a0 (fun t ht => h t (by omega)) r2⟩
theorem full_runs {k n : Nat} {d : Array α} : ∀ (q a q' : Nat), Full lt k d q a → a ≤ n → Runs lt k n d q' a → ∃ q'', Runs lt k n d q'' 0
  | 0, a, q', h, _, r => ⟨q', by have : a = 0 := h; rwa [this] at r⟩
  | q + 1, a, q', ⟨a0, e, r1, r2⟩, hn, r => full_runs q a0 (q' + 1) r2 (by omega) (by subst e; exact ⟨hn, r1, r⟩)
theorem runs_done {k n : Nat} {d : Array α} {q : Nat} (h : Runs lt k n d q 0) (hk : n ≤ k) : SortedIn lt 0 n d := by
  cases q with
  | zero => exact h.1
  | succ q =>
    have e : n = 0 + k := by have := h.1; omega
    rw [e]; exact h.2.1
end
end Go.Proofs.YtaahaepgabcebaaDoor.Merge
