/- What the model's NumText does: it returns the decimal numeral of its argument, and turns nothing that was there. -/
import Derived.Test.YtlakegeabnjegaaGreatDoorMem
import Derived.Lib.ItoaNum
import Derived.Lib.ItoaLen
namespace Go.Proofs.YtlakegeabnjegaaGreatDoor.NumSpec
open Go.RowKit Go.Proofs.YtlakegeabnjegaaGreatDoor.Mem

/-- The digits of v, none for 0. -/
def ds (v : Nat) : List UInt8 := if v = 0 then [] else Lib.decDigits v
/-- The last digit of v. -/
def dg (v : Nat) : UInt8 := UInt8.ofNat (48 + v % 10)
theorem dg_cell (v : Nat) : ((dg v).toNat : Int) = 48 + (v : Int) % 10 := by
  unfold dg
  rw [UInt8.toNat_ofNat_of_lt' (by simp [UInt8.size]; omega)]
  omega
theorem ds_step (v : Nat) (h : v ≠ 0) : ds v = ds (v / 10) ++ [dg v] := by
  unfold ds dg
  rw [if_neg h]
  by_cases h10 : v < 10
  · rw [Lib.decDigits_one h10, if_pos (by omega), List.nil_append, show v % 10 = v by omega]
  · rw [if_neg (by omega), Lib.decDigits, dif_neg h10]

/-- One byte in a new block, made a string. -/
theorem back (P : Program) (w : World) {src dst e : TypeId} (x : UInt8) (hs : P.underlying src = some (.slice e)) (he : P.underlying e = some (.int .u8)) (hd : P.underlying dst = some .string) :
    (convert src dst (.slice (some ⟨w.heap.size, 0, none⟩) 1 1)).run P (w.alloc (.cells #[.int .u8 (x.toNat : Int)] e)) = .ok (.string ⟨[x].toArray⟩) (w.alloc (.cells #[.int .u8 (x.toNat : Int)] e)) := by
  refine run_convert_bytes_back _ src dst e ⟨w.heap.size, 0, none⟩ 1 [x] hs he hd fun j hj => ?_
  have hj0 : j = 0 := by simp at hj; exact hj
  subst hj0
  rw [Addr.add_lit]
  have hb : Bk (w.alloc (.cells #[.int .u8 (x.toNat : Int)] e)) w.heap.size e [.int .u8 (x.toNat : Int)] := heap_alloc_new w _
  rw [hb.cell]
  rfl

set_option maxHeartbeats 400000 in
theorem pos (u : Nat) (h0 : 0 < u) (h1 : (u : Int) ≤ 9223372036854775807) (w : World) :
    Calls Tryz.prog 44 #[.int .i64 (u : Int)] w fun e w' => e = .returned (.string ⟨(Lib.decDigits u).toArray⟩) ∧ Below w.heap.size w w' := by
  have hz : ((u : Int) == 0) = false := by simp; omega
  have HLEN : Hid ((Lib.decDigits u).length ≤ 21) := by
    have := Lib.itoa_length_le (u : Int) (by omega) h1
    unfold Lib.itoa at this
    rw [if_neg (by omega)] at this
    rw [Int.toNat_natCast] at this
    exact this
  have HU : Hid ((u : Int) ≤ 9223372036854775807) := h1
  clear h1
  go_enter Tryz.func44, Tryz.ntmps44
  go_wp2
  go_loopw [3, 4, 5] (fun s x _ wr => ∃ (v : Nat) (acc : List UInt8), v ≤ u ∧ x = .int .i64 (v : Int) ∧ s = .string ⟨acc.toArray⟩ ∧ Hid (ds v ++ acc = Lib.decDigits u) ∧ Hid (Below w.heap.size w wr)) (fun _ x _ _ => (intOf x).toNat)
  case atStart => exact ⟨u, [], Nat.le_refl _, rfl, rfl, by show _ = _; rw [ds, if_neg (by omega), List.append_nil], Below.refl _ _⟩
  case round =>
    obtain ⟨v, acc, hv, rfl, rfl, HA, HB⟩ := hrel
    have hlen : acc.length ≤ 21 := by
      have h1 := HLEN.out
      rw [← HA.out, List.length_append] at h1
      omega
    have hsum : ((acc.length : Int)) ≤ 8388608 := by omega
    by_cases hv0 : v = 0
    · subst hv0
      have hne : (((0 : Nat) : Int) != 0) = false := rfl
      have hacc : Hid (acc = Lib.decDigits u) := HA.out
      have hd0 : decide ((u : Int) < 0) = false := by simp
      go_wp2
      go_ret
      exact ⟨by rw [hacc.out]; rfl, HB.out⟩
    · have hne : ((v : Int) != 0) = true := by rw [bne_iff_ne]; omega
      have hvp : 0 < v := by omega
      have hvi : (0 : Int) ≤ (v : Int) := by omega
      have hconv := fun w => back Tryz.prog w (dg v) Tryz.underlying22 Tryz.underlying5 Tryz.underlying9
      have hcat := fun w => run_string_add_lists (P := Tryz.prog) w [dg v] acc (by simp) hsum
      rw [dg_cell] at hconv
      have hdec : decide ((v : Int) % 10 < 0) = false := by simp; omega
      have hvb : (v : Int) ≤ 9223372036854775807 := by have := HU.out; omega
      go_wp2
      go_roundw
      case rel => exact ⟨v / 10, dg v :: acc, by omega, by go_num, rfl, by show _ = _; rw [← HA.out, ds_step v hv0, List.append_assoc]; rfl, HB.out.alloc HB.out.size _⟩
      case measure => simp [intOf]; omega

set_option maxHeartbeats 400000 in
theorem neg (u : Nat) (h0 : 0 < u) (h1 : (u : Int) ≤ 9223372036854775808) (w : World) :
    Calls Tryz.prog 44 #[.int .i64 (-(u : Int))] w fun e w' => e = .returned (.string ⟨(45 :: Lib.decDigits u).toArray⟩) ∧ Below w.heap.size w w' := by
  have hz : (-(u : Int) == 0) = false := by rw [beq_eq_false_iff_ne]; omega
  have HLEN : Hid ((Lib.decDigits u).length ≤ 21) := by
    have := Lib.itoa_length_le (-(u : Int)) (by omega) (by omega)
    unfold Lib.itoa at this
    rw [if_pos (by omega), Int.natAbs_neg, Int.natAbs_natCast, List.length_cons] at this
    show _ ≤ _
    omega
  have HU : Hid ((u : Int) ≤ 9223372036854775808) := h1
  clear h1
  go_enter Tryz.func44, Tryz.ntmps44
  go_wp2
  go_loopw [3, 4, 5] (fun s x _ wr => ∃ (v : Nat) (acc : List UInt8), v ≤ u ∧ x = .int .i64 (-(v : Int)) ∧ s = .string ⟨acc.toArray⟩ ∧ Hid (ds v ++ acc = Lib.decDigits u) ∧ Hid (Below w.heap.size w wr)) (fun _ x _ _ => (intOf x).natAbs)
  case atStart => exact ⟨u, [], Nat.le_refl _, rfl, rfl, by show _ = _; rw [ds, if_neg (by omega), List.append_nil], Below.refl _ _⟩
  case round =>
    obtain ⟨v, acc, hv, rfl, rfl, HA, HB⟩ := hrel
    have hlen : acc.length ≤ 21 := by
      have h1 := HLEN.out
      rw [← HA.out, List.length_append] at h1
      omega
    have hsum : ((acc.length : Int)) ≤ 8388608 := by omega
    by_cases hv0 : v = 0
    · subst hv0
      have hne : ((-((0 : Nat) : Int)) != 0) = false := rfl
      have hacc : Hid (acc = Lib.decDigits u) := HA.out
      have hd0 : decide (-(u : Int) < 0) = true := by simp; omega
      have hcat := fun w => run_string_add_lists (P := Tryz.prog) w [45] acc (by simp) hsum
      go_wp2
      go_ret
      exact ⟨by rw [← hacc.out]; rfl, HB.out⟩
    · have hne : (-(v : Int) != 0) = true := by rw [bne_iff_ne]; omega
      have hvp : 0 < v := by omega
      have hmod : (-(v : Int)).tmod 10 = -((v : Int) % 10) := by rw [Int.neg_tmod, Int.tmod_eq_emod_of_nonneg (by omega)]
      have hdiv : (-(v : Int)).tdiv 10 = -((v : Int) / 10) := by rw [Int.neg_tdiv, Int.tdiv_eq_ediv_of_nonneg (by omega)]
      have hconv := fun w => back Tryz.prog w (dg v) Tryz.underlying22 Tryz.underlying5 Tryz.underlying9
      have hcat := fun w => run_string_add_lists (P := Tryz.prog) w [dg v] acc (by simp) hsum
      rw [dg_cell] at hconv
      have hvb : (v : Int) ≤ 9223372036854775808 := by have := HU.out; omega
      by_cases hm0 : (v : Int) % 10 = 0
      · rw [hm0, Int.add_zero] at hconv
        go_wp2
        go_roundw
        case rel => exact ⟨v / 10, dg v :: acc, by omega, by go_num, rfl, by show _ = _; rw [← HA.out, ds_step v hv0, List.append_assoc]; rfl, HB.out.alloc HB.out.size _⟩
        case measure => simp [intOf]; omega
      · have hmp : 0 < (v : Int) % 10 := by omega
        clear hm0
        go_wp2
        go_roundw
        case rel => exact ⟨v / 10, dg v :: acc, by omega, by go_num, rfl, by show _ = _; rw [← HA.out, ds_step v hv0, List.append_assoc]; rfl, HB.out.alloc HB.out.size _⟩
        case measure => simp [intOf]; omega

theorem zero (w : World) : Calls Tryz.prog 44 #[.int .i64 0] w fun e w' => e = .returned (.string ⟨#[48]⟩) ∧ Below w.heap.size w w' := by
  go_enter Tryz.func44, Tryz.ntmps44
  go_wp2
  go_ret
  exact ⟨rfl, Below.refl _ _⟩

/-- The model's NumText at every int: its decimal numeral. -/
theorem any (n : Int) (h0 : -9223372036854775808 ≤ n) (h1 : n ≤ 9223372036854775807) (w : World) :
    Calls Tryz.prog 44 #[.int .i64 n] w fun e w' => e = .returned (.string ⟨(Lib.itoa n).toArray⟩) ∧ Below w.heap.size w w' := by
  rcases (show n = 0 ∨ 0 < n ∨ n < 0 by omega) with rfl | h | h
  · have e : Lib.itoa 0 = [48] := by rw [Lib.itoa, if_neg (by omega), Int.toNat_zero, Lib.decDigits_one (by omega)]; rfl
    rw [e]
    exact zero w
  · obtain ⟨u, rfl⟩ := Int.eq_ofNat_of_zero_le (Int.le_of_lt h)
    have e : Lib.itoa (u : Int) = Lib.decDigits u := by rw [Lib.itoa, if_neg (by omega), Int.toNat_natCast]
    rw [e]
    exact pos u (by omega) h1 w
  · obtain ⟨u, hu⟩ := Int.eq_ofNat_of_zero_le (show 0 ≤ -n by omega)
    obtain rfl : n = -(u : Int) := by omega
    have e : Lib.itoa (-(u : Int)) = 45 :: Lib.decDigits u := by rw [Lib.itoa, if_pos (by omega), Int.natAbs_neg, Int.natAbs_natCast]
    rw [e]
    exact neg u (by omega) (by omega) w

end Go.Proofs.YtlakegeabnjegaaGreatDoor.NumSpec
