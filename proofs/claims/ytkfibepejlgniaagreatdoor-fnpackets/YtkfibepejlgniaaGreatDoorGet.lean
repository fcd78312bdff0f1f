/- What Get2 and Get4 do, in the program and in its model, on a slice that reads as bytes. -/
import Derived.Test.YtkfibepejlgniaaGreatDoorMem
import Derived.Deep.QuietTactic
import Derived.BigQuiet
namespace Go.Proofs.YtkfibepejlgniaaGreatDoor.Get
open Go.RowKit Go.Proofs.YtkfibepejlgniaaGreatDoor.Mem

theorem byte_lt (x : UInt8) : (x.toNat : Int) < 256 := by have := x.toNat_lt; omega

/-- The number that the bytes spell, the first the most significant. -/
def be (l : List UInt8) : Int := l.foldl (fun a x => a * 256 + (x.toNat : Int)) 0
theorem be_snoc (l : List UInt8) (x : UInt8) : be (l ++ [x]) = be l * 256 + (x.toNat : Int) := by simp [be]
theorem be_bounds (l : List UInt8) (a : Int) (m : Nat) (h0 : 0 ≤ a) (h1 : a < 256 ^ m) : 0 ≤ l.foldl (fun a x => a * 256 + (x.toNat : Int)) a ∧ l.foldl (fun a x => a * 256 + (x.toNat : Int)) a < 256 ^ (m + l.length) := by
  induction l generalizing a m with
  | nil => exact ⟨h0, h1⟩
  | cons x l ih =>
    have hx := byte_lt x
    have := ih (a * 256 + (x.toNat : Int)) (m + 1) (by omega) (by rw [Int.pow_succ]; omega)
    rw [List.foldl_cons, List.length_cons, show m + (l.length + 1) = m + 1 + l.length by omega]
    exact this
theorem be_pos (l : List UInt8) : 0 ≤ be l := (be_bounds l 0 0 (by omega) (by decide)).1
theorem be_lt (l : List UInt8) (h : l.length ≤ 3) : be l < 16777216 := by
  have h1 := (be_bounds l 0 0 (by omega) (by decide)).2
  unfold be
  rcases (show l.length = 0 ∨ l.length = 1 ∨ l.length = 2 ∨ l.length = 3 by omega) with e | e | e | e
  all_goals
    rw [e] at h1
    simp only [Nat.zero_add] at h1
    omega
theorem i64_wraps (n : Int) (h₀ : 0 ≤ n) (h₁ : n < 2 ^ 40) : IntKind.i64.wrap n = n := by rw [IntKind.wrap_i64]; omega
theorem or8 (x y : Int) (hx : 0 ≤ x) (hx1 : x < 2 ^ 32) (hy : 0 ≤ y) (hy1 : y < 256) : bits .or .i64 (x * 256) y = x * 256 + y :=
  bits_join .i64 40 (by decide) i64_wraps 8 (x * 256) y (by omega) (by omega) (by omega) hy (by omega) (by omega)
theorem or16 (x y : Int) (hx : 0 ≤ x) (hx1 : x < 2 ^ 24) (hy : 0 ≤ y) (hy1 : y < 65536) : bits .or .i64 (x * 65536) y = x * 65536 + y :=
  bits_join .i64 40 (by decide) i64_wraps 16 (x * 65536) y (by omega) (by omega) (by omega) hy (by omega) (by omega)

theorem be2 (l : List UInt8) (k : Nat) (hk : k + 2 ≤ l.length) : be ((l.drop k).take 2) = (l[k].toNat : Int) * 256 + (l[k + 1].toNat : Int) := by
  rw [List.drop_eq_getElem_cons (by omega), List.take_succ_cons, List.drop_eq_getElem_cons (by omega), List.take_succ_cons, List.take_zero]
  simp [be]
theorem be4 (l : List UInt8) (k : Nat) (hk : k + 4 ≤ l.length) : be ((l.drop k).take 4) = (((l[k].toNat : Int) * 256 + (l[k + 1].toNat : Int)) * 256 + (l[k + 2].toNat : Int)) * 256 + (l[k + 3].toNat : Int) := by
  rw [List.drop_eq_getElem_cons (by omega), List.take_succ_cons, List.drop_eq_getElem_cons (by omega), List.take_succ_cons, List.drop_eq_getElem_cons (by omega), List.take_succ_cons, List.drop_eq_getElem_cons (by omega), List.take_succ_cons, List.take_zero]
  simp [be]

theorem ret_two {a b : Int} {c : Bool} (h : a = b) : Ending.returned (.tuple #[.int .i64 a, .bool c]) = .returned (.tuple #[.int .i64 b, .bool c]) := by rw [h]

set_option maxHeartbeats 1000000 in
set_option maxRecDepth 10000 in
theorem specGet2_yes (A : Option Addr) (n c : Nat) (l : List UInt8) (w : World) (B : Nat) (k : Nat) (hs : Sl w B A n l) (hn : n ≤ 400000000) (hk : k + 2 ≤ l.length) :
    Calls Tryz.prog 100 #[.slice A n c, .int .i64 (k : Int)] w fun e w' => e = .returned (.tuple #[.int .i64 (be ((l.drop k).take 2)), .bool true]) ∧ ∃ q, w' = w.drewN q := by
  obtain ⟨b, off, rfl, hbB, hcs⟩ := hs.2 (by have := hs.1; omega)
  have hx : w.cell? ⟨b, off + k, none⟩ = some (.int .u8 (l[k].toNat : Int)) := hcs k (by omega)
  have hy : w.cell? ⟨b, off + (k + 1), none⟩ = some (.int .u8 (l[k + 1].toNat : Int)) := hcs (k + 1) (by omega)
  have hkn : (k : Int) + 1 < (n : Int) := by have := hs.1; omega
  have hb1 := byte_lt l[k]
  have hb2 := byte_lt l[k + 1]
  have H2 := Lib.hid (be2 l k hk)
  have HO := Lib.hid (or8 (l[k].toNat : Int) (l[k + 1].toNat : Int) (by omega) (by omega) (by omega) (by omega))
  clear hs hcs
  go_enter Tryz.func100, Tryz.ntmps100
  go_wp2
  have e1 : IntKind.i64.wrap ((k : Int) + 1) = (k : Int) + 1 := IntWalk.i64_in _ (by omega)
  have e2 : ((k : Int) + 1).toNat = k + 1 := by omega
  go_quiet (fail)
  clear e1 e2
  go_wp2
  go_ret2
  exact ⟨ret_two (by rw [H2.out]; exact HO.out), ⟨_, rfl⟩⟩

set_option maxHeartbeats 1000000 in
theorem specGet2_no (A : Option Addr) (n c : Nat) (w : World) (k : Int) (hn : n ≤ 400000000) (hk : k < 0 ∨ (n : Int) - 2 < k) :
    Calls Tryz.prog 100 #[.slice A n c, .int .i64 k] w fun e w' => e = .returned (.tuple #[.int .i64 0, .bool false]) ∧ w = w' := by
  rcases hk with hk | hk
  · go_enter Tryz.func100, Tryz.ntmps100
    go_wp2
    go_ret2
    exact ⟨rfl, rfl⟩
  · by_cases h0 : k < 0
    all_goals
      go_enter Tryz.func100, Tryz.ntmps100
      go_wp2
      go_ret2
      exact ⟨rfl, rfl⟩

set_option maxHeartbeats 1000000 in
theorem numberAt_no (A : Option Addr) (n c s : Nat) (w : World) (k : Int) (hn : n ≤ 400000000) (hs : s ≤ 4) (hk : k < 0 ∨ (n : Int) - (s : Int) < k) :
    Calls Tryz.prog 143 #[.slice A n c, .int .i64 k, .int .i64 (s : Int)] w fun e w' => e = .returned (.tuple #[.int .i64 0, .bool false]) ∧ w = w' := by
  rcases hk with hk | hk
  · go_enter Tryz.func143, Tryz.ntmps143
    go_wp2
    go_ret2
    exact ⟨rfl, rfl⟩
  · by_cases h0 : k < 0
    all_goals
      go_enter Tryz.func143, Tryz.ntmps143
      go_wp2
      go_ret2
      exact ⟨rfl, rfl⟩

set_option maxHeartbeats 1000000 in
theorem numberAt_yes (A : Option Addr) (n c s : Nat) (l : List UInt8) (w : World) (B : Nat) (k : Nat) (hs : Sl w B A n l) (hnc : n ≤ c) (hn : n ≤ 400000000) (h1 : 1 ≤ s) (h4 : s ≤ 4) (hk : k + s ≤ l.length) :
    Calls Tryz.prog 143 #[.slice A n c, .int .i64 (k : Int), .int .i64 (s : Int)] w fun e w' => e = .returned (.tuple #[.int .i64 (be ((l.drop k).take s)), .bool true]) ∧ w = w' := by
  obtain ⟨b, off, rfl, hbB, hcs⟩ := hs.2 (by have := hs.1; omega)
  have hkn : k + s ≤ n := by have := hs.1; omega
  have hcne : ¬ c = k := by omega
  have hd1 : decide ((k : Int) < 0) = false := by simp
  have hd2 : decide ((n : Int) - (s : Int) < (k : Int)) = false := by simp; omega
  have HC := Lib.hid hcs
  clear hs hcs
  go_enter Tryz.func143, Tryz.ntmps143
  go_wp2
  go_loop [8, 10, 28] (fun nn _ i => ∃ j : Nat, j ≤ s ∧ i = .int .i64 j ∧ nn = .int .i64 (be ((l.drop k).take j))) (fun _ _ i => s - (intOf i).toNat)
  case atStart => exact ⟨0, Nat.zero_le _, rfl, rfl⟩
  case round =>
    obtain ⟨j, hj, rfl, rfl⟩ := hrel
    have hp := be_pos ((l.drop k).take j)
    by_cases hlt : j < s
    · have hu := be_lt ((l.drop k).take j) (by simp; omega)
      have hx : w.cell? ⟨b, off + k + j, none⟩ = some (.int .u8 (l[k + j].toNat : Int)) := by rw [Nat.add_assoc]; exact HC.out (k + j) (by omega)
      have hb := byte_lt (l[k + j]'(by omega))
      have HO := Lib.hid (or8 (be ((l.drop k).take j)) ((l[k + j]'(by omega)).toNat : Int) (by omega) (by omega) (by omega) (by omega))
      have HS : Hid (be ((l.drop k).take (j + 1)) = be ((l.drop k).take j) * 256 + ((l[k + j]'(by omega)).toNat : Int)) := by
        show _ = _
        rw [List.take_succ_eq_append_getElem (by simp; omega), be_snoc]; simp
      go_wp2
      go_round
      case rel => exact ⟨j + 1, by omega, by go_num, by rw [HS.out, ← HO.out]⟩
      case measure => simp [intOf]; omega
    · have hjs : j = s := by omega
      subst hjs
      go_wp2
      go_ret2
      exact ⟨rfl, rfl⟩
theorem or4 (a b c d : Int) (ha : 0 ≤ a) (ha1 : a < 256) (hb : 0 ≤ b) (hb1 : b < 256) (hc : 0 ≤ c) (hc1 : c < 256) (hd : 0 ≤ d) (hd1 : d < 256) :
    bits .or .i64 (bits .or .i64 (bits .or .i64 (a * 16777216) (b * 65536)) (c * 256)) d = ((a * 256 + b) * 256 + c) * 256 + d := by
  have h1 : bits .or .i64 (a * 16777216) (b * 65536) = a * 16777216 + b * 65536 :=
    bits_join .i64 40 (by decide) i64_wraps 24 _ _ (by omega) (by omega) (by omega) (by omega) (by omega) (by omega)
  have h2 : bits .or .i64 (a * 16777216 + b * 65536) (c * 256) = a * 16777216 + b * 65536 + c * 256 :=
    bits_join .i64 40 (by decide) i64_wraps 16 _ _ (by omega) (by omega) (by omega) (by omega) (by omega) (by omega)
  have h3 : bits .or .i64 (a * 16777216 + b * 65536 + c * 256) d = a * 16777216 + b * 65536 + c * 256 + d :=
    bits_join .i64 40 (by decide) i64_wraps 8 _ _ (by omega) (by omega) (by omega) (by omega) (by omega) (by omega)
  rw [h1, h2, h3]; omega

/-- What Get4 answers of the number that stands there. -/
def four (n : Int) : Value := if 2147483647 < n then .tuple #[.int .i64 0, .bool false] else .tuple #[.int .i64 n, .bool true]

set_option maxHeartbeats 1000000 in
set_option maxRecDepth 10000 in
theorem specGet4_yes (A : Option Addr) (n c : Nat) (l : List UInt8) (w : World) (B : Nat) (k : Nat) (hs : Sl w B A n l) (hn : n ≤ 400000000) (hk : k + 4 ≤ l.length) :
    Calls Tryz.prog 173 #[.slice A n c, .int .i64 (k : Int)] w fun e w' => e = .returned (four (be ((l.drop k).take 4))) ∧ ∃ q, w' = w.drewN q := by
  obtain ⟨b, off, rfl, hbB, hcs⟩ := hs.2 (by have := hs.1; omega)
  have hx : w.cell? ⟨b, off + k, none⟩ = some (.int .u8 (l[k].toNat : Int)) := hcs k (by omega)
  have hy : w.cell? ⟨b, off + (k + 1), none⟩ = some (.int .u8 (l[k + 1].toNat : Int)) := hcs (k + 1) (by omega)
  have hz : w.cell? ⟨b, off + (k + 2), none⟩ = some (.int .u8 (l[k + 2].toNat : Int)) := hcs (k + 2) (by omega)
  have hu : w.cell? ⟨b, off + (k + 3), none⟩ = some (.int .u8 (l[k + 3].toNat : Int)) := hcs (k + 3) (by omega)
  have hkn : (k : Int) + 3 < (n : Int) := by have := hs.1; omega
  have hb1 := byte_lt l[k]
  have hb2 := byte_lt l[k + 1]
  have hb3 := byte_lt l[k + 2]
  have hb4 := byte_lt l[k + 3]
  have H4 := Lib.hid (be4 l k hk)
  have HO := Lib.hid (or4 (l[k].toNat : Int) (l[k + 1].toNat : Int) (l[k + 2].toNat : Int) (l[k + 3].toNat : Int) (by omega) (by omega) (by omega) (by omega) (by omega) (by omega) (by omega) (by omega))
  clear hs hcs
  go_enter Tryz.func173, Tryz.ntmps173
  go_wp2
  have e1 : IntKind.i64.wrap ((k : Int) + 1) = (k : Int) + 1 := IntWalk.i64_in _ (by omega)
  have e2 : ((k : Int) + 1).toNat = k + 1 := by omega
  have e3 : IntKind.i64.wrap ((k : Int) + 2) = (k : Int) + 2 := IntWalk.i64_in _ (by omega)
  have e4 : ((k : Int) + 2).toNat = k + 2 := by omega
  have e5 : IntKind.i64.wrap ((k : Int) + 3) = (k : Int) + 3 := IntWalk.i64_in _ (by omega)
  have e6 : ((k : Int) + 3).toNat = k + 3 := by omega
  go_quiet (fail)
  clear e1 e2 e3 e4 e5 e6
  rw [HO.out, ← H4.out]
  clear H4 HO hx hy hz hu
  have hp := be_pos ((l.drop k).take 4)
  generalize hvv : be ((l.drop k).take 4) = v at *
  have HV := Lib.hid hvv
  clear hvv
  by_cases hv : 2147483647 < v
  · go_wp2
    go_ret2
    exact ⟨by rw [HV.out, four, if_pos hv]; rfl, ⟨_, rfl⟩⟩
  · go_wp2
    go_ret2
    exact ⟨by rw [HV.out, four, if_neg (by omega)]; rfl, ⟨_, rfl⟩⟩

set_option maxHeartbeats 1000000 in
theorem specGet4_no (A : Option Addr) (n c : Nat) (w : World) (k : Int) (hn : n ≤ 400000000) (hk : k < 0 ∨ (n : Int) - 4 < k) :
    Calls Tryz.prog 173 #[.slice A n c, .int .i64 k] w fun e w' => e = .returned (.tuple #[.int .i64 0, .bool false]) ∧ w = w' := by
  rcases hk with hk | hk
  · go_enter Tryz.func173, Tryz.ntmps173
    go_wp2
    go_ret2
    exact ⟨rfl, rfl⟩
  · by_cases h0 : k < 0
    all_goals
      go_enter Tryz.func173, Tryz.ntmps173
      go_wp2
      go_ret2
      exact ⟨rfl, rfl⟩

set_option maxHeartbeats 1000000 in
theorem implGet2_no (A : Option Addr) (n c : Nat) (w : World) (k : Int) (hn : n ≤ 400000000) (hk : k < 0 ∨ (n : Int) - 2 < k) :
    Calls Tryz.prog 94 #[.slice A n c, .int .i64 k] w fun e w' => e = .returned (.tuple #[.int .i64 0, .bool false]) ∧ w = w' := by
  go_enter Tryz.func94, Tryz.ntmps94
  go_wp2_with fail
  refine (numberAt_no A n c 2 _ k hn (by omega) hk).mono ?_
  rintro e w' ⟨rfl, rfl⟩
  go_wp2
  go_ret2
  exact ⟨rfl, rfl⟩

set_option maxHeartbeats 1000000 in
theorem implGet2_yes (A : Option Addr) (n c : Nat) (l : List UInt8) (w : World) (B : Nat) (k : Nat) (hs : Sl w B A n l) (hnc : n ≤ c) (hn : n ≤ 400000000) (hk : k + 2 ≤ l.length) :
    Calls Tryz.prog 94 #[.slice A n c, .int .i64 (k : Int)] w fun e w' => e = .returned (.tuple #[.int .i64 (be ((l.drop k).take 2)), .bool true]) ∧ w = w' := by
  go_enter Tryz.func94, Tryz.ntmps94
  go_wp2_with fail
  refine (numberAt_yes A n c 2 l _ B k hs hnc hn (by omega) (by omega) hk).mono ?_
  rintro e w' ⟨rfl, rfl⟩
  generalize hvv : be ((l.drop k).take 2) = v
  have HV := Lib.hid hvv
  clear hvv
  go_wp2
  go_ret2
  exact ⟨by rw [HV.out]; rfl, rfl⟩

set_option maxHeartbeats 1000000 in
theorem implGet4_no (A : Option Addr) (n c : Nat) (w : World) (k : Int) (hn : n ≤ 400000000) (hk : k < 0 ∨ (n : Int) - 4 < k) :
    Calls Tryz.prog 189 #[.slice A n c, .int .i64 k] w fun e w' => e = .returned (.tuple #[.int .i64 0, .bool false]) ∧ w = w' := by
  go_enter Tryz.func189, Tryz.ntmps189
  go_wp2_with fail
  refine (numberAt_no A n c 4 _ k hn (by omega) hk).mono ?_
  rintro e w' ⟨rfl, rfl⟩
  go_wp2
  go_ret2
  exact ⟨rfl, rfl⟩

set_option maxHeartbeats 1000000 in
theorem implGet4_yes (A : Option Addr) (n c : Nat) (l : List UInt8) (w : World) (B : Nat) (k : Nat) (hs : Sl w B A n l) (hnc : n ≤ c) (hn : n ≤ 400000000) (hk : k + 4 ≤ l.length) :
    Calls Tryz.prog 189 #[.slice A n c, .int .i64 (k : Int)] w fun e w' => e = .returned (four (be ((l.drop k).take 4))) ∧ w = w' := by
  go_enter Tryz.func189, Tryz.ntmps189
  go_wp2_with fail
  refine (numberAt_yes A n c 4 l _ B k hs hnc hn (by omega) (by omega) hk).mono ?_
  rintro e w' ⟨rfl, rfl⟩
  generalize hvv : be ((l.drop k).take 4) = v
  have HV := Lib.hid hvv
  clear hvv
  by_cases hv : 2147483647 < v
  · go_wp2
    go_ret2
    exact ⟨by rw [HV.out, four, if_pos hv]; rfl, rfl⟩
  · go_wp2
    go_ret2
    exact ⟨by rw [HV.out, four, if_neg (by omega)]; rfl, rfl⟩

/-- Both Get2 answer the same pair of a slice that reads as l, whatever world they are called in. -/
def Two (A : Option Addr) (n c : Nat) (l : List UInt8) (k : Int) (x : Int) (b : Bool) : Prop :=
  ∀ (w : World) (B : Nat), Sl w B A n l →
    Calls Tryz.prog 100 #[.slice A n c, .int .i64 k] w (fun e w' => e = .returned (.tuple #[.int .i64 x, .bool b]) ∧ Below w.heap.size w w') ∧
    Calls Tryz.prog 94 #[.slice A n c, .int .i64 k] w (fun e w' => e = .returned (.tuple #[.int .i64 x, .bool b]) ∧ Below w.heap.size w w')
theorem get2_both (A : Option Addr) (n c : Nat) (l : List UInt8) (k : Int) (hl : l.length = n) (hn : n ≤ 400000000) (hc : n ≤ c) :
    ∃ x b, Two A n c l k x b ∧ (b = true → ∃ k' : Nat, k = (k' : Int) ∧ k' + 2 ≤ n ∧ x = be ((l.drop k').take 2)) := by
  by_cases hk : 0 ≤ k ∧ k ≤ (n : Int) - 2
  · obtain ⟨k', rfl⟩ := Int.eq_ofNat_of_zero_le hk.1
    refine ⟨be ((l.drop k').take 2), true, fun w B hs => ?_, fun _ => ⟨k', rfl, by omega, rfl⟩⟩
    exact ⟨(specGet2_yes _ n c l w _ k' hs (by omega) (by omega)).mono fun e w' ⟨he, q, hw⟩ => ⟨he, hw ▸ drewN_below _ _ _⟩,
      (implGet2_yes _ n c l w _ k' hs hc (by omega) (by omega)).mono fun e w' ⟨he, hw⟩ => ⟨he, hw ▸ Below.refl _ _⟩⟩
  · refine ⟨0, false, fun w _ _ => ?_, fun h => by cases h⟩
    exact ⟨(specGet2_no _ n c w k (by omega) (by omega)).mono fun e w' ⟨he, hw⟩ => ⟨he, hw ▸ Below.refl _ _⟩,
      (implGet2_no _ n c w k (by omega) (by omega)).mono fun e w' ⟨he, hw⟩ => ⟨he, hw ▸ Below.refl _ _⟩⟩

def Four (A : Option Addr) (n c : Nat) (l : List UInt8) (k : Int) (x : Int) (b : Bool) : Prop :=
  ∀ (w : World) (B : Nat), Sl w B A n l →
    Calls Tryz.prog 173 #[.slice A n c, .int .i64 k] w (fun e w' => e = .returned (.tuple #[.int .i64 x, .bool b]) ∧ Below w.heap.size w w') ∧
    Calls Tryz.prog 189 #[.slice A n c, .int .i64 k] w (fun e w' => e = .returned (.tuple #[.int .i64 x, .bool b]) ∧ Below w.heap.size w w')
theorem get4_both (A : Option Addr) (n c : Nat) (l : List UInt8) (k : Int) (hl : l.length = n) (hn : n ≤ 400000000) (hc : n ≤ c) :
    ∃ x b, Four A n c l k x b ∧ (b = true → ∃ k' : Nat, k = (k' : Int) ∧ k' + 4 ≤ n ∧ x = be ((l.drop k').take 4) ∧ x ≤ 2147483647) := by
  by_cases hk : 0 ≤ k ∧ k ≤ (n : Int) - 4
  · obtain ⟨k', rfl⟩ := Int.eq_ofNat_of_zero_le hk.1
    obtain ⟨x, b, hx, hb⟩ : ∃ x b, four (be ((l.drop k').take 4)) = .tuple #[.int .i64 x, .bool b] ∧ (b = true → x = be ((l.drop k').take 4) ∧ x ≤ 2147483647) := by
      unfold four
      split
      · exact ⟨_, _, rfl, fun h => by cases h⟩
      · exact ⟨_, _, rfl, fun _ => ⟨rfl, by omega⟩⟩
    refine ⟨x, b, fun w B hs => ?_, fun h => ⟨k', rfl, by omega, hb h⟩⟩
    exact ⟨(specGet4_yes _ n c l w _ k' hs (by omega) (by omega)).mono fun e w' ⟨he, q, hw⟩ => ⟨hx ▸ he, hw ▸ drewN_below _ _ _⟩,
      (implGet4_yes _ n c l w _ k' hs hc (by omega) (by omega)).mono fun e w' ⟨he, hw⟩ => ⟨hx ▸ he, hw ▸ Below.refl _ _⟩⟩
  · refine ⟨0, false, fun w _ _ => ?_, fun h => by cases h⟩
    exact ⟨(specGet4_no _ n c w k (by omega) (by omega)).mono fun e w' ⟨he, hw⟩ => ⟨he, hw ▸ Below.refl _ _⟩,
      (implGet4_no _ n c w k (by omega) (by omega)).mono fun e w' ⟨he, hw⟩ => ⟨he, hw ▸ Below.refl _ _⟩⟩
end Go.Proofs.YtkfibepejlgniaaGreatDoor.Get
