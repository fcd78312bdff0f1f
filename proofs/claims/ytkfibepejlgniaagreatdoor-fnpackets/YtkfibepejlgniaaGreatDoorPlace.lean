/- What PlaceOf does in the program and in the model: the first offset, at most 16383, at which a name is read that is the text, or -1; nothing that was there is turned. Conditions: at most 400000000 bytes; for the program: the library's variable internal/bytealg.MaxLen holds an int. -/
import Derived.Test.YtkfibepejlgniaaGreatDoorNameGet
namespace Go.Proofs.YtkfibepejlgniaaGreatDoor.Place
open Go.RowKit Go.Proofs.YtkfibepejlgniaaGreatDoor.Mem Go.Proofs.YtkfibepejlgniaaGreatDoor.MemS Go.Proofs.YtkfibepejlgniaaGreatDoor.JoinSpec Go.Proofs.YtkfibepejlgniaaGreatDoor.Labels Go.Proofs.YtkfibepejlgniaaGreatDoor.WireMath Go.Proofs.YtkfibepejlgniaaGreatDoor.WalkSpec

/-- What is read at offset i. -/
def dn (l : List UInt8) (i : Int) : Nat × List ByteArray × Int × Nat := rn l [] i i 0 (-1)
/-- Whether the name s is read at offset i. -/
def hit (l : List UInt8) (s : ByteArray) (i : Nat) : Bool := decide ((dn l (i : Int)).1 = 0) && ((Jo (dn l (i : Int)).2.1).data.toList == s.data.toList)
/-- The first of f offsets from k on at which s is read. -/
def pf (l : List UInt8) (s : ByteArray) : Nat → Nat → Int
  | 0, _ => -1
  | f + 1, k => if hit l s k = true then (k : Int) else pf l s f (k + 1)
/-- The offsets that a pointer reaches. -/
def top (n : Nat) : Nat := if n ≤ 16384 then n else 16384
/-- What PlaceOf answers. A def, so that no step of a walk opens it. -/
def pl (l : List UInt8) (s : ByteArray) : Int := pf l s (top l.length) 0
theorem top_le (n : Nat) : top n ≤ n := by unfold top; split <;> omega
theorem top_lt (n k : Nat) : k < top n ↔ k < n ∧ k ≤ 16383 := by unfold top; split <;> omega
theorem pf_hit {l : List UInt8} {s : ByteArray} {f k : Nat} (h : 0 < f) (hh : hit l s k = true) : pf l s f k = (k : Int) := by
  obtain ⟨f, rfl⟩ : ∃ g, f = g + 1 := ⟨f - 1, by omega⟩
  rw [pf, if_pos hh]
theorem pf_miss {l : List UInt8} {s : ByteArray} {f k : Nat} (h : 0 < f) (hh : hit l s k = false) : pf l s f k = pf l s (f - 1) (k + 1) := by
  obtain ⟨f, rfl⟩ : ∃ g, f = g + 1 := ⟨f - 1, by omega⟩
  rw [pf, if_neg (by rw [hh]; simp)]
  rfl
theorem pf_some {l : List UInt8} {s : ByteArray} : ∀ f k, 0 ≤ pf l s f k → ∃ i : Nat, pf l s f k = (i : Int) ∧ k ≤ i ∧ i < k + f ∧ hit l s i = true
  | 0, _, h => by simp [pf] at h
  | f + 1, k, h => by
    rw [pf] at h ⊢
    split at h
    · rename_i hh
      rw [if_pos hh]
      exact ⟨k, rfl, Nat.le_refl _, by omega, hh⟩
    · rename_i hh
      rw [if_neg hh]
      obtain ⟨i, h1, h2, h3, h4⟩ := pf_some f (k + 1) h
      exact ⟨i, h1, by omega, by omega, h4⟩
theorem pf_none {l : List UInt8} {s : ByteArray} : ∀ f k, ¬ 0 ≤ pf l s f k → ∀ i, k ≤ i → i < k + f → hit l s i = false
  | 0, _, _, i, h1, h2 => by omega
  | f + 1, k, h, i, h1, h2 => by
    rw [pf] at h
    split at h
    · omega
    · rename_i hh
      rcases (show i = k ∨ k + 1 ≤ i by omega) with rfl | h3
      · simpa using hh
      · exact pf_none f (k + 1) h i h3 (by omega)
theorem pf_least (l : List UInt8) (s : ByteArray) : ∀ f k, -1 ≤ pf l s f k
  | 0, _ => by simp [pf]
  | f + 1, k => by
    rw [pf]
    split
    · omega
    · exact pf_least l s f (k + 1)
theorem pl_some {l : List UInt8} {s : ByteArray} (h : 0 ≤ pl l s) : ∃ i : Nat, pl l s = (i : Int) ∧ i < l.length ∧ i ≤ 16383 ∧ hit l s i = true := by
  obtain ⟨i, h1, _, h3, h4⟩ := pf_some _ _ h
  have := (top_lt l.length i).1 (by omega)
  exact ⟨i, h1, this.1, this.2, h4⟩
theorem pl_none {l : List UInt8} {s : ByteArray} (h : ¬ 0 ≤ pl l s) (i : Nat) (h1 : i < l.length) (h2 : i ≤ 16383) : hit l s i = false :=
  pf_none _ _ h i (Nat.zero_le _) (by have := (top_lt l.length i).2 ⟨h1, h2⟩; omega)
theorem pl_least (l : List UInt8) (s : ByteArray) : -1 ≤ pl l s := pf_least l s _ _
theorem hit_iff {l : List UInt8} {s : ByteArray} {i : Nat} : hit l s i = true ↔ (dn l (i : Int)).1 = 0 ∧ Jo (dn l (i : Int)).2.1 = s := by
  rw [hit, Bool.and_eq_true, decide_eq_true_iff, beq_iff_eq]
  exact ⟨fun ⟨a, b⟩ => ⟨a, text_ext b⟩, fun ⟨a, b⟩ => ⟨a, by rw [b]⟩⟩

set_option maxHeartbeats 4000000 in
theorem spec (A : Option Addr) (n c : Nat) (l : List UInt8) (s : ByteArray) (w : World) (hs : Sl w w.heap.size A n l) (hn : n ≤ 400000000) (hnc : n ≤ c) :
    Calls Tryz.prog 138 #[.slice A n c, .string s] w fun e w' => e = .returned (.int .i64 (pl l s)) ∧ Below w.heap.size w w' := by
  have HS := Lib.hid hs
  have HL := Lib.hid hs.1
  have HP : Hid (pl l s = pf l s (top n) 0) := by show _ = _; rw [pl, hs.1]
  clear hs
  have htop := top_le n
  go_enter Tryz.func138, Tryz.ntmps138
  go_wp2
  go_loopw [5] (fun i wr => ∃ k : Nat, k ≤ top n ∧ i = .int .i64 k ∧ Hid (pl l s = pf l s (top n - k) k) ∧ Hid (Below w.heap.size w wr)) (fun i _ => top n - (intOf i).toNat)
  case atStart => exact ⟨0, Nat.zero_le _, rfl, HP.out, Below.refl _ _⟩
  case round =>
    obtain ⟨k, hk, rfl, HI, HB⟩ := hrel
    by_cases hlt : k < top n
    · obtain ⟨h1, h2⟩ := (top_lt n k).1 hlt
      have h1' : (k : Int) < (n : Int) := by omega
      have h2' : (k : Int) ≤ 16383 := by omega
      have GN := Lib.hid (fun w hs => WalkSpec.getName A n c l (k : Int) w _ rfl hs hn hnc)
      have HD : Hid (hit l s k = (decide ((rn l [] (k : Int) (k : Int) 0 (-1)).1 = 0) && ((Jo (rn l [] (k : Int) (k : Int) 0 (-1)).2.1).data.toList == s.data.toList))) := rfl
      generalize rn l [] (k : Int) (k : Int) 0 (-1) = R at *
      obtain ⟨c0, L0, x0, j0⟩ := R
      unfold val3 at GN
      dsimp only at GN HD
      generalize Jo L0 = T at *
      go_wp2_with fail
      refine (GN.out wr ((HS.out.below HB.out).wider HB.out.size)).mono ?_
      rintro e w2 ⟨rfl, hl⟩
      have L2 := Lib.hid (HB.out.trans (hl.mono HB.out.size))
      clear hl HB
      by_cases hc : c0 = 0
      · subst hc
        cases ht : (T.data.toList == s.data.toList) with
        | true =>
          have ht2 : (T.toList == s.toList) = true := by rw [ByteArray.toList_eq, ByteArray.toList_eq]; exact ht
          have HV : Hid (pl l s = (k : Int)) := HI.out.trans (pf_hit (by omega) (by rw [HD.out, ht]; rfl))
          go_wp2
          go_ret
          rw [HV.out]
          exact ⟨rfl, L2.out⟩
        | false =>
          have ht2 : (T.toList == s.toList) = false := by rw [ByteArray.toList_eq, ByteArray.toList_eq]; exact ht
          have HV : Hid (pl l s = pf l s (top n - (k + 1)) (k + 1)) := HI.out.trans (pf_miss (by omega) (by rw [HD.out, ht]; rfl))
          go_wp2
          go_roundw
          case rel => exact ⟨k + 1, by omega, by go_num, HV.out, L2.out⟩
          case measure => simp [intOf]; omega
      · have hc1 : ((c0 : Int) == 0) = false := by rw [beq_eq_false_iff_ne]; omega
        have HV : Hid (pl l s = pf l s (top n - (k + 1)) (k + 1)) := HI.out.trans (pf_miss (by omega) (by rw [HD.out, decide_eq_false hc]; rfl))
        go_wp2
        go_roundw
        case rel => exact ⟨k + 1, by omega, by go_num, HV.out, L2.out⟩
        case measure => simp [intOf]; omega
    · have HV : Hid (pl l s = -1) := by
        show _ = _
        rw [HI.out, show top n - k = 0 by omega]
        rfl
      have hor : n ≤ k ∨ (k < n ∧ 16383 < k) := by have h3 : ¬ (k < n ∧ k ≤ 16383) := fun h => hlt ((top_lt n k).2 h); omega
      rcases hor with h1 | ⟨h1, h2⟩
      · have h1' : ¬ (k : Int) < (n : Int) := by omega
        have h2' : decide ((k : Int) < (n : Int)) = false := decide_eq_false h1'
        clear hlt
        go_wp2
        go_ret
        rw [HV.out]
        exact ⟨rfl, HB.out⟩
      · have h1' : (k : Int) < (n : Int) := by omega
        have h2' : ¬ (k : Int) ≤ 16383 := by omega
        clear hlt
        go_wp2
        go_ret
        rw [HV.out]
        exact ⟨rfl, HB.out⟩

theorem ret_int {a b : Int} (h : a = b) : Ending.returned (.int .i64 a) = .returned (.int .i64 b) := by rw [h]

set_option maxHeartbeats 1000000 in
theorem least (n : Nat) (w : World) : Calls Tryz.prog 165 #[.int .i64 (n : Int), .int .i64 16384] w fun e w' => e = .returned (.int .i64 (top n : Int)) ∧ w = w' := by
  go_enter Tryz.func165, Tryz.ntmps165
  go_wp2
  go_ret
  exact ⟨ret_int (show min (n : Int) 16384 = (top n : Int) by unfold top; split <;> omega), rfl⟩

set_option maxHeartbeats 4000000 in
theorem impl (A : Option Addr) (n c : Nat) (l : List UInt8) (s : ByteArray) (w : World) (he : Env w) (hs : Sl w w.heap.size A n l) (hn : n ≤ 400000000) (hnc : n ≤ c) :
    Calls Tryz.prog 132 #[.slice A n c, .string s] w fun e w' => e = .returned (.int .i64 (pl l s)) ∧ Below w.heap.size w w' := by
  have HS := Lib.hid hs
  have HL := Lib.hid hs.1
  have HE := Lib.hid he
  have HP : Hid (pl l s = pf l s (top n) 0) := by show _ = _; rw [pl, hs.1]
  clear hs he
  have htop := top_le n
  go_enter Tryz.func132, Tryz.ntmps132
  go_wp2_with fail
  refine (least n w).mono ?_
  rintro e w1 ⟨rfl, rfl⟩
  go_wp2
  go_loopw [12] (fun i wr => ∃ k : Nat, k ≤ top n ∧ i = .int .i64 k ∧ Hid (pl l s = pf l s (top n - k) k) ∧ Hid (Below w.heap.size w wr)) (fun i _ => top n - (intOf i).toNat)
  case atStart => exact ⟨0, Nat.zero_le _, rfl, HP.out, Below.refl _ _⟩
  case round =>
    obtain ⟨k, hk, rfl, HI, HB⟩ := hrel
    by_cases hlt : k < top n
    · have hlt' : (k : Int) < (top n : Int) := by omega
      have GN := Lib.hid (fun w he hs => NameGet.getName A n c l (k : Int) w _ rfl he hs hn hnc)
      have HD : Hid (hit l s k = (decide ((rn l [] (k : Int) (k : Int) 0 (-1)).1 = 0) && ((Jo (rn l [] (k : Int) (k : Int) 0 (-1)).2.1).data.toList == s.data.toList))) := rfl
      generalize rn l [] (k : Int) (k : Int) 0 (-1) = R at *
      obtain ⟨c0, L0, x0, j0⟩ := R
      unfold val3 at GN
      dsimp only at GN HD
      generalize Jo L0 = T at *
      go_wp2_with fail
      refine (GN.out wr (HE.out.below HB.out) ((HS.out.below HB.out).wider HB.out.size)).mono ?_
      rintro e w2 ⟨rfl, hl⟩
      have L2 := Lib.hid (HB.out.trans (hl.mono HB.out.size))
      clear hl HB
      cases ht : (T.data.toList == s.data.toList) with
      | true =>
        have ht2 : (T.toList == s.toList) = true := by rw [ByteArray.toList_eq, ByteArray.toList_eq]; exact ht
        by_cases hc : c0 = 0
        · subst hc
          have HV : Hid (pl l s = (k : Int)) := HI.out.trans (pf_hit (by omega) (by rw [HD.out, ht]; rfl))
          go_wp2
          go_ret
          rw [HV.out]
          exact ⟨rfl, L2.out⟩
        · have hc1 : ((c0 : Int) == 0) = false := by rw [beq_eq_false_iff_ne]; omega
          have HV : Hid (pl l s = pf l s (top n - (k + 1)) (k + 1)) := HI.out.trans (pf_miss (by omega) (by rw [HD.out, decide_eq_false hc]; rfl))
          go_wp2
          go_roundw
          case rel => exact ⟨k + 1, by omega, by go_num, HV.out, L2.out⟩
          case measure => simp [intOf]; omega
      | false =>
        have ht2 : (T.toList == s.toList) = false := by rw [ByteArray.toList_eq, ByteArray.toList_eq]; exact ht
        have HV : Hid (pl l s = pf l s (top n - (k + 1)) (k + 1)) := HI.out.trans (pf_miss (by omega) (by rw [HD.out, ht]; simp))
        go_wp2
        go_roundw
        case rel => exact ⟨k + 1, by omega, by go_num, HV.out, L2.out⟩
        case measure => simp [intOf]; omega
    · have HV : Hid (pl l s = -1) := by
        show _ = _
        rw [HI.out, show top n - k = 0 by omega]
        rfl
      have hlt' : ¬ (k : Int) < (top n : Int) := by omega
      go_wp2
      go_ret
      rw [HV.out]
      exact ⟨rfl, HB.out⟩
end Go.Proofs.YtkfibepejlgniaaGreatDoor.Place
