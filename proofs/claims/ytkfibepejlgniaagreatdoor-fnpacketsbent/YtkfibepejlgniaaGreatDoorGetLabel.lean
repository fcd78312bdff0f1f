/- What GetLabel does in the program and in the model: it returns the label that stands at the offset, folded, and the offset behind it, or nothing; and turns nothing that was there. Condition: at most 400000000 bytes. -/
import Derived.Test.YtkfibepejlgniaaGreatDoorFold
import Derived.Deep.QuietTactic
import Derived.BigQuiet
namespace Go.Proofs.YtkfibepejlgniaaGreatDoor.GetLabel
open Go.RowKit Go.Proofs.YtkfibepejlgniaaGreatDoor.Mem Go.Proofs.YtkfibepejlgniaaGreatDoor.Label Go.Proofs.YtkfibepejlgniaaGreatDoor.Fold

/-- The m bytes behind offset k. -/
def piece (l : List UInt8) (k m : Nat) : ByteArray := ⟨((l.drop (k + 1)).take m).toArray⟩
theorem piece_list (l : List UInt8) (k m : Nat) : (piece l k m).data.toList = (l.drop (k + 1)).take m := by simp [piece]
theorem piece_size (l : List UInt8) (k m : Nat) (h : k + 1 + m ≤ l.length) : (piece l k m).size = m := by
  show ((l.drop (k + 1)).take m).toArray.size = m
  simp
  omega
/-- The label at offset k, and the offset behind it. -/
def has (l : List UInt8) (k : Int) : Option (ByteArray × Nat) :=
  if 0 ≤ k then
    match l[k.toNat]? with
    | none => none
    | some m => if k.toNat + 1 + m.toNat ≤ l.length ∧ lok (Fo (piece l k.toNat m.toNat)).data.toList = true then some (Fo (piece l k.toNat m.toNat), k.toNat + 1 + m.toNat) else none
  else none
/-- The three results. -/
def val : Option (ByteArray × Nat) → Value
  | none => .tuple #[.string ⟨#[]⟩, .int .i64 0, .bool false]
  | some (t, e) => .tuple #[.string t, .int .i64 (e : Int), .bool true]

theorem has_out (l : List UInt8) (k : Int) (h : k < 0 ∨ (l.length : Int) ≤ k) : has l k = none := by
  unfold has
  split
  · rw [List.getElem?_eq_none (by omega)]
  · rfl
theorem has_in (l : List UInt8) (k : Nat) (h : k < l.length) : has l (k : Int) = if k + 1 + l[k].toNat ≤ l.length ∧ lok (Fo (piece l k l[k].toNat)).data.toList = true then some (Fo (piece l k l[k].toNat), k + 1 + l[k].toNat) else none := by
  unfold has
  rw [if_pos (by omega), Int.toNat_natCast, List.getElem?_eq_getElem h]
theorem Fo_len (s : ByteArray) : (Fo s).data.toList.length = s.size := by rw [Fo_list]; simp
/-- A length that no label has. -/
theorem lok_not (l : List UInt8) (k m : Nat) (h : k + 1 + m ≤ l.length) (hm : ¬ (1 ≤ m ∧ m ≤ 12)) : lok (Fo (piece l k m)).data.toList = false := by
  rw [lok, Bool.and_eq_false_iff]
  left
  rw [decide_eq_false_iff_not, Fo_len, piece_size l k m h]
  exact hm

theorem ret_val {t : ByteArray} {e : Nat} {x : Int} (h : x = (e : Int)) : Ending.returned (.tuple #[.string t, .int .i64 x, .bool true]) = .returned (val (some (t, e))) := by rw [h]; rfl

/-- The piece made a text, wherever the walk says that it stands. -/
theorem conv_piece {w : World} {B b off n : Nat} {l : List UInt8} (hs : Sl w B (some ⟨b, off, none⟩) n l) (k m cap : Nat) (h : k + 1 + m ≤ n) :
    (convert 22 9 (.slice (some ⟨b, off + (k + 1), none⟩) m cap)).run Tryz.prog w = .ok (.string (piece l k m)) w := by
  have hl := hs.1
  obtain ⟨b', off', hA, _, hc⟩ := hs.2 (by omega)
  obtain ⟨rfl, rfl⟩ : b = b' ∧ off = off' := by simpa using hA
  have hlen : ((l.drop (k + 1)).take m).length = m := by simp; omega
  have := run_convert_bytes_back (P := Tryz.prog) w 22 9 5 ⟨b, off + (k + 1), none⟩ cap ((l.drop (k + 1)).take m) Tryz.underlying22 Tryz.underlying5 Tryz.underlying9 (fun j hj => by
    rw [Addr.add_lit]
    have hj2 : j < m := by rw [hlen] at hj; exact hj
    have := hc (k + 1 + j) (by omega)
    rw [Nat.add_assoc, this]
    simp)
  rw [hlen] at this
  exact this
theorem conv_none {w : World} (A : Addr) (cap : Nat) (l : List UInt8) (k : Nat) :
    (convert 22 9 (.slice (some A) 0 cap)).run Tryz.prog w = .ok (.string (piece l k 0)) w := by
  have := run_convert_bytes_back (P := Tryz.prog) w 22 9 5 A cap [] Tryz.underlying22 Tryz.underlying5 Tryz.underlying9 (fun j hj => by simp at hj)
  simpa [piece] using this

set_option maxHeartbeats 1000000 in
theorem impl_any (A : Option Addr) (n c : Nat) (l : List UInt8) (k : Int) (w : World) (B : Nat) (hs : Sl w B A n l) (hn : n ≤ 400000000) (hnc : n ≤ c) :
    Calls Tryz.prog 191 #[.slice A n c, .int .i64 k] w fun e w' => e = .returned (val (has l k)) ∧ Below w.heap.size w w' := by
  have hl := hs.1
  by_cases hk : k < 0 ∨ (n : Int) ≤ k
  · have HH := Lib.hid (has_out l k (by omega))
    clear hs hl
    rcases (show k < 0 ∨ (¬ k < 0 ∧ (n : Int) ≤ k) by omega) with h1 | ⟨h0, h1⟩
    all_goals
      clear hk
      go_enter Tryz.func191, Tryz.ntmps191
      go_wp2
      go_ret3
      rw [HH.out]
      exact ⟨rfl, Below.refl _ _⟩
  · obtain ⟨k', rfl⟩ := Int.eq_ofNat_of_zero_le (show 0 ≤ k by omega)
    have hkl : k' < l.length := by omega
    have hkn : k' < n := by omega
    have HH := Lib.hid (has_in l k' hkl)
    obtain ⟨b, off, rfl, hbB, hcs⟩ := hs.2 (by omega)
    have hx : w.cell? ⟨b, off + k', none⟩ = some (.int .u8 (l[k'].toNat : Int)) := hcs k' hkl
    have hb1 : l[k'].toNat < 256 := l[k'].toNat_lt
    have HS := Lib.hid hs
    have HL := Lib.hid hl
    clear hs hcs hl hk
    generalize hm : l[k'].toNat = m at *
    have HM := Lib.hid hm
    clear hm
    by_cases hin : k' + 1 + m ≤ n
    · by_cases hck : c = k' + 1
      · obtain rfl : m = 0 := by omega
        have hcv := fun A cap => conv_none (w := w) A cap l k'
        go_enter Tryz.func191, Tryz.ntmps191
        go_wp2_with fail
        refine (Fold.impl_any (piece l k' 0) w (by rw [piece_size l k' 0 (by rw [HL.out]; exact hin)]; omega)).mono ?_
        rintro e w1 ⟨rfl, hl⟩
        have L1 := Lib.hid hl
        have HF : Hid ((Fo (piece l k' 0)).size = 0) := by show _ = _; rw [Fo_size, piece_size l k' 0 (by rw [HL.out]; exact hin)]
        clear hl
        clear hcv
        generalize hT : Fo (piece l k' 0) = T at *
        clear hT
        cases hb : lok T.data.toList
        · have HB := Lib.hid hb
          clear hb
          go_wp2_with fail
          refine (Label.impl_any T w1 (by rw [HF.out]; omega)).mono ?_
          rw [HB.out]
          rintro e w2 ⟨rfl, hl⟩
          have L2 := Lib.hid (L1.out.trans (hl.mono L1.out.size))
          clear hl
          go_wp2
          go_ret3
          rw [HH.out, if_neg (by rw [HB.out]; simp)]
          exact ⟨rfl, L2.out⟩
        · have HB := Lib.hid hb
          clear hb
          go_wp2_with fail
          refine (Label.impl_any T w1 (by rw [HF.out]; omega)).mono ?_
          rw [HB.out]
          rintro e w2 ⟨rfl, hl⟩
          have L2 := Lib.hid (L1.out.trans (hl.mono L1.out.size))
          clear hl
          go_wp2
          go_ret3
          rw [HH.out, if_pos ⟨by rw [HL.out]; exact hin, HB.out⟩]
          exact ⟨ret_val rfl, L2.out⟩
      · have hcv := fun cap => conv_piece HS.out k' m cap hin
        go_enter Tryz.func191, Tryz.ntmps191
        go_wp2_with fail
        refine (Fold.impl_any (piece l k' m) w (by rw [piece_size l k' m (by rw [HL.out]; exact hin)]; omega)).mono ?_
        rintro e w1 ⟨rfl, hl⟩
        have L1 := Lib.hid hl
        have HF : Hid ((Fo (piece l k' m)).size = m) := by show _ = _; rw [Fo_size, piece_size l k' m (by rw [HL.out]; exact hin)]
        clear hl
        clear hcv
        generalize hT : Fo (piece l k' m) = T at *
        clear hT
        cases hb : lok T.data.toList
        · have HB := Lib.hid hb
          clear hb
          go_wp2_with fail
          refine (Label.impl_any T w1 (by rw [HF.out]; omega)).mono ?_
          rw [HB.out]
          rintro e w2 ⟨rfl, hl⟩
          have L2 := Lib.hid (L1.out.trans (hl.mono L1.out.size))
          clear hl
          go_wp2
          go_ret3
          rw [HH.out, if_neg (by rw [HB.out]; simp)]
          exact ⟨rfl, L2.out⟩
        · have HB := Lib.hid hb
          clear hb
          go_wp2_with fail
          refine (Label.impl_any T w1 (by rw [HF.out]; omega)).mono ?_
          rw [HB.out]
          rintro e w2 ⟨rfl, hl⟩
          have L2 := Lib.hid (L1.out.trans (hl.mono L1.out.size))
          clear hl
          go_wp2
          go_ret3
          rw [HH.out, if_pos ⟨by rw [HL.out]; exact hin, HB.out⟩]
          exact ⟨ret_val rfl, L2.out⟩
    · go_enter Tryz.func191, Tryz.ntmps191
      go_wp2
      go_ret3
      rw [HH.out, if_neg (by rw [HL.out]; omega)]
      exact ⟨rfl, Below.refl _ _⟩

set_option maxHeartbeats 1000000 in
theorem spec_any (A : Option Addr) (n c : Nat) (l : List UInt8) (k : Int) (w : World) (B : Nat) (hs : Sl w B A n l) (hn : n ≤ 400000000) (hnc : n ≤ c) :
    Calls Tryz.prog 177 #[.slice A n c, .int .i64 k] w fun e w' => e = .returned (val (has l k)) ∧ Below w.heap.size w w' := by
  have hl := hs.1
  by_cases hk : k < 0 ∨ (n : Int) ≤ k
  · have HH := Lib.hid (has_out l k (by omega))
    clear hs hl
    rcases (show k < 0 ∨ (¬ k < 0 ∧ (n : Int) ≤ k) by omega) with h1 | ⟨h0, h1⟩
    all_goals
      clear hk
      go_enter Tryz.func177, Tryz.ntmps177
      go_wp2
      go_ret3
      rw [HH.out]
      exact ⟨rfl, Below.refl _ _⟩
  · obtain ⟨k', rfl⟩ := Int.eq_ofNat_of_zero_le (show 0 ≤ k by omega)
    have hkl : k' < l.length := by omega
    have hkn : k' < n := by omega
    have HH := Lib.hid (has_in l k' hkl)
    obtain ⟨b, off, rfl, hbB, hcs⟩ := hs.2 (by omega)
    have hx : w.cell? ⟨b, off + k', none⟩ = some (.int .u8 (l[k'].toNat : Int)) := hcs k' hkl
    have hb1 : l[k'].toNat < 256 := l[k'].toNat_lt
    have HS := Lib.hid hs
    have HL := Lib.hid hl
    clear hs hcs hl hk
    generalize hm : l[k'].toNat = m at *
    have HM := Lib.hid hm
    clear hm
    by_cases h12 : 1 ≤ m ∧ m ≤ 12
    · have HD : Hid (decide ((1 : Int) ≤ (m : Int) ∧ (m : Int) ≤ 12) = true) := decide_eq_true (by omega)
      obtain ⟨g1, g2⟩ := h12
      by_cases hin : k' + 1 + m ≤ n
      · have hck : ¬ c = k' + 1 := by omega
        have hcv := fun cap => conv_piece HS.out k' m cap hin
        go_enter Tryz.func177, Tryz.ntmps177
        go_wp2_with fail
        refine (l1In_any _ _ _ _).mono ?_
        rintro e w' ⟨rfl, rfl⟩
        rw [HD.out]
        go_wp2_with fail
        refine (Fold.spec_any (piece l k' m) w (by rw [piece_size l k' m (by rw [HL.out]; exact hin)]; omega)).mono ?_
        rintro e w1 ⟨rfl, hl⟩
        have L1 := Lib.hid hl
        have HF : Hid ((Fo (piece l k' m)).size = m) := by show _ = _; rw [Fo_size, piece_size l k' m (by rw [HL.out]; exact hin)]
        clear hl
        clear hcv
        generalize hT : Fo (piece l k' m) = T at *
        clear hT
        cases hb : lok T.data.toList
        · have HB := Lib.hid hb
          clear hb
          go_wp2_with fail
          refine (Label.spec_any T w1 (by rw [HF.out]; omega)).mono ?_
          rw [HB.out]
          rintro e w2 ⟨rfl, rfl⟩
          go_wp2
          go_ret3
          rw [HH.out, if_neg (by rw [HB.out]; simp)]
          exact ⟨rfl, L1.out⟩
        · have HB := Lib.hid hb
          clear hb
          go_wp2_with fail
          refine (Label.spec_any T w1 (by rw [HF.out]; omega)).mono ?_
          rw [HB.out]
          rintro e w2 ⟨rfl, rfl⟩
          go_wp2
          go_ret3
          rw [HH.out, if_pos ⟨by rw [HL.out]; exact hin, HB.out⟩]
          exact ⟨ret_val rfl, L1.out⟩
      · go_enter Tryz.func177, Tryz.ntmps177
        go_wp2_with fail
        refine (l1In_any _ _ _ _).mono ?_
        rintro e w' ⟨rfl, rfl⟩
        rw [HD.out]
        go_wp2
        go_ret3
        rw [HH.out, if_neg (by rw [HL.out]; omega)]
        exact ⟨rfl, Below.refl _ _⟩
    · have HD : Hid (decide ((1 : Int) ≤ (m : Int) ∧ (m : Int) ≤ 12) = false) := decide_eq_false (by omega)
      have HX : Hid (¬ (k' + 1 + m ≤ l.length ∧ lok (Fo (piece l k' m)).data.toList = true)) := fun ⟨h1, h2⟩ => by rw [lok_not l k' m h1 h12] at h2; cases h2
      go_enter Tryz.func177, Tryz.ntmps177
      go_wp2_with fail
      refine (l1In_any _ _ _ _).mono ?_
      rintro e w' ⟨rfl, rfl⟩
      rw [HD.out]
      go_wp2
      go_ret3
      rw [HH.out, if_neg HX.out]
      exact ⟨rfl, Below.refl _ _⟩

/-- Both answer the same three results of a slice that reads as l, whatever world they are called in. -/
def Three (n : Nat) (l : List UInt8) (k : Int) (t : ByteArray) (y : Int) (b : Bool) : Prop :=
  ∀ (A : Option Addr) (c : Nat) (w : World) (B : Nat), Sl w B A n l → n ≤ c →
    Calls Tryz.prog 177 #[.slice A n c, .int .i64 k] w (fun e w' => e = .returned (.tuple #[.string t, .int .i64 y, .bool b]) ∧ Below w.heap.size w w') ∧
    Calls Tryz.prog 191 #[.slice A n c, .int .i64 k] w (fun e w' => e = .returned (.tuple #[.string t, .int .i64 y, .bool b]) ∧ Below w.heap.size w w')
theorem both (n : Nat) (l : List UInt8) (k : Int) (hn : n ≤ 400000000) :
    ∃ t y b, Three n l k t y b ∧ (b = true → ∃ e : Nat, has l k = some (t, e) ∧ y = (e : Int)) := by
  cases h : has l k with
  | none => exact ⟨⟨#[]⟩, 0, false, fun A c w B hs hc => ⟨(spec_any A n c l k w B hs hn hc).mono fun e w' ⟨he, hw⟩ => ⟨by rw [he, h]; rfl, hw⟩, (impl_any A n c l k w B hs hn hc).mono fun e w' ⟨he, hw⟩ => ⟨by rw [he, h]; rfl, hw⟩⟩, fun h => by cases h⟩
  | some p =>
    obtain ⟨t, e⟩ := p
    exact ⟨t, (e : Int), true, fun A c w B hs hc => ⟨(spec_any A n c l k w B hs hn hc).mono fun e w' ⟨he, hw⟩ => ⟨by rw [he, h]; rfl, hw⟩, (impl_any A n c l k w B hs hn hc).mono fun e w' ⟨he, hw⟩ => ⟨by rw [he, h]; rfl, hw⟩⟩, fun _ => ⟨e, rfl, rfl⟩⟩
end Go.Proofs.YtkfibepejlgniaaGreatDoor.GetLabel
