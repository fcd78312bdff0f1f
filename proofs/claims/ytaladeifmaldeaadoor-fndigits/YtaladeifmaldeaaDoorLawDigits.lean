/- The law FnDigits returns true on every slice that reads as bytes, where the library's tables and errors are there, and turns nothing that was there. -/
import Derived.Test.YtaladeifmaldeaaDoorLaid
import Derived.Test.YtaladeifmaldeaaDoorDraw
namespace Go.Proofs.YtaladeifmaldeaaDoor.LawDigits
open Go.RowKit Go.Proofs.YtaladeifmaldeaaDoor.Mem Go.Proofs.YtaladeifmaldeaaDoor.Draw Go.Proofs.YtaladeifmaldeaaDoor.Num Go.Proofs.YtaladeifmaldeaaDoor.Digits Go.Proofs.YtaladeifmaldeaaDoor.Parse

theorem big_no (A : Option Addr) (n c : Nat) (w : World) (h : n ≤ 1048576) : Calls Tryd.prog 6 #[.slice A n c] w fun e w' => e = .returned (.bool false) ∧ w = w' := by
  have hd : decide ((1048576 : Int) < (n : Int)) = false := by simp; omega
  go_enter Tryd.func6, Tryd.ntmps6
  go_wp2
  go_ret
  exact ⟨rfl, rfl⟩
theorem big_yes (A : Option Addr) (n c : Nat) (w : World) (h : ¬ n ≤ 1048576) : Calls Tryd.prog 6 #[.slice A n c] w fun e w' => e = .returned (.bool true) ∧ w = w' := by
  have hd : decide ((1048576 : Int) < (n : Int)) = true := by simp; omega
  go_enter Tryd.func6, Tryd.ntmps6
  go_wp2
  go_ret
  exact ⟨rfl, rfl⟩

theorem below_of_grown {w w' : World} (h : w.grownBy w' none) : Below w.heap.size w w' := ⟨h.os, h.tape, h.output, h.size, fun k hk => h.block k hk (fun e => by cases e)⟩
theorem below_more {w w1 w2 : World} {g : Nat} (h : Below w.heap.size w w1) (k : w1.grownBy w2 (some g)) (hg : w.heap.size ≤ g) : Below w.heap.size w w2 := h.grown k h.size (fun j hj => by cases hj; exact hg)

/-- A drawn number. -/
def NumD (w : World) (e : Ending) (w' : World) : Prop := ∃ x : Int, e = .returned (.int .i64 x) ∧ Fits x ∧ Below w.heap.size w w'
/-- A drawn text, not long. -/
def StrD (w : World) (e : Ending) (w' : World) : Prop := ∃ s : ByteArray, e = .returned (.string s) ∧ s.size ≤ 100 ∧ Below w.heap.size w w'

set_option maxHeartbeats 1000000 in
theorem drawNumText (A : Option Addr) (n c : Nat) (l : List UInt8) (w : World) (hs : Sl w w.heap.size A n l) (hn : n ≤ 1048576) : Calls Tryd.prog 7 #[.slice A n c] w (NumD w) := by
  have HS := Lib.hid hs
  clear hs
  go_enter Tryd.func7, Tryd.ntmps7
  go_wp2_with fail
  refine (l1New_any A n c l w HS.out hn).mono ?_
  rintro e w1 ⟨rfl, hc1, hg1⟩
  have C1 := Lib.hid hc1
  have L1 := Lib.hid (below_of_grown hg1)
  clear hc1 hg1
  go_wp2_with fail
  refine (l1One_any _ w1 C1.out).mono ?_
  rintro e w2 ⟨x, rfl, hx, _, hg2⟩
  have HX := Lib.hid hx
  have L2 := Lib.hid (below_more L1.out hg2 (Nat.le_refl _))
  clear hx hg2 C1 L1
  go_wp2
  go_ret
  exact ⟨x, rfl, HX.out, L2.out⟩

set_option maxHeartbeats 1000000 in
theorem l1Str_any (g gl m : Nat) (xs : List ByteArray) (w : World) (hc : Cur w g) (hl : Bk w gl 9 (xs.map Value.string)) (hne : gl ≠ g) (hm : xs.length = m) (h0 : 0 < m) (h1 : m ≤ 100) :
    Calls Tryd.prog 16 #[.pointer (some ⟨g, 0, none⟩), .slice (some ⟨gl, 0, none⟩) m m] w fun e w' => ∃ x : ByteArray, e = .returned (.string x) ∧ x ∈ xs ∧ Cur w' g ∧ w.grownBy w' (some g) := by
  have HC := Lib.hid hc
  have HL := Lib.hid hl
  have HM := Lib.hid hm
  have HN := Lib.hid hne
  clear hc hl hm hne
  go_enter Tryd.func16, Tryd.ntmps16
  go_wp2_with fail
  refine (l1Below_any g m w HC.out (by omega) (by omega)).mono ?_
  rintro e w1 ⟨x, rfl, hx0, hx1, hc1, hg1⟩
  obtain ⟨j, rfl⟩ := Int.eq_ofNat_of_zero_le hx0
  have hj : j < xs.length := by rw [HM.out]; omega
  have hcell : w1.cell? ⟨gl, j, none⟩ = some (.string xs[j]) := by
    rw [(HL.out.grown hg1 (fun e => HN.out (Option.some.inj e))).cell, List.getElem?_map, List.getElem?_eq_getElem hj]
    rfl
  have HC1 := Lib.hid hc1
  have HG1 := Lib.hid hg1
  clear hc1 hg1
  go_wp2
  go_ret
  exact ⟨xs[j], rfl, List.getElem_mem hj, HC1.out, HG1.out⟩

/-- The texts that are drawn from. -/
def texts : List ByteArray := [⟨#[]⟩, ⟨#[48]⟩, ⟨#[48, 48]⟩, ⟨#[45, 49]⟩, ⟨#[48, 49]⟩, ⟨#[55]⟩, ⟨#[50, 49, 52, 55, 52, 56, 51, 54, 52, 55]⟩, ⟨#[50, 49, 52, 55, 52, 56, 51, 54, 52, 56]⟩, ⟨#[57, 57, 57, 57, 57, 57, 57, 57, 57, 57, 57]⟩, ⟨#[49, 120]⟩, ⟨#[32, 49]⟩]
theorem texts_short : ∀ s ∈ texts, s.size ≤ 100 := by
  have h : (texts.all fun s => decide (s.size ≤ 100)) = true := by decide
  intro s hs
  exact of_decide_eq_true (List.all_eq_true.1 h s hs)
theorem bk_strs (w : World) (xs : List ByteArray) (cs : Array Value) (h : cs.toList = xs.map Value.string) : Bk (w.alloc (.cells cs 9)) w.heap.size 9 (xs.map Value.string) := by
  unfold Bk
  rw [heap_alloc_new, ← h]
theorem txt_short (n : Int) (h : Fits n) : (Txt n).size ≤ 100 := by
  have := Lib.itoa_length_le n (bounds h).1 (bounds h).2
  show (Lib.itoa n).toArray.size ≤ 100
  simp
  omega

set_option maxHeartbeats 1000000 in
theorem drawParseNum (A : Option Addr) (n c : Nat) (l : List UInt8) (w : World) (hs : Sl w w.heap.size A n l) (hn : n ≤ 1048576) : Calls Tryd.prog 8 #[.slice A n c] w (StrD w) := by
  have HS := Lib.hid hs
  clear hs
  go_enter Tryd.func8, Tryd.ntmps8
  go_wp2_with fail
  refine (l1New_any A n c l w HS.out hn).mono ?_
  rintro e w1 ⟨rfl, hc1, hg1⟩
  have C1 := Lib.hid hc1
  have L1 := Lib.hid (below_of_grown hg1)
  clear hc1 hg1
  go_wp2_with fail
  refine (l1Once_any _ 2 w1 C1.out (by omega) (by omega)).mono ?_
  rintro e w2 ⟨b, rfl, hc2, hg2⟩
  have C2 := Lib.hid hc2
  have L2 := Lib.hid (below_more L1.out hg2 (Nat.le_refl _))
  clear hc2 hg2 C1 L1
  cases b
  · go_wp2_with fail
    refine (l1Num_any _ w2 C2.out).mono ?_
    rintro e w3 ⟨x, rfl, hx, _, hg3⟩
    have HX := Lib.hid hx
    have L3 := Lib.hid (below_more L2.out hg3 (Nat.le_refl _))
    clear hx hg3 C2 L2
    go_wp2_with fail
    refine (Num.spec x HX.out w3).mono ?_
    rintro e w4 ⟨rfl, hl4⟩
    have L4 := Lib.hid (L3.out.trans (hl4.mono L3.out.size))
    clear hl4 L3
    go_wp2
    go_ret
    exact ⟨Txt x, rfl, txt_short x HX.out, L4.out⟩
  · go_wp2_with fail
    refine (l1Str_any _ w2.heap.size 11 texts _ (C2.out.alloc _) (bk_strs w2 texts _ rfl) (Nat.ne_of_gt C2.out.lt) rfl (by omega) (by omega)).mono ?_
    rintro e w3 ⟨x, rfl, hx, _, hg3⟩
    have HX := Lib.hid (texts_short x hx)
    have L3 := Lib.hid (below_more (L2.out.alloc L2.out.size _) hg3 (Nat.le_refl _))
    clear hx hg3 C2 L2
    go_wp2
    go_ret
    exact ⟨x, rfl, HX.out, L3.out⟩

/-- ParseNum of a number's own text. -/
theorem good_self {n v : Int} {b : Bool} (h : Digits.Good (Lib.itoa n) v b) : (b = true ∧ v = n ∧ 0 ≤ n ∧ n ≤ 2147483647) ∨ (b = false ∧ ¬ (0 ≤ n ∧ n ≤ 2147483647)) := by
  rcases h with ⟨hb, h0, h1, h2⟩ | ⟨hb, _, h2⟩
  · by_cases hn : 0 ≤ n
    · have := itoa_inj h0 hn h2
      subst this
      exact Or.inl ⟨hb, rfl, h0, h1⟩
    · exfalso
      have hd := (itoa_shape v h0 h1).2.1 45 (by rw [h2, Lib.itoa, if_pos (by omega)]; exact List.mem_cons_self ..)
      have h45 : (45 : UInt8).toNat = 45 := rfl
      unfold IsD at hd
      omega
  · exact Or.inr ⟨hb, fun hn => h2 n hn.1 hn.2 rfl⟩

set_option maxHeartbeats 2000000 in
theorem walk (A : Option Addr) (n c : Nat) (l : List UInt8) (w : World) (hs : Sl w w.heap.size A n l) (_hc : n ≤ c) (_hnil : A = none → n = 0 ∧ c = 0) (he : Env w) :
    Calls Tryd.prog 3 #[.slice A n c] w fun e w' => e = .returned (.bool true) ∧ Below w.heap.size w w' := by
  have HS := Lib.hid hs
  have HE := Lib.hid he
  clear hs he _hnil
  by_cases hn : n ≤ 1048576
  · go_enter Tryd.func3, Tryd.ntmps3
    go_wp2_with fail
    refine (big_no A n c w hn).mono ?_
    rintro e w0 ⟨rfl, rfl⟩
    go_wp2_with fail
    refine (drawNumText A n c l w HS.out hn).mono ?_
    rintro e w1 ⟨x, rfl, hx, hl⟩
    have HX := Lib.hid hx
    have L1 := Lib.hid hl
    clear hx hl
    go_wp2_with fail
    refine (drawParseNum A n c l w1 ((HS.out.below L1.out).wider L1.out.size) hn).mono ?_
    rintro e w2 ⟨s, rfl, hs100, hl⟩
    have L2 := Lib.hid (L1.out.trans (hl.mono L1.out.size))
    clear hl L1
    go_wp2_with fail
    refine (Num.impl x HX.out w2 (HE.out.below L2.out).tab).mono ?_
    rintro e w3 ⟨rfl, hl⟩
    have L3 := Lib.hid (L2.out.trans (hl.mono L2.out.size))
    clear hl L2
    go_wp2_with fail
    refine (Parse.impl (Txt x) (Nat.le_trans (txt_short x HX.out) (by omega)) w3 (HE.out.below L3.out)).mono ?_
    rintro e w4 ⟨v, ok, rfl, hg, hl⟩
    have G4 := Lib.hid (good_self hg)
    have L4 := Lib.hid (L3.out.trans (hl.mono L3.out.size))
    clear hg hl L3
    go_wp2_with fail
    refine (Parse.impl s (by omega) w4 (HE.out.below L4.out)).mono ?_
    rintro e w5 ⟨y, is, rfl, hg, hl⟩
    have G5 := Lib.hid hg
    have L5 := Lib.hid (L4.out.trans (hl.mono L4.out.size))
    clear hg hl L4
    go_wp2_with fail
    refine (Parse.spec s (by omega) w5).mono ?_
    rintro e w6 ⟨y', is', rfl, hg, hl⟩
    have L6 := Lib.hid (L5.out.trans (hl.mono L5.out.size))
    obtain ⟨rfl, rfl⟩ := G5.out.uniq hg
    clear hg hl L5
    go_wp2_with fail
    refine (Num.impl x HX.out w6 (HE.out.below L6.out).tab).mono ?_
    rintro e w7 ⟨rfl, hl⟩
    have L7 := Lib.hid (L6.out.trans (hl.mono L6.out.size))
    clear hl L6
    go_wp2_with fail
    refine (Num.spec x HX.out w7).mono ?_
    rintro e w8 ⟨rfl, hl⟩
    have L8 := Lib.hid (L7.out.trans (hl.mono L7.out.size))
    clear hl L7
    have h1 : (y != y) = false := by simp
    have h2 : (x == x) = true := by simp
    generalize hT : Txt x = t
    have h3 : (t.toList == t.toList) = true := by simp
    clear hT
    rcases G4.out with ⟨rfl, rfl, hx0, hx1⟩ | ⟨rfl, hno⟩
    · cases is
      · go_wp2
        go_ret
        exact ⟨rfl, L8.out⟩
      · obtain ⟨_, hy0, hy1, hys⟩ : true = true ∧ 0 ≤ y ∧ y ≤ 2147483647 ∧ Lib.itoa y = s.data.toList := by
          rcases G5.out with h | ⟨h, _⟩
          · exact h
          · cases h
        have hd : ((Txt y).toList == s.toList) = true := by rw [beq_iff_eq]; exact txt_eq hys
        clear hys
        go_wp2_with fail
        refine (Num.impl y (fits_range y hy0 hy1) w8 (HE.out.below L8.out).tab).mono ?_
        rintro e w9 ⟨rfl, hl⟩
        have L9 := Lib.hid (L8.out.trans (hl.mono L8.out.size))
        clear hl L8
        go_wp2
        go_ret
        exact ⟨rfl, L9.out⟩
    · rcases (show x < 0 ∨ (0 ≤ x ∧ 2147483647 < x) by omega) with hx0 | ⟨hx0, hx1⟩
      · clear hno
        cases is
        · go_wp2
          go_ret
          exact ⟨rfl, L8.out⟩
        · obtain ⟨_, hy0, hy1, hys⟩ : true = true ∧ 0 ≤ y ∧ y ≤ 2147483647 ∧ Lib.itoa y = s.data.toList := by
            rcases G5.out with h | ⟨h, _⟩
            · exact h
            · cases h
          have hd : ((Txt y).toList == s.toList) = true := by rw [beq_iff_eq]; exact txt_eq hys
          clear hys
          go_wp2_with fail
          refine (Num.impl y (fits_range y hy0 hy1) w8 (HE.out.below L8.out).tab).mono ?_
          rintro e w9 ⟨rfl, hl⟩
          have L9 := Lib.hid (L8.out.trans (hl.mono L8.out.size))
          clear hl L8
          go_wp2
          go_ret
          exact ⟨rfl, L9.out⟩
      · clear hno
        have hd9 : decide (x ≤ 2147483647) = false := by simp; omega
        cases is
        · go_wp2
          go_ret
          exact ⟨rfl, L8.out⟩
        · obtain ⟨_, hy0, hy1, hys⟩ : true = true ∧ 0 ≤ y ∧ y ≤ 2147483647 ∧ Lib.itoa y = s.data.toList := by
            rcases G5.out with h | ⟨h, _⟩
            · exact h
            · cases h
          have hd : ((Txt y).toList == s.toList) = true := by rw [beq_iff_eq]; exact txt_eq hys
          clear hys
          go_wp2_with fail
          refine (Num.impl y (fits_range y hy0 hy1) w8 (HE.out.below L8.out).tab).mono ?_
          rintro e w9 ⟨rfl, hl⟩
          have L9 := Lib.hid (L8.out.trans (hl.mono L8.out.size))
          clear hl L8
          go_wp2
          go_ret
          exact ⟨rfl, L9.out⟩
  · go_enter Tryd.func3, Tryd.ntmps3
    go_wp2_with fail
    refine (big_yes A n c w hn).mono ?_
    rintro e w0 ⟨rfl, rfl⟩
    go_wp2
    go_ret
    exact ⟨rfl, Below.refl _ _⟩

end Go.Proofs.YtaladeifmaldeaaDoor.LawDigits
