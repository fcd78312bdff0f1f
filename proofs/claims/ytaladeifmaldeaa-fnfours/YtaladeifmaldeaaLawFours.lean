/- The law FnFours returns true on every slice that reads as bytes, and turns nothing that was there. -/
import Derived.Test.YtaladeifmaldeaaSame
import Derived.Test.YtaladeifmaldeaaGet
import Derived.Test.YtaladeifmaldeaaDraw2
import Derived.Deep.RegionHeld3
namespace Go.Proofs.Ytaladeifmaldeaa.LawFours
open Go.RowKit Go.Proofs.Ytaladeifmaldeaa.Mem Go.Proofs.Ytaladeifmaldeaa.Same Go.Proofs.Ytaladeifmaldeaa.Get Go.Proofs.Ytaladeifmaldeaa.Put Go.Proofs.Ytaladeifmaldeaa.Draw2

theorem of_byte (x : Int) (h0 : 0 ≤ x) (h1 : x < 256) : ((UInt8.ofNat x.toNat).toNat : Int) = x := by
  rw [UInt8.toNat_ofNat_of_lt' (by simp [UInt8.size]; omega), Int.toNat_of_nonneg h0]
/-- Four bytes spell the number that they were made of, and the number makes the bytes that spelt it. -/
theorem be_quad (k : Int) (h0 : 0 ≤ k) (h1 : k ≤ 2147483647) : be (quad k) = k := by
  have e1 := of_byte (k / 16777216) (by omega) (by omega)
  have e2 := of_byte (k / 65536 % 256) (by omega) (by omega)
  have e3 := of_byte (k / 256 % 256) (by omega) (by omega)
  have e4 := of_byte (k % 256) (by omega) (by omega)
  simp only [be, quad, List.foldl_cons, List.foldl_nil, e1, e2, e3, e4]
  omega
theorem quad_be (a b c d : UInt8) : quad (be [a, b, c, d]) = [a, b, c, d] := by
  have ha := byte_lt a
  have hb := byte_lt b
  have hc := byte_lt c
  have hd := byte_lt d
  have e : be [a, b, c, d] = (((a.toNat : Int) * 256 + (b.toNat : Int)) * 256 + (c.toNat : Int)) * 256 + (d.toNat : Int) := by simp [be]
  have e1 : (((((a.toNat : Int) * 256 + (b.toNat : Int)) * 256 + (c.toNat : Int)) * 256 + (d.toNat : Int)) / 16777216).toNat = a.toNat := by omega
  have e2 : (((((a.toNat : Int) * 256 + (b.toNat : Int)) * 256 + (c.toNat : Int)) * 256 + (d.toNat : Int)) / 65536 % 256).toNat = b.toNat := by omega
  have e3 : (((((a.toNat : Int) * 256 + (b.toNat : Int)) * 256 + (c.toNat : Int)) * 256 + (d.toNat : Int)) / 256 % 256).toNat = c.toNat := by omega
  have e4 : (((((a.toNat : Int) * 256 + (b.toNat : Int)) * 256 + (c.toNat : Int)) * 256 + (d.toNat : Int)) % 256).toNat = d.toNat := by omega
  rw [e, quad, e1, e2, e3, e4, UInt8.ofNat_toNat, UInt8.ofNat_toNat, UInt8.ofNat_toNat, UInt8.ofNat_toNat]
theorem take_four (l : List UInt8) (k : Nat) (h : k + 4 ≤ l.length) : (l.drop k).take 4 = [l[k], l[k + 1], l[k + 2], l[k + 3]] := by
  rw [List.drop_eq_getElem_cons (by omega), List.take_succ_cons, List.drop_eq_getElem_cons (by omega), List.take_succ_cons, List.drop_eq_getElem_cons (by omega), List.take_succ_cons, List.drop_eq_getElem_cons (by omega), List.take_succ_cons, List.take_zero]
theorem tail4_take (l : List UInt8) (k : Nat) (h : k + 4 ≤ l.length) (h1 : be ((l.drop k).take 4) ≤ 2147483647) : tail4 (be ((l.drop k).take 4)) = (l.drop k).take 4 := by
  have hp := be_pos ((l.drop k).take 4)
  rw [tail4, if_pos ⟨hp, h1⟩, take_four l k h, quad_be]
/-- The number behind lb in what Put4 gave. -/
theorem be_behind (lb : List UInt8) (m : Nat) (hm : lb.length = m) (k : Int) (h0 : 0 ≤ k) (h1 : k ≤ 2147483647) : be (((lb ++ quad k).drop m).take 4) = k := by
  rw [List.drop_append_of_le_length (by omega), List.drop_eq_nil_of_le (by omega), List.nil_append, List.take_of_length_le (by simp [quad])]
  exact be_quad k h0 h1
theorem four_of (k : Int) (h1 : k ≤ 2147483647) : four k = .tuple #[.int .i64 k, .bool true] := by rw [four, if_neg (by omega)]

/-- Least and Most, in the program and in its model. -/
theorem least (a b : Int) (w : World) : Calls Try.prog 26 #[.int .i64 a, .int .i64 b] w (fun e w' => e = .returned (.int .i64 (min a b)) ∧ w = w') ∧ Calls Try.prog 27 #[.int .i64 a, .int .i64 b] w (fun e w' => e = .returned (.int .i64 (min a b)) ∧ w = w') := by
  by_cases h : b < a
  · have hm : min a b = b := by omega
    rw [hm]
    clear hm
    constructor
    · go_enter Try.func26, Try.ntmps26
      go_wp2
      go_ret
      exact ⟨rfl, rfl⟩
    · go_enter Try.func27, Try.ntmps27
      go_wp2
      go_ret
      exact ⟨rfl, rfl⟩
  · have hm : min a b = a := by omega
    have h' : a ≤ b := by omega
    rw [hm]
    clear hm
    constructor
    · go_enter Try.func26, Try.ntmps26
      go_wp2
      go_ret
      exact ⟨rfl, rfl⟩
    · go_enter Try.func27, Try.ntmps27
      go_wp2
      go_ret
      exact ⟨rfl, rfl⟩
theorem most (a b : Int) (w : World) : Calls Try.prog 28 #[.int .i64 a, .int .i64 b] w (fun e w' => e = .returned (.int .i64 (max a b)) ∧ w = w') ∧ Calls Try.prog 29 #[.int .i64 a, .int .i64 b] w (fun e w' => e = .returned (.int .i64 (max a b)) ∧ w = w') := by
  by_cases h : a < b
  · have hm : max a b = b := by omega
    rw [hm]
    clear hm
    constructor
    · go_enter Try.func28, Try.ntmps28
      go_wp2
      go_ret
      exact ⟨rfl, rfl⟩
    · go_enter Try.func29, Try.ntmps29
      go_wp2
      go_ret
      exact ⟨rfl, rfl⟩
  · have hm : max a b = a := by omega
    have h' : b ≤ a := by omega
    rw [hm]
    clear hm
    constructor
    · go_enter Try.func28, Try.ntmps28
      go_wp2
      go_ret
      exact ⟨rfl, rfl⟩
    · go_enter Try.func29, Try.ntmps29
      go_wp2
      go_ret
      exact ⟨rfl, rfl⟩

/-- What the last statement needs of the world, whatever order it goes in. -/
def St (w : World) (gc : Nat) (lc : List UInt8) (rc : List Value) (w' : World) : Prop := Bk w' gc 5 (lc.map bv ++ rc) ∧ Below w.heap.size w w'
theorem St.later {w w1 w2 : World} {gc : Nat} {lc : List UInt8} {rc : List Value} (h : St w gc lc rc w1) (k : Below w1.heap.size w1 w2) : St w gc lc rc w2 := ⟨h.1.below k h.1.lt, h.2.trans (k.mono h.2.size)⟩
theorem St.alloc {w w1 : World} {gc : Nat} {lc : List UInt8} {rc : List Value} (h : St w gc lc rc w1) (o : Obj) : St w gc lc rc (w1.alloc o) := h.later ((Below.refl _ _).alloc (Nat.le_refl _) o)
theorem St.drew {w w1 : World} {gc : Nat} {lc : List UInt8} {rc : List Value} (h : St w gc lc rc w1) : St w gc lc rc w1.drew := ⟨h.1, h.2.drew⟩
/-- The piece of the drawn slice that Get4 read. -/
theorem St.piece {w w1 : World} {gc k' : Nat} {lc : List UInt8} {rc : List Value} (h : St w gc lc rc w1) (hk : k' + 4 ≤ lc.length) : Sl w1 w1.heap.size (some ⟨gc, k', none⟩) 4 ((lc.drop k').take 4) := by
  have hs := h.1.sl'
  have hlt := h.1.lt
  obtain ⟨b, off, hA, hb, hc⟩ := hs.2 (by omega)
  have hA' := Option.some.inj hA
  obtain ⟨rfl, rfl⟩ : gc = b ∧ 0 = off := by simpa using hA'
  refine Sl.of gc k' rfl (by simp; omega) hlt fun j hj => ?_
  have hj2 : j < 4 := by simp at hj; omega
  have := hc (k' + j) (by omega)
  rw [Nat.zero_add] at this
  rw [this]
  simp

set_option maxHeartbeats 4000000 in
set_option maxRecDepth 100000 in
theorem walk (A : Option Addr) (n c : Nat) (l : List UInt8) (w : World) (hs : Sl w w.heap.size A n l) (_hc : n ≤ c) (_hnil : A = none → n = 0 ∧ c = 0) :
    Calls Try.prog 4 #[.slice A n c] w fun e w' => e = .returned (.bool true) ∧ Below w.heap.size w w' := by
  have HS := Lib.hid hs
  clear hs _hnil
  by_cases hn : n ≤ 1048576
  · go_enter Try.func4, Try.ntmps4
    go_wp2_with fail
    refine (big_no A n c w hn).mono ?_
    rintro e w0 ⟨rfl, rfl⟩
    go_wp2_with fail
    refine (drawPut4_any A n c l w HS.out hn).mono ?_
    rintro e w1 ⟨gb, m, cap, r, lb, k, rfl, hm, hcap, hm10, hgb, hb, _, hl1⟩
    have MB := Lib.hid hm
    have GB := Lib.hid hgb
    have B1 := Lib.hid hb
    have L1 := Lib.hid hl1
    clear hm hgb hb hl1
    generalize hLL : lb ++ tail4 k = L
    have HE := Lib.hid hLL
    have hLlen : L.length ≤ 14 := by
      rw [← hLL, List.length_append, MB.out]
      have := tail4_len k
      omega
    clear hLL
    go_wp2_with fail
    refine (HE.out ▸ implPut4 _ m cap lb k w1 (MB.out ▸ (B1.out.sl'.wider B1.out.lt)) (fun h => by cases h) (by omega)).mono ?_
    rintro e w2 ⟨gx, mx, cx, rx, rfl, hm, hcx, hg, hb, hl⟩
    have hmx : mx ≤ 14 := by omega
    have MX := Lib.hid hm
    have X2 := Lib.hid hb
    have B2 := Lib.hid (B1.out.below hl B1.out.lt)
    have L2 := Lib.hid (L1.out.trans (hl.mono L1.out.size))
    clear hm hg hb hl B1 L1 hLlen
    go_wp2_with fail
    refine (drawGet4_any A n c l w2 ((HS.out.below L2.out).wider L2.out.size) hn).mono ?_
    rintro e w3 ⟨gc, mc, cc, rc, lc, i, rfl, hm, hcc, hmc10, _, hb, _, hl⟩
    have MC := Lib.hid hm
    have C3 := Lib.hid hb
    have X3 := Lib.hid (X2.out.below hl X2.out.lt)
    have B3 := Lib.hid (B2.out.below hl B2.out.lt)
    have L3 := Lib.hid (L2.out.trans (hl.mono L2.out.size))
    clear hm hb hl B2 X2 L2
    obtain ⟨x, b, HT, HXB⟩ := get4_both (some ⟨gc, 0, none⟩) mc cc lc i MC.out (by omega) hcc
    have HX := Lib.hid HXB
    clear HXB
    go_wp2_with fail
    refine (HT w3 _ (MC.out ▸ (C3.out.sl'.wider C3.out.lt))).2.mono ?_
    rintro e w4 ⟨rfl, hl⟩
    have C4 := Lib.hid (C3.out.below hl C3.out.lt)
    have X4 := Lib.hid (X3.out.below hl X3.out.lt)
    have B4 := Lib.hid (B3.out.below hl B3.out.lt)
    have L4 := Lib.hid (L3.out.trans (hl.mono L3.out.size))
    clear hl B3 X3 L3 C3
    go_wp2_with fail
    refine (HT w4 _ (MC.out ▸ (C4.out.sl'.wider C4.out.lt))).1.mono ?_
    rintro e w5 ⟨rfl, hl⟩
    have C5 := Lib.hid (C4.out.below hl C4.out.lt)
    have X5 := Lib.hid (X4.out.below hl X4.out.lt)
    have B5 := Lib.hid (B4.out.below hl B4.out.lt)
    have L5 := Lib.hid (L4.out.trans (hl.mono L4.out.size))
    clear hl B4 X4 L4 C4
    go_wp2_with fail
    refine (drawLeast_any A n c l w5 ((HS.out.below L5.out).wider L5.out.size) hn).mono ?_
    rintro e w55 ⟨p, q, rfl, hl⟩
    have C55 := Lib.hid (C5.out.below hl C5.out.lt)
    have X55 := Lib.hid (X5.out.below hl X5.out.lt)
    have B55 := Lib.hid (B5.out.below hl B5.out.lt)
    have L55 := Lib.hid (L5.out.trans (hl.mono L5.out.size))
    clear hl B5 X5 L5 C5
    go_wp2_with fail
    refine (HE.out ▸ specPut4 _ m cap lb k w55 (MB.out ▸ (B55.out.sl'.wider B55.out.lt)) (fun h => by cases h) (by omega)).mono ?_
    rintro e w6 ⟨gs, ms, cs, rs, rfl, hm, _, _, hb, hl⟩
    have hms : ms ≤ 14 := by have := MX.out; omega
    have MS := Lib.hid hm
    have S6 := Lib.hid hb
    have C6 := Lib.hid (C55.out.below hl C55.out.lt)
    have X6 := Lib.hid (X55.out.below hl X55.out.lt)
    have B6 := Lib.hid (B55.out.below hl B55.out.lt)
    have L6 := Lib.hid (L55.out.trans (hl.mono L55.out.size))
    clear hm hb hl B55 X55 L55 C55
    go_wp2_with fail
    refine (same_same _ _ mx cx ms cs L w6 (MX.out ▸ (X6.out.sl'.wider X6.out.lt)) (MS.out ▸ (S6.out.sl'.wider S6.out.lt)) (by omega) (by omega)).mono ?_
    rintro e w7 ⟨rfl, hl⟩
    have C7 := Lib.hid (C6.out.below hl C6.out.lt)
    have X7 := Lib.hid (X6.out.below hl X6.out.lt)
    have B7 := Lib.hid (B6.out.below hl B6.out.lt)
    have L7 := Lib.hid (L6.out.trans (hl.mono L6.out.size))
    clear hl B6 X6 L6 C6 S6
    have hx : (x != x) = false := by simp
    have hbb : (b != b) = false := by cases b <;> rfl
    have hpq : (min p q != min p q) = false := by simp
    have hpr : (max p q != max p q) = false := by simp
    generalize hmi : min p q = mi at hpq
    generalize hma : max p q = ma at hpr
    have MI := Lib.hid hmi
    have MA := Lib.hid hma
    clear hmi hma
    have HLE := Lib.hid (fun w => MI.out ▸ least p q w)
    have HMO := Lib.hid (fun w => MA.out ▸ most p q w)
    go_wp2_with fail
    refine (HLE.out w7).1.mono ?_
    rintro e w77 ⟨rfl, rfl⟩
    go_wp2_with fail
    refine (HLE.out w7).2.mono ?_
    rintro e w77 ⟨rfl, rfl⟩
    go_wp2_with fail
    refine (HMO.out w7).1.mono ?_
    rintro e w77 ⟨rfl, rfl⟩
    go_wp2_with fail
    refine (HMO.out w7).2.mono ?_
    rintro e w77 ⟨rfl, rfl⟩
    by_cases hk : 0 ≤ k ∧ k ≤ 2147483647
    · obtain ⟨h0, h1⟩ := hk
      have hd1 : decide (k < 0) = false := by simp; omega
      have hd2 : decide (2147483647 < k) = false := by simp; omega
      have SX : Hid (Sl w7 w7.heap.size (some ⟨gx, 0, none⟩) mx L) := MX.out ▸ (X7.out.sl'.wider X7.out.lt)
      have HLm : Hid (L = lb ++ quad k) := by show _ = _; rw [← HE.out, tail4, if_pos ⟨h0, h1⟩]
      have HXM : Hid (mx = m + 4) := by show _ = _; rw [← MX.out, HLm.out, List.length_append, MB.out]; rfl
      have hbk : Hid (four (be ((L.drop m).take 4)) = .tuple #[.int .i64 k, .bool true]) := by show _ = _; rw [HLm.out, be_behind lb m MB.out k h0 h1]; exact four_of k h1
      go_wp2_with fail
      refine (implGet4_yes (some ⟨gx, 0, none⟩) mx cx L w7 w7.heap.size m SX.out hcx (by omega) (by rw [MX.out, HXM.out]; exact Nat.le_refl _)).mono ?_
      rintro e w10 ⟨rfl, rfl⟩
      rw [hbk.out]
      have hkk : (k == k) = true := by simp
      clear SX B7 X7
      cases b
      · go_wp2
        go_quiet (fail)
        go_wp2
        go_ret
        exact ⟨rfl, L7.out.trans (drewN_below _ _ _)⟩
      · obtain ⟨k', rfl, hk2, hxk, hxm⟩ := HX.out rfl
        have HXK := Lib.hid hxk
        clear hxk HX HT
        have hcne : ¬ cc = k' := by omega
        have put := fun w g => implPut4 (some ⟨g, 0, none⟩) 0 0 [] x w Sl.nil (fun h => by cases h) (by omega)
        have PU := Lib.hid put
        clear put
        go_wp2
        have e1 : IntKind.i64.wrap ((k' : Int) + 4) = (k' : Int) + 4 := IntWalk.i64_in _ (by omega)
        have e2 : ((k' : Int) + 4).toNat = k' + 4 := by omega
        have f1 : (0 : Int) ≤ (k' : Int) := by omega
        have f2 : (k' : Int) ≤ (k' : Int) + 4 := by omega
        have f3 : (k' : Int) + 4 ≤ (cc : Int) := by omega
        have HP := Lib.hid (tail4_take lc k' (by rw [MC.out]; exact hk2) (by rw [← HXK.out]; exact hxm))
        rw [← HXK.out] at HP
        have S0 : St w gc lc rc w7 := ⟨C7.out, L7.out⟩
        go_region_held3 (fun w' => St w gc lc rc w')
          (first | exact S0 | exact St.later (by assumption) hl | exact St.alloc (by assumption) _ | exact St.drew (by assumption))
          (first
            | (go_at_call 20; refine (PU.out _ _).mono ?_; rintro e w11 ⟨gp, mp, cp, rp, rfl, hm, _, _, hb, hl⟩; have hmp : mp ≤ 4 := by rw [← hm]; exact tail4_len x)
            | (go_at_call 17; refine (same_same _ _ mp cp 4 _ (tail4 x) w11 (hm ▸ (hb.sl'.wider hb.lt)) (by rw [HP.out]; exact St.piece (by assumption) (by rw [MC.out]; exact hk2)) (by omega) (by omega)).mono ?_; rintro e w12 ⟨rfl, hl⟩))
        have SE : St w gc lc rc w12 := by assumption
        have HE2 := Lib.hid SE.2
        clear SE S0 e1 e2
        go_wp2
        go_ret
        exact ⟨rfl, HE2.out⟩
    · have hk' := hk
      have HK := Lib.hid hk
      clear hk
      rcases (show k < 0 ∨ (¬ k < 0 ∧ 2147483647 < k) by omega) with hk | ⟨h0, hk⟩
      all_goals
        clear hk'
        go_wp2_with fail
        have hLb : L = lb := by rw [← HE.out, tail4, if_neg HK.out, List.append_nil]
        refine (same_same _ _ mx cx m cap L w7 (MX.out ▸ (X7.out.sl'.wider X7.out.lt)) (by rw [hLb, ← MB.out]; exact B7.out.sl'.wider B7.out.lt) (by omega) (by omega)).mono ?_
        rintro e w8 ⟨rfl, hl⟩
        have L8 := Lib.hid (L7.out.trans (hl.mono L7.out.size))
        clear hl hLb
        go_wp2
        go_ret
        exact ⟨rfl, L8.out⟩
  · go_enter Try.func4, Try.ntmps4
    go_wp2_with fail
    refine (big_yes A n c w hn).mono ?_
    rintro e w0 ⟨rfl, rfl⟩
    go_wp2
    go_ret
    exact ⟨rfl, Below.refl _ _⟩
end Go.Proofs.Ytaladeifmaldeaa.LawFours
