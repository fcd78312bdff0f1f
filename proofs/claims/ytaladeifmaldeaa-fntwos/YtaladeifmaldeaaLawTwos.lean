/- The law FnTwos returns true on every slice that reads as bytes, and turns nothing that was there. -/
import Derived.Test.YtaladeifmaldeaaSame
import Derived.Test.YtaladeifmaldeaaGet
import Derived.Test.YtaladeifmaldeaaDraw2
import Derived.Deep.RegionHeld3
namespace Go.Proofs.Ytaladeifmaldeaa.LawTwos
open Go.RowKit Go.Proofs.Ytaladeifmaldeaa.Mem Go.Proofs.Ytaladeifmaldeaa.Same Go.Proofs.Ytaladeifmaldeaa.Get Go.Proofs.Ytaladeifmaldeaa.Put Go.Proofs.Ytaladeifmaldeaa.Draw2

theorem of_byte (x : Int) (h0 : 0 ≤ x) (h1 : x < 256) : ((UInt8.ofNat x.toNat).toNat : Int) = x := by
  rw [UInt8.toNat_ofNat_of_lt' (by simp [UInt8.size]; omega), Int.toNat_of_nonneg h0]
/-- Two bytes spell the number that they were made of, and the number makes the bytes that spelt it. -/
theorem be_two (k : Int) (h0 : 0 ≤ k) (h1 : k ≤ 65535) : be (two k) = k := by
  have e1 := of_byte (k / 256) (by omega) (by omega)
  have e2 := of_byte (k % 256) (by omega) (by omega)
  simp only [be, two, List.foldl_cons, List.foldl_nil, e1, e2]
  omega
theorem two_be (a b : UInt8) : two (be [a, b]) = [a, b] := by
  have ha := byte_lt a
  have hb := byte_lt b
  have e : be [a, b] = (a.toNat : Int) * 256 + (b.toNat : Int) := by simp [be]
  have e1 : (((a.toNat : Int) * 256 + (b.toNat : Int)) / 256).toNat = a.toNat := by omega
  have e2 : (((a.toNat : Int) * 256 + (b.toNat : Int)) % 256).toNat = b.toNat := by omega
  rw [e, two, e1, e2, UInt8.ofNat_toNat, UInt8.ofNat_toNat]
theorem take_two (l : List UInt8) (k : Nat) (h : k + 2 ≤ l.length) : (l.drop k).take 2 = [l[k], l[k + 1]] := by
  rw [List.drop_eq_getElem_cons (by omega), List.take_succ_cons, List.drop_eq_getElem_cons (by omega), List.take_succ_cons, List.take_zero]
theorem tail2_take (l : List UInt8) (k : Nat) (h : k + 2 ≤ l.length) : tail2 (be ((l.drop k).take 2)) = (l.drop k).take 2 := by
  rw [take_two l k h]
  have ha := byte_lt l[k]
  have hb := byte_lt l[k + 1]
  have e : be [l[k], l[k + 1]] = (l[k].toNat : Int) * 256 + (l[k + 1].toNat : Int) := by simp [be]
  rw [tail2, if_pos (by rw [e]; omega), two_be]
/-- The number behind lb in what Put2 gave and one byte more. -/
theorem be_behind (lb : List UInt8) (m : Nat) (hm : lb.length = m) (k : Int) (h0 : 0 ≤ k) (h1 : k ≤ 65535) (z : UInt8) : be (((lb ++ two k ++ [z]).drop m).take 2) = k := by
  rw [List.append_assoc, List.drop_append_of_le_length (by omega), List.drop_eq_nil_of_le (by omega), List.nil_append, List.take_append_of_le_length (by simp [two])]
  rw [List.take_of_length_le (by simp [two])]
  exact be_two k h0 h1

/-- What the last statement needs of the world, whatever order it goes in. -/
def St (w : World) (gc : Nat) (lc : List UInt8) (rc : List Value) (w' : World) : Prop := Bk w' gc 5 (lc.map bv ++ rc) ∧ Below w.heap.size w w'
theorem St.later {w w1 w2 : World} {gc : Nat} {lc : List UInt8} {rc : List Value} (h : St w gc lc rc w1) (k : Below w1.heap.size w1 w2) : St w gc lc rc w2 := ⟨h.1.below k h.1.lt, h.2.trans (k.mono h.2.size)⟩
theorem St.alloc {w w1 : World} {gc : Nat} {lc : List UInt8} {rc : List Value} (h : St w gc lc rc w1) (o : Obj) : St w gc lc rc (w1.alloc o) := h.later ((Below.refl _ _).alloc (Nat.le_refl _) o)
theorem St.drew {w w1 : World} {gc : Nat} {lc : List UInt8} {rc : List Value} (h : St w gc lc rc w1) : St w gc lc rc w1.drew := ⟨h.1, h.2.drew⟩
/-- The piece of the drawn slice that Get2 read. -/
theorem St.piece {w w1 : World} {gc k' : Nat} {lc : List UInt8} {rc : List Value} (h : St w gc lc rc w1) (hk : k' + 2 ≤ lc.length) : Sl w1 w1.heap.size (some ⟨gc, k', none⟩) 2 ((lc.drop k').take 2) := by
  have hs := h.1.sl'
  have hlt := h.1.lt
  obtain ⟨b, off, hA, hb, hc⟩ := hs.2 (by omega)
  have hA' := Option.some.inj hA
  obtain ⟨rfl, rfl⟩ : gc = b ∧ 0 = off := by simpa using hA'
  refine Sl.of gc k' rfl (by simp; omega) hlt fun j hj => ?_
  have hj2 : j < 2 := by simp at hj; omega
  have := hc (k' + j) (by omega)
  rw [Nat.zero_add] at this
  rw [this]
  simp

set_option maxHeartbeats 4000000 in
set_option maxRecDepth 100000 in
theorem walk (A : Option Addr) (n c : Nat) (l : List UInt8) (w : World) (hs : Sl w w.heap.size A n l) (_hc : n ≤ c) (_hnil : A = none → n = 0 ∧ c = 0) :
    Calls Try.prog 3 #[.slice A n c] w fun e w' => e = .returned (.bool true) ∧ Below w.heap.size w w' := by
  have HS := Lib.hid hs
  clear hs _hnil
  obtain ⟨i0, hi, hz0, hz1, hz2⟩ := info_parts Copy.info
  by_cases hn : n ≤ 1048576
  · go_enter Try.func3, Try.ntmps3
    go_wp2_with fail
    refine (big_no A n c w hn).mono ?_
    rintro e w0 ⟨rfl, rfl⟩
    go_wp2_with fail
    refine (drawPut2_any A n c l w HS.out hn).mono ?_
    rintro e w1 ⟨gb, m, cap, r, lb, k, rfl, hm, hcap, hm10, hgb, hb, _, hl1⟩
    have MB := Lib.hid hm
    have GB := Lib.hid hgb
    have B1 := Lib.hid hb
    have L1 := Lib.hid hl1
    clear hm hgb hb hl1
    generalize hLL : lb ++ tail2 k = L
    have HE := Lib.hid hLL
    have hLlen : L.length ≤ 14 := by
      rw [← hLL, List.length_append, MB.out]
      have := tail2_len k
      omega
    clear hLL
    go_wp2_with fail
    refine (HE.out ▸ implPut2 _ m cap lb k w1 (MB.out ▸ (B1.out.sl'.wider B1.out.lt)) (fun h => by cases h) (by omega)).mono ?_
    rintro e w2 ⟨gx, mx, cx, rx, rfl, hm, hcx, hg, hb, hl⟩
    have hmx : mx ≤ 14 := by omega
    have MX := Lib.hid hm
    have X2 := Lib.hid hb
    have B2 := Lib.hid (B1.out.below hl B1.out.lt)
    have L2 := Lib.hid (L1.out.trans (hl.mono L1.out.size))
    clear hm hg hb hl B1 L1 hLlen
    go_wp2_with fail
    refine (drawGet2_any A n c l w2 ((HS.out.below L2.out).wider L2.out.size) hn).mono ?_
    rintro e w3 ⟨gc, mc, cc, rc, lc, i, rfl, hm, hcc, hmc10, _, hb, _, hl⟩
    have MC := Lib.hid hm
    have C3 := Lib.hid hb
    have X3 := Lib.hid (X2.out.below hl X2.out.lt)
    have B3 := Lib.hid (B2.out.below hl B2.out.lt)
    have L3 := Lib.hid (L2.out.trans (hl.mono L2.out.size))
    clear hm hb hl B2 X2 L2
    obtain ⟨x, b, HT, HXB⟩ := get2_both (some ⟨gc, 0, none⟩) mc cc lc i MC.out (by omega) hcc
    have HX := Lib.hid HXB
    clear HXB
    go_wp2_with fail
    refine (HT w3 _ (MC.out ▸ (C3.out.sl'.wider C3.out.lt))).2.mono ?_
    rintro e w4 ⟨rfl, hl⟩
    have C4 := Lib.hid (C3.out.below hl C3.out.lt)
    have X4 := Lib.hid (X3.out.below hl X3.out.lt)
    have B4 := Lib.hid (B3.out.below hl B3.out.lt)
    have L4 := Lib.hid (L3.out.trans (hl.mono L3.out.size))
    clear hl B3 X3 L3 C3
    go_wp2_with fail
    refine (HT w4 _ (MC.out ▸ (C4.out.sl'.wider C4.out.lt))).1.mono ?_
    rintro e w5 ⟨rfl, hl⟩
    have C5 := Lib.hid (C4.out.below hl C4.out.lt)
    have X5 := Lib.hid (X4.out.below hl X4.out.lt)
    have B5 := Lib.hid (B4.out.below hl B4.out.lt)
    have L5 := Lib.hid (L4.out.trans (hl.mono L4.out.size))
    clear hl B4 X4 L4 C4
    go_wp2_with fail
    refine (HE.out ▸ specPut2 _ m cap lb k w5 (MB.out ▸ (B5.out.sl'.wider B5.out.lt)) (fun h => by cases h) (by omega)).mono ?_
    rintro e w6 ⟨gs, ms, cs, rs, rfl, hm, _, _, hb, hl⟩
    have hms : ms ≤ 14 := by have := MX.out; omega
    have MS := Lib.hid hm
    have S6 := Lib.hid hb
    have C6 := Lib.hid (C5.out.below hl C5.out.lt)
    have X6 := Lib.hid (X5.out.below hl X5.out.lt)
    have B6 := Lib.hid (B5.out.below hl B5.out.lt)
    have L6 := Lib.hid (L5.out.trans (hl.mono L5.out.size))
    clear hm hb hl B5 X5 L5 C5
    go_wp2_with fail
    refine (same_same _ _ mx cx ms cs L w6 (MX.out ▸ (X6.out.sl'.wider X6.out.lt)) (MS.out ▸ (S6.out.sl'.wider S6.out.lt)) (by omega) (by omega)).mono ?_
    rintro e w7 ⟨rfl, hl⟩
    have C7 := Lib.hid (C6.out.below hl C6.out.lt)
    have X7 := Lib.hid (X6.out.below hl X6.out.lt)
    have B7 := Lib.hid (B6.out.below hl B6.out.lt)
    have L7 := Lib.hid (L6.out.trans (hl.mono L6.out.size))
    clear hl B6 X6 L6 C6 S6
    have hx : (x != x) = false := by simp
    have hbb : (b != b) = false := by cases b <;> rfl
    by_cases hk : 0 ≤ k ∧ k ≤ 65535
    · obtain ⟨h0, h1⟩ := hk
      have hd1 : decide (k < 0) = false := by simp; omega
      have hd2 : decide (65535 < k) = false := by simp; omega
      have SX : Hid (Sl w7 w7.heap.size (some ⟨gx, 0, none⟩) mx L) := MX.out ▸ (X7.out.sl'.wider X7.out.lt)
      go_wp2_with (at_builtin; refine append_src rfl (.tmp 67) (.tmp 68) 22 rfl w7.heap.size 5 i0 (.int .u8 0) Try.underlying22 hi hz0 hz1 hz2 rfl w7.heap.size 0 0 [] rfl (owns_new w7) (some ⟨gx, 0, none⟩) mx cx _ L rfl (sl_alloc SX.out _) (fun h => by cases h) ?a3 ?a4 ?a5 ?_)
      case a3 => omega
      case a4 => omega
      case a5 => simp
      intro g8 cap8 w8 hown hgrow
      have O8 := Lib.hid hown
      have l8 := (((Below.refl w7.heap.size w7).alloc (Nat.le_refl _) (.cells #[] 5))).grown hgrow (by simp) (fun j hj => by cases hj; exact Nat.le_refl _)
      have C8 := Lib.hid (C7.out.below l8 C7.out.lt)
      have L8 := Lib.hid (L7.out.trans (l8.mono L7.out.size))
      have Z8 := Lib.hid l8.size
      have ZC := Lib.hid C7.out.lt
      have Z7 := Lib.hid L7.out.size
      clear hown hgrow l8 B7 X7 L7 C7 SX
      go_wp2_with (at_builtin; refine append_src rfl (.tmp 69) (.tmp 70) 22 rfl w7.heap.size 5 i0 (.int .u8 0) Try.underlying22 hi hz0 hz1 hz2 rfl g8 mx cap8 (L.map bv) rfl (O8.out.alloc _) (some ⟨w8.heap.size, 0, none⟩) 1 1 _ [7] rfl (sl_new w8 _ [7] rfl) (fun h => by cases h) ?b3 ?b4 ?b5 ?_)
      case b3 => omega
      case b4 => omega
      case b5 => have := Z8.out; simp; omega
      intro g9 cap9 w9 hown hgrow
      have hown' : w9.ownsRow w7.heap.size 5 1 (.slice (some ⟨g9, 0, none⟩) (mx + 1) cap9) (mx + 1) ((L ++ [7]).map bv) := by rw [List.map_append]; exact hown
      obtain ⟨r9, hb9, hr9, _⟩ := bk_of_owns hown'
      have l9 : Below w7.heap.size w8 w9 := (((Below.refl w7.heap.size w8).alloc Z8.out _)).grown hgrow (by have := Z8.out; simp; omega) (fun j hj => by cases hj; exact (O8.out.lt g8 rfl).1)
      have B9 := Lib.hid hb9
      have C9 := Lib.hid (C8.out.below l9 ZC.out)
      have L9 := Lib.hid (L8.out.trans (l9.mono Z7.out))
      have hcap9 : mx + 1 ≤ cap9 := by rw [← hr9, List.length_append, List.length_map, List.length_append, MX.out]; simp
      have HLm : Hid (L = lb ++ two k) := by show _ = _; rw [← HE.out, tail2, if_pos ⟨h0, h1⟩]
      have HXM : Hid (mx = m + 2) := by show _ = _; rw [← MX.out, HLm.out, List.length_append, MB.out]; rfl
      clear hown hown' hb9 hr9 hgrow l9 O8 C8 L8
      have S9 : Hid (Sl w9 w9.heap.size (some ⟨g9, 0, none⟩) (mx + 1) (L ++ [7])) := by
        have := B9.out.sl'.wider B9.out.lt
        rwa [List.length_append, MX.out] at this
      have hbk : Hid (be (((L ++ [7]).drop m).take 2) = k) := by show _ = _; rw [HLm.out]; exact be_behind lb m MB.out k h0 h1 7
      go_wp2_with fail
      refine (implGet2_yes (some ⟨g9, 0, none⟩) (mx + 1) cap9 (L ++ [7]) w9 w9.heap.size m S9.out hcap9 (by omega) (by rw [List.length_append, MX.out, HXM.out]; simp)).mono ?_
      rintro e w10 ⟨rfl, rfl⟩
      rw [hbk.out]
      have hkk : (k == k) = true := by simp
      have hlen : ((mx : Int) == (m : Int) + 2) = true := by rw [HXM.out]; simp
      cases b
      · go_wp2
        go_quiet (fail)
        go_wp2
        go_ret
        exact ⟨rfl, L9.out.trans (drewN_below _ _ _)⟩
      · obtain ⟨k', rfl, hk2, hxk⟩ := HX.out rfl
        have HXK := Lib.hid hxk
        clear hxk HX HT
        have hcne : ¬ cc = k' := by omega
        have put := fun w g => implPut2 (some ⟨g, 0, none⟩) 0 0 [] x w Sl.nil (fun h => by cases h) (by omega)
        have PU := Lib.hid put
        clear put
        go_wp2
        have e1 : IntKind.i64.wrap ((k' : Int) + 2) = (k' : Int) + 2 := IntWalk.i64_in _ (by omega)
        have e2 : ((k' : Int) + 2).toNat = k' + 2 := by omega
        have e3 : IntKind.i64.wrap ((m : Int) + 2) = (m : Int) + 2 := IntWalk.i64_in _ (by omega)
        have f1 : (0 : Int) ≤ (k' : Int) := by omega
        have f2 : (k' : Int) ≤ (k' : Int) + 2 := by omega
        have f3 : (k' : Int) + 2 ≤ (cc : Int) := by omega
        have HP := Lib.hid (tail2_take lc k' (by rw [MC.out]; exact hk2))
        rw [← HXK.out] at HP
        have S0 : St w gc lc rc w9 := ⟨C9.out, L9.out⟩
        go_region_held3 (fun w' => St w gc lc rc w')
          (first | exact S0 | exact St.later (by assumption) hl | exact St.alloc (by assumption) _ | exact St.drew (by assumption))
          (first
            | (go_at_call 13; refine (PU.out _ _).mono ?_; rintro e w11 ⟨gp, mp, cp, rp, rfl, hm, _, _, hb, hl⟩; have hmp : mp ≤ 4 := by rw [← hm]; exact tail2_len x)
            | (go_at_call 17; refine (same_same _ _ mp cp 2 _ (tail2 x) w11 (hm ▸ (hb.sl'.wider hb.lt)) (by rw [HP.out]; exact St.piece (by assumption) (by rw [MC.out]; exact hk2)) (by omega) (by omega)).mono ?_; rintro e w12 ⟨rfl, hl⟩))
        have SE : St w gc lc rc w12 := by assumption
        have HE2 := Lib.hid SE.2
        clear SE S0 e1 e2 e3
        go_wp2
        go_ret
        exact ⟨rfl, HE2.out⟩
    · have hk' := hk
      have HK := Lib.hid hk
      clear hk
      rcases (show k < 0 ∨ (¬ k < 0 ∧ 65535 < k) by omega) with hk | ⟨h0, hk⟩
      all_goals
        clear hk'
        go_wp2_with fail
        have hLb : L = lb := by rw [← HE.out, tail2, if_neg HK.out, List.append_nil]
        refine (same_same _ _ mx cx m cap L w7 (MX.out ▸ (X7.out.sl'.wider X7.out.lt)) (by rw [hLb, ← MB.out]; exact B7.out.sl'.wider B7.out.lt) (by omega) (by omega)).mono ?_
        rintro e w8 ⟨rfl, hl⟩
        have L8 := Lib.hid (L7.out.trans (hl.mono L7.out.size))
        clear hl hLb
        go_wp2
        go_ret
        exact ⟨rfl, L8.out⟩
  · go_enter Try.func3, Try.ntmps3
    go_wp2_with fail
    refine (big_yes A n c w hn).mono ?_
    rintro e w0 ⟨rfl, rfl⟩
    go_wp2
    go_ret
    exact ⟨rfl, Below.refl _ _⟩
end Go.Proofs.Ytaladeifmaldeaa.LawTwos
