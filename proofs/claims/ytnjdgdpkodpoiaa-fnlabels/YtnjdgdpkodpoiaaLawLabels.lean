/- The law FnLabels returns true on every slice that reads as bytes, and turns nothing that was there. -/
import Derived.Test.YtnjdgdpkodpoiaaSame
import Derived.Test.YtnjdgdpkodpoiaaGetLabel
import Derived.Test.YtnjdgdpkodpoiaaDrawLab
namespace Go.Proofs.Ytnjdgdpkodpoiaa.LawLabels
open Go.RowKit Go.Proofs.Ytnjdgdpkodpoiaa.Mem Go.Proofs.Ytnjdgdpkodpoiaa.Same Go.Proofs.Ytnjdgdpkodpoiaa.Label Go.Proofs.Ytnjdgdpkodpoiaa.Fold Go.Proofs.Ytnjdgdpkodpoiaa.PutLabel Go.Proofs.Ytnjdgdpkodpoiaa.GetLabel Go.Proofs.Ytnjdgdpkodpoiaa.Draw2 Go.Proofs.Ytnjdgdpkodpoiaa.DrawLab

theorem fo_fo (x : UInt8) : fo (fo x) = fo x := by
  by_cases h : 65 ≤ (x.toNat : Int) ∧ (x.toNat : Int) ≤ 90
  · exact fo_out _ (by rw [fo_in x h]; omega)
  · rw [fo_out x h, fo_out x h]
theorem text_ext {a b : ByteArray} (h : a.data.toList = b.data.toList) : a = b := by
  cases a; cases b; congr; exact Array.toList_inj.1 h
theorem Fo_Fo (s : ByteArray) : Fo (Fo s) = Fo s := by
  apply text_ext
  rw [Fo_list, Fo_list, List.map_map]
  exact List.map_congr_left fun x _ => fo_fo x
theorem fo_ok (x : UInt8) (h : okB x = true) : fo x = x := by
  apply fo_out
  unfold okB okC at h
  have := of_decide_eq_true h
  omega
theorem Fo_ok (s : ByteArray) (h : lok s.data.toList = true) : Fo s = s := by
  apply text_ext
  rw [Fo_list]
  rw [lok, Bool.and_eq_true] at h
  conv => rhs; rw [← List.map_id s.data.toList]
  exact List.map_congr_left fun x hx => fo_ok x (List.all_eq_true.1 h.2 x hx)
/-- What GetLabel returned is a label, and the offset behind it. -/
theorem has_true {l : List UInt8} {k : Int} {t : ByteArray} {e : Nat} (h : has l k = some (t, e)) : lok t.data.toList = true ∧ (e : Int) = k + 1 + (t.size : Int) ∧ 0 ≤ k ∧ k < (l.length : Int) := by
  by_cases hk : k < 0 ∨ (l.length : Int) ≤ k
  · rw [has_out l k hk] at h; cases h
  · obtain ⟨k', rfl⟩ := Int.eq_ofNat_of_zero_le (show 0 ≤ k by omega)
    rw [has_in l k' (by omega)] at h
    split at h
    · rename_i hh
      have h' := Option.some.inj h
      have h1 := congrArg Prod.fst h'
      have h2 := congrArg Prod.snd h'
      simp only at h1 h2
      rw [← h1, ← h2]
      refine ⟨hh.2, ?_, by omega, by omega⟩
      rw [Fo_size, piece_size l k' _ hh.1]
      omega
    · cases h
/-- The label that PutLabel put there. -/
theorem has_put (lb : List UInt8) (m : Nat) (hm : lb.length = m) (s : ByteArray) (h : lok s.data.toList = true) : has (lb ++ (one s.size ++ s.data.toList)) (m : Int) = some (s, m + 1 + s.size) := by
  have hl := lok_len h
  have hsz : s.data.toList.length = s.size := by simp
  rw [hsz] at hl
  have hlen : (lb ++ (one s.size ++ s.data.toList)).length = m + (1 + s.size) := by rw [List.length_append, List.length_append, hm, hsz, one_len]
  have hx : (lb ++ (one s.size ++ s.data.toList))[m]'(by omega) = UInt8.ofNat s.size := by
    rw [List.getElem_append_right (by omega)]
    simp [one, hm]
  have hn : (UInt8.ofNat s.size).toNat = s.size := by rw [UInt8.toNat_ofNat_of_lt' (by simp [UInt8.size]; omega)]
  have hp : piece (lb ++ (one s.size ++ s.data.toList)) m s.size = s := by
    apply text_ext
    rw [piece_list]
    have : (lb ++ (one s.size ++ s.data.toList)).drop (m + 1) = s.data.toList := by
      rw [← List.append_assoc, List.drop_append_of_le_length (by rw [List.length_append, one_len]; omega), List.drop_eq_nil_of_le (by rw [List.length_append, one_len]; omega), List.nil_append]
    rw [this, List.take_of_length_le (by omega)]
  rw [has_in _ m (by omega), hx, hn, hp, Fo_ok s h, if_pos ⟨by omega, h⟩]

set_option maxHeartbeats 4000000 in
set_option maxRecDepth 100000 in
theorem walk (A : Option Addr) (n c : Nat) (l : List UInt8) (w : World) (hs : Sl w w.heap.size A n l) (_hc : n ≤ c) (_hnil : A = none → n = 0 ∧ c = 0) :
    Calls Try.prog 3 #[.slice A n c] w fun e w' => e = .returned (.bool true) ∧ Below w.heap.size w w' := by
  have HS := Lib.hid hs
  clear hs _hnil
  by_cases hn : n ≤ 1048576
  · go_enter Try.func3, Try.ntmps3
    go_wp2_with fail
    refine (big_no A n c w hn).mono ?_
    rintro e w0 ⟨rfl, rfl⟩
    go_wp2_with fail
    refine (drawPutLabel_any A n c l w HS.out hn).mono ?_
    rintro e w1 ⟨gb, m, cap, r, lb, s, rfl, hm, hcap, hm10, hgb, hb, hshort, hl1⟩
    have hs20 : s.size ≤ 20 := hshort
    have MB := Lib.hid hm
    have B1 := Lib.hid hb
    have L1 := Lib.hid hl1
    clear hm hgb hb hl1 hshort
    generalize hLL : lb ++ tailL s = L
    have HE := Lib.hid hLL
    have hLlen : L.length ≤ 23 := by
      rw [← hLL, List.length_append, MB.out]
      have := tailL_len s
      omega
    clear hLL
    go_wp2_with fail
    refine (HE.out ▸ implPut _ m cap lb s w1 (MB.out ▸ (B1.out.sl'.wider B1.out.lt)) (fun h => by cases h) (by omega) (by omega)).mono ?_
    rintro e w2 ⟨gx, mx, cx, rx, rfl, hm, hcx, hg, hb, hl⟩
    have hmx : mx ≤ 23 := by omega
    have MX := Lib.hid hm
    have X2 := Lib.hid hb
    have B2 := Lib.hid (B1.out.below hl B1.out.lt)
    have L2 := Lib.hid (L1.out.trans (hl.mono L1.out.size))
    clear hm hg hb hl B1 L1 hLlen
    go_wp2_with fail
    refine (drawGetLabel_any A n c l w2 ((HS.out.below L2.out).wider L2.out.size) hn).mono ?_
    rintro e w3 ⟨gc, mc, cc, rc, lc, i, rfl, hm, hcc, hmc20, _, hb, _, hl⟩
    have MC := Lib.hid hm
    have C3 := Lib.hid hb
    have X3 := Lib.hid (X2.out.below hl X2.out.lt)
    have B3 := Lib.hid (B2.out.below hl B2.out.lt)
    have L3 := Lib.hid (L2.out.trans (hl.mono L2.out.size))
    clear hm hb hl B2 X2 L2
    obtain ⟨t, y, b, HT, HXB⟩ := GetLabel.both mc lc i (by omega)
    have HX := Lib.hid HXB
    clear HXB
    go_wp2_with fail
    refine (HT _ cc w3 _ (MC.out ▸ (C3.out.sl'.wider C3.out.lt)) hcc).2.mono ?_
    rintro e w4 ⟨rfl, hl⟩
    have C4 := Lib.hid (C3.out.below hl C3.out.lt)
    have X4 := Lib.hid (X3.out.below hl X3.out.lt)
    have B4 := Lib.hid (B3.out.below hl B3.out.lt)
    have L4 := Lib.hid (L3.out.trans (hl.mono L3.out.size))
    clear hl B3 X3 L3 C3
    go_wp2_with fail
    refine (HT _ cc w4 _ (MC.out ▸ (C4.out.sl'.wider C4.out.lt)) hcc).1.mono ?_
    rintro e w5 ⟨rfl, hl⟩
    have X5 := Lib.hid (X4.out.below hl X4.out.lt)
    have B5 := Lib.hid (B4.out.below hl B4.out.lt)
    have L5 := Lib.hid (L4.out.trans (hl.mono L4.out.size))
    clear hl B4 X4 L4 C4
    go_wp2_with fail
    refine (drawFold_any A n c l w5 ((HS.out.below L5.out).wider L5.out.size) hn).mono ?_
    rintro e w6 ⟨f, rfl, hf, hl⟩
    have hf20 : f.size ≤ 20 := hf
    have X6 := Lib.hid (X5.out.below hl X5.out.lt)
    have B6 := Lib.hid (B5.out.below hl B5.out.lt)
    have L6 := Lib.hid (L5.out.trans (hl.mono L5.out.size))
    clear hf hl B5 X5 L5
    go_wp2_with fail
    refine (HE.out ▸ specPut _ m cap lb s w6 (MB.out ▸ (B6.out.sl'.wider B6.out.lt)) (fun h => by cases h) (by omega) (by omega)).mono ?_
    rintro e w7 ⟨gs, ms, cs, rs, rfl, hm, _, _, hb, hl⟩
    have hms : ms ≤ 23 := by have := MX.out; omega
    have MS := Lib.hid hm
    have S7 := Lib.hid hb
    have X7 := Lib.hid (X6.out.below hl X6.out.lt)
    have B7 := Lib.hid (B6.out.below hl B6.out.lt)
    have L7 := Lib.hid (L6.out.trans (hl.mono L6.out.size))
    clear hm hb hl B6 X6 L6
    go_wp2_with fail
    refine (same_same _ _ mx cx ms cs L w7 (MX.out ▸ (X7.out.sl'.wider X7.out.lt)) (MS.out ▸ (S7.out.sl'.wider S7.out.lt)) (by omega) (by omega)).mono ?_
    rintro e w8 ⟨rfl, hl⟩
    have X8 := Lib.hid (X7.out.below hl X7.out.lt)
    have B8 := Lib.hid (B7.out.below hl B7.out.lt)
    have L8 := Lib.hid (L7.out.trans (hl.mono L7.out.size))
    clear hl B7 X7 L7 S7
    have q1 : (t.data.toList == t.data.toList) = true := by simp
    have q2 : (y != y) = false := by simp
    have q3 : (b != b) = false := by cases b <;> rfl
    go_wp2_with fail
    refine (Fold.impl_any f w8 (by omega)).mono ?_
    rintro e w9 ⟨rfl, hl⟩
    have X9 := Lib.hid (X8.out.below hl X8.out.lt)
    have B9 := Lib.hid (B8.out.below hl B8.out.lt)
    have L9 := Lib.hid (L8.out.trans (hl.mono L8.out.size))
    clear hl B8 X8 L8 q1 q2 q3
    go_wp2_with fail
    refine (Fold.spec_any f w9 (by omega)).mono ?_
    rintro e w10 ⟨rfl, hl⟩
    have X10 := Lib.hid (X9.out.below hl X9.out.lt)
    have B10 := Lib.hid (B9.out.below hl B9.out.lt)
    have L10 := Lib.hid (L9.out.trans (hl.mono L9.out.size))
    clear hl B9 X9 L9
    have q1 : ((Fo f).data.toList == (Fo f).data.toList) = true := by simp
    go_wp2_with fail
    refine (Fold.impl_any f w10 (by omega)).mono ?_
    rintro e w11 ⟨rfl, hl⟩
    have X11 := Lib.hid (X10.out.below hl X10.out.lt)
    have B11 := Lib.hid (B10.out.below hl B10.out.lt)
    have L11 := Lib.hid (L10.out.trans (hl.mono L10.out.size))
    clear hl B10 X10 L10
    go_wp2_with fail
    refine (Fold.impl_any (Fo f) w11 (by rw [Fo_size]; omega)).mono ?_
    rintro e w12 ⟨rfl, hl⟩
    have X12 := Lib.hid (X11.out.below hl X11.out.lt)
    have B12 := Lib.hid (B11.out.below hl B11.out.lt)
    have L12 := Lib.hid (L11.out.trans (hl.mono L11.out.size))
    clear hl B11 X11 L11
    rw [Fo_Fo]
    go_wp2_with fail
    refine (Fold.impl_any f w12 (by omega)).mono ?_
    rintro e w13 ⟨rfl, hl⟩
    have X13 := Lib.hid (X12.out.below hl X12.out.lt)
    have B13 := Lib.hid (B12.out.below hl B12.out.lt)
    have L13 := Lib.hid (L12.out.trans (hl.mono L12.out.size))
    clear hl B12 X12 L12
    go_wp2_with fail
    refine (Label.impl_any s w13 (by omega)).mono ?_
    rintro e w14 ⟨rfl, hl⟩
    have X14 := Lib.hid (X13.out.below hl X13.out.lt)
    have B14 := Lib.hid (B13.out.below hl B13.out.lt)
    have L14 := Lib.hid (L13.out.trans (hl.mono L13.out.size))
    clear hl B13 X13 L13
    go_wp2_with fail
    refine (Label.spec_any s w14 (by omega)).mono ?_
    rintro e w15 ⟨rfl, rfl⟩
    have q3 : (lok s.data.toList != lok s.data.toList) = false := by simp
    clear q1
    cases hb : lok s.data.toList
    · have HB := Lib.hid hb
      clear hb q3
      cases b
      · clear HX HT
        go_wp2_with fail
        refine (Label.impl_any s w14 (by omega)).mono ?_
        rw [HB.out]
        rintro e w15 ⟨rfl, hl⟩
        have X15 := Lib.hid (X14.out.below hl X14.out.lt)
        have B15 := Lib.hid (B14.out.below hl B14.out.lt)
        have L15 := Lib.hid (L14.out.trans (hl.mono L14.out.size))
        clear hl B14 X14 L14
        have hLb : L = lb := by rw [← HE.out, tailL, HB.out]; simp
        go_wp2_with fail
        refine (same_same _ _ mx cx m cap L w15 (MX.out ▸ (X15.out.sl'.wider X15.out.lt)) (by rw [hLb, ← MB.out]; exact B15.out.sl'.wider B15.out.lt) (by omega) (by omega)).mono ?_
        rintro e w16 ⟨rfl, hl⟩
        have L16 := Lib.hid (L15.out.trans (hl.mono L15.out.size))
        clear hl hLb
        go_wp2
        go_ret
        exact ⟨rfl, L16.out⟩
      · obtain ⟨e1, he, rfl⟩ := HX.out rfl
        obtain ⟨hlt, hey, hi0, hi1⟩ := has_true he
        rw [hey]
        have HLT := Lib.hid hlt
        have hmc : i < 20 := by rw [MC.out] at hi1; omega
        have ht : (t.size : Int) ≤ 12 := by have := (lok_len hlt).2; simp at this; omega
        clear he hey hlt hi1 HX HT
        have p1 : (i + 1 + (t.size : Int) != i + 1 + (t.size : Int)) = false := by simp
        go_wp2_with fail
        refine (Label.impl_any t w14 (by omega)).mono ?_
        rw [HLT.out]
        rintro e w15 ⟨rfl, hl⟩
        have X15 := Lib.hid (X14.out.below hl X14.out.lt)
        have B15 := Lib.hid (B14.out.below hl B14.out.lt)
        have L15 := Lib.hid (L14.out.trans (hl.mono L14.out.size))
        clear hl B14 X14 L14
        go_wp2_with fail
        refine (Label.impl_any s w15 (by omega)).mono ?_
        rw [HB.out]
        rintro e w16 ⟨rfl, hl⟩
        have X16 := Lib.hid (X15.out.below hl X15.out.lt)
        have B16 := Lib.hid (B15.out.below hl B15.out.lt)
        have L16 := Lib.hid (L15.out.trans (hl.mono L15.out.size))
        clear hl B15 X15 L15
        clear p1
        have hLb : L = lb := by rw [← HE.out, tailL, HB.out]; simp
        go_wp2_with fail
        refine (same_same _ _ mx cx m cap L w16 (MX.out ▸ (X16.out.sl'.wider X16.out.lt)) (by rw [hLb, ← MB.out]; exact B16.out.sl'.wider B16.out.lt) (by omega) (by omega)).mono ?_
        rintro e w17 ⟨rfl, hl⟩
        have L17 := Lib.hid (L16.out.trans (hl.mono L16.out.size))
        clear hl hLb
        go_wp2
        go_ret
        exact ⟨rfl, L17.out⟩
    · have HB := Lib.hid hb
      clear hb q3
      cases b
      · clear HX HT
        go_wp2_with fail
        refine (Label.impl_any s w14 (by omega)).mono ?_
        rw [HB.out]
        rintro e w15 ⟨rfl, hl⟩
        have X15 := Lib.hid (X14.out.below hl X14.out.lt)
        have B15 := Lib.hid (B14.out.below hl B14.out.lt)
        have L15 := Lib.hid (L14.out.trans (hl.mono L14.out.size))
        clear hl B14 X14 L14
        have HLm : Hid (L = lb ++ (one s.size ++ s.data.toList)) := by show _ = _; rw [← HE.out, tailL, HB.out]; rfl
        have HXM : Hid (mx = m + 1 + s.size) := by show _ = _; rw [← MX.out, HLm.out, List.length_append, List.length_append, MB.out, one_len]; simp; omega
        have HP : Hid (val (has L (m : Int)) = .tuple #[.string s, .int .i64 ((m + 1 + s.size : Nat) : Int), .bool true]) := by show _ = _; rw [HLm.out, has_put lb m MB.out s HB.out]; rfl
        go_wp2_with fail
        refine (GetLabel.impl_any (some ⟨gx, 0, none⟩) mx cx L (m : Int) w15 _ (MX.out ▸ (X15.out.sl'.wider X15.out.lt)) (by omega) hcx).mono ?_
        rw [HP.out]
        rintro e w16 ⟨rfl, hl⟩
        have L16 := Lib.hid (L15.out.trans (hl.mono L15.out.size))
        have r1 : (s.data.toList == s.data.toList) = true := by simp
        have r2 : (((m + 1 + s.size : Nat) : Int) == (mx : Int)) = true := by rw [HXM.out]; simp
        clear hl HP HLm HXM
        generalize ((m + 1 + s.size : Nat) : Int) = v at *
        go_wp2
        go_ret
        exact ⟨rfl, L16.out⟩
      · obtain ⟨e1, he, rfl⟩ := HX.out rfl
        obtain ⟨hlt, hey, hi0, hi1⟩ := has_true he
        rw [hey]
        have HLT := Lib.hid hlt
        have hmc : i < 20 := by rw [MC.out] at hi1; omega
        have ht : (t.size : Int) ≤ 12 := by have := (lok_len hlt).2; simp at this; omega
        clear he hey hlt hi1 HX HT
        have p1 : (i + 1 + (t.size : Int) != i + 1 + (t.size : Int)) = false := by simp
        go_wp2_with fail
        refine (Label.impl_any t w14 (by omega)).mono ?_
        rw [HLT.out]
        rintro e w15 ⟨rfl, hl⟩
        have X15 := Lib.hid (X14.out.below hl X14.out.lt)
        have B15 := Lib.hid (B14.out.below hl B14.out.lt)
        have L15 := Lib.hid (L14.out.trans (hl.mono L14.out.size))
        clear hl B14 X14 L14
        go_wp2_with fail
        refine (Label.impl_any s w15 (by omega)).mono ?_
        rw [HB.out]
        rintro e w16 ⟨rfl, hl⟩
        have X16 := Lib.hid (X15.out.below hl X15.out.lt)
        have B16 := Lib.hid (B15.out.below hl B15.out.lt)
        have L16 := Lib.hid (L15.out.trans (hl.mono L15.out.size))
        clear hl B15 X15 L15
        clear p1
        have HLm : Hid (L = lb ++ (one s.size ++ s.data.toList)) := by show _ = _; rw [← HE.out, tailL, HB.out]; rfl
        have HXM : Hid (mx = m + 1 + s.size) := by show _ = _; rw [← MX.out, HLm.out, List.length_append, List.length_append, MB.out, one_len]; simp; omega
        have HP : Hid (val (has L (m : Int)) = .tuple #[.string s, .int .i64 ((m + 1 + s.size : Nat) : Int), .bool true]) := by show _ = _; rw [HLm.out, has_put lb m MB.out s HB.out]; rfl
        go_wp2_with fail
        refine (GetLabel.impl_any (some ⟨gx, 0, none⟩) mx cx L (m : Int) w16 _ (MX.out ▸ (X16.out.sl'.wider X16.out.lt)) (by omega) hcx).mono ?_
        rw [HP.out]
        rintro e w17 ⟨rfl, hl⟩
        have L17 := Lib.hid (L16.out.trans (hl.mono L16.out.size))
        have r1 : (s.data.toList == s.data.toList) = true := by simp
        have r2 : (((m + 1 + s.size : Nat) : Int) == (mx : Int)) = true := by rw [HXM.out]; simp
        clear hl HP HLm HXM
        generalize ((m + 1 + s.size : Nat) : Int) = v at *
        go_wp2
        go_ret
        exact ⟨rfl, L17.out⟩
  · go_enter Try.func3, Try.ntmps3
    go_wp2_with fail
    refine (big_yes A n c w hn).mono ?_
    rintro e w0 ⟨rfl, rfl⟩
    go_wp2
    go_ret
    exact ⟨rfl, Below.refl _ _⟩
end Go.Proofs.Ytnjdgdpkodpoiaa.LawLabels
