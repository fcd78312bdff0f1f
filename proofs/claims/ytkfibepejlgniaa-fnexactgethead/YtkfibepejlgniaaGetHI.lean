/- What the program's GetHead does: it reads a header as HeadRd tells, and turns nothing that was there. Condition: at most 400000000 bytes. -/
import Derived.Test.YtkfibepejlgniaaGetH
namespace Go.Proofs.Ytkfibepejlgniaa.GetHI
open Go.RowKit Go.Proofs.Ytkfibepejlgniaa.Mem Go.Proofs.Ytkfibepejlgniaa.MemR Go.Proofs.Ytkfibepejlgniaa.MemM Go.Proofs.Ytkfibepejlgniaa.Get Go.Proofs.Ytkfibepejlgniaa.ResR Go.Proofs.Ytkfibepejlgniaa.ResM Go.Proofs.Ytkfibepejlgniaa.PartI Go.Proofs.Ytkfibepejlgniaa.HeadRd Go.Proofs.Ytkfibepejlgniaa.GetH

theorem by8_take (l : List UInt8) (k m : Nat) (h : k < m) : by8 ((l.drop 0).take m) k = by8 l k := by
  unfold by8
  rw [List.drop_zero, List.getD_eq_getElem?_getD, List.getD_eq_getElem?_getD, List.getElem?_take_of_lt h]
/-- The head without its Id; an Id put into a head. -/
def HH (l : List UInt8) : Hd := hdr 0 (by8 l 2) (by8 l 3)
def wi (h : Hd) (q : Int) : Hd := { h with id := q }
theorem wi_HH (l : List UInt8) (q : Int) : wi (HH l) q = hdr q (by8 l 2) (by8 l 3) := rfl
/-- What GetHead hands back. -/
def valH (l : List UInt8) : Value := .tuple #[.agg #[.int .i64 (ghh l).id, .bool (ghh l).rp, .bool (ghh l).au, .bool (ghh l).ct, .bool (ghh l).wa, .bool (ghh l).ca, .int .i64 (ghh l).code, .string (ghh l).qn, .int .i64 (ghh l).qt, .slice none 0 0, .slice none 0 0, .slice none 0 0], .int .i64 (ghn l 6), .int .i64 (ghn l 8), .int .i64 (ghn l 10), .bool (ghb l)]
def valZ : Value := .tuple #[.agg #[.int .i64 zh.id, .bool zh.rp, .bool zh.au, .bool zh.ct, .bool zh.wa, .bool zh.ca, .int .i64 zh.code, .string zh.qn, .int .i64 zh.qt, .slice none 0 0, .slice none 0 0, .slice none 0 0], .int .i64 0, .int .i64 0, .int .i64 0, .bool false]
theorem valH_not {l : List UInt8} (h : ghb l = false) : valH l = valZ := by
  unfold valH valZ
  rw [ghh_not h, ghn_not h, ghn_not h, ghn_not h, h]
theorem valH_yes {l : List UInt8} (h : ghb l = true) : valH l = .tuple #[.agg #[.int .i64 (wi (HH l) (b2 l 0)).id, .bool (wi (HH l) (b2 l 0)).rp, .bool (wi (HH l) (b2 l 0)).au, .bool (wi (HH l) (b2 l 0)).ct, .bool (wi (HH l) (b2 l 0)).wa, .bool (wi (HH l) (b2 l 0)).ca, .int .i64 (wi (HH l) (b2 l 0)).code, .string (wi (HH l) (b2 l 0)).qn, .int .i64 (wi (HH l) (b2 l 0)).qt, .slice none 0 0, .slice none 0 0, .slice none 0 0], .int .i64 (b2 l 6), .int .i64 (b2 l 8), .int .i64 (b2 l 10), .bool true] := by
  unfold valH
  rw [ghh_yes h, ghn_yes h, ghn_yes h, ghn_yes h, h, wi_HH]

set_option maxRecDepth 100000 in
set_option maxHeartbeats 8000000 in
theorem impl (A : Option Addr) (n c : Nat) (l : List UInt8) (w : World) (hs : Sl w w.heap.size A n l) (hnc : n ≤ c) (hn : n ≤ 400000000) :
    Calls Try.prog 16 #[.slice A n c] w fun e w' => e = .returned (valH l) ∧ Below w.heap.size w w' := by
  have hl := hs.1
  have L0 := Lib.hid ((Below.refl w.heap.size w).alloc (Nat.le_refl _) (.cells #[.int .i64 0, .bool false, .bool false, .bool false, .bool false, .bool false, .int .i64 0, .string ⟨#[]⟩, .int .i64 0, .slice none 0 0, .slice none 0 0, .slice none 0 0] 33))
  have Z0 : Hid (Bk (w.alloc (.cells #[.int .i64 0, .bool false, .bool false, .bool false, .bool false, .bool false, .int .i64 0, .string ⟨#[]⟩, .int .i64 0, .slice none 0 0, .slice none 0 0, .slice none 0 0] 33)) w.heap.size 33 (mc zh (.slice none 0 0) (.slice none 0 0) (.slice none 0 0))) := heap_alloc_new w _
  by_cases h12 : 12 ≤ n
  · obtain ⟨b, off, rfl, hb, hcs⟩ := hs.2 (by omega)
    have PY : Hid (∀ W, Calls Try.prog 31 #[.slice (some ⟨b, off, none⟩) n c, .int .i64 0, .int .i64 12] W fun e w' => e = .returned (.tuple #[.slice (some ⟨b, off, none⟩) 12 12, .bool true]) ∧ W = w') := fun W => part_yes b off n c 0 12 W hnc hn (by omega) (by decide)
    have FI : Hid (∀ W, Below w.heap.size w W → Calls Try.prog 32 #[.slice (some ⟨b, off, none⟩) 12 12] W fun e w' => e = .returned (.tuple #[.agg #[.int .i64 (HH l).id, .bool (HH l).rp, .bool (HH l).au, .bool (HH l).ct, .bool (HH l).wa, .bool (HH l).ca, .int .i64 (HH l).code, .string (HH l).qn, .int .i64 (HH l).qt, .slice none 0 0, .slice none 0 0, .slice none 0 0], .bool (!bo (by8 l 2) 120 && !bo (by8 l 3) 112)]) ∧ Below W.heap.size W w') := fun W hW => by
      have := flagsIn b off ((l.drop 0).take 12) W ((sl_sub (hs.below hW) 0 12 (by omega) (by omega)).wider hW.size)
      rw [by8_take l 2 12 (by decide), by8_take l 3 12 (by decide)] at this
      exact this
    have G2 : Hid (∀ (j : Nat) (W : World), j + 2 ≤ 12 → Below w.heap.size w W → Calls Try.prog 33 #[.slice (some ⟨b, off, none⟩) 12 12, .int .i64 (j : Int)] W fun e w' => e = .returned (.tuple #[.int .i64 (b2 l j), .bool true]) ∧ W = w') := fun j W hj hW => by
      have := implGet2_yes (some ⟨b, off, none⟩) 12 12 ((l.drop 0).take 12) W _ j (sl_sub (hs.below hW) 0 12 (by omega) (by omega)) (by omega) (by omega) (by rw [List.length_take, List.length_drop]; omega)
      rw [sub2 l 0 12 j hj, Nat.zero_add] at this
      exact this
    have HV1 := Lib.hid (fun (h : (!bo (by8 l 2) 120 && !bo (by8 l 3) 112) = false) => valH_not (l := l) (ghb_not (fun e => by rw [e.2.1, e.2.2.1] at h; cases h)))
    have HV2 := Lib.hid (fun (h : ¬ b2 l 4 = 1) => valH_not (l := l) (ghb_not (fun e => h e.2.2.2)))
    have HV3 := Lib.hid (fun (h : (!bo (by8 l 2) 120 && !bo (by8 l 3) 112) = true) (h4 : b2 l 4 = 1) => valH_yes (l := l) (by
      simp only [Bool.and_eq_true, Bool.not_eq_true'] at h
      exact ghb_of (by omega) h.1 h.2 h4))
    have g0 := Lib.hid (fun W => G2.out 0 W (by decide))
    have g4 := Lib.hid (fun W => G2.out 4 W (by decide))
    have g6 := Lib.hid (fun W => G2.out 6 W (by decide))
    have g8 := Lib.hid (fun W => G2.out 8 W (by decide))
    have g10 := Lib.hid (fun W => G2.out 10 W (by decide))
    clear hs hl hcs hb G2 hnc
    generalize valH l = VV at *
    generalize HH l = H at *
    generalize by8 l 2 = x at *
    generalize by8 l 3 = y at *
    generalize b2 l 0 = q0 at *
    generalize b2 l 4 = q4 at *
    generalize b2 l 6 = q6 at *
    generalize b2 l 8 = q8 at *
    generalize b2 l 10 = q10 at *
    generalize (!bo x 120 && !bo y 112) = ok at *
    go_enter Try.func16, Try.ntmps16
    go_wp2_with fail
    refine (PY.out _).mono ?_
    rintro e w1 ⟨rfl, rfl⟩
    go_wp2_with fail
    refine (FI.out _ L0.out).mono ?_
    rintro e w1 ⟨rfl, hl⟩
    have L1' := L0.out.trans (hl.mono L0.out.size)
    have L1 := Lib.hid (L1'.alloc L1'.size (.cells #[.int .i64 H.id, .bool H.rp, .bool H.au, .bool H.ct, .bool H.wa, .bool H.ca, .int .i64 H.code, .string H.qn, .int .i64 H.qt, .slice none 0 0, .slice none 0 0, .slice none 0 0] 33))
    have Z1 := Lib.hid ((Z0.out.below hl Z0.out.lt).alloc (.cells #[.int .i64 H.id, .bool H.rp, .bool H.au, .bool H.ct, .bool H.wa, .bool H.ca, .int .i64 H.code, .string H.qn, .int .i64 H.qt, .slice none 0 0, .slice none 0 0, .slice none 0 0] 33))
    have X1 : Hid (Bk (w1.alloc (.cells #[.int .i64 H.id, .bool H.rp, .bool H.au, .bool H.ct, .bool H.wa, .bool H.ca, .int .i64 H.code, .string H.qn, .int .i64 H.qt, .slice none 0 0, .slice none 0 0, .slice none 0 0] 33)) w1.heap.size 33 (mc (H) (.slice none 0 0) (.slice none 0 0) (.slice none 0 0))) := heap_alloc_new w1 _
    have NE : Hid (w.heap.size < w1.heap.size) := Nat.lt_of_lt_of_le Z0.out.lt hl.size
    clear hl L1' L0 Z0 PY FI
    go_wp2_with fail
    refine (g4.out _ L1.out).mono ?_
    rintro e w2 ⟨rfl, rfl⟩
    generalize hw2 : w1.alloc (.cells #[.int .i64 H.id, .bool H.rp, .bool H.au, .bool H.ct, .bool H.wa, .bool H.ca, .int .i64 H.code, .string H.qn, .int .i64 H.qt, .slice none 0 0, .slice none 0 0, .slice none 0 0] 33) = w2 at *
    clear hw2
    generalize w1.heap.size = gx at *
    obtain ⟨z0, z1, z2, z3, z4, z5, z6, z7, z8, z9, z10, z11⟩ := mx_of Z1.out
    have f0 := Z1.out.free 0
    have f1 := Z1.out.free 1
    have f2 := Z1.out.free 2
    have f3 := Z1.out.free 3
    have f4 := Z1.out.free 4
    have f5 := Z1.out.free 5
    have f6 := Z1.out.free 6
    have f7 := Z1.out.free 7
    have f8 := Z1.out.free 8
    have f9 := Z1.out.free 9
    have f10 := Z1.out.free 10
    have f11 := Z1.out.free 11
    cases ok
    · have HV := Lib.hid (HV1.out rfl)
      clear HV1 HV2 HV3
      go_wp2
      exact bodyPost_ret (v := .tuple #[.agg #[.int .i64 zh.id, .bool zh.rp, .bool zh.au, .bool zh.ct, .bool zh.wa, .bool zh.ca, .int .i64 zh.code, .string zh.qn, .int .i64 zh.qt, .slice none 0 0, .slice none 0 0, .slice none 0 0], .int .i64 0, .int .i64 0, .int .i64 0, .bool false]) (res5M rfl (filM_bk Z1.out (zh) (.slice none 0 0) (.slice none 0 0) (.slice none 0 0)) rfl rfl rfl rfl rfl) rfl ⟨by rw [HV.out]; rfl, filM_below L1.out (Nat.le_refl _) (zh) (.slice none 0 0) (.slice none 0 0) (.slice none 0 0)⟩
    · by_cases h1 : q4 = 1
      · have h1' : (q4 != 1) = false := by rw [h1]; rfl
        have HV := Lib.hid (HV3.out rfl h1)
        clear HV1 HV2 HV3
        clear z0 z1 z2 z3 z4 z5 z6 z7 z8 z9 z10 z11 f0 f1 f2 f3 f4 f5 f6 f7 f8 f9 f10 f11
        have fx := X1.out.free 0
        have cx := X1.out.cell 0
        go_wp2_with fail
        refine (g0.out _ L1.out).mono ?_
        rintro e w2' ⟨rfl, rfl⟩
        have L2 : Hid (Below w.heap.size w (w2.setCell ⟨gx, 0, none⟩ (.int .i64 q0))) := L1.out.setCell (Nat.le_of_lt NE.out) _
        have X2 : Hid (Bk (w2.setCell ⟨gx, 0, none⟩ (.int .i64 q0)) gx 33 (mc (wi H q0) (.slice none 0 0) (.slice none 0 0) (.slice none 0 0))) := X1.out.set 0 (.int .i64 q0)
        have Z2 : Hid (Bk (w2.setCell ⟨gx, 0, none⟩ (.int .i64 q0)) w.heap.size 33 (mc zh (.slice none 0 0) (.slice none 0 0) (.slice none 0 0))) := Z1.out.other (fun e => by have := NE.out; exact absurd e (Nat.ne_of_lt this)) _
        clear L1 X1 Z1
        go_wp2_with fail
        clear fx cx
        refine (g6.out _ L2.out).mono ?_
        rintro e w2' ⟨rfl, rfl⟩
        generalize (w2.setCell ⟨gx, 0, none⟩ (.int .i64 q0)) = w3 at *
        go_wp2_with fail
        refine (g8.out _ L2.out).mono ?_
        rintro e w2' ⟨rfl, rfl⟩
        go_wp2_with fail
        refine (g10.out _ L2.out).mono ?_
        rintro e w2' ⟨rfl, rfl⟩
        obtain ⟨z0, z1, z2, z3, z4, z5, z6, z7, z8, z9, z10, z11⟩ := mx_of Z2.out
        have f0 := Z2.out.free 0
        have f1 := Z2.out.free 1
        have f2 := Z2.out.free 2
        have f3 := Z2.out.free 3
        have f4 := Z2.out.free 4
        have f5 := Z2.out.free 5
        have f6 := Z2.out.free 6
        have f7 := Z2.out.free 7
        have f8 := Z2.out.free 8
        have f9 := Z2.out.free 9
        have f10 := Z2.out.free 10
        have f11 := Z2.out.free 11
        obtain ⟨y0, y1, y2, y3, y4, y5, y6, y7, y8, y9, y10, y11⟩ := mx_of X2.out
        go_wp2
        exact bodyPost_ret (v := .tuple #[.agg #[.int .i64 (wi H q0).id, .bool (wi H q0).rp, .bool (wi H q0).au, .bool (wi H q0).ct, .bool (wi H q0).wa, .bool (wi H q0).ca, .int .i64 (wi H q0).code, .string (wi H q0).qn, .int .i64 (wi H q0).qt, .slice none 0 0, .slice none 0 0, .slice none 0 0], .int .i64 q6, .int .i64 q8, .int .i64 q10, .bool true]) (res5M rfl (filM_bk Z2.out (wi H q0) (.slice none 0 0) (.slice none 0 0) (.slice none 0 0)) rfl rfl rfl rfl rfl) rfl ⟨by rw [HV.out], filM_below L2.out (Nat.le_refl _) (wi H q0) (.slice none 0 0) (.slice none 0 0) (.slice none 0 0)⟩
      · have h1' : (q4 != 1) = true := by simp [h1]
        have HV := Lib.hid (HV2.out h1)
        clear HV1 HV2 HV3
        go_wp2
        exact bodyPost_ret (v := .tuple #[.agg #[.int .i64 zh.id, .bool zh.rp, .bool zh.au, .bool zh.ct, .bool zh.wa, .bool zh.ca, .int .i64 zh.code, .string zh.qn, .int .i64 zh.qt, .slice none 0 0, .slice none 0 0, .slice none 0 0], .int .i64 0, .int .i64 0, .int .i64 0, .bool false]) (res5M rfl (filM_bk Z1.out (zh) (.slice none 0 0) (.slice none 0 0) (.slice none 0 0)) rfl rfl rfl rfl rfl) rfl ⟨by rw [HV.out]; rfl, filM_below L1.out (Nat.le_refl _) (zh) (.slice none 0 0) (.slice none 0 0) (.slice none 0 0)⟩
  · have HV := Lib.hid (valH_not (l := l) (ghb_not (fun e => by omega)))
    generalize valH l = VV at *
    clear hs hl
    go_enter Try.func16, Try.ntmps16
    go_wp2_with fail
    refine (part_no A n c 12 0 _ hn (by decide) (by omega)).mono ?_
    rintro e w1 ⟨rfl, rfl⟩
    generalize w.alloc (.cells #[.int .i64 0, .bool false, .bool false, .bool false, .bool false, .bool false, .int .i64 0, .string ⟨#[]⟩, .int .i64 0, .slice none 0 0, .slice none 0 0, .slice none 0 0] 33) = w1 at *
    obtain ⟨z0, z1, z2, z3, z4, z5, z6, z7, z8, z9, z10, z11⟩ := mx_of Z0.out
    have f0 := Z0.out.free 0
    have f1 := Z0.out.free 1
    have f2 := Z0.out.free 2
    have f3 := Z0.out.free 3
    have f4 := Z0.out.free 4
    have f5 := Z0.out.free 5
    have f6 := Z0.out.free 6
    have f7 := Z0.out.free 7
    have f8 := Z0.out.free 8
    have f9 := Z0.out.free 9
    have f10 := Z0.out.free 10
    have f11 := Z0.out.free 11
    go_wp2
    exact bodyPost_ret (v := .tuple #[.agg #[.int .i64 zh.id, .bool zh.rp, .bool zh.au, .bool zh.ct, .bool zh.wa, .bool zh.ca, .int .i64 zh.code, .string zh.qn, .int .i64 zh.qt, .slice none 0 0, .slice none 0 0, .slice none 0 0], .int .i64 0, .int .i64 0, .int .i64 0, .bool false]) (res5M rfl (filM_bk Z0.out (zh) (.slice none 0 0) (.slice none 0 0) (.slice none 0 0)) rfl rfl rfl rfl rfl) rfl ⟨by rw [HV.out]; rfl, filM_below L0.out (Nat.le_refl _) (zh) (.slice none 0 0) (.slice none 0 0) (.slice none 0 0)⟩
end Go.Proofs.Ytkfibepejlgniaa.GetHI
