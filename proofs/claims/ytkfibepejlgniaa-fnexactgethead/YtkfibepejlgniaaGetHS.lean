/- What the model's GetHead does: it reads a header as HeadRd tells, and turns nothing that was there. Condition: at most 400000000 bytes. -/
import Derived.Test.YtkfibepejlgniaaGetHI
import Derived.Deep.DeepCutAuto
import Derived.Deep.RegionHeld3
namespace Go.Proofs.Ytkfibepejlgniaa.GetHS
open Go.RowKit Go.Proofs.Ytkfibepejlgniaa.Mem Go.Proofs.Ytkfibepejlgniaa.MemR Go.Proofs.Ytkfibepejlgniaa.MemM Go.Proofs.Ytkfibepejlgniaa.Get Go.Proofs.Ytkfibepejlgniaa.ResR Go.Proofs.Ytkfibepejlgniaa.ResM Go.Proofs.Ytkfibepejlgniaa.PartI Go.Proofs.Ytkfibepejlgniaa.HeadRd Go.Proofs.Ytkfibepejlgniaa.GetH Go.Proofs.Ytkfibepejlgniaa.GetHI

theorem two_on {w w' : World} {p q : Addr} {u v : Value} (h : w.cell? p = some u ∧ w.cell? q = some v) (hb : Below w.heap.size w w') : w'.cell? p = some u ∧ w'.cell? q = some v :=
  ⟨(hb.cell (World.block_lt_of_cell? _ _ h.1)).trans h.1, (hb.cell (World.block_lt_of_cell? _ _ h.2)).trans h.2⟩

set_option maxRecDepth 100000 in
set_option maxHeartbeats 8000000 in
theorem spec (A : Option Addr) (n c : Nat) (l : List UInt8) (w : World) (hs : Sl w w.heap.size A n l) (_hnc : n ≤ c) (hn : n ≤ 400000000) :
    Calls Try.prog 14 #[.slice A n c] w fun e w' => e = .returned (valH l) ∧ Below w.heap.size w w' := by
  have hl := hs.1
  have L0 := Lib.hid ((Below.refl w.heap.size w).alloc (Nat.le_refl _) (.cells #[.int .i64 0, .bool false, .bool false, .bool false, .bool false, .bool false, .int .i64 0, .string ⟨#[]⟩, .int .i64 0, .slice none 0 0, .slice none 0 0, .slice none 0 0] 33))
  have Z0 : Hid (Bk (w.alloc (.cells #[.int .i64 0, .bool false, .bool false, .bool false, .bool false, .bool false, .int .i64 0, .string ⟨#[]⟩, .int .i64 0, .slice none 0 0, .slice none 0 0, .slice none 0 0] 33)) w.heap.size 33 (mc zh (.slice none 0 0) (.slice none 0 0) (.slice none 0 0))) := heap_alloc_new w _
  by_cases h12 : 12 ≤ n
  · obtain ⟨b, off, rfl, hb, hcs⟩ := hs.2 (by omega)
    have CS : Hid (∀ W, Below w.heap.size w W → W.cell? ⟨b, off + 2, none⟩ = some (.int .u8 (by8 l 2)) ∧ W.cell? ⟨b, off + 3, none⟩ = some (.int .u8 (by8 l 3))) := fun W hW => by
      have k2 := hcs 2 (by omega)
      have k3 := hcs 3 (by omega)
      rw [← by8_at] at k2 k3
      exact ⟨(hW.cell (p := ⟨b, off + 2, none⟩) hb).trans k2, (hW.cell (p := ⟨b, off + 3, none⟩) hb).trans k3⟩
    have G2 : Hid (∀ (j : Nat) (W : World), j + 2 ≤ 12 → Below w.heap.size w W → Calls Try.prog 30 #[.slice (some ⟨b, off, none⟩) n c, .int .i64 (j : Int)] W fun e w' => e = .returned (.tuple #[.int .i64 (b2 l j), .bool true]) ∧ Below W.heap.size W w') := fun j W hj hW =>
      (specGet2_yes (some ⟨b, off, none⟩) n c l W _ j (hs.below hW) hn (by omega)).mono fun e w' ⟨h1, q', h2⟩ => ⟨h1, h2 ▸ drewN_below W q' _⟩
    have HV1 := Lib.hid (fun (h : bo (by8 l 2) 120 = true) => valH_not (l := l) (ghb_not (fun e => by rw [e.2.1] at h; cases h)))
    have HV1' := Lib.hid (fun (h : bo (by8 l 3) 112 = true) => valH_not (l := l) (ghb_not (fun e => by rw [e.2.2.1] at h; cases h)))
    have HV2 := Lib.hid (fun (h : ¬ b2 l 4 = 1) => valH_not (l := l) (ghb_not (fun e => h e.2.2.2)))
    have HV3 := Lib.hid (fun (h : bo (by8 l 2) 120 = false) (h' : bo (by8 l 3) 112 = false) (h4 : b2 l 4 = 1) => valH_yes (l := l) (ghb_of (by omega) h h' h4))
    have HQ : Hid (∀ q, wi (HH l) q = hdr q (by8 l 2) (by8 l 3)) := wi_HH l
    have T3 := Lib.hid (and15_wrap (by8 l 3) (by8_in l 3).1 (by8_in l 3).2)
    have g0 := Lib.hid (fun W => G2.out 0 W (by decide))
    have g4 := Lib.hid (fun W => G2.out 4 W (by decide))
    have g6 := Lib.hid (fun W => G2.out 6 W (by decide))
    have g8 := Lib.hid (fun W => G2.out 8 W (by decide))
    have g10 := Lib.hid (fun W => G2.out 10 W (by decide))
    have P1 : Hid (bo (by8 l 2) 120 = (bits .and .u8 (by8 l 2) 120 != 0)) := rfl
    have P2 : Hid (bo (by8 l 3) 112 = (bits .and .u8 (by8 l 3) 112 != 0)) := rfl
    clear hs hl hcs hb G2
    generalize valH l = VV at *
    generalize HH l = H at *
    generalize by8 l 2 = x at *
    generalize by8 l 3 = y at *
    generalize b2 l 0 = q0 at *
    generalize b2 l 4 = q4 at *
    generalize b2 l 6 = q6 at *
    generalize b2 l 8 = q8 at *
    generalize b2 l 10 = q10 at *
    obtain ⟨c2, c3⟩ := CS.out _ L0.out
    generalize bo x 120 = p at *
    generalize bo y 112 = q at *
    have n12 : ¬ (n : Int) < 12 := by omega
    have i2 : ¬ n ≤ 2 := by omega
    have i3 : ¬ n ≤ 3 := by omega
    have j2 : 2 < n := by omega
    have j3 : 3 < n := by omega
    have k2 : (2 : Int) < (n : Int) := by omega
    have k3 : (3 : Int) < (n : Int) := by omega
    cases p
    case true =>
      have HV := Lib.hid (HV1.out rfl)
      have p1 := P1.out.symm
      clear HV1 HV1' HV2 HV3 P1 P2 T3
      go_enter Try.func14, Try.ntmps14
      go_upto_region 1 with (fail)
      generalize (w.alloc (.cells #[.int .i64 0, .bool false, .bool false, .bool false, .bool false, .bool false, .int .i64 0, .string ⟨#[]⟩, .int .i64 0, .slice none 0 0, .slice none 0 0, .slice none 0 0] 33)) = w1 at *
      obtain ⟨z0, z1, z2, z3, z4, z5, z6, z7, z8, z9, z10, z11⟩ := mx_of Z0.out
      have f0 := Z0.out.free 0
      have f1 := Z0.out.free 1
      have f2 := Z0.out.free 2
      have f3 := Z0.out.free 3
      have f4 := Z0.out.free 4
      have f5 := Z0.out.free 5
      have f6 := Z0.out.free 6
      have f7 := Z0.out.free 7
      have f8 := Z0.out.free 8
      have f9 := Z0.out.free 9
      have f10 := Z0.out.free 10
      have f11 := Z0.out.free 11
      go_wp2
      exact bodyPost_ret (v := .tuple #[.agg #[.int .i64 zh.id, .bool zh.rp, .bool zh.au, .bool zh.ct, .bool zh.wa, .bool zh.ca, .int .i64 zh.code, .string zh.qn, .int .i64 zh.qt, .slice none 0 0, .slice none 0 0, .slice none 0 0], .int .i64 0, .int .i64 0, .int .i64 0, .bool false]) (res5M rfl (filM_bk Z0.out zh (.slice none 0 0) (.slice none 0 0) (.slice none 0 0)) rfl rfl rfl rfl rfl) rfl ⟨by rw [HV.out]; rfl, filM_below L0.out (Nat.le_refl _) zh (.slice none 0 0) (.slice none 0 0) (.slice none 0 0)⟩
    cases q
    case true =>
      have HV := Lib.hid (HV1'.out rfl)
      have p1 := P1.out.symm
      have p2 := P2.out.symm
      clear HV1 HV1' HV2 HV3 P1 P2 T3
      go_enter Try.func14, Try.ntmps14
      go_upto_region 1 with (fail)
      generalize (w.alloc (.cells #[.int .i64 0, .bool false, .bool false, .bool false, .bool false, .bool false, .int .i64 0, .string ⟨#[]⟩, .int .i64 0, .slice none 0 0, .slice none 0 0, .slice none 0 0] 33)) = w1 at *
      obtain ⟨z0, z1, z2, z3, z4, z5, z6, z7, z8, z9, z10, z11⟩ := mx_of Z0.out
      have f0 := Z0.out.free 0
      have f1 := Z0.out.free 1
      have f2 := Z0.out.free 2
      have f3 := Z0.out.free 3
      have f4 := Z0.out.free 4
      have f5 := Z0.out.free 5
      have f6 := Z0.out.free 6
      have f7 := Z0.out.free 7
      have f8 := Z0.out.free 8
      have f9 := Z0.out.free 9
      have f10 := Z0.out.free 10
      have f11 := Z0.out.free 11
      go_wp2
      exact bodyPost_ret (v := .tuple #[.agg #[.int .i64 zh.id, .bool zh.rp, .bool zh.au, .bool zh.ct, .bool zh.wa, .bool zh.ca, .int .i64 zh.code, .string zh.qn, .int .i64 zh.qt, .slice none 0 0, .slice none 0 0, .slice none 0 0], .int .i64 0, .int .i64 0, .int .i64 0, .bool false]) (res5M rfl (filM_bk Z0.out zh (.slice none 0 0) (.slice none 0 0) (.slice none 0 0)) rfl rfl rfl rfl rfl) rfl ⟨by rw [HV.out]; rfl, filM_below L0.out (Nat.le_refl _) zh (.slice none 0 0) (.slice none 0 0) (.slice none 0 0)⟩
    have p1 := P1.out.symm
    have p2 := P2.out.symm
    have HV3' := Lib.hid (HV3.out rfl rfl)
    clear HV1 HV1' HV3 P1 P2
    go_enter Try.func14, Try.ntmps14
    go_upto_region 1 with (fail)
    generalize hw : (w.alloc (.cells #[.int .i64 0, .bool false, .bool false, .bool false, .bool false, .bool false, .int .i64 0, .string ⟨#[]⟩, .int .i64 0, .slice none 0 0, .slice none 0 0, .slice none 0 0] 33)) = w1 at *
    clear hw
    have L1 := Lib.hid L0.out
    have Z1 := Lib.hid Z0.out
    clear L0 Z0
    go_wp2_with fail
    refine (g0.out _ L1.out).mono ?_
    rintro e w2 ⟨rfl, hl⟩
    have L2 := Lib.hid (L1.out.trans (hl.mono L1.out.size))
    have Z2 := Lib.hid (Z1.out.below hl Z1.out.lt)
    clear hl L1 Z1 c2 c3 p1 p2 n12
    go_wp2_with fail
    refine (g4.out _ L2.out).mono ?_
    rintro e w3 ⟨rfl, hl⟩
    have L3 := Lib.hid (L2.out.trans (hl.mono L2.out.size))
    have Z3 := Lib.hid (Z2.out.below hl Z2.out.lt)
    clear hl L2 Z2
    go_wp2_with fail
    refine (g6.out _ L3.out).mono ?_
    rintro e w4 ⟨rfl, hl⟩
    have L4 := Lib.hid (L3.out.trans (hl.mono L3.out.size))
    have Z4 := Lib.hid (Z3.out.below hl Z3.out.lt)
    clear hl L3 Z3
    go_wp2_with fail
    refine (g8.out _ L4.out).mono ?_
    rintro e w5 ⟨rfl, hl⟩
    have L5 := Lib.hid (L4.out.trans (hl.mono L4.out.size))
    have Z5 := Lib.hid (Z4.out.below hl Z4.out.lt)
    clear hl L4 Z4
    go_wp2_with fail
    refine (g10.out _ L5.out).mono ?_
    rintro e w6 ⟨rfl, hl⟩
    have L6 := Lib.hid (L5.out.trans (hl.mono L5.out.size))
    have Z6 := Lib.hid (Z5.out.below hl Z5.out.lt)
    clear hl L5 Z5
    by_cases h1 : q4 = 1
    · have h1' : (q4 != 1) = false := by rw [h1]; rfl
      have hv := HV3'.out h1
      rw [HQ.out] at hv
      have HV := Lib.hid hv
      clear hv
      have S6 := CS.out w6 L6.out
      have t3 := T3.out
      clear HV2 HV3' T3
      go_wp2
      go_region_held3 (fun w' => w'.cell? ⟨b, off + 2, none⟩ = some (.int .u8 x) ∧ w'.cell? ⟨b, off + 3, none⟩ = some (.int .u8 y))
        (first | exact S6 | with_reducible assumption | exact two_on S6 (((Below.refl _ _).alloc (Nat.le_refl _) _).drew) | fail)
        (fail)
      rename_i hH
      clear hH S6 t3
      have L7 : Hid (Below w.heap.size w (w6.alloc (.cells #[.int .i64 q0, .bool (bits .and .u8 x 128 != 0), .bool (bits .and .u8 x 4 != 0), .bool (bits .and .u8 x 2 != 0), .bool (bits .and .u8 x 1 != 0), .bool (bits .and .u8 y 128 != 0), .int .i64 (bits .and .u8 y 15), .string ⟨#[]⟩, .int .i64 0, .slice none 0 0, .slice none 0 0, .slice none 0 0] 33)).drew) := (L6.out.alloc L6.out.size _).drew
      have Z7 : Hid (Bk (w6.alloc (.cells #[.int .i64 q0, .bool (bits .and .u8 x 128 != 0), .bool (bits .and .u8 x 4 != 0), .bool (bits .and .u8 x 2 != 0), .bool (bits .and .u8 x 1 != 0), .bool (bits .and .u8 y 128 != 0), .int .i64 (bits .and .u8 y 15), .string ⟨#[]⟩, .int .i64 0, .slice none 0 0, .slice none 0 0, .slice none 0 0] 33)).drew w.heap.size 33 (mc zh (.slice none 0 0) (.slice none 0 0) (.slice none 0 0))) := Z6.out.alloc _
      have X7 : Hid (Bk (w6.alloc (.cells #[.int .i64 q0, .bool (bits .and .u8 x 128 != 0), .bool (bits .and .u8 x 4 != 0), .bool (bits .and .u8 x 2 != 0), .bool (bits .and .u8 x 1 != 0), .bool (bits .and .u8 y 128 != 0), .int .i64 (bits .and .u8 y 15), .string ⟨#[]⟩, .int .i64 0, .slice none 0 0, .slice none 0 0, .slice none 0 0] 33)).drew w6.heap.size 33 (mc (hdr q0 x y) (.slice none 0 0) (.slice none 0 0) (.slice none 0 0))) := heap_alloc_new w6 _
      clear L6 Z6
      generalize hw7 : (w6.alloc (.cells #[.int .i64 q0, .bool (bits .and .u8 x 128 != 0), .bool (bits .and .u8 x 4 != 0), .bool (bits .and .u8 x 2 != 0), .bool (bits .and .u8 x 1 != 0), .bool (bits .and .u8 y 128 != 0), .int .i64 (bits .and .u8 y 15), .string ⟨#[]⟩, .int .i64 0, .slice none 0 0, .slice none 0 0, .slice none 0 0] 33)).drew = w7 at *
      clear hw7
      generalize w6.heap.size = gx at *
      generalize hdr q0 x y = G at *
      obtain ⟨z0, z1, z2, z3, z4, z5, z6, z7, z8, z9, z10, z11⟩ := mx_of Z7.out
      have f0 := Z7.out.free 0
      have f1 := Z7.out.free 1
      have f2 := Z7.out.free 2
      have f3 := Z7.out.free 3
      have f4 := Z7.out.free 4
      have f5 := Z7.out.free 5
      have f6 := Z7.out.free 6
      have f7 := Z7.out.free 7
      have f8 := Z7.out.free 8
      have f9 := Z7.out.free 9
      have f10 := Z7.out.free 10
      have f11 := Z7.out.free 11
      obtain ⟨y0, y1, y2, y3, y4, y5, y6, y7, y8, y9, y10, y11⟩ := mx_of X7.out
      go_wp2
      exact bodyPost_ret (v := .tuple #[.agg #[.int .i64 G.id, .bool G.rp, .bool G.au, .bool G.ct, .bool G.wa, .bool G.ca, .int .i64 G.code, .string G.qn, .int .i64 G.qt, .slice none 0 0, .slice none 0 0, .slice none 0 0], .int .i64 q6, .int .i64 q8, .int .i64 q10, .bool true]) (res5M rfl (filM_bk Z7.out G (.slice none 0 0) (.slice none 0 0) (.slice none 0 0)) rfl rfl rfl rfl rfl) rfl ⟨by rw [HV.out], filM_below L7.out (Nat.le_refl _) G (.slice none 0 0) (.slice none 0 0) (.slice none 0 0)⟩
    · have h1' : (q4 != 1) = true := by simp [h1]
      have HV := Lib.hid (HV2.out h1)
      clear HV2 HV3' T3
      obtain ⟨z0, z1, z2, z3, z4, z5, z6, z7, z8, z9, z10, z11⟩ := mx_of Z6.out
      have f0 := Z6.out.free 0
      have f1 := Z6.out.free 1
      have f2 := Z6.out.free 2
      have f3 := Z6.out.free 3
      have f4 := Z6.out.free 4
      have f5 := Z6.out.free 5
      have f6 := Z6.out.free 6
      have f7 := Z6.out.free 7
      have f8 := Z6.out.free 8
      have f9 := Z6.out.free 9
      have f10 := Z6.out.free 10
      have f11 := Z6.out.free 11
      go_wp2
      exact bodyPost_ret (v := .tuple #[.agg #[.int .i64 zh.id, .bool zh.rp, .bool zh.au, .bool zh.ct, .bool zh.wa, .bool zh.ca, .int .i64 zh.code, .string zh.qn, .int .i64 zh.qt, .slice none 0 0, .slice none 0 0, .slice none 0 0], .int .i64 0, .int .i64 0, .int .i64 0, .bool false]) (res5M rfl (filM_bk Z6.out zh (.slice none 0 0) (.slice none 0 0) (.slice none 0 0)) rfl rfl rfl rfl rfl) rfl ⟨by rw [HV.out]; rfl, filM_below L6.out (Nat.le_refl _) zh (.slice none 0 0) (.slice none 0 0) (.slice none 0 0)⟩
  · have HV := Lib.hid (valH_not (l := l) (ghb_not (fun e => by omega)))
    generalize valH l = VV at *
    have n12 : (n : Int) < 12 := by omega
    clear hs hl
    go_enter Try.func14, Try.ntmps14
    go_upto_region 1 with (fail)
    generalize (w.alloc (.cells #[.int .i64 0, .bool false, .bool false, .bool false, .bool false, .bool false, .int .i64 0, .string ⟨#[]⟩, .int .i64 0, .slice none 0 0, .slice none 0 0, .slice none 0 0] 33)) = w1 at *
    obtain ⟨z0, z1, z2, z3, z4, z5, z6, z7, z8, z9, z10, z11⟩ := mx_of Z0.out
    have f0 := Z0.out.free 0
    have f1 := Z0.out.free 1
    have f2 := Z0.out.free 2
    have f3 := Z0.out.free 3
    have f4 := Z0.out.free 4
    have f5 := Z0.out.free 5
    have f6 := Z0.out.free 6
    have f7 := Z0.out.free 7
    have f8 := Z0.out.free 8
    have f9 := Z0.out.free 9
    have f10 := Z0.out.free 10
    have f11 := Z0.out.free 11
    go_wp2
    exact bodyPost_ret (v := .tuple #[.agg #[.int .i64 zh.id, .bool zh.rp, .bool zh.au, .bool zh.ct, .bool zh.wa, .bool zh.ca, .int .i64 zh.code, .string zh.qn, .int .i64 zh.qt, .slice none 0 0, .slice none 0 0, .slice none 0 0], .int .i64 0, .int .i64 0, .int .i64 0, .bool false]) (res5M rfl (filM_bk Z0.out zh (.slice none 0 0) (.slice none 0 0) (.slice none 0 0)) rfl rfl rfl rfl rfl) rfl ⟨by rw [HV.out]; rfl, filM_below L0.out (Nat.le_refl _) zh (.slice none 0 0) (.slice none 0 0) (.slice none 0 0)⟩
end Go.Proofs.Ytkfibepejlgniaa.GetHS
