/- What the law's own helpers eqByteS, markByteS and heldByteS do on slices of bytes. Condition: fewer than 400000001 bytes. -/
import Derived.Test.YtkfibepejlgniaaGreatDoorExactGetMsgP3
import Derived.Deep.DeepCutAuto
import Derived.Deep.RegionHeld3
import Derived.Test.YtkfibepejlgniaaGreatDoorExactGetMsgP1
import Derived.Test.YtkfibepejlgniaaGreatDoorExactGetMsgP2
import Derived.Test.YtkfibepejlgniaaGreatDoorMem
import Derived.Deep.QuietTactic
import Derived.BigQuiet
/- What the model's GetHead does: it reads a header as HeadRd tells, and turns nothing that was there. Condition: at most 400000000 bytes. -/
namespace Go.Proofs.YtkfibepejlgniaaGreatDoor.GetHS
open Go.RowKit Go.Proofs.YtkfibepejlgniaaGreatDoor.Mem Go.Proofs.YtkfibepejlgniaaGreatDoor.MemR Go.Proofs.YtkfibepejlgniaaGreatDoor.MemM Go.Proofs.YtkfibepejlgniaaGreatDoor.Get Go.Proofs.YtkfibepejlgniaaGreatDoor.ResR Go.Proofs.YtkfibepejlgniaaGreatDoor.ResM Go.Proofs.YtkfibepejlgniaaGreatDoor.PartI Go.Proofs.YtkfibepejlgniaaGreatDoor.HeadRd Go.Proofs.YtkfibepejlgniaaGreatDoor.GetH Go.Proofs.YtkfibepejlgniaaGreatDoor.GetHI

theorem two_on {w w' : World} {p q : Addr} {u v : Value} (h : w.cell? p = some u ∧ w.cell? q = some v) (hb : Below w.heap.size w w') : w'.cell? p = some u ∧ w'.cell? q = some v :=
  ⟨(hb.cell (World.block_lt_of_cell? _ _ h.1)).trans h.1, (hb.cell (World.block_lt_of_cell? _ _ h.2)).trans h.2⟩

set_option maxRecDepth 100000 in
set_option maxHeartbeats 8000000 in
theorem spec (A : Option Addr) (n c : Nat) (l : List UInt8) (w : World) (hs : Sl w w.heap.size A n l) (_hnc : n ≤ c) (hn : n ≤ 400000000) :
    Calls Tryz.prog 42 #[.slice A n c] w fun e w' => e = .returned (valH l) ∧ Below w.heap.size w w' := by
  have hl := hs.1
  have L0 := Lib.hid ((Below.refl w.heap.size w).alloc (Nat.le_refl _) (.cells #[.int .i64 0, .bool false, .bool false, .bool false, .bool false, .bool false, .int .i64 0, .string ⟨#[]⟩, .int .i64 0, .slice none 0 0, .slice none 0 0, .slice none 0 0] 28))
  have Z0 : Hid (Bk (w.alloc (.cells #[.int .i64 0, .bool false, .bool false, .bool false, .bool false, .bool false, .int .i64 0, .string ⟨#[]⟩, .int .i64 0, .slice none 0 0, .slice none 0 0, .slice none 0 0] 28)) w.heap.size 28 (mc zh (.slice none 0 0) (.slice none 0 0) (.slice none 0 0))) := heap_alloc_new w _
  by_cases h12 : 12 ≤ n
  · obtain ⟨b, off, rfl, hb, hcs⟩ := hs.2 (by omega)
    have CS : Hid (∀ W, Below w.heap.size w W → W.cell? ⟨b, off + 2, none⟩ = some (.int .u8 (by8 l 2)) ∧ W.cell? ⟨b, off + 3, none⟩ = some (.int .u8 (by8 l 3))) := fun W hW => by
      have k2 := hcs 2 (by omega)
      have k3 := hcs 3 (by omega)
      rw [← by8_at] at k2 k3
      exact ⟨(hW.cell (p := ⟨b, off + 2, none⟩) hb).trans k2, (hW.cell (p := ⟨b, off + 3, none⟩) hb).trans k3⟩
    have G2 : Hid (∀ (j : Nat) (W : World), j + 2 ≤ 12 → Below w.heap.size w W → Calls Tryz.prog 100 #[.slice (some ⟨b, off, none⟩) n c, .int .i64 (j : Int)] W fun e w' => e = .returned (.tuple #[.int .i64 (b2 l j), .bool true]) ∧ Below W.heap.size W w') := fun j W hj hW =>
      (specGet2_yes (some ⟨b, off, none⟩) n c l W _ j (hs.below hW) hn (by omega)).mono fun e w' ⟨h1, q', h2⟩ => ⟨h1, h2 ▸ drewN_below W q' _⟩
    have HV1 := Lib.hid (fun (h : bo (by8 l 2) 120 = true) => valH_not (l := l) (ghb_not (fun e => by rw [e.2.1] at h; cases h)))
    have HV1' := Lib.hid (fun (h : bo (by8 l 3) 112 = true) => valH_not (l := l) (ghb_not (fun e => by rw [e.2.2.1] at h; cases h)))
    have HV2 := Lib.hid (fun (h : ¬ b2 l 4 = 1) => valH_not (l := l) (ghb_not (fun e => h e.2.2.2)))
    have HV3 := Lib.hid (fun (h : bo (by8 l 2) 120 = false) (h' : bo (by8 l 3) 112 = false) (h4 : b2 l 4 = 1) => valH_yes (l := l) (ghb_of (by omega) h h' h4))
    have HQ : Hid (∀ q, wi (HH l) q = hdr q (by8 l 2) (by8 l 3)) := wi_HH l
    have T3 := Lib.hid (and15_wrap (by8 l 3) (by8_in l 3).1 (by8_in l 3).2)
    have g0 := Lib.hid (fun W => G2.out 0 W (by decide))
    have g4 := Lib.hid (fun W => G2.out 4 W (by decide))
    have g6 := Lib.hid (fun W => G2.out 6 W (by decide))
    have g8 := Lib.hid (fun W => G2.out 8 W (by decide))
    have g10 := Lib.hid (fun W => G2.out 10 W (by decide))
    have P1 : Hid (bo (by8 l 2) 120 = (bits .and .u8 (by8 l 2) 120 != 0)) := rfl
    have P2 : Hid (bo (by8 l 3) 112 = (bits .and .u8 (by8 l 3) 112 != 0)) := rfl
    clear hs hl hcs hb G2
    generalize valH l = VV at *
    generalize HH l = H at *
    generalize by8 l 2 = x at *
    generalize by8 l 3 = y at *
    generalize b2 l 0 = q0 at *
    generalize b2 l 4 = q4 at *
    generalize b2 l 6 = q6 at *
    generalize b2 l 8 = q8 at *
    generalize b2 l 10 = q10 at *
    obtain ⟨c2, c3⟩ := CS.out _ L0.out
    generalize bo x 120 = p at *
    generalize bo y 112 = q at *
    have n12 : ¬ (n : Int) < 12 := by omega
    have i2 : ¬ n ≤ 2 := by omega
    have i3 : ¬ n ≤ 3 := by omega
    have j2 : 2 < n := by omega
    have j3 : 3 < n := by omega
    have k2 : (2 : Int) < (n : Int) := by omega
    have k3 : (3 : Int) < (n : Int) := by omega
    cases p
    case true =>
      have HV := Lib.hid (HV1.out rfl)
      have p1 := P1.out.symm
      clear HV1 HV1' HV2 HV3 P1 P2 T3
      go_enter Tryz.func42, Tryz.ntmps42
      go_upto_region 1 with (fail)
      generalize (w.alloc (.cells #[.int .i64 0, .bool false, .bool false, .bool false, .bool false, .bool false, .int .i64 0, .string ⟨#[]⟩, .int .i64 0, .slice none 0 0, .slice none 0 0, .slice none 0 0] 28)) = w1 at *
      obtain ⟨z0, z1, z2, z3, z4, z5, z6, z7, z8, z9, z10, z11⟩ := mx_of Z0.out
      have f0 := Z0.out.free 0
      have f1 := Z0.out.free 1
      have f2 := Z0.out.free 2
      have f3 := Z0.out.free 3
      have f4 := Z0.out.free 4
      have f5 := Z0.out.free 5
      have f6 := Z0.out.free 6
      have f7 := Z0.out.free 7
      have f8 := Z0.out.free 8
      have f9 := Z0.out.free 9
      have f10 := Z0.out.free 10
      have f11 := Z0.out.free 11
      go_wp2
      exact bodyPost_ret (v := .tuple #[.agg #[.int .i64 zh.id, .bool zh.rp, .bool zh.au, .bool zh.ct, .bool zh.wa, .bool zh.ca, .int .i64 zh.code, .string zh.qn, .int .i64 zh.qt, .slice none 0 0, .slice none 0 0, .slice none 0 0], .int .i64 0, .int .i64 0, .int .i64 0, .bool false]) (res5M rfl (filM_bk Z0.out zh (.slice none 0 0) (.slice none 0 0) (.slice none 0 0)) rfl rfl rfl rfl rfl) rfl ⟨by rw [HV.out]; rfl, filM_below L0.out (Nat.le_refl _) zh (.slice none 0 0) (.slice none 0 0) (.slice none 0 0)⟩
    cases q
    case true =>
      have HV := Lib.hid (HV1'.out rfl)
      have p1 := P1.out.symm
      have p2 := P2.out.symm
      clear HV1 HV1' HV2 HV3 P1 P2 T3
      go_enter Tryz.func42, Tryz.ntmps42
      go_upto_region 1 with (fail)
      generalize (w.alloc (.cells #[.int .i64 0, .bool false, .bool false, .bool false, .bool false, .bool false, .int .i64 0, .string ⟨#[]⟩, .int .i64 0, .slice none 0 0, .slice none 0 0, .slice none 0 0] 28)) = w1 at *
      obtain ⟨z0, z1, z2, z3, z4, z5, z6, z7, z8, z9, z10, z11⟩ := mx_of Z0.out
      have f0 := Z0.out.free 0
      have f1 := Z0.out.free 1
      have f2 := Z0.out.free 2
      have f3 := Z0.out.free 3
      have f4 := Z0.out.free 4
      have f5 := Z0.out.free 5
      have f6 := Z0.out.free 6
      have f7 := Z0.out.free 7
      have f8 := Z0.out.free 8
      have f9 := Z0.out.free 9
      have f10 := Z0.out.free 10
      have f11 := Z0.out.free 11
      go_wp2
      exact bodyPost_ret (v := .tuple #[.agg #[.int .i64 zh.id, .bool zh.rp, .bool zh.au, .bool zh.ct, .bool zh.wa, .bool zh.ca, .int .i64 zh.code, .string zh.qn, .int .i64 zh.qt, .slice none 0 0, .slice none 0 0, .slice none 0 0], .int .i64 0, .int .i64 0, .int .i64 0, .bool false]) (res5M rfl (filM_bk Z0.out zh (.slice none 0 0) (.slice none 0 0) (.slice none 0 0)) rfl rfl rfl rfl rfl) rfl ⟨by rw [HV.out]; rfl, filM_below L0.out (Nat.le_refl _) zh (.slice none 0 0) (.slice none 0 0) (.slice none 0 0)⟩
    have p1 := P1.out.symm
    have p2 := P2.out.symm
    have HV3' := Lib.hid (HV3.out rfl rfl)
    clear HV1 HV1' HV3 P1 P2
    go_enter Tryz.func42, Tryz.ntmps42
    go_upto_region 1 with (fail)
    generalize hw : (w.alloc (.cells #[.int .i64 0, .bool false, .bool false, .bool false, .bool false, .bool false, .int .i64 0, .string ⟨#[]⟩, .int .i64 0, .slice none 0 0, .slice none 0 0, .slice none 0 0] 28)) = w1 at *
    clear hw
    have L1 := Lib.hid L0.out
    have Z1 := Lib.hid Z0.out
    clear L0 Z0
    go_wp2_with fail
    refine (g0.out _ L1.out).mono ?_
    rintro e w2 ⟨rfl, hl⟩
    have L2 := Lib.hid (L1.out.trans (hl.mono L1.out.size))
    have Z2 := Lib.hid (Z1.out.below hl Z1.out.lt)
    clear hl L1 Z1 c2 c3 p1 p2 n12
    go_wp2_with fail
    refine (g4.out _ L2.out).mono ?_
    rintro e w3 ⟨rfl, hl⟩
    have L3 := Lib.hid (L2.out.trans (hl.mono L2.out.size))
    have Z3 := Lib.hid (Z2.out.below hl Z2.out.lt)
    clear hl L2 Z2
    go_wp2_with fail
    refine (g6.out _ L3.out).mono ?_
    rintro e w4 ⟨rfl, hl⟩
    have L4 := Lib.hid (L3.out.trans (hl.mono L3.out.size))
    have Z4 := Lib.hid (Z3.out.below hl Z3.out.lt)
    clear hl L3 Z3
    go_wp2_with fail
    refine (g8.out _ L4.out).mono ?_
    rintro e w5 ⟨rfl, hl⟩
    have L5 := Lib.hid (L4.out.trans (hl.mono L4.out.size))
    have Z5 := Lib.hid (Z4.out.below hl Z4.out.lt)
    clear hl L4 Z4
    go_wp2_with fail
    refine (g10.out _ L5.out).mono ?_
    rintro e w6 ⟨rfl, hl⟩
    have L6 := Lib.hid (L5.out.trans (hl.mono L5.out.size))
    have Z6 := Lib.hid (Z5.out.below hl Z5.out.lt)
    clear hl L5 Z5
    by_cases h1 : q4 = 1
    · have h1' : (q4 != 1) = false := by rw [h1]; rfl
      have hv := HV3'.out h1
      rw [HQ.out] at hv
      have HV := Lib.hid hv
      clear hv
      have S6 := CS.out w6 L6.out
      have t3 := T3.out
      clear HV2 HV3' T3
      go_wp2
      go_region_held3 (fun w' => w'.cell? ⟨b, off + 2, none⟩ = some (.int .u8 x) ∧ w'.cell? ⟨b, off + 3, none⟩ = some (.int .u8 y))
        (first | exact S6 | with_reducible assumption | exact two_on S6 (((Below.refl _ _).alloc (Nat.le_refl _) _).drew) | fail)
        (fail)
      rename_i hH
      clear hH S6 t3
      have L7 : Hid (Below w.heap.size w (w6.alloc (.cells #[.int .i64 q0, .bool (bits .and .u8 x 128 != 0), .bool (bits .and .u8 x 4 != 0), .bool (bits .and .u8 x 2 != 0), .bool (bits .and .u8 x 1 != 0), .bool (bits .and .u8 y 128 != 0), .int .i64 (bits .and .u8 y 15), .string ⟨#[]⟩, .int .i64 0, .slice none 0 0, .slice none 0 0, .slice none 0 0] 28)).drew) := (L6.out.alloc L6.out.size _).drew
      have Z7 : Hid (Bk (w6.alloc (.cells #[.int .i64 q0, .bool (bits .and .u8 x 128 != 0), .bool (bits .and .u8 x 4 != 0), .bool (bits .and .u8 x 2 != 0), .bool (bits .and .u8 x 1 != 0), .bool (bits .and .u8 y 128 != 0), .int .i64 (bits .and .u8 y 15), .string ⟨#[]⟩, .int .i64 0, .slice none 0 0, .slice none 0 0, .slice none 0 0] 28)).drew w.heap.size 28 (mc zh (.slice none 0 0) (.slice none 0 0) (.slice none 0 0))) := Z6.out.alloc _
      have X7 : Hid (Bk (w6.alloc (.cells #[.int .i64 q0, .bool (bits .and .u8 x 128 != 0), .bool (bits .and .u8 x 4 != 0), .bool (bits .and .u8 x 2 != 0), .bool (bits .and .u8 x 1 != 0), .bool (bits .and .u8 y 128 != 0), .int .i64 (bits .and .u8 y 15), .string ⟨#[]⟩, .int .i64 0, .slice none 0 0, .slice none 0 0, .slice none 0 0] 28)).drew w6.heap.size 28 (mc (hdr q0 x y) (.slice none 0 0) (.slice none 0 0) (.slice none 0 0))) := heap_alloc_new w6 _
      clear L6 Z6
      generalize hw7 : (w6.alloc (.cells #[.int .i64 q0, .bool (bits .and .u8 x 128 != 0), .bool (bits .and .u8 x 4 != 0), .bool (bits .and .u8 x 2 != 0), .bool (bits .and .u8 x 1 != 0), .bool (bits .and .u8 y 128 != 0), .int .i64 (bits .and .u8 y 15), .string ⟨#[]⟩, .int .i64 0, .slice none 0 0, .slice none 0 0, .slice none 0 0] 28)).drew = w7 at *
      clear hw7
      generalize w6.heap.size = gx at *
      generalize hdr q0 x y = G at *
      obtain ⟨z0, z1, z2, z3, z4, z5, z6, z7, z8, z9, z10, z11⟩ := mx_of Z7.out
      have f0 := Z7.out.free 0
      have f1 := Z7.out.free 1
      have f2 := Z7.out.free 2
      have f3 := Z7.out.free 3
      have f4 := Z7.out.free 4
      have f5 := Z7.out.free 5
      have f6 := Z7.out.free 6
      have f7 := Z7.out.free 7
      have f8 := Z7.out.free 8
      have f9 := Z7.out.free 9
      have f10 := Z7.out.free 10
      have f11 := Z7.out.free 11
      obtain ⟨y0, y1, y2, y3, y4, y5, y6, y7, y8, y9, y10, y11⟩ := mx_of X7.out
      go_wp2
      exact bodyPost_ret (v := .tuple #[.agg #[.int .i64 G.id, .bool G.rp, .bool G.au, .bool G.ct, .bool G.wa, .bool G.ca, .int .i64 G.code, .string G.qn, .int .i64 G.qt, .slice none 0 0, .slice none 0 0, .slice none 0 0], .int .i64 q6, .int .i64 q8, .int .i64 q10, .bool true]) (res5M rfl (filM_bk Z7.out G (.slice none 0 0) (.slice none 0 0) (.slice none 0 0)) rfl rfl rfl rfl rfl) rfl ⟨by rw [HV.out], filM_below L7.out (Nat.le_refl _) G (.slice none 0 0) (.slice none 0 0) (.slice none 0 0)⟩
    · have h1' : (q4 != 1) = true := by simp [h1]
      have HV := Lib.hid (HV2.out h1)
      clear HV2 HV3' T3
      obtain ⟨z0, z1, z2, z3, z4, z5, z6, z7, z8, z9, z10, z11⟩ := mx_of Z6.out
      have f0 := Z6.out.free 0
      have f1 := Z6.out.free 1
      have f2 := Z6.out.free 2
      have f3 := Z6.out.free 3
      have f4 := Z6.out.free 4
      have f5 := Z6.out.free 5
      have f6 := Z6.out.free 6
      have f7 := Z6.out.free 7
      have f8 := Z6.out.free 8
      have f9 := Z6.out.free 9
      have f10 := Z6.out.free 10
      have f11 := Z6.out.free 11
      go_wp2
      exact bodyPost_ret (v := .tuple #[.agg #[.int .i64 zh.id, .bool zh.rp, .bool zh.au, .bool zh.ct, .bool zh.wa, .bool zh.ca, .int .i64 zh.code, .string zh.qn, .int .i64 zh.qt, .slice none 0 0, .slice none 0 0, .slice none 0 0], .int .i64 0, .int .i64 0, .int .i64 0, .bool false]) (res5M rfl (filM_bk Z6.out zh (.slice none 0 0) (.slice none 0 0) (.slice none 0 0)) rfl rfl rfl rfl rfl) rfl ⟨by rw [HV.out]; rfl, filM_below L6.out (Nat.le_refl _) zh (.slice none 0 0) (.slice none 0 0) (.slice none 0 0)⟩
  · have HV := Lib.hid (valH_not (l := l) (ghb_not (fun e => by omega)))
    generalize valH l = VV at *
    have n12 : (n : Int) < 12 := by omega
    clear hs hl
    go_enter Tryz.func42, Tryz.ntmps42
    go_upto_region 1 with (fail)
    generalize (w.alloc (.cells #[.int .i64 0, .bool false, .bool false, .bool false, .bool false, .bool false, .int .i64 0, .string ⟨#[]⟩, .int .i64 0, .slice none 0 0, .slice none 0 0, .slice none 0 0] 28)) = w1 at *
    obtain ⟨z0, z1, z2, z3, z4, z5, z6, z7, z8, z9, z10, z11⟩ := mx_of Z0.out
    have f0 := Z0.out.free 0
    have f1 := Z0.out.free 1
    have f2 := Z0.out.free 2
    have f3 := Z0.out.free 3
    have f4 := Z0.out.free 4
    have f5 := Z0.out.free 5
    have f6 := Z0.out.free 6
    have f7 := Z0.out.free 7
    have f8 := Z0.out.free 8
    have f9 := Z0.out.free 9
    have f10 := Z0.out.free 10
    have f11 := Z0.out.free 11
    go_wp2
    exact bodyPost_ret (v := .tuple #[.agg #[.int .i64 zh.id, .bool zh.rp, .bool zh.au, .bool zh.ct, .bool zh.wa, .bool zh.ca, .int .i64 zh.code, .string zh.qn, .int .i64 zh.qt, .slice none 0 0, .slice none 0 0, .slice none 0 0], .int .i64 0, .int .i64 0, .int .i64 0, .bool false]) (res5M rfl (filM_bk Z0.out zh (.slice none 0 0) (.slice none 0 0) (.slice none 0 0)) rfl rfl rfl rfl rfl) rfl ⟨by rw [HV.out]; rfl, filM_below L0.out (Nat.le_refl _) zh (.slice none 0 0) (.slice none 0 0) (.slice none 0 0)⟩
end Go.Proofs.YtkfibepejlgniaaGreatDoor.GetHS

/- What the program's GetRecords does: it reads records as FieldMath tells (grs), into a new row of its own, and turns nothing that was there. Conditions: at most 400000000 bytes; the library's variable internal/bytealg.MaxLen holds an int. -/
namespace Go.Proofs.YtkfibepejlgniaaGreatDoor.GetsI
open Go.RowKit Go.Proofs.YtkfibepejlgniaaGreatDoor.Mem Go.Proofs.YtkfibepejlgniaaGreatDoor.MemR Go.Proofs.YtkfibepejlgniaaGreatDoor.Labels Go.Proofs.YtkfibepejlgniaaGreatDoor.Label Go.Proofs.YtkfibepejlgniaaGreatDoor.TextR Go.Proofs.YtkfibepejlgniaaGreatDoor.App Go.Proofs.YtkfibepejlgniaaGreatDoor.AppR Go.Proofs.YtkfibepejlgniaaGreatDoor.FieldMath Go.Proofs.YtkfibepejlgniaaGreatDoor.GetRecI Go.Proofs.YtkfibepejlgniaaGreatDoor.GetsM

set_option maxRecDepth 100000 in
set_option maxHeartbeats 4000000 in
theorem recs (A : Option Addr) (n c : Nat) (l : List UInt8) (k q : Int) (w : World) (he : Env w) (hs : Sl w w.heap.size A n l) (hnc : n ≤ c) (hn : n ≤ 400000000) :
    Calls Tryz.prog 142 #[.slice A n c, .int .i64 k, .int .i64 q] w (Grs w (grA l k q)) := by
  have GR := Lib.hid (fun (a : Int) (W : World) (hW : Below w.heap.size w W) => GetRecI.record A n c l a W (he.below hW) ((hs.below hW).wider hW.size) hnc hn)
  unfold valR at GR
  clear hs he
  by_cases h : 0 ≤ q ∧ q ≤ 8
  · have HI : Hid (inn q 0 8 = true) := decide_eq_true h
    obtain ⟨h0, h8⟩ := h
    obtain ⟨m, rfl⟩ := Int.eq_ofNat_of_zero_le h0
    have hm8 : m ≤ 8 := by omega
    have HX : Hid (grs l m k [] = grA l k (m : Int)) := by show _ = _; rw [grA, if_pos ⟨by omega, by omega⟩, Int.toNat_natCast]
    generalize grA l k (m : Int) = X at *
    have GS := Lib.hid (grs_step l)
    go_enter Tryz.func142, Tryz.ntmps142
    go_wp2_with fail
    refine (upTo_any _ 8 _).mono ?_
    rw [HI.out]
    rintro e w1 ⟨rfl, rfl⟩
    go_wp2
    go_loopw [1, 9, 19] (fun a v i wr => ∃ (j g cap : Nat) (M : List Rec) (p : Int), j ≤ m ∧ i = .int .i64 (j : Int) ∧ a = .int .i64 p ∧ v = .slice (some ⟨g, 0, none⟩) j cap ∧ Hid (grs l (m - j) p M = X) ∧ Hid (wr.ownsRow w.heap.size 117 6 (.slice (some ⟨g, 0, none⟩) j cap) j (fl M)) ∧ Hid (Below w.heap.size w wr)) (fun _ _ i _ => m - (intOf i).toNat)
    case atStart => exact ⟨0, w.heap.size, 0, [], k, Nat.zero_le _, rfl, rfl, rfl, HX.out, AppR.owns_new w, (Below.refl _ _).alloc (Nat.le_refl _) _⟩
    case round =>
      clear HX
      obtain ⟨j, g, cap, M, p, hj, rfl, rfl, rfl, HG, HO, HB⟩ := hrel
      by_cases hlt : j < m
      · have HG2 : Hid ((if (gr l p).1 ≠ 0 then ((gr l p).1, 0, []) else grs l (m - (j + 1)) (gr l p).2.1 (M ++ [(gr l p).2.2])) = X) := by
          show _ = _
          rw [← HG.out, show m - j = m - (j + 1) + 1 by omega, GS.out]
        have G1 := Lib.hid (GR.out p wr HB.out)
        clear HG
        generalize gr l p = Y at *
        obtain ⟨yc, yp, r⟩ := Y
        dsimp only at G1 HG2
        go_wp2_with fail
        refine G1.out.mono ?_
        rintro e w2 ⟨rfl, hl⟩
        have B2 := Lib.hid (HB.out.trans (hl.mono HB.out.size))
        have O2 := Lib.hid (own_below HO.out hl)
        clear hl HB HO G1
        have B3 := Lib.hid (B2.out.alloc B2.out.size (.cells #[.string r.name, .int .i64 r.ty, .int .i64 r.ttl, .int .i64 r.n, .string r.host, .string r.text] 117))
        by_cases hc : yc = 0
        · subst hc
          have HG3 := Lib.hid ((if_neg (fun e => e rfl)).symm.trans HG2.out)
          clear HG2
          have O4 := Lib.hid ((O2.out.alloc (.cells #[.string r.name, .int .i64 r.ty, .int .i64 r.ttl, .int .i64 r.n, .string r.host, .string r.text] 117)).alloc (.cells #[.string r.name, .int .i64 r.ty, .int .i64 r.ttl, .int .i64 r.n, .string r.host, .string r.text] 117))
          have B4 := Lib.hid (B3.out.alloc B3.out.size (.cells #[.string r.name, .int .i64 r.ty, .int .i64 r.ttl, .int .i64 r.n, .string r.host, .string r.text] 117))
          have S4 := Lib.hid (one_sr (w2.alloc (.cells #[.string r.name, .int .i64 r.ty, .int .i64 r.ttl, .int .i64 r.n, .string r.host, .string r.text] 117)) r)
          rw [show (w2.alloc (.cells #[.string r.name, .int .i64 r.ty, .int .i64 r.ttl, .int .i64 r.n, .string r.host, .string r.text] 117)).heap.size = w2.heap.size + 1 by simp] at S4
          go_wp2_with (at_builtin; refine append_recs rfl (.tmp 32) (.tmp 34) rfl w.heap.size g j cap M rfl O4.out (w2.heap.size + 1) 0 1 1 _ [r] rfl S4.out ?d1 ?d2 ?d3 ?_)
          case d1 => omega
          case d2 => omega
          case d3 => exact B4.out.size
          intro g5 cap5 w5 hown hgrow
          have O5 := Lib.hid hown
          have B5 := Lib.hid (B4.out.grown hgrow B4.out.size (fun i hi => by cases hi; exact (O4.out.lt g rfl).1))
          clear hown hgrow O4 B4 S4 O2 B2 B3
          go_wp2
          go_roundw
          case rel => exact ⟨j + 1, g5, cap5, M ++ [r], yp, by omega, by go_num, rfl, rfl, HG3.out, O5.out, B5.out⟩
          case measure => simp [intOf]; omega
        · have HG3 := Lib.hid ((if_pos hc).symm.trans HG2.out)
          have hc2 : ((yc : Int) != 0) = true := by simp; omega
          clear HG2
          go_wp2
          go_ret3
          rw [← HG3.out]
          exact grs_nil2 B3.out 0 yc (by simp)
      · obtain rfl : j = m := by omega
        have HG2 : Hid ((0, p, M) = X) := by
          have := HG.out
          rw [Nat.sub_self] at this
          exact this
        go_wp2
        go_ret3
        rw [← HG2.out]
        exact grs_of HO.out HB.out p 0
  · have HI : Hid (inn q 0 8 = false) := decide_eq_false h
    have HX : Hid ((2, 0, []) = grA l k q) := by show _ = _; rw [grA, if_neg h]
    generalize grA l k q = X at *
    clear h GR
    go_enter Tryz.func142, Tryz.ntmps142
    go_wp2_with fail
    refine (upTo_any _ 8 _).mono ?_
    rw [HI.out]
    rintro e w1 ⟨rfl, rfl⟩
    go_wp2
    go_ret3
    rw [← HX.out]
    exact grs_nil (Below.refl _ _) 0 2
end Go.Proofs.YtkfibepejlgniaaGreatDoor.GetsI

/- What the model's GetRecords does: it reads records as FieldMath tells (grs), into a new row of its own, and turns nothing that was there. Condition: at most 400000000 bytes. -/
namespace Go.Proofs.YtkfibepejlgniaaGreatDoor.GetsS
open Go.RowKit Go.Proofs.YtkfibepejlgniaaGreatDoor.Mem Go.Proofs.YtkfibepejlgniaaGreatDoor.MemR Go.Proofs.YtkfibepejlgniaaGreatDoor.Labels Go.Proofs.YtkfibepejlgniaaGreatDoor.Label Go.Proofs.YtkfibepejlgniaaGreatDoor.TextR Go.Proofs.YtkfibepejlgniaaGreatDoor.App Go.Proofs.YtkfibepejlgniaaGreatDoor.AppR Go.Proofs.YtkfibepejlgniaaGreatDoor.FieldMath Go.Proofs.YtkfibepejlgniaaGreatDoor.GetRecI Go.Proofs.YtkfibepejlgniaaGreatDoor.GetsM

set_option maxRecDepth 100000 in
set_option maxHeartbeats 4000000 in
theorem recs (A : Option Addr) (n c : Nat) (l : List UInt8) (k q : Int) (w : World) (hs : Sl w w.heap.size A n l) (hnc : n ≤ c) (hn : n ≤ 400000000) :
    Calls Tryz.prog 96 #[.slice A n c, .int .i64 k, .int .i64 q] w (Grs w (grA l k q)) := by
  have GR := Lib.hid (fun (a : Int) (W : World) (hW : Below w.heap.size w W) => GetRecS.record A n c l a W ((hs.below hW).wider hW.size) hnc hn)
  unfold valR at GR
  clear hs
  by_cases h : 0 ≤ q ∧ q ≤ 8
  · have HI : Hid (decide ((0 : Int) ≤ q ∧ q ≤ 8) = true) := decide_eq_true h
    obtain ⟨h0, h8⟩ := h
    obtain ⟨m, rfl⟩ := Int.eq_ofNat_of_zero_le h0
    have hm8 : m ≤ 8 := by omega
    have HX : Hid (grs l m k [] = grA l k (m : Int)) := by show _ = _; rw [grA, if_pos ⟨by omega, by omega⟩, Int.toNat_natCast]
    generalize grA l k (m : Int) = X at *
    have GS := Lib.hid (grs_step l)
    go_enter Tryz.func96, Tryz.ntmps96
    go_wp2_with fail
    refine (l1In_any _ _ _ _).mono ?_
    rw [HI.out]
    rintro e w1 ⟨rfl, rfl⟩
    go_wp2
    go_loopw [1, 9, 10] (fun a v i wr => ∃ (j g cap : Nat) (M : List Rec) (p : Int), j ≤ m ∧ i = .int .i64 (j : Int) ∧ a = .int .i64 p ∧ v = .slice (some ⟨g, 0, none⟩) j cap ∧ Hid (grs l (m - j) p M = X) ∧ Hid (wr.ownsRow w.heap.size 117 6 (.slice (some ⟨g, 0, none⟩) j cap) j (fl M)) ∧ Hid (Below w.heap.size w wr)) (fun _ _ i _ => m - (intOf i).toNat)
    case atStart => exact ⟨0, w.heap.size, 0, [], k, Nat.zero_le _, rfl, rfl, rfl, HX.out, AppR.owns_new w, (Below.refl _ _).alloc (Nat.le_refl _) _⟩
    case round =>
      clear HX
      obtain ⟨j, g, cap, M, p, hj, rfl, rfl, rfl, HG, HO, HB⟩ := hrel
      by_cases hlt : j < m
      · have HG2 : Hid ((if (gr l p).1 ≠ 0 then ((gr l p).1, 0, []) else grs l (m - (j + 1)) (gr l p).2.1 (M ++ [(gr l p).2.2])) = X) := by
          show _ = _
          rw [← HG.out, show m - j = m - (j + 1) + 1 by omega, GS.out]
        have G1 := Lib.hid (GR.out p wr HB.out)
        clear HG
        generalize gr l p = Y at *
        obtain ⟨yc, yp, r⟩ := Y
        dsimp only at G1 HG2
        go_wp2_with fail
        refine G1.out.mono ?_
        rintro e w2 ⟨rfl, hl⟩
        have B2 := Lib.hid (HB.out.trans (hl.mono HB.out.size))
        have O2 := Lib.hid (own_below HO.out hl)
        clear hl HB HO G1
        have B3 := Lib.hid (B2.out.alloc B2.out.size (.cells #[.string r.name, .int .i64 r.ty, .int .i64 r.ttl, .int .i64 r.n, .string r.host, .string r.text] 117))
        by_cases hc : yc = 0
        · subst hc
          have HG3 := Lib.hid ((if_neg (fun e => e rfl)).symm.trans HG2.out)
          clear HG2
          have O4 := Lib.hid ((O2.out.alloc (.cells #[.string r.name, .int .i64 r.ty, .int .i64 r.ttl, .int .i64 r.n, .string r.host, .string r.text] 117)).alloc (.cells #[.string r.name, .int .i64 r.ty, .int .i64 r.ttl, .int .i64 r.n, .string r.host, .string r.text] 117))
          have B4 := Lib.hid (B3.out.alloc B3.out.size (.cells #[.string r.name, .int .i64 r.ty, .int .i64 r.ttl, .int .i64 r.n, .string r.host, .string r.text] 117))
          have S4 := Lib.hid (one_sr (w2.alloc (.cells #[.string r.name, .int .i64 r.ty, .int .i64 r.ttl, .int .i64 r.n, .string r.host, .string r.text] 117)) r)
          rw [show (w2.alloc (.cells #[.string r.name, .int .i64 r.ty, .int .i64 r.ttl, .int .i64 r.n, .string r.host, .string r.text] 117)).heap.size = w2.heap.size + 1 by simp] at S4
          go_wp2_with (at_builtin; refine append_recs rfl (.tmp 35) (.tmp 37) rfl w.heap.size g j cap M rfl O4.out (w2.heap.size + 1) 0 1 1 _ [r] rfl S4.out ?d1 ?d2 ?d3 ?_)
          case d1 => omega
          case d2 => omega
          case d3 => exact B4.out.size
          intro g5 cap5 w5 hown hgrow
          have O5 := Lib.hid hown
          have B5 := Lib.hid (B4.out.grown hgrow B4.out.size (fun i hi => by cases hi; exact (O4.out.lt g rfl).1))
          clear hown hgrow O4 B4 S4 O2 B2 B3
          go_wp2
          go_roundw
          case rel => exact ⟨j + 1, g5, cap5, M ++ [r], yp, by omega, by go_num, rfl, rfl, HG3.out, O5.out, B5.out⟩
          case measure => simp [intOf]; omega
        · have HG3 := Lib.hid ((if_pos hc).symm.trans HG2.out)
          have hc2 : ((yc : Int) != 0) = true := by simp; omega
          clear HG2
          go_wp2
          go_ret3
          rw [← HG3.out]
          exact grs_nil2 B3.out 0 yc (by simp)
      · obtain rfl : j = m := by omega
        have HG2 : Hid ((0, p, M) = X) := by
          have := HG.out
          rw [Nat.sub_self] at this
          exact this
        go_wp2
        go_ret3
        rw [← HG2.out]
        exact grs_of HO.out HB.out p 0
  · have HI : Hid (decide ((0 : Int) ≤ q ∧ q ≤ 8) = false) := decide_eq_false h
    have HX : Hid ((2, 0, []) = grA l k q) := by show _ = _; rw [grA, if_neg h]
    generalize grA l k q = X at *
    clear h GR
    go_enter Tryz.func96, Tryz.ntmps96
    go_wp2_with fail
    refine (l1In_any _ _ _ _).mono ?_
    rw [HI.out]
    rintro e w1 ⟨rfl, rfl⟩
    go_wp2
    go_ret3
    rw [← HX.out]
    exact grs_nil (Below.refl _ _) 0 2
end Go.Proofs.YtkfibepejlgniaaGreatDoor.GetsS

/- What GetMsg does in the model and in the program: it reads a message as MsgMath tells, and turns nothing that was there. Conditions: at most 400000000 bytes; for the program: the library's variable internal/bytealg.MaxLen holds an int. -/
namespace Go.Proofs.YtkfibepejlgniaaGreatDoor.GetMS
open Go.RowKit Go.Proofs.YtkfibepejlgniaaGreatDoor.Mem Go.Proofs.YtkfibepejlgniaaGreatDoor.MemR Go.Proofs.YtkfibepejlgniaaGreatDoor.MemM Go.Proofs.YtkfibepejlgniaaGreatDoor.Labels Go.Proofs.YtkfibepejlgniaaGreatDoor.Get Go.Proofs.YtkfibepejlgniaaGreatDoor.ResR Go.Proofs.YtkfibepejlgniaaGreatDoor.ResM Go.Proofs.YtkfibepejlgniaaGreatDoor.ResQ Go.Proofs.YtkfibepejlgniaaGreatDoor.FieldMath Go.Proofs.YtkfibepejlgniaaGreatDoor.GetsM Go.Proofs.YtkfibepejlgniaaGreatDoor.HeadRd Go.Proofs.YtkfibepejlgniaaGreatDoor.GetH Go.Proofs.YtkfibepejlgniaaGreatDoor.GetHI Go.Proofs.YtkfibepejlgniaaGreatDoor.MsgMath Go.Proofs.YtkfibepejlgniaaGreatDoor.GetQ

/-- The call returned the message of l in new memory and true, and turned nothing that was there. -/
def Got (w : World) (h : Hd) (n1 n2 n3 : Nat) (l1 l2 l3 : List Rec) (e : Ending) (w' : World) : Prop :=
  ∃ g1 c1 r1 g2 c2 r2 g3 c3 r3, e = .returned (.tuple #[.agg #[.int .i64 h.id, .bool h.rp, .bool h.au, .bool h.ct, .bool h.wa, .bool h.ca, .int .i64 h.code, .string h.qn, .int .i64 h.qt, .slice (some ⟨g1, 0, none⟩) n1 c1, .slice (some ⟨g2, 0, none⟩) n2 c2, .slice (some ⟨g3, 0, none⟩) n3 c3], .bool true]) ∧
    Bk w' g1 117 (fl l1 ++ r1) ∧ Bk w' g2 117 (fl l2 ++ r2) ∧ Bk w' g3 117 (fl l3 ++ r3) ∧ w.heap.size ≤ g1 ∧ g1 < g2 ∧ g2 < g3 ∧ Below w.heap.size w w'
theorem gmb_parts {l : List UInt8} (h : gmb l = true) : l.length ≤ 512 ∧ ghb l = true ∧ (gq l 12).1 = 0 ∧ (s1 l).1 = 0 ∧ (s2 l).1 = 0 ∧ (s3 l).1 = 0 ∧ (s3 l).2.1 = (l.length : Int) := by
  have := of_decide_eq_true h
  exact ⟨this.1, this.2⟩
/-- What GetRecords does, told of the block. -/
def Gr (W : World) (X : Nat × Int × List Rec) (e : Ending) (w' : World) : Prop :=
  ∃ g cap r, e = .returned (.tuple #[.slice (some ⟨g, 0, none⟩) X.2.2.length cap, .int .i64 X.2.1, .int .i64 (X.1 : Int)]) ∧ Bk w' g 117 (fl X.2.2 ++ r) ∧ W.heap.size ≤ g ∧ Below W.heap.size W w'
theorem gr_of {W w' : World} {X : Nat × Int × List Rec} {e : Ending} (h : Grs W X e w') : Gr W X e w' := h.bk

/-- The parts of a message, met in the model's order: which is the first that is bad. -/
theorem parts (l : List UInt8) : (¬ (ghb l = true ∧ l.length ≤ 512) ∧ gmb l = false) ∨ ((ghb l = true ∧ l.length ≤ 512) ∧
    (((gq l 12).1 ≠ 0 ∧ gmb l = false) ∨ ((gq l 12).1 = 0 ∧ (((s1 l).1 ≠ 0 ∧ gmb l = false) ∨ ((s1 l).1 = 0 ∧ (((s2 l).1 ≠ 0 ∧ gmb l = false) ∨ ((s2 l).1 = 0 ∧
      (((s3 l).1 ≠ 0 ∧ gmb l = false) ∨ ((s3 l).1 = 0 ∧ (((s3 l).2.1 ≠ (l.length : Int) ∧ gmb l = false) ∨ ((s3 l).2.1 = (l.length : Int) ∧ gmb l = true))))))))))) := by
  have bad : ∀ P : Prop, (gmb l = true → P) → ¬ P → gmb l = false := fun P h1 h2 => by
    cases e : gmb l
    · rfl
    · exact absurd (h1 e) h2
  by_cases a : ghb l = true ∧ l.length ≤ 512
  · refine Or.inr ⟨a, ?_⟩
    by_cases b : (gq l 12).1 = 0
    · refine Or.inr ⟨b, ?_⟩
      by_cases c : (s1 l).1 = 0
      · refine Or.inr ⟨c, ?_⟩
        by_cases d : (s2 l).1 = 0
        · refine Or.inr ⟨d, ?_⟩
          by_cases f : (s3 l).1 = 0
          · refine Or.inr ⟨f, ?_⟩
            by_cases g : (s3 l).2.1 = (l.length : Int)
            · exact Or.inr ⟨g, decide_eq_true ⟨a.2, a.1, b, c, d, f, g⟩⟩
            · exact Or.inl ⟨g, bad _ (fun h => (gmb_parts h).2.2.2.2.2.2) g⟩
          · exact Or.inl ⟨f, bad _ (fun h => (gmb_parts h).2.2.2.2.2.1) f⟩
        · exact Or.inl ⟨d, bad _ (fun h => (gmb_parts h).2.2.2.2.1) d⟩
      · exact Or.inl ⟨c, bad _ (fun h => (gmb_parts h).2.2.2.1) c⟩
    · exact Or.inl ⟨b, bad _ (fun h => (gmb_parts h).2.2.1) b⟩
  · exact Or.inl ⟨a, bad _ (fun h => ⟨(gmb_parts h).2.1, (gmb_parts h).1⟩) a⟩
/-- What GetMsg hands back. -/
def Res (l : List UInt8) (w : World) (e : Ending) (w' : World) : Prop :=
  (gmb l = false ∧ e = .returned (.tuple #[.agg #[.int .i64 zh.id, .bool zh.rp, .bool zh.au, .bool zh.ct, .bool zh.wa, .bool zh.ca, .int .i64 zh.code, .string zh.qn, .int .i64 zh.qt, .slice none 0 0, .slice none 0 0, .slice none 0 0], .bool false]) ∧ Below w.heap.size w w') ∨ (gmb l = true ∧ Got w (gmh l) (s1 l).2.2.length (s2 l).2.2.length (s3 l).2.2.length (s1 l).2.2 (s2 l).2.2 (s3 l).2.2 e w')

set_option maxRecDepth 100000 in
set_option maxHeartbeats 16000000 in
theorem spec (A : Option Addr) (n c : Nat) (l : List UInt8) (w : World) (hs : Sl w w.heap.size A n l) (hnc : n ≤ c) (hn : n ≤ 400000000) :
    Calls Tryz.prog 37 #[.slice A n c] w (Res l w) := by
  have hl := hs.1
  have L0 := Lib.hid ((Below.refl w.heap.size w).alloc (Nat.le_refl _) (.cells #[.int .i64 0, .bool false, .bool false, .bool false, .bool false, .bool false, .int .i64 0, .string ⟨#[]⟩, .int .i64 0, .slice none 0 0, .slice none 0 0, .slice none 0 0] 28))
  have Z0 : Hid (Bk (w.alloc (.cells #[.int .i64 0, .bool false, .bool false, .bool false, .bool false, .bool false, .int .i64 0, .string ⟨#[]⟩, .int .i64 0, .slice none 0 0, .slice none 0 0, .slice none 0 0] 28)) w.heap.size 28 (mc zh (.slice none 0 0) (.slice none 0 0) (.slice none 0 0))) := heap_alloc_new w _
  have HD := Lib.hid (fun (W : World) (hW : Below w.heap.size w W) => GetHS.spec A n c l W ((hs.below hW).wider hW.size) hnc hn)
  have QD := Lib.hid (fun (W : World) (hW : Below w.heap.size w W) => GetQ.spec A n c l 12 W ((hs.below hW).wider hW.size) hnc hn)
  have RD := Lib.hid (fun (k q : Int) (W : World) (hW : Below w.heap.size w W) => (GetsS.recs A n c l k q W ((hs.below hW).wider hW.size) hnc hn).mono fun _ _ => gr_of)
  have R1 := Lib.hid (RD.out (gq l 12).2.1 (ghn l 6))
  have R2 := Lib.hid (RD.out (s1 l).2.1 (ghn l 8))
  have R3 := Lib.hid (RD.out (s2 l).2.1 (ghn l 10))
  have E1 : Hid (grA l (gq l 12).2.1 (ghn l 6) = s1 l) := rfl
  have E2 : Hid (grA l (s1 l).2.1 (ghn l 8) = s2 l) := rfl
  have E3 : Hid (grA l (s2 l).2.1 (ghn l 10) = s3 l) := rfl
  rw [E1.out] at R1
  rw [E2.out] at R2
  rw [E3.out] at R3
  have PA := parts l
  rw [hl] at PA
  have GM : Hid (gmh l = wq (ghh l) (gq l 12).2.2.1 (gq l 12).2.2.2) := rfl
  have N1 : Hid ((s1 l).2.2.length ≤ 8) := grA_len _ _ _
  have N2 : Hid ((s2 l).2.2.length ≤ 8) := grA_len _ _ _
  have N3 : Hid ((s3 l).2.2.length ≤ 8) := grA_len _ _ _
  unfold Res
  unfold valH at HD
  unfold valQ at QD
  generalize gmb l = ok at *
  generalize gmh l = M at *
  generalize s1 l = S1 at *
  generalize s2 l = S2 at *
  generalize s3 l = S3 at *
  generalize gq l 12 = Q at *
  generalize ghh l = H at *
  generalize ghn l 6 = q1 at *
  generalize ghn l 8 = q2 at *
  generalize ghn l 10 = q3 at *
  generalize ghb l = hb at *
  obtain ⟨d1, p1, l1⟩ := S1
  obtain ⟨d2, p2, l2⟩ := S2
  obtain ⟨d3, p3, l3⟩ := S3
  obtain ⟨dq, pq, sq, tq⟩ := Q
  unfold Gr at R1 R2 R3
  dsimp only at HD QD R1 R2 R3 PA GM N1 N2 N3 ⊢
  obtain ⟨n1, hn1⟩ : ∃ n, l1.length = n := ⟨_, rfl⟩
  obtain ⟨n2, hn2⟩ : ∃ n, l2.length = n := ⟨_, rfl⟩
  obtain ⟨n3, hn3⟩ : ∃ n, l3.length = n := ⟨_, rfl⟩
  rw [hn1] at R1
  rw [hn2] at R2
  rw [hn3] at R3
  rw [hn1, hn2, hn3]
  clear hn1 hn2 hn3 N1 N2 N3 E1 E2 E3 RD hs hl hnc
  go_enter Tryz.func37, Tryz.ntmps37
  go_wp2_with fail
  refine (HD.out _ L0.out).mono ?_
  rintro e w1 ⟨rfl, hl⟩
  have L1' := L0.out.trans (hl.mono L0.out.size)
  have L1 := Lib.hid (L1'.alloc L1'.size (.cells #[.int .i64 H.id, .bool H.rp, .bool H.au, .bool H.ct, .bool H.wa, .bool H.ca, .int .i64 H.code, .string H.qn, .int .i64 H.qt, .slice none 0 0, .slice none 0 0, .slice none 0 0] 28))
  have Z1 := Lib.hid ((Z0.out.below hl Z0.out.lt).alloc (.cells #[.int .i64 H.id, .bool H.rp, .bool H.au, .bool H.ct, .bool H.wa, .bool H.ca, .int .i64 H.code, .string H.qn, .int .i64 H.qt, .slice none 0 0, .slice none 0 0, .slice none 0 0] 28))
  have X1 : Hid (Bk (w1.alloc (.cells #[.int .i64 H.id, .bool H.rp, .bool H.au, .bool H.ct, .bool H.wa, .bool H.ca, .int .i64 H.code, .string H.qn, .int .i64 H.qt, .slice none 0 0, .slice none 0 0, .slice none 0 0] 28)) w1.heap.size 28 (mc H (.slice none 0 0) (.slice none 0 0) (.slice none 0 0))) := heap_alloc_new w1 _
  have NX : Hid (w.heap.size < w1.heap.size) := Nat.lt_of_lt_of_le Z0.out.lt hl.size
  clear hl L1' L0 Z0 HD
  go_upto_region 2 with (fail)
  generalize hw : w1.alloc (.cells #[.int .i64 H.id, .bool H.rp, .bool H.au, .bool H.ct, .bool H.wa, .bool H.ca, .int .i64 H.code, .string H.qn, .int .i64 H.qt, .slice none 0 0, .slice none 0 0, .slice none 0 0] 28) = w1' at *
  clear hw
  generalize w1.heap.size = gx at *
  rcases PA with ⟨hA, hB⟩ | ⟨hA, PA⟩
  · have HB := Lib.hid hB
    clear hB
    cases hb
    · clear hA
      obtain ⟨z0, z1, z2, z3, z4, z5, z6, z7, z8, z9, z10, z11⟩ := mx_of Z1.out
      have f0 := Z1.out.free 0
      have f1 := Z1.out.free 1
      have f2 := Z1.out.free 2
      have f3 := Z1.out.free 3
      have f4 := Z1.out.free 4
      have f5 := Z1.out.free 5
      have f6 := Z1.out.free 6
      have f7 := Z1.out.free 7
      have f8 := Z1.out.free 8
      have f9 := Z1.out.free 9
      have f10 := Z1.out.free 10
      have f11 := Z1.out.free 11
      go_wp2
      exact bodyPost_ret (v := .tuple #[.agg #[.int .i64 zh.id, .bool zh.rp, .bool zh.au, .bool zh.ct, .bool zh.wa, .bool zh.ca, .int .i64 zh.code, .string zh.qn, .int .i64 zh.qt, .slice none 0 0, .slice none 0 0, .slice none 0 0], .bool false]) (res2M rfl (filM_bk Z1.out zh (.slice none 0 0) (.slice none 0 0) (.slice none 0 0)) rfl rfl) rfl (Or.inl ⟨HB.out, rfl, filM_below L1.out (Nat.le_refl _) zh (.slice none 0 0) (.slice none 0 0) (.slice none 0 0)⟩)
    · have h5 : (512 : Int) < (n : Int) := by
        have : ¬ n ≤ 512 := fun h => hA ⟨rfl, h⟩
        omega
      clear hA
      obtain ⟨z0, z1, z2, z3, z4, z5, z6, z7, z8, z9, z10, z11⟩ := mx_of Z1.out
      have f0 := Z1.out.free 0
      have f1 := Z1.out.free 1
      have f2 := Z1.out.free 2
      have f3 := Z1.out.free 3
      have f4 := Z1.out.free 4
      have f5 := Z1.out.free 5
      have f6 := Z1.out.free 6
      have f7 := Z1.out.free 7
      have f8 := Z1.out.free 8
      have f9 := Z1.out.free 9
      have f10 := Z1.out.free 10
      have f11 := Z1.out.free 11
      go_wp2
      exact bodyPost_ret (v := .tuple #[.agg #[.int .i64 zh.id, .bool zh.rp, .bool zh.au, .bool zh.ct, .bool zh.wa, .bool zh.ca, .int .i64 zh.code, .string zh.qn, .int .i64 zh.qt, .slice none 0 0, .slice none 0 0, .slice none 0 0], .bool false]) (res2M rfl (filM_bk Z1.out zh (.slice none 0 0) (.slice none 0 0) (.slice none 0 0)) rfl rfl) rfl (Or.inl ⟨HB.out, rfl, filM_below L1.out (Nat.le_refl _) zh (.slice none 0 0) (.slice none 0 0) (.slice none 0 0)⟩)
  obtain ⟨rfl, h512⟩ := hA
  have h5 : ¬ (512 : Int) < (n : Int) := by omega
  go_wp2_with fail
  refine (QD.out _ L1.out).mono ?_
  rintro e w2 ⟨rfl, hl⟩
  have L2' := L1.out.trans (hl.mono L1.out.size)
  have L2 := Lib.hid (L2'.alloc L2'.size (.cells #[.string sq, .int .i64 tq] 25))
  have Z2 := Lib.hid ((Z1.out.below hl Z1.out.lt).alloc (.cells #[.string sq, .int .i64 tq] 25))
  have X2 := Lib.hid ((X1.out.below hl X1.out.lt).alloc (.cells #[.string sq, .int .i64 tq] 25))
  have Q2 : Hid (Bk (w2.alloc (.cells #[.string sq, .int .i64 tq] 25)) w2.heap.size 25 (qc sq tq)) := heap_alloc_new w2 _
  have NQ : Hid (gx < w2.heap.size) := Nat.lt_of_lt_of_le X1.out.lt hl.size
  clear hl L2' L1 Z1 X1 QD
  go_upto_region 5 with (fail)
  generalize hw : w2.alloc (.cells #[.string sq, .int .i64 tq] 25) = w2' at *
  clear hw
  generalize w2.heap.size = gq at *
  rcases PA with ⟨hQ, hB⟩ | ⟨hQ, PA⟩
  · have HB := Lib.hid hB
    have e1 : ((dq : Int) != 0) = true := by simp; omega
    have e2 : ¬ (dq : Int) = 0 := by omega
    clear hB hQ
    obtain ⟨z0, z1, z2, z3, z4, z5, z6, z7, z8, z9, z10, z11⟩ := mx_of Z2.out
    have f0 := Z2.out.free 0
    have f1 := Z2.out.free 1
    have f2 := Z2.out.free 2
    have f3 := Z2.out.free 3
    have f4 := Z2.out.free 4
    have f5 := Z2.out.free 5
    have f6 := Z2.out.free 6
    have f7 := Z2.out.free 7
    have f8 := Z2.out.free 8
    have f9 := Z2.out.free 9
    have f10 := Z2.out.free 10
    have f11 := Z2.out.free 11
    go_wp2
    exact bodyPost_ret (v := .tuple #[.agg #[.int .i64 zh.id, .bool zh.rp, .bool zh.au, .bool zh.ct, .bool zh.wa, .bool zh.ca, .int .i64 zh.code, .string zh.qn, .int .i64 zh.qt, .slice none 0 0, .slice none 0 0, .slice none 0 0], .bool false]) (res2M rfl (filM_bk Z2.out zh (.slice none 0 0) (.slice none 0 0) (.slice none 0 0)) rfl rfl) rfl (Or.inl ⟨HB.out, rfl, filM_below L2.out (Nat.le_refl _) zh (.slice none 0 0) (.slice none 0 0) (.slice none 0 0)⟩)
  subst hQ
  go_wp2_with fail
  refine (R1.out _ L2.out).mono ?_
  rintro e w3 ⟨g1, c1, r1, rfl, hb1, hg1, hl⟩
  have O1 : Hid (w.heap.size ≤ g1) := Nat.le_trans L2.out.size hg1
  have O0 : Hid (gx < g1) := Nat.lt_of_lt_of_le X2.out.lt hg1
  have B1_3 := Lib.hid hb1
  clear hb1 hg1
  have L3 := Lib.hid (L2.out.trans (hl.mono L2.out.size))
  have Z3 := Lib.hid (Z2.out.below hl Z2.out.lt)
  have X3 := Lib.hid (X2.out.below hl X2.out.lt)
  have Q3 := Lib.hid (Q2.out.below hl Q2.out.lt)
  clear hl L2 Z2 X2 Q2
  rcases PA with ⟨hQ, hB⟩ | ⟨hQ, PA⟩
  · have HB := Lib.hid hB
    have e1 : ((d1 : Int) != 0) = true := by simp; omega
    have e2 : ¬ (d1 : Int) = 0 := by omega
    clear hB hQ
    obtain ⟨z0, z1, z2, z3, z4, z5, z6, z7, z8, z9, z10, z11⟩ := mx_of Z3.out
    have f0 := Z3.out.free 0
    have f1 := Z3.out.free 1
    have f2 := Z3.out.free 2
    have f3 := Z3.out.free 3
    have f4 := Z3.out.free 4
    have f5 := Z3.out.free 5
    have f6 := Z3.out.free 6
    have f7 := Z3.out.free 7
    have f8 := Z3.out.free 8
    have f9 := Z3.out.free 9
    have f10 := Z3.out.free 10
    have f11 := Z3.out.free 11
    go_wp2
    exact bodyPost_ret (v := .tuple #[.agg #[.int .i64 zh.id, .bool zh.rp, .bool zh.au, .bool zh.ct, .bool zh.wa, .bool zh.ca, .int .i64 zh.code, .string zh.qn, .int .i64 zh.qt, .slice none 0 0, .slice none 0 0, .slice none 0 0], .bool false]) (res2M rfl (filM_bk Z3.out zh (.slice none 0 0) (.slice none 0 0) (.slice none 0 0)) rfl rfl) rfl (Or.inl ⟨HB.out, rfl, filM_below L3.out (Nat.le_refl _) zh (.slice none 0 0) (.slice none 0 0) (.slice none 0 0)⟩)
  subst hQ
  go_wp2_with fail
  refine (R2.out _ L3.out).mono ?_
  rintro e w4 ⟨g2, c2, r2, rfl, hb2, hg2, hl⟩
  have O2 : Hid (g1 < g2) := Nat.lt_of_lt_of_le B1_3.out.lt hg2
  have B2_4 := Lib.hid hb2
  clear hb2 hg2
  have L4 := Lib.hid (L3.out.trans (hl.mono L3.out.size))
  have Z4 := Lib.hid (Z3.out.below hl Z3.out.lt)
  have X4 := Lib.hid (X3.out.below hl X3.out.lt)
  have Q4 := Lib.hid (Q3.out.below hl Q3.out.lt)
  have B1_4 := Lib.hid (B1_3.out.below hl B1_3.out.lt)
  clear hl L3 Z3 X3 Q3 B1_3
  rcases PA with ⟨hQ, hB⟩ | ⟨hQ, PA⟩
  · have HB := Lib.hid hB
    have e1 : ((d2 : Int) != 0) = true := by simp; omega
    have e2 : ¬ (d2 : Int) = 0 := by omega
    clear hB hQ
    obtain ⟨z0, z1, z2, z3, z4, z5, z6, z7, z8, z9, z10, z11⟩ := mx_of Z4.out
    have f0 := Z4.out.free 0
    have f1 := Z4.out.free 1
    have f2 := Z4.out.free 2
    have f3 := Z4.out.free 3
    have f4 := Z4.out.free 4
    have f5 := Z4.out.free 5
    have f6 := Z4.out.free 6
    have f7 := Z4.out.free 7
    have f8 := Z4.out.free 8
    have f9 := Z4.out.free 9
    have f10 := Z4.out.free 10
    have f11 := Z4.out.free 11
    go_wp2
    exact bodyPost_ret (v := .tuple #[.agg #[.int .i64 zh.id, .bool zh.rp, .bool zh.au, .bool zh.ct, .bool zh.wa, .bool zh.ca, .int .i64 zh.code, .string zh.qn, .int .i64 zh.qt, .slice none 0 0, .slice none 0 0, .slice none 0 0], .bool false]) (res2M rfl (filM_bk Z4.out zh (.slice none 0 0) (.slice none 0 0) (.slice none 0 0)) rfl rfl) rfl (Or.inl ⟨HB.out, rfl, filM_below L4.out (Nat.le_refl _) zh (.slice none 0 0) (.slice none 0 0) (.slice none 0 0)⟩)
  subst hQ
  go_wp2_with fail
  refine (R3.out _ L4.out).mono ?_
  rintro e w5 ⟨g3, c3, r3, rfl, hb3, hg3, hl⟩
  have O3 : Hid (g2 < g3) := Nat.lt_of_lt_of_le B2_4.out.lt hg3
  have B3_5 := Lib.hid hb3
  clear hb3 hg3
  have L5 := Lib.hid (L4.out.trans (hl.mono L4.out.size))
  have Z5 := Lib.hid (Z4.out.below hl Z4.out.lt)
  have X5 := Lib.hid (X4.out.below hl X4.out.lt)
  have Q5 := Lib.hid (Q4.out.below hl Q4.out.lt)
  have B1_5 := Lib.hid (B1_4.out.below hl B1_4.out.lt)
  have B2_5 := Lib.hid (B2_4.out.below hl B2_4.out.lt)
  clear hl L4 Z4 X4 Q4 B1_4 B2_4
  rcases PA with ⟨hQ, hB⟩ | ⟨hQ, PA⟩
  · have HB := Lib.hid hB
    have e1 : ((d3 : Int) != 0) = true := by simp; omega
    have e2 : ¬ (d3 : Int) = 0 := by omega
    clear hB hQ
    obtain ⟨z0, z1, z2, z3, z4, z5, z6, z7, z8, z9, z10, z11⟩ := mx_of Z5.out
    have f0 := Z5.out.free 0
    have f1 := Z5.out.free 1
    have f2 := Z5.out.free 2
    have f3 := Z5.out.free 3
    have f4 := Z5.out.free 4
    have f5 := Z5.out.free 5
    have f6 := Z5.out.free 6
    have f7 := Z5.out.free 7
    have f8 := Z5.out.free 8
    have f9 := Z5.out.free 9
    have f10 := Z5.out.free 10
    have f11 := Z5.out.free 11
    go_wp2
    exact bodyPost_ret (v := .tuple #[.agg #[.int .i64 zh.id, .bool zh.rp, .bool zh.au, .bool zh.ct, .bool zh.wa, .bool zh.ca, .int .i64 zh.code, .string zh.qn, .int .i64 zh.qt, .slice none 0 0, .slice none 0 0, .slice none 0 0], .bool false]) (res2M rfl (filM_bk Z5.out zh (.slice none 0 0) (.slice none 0 0) (.slice none 0 0)) rfl rfl) rfl (Or.inl ⟨HB.out, rfl, filM_below L5.out (Nat.le_refl _) zh (.slice none 0 0) (.slice none 0 0) (.slice none 0 0)⟩)
  subst hQ
  rcases PA with ⟨hQ, hB⟩ | ⟨hQ, hB⟩
  · have HB := Lib.hid hB
    have e1 : (p3 != (n : Int)) = true := by simp [hQ]
    clear hB hQ
    obtain ⟨z0, z1, z2, z3, z4, z5, z6, z7, z8, z9, z10, z11⟩ := mx_of Z5.out
    have f0 := Z5.out.free 0
    have f1 := Z5.out.free 1
    have f2 := Z5.out.free 2
    have f3 := Z5.out.free 3
    have f4 := Z5.out.free 4
    have f5 := Z5.out.free 5
    have f6 := Z5.out.free 6
    have f7 := Z5.out.free 7
    have f8 := Z5.out.free 8
    have f9 := Z5.out.free 9
    have f10 := Z5.out.free 10
    have f11 := Z5.out.free 11
    go_wp2
    exact bodyPost_ret (v := .tuple #[.agg #[.int .i64 zh.id, .bool zh.rp, .bool zh.au, .bool zh.ct, .bool zh.wa, .bool zh.ca, .int .i64 zh.code, .string zh.qn, .int .i64 zh.qt, .slice none 0 0, .slice none 0 0, .slice none 0 0], .bool false]) (res2M rfl (filM_bk Z5.out zh (.slice none 0 0) (.slice none 0 0) (.slice none 0 0)) rfl rfl) rfl (Or.inl ⟨HB.out, rfl, filM_below L5.out (Nat.le_refl _) zh (.slice none 0 0) (.slice none 0 0) (.slice none 0 0)⟩)
  have HB := Lib.hid hB
  subst hQ
  clear hB
  obtain ⟨q0, q1'⟩ := qx_of Q5.out
  have k7 := X5.out.free 7
  have k8 := X5.out.free 8
  have k9 := X5.out.free 9
  have k10 := X5.out.free 10
  have k11 := X5.out.free 11
  obtain ⟨y0, y1, y2, y3, y4, y5, y6, y7, y8, y9, y10, y11⟩ := mx_of X5.out
  go_upto_region 20 with (fail)
  clear y0 y1 y2 y3 y4 y5 y6 y7 y8 y9 y10 y11 q0 q1' k7 k8 k9 k10 k11
  have L6 : Hid (Below w.heap.size w (((((w5.setCell ⟨gx, 7, none⟩ (.string sq)).setCell ⟨gx, 8, none⟩ (.int .i64 tq)).setCell ⟨gx, 9, none⟩ (.slice (some ⟨g1, 0, none⟩) n1 c1)).setCell ⟨gx, 10, none⟩ (.slice (some ⟨g2, 0, none⟩) n2 c2)).setCell ⟨gx, 11, none⟩ (.slice (some ⟨g3, 0, none⟩) n3 c3))) := ((((L5.out.setCell (p := ⟨gx, 7, none⟩) (Nat.le_of_lt NX.out) _).setCell (p := ⟨gx, 8, none⟩) (Nat.le_of_lt NX.out) _).setCell (p := ⟨gx, 9, none⟩) (Nat.le_of_lt NX.out) _).setCell (p := ⟨gx, 10, none⟩) (Nat.le_of_lt NX.out) _).setCell (p := ⟨gx, 11, none⟩) (Nat.le_of_lt NX.out) _
  have X6 : Hid (Bk (((((w5.setCell ⟨gx, 7, none⟩ (.string sq)).setCell ⟨gx, 8, none⟩ (.int .i64 tq)).setCell ⟨gx, 9, none⟩ (.slice (some ⟨g1, 0, none⟩) n1 c1)).setCell ⟨gx, 10, none⟩ (.slice (some ⟨g2, 0, none⟩) n2 c2)).setCell ⟨gx, 11, none⟩ (.slice (some ⟨g3, 0, none⟩) n3 c3)) gx 28 (mc (wq H sq tq) (.slice (some ⟨g1, 0, none⟩) n1 c1) (.slice (some ⟨g2, 0, none⟩) n2 c2) (.slice (some ⟨g3, 0, none⟩) n3 c3))) := ((((X5.out.set 7 (.string sq)).set 8 (.int .i64 tq)).set 9 (.slice (some ⟨g1, 0, none⟩) n1 c1)).set 10 (.slice (some ⟨g2, 0, none⟩) n2 c2)).set 11 (.slice (some ⟨g3, 0, none⟩) n3 c3)
  have ng0 : w.heap.size ≠ gx := Nat.ne_of_lt NX.out
  have ng1 : g1 ≠ gx := Nat.ne_of_gt O0.out
  have ng2 : g2 ≠ gx := Nat.ne_of_gt (Nat.lt_trans O0.out O2.out)
  have ng3 : g3 ≠ gx := Nat.ne_of_gt (Nat.lt_trans (Nat.lt_trans O0.out O2.out) O3.out)
  have Z6 : Hid (Bk (((((w5.setCell ⟨gx, 7, none⟩ (.string sq)).setCell ⟨gx, 8, none⟩ (.int .i64 tq)).setCell ⟨gx, 9, none⟩ (.slice (some ⟨g1, 0, none⟩) n1 c1)).setCell ⟨gx, 10, none⟩ (.slice (some ⟨g2, 0, none⟩) n2 c2)).setCell ⟨gx, 11, none⟩ (.slice (some ⟨g3, 0, none⟩) n3 c3)) w.heap.size 28 (mc zh (.slice none 0 0) (.slice none 0 0) (.slice none 0 0))) := ((((Z5.out.other (p := ⟨gx, 7, none⟩) (ng0) _).other (p := ⟨gx, 8, none⟩) (ng0) _).other (p := ⟨gx, 9, none⟩) (ng0) _).other (p := ⟨gx, 10, none⟩) (ng0) _).other (p := ⟨gx, 11, none⟩) (ng0) _
  have B1_6 : Hid (Bk (((((w5.setCell ⟨gx, 7, none⟩ (.string sq)).setCell ⟨gx, 8, none⟩ (.int .i64 tq)).setCell ⟨gx, 9, none⟩ (.slice (some ⟨g1, 0, none⟩) n1 c1)).setCell ⟨gx, 10, none⟩ (.slice (some ⟨g2, 0, none⟩) n2 c2)).setCell ⟨gx, 11, none⟩ (.slice (some ⟨g3, 0, none⟩) n3 c3)) g1 117 (fl l1 ++ r1)) := ((((B1_5.out.other (p := ⟨gx, 7, none⟩) (ng1) _).other (p := ⟨gx, 8, none⟩) (ng1) _).other (p := ⟨gx, 9, none⟩) (ng1) _).other (p := ⟨gx, 10, none⟩) (ng1) _).other (p := ⟨gx, 11, none⟩) (ng1) _
  have B2_6 : Hid (Bk (((((w5.setCell ⟨gx, 7, none⟩ (.string sq)).setCell ⟨gx, 8, none⟩ (.int .i64 tq)).setCell ⟨gx, 9, none⟩ (.slice (some ⟨g1, 0, none⟩) n1 c1)).setCell ⟨gx, 10, none⟩ (.slice (some ⟨g2, 0, none⟩) n2 c2)).setCell ⟨gx, 11, none⟩ (.slice (some ⟨g3, 0, none⟩) n3 c3)) g2 117 (fl l2 ++ r2)) := ((((B2_5.out.other (p := ⟨gx, 7, none⟩) (ng2) _).other (p := ⟨gx, 8, none⟩) (ng2) _).other (p := ⟨gx, 9, none⟩) (ng2) _).other (p := ⟨gx, 10, none⟩) (ng2) _).other (p := ⟨gx, 11, none⟩) (ng2) _
  have B3_6 : Hid (Bk (((((w5.setCell ⟨gx, 7, none⟩ (.string sq)).setCell ⟨gx, 8, none⟩ (.int .i64 tq)).setCell ⟨gx, 9, none⟩ (.slice (some ⟨g1, 0, none⟩) n1 c1)).setCell ⟨gx, 10, none⟩ (.slice (some ⟨g2, 0, none⟩) n2 c2)).setCell ⟨gx, 11, none⟩ (.slice (some ⟨g3, 0, none⟩) n3 c3)) g3 117 (fl l3 ++ r3)) := ((((B3_5.out.other (p := ⟨gx, 7, none⟩) (ng3) _).other (p := ⟨gx, 8, none⟩) (ng3) _).other (p := ⟨gx, 9, none⟩) (ng3) _).other (p := ⟨gx, 10, none⟩) (ng3) _).other (p := ⟨gx, 11, none⟩) (ng3) _
  clear L5 X5 Z5 B1_5 B2_5 B3_5 ng1 ng2 ng3
  have NG1 : Hid (w.heap.size < g1) := Nat.lt_trans NX.out O0.out
  have NG2 : Hid (w.heap.size < g2) := Nat.lt_trans NG1.out O2.out
  have NG3 : Hid (w.heap.size < g3) := Nat.lt_trans NG2.out O3.out
  generalize hw : (((((w5.setCell ⟨gx, 7, none⟩ (.string sq)).setCell ⟨gx, 8, none⟩ (.int .i64 tq)).setCell ⟨gx, 9, none⟩ (.slice (some ⟨g1, 0, none⟩) n1 c1)).setCell ⟨gx, 10, none⟩ (.slice (some ⟨g2, 0, none⟩) n2 c2)).setCell ⟨gx, 11, none⟩ (.slice (some ⟨g3, 0, none⟩) n3 c3)) = w6 at *
  clear hw
  obtain ⟨z0, z1, z2, z3, z4, z5, z6, z7, z8, z9, z10, z11⟩ := mx_of Z6.out
  have f0 := Z6.out.free 0
  have f1 := Z6.out.free 1
  have f2 := Z6.out.free 2
  have f3 := Z6.out.free 3
  have f4 := Z6.out.free 4
  have f5 := Z6.out.free 5
  have f6 := Z6.out.free 6
  have f7 := Z6.out.free 7
  have f8 := Z6.out.free 8
  have f9 := Z6.out.free 9
  have f10 := Z6.out.free 10
  have f11 := Z6.out.free 11
  obtain ⟨y0, y1, y2, y3, y4, y5, y6, y7, y8, y9, y10, y11⟩ := mx_of X6.out
  go_wp2
  refine bodyPost_ret (v := .tuple #[.agg #[.int .i64 (wq H sq tq).id, .bool (wq H sq tq).rp, .bool (wq H sq tq).au, .bool (wq H sq tq).ct, .bool (wq H sq tq).wa, .bool (wq H sq tq).ca, .int .i64 (wq H sq tq).code, .string (wq H sq tq).qn, .int .i64 (wq H sq tq).qt, .slice (some ⟨g1, 0, none⟩) n1 c1, .slice (some ⟨g2, 0, none⟩) n2 c2, .slice (some ⟨g3, 0, none⟩) n3 c3], .bool true]) (res2M rfl (filM_bk Z6.out (wq H sq tq) (.slice (some ⟨g1, 0, none⟩) n1 c1) (.slice (some ⟨g2, 0, none⟩) n2 c2) (.slice (some ⟨g3, 0, none⟩) n3 c3)) rfl rfl) rfl (Or.inr ⟨HB.out, ?_⟩)
  rw [GM.out]
  exact ⟨g1, c1, r1, g2, c2, r2, g3, c3, r3, rfl, filM_other B1_6.out (g := w.heap.size) (Nat.ne_of_gt NG1.out) (wq H sq tq) (.slice (some ⟨g1, 0, none⟩) n1 c1) (.slice (some ⟨g2, 0, none⟩) n2 c2) (.slice (some ⟨g3, 0, none⟩) n3 c3), filM_other B2_6.out (g := w.heap.size) (Nat.ne_of_gt NG2.out) (wq H sq tq) (.slice (some ⟨g1, 0, none⟩) n1 c1) (.slice (some ⟨g2, 0, none⟩) n2 c2) (.slice (some ⟨g3, 0, none⟩) n3 c3), filM_other B3_6.out (g := w.heap.size) (Nat.ne_of_gt NG3.out) (wq H sq tq) (.slice (some ⟨g1, 0, none⟩) n1 c1) (.slice (some ⟨g2, 0, none⟩) n2 c2) (.slice (some ⟨g3, 0, none⟩) n3 c3), O1.out, O2.out, O3.out, filM_below L6.out (Nat.le_refl _) (wq H sq tq) (.slice (some ⟨g1, 0, none⟩) n1 c1) (.slice (some ⟨g2, 0, none⟩) n2 c2) (.slice (some ⟨g3, 0, none⟩) n3 c3)⟩
end Go.Proofs.YtkfibepejlgniaaGreatDoor.GetMS

/- What the program's sectionsFrom does: it reads the three sections one behind another, and turns nothing that was there. Conditions: at most 400000000 bytes; the library's variable internal/bytealg.MaxLen holds an int. -/
namespace Go.Proofs.YtkfibepejlgniaaGreatDoor.SecI
open Go.RowKit Go.Proofs.YtkfibepejlgniaaGreatDoor.Mem Go.Proofs.YtkfibepejlgniaaGreatDoor.MemR Go.Proofs.YtkfibepejlgniaaGreatDoor.MemM Go.Proofs.YtkfibepejlgniaaGreatDoor.Labels Go.Proofs.YtkfibepejlgniaaGreatDoor.Get Go.Proofs.YtkfibepejlgniaaGreatDoor.ResR Go.Proofs.YtkfibepejlgniaaGreatDoor.ResM Go.Proofs.YtkfibepejlgniaaGreatDoor.FieldMath Go.Proofs.YtkfibepejlgniaaGreatDoor.GetsM Go.Proofs.YtkfibepejlgniaaGreatDoor.GetMS

/-- An array of three values in a box. -/
def filA (w : World) (g : Nat) (x y z : Value) : World := ((w.setCell ⟨g, 0, none⟩ x).setCell ⟨g, 1, none⟩ y).setCell ⟨g, 2, none⟩ z
section
variable {w w1 : World} {g B : Nat} {t : TypeId} {x y z x0 y0 z0 : Value}
theorem filA_bk (k : Bk w g t [x0, y0, z0]) (x y z : Value) : Bk (filA w g x y z) g t [x, y, z] := ((k.set 0 x).set 1 y).set 2 z
theorem filA_below (k : Below B w w1) (hg : B ≤ g) (x y z : Value) : Below B w (filA w1 g x y z) := ((k.setCell (p := ⟨g, 0, none⟩) hg x).setCell (p := ⟨g, 1, none⟩) hg y).setCell (p := ⟨g, 2, none⟩) hg z
theorem filA_other {j : Nat} {u : TypeId} {cs : List Value} (k : Bk w j u cs) (hk : j ≠ g) (x y z : Value) : Bk (filA w g x y z) j u cs := ((k.other (p := ⟨g, 0, none⟩) hk x).other (p := ⟨g, 1, none⟩) hk y).other (p := ⟨g, 2, none⟩) hk z
end
theorem load_a {w : World} {g : Nat} {t : TypeId} {a1 a2 a3 : Option Addr} {m1 k1 m2 k2 m3 k3 : Nat} (h : Bk w g t [.slice a1 m1 k1, .slice a2 m2 k2, .slice a3 m3 k3]) : (loadVar 73 ⟨g, 0, none⟩).run Tryz.prog w = .ok (.agg #[.slice a1 m1 k1, .slice a2 m2 k2, .slice a3 m3 k3]) w := by
  have c0 : w.cell? ⟨g, 0, none⟩ = some (.slice a1 m1 k1) := h.cell 0
  have c1 : w.cell? ⟨g, 1, none⟩ = some (.slice a2 m2 k2) := h.cell 1
  have c2 : w.cell? ⟨g, 2, none⟩ = some (.slice a3 m3 k3) := h.cell 2
  simp [go_sem, c0, c1, c2]
theorem res2A {fn : Func} {p u : Tmp} {w : World} {g : Nat} {t : TypeId} {a1 a2 a3 : Option Addr} {m1 k1 m2 k2 m3 k3 : Nat} {x : Value} {tmps : Array Value} (hf : fn.results = #[.cell p 73, .tmp u]) (h : Bk w g t [.slice a1 m1 k1, .slice a2 m2 k2, .slice a3 m3 k3]) (h4 : tmps.getD p undef = .pointer (some ⟨g, 0, none⟩)) (h5 : tmps.getD u undef = x) :
    (results fn tmps).run Tryz.prog w = .ok (.tuple #[.agg #[.slice a1 m1 k1, .slice a2 m2 k2, .slice a3 m3 k3], x]) w := by
  rw [results_cell_tmp hf, h4, h5, as_addr]
  simp only [Result.andThen, load_a h]
theorem ix (a b c : Int) (W : World) : Sem.run Tryz.prog (Instr.index 95 (.agg #[.int .i64 a, .int .i64 b, .int .i64 c]) (.int .i64 0)) W = .ok (.int .i64 a) W ∧ Sem.run Tryz.prog (Instr.index 95 (.agg #[.int .i64 a, .int .i64 b, .int .i64 c]) (.int .i64 1)) W = .ok (.int .i64 b) W ∧ Sem.run Tryz.prog (Instr.index 95 (.agg #[.int .i64 a, .int .i64 b, .int .i64 c]) (.int .i64 2)) W = .ok (.int .i64 c) W := by
  refine ⟨?_, ?_, ?_⟩ <;> simp [Instr.index, go_sem]
/-- What sectionsFrom hands back: something and false, or the three sections and true. -/
def Sec (w : World) (ok : Bool) (n1 n2 n3 : Nat) (l1 l2 l3 : List Rec) (e : Ending) (w' : World) : Prop :=
  (ok = false ∧ ∃ a1 m1 k1 a2 m2 k2 a3 m3 k3, e = .returned (.tuple #[.agg #[.slice a1 m1 k1, .slice a2 m2 k2, .slice a3 m3 k3], .bool false]) ∧ Below w.heap.size w w') ∨
  (ok = true ∧ ∃ g1 c1 r1 g2 c2 r2 g3 c3 r3, e = .returned (.tuple #[.agg #[.slice (some ⟨g1, 0, none⟩) n1 c1, .slice (some ⟨g2, 0, none⟩) n2 c2, .slice (some ⟨g3, 0, none⟩) n3 c3], .bool true]) ∧ Bk w' g1 117 (fl l1 ++ r1) ∧ Bk w' g2 117 (fl l2 ++ r2) ∧ Bk w' g3 117 (fl l3 ++ r3) ∧ w.heap.size ≤ g1 ∧ g1 < g2 ∧ g2 < g3 ∧ Below w.heap.size w w')
/-- The boxes of the result and of the sections so far. -/
def Bx2 (w wr : World) (x y z : Value) : Prop := Bk wr (w.heap.size + 1) 73 [(.slice none 0 0), (.slice none 0 0), (.slice none 0 0)] ∧ Bk wr (w.heap.size + 1 + 1) 73 [x, y, z] ∧ Below w.heap.size w wr
theorem Bx2.on {w wr w' : World} {x y z : Value} (h : Bx2 w wr x y z) (hl : Below wr.heap.size wr w') : Bx2 w w' x y z := ⟨h.1.below hl h.1.lt, h.2.1.below hl h.2.1.lt, h.2.2.trans (hl.mono h.2.2.size)⟩
def T1 (w : World) (n1 : Nat) (l1 : List Rec) (wr : World) : Prop := ∃ g1 c1 r1, Bx2 w wr (.slice (some ⟨g1, 0, none⟩) n1 c1) (.slice none 0 0) (.slice none 0 0) ∧ Bk wr g1 117 (fl l1 ++ r1) ∧ w.heap.size + 1 + 1 < g1
def T2 (w : World) (n1 n2 : Nat) (l1 l2 : List Rec) (wr : World) : Prop := ∃ g1 c1 r1 g2 c2 r2, Bx2 w wr (.slice (some ⟨g1, 0, none⟩) n1 c1) (.slice (some ⟨g2, 0, none⟩) n2 c2) (.slice none 0 0) ∧ Bk wr g1 117 (fl l1 ++ r1) ∧ Bk wr g2 117 (fl l2 ++ r2) ∧ w.heap.size + 1 + 1 < g1 ∧ g1 < g2
def T3 (w : World) (n1 n2 n3 : Nat) (l1 l2 l3 : List Rec) (wr : World) : Prop := ∃ g1 c1 r1 g2 c2 r2 g3 c3 r3, Bx2 w wr (.slice (some ⟨g1, 0, none⟩) n1 c1) (.slice (some ⟨g2, 0, none⟩) n2 c2) (.slice (some ⟨g3, 0, none⟩) n3 c3) ∧ Bk wr g1 117 (fl l1 ++ r1) ∧ Bk wr g2 117 (fl l2 ++ r2) ∧ Bk wr g3 117 (fl l3 ++ r3) ∧ w.heap.size + 1 + 1 < g1 ∧ g1 < g2 ∧ g2 < g3
theorem Bx2.set {w wr : World} {x y z : Value} (h : Bx2 w wr x y z) (v : Value) : Bx2 w (wr.setCell ⟨w.heap.size + 1 + 1, 0, none⟩ v) v y z ∧ Bx2 w (wr.setCell ⟨w.heap.size + 1 + 1, 1, none⟩ v) x v z ∧ Bx2 w (wr.setCell ⟨w.heap.size + 1 + 1, 2, none⟩ v) x y v := by
  have hne : w.heap.size + 1 ≠ w.heap.size + 1 + 1 := by omega
  have hle : w.heap.size ≤ w.heap.size + 1 + 1 := by omega
  exact ⟨⟨h.1.other hne v, h.2.1.set 0 v, h.2.2.setCell hle v⟩, ⟨h.1.other hne v, h.2.1.set 1 v, h.2.2.setCell hle v⟩, ⟨h.1.other hne v, h.2.1.set 2 v, h.2.2.setCell hle v⟩⟩

set_option maxRecDepth 100000 in
set_option maxHeartbeats 8000000 in
theorem impl (A : Option Addr) (n c : Nat) (l : List UInt8) (pq q1 q2 q3 : Int) (w : World) (he : Env w) (hs : Sl w w.heap.size A n l) (hnc : n ≤ c) (hn : n ≤ 400000000) (ok : Bool) (d1 d2 d3 : Nat) (p1 p2 p3 : Int) (l1 l2 l3 : List Rec) (n1 n2 n3 : Nat)
    (e1 : grA l pq q1 = (d1, p1, l1)) (e2 : grA l p1 q2 = (d2, p2, l2)) (e3 : grA l p2 q3 = (d3, p3, l3)) (h1 : l1.length = n1) (h2 : l2.length = n2) (h3 : l3.length = n3) (hok : ok = decide (d1 = 0 ∧ d2 = 0 ∧ d3 = 0 ∧ p3 = (n : Int))) :
    Calls Tryz.prog 91 #[.slice A n c, .int .i64 pq, .agg #[.int .i64 q1, .int .i64 q2, .int .i64 q3]] w (Sec w ok n1 n2 n3 l1 l2 l3) := by
  have RD := Lib.hid (fun (k q : Int) (W : World) (hW : Below w.heap.size w W) => (GetsI.recs A n c l k q W (he.below hW) ((hs.below hW).wider hW.size) hnc hn).mono fun _ _ => gr_of)
  have R1 := Lib.hid (RD.out pq q1)
  have R2 := Lib.hid (RD.out p1 q2)
  have R3 := Lib.hid (RD.out p2 q3)
  unfold Gr at R1 R2 R3
  rw [e1] at R1
  rw [e2] at R2
  rw [e3] at R3
  dsimp only at R1 R2 R3
  rw [h1] at R1
  rw [h2] at R2
  rw [h3] at R3
  have HO := Lib.hid hok
  have B0 : Hid (Bx2 w (((w.alloc (.cells #[.int .i64 q1, .int .i64 q2, .int .i64 q3] 95)).alloc (.cells #[.slice none 0 0, .slice none 0 0, .slice none 0 0] 73)).alloc (.cells #[.slice none 0 0, .slice none 0 0, .slice none 0 0] 73)) (.slice none 0 0) (.slice none 0 0) (.slice none 0 0)) :=
    ⟨(show Bk ((w.alloc (.cells #[.int .i64 q1, .int .i64 q2, .int .i64 q3] 95)).alloc (.cells #[.slice none 0 0, .slice none 0 0, .slice none 0 0] 73)) (w.heap.size + 1) 73 _ from at2).alloc _, at3, (((Below.refl w.heap.size w).alloc (Nat.le_refl _) _).alloc (by simp) _).alloc (by simp; omega) _⟩
  clear RD he hs e1 e2 e3 h1 h2 h3 hok hnc
  have IX := Lib.hid (ix q1 q2 q3)
  go_enter Tryz.func91, Tryz.ntmps91
  go_wp2
  go_loopw [16, 1] (fun i a wr => (i = .int .i64 0 ∧ a = .int .i64 pq ∧ Hid (Bx2 w wr (.slice none 0 0) (.slice none 0 0) (.slice none 0 0))) ∨ (i = .int .i64 1 ∧ a = .int .i64 p1 ∧ Hid (d1 = 0) ∧ Hid (T1 w n1 l1 wr)) ∨ (i = .int .i64 2 ∧ a = .int .i64 p2 ∧ Hid (d1 = 0 ∧ d2 = 0) ∧ Hid (T2 w n1 n2 l1 l2 wr)) ∨ (i = .int .i64 3 ∧ a = .int .i64 p3 ∧ Hid (d1 = 0 ∧ d2 = 0 ∧ d3 = 0) ∧ Hid (T3 w n1 n2 n3 l1 l2 l3 wr))) (fun i _ _ => 3 - (intOf i).toNat)
  case atStart => exact Or.inl ⟨rfl, rfl, B0.out⟩
  case round =>
    clear B0
    obtain ⟨ix0, ix1, ix2⟩ : (∀ W, Sem.run Tryz.prog (Instr.index 95 (.agg #[.int .i64 q1, .int .i64 q2, .int .i64 q3]) (.int .i64 0)) W = .ok (.int .i64 q1) W) ∧ (∀ W, Sem.run Tryz.prog (Instr.index 95 (.agg #[.int .i64 q1, .int .i64 q2, .int .i64 q3]) (.int .i64 1)) W = .ok (.int .i64 q2) W) ∧ (∀ W, Sem.run Tryz.prog (Instr.index 95 (.agg #[.int .i64 q1, .int .i64 q2, .int .i64 q3]) (.int .i64 2)) W = .ok (.int .i64 q3) W) := ⟨fun W => (IX.out W).1, fun W => (IX.out W).2.1, fun W => (IX.out W).2.2⟩
    rcases hrel with ⟨rfl, rfl, HB⟩ | ⟨rfl, rfl, HD, HT⟩ | ⟨rfl, rfl, HD, HT⟩ | ⟨rfl, rfl, HD, HT⟩
    · go_wp2_with fail
      refine (R1.out wr HB.out.2.2).mono ?_
      rintro e w4 ⟨g1, c1, r1, rfl, hk, hg, hl⟩
      have H4 := Lib.hid (HB.out.on hl)
      have K1' := Lib.hid hk
      have O1 : Hid (w.heap.size + 1 + 1 < g1) := Nat.lt_of_lt_of_le HB.out.2.1.lt hg
      clear hk hg hl HB 
      by_cases hd : d1 = 0
      · have hd1 : ((d1 : Int) != 0) = false := by rw [hd]; rfl
        have hd2 : (d1 : Int) = 0 := by rw [hd]; rfl
        have HD1 := Lib.hid hd
        clear hd
        have fs := H4.out.2.1.free 0
        have cs : w4.cell? ⟨w.heap.size + 1 + 1, 0, none⟩ = some (.slice none 0 0) := H4.out.2.1.cell 0
        go_wp2
        go_roundw
        case rel => exact Or.inr (Or.inl (⟨by first | rfl | go_num, rfl, HD1.out, ⟨g1, c1, r1, (H4.out.set (.slice (some ⟨g1, 0, none⟩) n1 c1)).1, K1'.out.other (p := ⟨w.heap.size + 1 + 1, 0, none⟩) (Nat.ne_of_gt O1.out) _, O1.out⟩⟩))
        case measure => simp [intOf]
      · have hd1 : ((d1 : Int) != 0) = true := by simp; omega
        have hd2 : ¬ (d1 : Int) = 0 := by omega
        have HN : Hid (ok = false) := HO.out.trans (decide_eq_false (fun e => hd e.1))
        clear hd
        obtain ⟨bz, bs, bl⟩ := H4.out
        have z0 : w4.cell? ⟨w.heap.size + 1, 0, none⟩ = some (.slice none 0 0) := bz.cell 0
        have z1 : w4.cell? ⟨w.heap.size + 1, 1, none⟩ = some (.slice none 0 0) := bz.cell 1
        have z2 : w4.cell? ⟨w.heap.size + 1, 2, none⟩ = some (.slice none 0 0) := bz.cell 2
        have f0 := bz.free 0
        have f1 := bz.free 1
        have f2 := bz.free 2
        have BZ := Lib.hid bz
        have BL := Lib.hid bl
        have s0 : w4.cell? ⟨w.heap.size + 1 + 1, 0, none⟩ = some (.slice none 0 0) := bs.cell 0
        have s1 : w4.cell? ⟨w.heap.size + 1 + 1, 1, none⟩ = some (.slice none 0 0) := bs.cell 1
        have s2 : w4.cell? ⟨w.heap.size + 1 + 1, 2, none⟩ = some (.slice none 0 0) := bs.cell 2
        clear bz bs bl
        go_wp2
        exact bodyPost_ret (v := .tuple #[.agg #[.slice none 0 0, .slice none 0 0, .slice none 0 0], .bool false]) (res2A rfl (filA_bk BZ.out (.slice none 0 0) (.slice none 0 0) (.slice none 0 0)) rfl rfl) rfl (Or.inl ⟨HN.out, _, _, _, _, _, _, _, _, _, rfl, filA_below BL.out (Nat.le_succ _) (.slice none 0 0) (.slice none 0 0) (.slice none 0 0)⟩)
    · obtain ⟨g1, c1, r1, hb0, hk1, ho1⟩ := HT.out
      have HB := Lib.hid hb0
      have K1 := Lib.hid hk1
      have O1 := Lib.hid ho1
      clear hb0 HT hk1 ho1
      go_wp2_with fail
      refine (R2.out wr HB.out.2.2).mono ?_
      rintro e w4 ⟨g2, c2, r2, rfl, hk, hg, hl⟩
      have H4 := Lib.hid (HB.out.on hl)
      have K2' := Lib.hid hk
      have K1' := Lib.hid (K1.out.below hl K1.out.lt)
      have O2 : Hid (g1 < g2) := Nat.lt_of_lt_of_le K1.out.lt hg
      clear hk hg hl HB K1
      by_cases hd : d2 = 0
      · have hd1 : ((d2 : Int) != 0) = false := by rw [hd]; rfl
        have hd2 : (d2 : Int) = 0 := by rw [hd]; rfl
        have HD2 := Lib.hid hd
        clear hd
        have fs := H4.out.2.1.free 1
        have cs : w4.cell? ⟨w.heap.size + 1 + 1, 1, none⟩ = some (.slice none 0 0) := H4.out.2.1.cell 1
        go_wp2
        go_roundw
        case rel => exact Or.inr (Or.inr (Or.inl (⟨by first | rfl | go_num, rfl, ⟨HD.out, HD2.out⟩, ⟨g1, c1, r1, g2, c2, r2, (H4.out.set (.slice (some ⟨g2, 0, none⟩) n2 c2)).2.1, K1'.out.other (p := ⟨w.heap.size + 1 + 1, 1, none⟩) (Nat.ne_of_gt O1.out) _, K2'.out.other (p := ⟨w.heap.size + 1 + 1, 1, none⟩) (Nat.ne_of_gt (Nat.lt_trans O1.out O2.out)) _, O1.out, O2.out⟩⟩)))
        case measure => simp [intOf]
      · have hd1 : ((d2 : Int) != 0) = true := by simp; omega
        have hd2 : ¬ (d2 : Int) = 0 := by omega
        have HN : Hid (ok = false) := HO.out.trans (decide_eq_false (fun e => hd e.2.1))
        clear hd
        obtain ⟨bz, bs, bl⟩ := H4.out
        have z0 : w4.cell? ⟨w.heap.size + 1, 0, none⟩ = some (.slice none 0 0) := bz.cell 0
        have z1 : w4.cell? ⟨w.heap.size + 1, 1, none⟩ = some (.slice none 0 0) := bz.cell 1
        have z2 : w4.cell? ⟨w.heap.size + 1, 2, none⟩ = some (.slice none 0 0) := bz.cell 2
        have f0 := bz.free 0
        have f1 := bz.free 1
        have f2 := bz.free 2
        have BZ := Lib.hid bz
        have BL := Lib.hid bl
        have s0 : w4.cell? ⟨w.heap.size + 1 + 1, 0, none⟩ = some (.slice (some ⟨g1, 0, none⟩) n1 c1) := bs.cell 0
        have s1 : w4.cell? ⟨w.heap.size + 1 + 1, 1, none⟩ = some (.slice none 0 0) := bs.cell 1
        have s2 : w4.cell? ⟨w.heap.size + 1 + 1, 2, none⟩ = some (.slice none 0 0) := bs.cell 2
        clear bz bs bl
        go_wp2
        exact bodyPost_ret (v := .tuple #[.agg #[.slice (some ⟨g1, 0, none⟩) n1 c1, .slice none 0 0, .slice none 0 0], .bool false]) (res2A rfl (filA_bk BZ.out (.slice (some ⟨g1, 0, none⟩) n1 c1) (.slice none 0 0) (.slice none 0 0)) rfl rfl) rfl (Or.inl ⟨HN.out, _, _, _, _, _, _, _, _, _, rfl, filA_below BL.out (Nat.le_succ _) (.slice (some ⟨g1, 0, none⟩) n1 c1) (.slice none 0 0) (.slice none 0 0)⟩)
    · obtain ⟨g1, c1, r1, g2, c2, r2, hb0, hk1, hk2, ho1, ho2⟩ := HT.out
      have HB := Lib.hid hb0
      have K1 := Lib.hid hk1
      have O1 := Lib.hid ho1
      have K2 := Lib.hid hk2
      have O2 := Lib.hid ho2
      clear hb0 HT hk1 ho1 hk2 ho2
      go_wp2_with fail
      refine (R3.out wr HB.out.2.2).mono ?_
      rintro e w4 ⟨g3, c3, r3, rfl, hk, hg, hl⟩
      have H4 := Lib.hid (HB.out.on hl)
      have K3' := Lib.hid hk
      have K1' := Lib.hid (K1.out.below hl K1.out.lt)
      have K2' := Lib.hid (K2.out.below hl K2.out.lt)
      have O3 : Hid (g2 < g3) := Nat.lt_of_lt_of_le K2.out.lt hg
      clear hk hg hl HB K1 K2
      by_cases hd : d3 = 0
      · have hd1 : ((d3 : Int) != 0) = false := by rw [hd]; rfl
        have hd2 : (d3 : Int) = 0 := by rw [hd]; rfl
        have HD3 := Lib.hid hd
        clear hd
        have fs := H4.out.2.1.free 2
        have cs : w4.cell? ⟨w.heap.size + 1 + 1, 2, none⟩ = some (.slice none 0 0) := H4.out.2.1.cell 2
        go_wp2
        go_roundw
        case rel => exact Or.inr (Or.inr (Or.inr (⟨by first | rfl | go_num, rfl, ⟨HD.out.1, HD.out.2, HD3.out⟩, ⟨g1, c1, r1, g2, c2, r2, g3, c3, r3, (H4.out.set (.slice (some ⟨g3, 0, none⟩) n3 c3)).2.2, K1'.out.other (p := ⟨w.heap.size + 1 + 1, 2, none⟩) (Nat.ne_of_gt O1.out) _, K2'.out.other (p := ⟨w.heap.size + 1 + 1, 2, none⟩) (Nat.ne_of_gt (Nat.lt_trans O1.out O2.out)) _, K3'.out.other (p := ⟨w.heap.size + 1 + 1, 2, none⟩) (Nat.ne_of_gt (Nat.lt_trans (Nat.lt_trans O1.out O2.out) O3.out)) _, O1.out, O2.out, O3.out⟩⟩)))
        case measure => simp [intOf]
      · have hd1 : ((d3 : Int) != 0) = true := by simp; omega
        have hd2 : ¬ (d3 : Int) = 0 := by omega
        have HN : Hid (ok = false) := HO.out.trans (decide_eq_false (fun e => hd e.2.2.1))
        clear hd
        obtain ⟨bz, bs, bl⟩ := H4.out
        have z0 : w4.cell? ⟨w.heap.size + 1, 0, none⟩ = some (.slice none 0 0) := bz.cell 0
        have z1 : w4.cell? ⟨w.heap.size + 1, 1, none⟩ = some (.slice none 0 0) := bz.cell 1
        have z2 : w4.cell? ⟨w.heap.size + 1, 2, none⟩ = some (.slice none 0 0) := bz.cell 2
        have f0 := bz.free 0
        have f1 := bz.free 1
        have f2 := bz.free 2
        have BZ := Lib.hid bz
        have BL := Lib.hid bl
        have s0 : w4.cell? ⟨w.heap.size + 1 + 1, 0, none⟩ = some (.slice (some ⟨g1, 0, none⟩) n1 c1) := bs.cell 0
        have s1 : w4.cell? ⟨w.heap.size + 1 + 1, 1, none⟩ = some (.slice (some ⟨g2, 0, none⟩) n2 c2) := bs.cell 1
        have s2 : w4.cell? ⟨w.heap.size + 1 + 1, 2, none⟩ = some (.slice none 0 0) := bs.cell 2
        clear bz bs bl
        go_wp2
        exact bodyPost_ret (v := .tuple #[.agg #[.slice (some ⟨g1, 0, none⟩) n1 c1, .slice (some ⟨g2, 0, none⟩) n2 c2, .slice none 0 0], .bool false]) (res2A rfl (filA_bk BZ.out (.slice (some ⟨g1, 0, none⟩) n1 c1) (.slice (some ⟨g2, 0, none⟩) n2 c2) (.slice none 0 0)) rfl rfl) rfl (Or.inl ⟨HN.out, _, _, _, _, _, _, _, _, _, rfl, filA_below BL.out (Nat.le_succ _) (.slice (some ⟨g1, 0, none⟩) n1 c1) (.slice (some ⟨g2, 0, none⟩) n2 c2) (.slice none 0 0)⟩)
    · obtain ⟨g1, c1, r1, g2, c2, r2, g3, c3, r3, hb0, hk1, hk2, hk3, ho1, ho2, ho3⟩ := HT.out
      have H4 := Lib.hid hb0
      have K1 := Lib.hid hk1
      have K2 := Lib.hid hk2
      have K3 := Lib.hid hk3
      clear HT hb0 hk1 hk2 hk3
      generalize wr = w4 at *
      have N1 : Hid (g1 ≠ w.heap.size + 1) := Nat.ne_of_gt (Nat.lt_trans (Nat.lt_succ_self _) ho1)
      have N2 : Hid (g2 ≠ w.heap.size + 1) := Nat.ne_of_gt (Nat.lt_trans (Nat.lt_trans (Nat.lt_succ_self _) ho1) ho2)
      have N3 : Hid (g3 ≠ w.heap.size + 1) := Nat.ne_of_gt (Nat.lt_trans (Nat.lt_trans (Nat.lt_trans (Nat.lt_succ_self _) ho1) ho2) ho3)
      have O1 : Hid (w.heap.size ≤ g1) := by show _ ≤ _; omega
      have O2 := Lib.hid ho2
      have O3 := Lib.hid ho3
      clear ho1 ho2 ho3
      obtain ⟨bz, bs, bl⟩ := H4.out
      have z0 : w4.cell? ⟨w.heap.size + 1, 0, none⟩ = some (.slice none 0 0) := bz.cell 0
      have z1 : w4.cell? ⟨w.heap.size + 1, 1, none⟩ = some (.slice none 0 0) := bz.cell 1
      have z2 : w4.cell? ⟨w.heap.size + 1, 2, none⟩ = some (.slice none 0 0) := bz.cell 2
      have f0 := bz.free 0
      have f1 := bz.free 1
      have f2 := bz.free 2
      have BZ := Lib.hid bz
      have BL := Lib.hid bl
      have s0 : w4.cell? ⟨w.heap.size + 1 + 1, 0, none⟩ = some (.slice (some ⟨g1, 0, none⟩) n1 c1) := bs.cell 0
      have s1 : w4.cell? ⟨w.heap.size + 1 + 1, 1, none⟩ = some (.slice (some ⟨g2, 0, none⟩) n2 c2) := bs.cell 1
      have s2 : w4.cell? ⟨w.heap.size + 1 + 1, 2, none⟩ = some (.slice (some ⟨g3, 0, none⟩) n3 c3) := bs.cell 2
      clear bz bs bl
      by_cases hp : p3 = (n : Int)
      · have hp1 : (p3 == (n : Int)) = true := by simp [hp]
        have HN : Hid (ok = true) := HO.out.trans (decide_eq_true ⟨HD.out.1, HD.out.2.1, HD.out.2.2, hp⟩)
        clear hp
        go_wp2
        exact bodyPost_ret (v := .tuple #[.agg #[.slice (some ⟨g1, 0, none⟩) n1 c1, .slice (some ⟨g2, 0, none⟩) n2 c2, .slice (some ⟨g3, 0, none⟩) n3 c3], .bool true]) (res2A rfl (filA_bk BZ.out (.slice (some ⟨g1, 0, none⟩) n1 c1) (.slice (some ⟨g2, 0, none⟩) n2 c2) (.slice (some ⟨g3, 0, none⟩) n3 c3)) rfl rfl) rfl (Or.inr ⟨HN.out, g1, c1, r1, g2, c2, r2, g3, c3, r3, rfl, filA_other K1.out N1.out (.slice (some ⟨g1, 0, none⟩) n1 c1) (.slice (some ⟨g2, 0, none⟩) n2 c2) (.slice (some ⟨g3, 0, none⟩) n3 c3), filA_other K2.out N2.out (.slice (some ⟨g1, 0, none⟩) n1 c1) (.slice (some ⟨g2, 0, none⟩) n2 c2) (.slice (some ⟨g3, 0, none⟩) n3 c3), filA_other K3.out N3.out (.slice (some ⟨g1, 0, none⟩) n1 c1) (.slice (some ⟨g2, 0, none⟩) n2 c2) (.slice (some ⟨g3, 0, none⟩) n3 c3), O1.out, O2.out, O3.out, filA_below BL.out (Nat.le_succ _) (.slice (some ⟨g1, 0, none⟩) n1 c1) (.slice (some ⟨g2, 0, none⟩) n2 c2) (.slice (some ⟨g3, 0, none⟩) n3 c3)⟩)
      · have hp1 : (p3 == (n : Int)) = false := by simp [hp]
        have HN : Hid (ok = false) := HO.out.trans (decide_eq_false (fun e => hp e.2.2.2))
        clear hp
        go_wp2
        exact bodyPost_ret (v := .tuple #[.agg #[.slice (some ⟨g1, 0, none⟩) n1 c1, .slice (some ⟨g2, 0, none⟩) n2 c2, .slice (some ⟨g3, 0, none⟩) n3 c3], .bool false]) (res2A rfl (filA_bk BZ.out (.slice (some ⟨g1, 0, none⟩) n1 c1) (.slice (some ⟨g2, 0, none⟩) n2 c2) (.slice (some ⟨g3, 0, none⟩) n3 c3)) rfl rfl) rfl (Or.inl ⟨HN.out, _, _, _, _, _, _, _, _, _, rfl, filA_below BL.out (Nat.le_succ _) (.slice (some ⟨g1, 0, none⟩) n1 c1) (.slice (some ⟨g2, 0, none⟩) n2 c2) (.slice (some ⟨g3, 0, none⟩) n3 c3)⟩)
end Go.Proofs.YtkfibepejlgniaaGreatDoor.SecI

/- What GetMsg does in the program: it reads a message as MsgMath tells, and turns nothing that was there. Conditions: at most 400000000 bytes; the library's variable internal/bytealg.MaxLen holds an int. -/
namespace Go.Proofs.YtkfibepejlgniaaGreatDoor.GetMI
open Go.RowKit Go.Proofs.YtkfibepejlgniaaGreatDoor.Mem Go.Proofs.YtkfibepejlgniaaGreatDoor.MemR Go.Proofs.YtkfibepejlgniaaGreatDoor.MemM Go.Proofs.YtkfibepejlgniaaGreatDoor.Labels Go.Proofs.YtkfibepejlgniaaGreatDoor.Get Go.Proofs.YtkfibepejlgniaaGreatDoor.ResR Go.Proofs.YtkfibepejlgniaaGreatDoor.ResM Go.Proofs.YtkfibepejlgniaaGreatDoor.ResQ Go.Proofs.YtkfibepejlgniaaGreatDoor.FieldMath Go.Proofs.YtkfibepejlgniaaGreatDoor.GetsM Go.Proofs.YtkfibepejlgniaaGreatDoor.HeadRd Go.Proofs.YtkfibepejlgniaaGreatDoor.GetH Go.Proofs.YtkfibepejlgniaaGreatDoor.GetHI Go.Proofs.YtkfibepejlgniaaGreatDoor.MsgMath Go.Proofs.YtkfibepejlgniaaGreatDoor.GetQ Go.Proofs.YtkfibepejlgniaaGreatDoor.GetMS Go.Proofs.YtkfibepejlgniaaGreatDoor.SecI

theorem gmb_long {l : List UInt8} (h : ¬ l.length ≤ 512) : gmb l = false := decide_eq_false fun e => h e.1
theorem gmb_head {l : List UInt8} (h : ghb l = false) : gmb l = false := decide_eq_false fun e => by have := e.2.1; rw [h] at this; cases this
theorem gmb_quest {l : List UInt8} (h : (gq l 12).1 ≠ 0) : gmb l = false := decide_eq_false fun e => h e.2.2.1
theorem gmb_sec {l : List UInt8} (h5 : l.length ≤ 512) (hb : ghb l = true) (hq : (gq l 12).1 = 0) : gmb l = decide ((s1 l).1 = 0 ∧ (s2 l).1 = 0 ∧ (s3 l).1 = 0 ∧ (s3 l).2.1 = (l.length : Int)) := by
  by_cases h : (s1 l).1 = 0 ∧ (s2 l).1 = 0 ∧ (s3 l).1 = 0 ∧ (s3 l).2.1 = (l.length : Int)
  · rw [decide_eq_true h]; exact decide_eq_true ⟨h5, hb, hq, h⟩
  · rw [decide_eq_false h]; exact decide_eq_false fun e => h e.2.2.2
theorem five_set {w : World} {gq ga gx : Nat} {v0 v1 u0 u1 u2 : Value} (h : w.cell? ⟨gq, 0, none⟩ = some v0 ∧ w.cell? ⟨gq, 1, none⟩ = some v1 ∧ w.cell? ⟨ga, 0, none⟩ = some u0 ∧ w.cell? ⟨ga, 1, none⟩ = some u1 ∧ w.cell? ⟨ga, 2, none⟩ = some u2) (hq : gq ≠ gx) (ha : ga ≠ gx) (j : Nat) (v : Value) :
    (w.setCell ⟨gx, j, none⟩ v).cell? ⟨gq, 0, none⟩ = some v0 ∧ (w.setCell ⟨gx, j, none⟩ v).cell? ⟨gq, 1, none⟩ = some v1 ∧ (w.setCell ⟨gx, j, none⟩ v).cell? ⟨ga, 0, none⟩ = some u0 ∧ (w.setCell ⟨gx, j, none⟩ v).cell? ⟨ga, 1, none⟩ = some u1 ∧ (w.setCell ⟨gx, j, none⟩ v).cell? ⟨ga, 2, none⟩ = some u2 := by
  have e : ∀ (b k : Nat), b ≠ gx → (w.setCell ⟨gx, j, none⟩ v).cell? ⟨b, k, none⟩ = w.cell? ⟨b, k, none⟩ := fun b k hb => World.cell?_of_block (Below.heap_setCell w ⟨gx, j, none⟩ v b hb)
  exact ⟨(e gq 0 hq).trans h.1, (e gq 1 hq).trans h.2.1, (e ga 0 ha).trans h.2.2.1, (e ga 1 ha).trans h.2.2.2.1, (e ga 2 ha).trans h.2.2.2.2⟩
theorem five_draw {w : World} {gq ga : Nat} {v0 v1 u0 u1 u2 : Value} (h : w.cell? ⟨gq, 0, none⟩ = some v0 ∧ w.cell? ⟨gq, 1, none⟩ = some v1 ∧ w.cell? ⟨ga, 0, none⟩ = some u0 ∧ w.cell? ⟨ga, 1, none⟩ = some u1 ∧ w.cell? ⟨ga, 2, none⟩ = some u2) : w.drew.cell? ⟨gq, 0, none⟩ = some v0 ∧ w.drew.cell? ⟨gq, 1, none⟩ = some v1 ∧ w.drew.cell? ⟨ga, 0, none⟩ = some u0 ∧ w.drew.cell? ⟨ga, 1, none⟩ = some u1 ∧ w.drew.cell? ⟨ga, 2, none⟩ = some u2 := h

set_option maxRecDepth 100000 in
set_option maxHeartbeats 16000000 in
theorem impl (A : Option Addr) (n c : Nat) (l : List UInt8) (w : World) (he : Env w) (hs : Sl w w.heap.size A n l) (hnc : n ≤ c) (hn : n ≤ 400000000) :
    Calls Tryz.prog 34 #[.slice A n c] w (Res l w) := by
  have hl := hs.1
  have L0 := Lib.hid ((Below.refl w.heap.size w).alloc (Nat.le_refl _) (.cells #[.int .i64 0, .bool false, .bool false, .bool false, .bool false, .bool false, .int .i64 0, .string ⟨#[]⟩, .int .i64 0, .slice none 0 0, .slice none 0 0, .slice none 0 0] 28))
  have Z0 : Hid (Bk (w.alloc (.cells #[.int .i64 0, .bool false, .bool false, .bool false, .bool false, .bool false, .int .i64 0, .string ⟨#[]⟩, .int .i64 0, .slice none 0 0, .slice none 0 0, .slice none 0 0] 28)) w.heap.size 28 (mc zh (.slice none 0 0) (.slice none 0 0) (.slice none 0 0))) := heap_alloc_new w _
  have HD := Lib.hid (fun (W : World) (hW : Below w.heap.size w W) => GetHI.impl A n c l W ((hs.below hW).wider hW.size) hnc hn)
  have QD := Lib.hid (fun (W : World) (hW : Below w.heap.size w W) => GetQ.impl A n c l 12 W (he.below hW) ((hs.below hW).wider hW.size) hnc hn)
  have SD := Lib.hid (fun (W : World) (hW : Below w.heap.size w W) (ok : Bool) (hok : ok = decide ((s1 l).1 = 0 ∧ (s2 l).1 = 0 ∧ (s3 l).1 = 0 ∧ (s3 l).2.1 = (n : Int))) => SecI.impl A n c l (gq l 12).2.1 (ghn l 6) (ghn l 8) (ghn l 10) W (he.below hW) ((hs.below hW).wider hW.size) hnc hn ok (s1 l).1 (s2 l).1 (s3 l).1 (s1 l).2.1 (s2 l).2.1 (s3 l).2.1 (s1 l).2.2 (s2 l).2.2 (s3 l).2.2 _ _ _ rfl rfl rfl rfl rfl rfl hok)
  have GM : Hid (gmh l = wq (ghh l) (gq l 12).2.2.1 (gq l 12).2.2.2) := rfl
  have C1 := Lib.hid (fun (h : ¬ n ≤ 512) => gmb_long (l := l) (by rw [hl]; exact h))
  have C2 := Lib.hid (fun (h : ghb l = false) => gmb_head h)
  have C3 := Lib.hid (fun (h : (gq l 12).1 ≠ 0) => gmb_quest h)
  have C4 := Lib.hid (fun (h5 : n ≤ 512) (hb : ghb l = true) (hq : (gq l 12).1 = 0) => gmb_sec (l := l) (by rw [hl]; exact h5) hb hq)
  rw [hl] at C4
  have SD2 := Lib.hid (fun (h5 : n ≤ 512) (hb : ghb l = true) (hq : (gq l 12).1 = 0) (W : World) (hW : Below w.heap.size w W) => SD.out W hW (gmb l) (C4.out h5 hb hq))
  unfold Res
  unfold valH at HD
  unfold valQ at QD
  clear SD C4
  generalize gmb l = ok at *
  generalize gmh l = M at *
  generalize (s1 l).2.2 = l1 at *
  generalize (s2 l).2.2 = l2 at *
  generalize (s3 l).2.2 = l3 at *
  generalize gq l 12 = Q at *
  generalize ghh l = H at *
  generalize ghn l 6 = q1 at *
  generalize ghn l 8 = q2 at *
  generalize ghn l 10 = q3 at *
  generalize ghb l = hb at *
  obtain ⟨dq, pq, sq, tq⟩ := Q
  dsimp only at HD QD SD2 C3 GM ⊢
  generalize l1.length = n1 at *
  generalize l2.length = n2 at *
  generalize l3.length = n3 at *
  clear hs hl hnc he
  by_cases h512 : n ≤ 512
  case neg =>
    have HB := Lib.hid (C1.out h512)
    have h5 : (512 : Int) < (n : Int) := by omega
    clear C1 C2 C3 SD2 h512
    go_enter Tryz.func34, Tryz.ntmps34
    go_upto_region 1 with (fail)
    generalize hw : (w.alloc (.cells #[.int .i64 0, .bool false, .bool false, .bool false, .bool false, .bool false, .int .i64 0, .string ⟨#[]⟩, .int .i64 0, .slice none 0 0, .slice none 0 0, .slice none 0 0] 28)) = w1 at *
    clear hw
    obtain ⟨z0, z1, z2, z3, z4, z5, z6, z7, z8, z9, z10, z11⟩ := mx_of Z0.out
    have f0 := Z0.out.free 0
    have f1 := Z0.out.free 1
    have f2 := Z0.out.free 2
    have f3 := Z0.out.free 3
    have f4 := Z0.out.free 4
    have f5 := Z0.out.free 5
    have f6 := Z0.out.free 6
    have f7 := Z0.out.free 7
    have f8 := Z0.out.free 8
    have f9 := Z0.out.free 9
    have f10 := Z0.out.free 10
    have f11 := Z0.out.free 11
    go_wp2
    exact bodyPost_ret (v := .tuple #[.agg #[.int .i64 zh.id, .bool zh.rp, .bool zh.au, .bool zh.ct, .bool zh.wa, .bool zh.ca, .int .i64 zh.code, .string zh.qn, .int .i64 zh.qt, .slice none 0 0, .slice none 0 0, .slice none 0 0], .bool false]) (res2M rfl (filM_bk Z0.out zh (.slice none 0 0) (.slice none 0 0) (.slice none 0 0)) rfl rfl) rfl (Or.inl ⟨HB.out, rfl, filM_below L0.out (Nat.le_refl _) zh (.slice none 0 0) (.slice none 0 0) (.slice none 0 0)⟩)
  have h5 : ¬ (512 : Int) < (n : Int) := by omega
  go_enter Tryz.func34, Tryz.ntmps34
  go_wp2_with fail
  refine (HD.out _ L0.out).mono ?_
  rintro e w1 ⟨rfl, hl⟩
  have L1' := L0.out.trans (hl.mono L0.out.size)
  have L1 := Lib.hid (L1'.alloc L1'.size (.cells #[.int .i64 H.id, .bool H.rp, .bool H.au, .bool H.ct, .bool H.wa, .bool H.ca, .int .i64 H.code, .string H.qn, .int .i64 H.qt, .slice none 0 0, .slice none 0 0, .slice none 0 0] 28))
  have Z1 := Lib.hid ((Z0.out.below hl Z0.out.lt).alloc (.cells #[.int .i64 H.id, .bool H.rp, .bool H.au, .bool H.ct, .bool H.wa, .bool H.ca, .int .i64 H.code, .string H.qn, .int .i64 H.qt, .slice none 0 0, .slice none 0 0, .slice none 0 0] 28))
  have X1 : Hid (Bk (w1.alloc (.cells #[.int .i64 H.id, .bool H.rp, .bool H.au, .bool H.ct, .bool H.wa, .bool H.ca, .int .i64 H.code, .string H.qn, .int .i64 H.qt, .slice none 0 0, .slice none 0 0, .slice none 0 0] 28)) w1.heap.size 28 (mc H (.slice none 0 0) (.slice none 0 0) (.slice none 0 0))) := heap_alloc_new w1 _
  have NX : Hid (w.heap.size < w1.heap.size) := Nat.lt_of_lt_of_le Z0.out.lt hl.size
  clear hl L1' L0 Z0 HD
  go_upto_region 4 with (fail)
  generalize hw : w1.alloc (.cells #[.int .i64 H.id, .bool H.rp, .bool H.au, .bool H.ct, .bool H.wa, .bool H.ca, .int .i64 H.code, .string H.qn, .int .i64 H.qt, .slice none 0 0, .slice none 0 0, .slice none 0 0] 28) = w1' at *
  clear hw
  generalize w1.heap.size = gx at *
  cases hb
  · have HB := Lib.hid (C2.out rfl)
    clear C1 C2 C3 SD2
    obtain ⟨z0, z1, z2, z3, z4, z5, z6, z7, z8, z9, z10, z11⟩ := mx_of Z1.out
    have f0 := Z1.out.free 0
    have f1 := Z1.out.free 1
    have f2 := Z1.out.free 2
    have f3 := Z1.out.free 3
    have f4 := Z1.out.free 4
    have f5 := Z1.out.free 5
    have f6 := Z1.out.free 6
    have f7 := Z1.out.free 7
    have f8 := Z1.out.free 8
    have f9 := Z1.out.free 9
    have f10 := Z1.out.free 10
    have f11 := Z1.out.free 11
    go_wp2
    exact bodyPost_ret (v := .tuple #[.agg #[.int .i64 zh.id, .bool zh.rp, .bool zh.au, .bool zh.ct, .bool zh.wa, .bool zh.ca, .int .i64 zh.code, .string zh.qn, .int .i64 zh.qt, .slice none 0 0, .slice none 0 0, .slice none 0 0], .bool false]) (res2M rfl (filM_bk Z1.out zh (.slice none 0 0) (.slice none 0 0) (.slice none 0 0)) rfl rfl) rfl (Or.inl ⟨HB.out, rfl, filM_below L1.out (Nat.le_refl _) zh (.slice none 0 0) (.slice none 0 0) (.slice none 0 0)⟩)
  have SD3 := Lib.hid (SD2.out h512 rfl)
  clear C2 SD2
  go_wp2_with fail
  refine (QD.out _ L1.out).mono ?_
  rintro e w2 ⟨rfl, hl⟩
  have L2' := L1.out.trans (hl.mono L1.out.size)
  have L2 := Lib.hid (L2'.alloc L2'.size (.cells #[.string sq, .int .i64 tq] 25))
  have Z2 := Lib.hid ((Z1.out.below hl Z1.out.lt).alloc (.cells #[.string sq, .int .i64 tq] 25))
  have X2 := Lib.hid ((X1.out.below hl X1.out.lt).alloc (.cells #[.string sq, .int .i64 tq] 25))
  have Q2 : Hid (Bk (w2.alloc (.cells #[.string sq, .int .i64 tq] 25)) w2.heap.size 25 (qc sq tq)) := heap_alloc_new w2 _
  have NQ : Hid (gx < w2.heap.size) := Nat.lt_of_lt_of_le X1.out.lt hl.size
  clear hl L2' L1 Z1 X1 QD
  go_upto_region 7 with (fail)
  generalize hw : w2.alloc (.cells #[.string sq, .int .i64 tq] 25) = w2' at *
  clear hw
  generalize w2.heap.size = gq at *
  by_cases hQ : dq = 0
  case neg =>
    have HB := Lib.hid (C3.out hQ)
    have e1 : ((dq : Int) != 0) = true := by simp; omega
    have e2 : ¬ (dq : Int) = 0 := by omega
    clear C1 C3 SD3 hQ
    obtain ⟨z0, z1, z2, z3, z4, z5, z6, z7, z8, z9, z10, z11⟩ := mx_of Z2.out
    have f0 := Z2.out.free 0
    have f1 := Z2.out.free 1
    have f2 := Z2.out.free 2
    have f3 := Z2.out.free 3
    have f4 := Z2.out.free 4
    have f5 := Z2.out.free 5
    have f6 := Z2.out.free 6
    have f7 := Z2.out.free 7
    have f8 := Z2.out.free 8
    have f9 := Z2.out.free 9
    have f10 := Z2.out.free 10
    have f11 := Z2.out.free 11
    go_wp2
    exact bodyPost_ret (v := .tuple #[.agg #[.int .i64 zh.id, .bool zh.rp, .bool zh.au, .bool zh.ct, .bool zh.wa, .bool zh.ca, .int .i64 zh.code, .string zh.qn, .int .i64 zh.qt, .slice none 0 0, .slice none 0 0, .slice none 0 0], .bool false]) (res2M rfl (filM_bk Z2.out zh (.slice none 0 0) (.slice none 0 0) (.slice none 0 0)) rfl rfl) rfl (Or.inl ⟨HB.out, rfl, filM_below L2.out (Nat.le_refl _) zh (.slice none 0 0) (.slice none 0 0) (.slice none 0 0)⟩)
  subst hQ
  have SD := Lib.hid (SD3.out rfl)
  clear C1 C3 SD3
  go_wp2_with fail
  refine (SD.out _ L2.out).mono ?_
  rintro e w3 (⟨hok, a1, m1, k1, a2, m2, k2, a3, m3, k3, rfl, hl⟩ | ⟨hok, g1, c1, r1, g2, c2, r2, g3, c3, r3, rfl, hb1, hb2, hb3, hg, h12, h23, hl⟩)
  · have HB := Lib.hid hok
    have L3' := L2.out.trans (hl.mono L2.out.size)
    have L3 := Lib.hid (L3'.alloc L3'.size (.cells #[.slice a1 m1 k1, .slice a2 m2 k2, .slice a3 m3 k3] 73))
    have Z3 := Lib.hid ((Z2.out.below hl Z2.out.lt).alloc (.cells #[.slice a1 m1 k1, .slice a2 m2 k2, .slice a3 m3 k3] 73))
    clear hok hl L3' L2 Z2 X2 Q2
    go_upto_region 10 with (fail)
    generalize hw : w3.alloc (.cells #[.slice a1 m1 k1, .slice a2 m2 k2, .slice a3 m3 k3] 73) = w3' at *
    clear hw
    obtain ⟨z0, z1, z2, z3, z4, z5, z6, z7, z8, z9, z10, z11⟩ := mx_of Z3.out
    have f0 := Z3.out.free 0
    have f1 := Z3.out.free 1
    have f2 := Z3.out.free 2
    have f3 := Z3.out.free 3
    have f4 := Z3.out.free 4
    have f5 := Z3.out.free 5
    have f6 := Z3.out.free 6
    have f7 := Z3.out.free 7
    have f8 := Z3.out.free 8
    have f9 := Z3.out.free 9
    have f10 := Z3.out.free 10
    have f11 := Z3.out.free 11
    go_wp2
    exact bodyPost_ret (v := .tuple #[.agg #[.int .i64 zh.id, .bool zh.rp, .bool zh.au, .bool zh.ct, .bool zh.wa, .bool zh.ca, .int .i64 zh.code, .string zh.qn, .int .i64 zh.qt, .slice none 0 0, .slice none 0 0, .slice none 0 0], .bool false]) (res2M rfl (filM_bk Z3.out zh (.slice none 0 0) (.slice none 0 0) (.slice none 0 0)) rfl rfl) rfl (Or.inl ⟨HB.out, rfl, filM_below L3.out (Nat.le_refl _) zh (.slice none 0 0) (.slice none 0 0) (.slice none 0 0)⟩)
  have HB := Lib.hid hok
  have L3' := L2.out.trans (hl.mono L2.out.size)
  have L3 := Lib.hid (L3'.alloc L3'.size (.cells #[.slice (some ⟨g1, 0, none⟩) n1 c1, .slice (some ⟨g2, 0, none⟩) n2 c2, .slice (some ⟨g3, 0, none⟩) n3 c3] 73))
  have Z3 := Lib.hid ((Z2.out.below hl Z2.out.lt).alloc (.cells #[.slice (some ⟨g1, 0, none⟩) n1 c1, .slice (some ⟨g2, 0, none⟩) n2 c2, .slice (some ⟨g3, 0, none⟩) n3 c3] 73))
  have X3 := Lib.hid ((X2.out.below hl X2.out.lt).alloc (.cells #[.slice (some ⟨g1, 0, none⟩) n1 c1, .slice (some ⟨g2, 0, none⟩) n2 c2, .slice (some ⟨g3, 0, none⟩) n3 c3] 73))
  have Q3 := Lib.hid ((Q2.out.below hl Q2.out.lt).alloc (.cells #[.slice (some ⟨g1, 0, none⟩) n1 c1, .slice (some ⟨g2, 0, none⟩) n2 c2, .slice (some ⟨g3, 0, none⟩) n3 c3] 73))
  have B1_3 := Lib.hid (hb1.alloc (.cells #[.slice (some ⟨g1, 0, none⟩) n1 c1, .slice (some ⟨g2, 0, none⟩) n2 c2, .slice (some ⟨g3, 0, none⟩) n3 c3] 73))
  have B2_3 := Lib.hid (hb2.alloc (.cells #[.slice (some ⟨g1, 0, none⟩) n1 c1, .slice (some ⟨g2, 0, none⟩) n2 c2, .slice (some ⟨g3, 0, none⟩) n3 c3] 73))
  have B3_3 := Lib.hid (hb3.alloc (.cells #[.slice (some ⟨g1, 0, none⟩) n1 c1, .slice (some ⟨g2, 0, none⟩) n2 c2, .slice (some ⟨g3, 0, none⟩) n3 c3] 73))
  have A3_ : Hid (Bk (w3.alloc (.cells #[.slice (some ⟨g1, 0, none⟩) n1 c1, .slice (some ⟨g2, 0, none⟩) n2 c2, .slice (some ⟨g3, 0, none⟩) n3 c3] 73)) w3.heap.size 73 [.slice (some ⟨g1, 0, none⟩) n1 c1, .slice (some ⟨g2, 0, none⟩) n2 c2, .slice (some ⟨g3, 0, none⟩) n3 c3]) := heap_alloc_new w3 _
  have O1 : Hid (w.heap.size ≤ g1) := Nat.le_trans L2.out.size hg
  have O0 : Hid (gx < g1) := Nat.lt_of_lt_of_le X2.out.lt hg
  have O2 := Lib.hid h12
  have O3 := Lib.hid h23
  have NA : Hid (gx < w3.heap.size) := Nat.lt_of_lt_of_le X2.out.lt hl.size
  clear hok hl L3' L2 Z2 X2 Q2 hb1 hb2 hb3 hg h12 h23 SD
  go_upto_region 10 with (fail)
  generalize hw : w3.alloc (.cells #[.slice (some ⟨g1, 0, none⟩) n1 c1, .slice (some ⟨g2, 0, none⟩) n2 c2, .slice (some ⟨g3, 0, none⟩) n3 c3] 73) = w3' at *
  clear hw
  generalize w3.heap.size = ga at *
  have S0 : (w3'.cell? ⟨gq, 0, none⟩ = some (.string sq) ∧ w3'.cell? ⟨gq, 1, none⟩ = some (.int .i64 tq) ∧ w3'.cell? ⟨ga, 0, none⟩ = some (.slice (some ⟨g1, 0, none⟩) n1 c1) ∧ w3'.cell? ⟨ga, 1, none⟩ = some (.slice (some ⟨g2, 0, none⟩) n2 c2) ∧ w3'.cell? ⟨ga, 2, none⟩ = some (.slice (some ⟨g3, 0, none⟩) n3 c3)) := ⟨Q3.out.cell 0, Q3.out.cell 1, A3_.out.cell 0, A3_.out.cell 1, A3_.out.cell 2⟩
  have nq : gq ≠ gx := Nat.ne_of_gt NQ.out
  have na : ga ≠ gx := Nat.ne_of_gt NA.out
  have SA := five_set (five_set S0 nq na 7 (.string sq)) nq na 8 (.int .i64 tq)
  have SB := five_set SA nq na 9 (.slice (some ⟨g1, 0, none⟩) n1 c1)
  have SC := five_set SB nq na 10 (.slice (some ⟨g2, 0, none⟩) n2 c2)
  have SE := five_set SC nq na 11 (.slice (some ⟨g3, 0, none⟩) n3 c3)
  have k7 := X3.out.free 7
  have k8 := X3.out.free 8
  have k9 := X3.out.free 9
  have k10 := X3.out.free 10
  have k11 := X3.out.free 11
  obtain ⟨y0, y1, y2, y3, y4, y5, y6, y7, y8, y9, y10, y11⟩ := mx_of X3.out
  go_wp2
  go_region_held3 (fun w' => (w'.cell? ⟨gq, 0, none⟩ = some (.string sq) ∧ w'.cell? ⟨gq, 1, none⟩ = some (.int .i64 tq) ∧ w'.cell? ⟨ga, 0, none⟩ = some (.slice (some ⟨g1, 0, none⟩) n1 c1) ∧ w'.cell? ⟨ga, 1, none⟩ = some (.slice (some ⟨g2, 0, none⟩) n2 c2) ∧ w'.cell? ⟨ga, 2, none⟩ = some (.slice (some ⟨g3, 0, none⟩) n3 c3)))
    (first | with_reducible exact S0 | with_reducible exact five_draw S0 | with_reducible assumption | with_reducible exact five_draw SA | with_reducible exact five_draw SB | with_reducible exact five_draw SC | with_reducible exact five_draw SE | fail)
    (fail)
  rename_i hH
  clear hH S0 SA SB SC SE nq na y0 y1 y2 y3 y4 y5 y6 y7 y8 y9 y10 y11 k7 k8 k9 k10 k11
  have L4 : Hid (Below w.heap.size w (((((w3'.setCell ⟨gx, 7, none⟩ (.string sq)).setCell ⟨gx, 8, none⟩ (.int .i64 tq)).setCell ⟨gx, 9, none⟩ (.slice (some ⟨g1, 0, none⟩) n1 c1)).setCell ⟨gx, 10, none⟩ (.slice (some ⟨g2, 0, none⟩) n2 c2)).setCell ⟨gx, 11, none⟩ (.slice (some ⟨g3, 0, none⟩) n3 c3))) := ((((L3.out.setCell (p := ⟨gx, 7, none⟩) (Nat.le_of_lt NX.out) _).setCell (p := ⟨gx, 8, none⟩) (Nat.le_of_lt NX.out) _).setCell (p := ⟨gx, 9, none⟩) (Nat.le_of_lt NX.out) _).setCell (p := ⟨gx, 10, none⟩) (Nat.le_of_lt NX.out) _).setCell (p := ⟨gx, 11, none⟩) (Nat.le_of_lt NX.out) _
  have X4 : Hid (Bk (((((w3'.setCell ⟨gx, 7, none⟩ (.string sq)).setCell ⟨gx, 8, none⟩ (.int .i64 tq)).setCell ⟨gx, 9, none⟩ (.slice (some ⟨g1, 0, none⟩) n1 c1)).setCell ⟨gx, 10, none⟩ (.slice (some ⟨g2, 0, none⟩) n2 c2)).setCell ⟨gx, 11, none⟩ (.slice (some ⟨g3, 0, none⟩) n3 c3)) gx 28 (mc (wq H sq tq) (.slice (some ⟨g1, 0, none⟩) n1 c1) (.slice (some ⟨g2, 0, none⟩) n2 c2) (.slice (some ⟨g3, 0, none⟩) n3 c3))) := ((((X3.out.set 7 (.string sq)).set 8 (.int .i64 tq)).set 9 (.slice (some ⟨g1, 0, none⟩) n1 c1)).set 10 (.slice (some ⟨g2, 0, none⟩) n2 c2)).set 11 (.slice (some ⟨g3, 0, none⟩) n3 c3)
  have ng0 : w.heap.size ≠ gx := Nat.ne_of_lt NX.out
  have ng1 : g1 ≠ gx := Nat.ne_of_gt O0.out
  have ng2 : g2 ≠ gx := Nat.ne_of_gt (Nat.lt_trans O0.out O2.out)
  have ng3 : g3 ≠ gx := Nat.ne_of_gt (Nat.lt_trans (Nat.lt_trans O0.out O2.out) O3.out)
  have Z4 : Hid (Bk (((((w3'.setCell ⟨gx, 7, none⟩ (.string sq)).setCell ⟨gx, 8, none⟩ (.int .i64 tq)).setCell ⟨gx, 9, none⟩ (.slice (some ⟨g1, 0, none⟩) n1 c1)).setCell ⟨gx, 10, none⟩ (.slice (some ⟨g2, 0, none⟩) n2 c2)).setCell ⟨gx, 11, none⟩ (.slice (some ⟨g3, 0, none⟩) n3 c3)) w.heap.size 28 (mc zh (.slice none 0 0) (.slice none 0 0) (.slice none 0 0))) := ((((Z3.out.other (p := ⟨gx, 7, none⟩) (ng0) _).other (p := ⟨gx, 8, none⟩) (ng0) _).other (p := ⟨gx, 9, none⟩) (ng0) _).other (p := ⟨gx, 10, none⟩) (ng0) _).other (p := ⟨gx, 11, none⟩) (ng0) _
  have B1_4 : Hid (Bk (((((w3'.setCell ⟨gx, 7, none⟩ (.string sq)).setCell ⟨gx, 8, none⟩ (.int .i64 tq)).setCell ⟨gx, 9, none⟩ (.slice (some ⟨g1, 0, none⟩) n1 c1)).setCell ⟨gx, 10, none⟩ (.slice (some ⟨g2, 0, none⟩) n2 c2)).setCell ⟨gx, 11, none⟩ (.slice (some ⟨g3, 0, none⟩) n3 c3)) g1 117 (fl l1 ++ r1)) := ((((B1_3.out.other (p := ⟨gx, 7, none⟩) (ng1) _).other (p := ⟨gx, 8, none⟩) (ng1) _).other (p := ⟨gx, 9, none⟩) (ng1) _).other (p := ⟨gx, 10, none⟩) (ng1) _).other (p := ⟨gx, 11, none⟩) (ng1) _
  have B2_4 : Hid (Bk (((((w3'.setCell ⟨gx, 7, none⟩ (.string sq)).setCell ⟨gx, 8, none⟩ (.int .i64 tq)).setCell ⟨gx, 9, none⟩ (.slice (some ⟨g1, 0, none⟩) n1 c1)).setCell ⟨gx, 10, none⟩ (.slice (some ⟨g2, 0, none⟩) n2 c2)).setCell ⟨gx, 11, none⟩ (.slice (some ⟨g3, 0, none⟩) n3 c3)) g2 117 (fl l2 ++ r2)) := ((((B2_3.out.other (p := ⟨gx, 7, none⟩) (ng2) _).other (p := ⟨gx, 8, none⟩) (ng2) _).other (p := ⟨gx, 9, none⟩) (ng2) _).other (p := ⟨gx, 10, none⟩) (ng2) _).other (p := ⟨gx, 11, none⟩) (ng2) _
  have B3_4 : Hid (Bk (((((w3'.setCell ⟨gx, 7, none⟩ (.string sq)).setCell ⟨gx, 8, none⟩ (.int .i64 tq)).setCell ⟨gx, 9, none⟩ (.slice (some ⟨g1, 0, none⟩) n1 c1)).setCell ⟨gx, 10, none⟩ (.slice (some ⟨g2, 0, none⟩) n2 c2)).setCell ⟨gx, 11, none⟩ (.slice (some ⟨g3, 0, none⟩) n3 c3)) g3 117 (fl l3 ++ r3)) := ((((B3_3.out.other (p := ⟨gx, 7, none⟩) (ng3) _).other (p := ⟨gx, 8, none⟩) (ng3) _).other (p := ⟨gx, 9, none⟩) (ng3) _).other (p := ⟨gx, 10, none⟩) (ng3) _).other (p := ⟨gx, 11, none⟩) (ng3) _
  clear L3 X3 Z3 B1_3 B2_3 B3_3 ng1 ng2 ng3
  have NG1 : Hid (w.heap.size < g1) := Nat.lt_trans NX.out O0.out
  have NG2 : Hid (w.heap.size < g2) := Nat.lt_trans NG1.out O2.out
  have NG3 : Hid (w.heap.size < g3) := Nat.lt_trans NG2.out O3.out
  have L5 : Hid (Below w.heap.size w (((((w3'.setCell ⟨gx, 7, none⟩ (.string sq)).setCell ⟨gx, 8, none⟩ (.int .i64 tq)).setCell ⟨gx, 9, none⟩ (.slice (some ⟨g1, 0, none⟩) n1 c1)).setCell ⟨gx, 10, none⟩ (.slice (some ⟨g2, 0, none⟩) n2 c2)).setCell ⟨gx, 11, none⟩ (.slice (some ⟨g3, 0, none⟩) n3 c3)).drew) := L4.out.drew
  have X5 : Hid (Bk (((((w3'.setCell ⟨gx, 7, none⟩ (.string sq)).setCell ⟨gx, 8, none⟩ (.int .i64 tq)).setCell ⟨gx, 9, none⟩ (.slice (some ⟨g1, 0, none⟩) n1 c1)).setCell ⟨gx, 10, none⟩ (.slice (some ⟨g2, 0, none⟩) n2 c2)).setCell ⟨gx, 11, none⟩ (.slice (some ⟨g3, 0, none⟩) n3 c3)).drew gx 28 (mc (wq H sq tq) (.slice (some ⟨g1, 0, none⟩) n1 c1) (.slice (some ⟨g2, 0, none⟩) n2 c2) (.slice (some ⟨g3, 0, none⟩) n3 c3))) := X4.out
  have Z5 : Hid (Bk (((((w3'.setCell ⟨gx, 7, none⟩ (.string sq)).setCell ⟨gx, 8, none⟩ (.int .i64 tq)).setCell ⟨gx, 9, none⟩ (.slice (some ⟨g1, 0, none⟩) n1 c1)).setCell ⟨gx, 10, none⟩ (.slice (some ⟨g2, 0, none⟩) n2 c2)).setCell ⟨gx, 11, none⟩ (.slice (some ⟨g3, 0, none⟩) n3 c3)).drew w.heap.size 28 (mc zh (.slice none 0 0) (.slice none 0 0) (.slice none 0 0))) := Z4.out
  have B1_5 : Hid (Bk (((((w3'.setCell ⟨gx, 7, none⟩ (.string sq)).setCell ⟨gx, 8, none⟩ (.int .i64 tq)).setCell ⟨gx, 9, none⟩ (.slice (some ⟨g1, 0, none⟩) n1 c1)).setCell ⟨gx, 10, none⟩ (.slice (some ⟨g2, 0, none⟩) n2 c2)).setCell ⟨gx, 11, none⟩ (.slice (some ⟨g3, 0, none⟩) n3 c3)).drew g1 117 (fl l1 ++ r1)) := B1_4.out
  have B2_5 : Hid (Bk (((((w3'.setCell ⟨gx, 7, none⟩ (.string sq)).setCell ⟨gx, 8, none⟩ (.int .i64 tq)).setCell ⟨gx, 9, none⟩ (.slice (some ⟨g1, 0, none⟩) n1 c1)).setCell ⟨gx, 10, none⟩ (.slice (some ⟨g2, 0, none⟩) n2 c2)).setCell ⟨gx, 11, none⟩ (.slice (some ⟨g3, 0, none⟩) n3 c3)).drew g2 117 (fl l2 ++ r2)) := B2_4.out
  have B3_5 : Hid (Bk (((((w3'.setCell ⟨gx, 7, none⟩ (.string sq)).setCell ⟨gx, 8, none⟩ (.int .i64 tq)).setCell ⟨gx, 9, none⟩ (.slice (some ⟨g1, 0, none⟩) n1 c1)).setCell ⟨gx, 10, none⟩ (.slice (some ⟨g2, 0, none⟩) n2 c2)).setCell ⟨gx, 11, none⟩ (.slice (some ⟨g3, 0, none⟩) n3 c3)).drew g3 117 (fl l3 ++ r3)) := B3_4.out
  clear L4 X4 Z4 B1_4 B2_4 B3_4
  generalize hw : (((((w3'.setCell ⟨gx, 7, none⟩ (.string sq)).setCell ⟨gx, 8, none⟩ (.int .i64 tq)).setCell ⟨gx, 9, none⟩ (.slice (some ⟨g1, 0, none⟩) n1 c1)).setCell ⟨gx, 10, none⟩ (.slice (some ⟨g2, 0, none⟩) n2 c2)).setCell ⟨gx, 11, none⟩ (.slice (some ⟨g3, 0, none⟩) n3 c3)).drew = w6 at *
  clear hw
  obtain ⟨z0, z1, z2, z3, z4, z5, z6, z7, z8, z9, z10, z11⟩ := mx_of Z5.out
  have f0 := Z5.out.free 0
  have f1 := Z5.out.free 1
  have f2 := Z5.out.free 2
  have f3 := Z5.out.free 3
  have f4 := Z5.out.free 4
  have f5 := Z5.out.free 5
  have f6 := Z5.out.free 6
  have f7 := Z5.out.free 7
  have f8 := Z5.out.free 8
  have f9 := Z5.out.free 9
  have f10 := Z5.out.free 10
  have f11 := Z5.out.free 11
  obtain ⟨y0, y1, y2, y3, y4, y5, y6, y7, y8, y9, y10, y11⟩ := mx_of X5.out
  go_wp2
  refine bodyPost_ret (v := .tuple #[.agg #[.int .i64 (wq H sq tq).id, .bool (wq H sq tq).rp, .bool (wq H sq tq).au, .bool (wq H sq tq).ct, .bool (wq H sq tq).wa, .bool (wq H sq tq).ca, .int .i64 (wq H sq tq).code, .string (wq H sq tq).qn, .int .i64 (wq H sq tq).qt, .slice (some ⟨g1, 0, none⟩) n1 c1, .slice (some ⟨g2, 0, none⟩) n2 c2, .slice (some ⟨g3, 0, none⟩) n3 c3], .bool true]) (res2M rfl (filM_bk Z5.out (wq H sq tq) (.slice (some ⟨g1, 0, none⟩) n1 c1) (.slice (some ⟨g2, 0, none⟩) n2 c2) (.slice (some ⟨g3, 0, none⟩) n3 c3)) rfl rfl) rfl (Or.inr ⟨HB.out, ?_⟩)
  rw [GM.out]
  exact ⟨g1, c1, r1, g2, c2, r2, g3, c3, r3, rfl, filM_other B1_5.out (g := w.heap.size) (Nat.ne_of_gt NG1.out) (wq H sq tq) (.slice (some ⟨g1, 0, none⟩) n1 c1) (.slice (some ⟨g2, 0, none⟩) n2 c2) (.slice (some ⟨g3, 0, none⟩) n3 c3), filM_other B2_5.out (g := w.heap.size) (Nat.ne_of_gt NG2.out) (wq H sq tq) (.slice (some ⟨g1, 0, none⟩) n1 c1) (.slice (some ⟨g2, 0, none⟩) n2 c2) (.slice (some ⟨g3, 0, none⟩) n3 c3), filM_other B3_5.out (g := w.heap.size) (Nat.ne_of_gt NG3.out) (wq H sq tq) (.slice (some ⟨g1, 0, none⟩) n1 c1) (.slice (some ⟨g2, 0, none⟩) n2 c2) (.slice (some ⟨g3, 0, none⟩) n3 c3), O1.out, O2.out, O3.out, filM_below L5.out (Nat.le_refl _) (wq H sq tq) (.slice (some ⟨g1, 0, none⟩) n1 c1) (.slice (some ⟨g2, 0, none⟩) n2 c2) (.slice (some ⟨g3, 0, none⟩) n3 c3)⟩
end Go.Proofs.YtkfibepejlgniaaGreatDoor.GetMI

/- What GetMsg does, parted: on bytes that are a message, and on bytes that are none. -/
namespace Go.Proofs.YtkfibepejlgniaaGreatDoor.GetM
open Go.RowKit Go.Proofs.YtkfibepejlgniaaGreatDoor.Mem Go.Proofs.YtkfibepejlgniaaGreatDoor.MemR Go.Proofs.YtkfibepejlgniaaGreatDoor.MemM Go.Proofs.YtkfibepejlgniaaGreatDoor.Labels Go.Proofs.YtkfibepejlgniaaGreatDoor.MsgMath Go.Proofs.YtkfibepejlgniaaGreatDoor.GetMS

theorem res_bad {l : List UInt8} {w w' : World} {e : Ending} (hg : gmb l = false) (h : Res l w e w') : e = .returned (.tuple #[.agg #[.int .i64 zh.id, .bool zh.rp, .bool zh.au, .bool zh.ct, .bool zh.wa, .bool zh.ca, .int .i64 zh.code, .string zh.qn, .int .i64 zh.qt, .slice none 0 0, .slice none 0 0, .slice none 0 0], .bool false]) ∧ Below w.heap.size w w' := by
  rcases h with ⟨_, h⟩ | ⟨h, _⟩
  · exact h
  · rw [hg] at h; cases h
theorem res_good {l : List UInt8} {w w' : World} {e : Ending} (hg : gmb l = true) (h : Res l w e w') : Got w (gmh l) (s1 l).2.2.length (s2 l).2.2.length (s3 l).2.2.length (s1 l).2.2 (s2 l).2.2 (s3 l).2.2 e w' := by
  rcases h with ⟨h, _⟩ | ⟨_, h⟩
  · rw [hg] at h; cases h
  · exact h
section
variable (A : Option Addr) (n c : Nat) (l : List UInt8) (w : World)
theorem spec_bad (hs : Sl w w.heap.size A n l) (hnc : n ≤ c) (hn : n ≤ 400000000) (hg : gmb l = false) : Calls Tryz.prog 37 #[.slice A n c] w fun e w' => e = .returned (.tuple #[.agg #[.int .i64 zh.id, .bool zh.rp, .bool zh.au, .bool zh.ct, .bool zh.wa, .bool zh.ca, .int .i64 zh.code, .string zh.qn, .int .i64 zh.qt, .slice none 0 0, .slice none 0 0, .slice none 0 0], .bool false]) ∧ Below w.heap.size w w' :=
  (GetMS.spec A n c l w hs hnc hn).mono fun _ _ => res_bad hg
theorem spec_good (hs : Sl w w.heap.size A n l) (hnc : n ≤ c) (hn : n ≤ 400000000) (hg : gmb l = true) : Calls Tryz.prog 37 #[.slice A n c] w (Got w (gmh l) (s1 l).2.2.length (s2 l).2.2.length (s3 l).2.2.length (s1 l).2.2 (s2 l).2.2 (s3 l).2.2) :=
  (GetMS.spec A n c l w hs hnc hn).mono fun _ _ => res_good hg
theorem impl_bad (he : Env w) (hs : Sl w w.heap.size A n l) (hnc : n ≤ c) (hn : n ≤ 400000000) (hg : gmb l = false) : Calls Tryz.prog 34 #[.slice A n c] w fun e w' => e = .returned (.tuple #[.agg #[.int .i64 zh.id, .bool zh.rp, .bool zh.au, .bool zh.ct, .bool zh.wa, .bool zh.ca, .int .i64 zh.code, .string zh.qn, .int .i64 zh.qt, .slice none 0 0, .slice none 0 0, .slice none 0 0], .bool false]) ∧ Below w.heap.size w w' :=
  (GetMI.impl A n c l w he hs hnc hn).mono fun _ _ => res_bad hg
theorem impl_good (he : Env w) (hs : Sl w w.heap.size A n l) (hnc : n ≤ c) (hn : n ≤ 400000000) (hg : gmb l = true) : Calls Tryz.prog 34 #[.slice A n c] w (Got w (gmh l) (s1 l).2.2.length (s2 l).2.2.length (s3 l).2.2.length (s1 l).2.2 (s2 l).2.2 (s3 l).2.2) :=
  (GetMI.impl A n c l w he hs hnc hn).mono fun _ _ => res_good hg
end
end Go.Proofs.YtkfibepejlgniaaGreatDoor.GetM

/- What the law's own helpers eqByteS, markByteS and heldByteS do on slices of bytes. Condition: fewer than 400000001 bytes. -/
namespace Go.Proofs.YtkfibepejlgniaaGreatDoor.Eq
open Go.RowKit Go.Proofs.YtkfibepejlgniaaGreatDoor.Mem

theorem cast_ne {a b : UInt8} (h : a ≠ b) : ((a.toNat : Int) != (b.toNat : Int)) = true := by
  rw [bne_iff_ne]; intro e; exact h (UInt8.toNat_inj.1 (by omega))
theorem cast_eq {a b : UInt8} (h : a = b) : ((a.toNat : Int) != (b.toNat : Int)) = false := by subst h; simp

/-- Two lists that agree as far as k, and part at k. -/
theorem ne_at {l m : List UInt8} {k : Nat} (h : k < l.length) (h' : k < m.length) (hne : l[k] ≠ m[k]) : (l == m) = false := by
  rw [beq_eq_false_iff_ne]; rintro rfl; exact hne rfl
theorem eq_all {l m : List UInt8} (hl : l.length = m.length) (h : l.take l.length = m.take l.length) : (l == m) = true := by
  rw [List.take_length, hl, List.take_length] at h; simp [h]
theorem take_step {l m : List UInt8} {k : Nat} (hk : k < l.length) (hk' : k < m.length) (h : l.take k = m.take k) (he : l[k] = m[k]) : l.take (k + 1) = m.take (k + 1) := by
  rw [List.take_succ_eq_append_getElem hk, List.take_succ_eq_append_getElem hk', h, he]

set_option maxHeartbeats 1000000 in
theorem eqByteS_any (A A' : Option Addr) (n c n' c' : Nat) (l m : List UInt8) (w : World) (B : Nat) (hs : Sl w B A n l) (hs' : Sl w B A' n' m) (hn : n ≤ 400000000) (hn' : n' ≤ 400000000) :
    Calls Tryz.prog 45 #[.slice A n c, .slice A' n' c'] w fun e w' => e = .returned (.bool (l == m)) ∧ ∃ k, w' = w.drewN k := by
  have HL := Lib.hid hs.1
  have HM := Lib.hid hs'.1
  by_cases hnn : n = n'
  · subst hnn
    have hd : ((n : Int) != (n : Int)) = false := by simp
    go_enter Tryz.func45, Tryz.ntmps45
    go_wp2
    go_loopw [5] (fun i wr => ∃ k : Nat, k ≤ n ∧ i = .int .i64 k ∧ Hid (l.take k = m.take k) ∧ Hid (∃ q, wr = w.drewN q)) (fun i _ => n - (intOf i).toNat)
    case atStart => exact ⟨0, Nat.zero_le _, rfl, rfl, ⟨0, rfl⟩⟩
    case round =>
      obtain ⟨k, hk, rfl, HT, HW⟩ := hrel
      obtain ⟨q, rfl⟩ := HW.out
      clear HW
      by_cases hlt : k < n
      · obtain ⟨b, off, rfl, hbB, hcs⟩ := hs.2 (by omega)
        obtain ⟨b', off', rfl, hbB', hcs'⟩ := hs'.2 (by omega)
        have hkl : k < l.length := by rw [HL.out]; exact hlt
        have hkm : k < m.length := by rw [HM.out]; exact hlt
        have hx : w.cell? ⟨b, off + k, none⟩ = some (.int .u8 (l[k].toNat : Int)) := hcs k hkl
        have hy : w.cell? ⟨b', off' + k, none⟩ = some (.int .u8 (m[k].toNat : Int)) := hcs' k hkm
        clear hcs hcs' hs hs'
        by_cases he : l[k] = m[k]
        · have hbb := cast_eq he
          have HE := Lib.hid he
          clear he
          go_wp2
          go_quiet (fail)
          go_wp2
          go_roundw
          case rel => exact ⟨k + 1, by omega, by go_num, take_step hkl hkm HT.out HE.out, ⟨_, rfl⟩⟩
          case measure => simp [intOf]; omega
        · have hbb := cast_ne he
          have HE := Lib.hid he
          clear he
          go_wp2
          go_quiet (fail)
          go_wp2
          go_ret
          exact ⟨by rw [ne_at hkl hkm HE.out]; rfl, ⟨q + nq, World.drewN_drewN _ _ _⟩⟩
      · go_wp2
        go_ret
        have hk2 : k = l.length := by rw [HL.out]; omega
        refine ⟨?_, ⟨_, rfl⟩⟩
        rw [eq_all (by rw [HL.out, HM.out]) (by rw [← hk2]; exact HT.out)]
        rfl
  · have hd : ((n : Int) != (n' : Int)) = true := by rw [bne_iff_ne]; omega
    go_enter Tryz.func45, Tryz.ntmps45
    go_wp2
    go_ret
    refine ⟨?_, ⟨0, rfl⟩⟩
    have : (l == m) = false := by
      rw [beq_eq_false_iff_ne]; rintro rfl; exact hnn (HL.out.symm.trans HM.out)
    rw [this]
    rfl

/-- Two slices that read alike are found equal. -/
theorem eqByteS_same (A A' : Option Addr) (n c n' c' : Nat) (l : List UInt8) (w : World) (hs : Sl w w.heap.size A n l) (hs' : Sl w w.heap.size A' n' l) (hn : n ≤ 400000000) (hn' : n' ≤ 400000000) :
    Calls Tryz.prog 45 #[.slice A n c, .slice A' n' c'] w fun e w' => e = .returned (.bool true) ∧ Below w.heap.size w w' := by
  refine (eqByteS_any A A' n c n' c' l l w _ hs hs' hn hn').mono fun e w' ⟨he, k, hw⟩ => ?_
  subst hw
  exact ⟨by rw [he]; simp, drewN_below _ _ _⟩

/-- The numbers that markByteS lays: k, k + 1 and so on, as bytes. -/
def marks : Nat → Nat → List Value
  | _, 0 => []
  | k, n + 1 => Value.int .u8 ((k : Int) % 256) :: marks (k + 1) n
theorem marks_length (k n : Nat) : (marks k n).length = n := by
  induction n generalizing k with
  | zero => rfl
  | succ n ih => simp [marks, ih]
theorem marks_at (k n j : Nat) (h : j < n) : (marks k n)[j]? = some (Value.int .u8 (((k : Int) + (j : Int)) % 256)) := by
  induction n generalizing k j with
  | zero => omega
  | succ n ih =>
    cases j with
    | zero => simp [marks]
    | succ j => simp only [marks, List.getElem?_cons_succ]; rw [ih (k + 1) j (by omega)]; rw [show ((k + 1 : Nat) : Int) + (j : Int) = (k : Int) + ((j + 1 : Nat) : Int) by omega]
theorem marks_snoc (k n : Nat) : marks k (n + 1) = marks k n ++ [Value.int .u8 (((k : Int) + (n : Int)) % 256)] := by
  induction n generalizing k with
  | zero => simp [marks]
  | succ n ih => rw [marks, ih (k + 1), marks, List.cons_append, show ((k + 1 : Nat) : Int) + (n : Int) = (k : Int) + ((n + 1 : Nat) : Int) by omega]

theorem mark_step (cs : List Value) (k j n : Nat) (hj : j < n) (hn : n ≤ cs.length) :
    (marks k j ++ cs.drop j).set j (Value.int .u8 (((k : Int) + (j : Int)) % 256)) = marks k (j + 1) ++ cs.drop (j + 1) := by
  rw [List.set_append_right _ _ (by rw [marks_length]; omega), marks_length, Nat.sub_self, List.drop_eq_getElem_cons (by omega), List.set_cons_zero, marks_snoc, List.append_assoc]
  rfl
theorem mark_at (cs : List Value) (k j : Nat) (hj : j < cs.length) : (marks k j ++ cs.drop j)[j]? = some cs[j] := by
  rw [List.getElem?_append_right (by rw [marks_length]; omega), marks_length, Nat.sub_self, List.drop_eq_getElem_cons hj]
  rfl

theorem grown_set {w wr : World} {g : Nat} (h : w.grownBy wr (some g)) (j : Nat) (u : Value) : w.grownBy (wr.setCell ⟨g, j, none⟩ u) (some g) :=
  ⟨h.os, h.tape, h.output, by simpa [World.setCell] using h.size, fun k hk hne => by
    rw [Below.heap_setCell _ _ _ _ (fun e => hne (by simp [e]))]; exact h.block k hk hne⟩

set_option maxHeartbeats 1000000 in
/-- markByteS on a block of the call's own: n of its cells are written. -/
theorem markByteS_any (g n c k0 : Nat) (cs : List Value) (w : World) (hb : Bk w g 5 cs) (hint : ∀ j, j < n → ∃ x : Int, cs[j]? = some (.int .u8 x)) (hl : n ≤ cs.length) (hn : n ≤ 400000000) (hk0 : k0 ≤ 400000000) :
    Calls Tryz.prog 48 #[.slice (some ⟨g, 0, none⟩) n c, .int .i64 (k0 : Int)] w fun e w' => e = .returned (.int .i64 ((k0 + n : Nat) : Int)) ∧ Bk w' g 5 (marks k0 n ++ cs.drop n) ∧ w.grownBy w' (some g) := by
  have HB := Lib.hid hb
  clear hb
  go_enter Tryz.func48, Tryz.ntmps48
  go_wp2
  go_loopw [1, 5] (fun kk i wr => ∃ j : Nat, j ≤ n ∧ i = .int .i64 j ∧ kk = .int .i64 ((k0 + j : Nat) : Int) ∧ Hid (Bk wr g 5 (marks k0 j ++ cs.drop j)) ∧ Hid (w.grownBy wr (some g))) (fun _ i _ => n - (intOf i).toNat)
  case atStart => exact ⟨0, Nat.zero_le _, rfl, rfl, HB.out, World.grownBy.refl _ _⟩
  case round =>
    obtain ⟨j, hj, rfl, rfl, HJ, HG⟩ := hrel
    by_cases hlt : j < n
    · obtain ⟨x, hxx⟩ := hint j hlt
      have hx : wr.cell? ⟨g, j, none⟩ = some (.int .u8 x) := by
        rw [HJ.out.cell, mark_at cs k0 j (by omega), ← hxx, List.getElem?_eq_getElem (by omega)]
      have hf : wr.frozen? ⟨g, j, none⟩ = false := HJ.out.free j
      clear hxx
      go_wp2
      go_roundw
      case rel =>
        refine ⟨j + 1, by omega, by go_num, by go_num, ?_, grown_set HG.out _ _⟩
        have := HJ.out.set j (.int .u8 (((k0 : Int) + (j : Int)) % 256))
        rw [mark_step cs k0 j n hlt hl] at this
        exact this
      case measure => simp [intOf]; omega
    · have hjn : j = n := by omega
      subst hjn
      go_wp2
      go_ret
      exact ⟨by go_num, HJ.out, HG.out⟩

theorem byte_ne_self (x : Int) : (x != x) = false := by simp

set_option maxHeartbeats 1000000 in
/-- heldByteS on a block that holds the marks. -/
theorem heldByteS_any (g n c k0 : Nat) (r : List Value) (w : World) (hb : Bk w g 5 (marks k0 n ++ r)) (hn : n ≤ 400000000) (hk0 : k0 ≤ 400000000) :
    Calls Tryz.prog 49 #[.slice (some ⟨g, 0, none⟩) n c, .int .i64 (k0 : Int)] w fun e w' => e = .returned (.int .i64 ((k0 + n : Nat) : Int)) ∧ w = w' := by
  have HB := Lib.hid hb
  clear hb
  go_enter Tryz.func49, Tryz.ntmps49
  go_wp2
  go_loop [1, 5] (fun kk i => ∃ j : Nat, j ≤ n ∧ i = .int .i64 j ∧ kk = .int .i64 ((k0 + j : Nat) : Int)) (fun _ i => n - (intOf i).toNat)
  case atStart => exact ⟨0, Nat.zero_le _, rfl, rfl⟩
  case round =>
    obtain ⟨j, hj, rfl, rfl⟩ := hrel
    by_cases hlt : j < n
    · have hx : w.cell? ⟨g, j, none⟩ = some (Value.int .u8 (((k0 : Int) + (j : Int)) % 256)) := by
        rw [HB.out.cell, List.getElem?_append_left (by rw [marks_length]; exact hlt), marks_at k0 n j hlt]
      have hne := byte_ne_self (((k0 : Int) + (j : Int)) % 256)
      go_wp2
      go_round
      case rel => exact ⟨j + 1, by omega, by go_num, by go_num⟩
      case measure => simp [intOf]; omega
    · have hjn : j = n := by omega
      subst hjn
      go_wp2
      go_ret
      exact ⟨by go_num, rfl⟩

/-- The law marks from 1 on. -/
theorem markByteS_one (g n c : Nat) (l : List UInt8) (r : List Value) (w : World) (hb : Bk w g 5 (l.map bv ++ r)) (hl : l.length = n) (hn : n ≤ 400000000) :
    Calls Tryz.prog 48 #[.slice (some ⟨g, 0, none⟩) n c, .int .i64 1] w fun e w' => e = .returned (.int .i64 (1 + (n : Int))) ∧ Bk w' g 5 (marks 1 n ++ r) ∧ w.grownBy w' (some g) := by
  refine (markByteS_any g n c 1 (l.map bv ++ r) w hb (fun j hj => ⟨((l[j]'(by omega)).toNat : Int), ?_⟩) (by simp; omega) hn (by omega)).mono fun e w' ⟨he, h1, h2⟩ => ⟨?_, ?_, h2⟩
  · rw [List.getElem?_append_left (by simp; omega), List.getElem?_map, List.getElem?_eq_getElem (by omega)]
    rfl
  · rw [he]; simp
  · rw [List.drop_append_of_le_length (by simp; omega), List.drop_eq_nil_of_le (by simp; omega), List.nil_append] at h1
    exact h1
theorem heldByteS_one (g n c : Nat) (r : List Value) (w : World) (hb : Bk w g 5 (marks 1 n ++ r)) (hn : n ≤ 400000000) :
    Calls Tryz.prog 49 #[.slice (some ⟨g, 0, none⟩) n c, .int .i64 1] w fun e w' => e = .returned (.int .i64 (1 + (n : Int))) ∧ w = w' :=
  (heldByteS_any g n c 1 r w hb hn (by omega)).mono fun e w' ⟨he, h1⟩ => ⟨by rw [he]; simp, h1⟩

end Go.Proofs.YtkfibepejlgniaaGreatDoor.Eq
