/- The law FnFields returns true on every slice that reads as bytes, where the library's variable internal/bytealg.MaxLen holds an int, and turns nothing that was there: a record is read back out of its encoding. -/
import Derived.Test.YtcpadkehalgddaaGreatDoorDrawP
import Derived.Test.YtcpadkehalgddaaGreatDoorRecP
import Derived.Test.YtcpadkehalgddaaGreatDoorGetRecI
import Derived.Test.YtcpadkehalgddaaGreatDoorFieldBack
import Derived.Test.YtcpadkehalgddaaGreatDoorSame
import Derived.Test.YtcpadkehalgddaaGreatDoorEqlR
namespace Go.Proofs.YtcpadkehalgddaaGreatDoor.LawFields
open Go.RowKit Go.Proofs.YtcpadkehalgddaaGreatDoor.Mem Go.Proofs.YtcpadkehalgddaaGreatDoor.MemR Go.Proofs.YtcpadkehalgddaaGreatDoor.BoxR Go.Proofs.YtcpadkehalgddaaGreatDoor.Labels Go.Proofs.YtcpadkehalgddaaGreatDoor.RecOk Go.Proofs.YtcpadkehalgddaaGreatDoor.Same Go.Proofs.YtcpadkehalgddaaGreatDoor.App Go.Proofs.YtcpadkehalgddaaGreatDoor.FieldMath Go.Proofs.YtcpadkehalgddaaGreatDoor.FieldBack Go.Proofs.YtcpadkehalgddaaGreatDoor.DataS Go.Proofs.YtcpadkehalgddaaGreatDoor.RecS Go.Proofs.YtcpadkehalgddaaGreatDoor.GetI Go.Proofs.YtcpadkehalgddaaGreatDoor.GetRecI Go.Proofs.YtcpadkehalgddaaGreatDoor.DrawR Go.Proofs.YtcpadkehalgddaaGreatDoor.DrawP

theorem sml_med {r : Rec} (h : Sml r) : Med r := ⟨Nat.le_trans h.1 (by decide), Nat.le_trans h.2.1 (by decide), Nat.le_trans h.2.2 (by decide)⟩
theorem rok_core {r : Rec} (h : rok r = true) : rok (core r) = true := by
  rw [rok, Bool.and_eq_true, Bool.and_eq_true] at h
  have e : rok (core r) = dko r.ty r.n r.host r.text := rfl
  rw [e]
  exact h.2.2
/-- The data of a valid record are read back. -/
theorem back_d {r : Rec} (h : rok r = true) : fx (gd (dat r) 0 ((dat r).length : Int) r.ty) = (0, core r) := by
  have := back_data [] [] r h 0 rfl
  rw [List.nil_append, List.append_nil] at this
  rw [this]
  exact fx_ok (rok_core h)
theorem back_r (l : List UInt8) {r : Rec} (h : rok r = true) : gr (l ++ tailR l r) (l.length : Int) = (0, ((l ++ tailR l r).length : Int), r) := by
  have := back_rec l [] r h
  rw [List.append_nil] at this
  exact this

set_option maxRecDepth 100000 in
set_option maxHeartbeats 8000000 in
theorem walk (A : Option Addr) (n c : Nat) (l : List UInt8) (w : World) (he : Env w) (hs : Sl w w.heap.size A n l) (_hc : n ≤ c) (_hnil : A = none → n = 0 ∧ c = 0) :
    Calls Tryz.prog 3 #[.slice A n c] w fun e w' => e = .returned (.bool true) ∧ Below w.heap.size w w' := by
  have HS := Lib.hid hs
  have HE := Lib.hid he
  clear hs he _hnil
  by_cases hn : ¬ n ≤ 1048576
  · go_enter Tryz.func3, Tryz.ntmps3
    go_wp2_with fail
    refine (big_yes A n c w hn).mono ?_
    rintro e w0 ⟨rfl, rfl⟩
    go_wp2
    go_ret
    exact ⟨rfl, Below.refl _ _⟩
  have hn : n ≤ 1048576 := Decidable.byContradiction hn
  go_enter Tryz.func3, Tryz.ntmps3
  go_wp2_with fail
  refine (big_no A n c w hn).mono ?_
  rintro e w0 ⟨rfl, rfl⟩
  go_wp2_with fail
  refine (drawPutRecord_any A n c l w HS.out hn).mono ?_
  rintro e w1 ⟨gb, m, cap, lb, r, rfl, hm, hmc, hr, hsl, hl⟩
  have FA := Lib.hid (sml_med hr)
  have L1 := Lib.hid (hl.alloc hl.size (.cells #[.string r.name, .int .i64 r.ty, .int .i64 r.ttl, .int .i64 r.n, .string r.host, .string r.text] 25))
  have R1 := Lib.hid (bx_new w1 25 r)
  have HB := Lib.hid (show Sl (w1.alloc (.cells #[.string r.name, .int .i64 r.ty, .int .i64 r.ttl, .int .i64 r.n, .string r.host, .string r.text] 25)) (w1.alloc (.cells #[.string r.name, .int .i64 r.ty, .int .i64 r.ttl, .int .i64 r.n, .string r.host, .string r.text] 25)).heap.size (some ⟨gb, 0, none⟩) m lb from sl_alloc hsl _)
  have ML := Lib.hid hsl.1
  clear hl hsl hr
  have SBx : Hid (∀ W : World, Below (w1.alloc (.cells #[.string r.name, .int .i64 r.ty, .int .i64 r.ttl, .int .i64 r.n, .string r.host, .string r.text] 25)).heap.size (w1.alloc (.cells #[.string r.name, .int .i64 r.ty, .int .i64 r.ttl, .int .i64 r.n, .string r.host, .string r.text] 25)) W → Sl W W.heap.size (some ⟨gb, 0, none⟩) m lb) := fun W hW => (HB.out.below hW).wider hW.size
  have EN : Hid (∀ W : World, Below (w1.alloc (.cells #[.string r.name, .int .i64 r.ty, .int .i64 r.ttl, .int .i64 r.n, .string r.host, .string r.text] 25)).heap.size (w1.alloc (.cells #[.string r.name, .int .i64 r.ty, .int .i64 r.ttl, .int .i64 r.n, .string r.host, .string r.text] 25)) W → Env W) := fun W hW => HE.out.below (L1.out.trans (hW.mono L1.out.size))
  have XI : Hid (∀ W : World, Below (w1.alloc (.cells #[.string r.name, .int .i64 r.ty, .int .i64 r.ttl, .int .i64 r.n, .string r.host, .string r.text] 25)).heap.size (w1.alloc (.cells #[.string r.name, .int .i64 r.ty, .int .i64 r.ttl, .int .i64 r.n, .string r.host, .string r.text] 25)) W → Calls Tryz.prog 8 #[.slice (some ⟨gb, 0, none⟩) m cap, .agg #[.string r.name, .int .i64 r.ty, .int .i64 r.ttl, .int .i64 r.n, .string r.host, .string r.text]] W (Gives W (lb ++ tailR lb r))) :=
    fun W hW => (RecP.impl _ m cap lb r W (EN.out W hW) (SBx.out W hW) hmc (fun h => by cases h) (by omega) FA.out).mono fun _ _ h => h.gives
  have XS : Hid (∀ W : World, Below (w1.alloc (.cells #[.string r.name, .int .i64 r.ty, .int .i64 r.ttl, .int .i64 r.n, .string r.host, .string r.text] 25)).heap.size (w1.alloc (.cells #[.string r.name, .int .i64 r.ty, .int .i64 r.ttl, .int .i64 r.n, .string r.host, .string r.text] 25)) W → Calls Tryz.prog 11 #[.slice (some ⟨gb, 0, none⟩) m cap, .agg #[.string r.name, .int .i64 r.ty, .int .i64 r.ttl, .int .i64 r.n, .string r.host, .string r.text]] W (Gives W (lb ++ tailR lb r))) :=
    fun W hW => (RecS.spec _ m cap lb r W (SBx.out W hW) hmc (fun h => by cases h) (by omega) FA.out).mono fun _ _ h => h.gives
  have DI : Hid (∀ W : World, Below (w1.alloc (.cells #[.string r.name, .int .i64 r.ty, .int .i64 r.ttl, .int .i64 r.n, .string r.host, .string r.text] 25)).heap.size (w1.alloc (.cells #[.string r.name, .int .i64 r.ty, .int .i64 r.ttl, .int .i64 r.n, .string r.host, .string r.text] 25)) W → Calls Tryz.prog 9 #[.agg #[.string r.name, .int .i64 r.ty, .int .i64 r.ttl, .int .i64 r.n, .string r.host, .string r.text]] W (Gives W (dat r))) := fun W hW => DataP.impl r W (EN.out W hW) FA.out
  have DS : Hid (∀ W : World, Calls Tryz.prog 12 #[.agg #[.string r.name, .int .i64 r.ty, .int .i64 r.ttl, .int .i64 r.n, .string r.host, .string r.text]] W (Gives W (dat r))) := fun W => DataS.spec r W FA.out
  have RO : Hid (∀ W : World, Below (w1.alloc (.cells #[.string r.name, .int .i64 r.ty, .int .i64 r.ttl, .int .i64 r.n, .string r.host, .string r.text] 25)).heap.size (w1.alloc (.cells #[.string r.name, .int .i64 r.ty, .int .i64 r.ttl, .int .i64 r.n, .string r.host, .string r.text] 25)) W → Calls Tryz.prog 13 #[.agg #[.string r.name, .int .i64 r.ty, .int .i64 r.ttl, .int .i64 r.n, .string r.host, .string r.text]] W fun e w' => e = .returned (.bool (rok r)) ∧ Below W.heap.size W w') := fun W hW => RecOk.impl r W (EN.out W hW) FA.out.mod
  have HXL : Hid ((lb ++ tailR lb r).length ≤ 600) := by show _ ≤ _; rw [List.length_append, ML.out]; have := tailR_len lb r; omega
  have HDL := Lib.hid (dat_len r)
  have BAD : Hid (rok r = false → lb ++ tailR lb r = lb ∧ dat r = []) := fun h => ⟨t_none lb r h, by rw [dat, h]; rfl⟩
  have GR : Hid (rok r = true → ∀ (g mx cx : Nat) (rx : List Value) (W : World), Below (w1.alloc (.cells #[.string r.name, .int .i64 r.ty, .int .i64 r.ttl, .int .i64 r.n, .string r.host, .string r.text] 25)).heap.size (w1.alloc (.cells #[.string r.name, .int .i64 r.ty, .int .i64 r.ttl, .int .i64 r.n, .string r.host, .string r.text] 25)) W → (lb ++ tailR lb r).length = mx → mx ≤ cx → Bk W g 5 ((lb ++ tailR lb r).map bv ++ rx) → Calls Tryz.prog 14 #[.slice (some ⟨g, 0, none⟩) mx cx, .int .i64 (m : Int)] W fun e w' => e = .returned (.tuple #[.agg #[.string r.name, .int .i64 r.ty, .int .i64 r.ttl, .int .i64 r.n, .string r.host, .string r.text], .int .i64 (mx : Int), .int .i64 0]) ∧ Below W.heap.size W w') := fun h g mx cx rx W hW hm hc hb => by
    have := GetRecI.record (some ⟨g, 0, none⟩) mx cx (lb ++ tailR lb r) (m : Int) W (EN.out W hW) (hm ▸ (hb.sl'.wider hb.lt)) hc (by have := HXL.out; omega)
    rw [← ML.out, back_r lb h, ML.out] at this
    unfold valR at this
    dsimp only at this
    rw [hm] at this
    exact this
  have GD : Hid (rok r = true → ∀ (g md cd : Nat) (rx : List Value) (W : World), Below (w1.alloc (.cells #[.string r.name, .int .i64 r.ty, .int .i64 r.ttl, .int .i64 r.n, .string r.host, .string r.text] 25)).heap.size (w1.alloc (.cells #[.string r.name, .int .i64 r.ty, .int .i64 r.ttl, .int .i64 r.n, .string r.host, .string r.text] 25)) W → (dat r).length = md → md ≤ cd → Bk W g 5 ((dat r).map bv ++ rx) → Calls Tryz.prog 15 #[.slice (some ⟨g, 0, none⟩) md cd, .int .i64 0, .int .i64 (md : Int), .int .i64 r.ty] W fun e w' => e = .returned (.tuple #[.agg #[.string ⟨#[]⟩, .int .i64 r.ty, .int .i64 0, .int .i64 r.n, .string r.host, .string r.text], .int .i64 0]) ∧ Below W.heap.size W w') := fun h g md cd rx W hW hm hc hb => by
    have := GetI.data (some ⟨g, 0, none⟩) md cd (dat r) 0 (md : Int) r.ty W (EN.out W hW) (hm ▸ (hb.sl'.wider hb.lt)) hc (by have := HDL.out; omega)
    rw [← hm, back_d h, hm] at this
    exact this
  have LW : Hid (Below w.heap.size w (w1.alloc (.cells #[.string r.name, .int .i64 r.ty, .int .i64 r.ttl, .int .i64 r.n, .string r.host, .string r.text] 25))) := L1.out
  clear L1 HE HS
  have L1 := Lib.hid (Below.refl (w1.alloc (.cells #[.string r.name, .int .i64 r.ty, .int .i64 r.ttl, .int .i64 r.n, .string r.host, .string r.text] 25)).heap.size (w1.alloc (.cells #[.string r.name, .int .i64 r.ty, .int .i64 r.ttl, .int .i64 r.n, .string r.host, .string r.text] 25)))
  generalize lb ++ tailR lb r = X at *
  generalize dat r = D at *
  obtain ⟨x0, x1, x2, x3, x4, x5⟩ := R1.out
  go_wp2_with fail
  refine (XI.out _ L1.out).mono ?_
  rintro e w2 ⟨gx, mx, cx, rx, rfl, hmx, hcx, hg, hb, hl⟩
  have MX := Lib.hid hmx
  have X2 := Lib.hid hb
  have L2 := Lib.hid (L1.out.trans (hl.mono L1.out.size))
  have R2 := Lib.hid (R1.out.below hl)
  clear hl L1 R1 hmx hg hb x0 x1 x2 x3 x4 x5
  obtain ⟨x0, x1, x2, x3, x4, x5⟩ := R2.out
  go_wp2_with fail
  refine (DI.out w2 L2.out).mono ?_
  rintro e w3 ⟨gd, md, cd, rd, rfl, hmd, hcd, hg, hb, hl⟩
  have MD := Lib.hid hmd
  have D3 := Lib.hid hb
  have L3 := Lib.hid (L2.out.trans (hl.mono L2.out.size))
  have R3 := Lib.hid (R2.out.below hl)
  have X3 := Lib.hid (X2.out.below hl X2.out.lt)
  clear hl L2 R2 X2 hmd hg hb x0 x1 x2 x3 x4 x5
  obtain ⟨x0, x1, x2, x3, x4, x5⟩ := R3.out
  go_wp2_with fail
  refine (XS.out w3 L3.out).mono ?_
  rintro e w4 ⟨gy, my, cy, ry, rfl, hmy, hcy, hg, hb, hl⟩
  have MY := Lib.hid hmy
  have Y4 := Lib.hid hb
  have L4 := Lib.hid (L3.out.trans (hl.mono L3.out.size))
  have R4 := Lib.hid (R3.out.below hl)
  have X4 := Lib.hid (X3.out.below hl X3.out.lt)
  have D4 := Lib.hid (D3.out.below hl D3.out.lt)
  clear hl L3 R3 X3 D3 hmy hg hb x0 x1 x2 x3 x4 x5
  go_wp2_with fail
  refine (same_same _ _ mx cx my cy X w4 (MX.out ▸ (X4.out.sl'.wider X4.out.lt)) (MY.out ▸ (Y4.out.sl'.wider Y4.out.lt)) (by have := HXL.out; have := MX.out; omega) (by have := HXL.out; have := MY.out; omega)).mono ?_
  rintro e w5 ⟨rfl, hl⟩
  have L5 := Lib.hid (L4.out.trans (hl.mono L4.out.size))
  have R5 := Lib.hid (R4.out.below hl)
  have X5 := Lib.hid (X4.out.below hl X4.out.lt)
  have D5 := Lib.hid (D4.out.below hl D4.out.lt)
  clear hl L4 R4 X4 D4 Y4 
  obtain ⟨x0, x1, x2, x3, x4, x5⟩ := R5.out
  go_wp2_with fail
  refine (DS.out w5).mono ?_
  rintro e w6 ⟨ge, me, ce, re, rfl, hme, hce, hg, hb, hl⟩
  have ME := Lib.hid hme
  have E6 := Lib.hid hb
  have L6 := Lib.hid (L5.out.trans (hl.mono L5.out.size))
  have R6 := Lib.hid (R5.out.below hl)
  have X6 := Lib.hid (X5.out.below hl X5.out.lt)
  have D6 := Lib.hid (D5.out.below hl D5.out.lt)
  clear hl L5 R5 X5 D5 hme hg hb x0 x1 x2 x3 x4 x5
  go_wp2_with fail
  refine (same_same _ _ md cd me ce D w6 (MD.out ▸ (D6.out.sl'.wider D6.out.lt)) (ME.out ▸ (E6.out.sl'.wider E6.out.lt)) (by have := HDL.out; have := MD.out; omega) (by have := HDL.out; have := ME.out; omega)).mono ?_
  rintro e w7 ⟨rfl, hl⟩
  have L7 := Lib.hid (L6.out.trans (hl.mono L6.out.size))
  have R7 := Lib.hid (R6.out.below hl)
  have X7 := Lib.hid (X6.out.below hl X6.out.lt)
  have D7 := Lib.hid (D6.out.below hl D6.out.lt)
  clear hl L6 R6 X6 D6 E6 
  obtain ⟨u, hu⟩ : ∃ u, rok r = u := ⟨_, rfl⟩
  have HU := Lib.hid hu
  rw [hu] at RO
  clear hu
  obtain ⟨x0, x1, x2, x3, x4, x5⟩ := R7.out
  go_wp2_with fail
  refine (RO.out w7 L7.out).mono ?_
  rintro e w8 ⟨rfl, hl⟩
  have L8 := Lib.hid (L7.out.trans (hl.mono L7.out.size))
  have R8 := Lib.hid (R7.out.below hl)
  have X8 := Lib.hid (X7.out.below hl X7.out.lt)
  have D8 := Lib.hid (D7.out.below hl D7.out.lt)
  clear hl L7 R7 X7 D7 x0 x1 x2 x3 x4 x5
  have hmx6 : mx ≤ 600 := by have := HXL.out; have := MX.out; omega
  have hmd8 : md ≤ 83 := by have := HDL.out; have := MD.out; omega
  cases u
  · obtain ⟨hX, hD⟩ := BAD.out HU.out
    rw [hX] at X8
    have hmd0 : md = 0 := by have := MD.out; rw [hD] at this; simpa using this.symm
    subst hmd0
    have hmm : mx = m := by have := MX.out; rw [hX, ML.out] at this; exact this.symm
    subst hmm
    have SX := Lib.hid (show Sl w8 w8.heap.size (some ⟨gx, 0, none⟩) mx lb from ML.out ▸ (X8.out.sl'.wider X8.out.lt))
    clear hX hD
    go_wp2_with fail
    refine (same_same _ _ mx cx mx cap lb w8 SX.out (SBx.out w8 L8.out) (by omega) (by omega)).mono ?_
    rintro e w9 ⟨rfl, hl⟩
    have L9 := Lib.hid (L8.out.trans (hl.mono L8.out.size))
    clear hl
    go_wp2
    go_ret
    exact ⟨rfl, LW.out.trans (L9.out.mono LW.out.size)⟩
  · have GR1 := Lib.hid (GR.out HU.out gx mx cx rx w8 L8.out MX.out hcx X8.out)
    have hq := EqlR.eql_same r
    have hgd := EqlR.grd
    have hmm : ((mx : Int) == (mx : Int)) = true := by simp
    go_wp2_with fail
    refine GR1.out.mono ?_
    rintro e w9 ⟨rfl, hl⟩
    have L9 := Lib.hid ((L8.out.trans (hl.mono L8.out.size)).alloc (L8.out.trans (hl.mono L8.out.size)).size (.cells #[.string r.name, .int .i64 r.ty, .int .i64 r.ttl, .int .i64 r.n, .string r.host, .string r.text] 25))
    have D9 := Lib.hid ((D8.out.below hl D8.out.lt).alloc (.cells #[.string r.name, .int .i64 r.ty, .int .i64 r.ttl, .int .i64 r.n, .string r.host, .string r.text] 25))
    have R9 := Lib.hid ((R8.out.below hl).alloc (.cells #[.string r.name, .int .i64 r.ty, .int .i64 r.ttl, .int .i64 r.n, .string r.host, .string r.text] 25))
    have Y9 := Lib.hid (bx_new w9 25 r)
    clear hl
    have GD1 := Lib.hid (GD.out HU.out gd md cd rd _ L9.out MD.out hcd D9.out)
    obtain ⟨x0, x1, x2, x3, x4, x5⟩ := R9.out
    go_wp2_with fail
    refine GD1.out.mono ?_
    rintro e w10 ⟨rfl, hl⟩
    have L10 := Lib.hid ((L9.out.trans (hl.mono L9.out.size)).alloc (L9.out.trans (hl.mono L9.out.size)).size (.cells #[.string r.name, .int .i64 r.ty, .int .i64 r.ttl, .int .i64 r.n, .string r.host, .string r.text] 25))
    have R10 := Lib.hid ((R9.out.below hl).alloc (.cells #[.string r.name, .int .i64 r.ty, .int .i64 r.ttl, .int .i64 r.n, .string r.host, .string r.text] 25))
    have Y10 := Lib.hid ((Y9.out.below hl).alloc (.cells #[.string r.name, .int .i64 r.ty, .int .i64 r.ttl, .int .i64 r.n, .string r.host, .string r.text] 25))
    have r10 := Lib.hid (R9.out.below hl)
    clear hl x0 x1 x2 x3 x4 x5
    have xa := (r10.out.alloc (.cells #[.string ⟨#[]⟩, .int .i64 r.ty, .int .i64 0, .int .i64 r.n, .string r.host, .string r.text] 25)).1
    have xb := (r10.out.alloc (.cells #[.string r.name, .int .i64 r.ty, .int .i64 0, .int .i64 r.n, .string r.host, .string r.text] 25)).2.2.1
    obtain ⟨x0, x1, x2, x3, x4, x5⟩ := R10.out
    obtain ⟨y0, y1, y2, y3, y4, y5⟩ := Y10.out
    go_wp2
    go_ret
    exact ⟨rfl, LW.out.trans (L10.out.mono LW.out.size)⟩
end Go.Proofs.YtcpadkehalgddaaGreatDoor.LawFields
