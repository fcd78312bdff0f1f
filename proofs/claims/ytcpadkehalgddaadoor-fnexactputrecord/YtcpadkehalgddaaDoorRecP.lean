/- What the program's PutRecord does: a new slice that holds the old bytes and those of a valid record. Conditions: fewer than 199000001 bytes in the slice, at most 1048576 in each text; the library's variable internal/bytealg.MaxLen holds an int. -/
import Derived.Test.YtcpadkehalgddaaDoorRecS
import Derived.Test.YtcpadkehalgddaaDoorDataP
import Derived.Test.YtcpadkehalgddaaDoorPutName
namespace Go.Proofs.YtcpadkehalgddaaDoor.RecP
open Go.RowKit Go.Proofs.YtcpadkehalgddaaDoor.Mem Go.Proofs.YtcpadkehalgddaaDoor.MemR Go.Proofs.YtcpadkehalgddaaDoor.App Go.Proofs.YtcpadkehalgddaaDoor.Put Go.Proofs.YtcpadkehalgddaaDoor.PutO Go.Proofs.YtcpadkehalgddaaDoor.BoxR Go.Proofs.YtcpadkehalgddaaDoor.Labels Go.Proofs.YtcpadkehalgddaaDoor.RecOk Go.Proofs.YtcpadkehalgddaaDoor.PutSpec Go.Proofs.YtcpadkehalgddaaDoor.FieldMath Go.Proofs.YtcpadkehalgddaaDoor.DataS Go.Proofs.YtcpadkehalgddaaDoor.RecS

set_option maxRecDepth 100000 in
set_option maxHeartbeats 4000000 in
theorem impl (A : Option Addr) (n c : Nat) (l : List UInt8) (r : Rec) (w : World) (he : Env w) (hs : Sl w w.heap.size A n l) (hnc : n ≤ c) (hnil : A = none → n = 0 ∧ c = 0) (hn : n ≤ 199000000) (hr : Med r) :
    Calls Tryd.prog 36 #[.slice A n c, .agg #[.string r.name, .int .i64 r.ty, .int .i64 r.ttl, .int .i64 r.n, .string r.host, .string r.text]] w (GivesO w (l ++ tailR l r)) := by
  obtain ⟨i0, hi, hz0, hz1, hz2⟩ := info_parts Copy.info
  have HE := Lib.hid he
  have HS := Lib.hid hs
  have HL := Lib.hid hs.1
  have HN := Lib.hid hnil
  clear hs hnil he
  have RO := Lib.hid (fun w he => RecOk.impl r w he hr.mod)
  have PD := Lib.hid (fun w he => DataP.impl r w he hr)
  have hnm : r.name.size ≤ 1048576 := hr.1
  have TA := Lib.hid (t_all l r)
  have TN := Lib.hid (t_none l r)
  have X0 := Lib.hid (bx_new w 25 r)
  have L0 := Lib.hid ((Below.refl w.heap.size w).alloc (Nat.le_refl _) (.cells #[.string r.name, .int .i64 r.ty, .int .i64 r.ttl, .int .i64 r.n, .string r.host, .string r.text] 25))
  obtain ⟨u, hu⟩ : ∃ u, rok r = u := ⟨_, rfl⟩
  have HB := Lib.hid hu
  clear hu
  go_enter Tryd.func36, Tryd.ntmps36
  go_wp2_with fail
  refine (RO.out _ (HE.out.below L0.out)).mono ?_
  rw [HB.out]
  rintro e w1 ⟨rfl, hl⟩
  have L1 := Lib.hid (L0.out.trans (hl.mono L0.out.size))
  have X1 := Lib.hid (X0.out.below hl)
  clear hl L0 X0 RO
  cases u with
  | false =>
    go_wp2_with fail
    refine (appendedO A none n c 0 0 l [] w1 ((HS.out.below L1.out).wider L1.out.size) Sl.nil HN.out (fun _ => ⟨rfl, rfl⟩) (by omega) (by omega)).mono ?_
    rintro e w2 ⟨g, c1, rfl, ho, hl⟩
    generalize (l ++ []).length = m at *
    rw [List.append_nil] at ho
    have F := Lib.hid (GivesO.later (givesO_of ho hl) L1.out)
    clear ho hl
    go_wp2
    go_ret
    rw [TN.out HB.out]
    exact F.out
  | true =>
    have h1 := l1 l r
    have h2 := l2 l r
    have h3 := l3 l r
    have h4 := l4 l r
    have h5 := l5 l r
    rw [HL.out] at h1 h2 h3 h4 h5
    have hd := dat_len r
    have P1 : Hid (∀ (W : World), Below w.heap.size w W → Calls Tryd.prog 79 #[.slice A n c, .string r.name] W (Gives W (t1 l r))) :=
      fun W hW => PutName.impl A n c l r.name W (HE.out.below hW) ((HS.out.below hW).wider hW.size) hnc HN.out (by omega) (by omega)
    have P2 : Hid (∀ (g m c : Nat) (rr : List Value) (W : World), (t1 l r).length = m → Bk W g 5 ((t1 l r).map bv ++ rr) → Calls Tryd.prog 80 #[.slice (some ⟨g, 0, none⟩) m c, .int .i64 r.ty] W (Gives W (t2 l r))) :=
      fun g m c rr W hm hb => implPut2 (some ⟨g, 0, none⟩) m c (t1 l r) r.ty W (hm ▸ (hb.sl'.wider hb.lt)) (fun h => by cases h) (by omega)
    have P3 : Hid (∀ (g m c : Nat) (rr : List Value) (W : World), (t2 l r).length = m → Bk W g 5 ((t2 l r).map bv ++ rr) → Calls Tryd.prog 80 #[.slice (some ⟨g, 0, none⟩) m c, .int .i64 1] W (Gives W (t3 l r))) :=
      fun g m c rr W hm hb => implPut2 (some ⟨g, 0, none⟩) m c (t2 l r) 1 W (hm ▸ (hb.sl'.wider hb.lt)) (fun h => by cases h) (by omega)
    have P4 : Hid (∀ (g m c : Nat) (rr : List Value) (W : World), (t3 l r).length = m → Bk W g 5 ((t3 l r).map bv ++ rr) → Calls Tryd.prog 81 #[.slice (some ⟨g, 0, none⟩) m c, .int .i64 r.ttl] W (Gives W (t4 l r))) :=
      fun g m c rr W hm hb => implPut4 (some ⟨g, 0, none⟩) m c (t3 l r) r.ttl W (hm ▸ (hb.sl'.wider hb.lt)) (fun h => by cases h) (by omega)
    have P5 : Hid (∀ (g m c : Nat) (rr : List Value) (W : World), (t4 l r).length = m → Bk W g 5 ((t4 l r).map bv ++ rr) → Calls Tryd.prog 80 #[.slice (some ⟨g, 0, none⟩) m c, .int .i64 ((dat r).length : Int)] W (GivesO W (t5 l r))) :=
      fun g m c rr W hm hb => implPut2O (some ⟨g, 0, none⟩) m c (t4 l r) ((dat r).length : Int) W (hm ▸ (hb.sl'.wider hb.lt)) (fun h => by cases h) (by omega)
    generalize t1 l r = T1 at *
    generalize t2 l r = T2 at *
    generalize t3 l r = T3 at *
    generalize t4 l r = T4 at *
    generalize t5 l r = T5 at *
    generalize dat r = D at *
    obtain ⟨x0, x1, x2, x3, x4, x5⟩ := X1.out
    go_wp2_with fail
    refine (PD.out _ (HE.out.below L1.out)).mono ?_
    rintro e w2 ⟨gd, md, cd, rd, rfl, hmd, hled, hgd, hbd, hl⟩
    have BD2 := Lib.hid hbd
    have GD := Lib.hid (Nat.le_trans L1.out.size hgd)
    have X2 := Lib.hid (X1.out.below hl)
    have L2 := Lib.hid (L1.out.trans (hl.mono L1.out.size))
    subst hmd
    clear hgd hbd hl x0 x1 x2 x3 x4 x5 X1 L1
    obtain ⟨x0, x1, x2, x3, x4, x5⟩ := X2.out
    go_wp2_with fail
    refine (P1.out _ L2.out).mono ?_
    rintro e w3 ⟨g1, m1, c1, r1, rfl, hm, -, hg, hb, hl⟩
    have M3 := Lib.hid hm
    have B3 := Lib.hid hb
    have BD3 := Lib.hid (BD2.out.below hl BD2.out.lt)
    have X3 := Lib.hid (X2.out.below hl)
    have L3 := Lib.hid (L2.out.trans (hl.mono L2.out.size))
    clear hm hg hb hl x0 x1 x2 x3 x4 x5 X2 L2 BD2
    obtain ⟨x0, x1, x2, x3, x4, x5⟩ := X3.out
    go_wp2_with fail
    refine (P2.out _ _ _ _ _ M3.out B3.out).mono ?_
    rintro e w4 ⟨g2, m2, c2, r2, rfl, hm, -, hg, hb, hl⟩
    have M4 := Lib.hid hm
    have B4 := Lib.hid hb
    have BD4 := Lib.hid (BD3.out.below hl BD3.out.lt)
    have X4 := Lib.hid (X3.out.below hl)
    have L4 := Lib.hid (L3.out.trans (hl.mono L3.out.size))
    clear hm hg hb hl x0 x1 x2 x3 x4 x5 X3 L3 BD3 M3 B3
    go_wp2_with fail
    refine (P3.out _ _ _ _ _ M4.out B4.out).mono ?_
    rintro e w5 ⟨g3, m3, c3, r3, rfl, hm, -, hg, hb, hl⟩
    have M5 := Lib.hid hm
    have B5 := Lib.hid hb
    have BD5 := Lib.hid (BD4.out.below hl BD4.out.lt)
    have X5 := Lib.hid (X4.out.below hl)
    have L5 := Lib.hid (L4.out.trans (hl.mono L4.out.size))
    clear hm hg hb hl X4 L4 BD4 M4 B4
    obtain ⟨x0, x1, x2, x3, x4, x5⟩ := X5.out
    go_wp2_with fail
    refine (P4.out _ _ _ _ _ M5.out B5.out).mono ?_
    rintro e w6 ⟨g4, m4, c4, r4, rfl, hm, -, hg, hb, hl⟩
    have M6 := Lib.hid hm
    have B6 := Lib.hid hb
    have BD6 := Lib.hid (BD5.out.below hl BD5.out.lt)
    have L6 := Lib.hid (L5.out.trans (hl.mono L5.out.size))
    clear hm hg hb hl x0 x1 x2 x3 x4 x5 X5 L5 BD5 M5 B5
    go_wp2_with fail
    refine (P5.out g4 m4 c4 r4 w6 M6.out B6.out).mono ?_
    rintro e w7 ⟨g5, c5, rfl, ho, hl⟩
    have O7 := Lib.hid (owns_base ho L6.out.size)
    have BD7 := Lib.hid (BD6.out.below hl BD6.out.lt)
    have L7 := Lib.hid (L6.out.trans (hl.mono L6.out.size))
    have SD := Lib.hid (show Sl w7 w7.heap.size (some ⟨gd, 0, none⟩) D.length D from BD7.out.sl'.wider BD7.out.lt)
    clear ho hl B6 BD6 L6 BD7 M6
    obtain ⟨m5, hm5⟩ : ∃ m, m = T5.length := ⟨_, rfl⟩
    rw [← hm5] at O7 h5 ⊢
    clear hm5
    go_wp2_with (at_builtin; refine append_src rfl (.tmp 32) (.tmp 33) 22 rfl w.heap.size 5 i0 (.int .u8 0) Tryd.underlying22 hi hz0 hz1 hz2 rfl g5 m5 c5 (T5.map bv) rfl O7.out (some ⟨gd, 0, none⟩) D.length cd _ D rfl SD.out (fun h => by cases h) ?d1 ?d2 ?d3 ?_)
    case d1 => omega
    case d2 => omega
    case d3 => exact L7.out.size
    intro g7 c7 w8 hown hgrow
    rw [← List.map_append, TA.out HB.out] at hown
    have O8 := Lib.hid hown
    have L8 := Lib.hid (L7.out.grown hgrow L7.out.size (fun j hj => by cases hj; exact (O7.out.lt g5 rfl).1))
    clear hown hgrow
    go_wp2
    go_ret
    exact givesO_of O8.out L8.out
end Go.Proofs.YtcpadkehalgddaaDoor.RecP
