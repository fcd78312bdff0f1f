/- What the model's PutRecord does: a new slice that holds the old bytes and those of a valid record. Conditions: fewer than 199000001 bytes in the slice, at most 1048576 in each text. -/
import Derived.Test.YtcpadkehalgddaaDoorDataS
import Derived.Test.YtcpadkehalgddaaDoorPutO
namespace Go.Proofs.YtcpadkehalgddaaDoor.RecS
open Go.RowKit Go.Proofs.YtcpadkehalgddaaDoor.Mem Go.Proofs.YtcpadkehalgddaaDoor.MemR Go.Proofs.YtcpadkehalgddaaDoor.App Go.Proofs.YtcpadkehalgddaaDoor.Put Go.Proofs.YtcpadkehalgddaaDoor.PutO Go.Proofs.YtcpadkehalgddaaDoor.PutLabel Go.Proofs.YtcpadkehalgddaaDoor.BoxR Go.Proofs.YtcpadkehalgddaaDoor.RecOk Go.Proofs.YtcpadkehalgddaaDoor.Plain Go.Proofs.YtcpadkehalgddaaDoor.PutSpec Go.Proofs.YtcpadkehalgddaaDoor.FieldMath Go.Proofs.YtcpadkehalgddaaDoor.DataS

/-- The bytes as they grow. -/
def t1 (l : List UInt8) (r : Rec) : List UInt8 := l ++ tailN l r.name
def t2 (l : List UInt8) (r : Rec) : List UInt8 := t1 l r ++ tail2 r.ty
def t3 (l : List UInt8) (r : Rec) : List UInt8 := t2 l r ++ tail2 1
def t4 (l : List UInt8) (r : Rec) : List UInt8 := t3 l r ++ tail4 r.ttl
def t5 (l : List UInt8) (r : Rec) : List UInt8 := t4 l r ++ tail2 ((dat r).length : Int)
section
variable (l : List UInt8) (r : Rec)
theorem l1 : (t1 l r).length ≤ l.length + 80 := by unfold t1; rw [List.length_append]; have := tailN_len l r.name; omega
theorem l2 : (t2 l r).length ≤ l.length + 82 := by unfold t2; rw [List.length_append]; have := tail2_len r.ty; have := l1 l r; omega
theorem l3 : (t3 l r).length ≤ l.length + 84 := by unfold t3; rw [List.length_append]; have := tail2_len 1; have := l2 l r; omega
theorem l4 : (t4 l r).length ≤ l.length + 88 := by unfold t4; rw [List.length_append]; have := tail4_len r.ttl; have := l3 l r; omega
theorem l5 : (t5 l r).length ≤ l.length + 90 := by unfold t5; rw [List.length_append]; have := tail2_len ((dat r).length : Int); have := l4 l r; omega
theorem t_all (h : rok r = true) : t5 l r ++ dat r = l ++ tailR l r := by
  unfold t5 t4 t3 t2 t1
  rw [tailR, if_pos h]
  simp only [List.append_assoc]
theorem t_none (h : rok r = false) : l ++ tailR l r = l := by
  rw [tailR, h]
  simp
end
theorem kept6 {w w1 w2 : World} {g : Nat} {r : Rec} (h : (w1.cell? ⟨g, 0, none⟩ = some (.string r.name) ∧ w1.cell? ⟨g, 1, none⟩ = some (.int .i64 r.ty) ∧ w1.cell? ⟨g, 2, none⟩ = some (.int .i64 r.ttl) ∧ w1.cell? ⟨g, 3, none⟩ = some (.int .i64 r.n) ∧ w1.cell? ⟨g, 4, none⟩ = some (.string r.host) ∧ w1.cell? ⟨g, 5, none⟩ = some (.string r.text)) ∧ Sv w w1) (hl : Below w1.heap.size w1 w2) :
    (w2.cell? ⟨g, 0, none⟩ = some (.string r.name) ∧ w2.cell? ⟨g, 1, none⟩ = some (.int .i64 r.ty) ∧ w2.cell? ⟨g, 2, none⟩ = some (.int .i64 r.ttl) ∧ w2.cell? ⟨g, 3, none⟩ = some (.int .i64 r.n) ∧ w2.cell? ⟨g, 4, none⟩ = some (.string r.host) ∧ w2.cell? ⟨g, 5, none⟩ = some (.string r.text)) ∧ Sv w w2 :=
  ⟨show Bx w2 g r from (show Bx w1 g r from h.1).below hl, h.2.trans (hl.mono h.2.size)⟩
theorem kept6_draw {w w1 : World} {g : Nat} {r : Rec} (h : (w1.cell? ⟨g, 0, none⟩ = some (.string r.name) ∧ w1.cell? ⟨g, 1, none⟩ = some (.int .i64 r.ty) ∧ w1.cell? ⟨g, 2, none⟩ = some (.int .i64 r.ttl) ∧ w1.cell? ⟨g, 3, none⟩ = some (.int .i64 r.n) ∧ w1.cell? ⟨g, 4, none⟩ = some (.string r.host) ∧ w1.cell? ⟨g, 5, none⟩ = some (.string r.text)) ∧ Sv w w1) :
    (w1.drew.cell? ⟨g, 0, none⟩ = some (.string r.name) ∧ w1.drew.cell? ⟨g, 1, none⟩ = some (.int .i64 r.ty) ∧ w1.drew.cell? ⟨g, 2, none⟩ = some (.int .i64 r.ttl) ∧ w1.drew.cell? ⟨g, 3, none⟩ = some (.int .i64 r.n) ∧ w1.drew.cell? ⟨g, 4, none⟩ = some (.string r.host) ∧ w1.drew.cell? ⟨g, 5, none⟩ = some (.string r.text)) ∧ Sv w w1.drew := kept6 h ((Below.refl _ _).drew)

set_option maxRecDepth 100000 in
set_option maxHeartbeats 4000000 in
theorem spec (A : Option Addr) (n c : Nat) (l : List UInt8) (r : Rec) (w : World) (hs : Sl w w.heap.size A n l) (hnc : n ≤ c) (hnil : A = none → n = 0 ∧ c = 0) (hn : n ≤ 199000000) (hr : Med r) :
    Calls Tryd.prog 35 #[.slice A n c, .agg #[.string r.name, .int .i64 r.ty, .int .i64 r.ttl, .int .i64 r.n, .string r.host, .string r.text]] w (GivesO w (l ++ tailR l r)) := by
  obtain ⟨i0, hi, hz0, hz1, hz2⟩ := info_parts Copy.info
  have HS := Lib.hid hs
  have HL := Lib.hid hs.1
  have HN := Lib.hid hnil
  clear hs hnil
  have RO := Lib.hid (fun w => RecOk.spec r w hr.mod)
  have PD := Lib.hid (fun w => DataS.spec r w hr)
  have hnm : r.name.size ≤ 1048576 := hr.1
  have TA := Lib.hid (t_all l r)
  have TN := Lib.hid (t_none l r)
  have X0 := Lib.hid (bx_new w 25 r)
  have L0 := Lib.hid ((Below.refl w.heap.size w).alloc (Nat.le_refl _) (.cells #[.string r.name, .int .i64 r.ty, .int .i64 r.ttl, .int .i64 r.n, .string r.host, .string r.text] 25))
  obtain ⟨u, hu⟩ : ∃ u, rok r = u := ⟨_, rfl⟩
  have HB := Lib.hid hu
  clear hu
  go_enter Tryd.func35, Tryd.ntmps35
  go_wp2_with fail
  refine (RO.out _).mono ?_
  rw [HB.out]
  rintro e w1 ⟨rfl, hl⟩
  have L1 := Lib.hid (L0.out.trans (hl.mono L0.out.size))
  have X1 := Lib.hid (X0.out.below hl)
  clear hl L0 X0 RO
  cases u with
  | false =>
    have SA := Lib.hid (sl_alloc ((HS.out.below L1.out).wider L1.out.size) (.cells #[] 5))
    have ON := Lib.hid (owns_base (owns_new w1) L1.out.size)
    go_wp2_with (at_builtin; refine append_src rfl (.tmp 10) (.tmp 11) 22 rfl w.heap.size 5 i0 (.int .u8 0) Tryd.underlying22 hi hz0 hz1 hz2 rfl w1.heap.size 0 0 [] rfl ON.out A n c _ l rfl SA.out HN.out ?c1 ?c2 ?c3 ?_)
    case c1 => omega
    case c2 => omega
    case c3 => have := L1.out.size; simp; omega
    intro g1 cap1 w2 hown hgrow
    have O1 := Lib.hid hown
    have L2 := Lib.hid ((L1.out.alloc L1.out.size (.cells #[] 5)).grown hgrow (by have := L1.out.size; simp; omega) (fun j hj => by cases hj; exact L1.out.size))
    clear hown hgrow
    go_wp2
    go_ret
    rw [TN.out HB.out]
    exact givesO_of O1.out L2.out
  | true =>
    have h1 := l1 l r
    have h2 := l2 l r
    have h3 := l3 l r
    have h4 := l4 l r
    have h5 := l5 l r
    rw [HL.out] at h1 h2 h3 h4 h5
    have hd := dat_len r
    have PN : Hid (∀ (W : World), ((W.cell? ⟨w.heap.size, 0, none⟩ = some (.string r.name) ∧ W.cell? ⟨w.heap.size, 1, none⟩ = some (.int .i64 r.ty) ∧ W.cell? ⟨w.heap.size, 2, none⟩ = some (.int .i64 r.ttl) ∧ W.cell? ⟨w.heap.size, 3, none⟩ = some (.int .i64 r.n) ∧ W.cell? ⟨w.heap.size, 4, none⟩ = some (.string r.host) ∧ W.cell? ⟨w.heap.size, 5, none⟩ = some (.string r.text)) ∧ Sv w W) → Calls Tryd.prog 77 #[.slice A n c, .string r.name] W (Gives W (t1 l r))) :=
      fun W hW => (PutSpec.spec A n c l r.name W ((HS.out.below hW.2).wider hW.2.size) hnc HN.out (by omega) (by omega)).mono fun e w' h => h.gives
    have P2 : Hid (∀ (g m c : Nat) (rr : List Value) (W : World), (t1 l r).length = m → Bk W g 5 ((t1 l r).map bv ++ rr) → Calls Tryd.prog 76 #[.slice (some ⟨g, 0, none⟩) m c, .int .i64 r.ty] W (Gives W (t2 l r))) :=
      fun g m c rr W hm hb => specPut2 (some ⟨g, 0, none⟩) m c (t1 l r) r.ty W (hm ▸ (hb.sl'.wider hb.lt)) (fun h => by cases h) (by omega)
    have P3 : Hid (∀ (g m c : Nat) (rr : List Value) (W : World), (t2 l r).length = m → Bk W g 5 ((t2 l r).map bv ++ rr) → Calls Tryd.prog 76 #[.slice (some ⟨g, 0, none⟩) m c, .int .i64 1] W (Gives W (t3 l r))) :=
      fun g m c rr W hm hb => specPut2 (some ⟨g, 0, none⟩) m c (t2 l r) 1 W (hm ▸ (hb.sl'.wider hb.lt)) (fun h => by cases h) (by omega)
    have P4 : Hid (∀ (g m c : Nat) (rr : List Value) (W : World), (t3 l r).length = m → Bk W g 5 ((t3 l r).map bv ++ rr) → Calls Tryd.prog 68 #[.slice (some ⟨g, 0, none⟩) m c, .int .i64 r.ttl] W (Gives W (t4 l r))) :=
      fun g m c rr W hm hb => specPut4 (some ⟨g, 0, none⟩) m c (t3 l r) r.ttl W (hm ▸ (hb.sl'.wider hb.lt)) (fun h => by cases h) (by omega)
    have P5 : Hid (∀ (g m c : Nat) (rr : List Value) (W : World), (t4 l r).length = m → Bk W g 5 ((t4 l r).map bv ++ rr) → Calls Tryd.prog 76 #[.slice (some ⟨g, 0, none⟩) m c, .int .i64 ((dat r).length : Int)] W (GivesO W (t5 l r))) :=
      fun g m c rr W hm hb => specPut2O (some ⟨g, 0, none⟩) m c (t4 l r) ((dat r).length : Int) W (hm ▸ (hb.sl'.wider hb.lt)) (fun h => by cases h) (by omega)
    have S0 : (w1.cell? ⟨w.heap.size, 0, none⟩ = some (.string r.name) ∧ w1.cell? ⟨w.heap.size, 1, none⟩ = some (.int .i64 r.ty) ∧ w1.cell? ⟨w.heap.size, 2, none⟩ = some (.int .i64 r.ttl) ∧ w1.cell? ⟨w.heap.size, 3, none⟩ = some (.int .i64 r.n) ∧ w1.cell? ⟨w.heap.size, 4, none⟩ = some (.string r.host) ∧ w1.cell? ⟨w.heap.size, 5, none⟩ = some (.string r.text)) ∧ Sv w w1 := ⟨X1.out, L1.out⟩
    generalize t1 l r = T1 at *
    generalize t2 l r = T2 at *
    generalize t3 l r = T3 at *
    generalize t4 l r = T4 at *
    generalize t5 l r = T5 at *
    generalize dat r = D at *
    have LW := Lib.hid (Nat.le_trans L1.out.size (Nat.le_refl _))
    clear X1
    go_wp2
    go_region_held3 (fun w' => (w'.cell? ⟨w.heap.size, 0, none⟩ = some (.string r.name) ∧ w'.cell? ⟨w.heap.size, 1, none⟩ = some (.int .i64 r.ty) ∧ w'.cell? ⟨w.heap.size, 2, none⟩ = some (.int .i64 r.ttl) ∧ w'.cell? ⟨w.heap.size, 3, none⟩ = some (.int .i64 r.n) ∧ w'.cell? ⟨w.heap.size, 4, none⟩ = some (.string r.host) ∧ w'.cell? ⟨w.heap.size, 5, none⟩ = some (.string r.text)) ∧ Sv w w')
      (first | exact S0 | assumption | exact kept6 (by assumption) hl | exact kept6_draw (by assumption) | fail)
      (first
        | (go_at_call 77; refine (PN.out _ (by assumption)).mono ?_; rintro e w11 ⟨g1, m1, c1, r1, rfl, hm1, -, hg1, hb1, hl⟩)
        | (go_at_call 68; refine (P4.out _ _ _ _ _ hm3 hb3).mono ?_; rintro e w14 ⟨g4, m4, c4, r4, rfl, hm4, -, hg4, hb4, hl⟩)
        | (go_at_call 76; refine (P3.out _ _ _ _ _ hm2 hb2).mono ?_; rintro e w13 ⟨g3, m3, c3, r3, rfl, hm3, -, hg3, hb3, hl⟩)
        | (go_at_call 76; refine (P2.out _ _ _ _ _ hm1 hb1).mono ?_; rintro e w12 ⟨g2, m2, c2, r2, rfl, hm2, -, hg2, hb2, hl⟩)
        | fail)
    rename_i hH
    have X14 : Hid (Bx w14 w.heap.size r) := hH.1
    have L14 : Hid (Below w.heap.size w w14) := hH.2
    have M4 := Lib.hid hm4
    have B4 := Lib.hid hb4
    clear hH hm1 hb1 hg1 hm2 hb2 hg2 hm3 hb3 hg3 hm4 hb4 hg4 hl S0 PN P2 P3 P4 L1 LW
    obtain ⟨x0, x1, x2, x3, x4, x5⟩ := X14.out
    go_wp2_with fail
    refine (PD.out _).mono ?_
    rintro e w15 ⟨gd, md, cd, rd, rfl, hmd, hled, hgd, hbd, hl⟩
    have BD := Lib.hid hbd
    have B5 := Lib.hid (B4.out.below hl B4.out.lt)
    have L15 := Lib.hid (L14.out.trans (hl.mono L14.out.size))
    subst hmd
    clear hgd hbd hl x0 x1 x2 x3 x4 x5 X14 B4 L14
    go_wp2_with fail
    refine (P5.out g4 m4 c4 r4 w15 M4.out B5.out).mono ?_
    rintro e w16 ⟨g5, c5, rfl, ho, hl⟩
    have O6 := Lib.hid (owns_base ho L15.out.size)
    have G6 := Lib.hid (show w15.heap.size ≤ g5 from (ho.lt g5 rfl).1)
    have BD6 := Lib.hid (BD.out.below hl BD.out.lt)
    have L16 := Lib.hid (L15.out.trans (hl.mono L15.out.size))
    have SD := Lib.hid (show Sl w16 w16.heap.size (some ⟨gd, 0, none⟩) D.length D from BD6.out.sl'.wider BD6.out.lt)
    clear ho hl B5 BD L15 BD6
    obtain ⟨m5, hm5⟩ : ∃ m, m = T5.length := ⟨_, rfl⟩
    rw [← hm5] at O6 h5 ⊢
    clear hm5
    go_wp2_with (at_builtin; refine append_src rfl (.tmp 29) (.tmp 30) 22 rfl w.heap.size 5 i0 (.int .u8 0) Tryd.underlying22 hi hz0 hz1 hz2 rfl g5 m5 c5 (T5.map bv) rfl O6.out (some ⟨gd, 0, none⟩) D.length cd _ D rfl SD.out (fun h => by cases h) ?d1 ?d2 ?d3 ?_)
    case d1 => omega
    case d2 => omega
    case d3 => exact L16.out.size
    intro g7 c7 w17 hown hgrow
    rw [← List.map_append, TA.out HB.out] at hown
    have O7 := Lib.hid hown
    have L17 := Lib.hid (L16.out.grown hgrow L16.out.size (fun j hj => by cases hj; exact (O6.out.lt g5 rfl).1))
    clear hown hgrow
    go_wp2
    go_ret
    exact givesO_of O7.out L17.out
end Go.Proofs.YtcpadkehalgddaaDoor.RecS
