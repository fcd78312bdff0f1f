/- What PutHead does in the program and in the model: a new slice with the header's bytes. -/
import Derived.Test.YtkfibepejlgniaaHeadDef
import Derived.Test.YtkfibepejlgniaaPutO
import Derived.Test.YtkfibepejlgniaaResM
import Derived.Deep.RegionHeld3
import Derived.BigQuiet
namespace Go.Proofs.Ytkfibepejlgniaa.HeadS
open Go.RowKit Go.Proofs.Ytkfibepejlgniaa.Mem Go.Proofs.Ytkfibepejlgniaa.MemR Go.Proofs.Ytkfibepejlgniaa.MemM Go.Proofs.Ytkfibepejlgniaa.App Go.Proofs.Ytkfibepejlgniaa.Put Go.Proofs.Ytkfibepejlgniaa.PutO Go.Proofs.Ytkfibepejlgniaa.HeadDef

section
variable {w0 w w' : World} {g base n cap : Nat} {h : Hd} {x y z : Value} {l : List UInt8}
theorem kept1 (m : Mx w g h x y z ∧ Sv w0 w) (hl : Below w.heap.size w w') : Mx w' g h x y z ∧ Sv w0 w' := ⟨m.1.below hl, m.2.trans (hl.mono m.2.size)⟩
theorem kept1_draw (m : Mx w g h x y z ∧ Sv w0 w) : Mx w.drew g h x y z ∧ Sv w0 w.drew := kept1 m ((Below.refl _ _).drew)
theorem svt (h : Sv w0 w) (hl : Below w.heap.size w w') : Sv w0 w' := h.trans (hl.mono h.size)
theorem sv_size (h : Sv w0 w) : w0.heap.size ≤ w.heap.size := Below.size h
theorem ownB_below (h : w.ownsRow base 5 1 (.slice (some ⟨g, 0, none⟩) n cap) n (l.map bv)) (hb : Below w.heap.size w w') : w'.ownsRow base 5 1 (.slice (some ⟨g, 0, none⟩) n cap) n (l.map bv) :=
  h.kept (row := none) ⟨hb.os, hb.tape, hb.output, hb.size, fun k hk _ => hb.block k hk⟩ (Or.inr (by simp [Value.ownBlock]))
theorem ownB_sl (h : w.ownsRow base 5 1 (.slice (some ⟨g, 0, none⟩) n cap) n (l.map bv)) : Sl w w.heap.size (some ⟨g, 0, none⟩) n l ∧ n ≤ cap ∧ base ≤ g ∧ l.length = n := by
  have hl : l.length = n := by have := h.1; simpa using this
  obtain ⟨r, hb, hr, hg⟩ := bk_of_owns h
  exact ⟨hl ▸ (hb.sl'.wider hb.lt), by rw [← hr, List.length_append, List.length_map, hl]; omega, hg, hl⟩
end

/-- append of bytes as one step of a region that draws. -/
theorem step_append_bytes {ops : Array Oper} {o : Oper} {a : Act} {w : World} {K : Act → World → Prop} {Q : Exit → Act → World → Prop} {E : Prop} (hgd : o.guard = none) (s x : Operand)
    (ho : o.op = .call { callee := .builtin .append, args := #[s, x], argTypes := #[28, 28] })
    (base g n cap : Nat) (L : List UInt8) (hs : a.eval s = .slice (some ⟨g, 0, none⟩) n cap) (hown : w.ownsRow base 5 1 (.slice (some ⟨g, 0, none⟩) n cap) n (L.map bv))
    (b off m c B : Nat) (l : List UInt8) (hx : a.eval x = .slice (some ⟨b, off, none⟩) m c) (hl : Sl w B (some ⟨b, off, none⟩) m l)
    (hn : n ≤ 800000000) (hm : m ≤ 800000000) (hm0 : 0 < m) (hbase : base ≤ w.heap.size)
    (h : ∀ g' cap' w', w'.ownsRow base 5 1 (.slice (some ⟨g', 0, none⟩) (n + m) cap') (n + m) ((L ++ l).map bv) → w.grownBy w' (some g) → K (a.put o.dst (.slice (some ⟨g', 0, none⟩) (n + m) cap')) w') :
    if Region.wanted o (yielded ops a.tmps) = true then Oper.wp Try.prog o a w K Q else E := by
  have hw : Region.wanted o (yielded ops a.tmps) = true := by simp [Region.wanted, hgd]
  rw [if_pos hw]
  obtain ⟨i0, hi, hz0, hz1, hz2⟩ := info_parts Copy.info
  exact wp_append_own w s x 28 ho base 5 i0 _ 1 1 Try.underlying28 hi hz0 hz1 hz2 rfl (by decide) _ n (L.map bv) hs hown ⟨b, off, none⟩ m c (l.map bv) hx (by simp [hl.1]) (cells_of hl _ rfl) (oneCells l) (by unfold maxLen; omega) (by omega) hbase
    (fun v' w' h1 h2 h3 => by
      rcases h1.2 with ⟨hv, _⟩ | ⟨g', cap', cur, hv, _⟩
      · have := (h3.1 hv).2
        omega
      · subst hv
        exact h g' cap' w' (by rw [List.map_append]; exact h1) h2)

theorem flagS (b : Bool) (n : Int) (w : World) : Calls Try.prog 21 #[.bool b, .int .i64 n] w fun e w' => e = .returned (.int .i64 (bi b n)) ∧ w = w' := by
  cases b
  all_goals
    go_enter Try.func21, Try.ntmps21
    go_wp2
    go_ret
    exact ⟨rfl, rfl⟩

theorem bitI (b : Bool) (n : Int) (w : World) : Calls Try.prog 38 #[.bool b, .int .u8 n] w fun e w' => e = .returned (.int .u8 (bi b n)) ∧ w = w' := by
  cases b
  all_goals
    go_enter Try.func38, Try.ntmps38
    go_wp2
    go_ret
    exact ⟨rfl, rfl⟩

set_option maxRecDepth 100000 in
set_option maxHeartbeats 4000000 in
theorem flagBytes (h : Hd) (A1 A2 A3 : Option Addr) (n1 c1 n2 c2 n3 c3 : Nat) (w : World) : Calls Try.prog 26 #[.agg #[.int .i64 h.id, .bool h.rp, .bool h.au, .bool h.ct, .bool h.wa, .bool h.ca, .int .i64 h.code, .string h.qn, .int .i64 h.qt, .slice A1 n1 c1, .slice A2 n2 c2, .slice A3 n3 c3]] w fun e w' => ∃ g, e = .returned (.slice (some ⟨g, 0, none⟩) 2 2) ∧ Bk w' g 5 ((fls h).map bv) ∧ Below w.heap.size w w' := by
  have X0 := mx_new w 33 h (.slice A1 n1 c1) (.slice A2 n2 c2) (.slice A3 n3 c3)
  have S0 : (Mx (w.alloc (.cells #[.int .i64 h.id, .bool h.rp, .bool h.au, .bool h.ct, .bool h.wa, .bool h.ca, .int .i64 h.code, .string h.qn, .int .i64 h.qt, .slice A1 n1 c1, .slice A2 n2 c2, .slice A3 n3 c3] 33)) w.heap.size h (.slice A1 n1 c1) (.slice A2 n2 c2) (.slice A3 n3 c3) ∧ Sv w (w.alloc (.cells #[.int .i64 h.id, .bool h.rp, .bool h.au, .bool h.ct, .bool h.wa, .bool h.ca, .int .i64 h.code, .string h.qn, .int .i64 h.qt, .slice A1 n1 c1, .slice A2 n2 c2, .slice A3 n3 c3] 33))) := ⟨X0, (Below.refl w.heap.size w).alloc (Nat.le_refl _) _⟩
  have hf := fls_cells h
  have o1 : bits .or .u8 (bits .or .u8 (bits .or .u8 (bi h.rp 128) (bi h.au 4)) (bi h.ct 2)) (bi h.wa 1) = f1 h := or_first h.rp h.au h.ct h.wa
  have o2 : bits .or .u8 (bi h.ca 128) (IntKind.u8.wrap (bits .and .i64 h.code 15)) = f2 h := by
    rw [and15, IntKind.wrap_u8, show h.code % 16 % 256 = h.code % 16 by omega]
    exact or_second h.ca _ (by omega) (by omega)
  have HF := Lib.hid hf
  have O1 := Lib.hid o1
  have O2 := Lib.hid o2
  clear hf X0 o1 o2
  go_enter Try.func26, Try.ntmps26
  go_wp2
  go_region_held3 (fun w' => ((w'.cell? ⟨w.heap.size, 0, none⟩ = some (.int .i64 h.id) ∧ w'.cell? ⟨w.heap.size, 1, none⟩ = some (.bool h.rp) ∧ w'.cell? ⟨w.heap.size, 2, none⟩ = some (.bool h.au) ∧ w'.cell? ⟨w.heap.size, 3, none⟩ = some (.bool h.ct) ∧ w'.cell? ⟨w.heap.size, 4, none⟩ = some (.bool h.wa) ∧ w'.cell? ⟨w.heap.size, 5, none⟩ = some (.bool h.ca) ∧ w'.cell? ⟨w.heap.size, 6, none⟩ = some (.int .i64 h.code) ∧ w'.cell? ⟨w.heap.size, 7, none⟩ = some (.string h.qn) ∧ w'.cell? ⟨w.heap.size, 8, none⟩ = some (.int .i64 h.qt) ∧ w'.cell? ⟨w.heap.size, 9, none⟩ = some (.slice A1 n1 c1) ∧ w'.cell? ⟨w.heap.size, 10, none⟩ = some (.slice A2 n2 c2) ∧ w'.cell? ⟨w.heap.size, 11, none⟩ = some (.slice A3 n3 c3)) ∧ Sv w w'))
    (first | exact S0 | with_reducible assumption | exact kept1_draw (by assumption) | fail)
    (first
      | (go_at_call 38; (with_reducible refine (bitI _ _ _).mono ?_); rintro e w' ⟨rfl, rfl⟩)
      | fail)
  rename_i hH
  clear S0
  rw [O1.out]
  go_wp2
  go_region_held3 (fun w' => ((w'.cell? ⟨w.heap.size, 0, none⟩ = some (.int .i64 h.id) ∧ w'.cell? ⟨w.heap.size, 1, none⟩ = some (.bool h.rp) ∧ w'.cell? ⟨w.heap.size, 2, none⟩ = some (.bool h.au) ∧ w'.cell? ⟨w.heap.size, 3, none⟩ = some (.bool h.ct) ∧ w'.cell? ⟨w.heap.size, 4, none⟩ = some (.bool h.wa) ∧ w'.cell? ⟨w.heap.size, 5, none⟩ = some (.bool h.ca) ∧ w'.cell? ⟨w.heap.size, 6, none⟩ = some (.int .i64 h.code) ∧ w'.cell? ⟨w.heap.size, 7, none⟩ = some (.string h.qn) ∧ w'.cell? ⟨w.heap.size, 8, none⟩ = some (.int .i64 h.qt) ∧ w'.cell? ⟨w.heap.size, 9, none⟩ = some (.slice A1 n1 c1) ∧ w'.cell? ⟨w.heap.size, 10, none⟩ = some (.slice A2 n2 c2) ∧ w'.cell? ⟨w.heap.size, 11, none⟩ = some (.slice A3 n3 c3)) ∧ Sv w w'))
    (first | with_reducible assumption | exact hH | exact kept1_draw (by assumption) | fail)
    (first
      | (go_at_call 38; (with_reducible refine (bitI _ _ _).mono ?_); rintro e w' ⟨rfl, rfl⟩)
      | fail)
  rename_i hH2
  rw [O2.out]
  go_wp2
  go_ret
  have hk : Bk ((w.alloc (.cells #[.int .i64 h.id, .bool h.rp, .bool h.au, .bool h.ct, .bool h.wa, .bool h.ca, .int .i64 h.code, .string h.qn, .int .i64 h.qt, .slice A1 n1 c1, .slice A2 n2 c2, .slice A3 n3 c3] 33)).alloc (.cells #[.int .u8 (f1 h), .int .u8 (f2 h)] 5)) (w.heap.size + 1) 5 ((fls h).map bv) := by rw [HF.out]; exact ResM.at2
  exact ⟨_, rfl, hk, (((Below.refl w.heap.size w).alloc (Nat.le_refl _) _).alloc (by simp) _).drew.drew⟩

/-- What Put2 does with a row of one's own. -/
def P2 (base : Nat) (L : List UInt8) (m : Nat) (k : Int) (W : World) (e : Ending) (w' : World) : Prop :=
  ∃ g' m' cap', e = .returned (.slice (some ⟨g', 0, none⟩) m' cap') ∧ w'.ownsRow base 5 1 (.slice (some ⟨g', 0, none⟩) m' cap') m' ((L ++ tail2 k).map bv) ∧ m' ≤ m + 2 ∧ Below W.heap.size W w'
theorem p2_of {base : Nat} {L : List UInt8} {m : Nat} {k : Int} {W w' : World} {e : Ending} (h : GivesO W (L ++ tail2 k) e w') (hl : L.length = m) (hb : base ≤ W.heap.size) : P2 base L m k W e w' := by
  obtain ⟨g, cap, he, ho, hl'⟩ := h
  exact ⟨g, _, cap, he, owns_base ho hb, by rw [List.length_append, hl]; have := t2_len k; omega, hl'⟩

set_option maxRecDepth 100000 in
set_option maxHeartbeats 8000000 in
theorem spec (h : Hd) (A1 A2 A3 : Option Addr) (n1 c1 n2 c2 n3 c3 : Nat) (w : World) : Calls Try.prog 6 #[.agg #[.int .i64 h.id, .bool h.rp, .bool h.au, .bool h.ct, .bool h.wa, .bool h.ca, .int .i64 h.code, .string h.qn, .int .i64 h.qt, .slice A1 n1 c1, .slice A2 n2 c2, .slice A3 n3 c3]] w (Gives w (hdl h n1 n2 n3)) := by
  have X0 := Lib.hid ((mx_new w 33 h (.slice A1 n1 c1) (.slice A2 n2 c2) (.slice A3 n3 c3)).alloc (.cells #[] 5))
  have L0 := Lib.hid (((Below.refl w.heap.size w).alloc (Nat.le_refl _) (.cells #[.int .i64 h.id, .bool h.rp, .bool h.au, .bool h.ct, .bool h.wa, .bool h.ca, .int .i64 h.code, .string h.qn, .int .i64 h.qt, .slice A1 n1 c1, .slice A2 n2 c2, .slice A3 n3 c3] 33)).alloc (by simp) (.cells #[] 5))
  have PT : Hid (∀ (W : World) (g m cap : Nat) (L : List UInt8) (k : Int), Sv w W → W.ownsRow w.heap.size 5 1 (.slice (some ⟨g, 0, none⟩) m cap) m (L.map bv) → m ≤ 400000000 → Calls Try.prog 20 #[.slice (some ⟨g, 0, none⟩) m cap, .int .i64 k] W (P2 w.heap.size L m k W)) := fun W g m cap L k hW ho hm =>
    (specPut2O _ m cap L k W (ownB_sl ho).1 (fun h => by cases h) hm).mono fun e w' hg => p2_of hg (ownB_sl ho).2.2.2 hW.size
  have HF := Lib.hid (fls_cells h)
  have HH : Hid (hdl h n1 n2 n3 = tail2 h.id ++ fls h ++ tail2 1 ++ tail2 (n1 : Int) ++ tail2 (n2 : Int) ++ tail2 (n3 : Int)) := rfl
  have i1 := f1_in h
  have i2 := f2_in h
  have F1 : Hid (f1 h = bi h.rp 128 + bi h.au 4 + bi h.ct 2 + bi h.wa 1) := rfl
  have F2 : Hid (f2 h = bi h.ca 128 + h.code % 16) := rfl
  have j1 := bi_lo h.rp 128 (by decide)
  have j2 := bi_lo h.au 4 (by decide)
  have j3 := bi_lo h.ct 2 (by decide)
  have j4 := bi_lo h.wa 1 (by decide)
  have j5 := bi_lo h.ca 128 (by decide)
  have E1 : Hid (IntKind.i64.wrap (bi h.rp 128 + bi h.au 4) = bi h.rp 128 + bi h.au 4) := by show _ = _; rw [IntKind.wrap_i64]; omega
  have E2 : Hid (IntKind.i64.wrap (bi h.rp 128 + bi h.au 4 + bi h.ct 2) = bi h.rp 128 + bi h.au 4 + bi h.ct 2) := by show _ = _; rw [IntKind.wrap_i64]; omega
  have E3 : Hid (IntKind.i64.wrap (bi h.rp 128 + bi h.au 4 + bi h.ct 2 + bi h.wa 1) = f1 h) := by show _ = _; rw [IntKind.wrap_i64, F1.out]; omega
  have E4 : Hid (IntKind.u8.wrap (f1 h) = f1 h) := by show _ = _; rw [IntKind.wrap_u8]; omega
  have E5 : Hid (bits .and .i64 h.code 15 = h.code % 16) := and15 h.code
  have E6 : Hid (IntKind.i64.wrap (bi h.ca 128 + h.code % 16) = f2 h) := by show _ = _; rw [IntKind.wrap_i64, F2.out]; omega
  have E7 : Hid (IntKind.u8.wrap (f2 h) = f2 h) := by show _ = _; rw [IntKind.wrap_u8]; omega
  clear i1 i2 j1 j2 j3 j4 j5
  go_enter Try.func6, Try.ntmps6
  obtain ⟨x0, x1, x2, x3, x4, x5, x6, x7, x8, x9, x10, x11⟩ := X0.out
  go_wp2_with fail
  refine (specPut2O _ 0 0 [] h.id _ Sl.nil (fun h => by cases h) (by omega)).mono ?_
  rintro e w1 ⟨g1, cap1, rfl, ho, hl⟩
  have hz : (([] : List UInt8) ++ tail2 h.id).length ≤ 2 := by rw [List.nil_append]; exact t2_len _
  rw [List.nil_append] at ho hz ⊢
  have NB : Hid (w.heap.size < g1) := Nat.lt_of_lt_of_le (by simp; omega) (ownB_sl ho).2.2.1
  have O1 := Lib.hid (owns_base ho L0.out.size)
  have X1 := Lib.hid (X0.out.below hl)
  have L1 := Lib.hid (L0.out.trans (hl.mono L0.out.size))
  clear ho hl L0 X0 x0 x1 x2 x3 x4 x5 x6 x7 x8 x9 x10 x11
  obtain ⟨m1, hm1⟩ : ∃ m1, m1 = (tail2 h.id).length := ⟨_, rfl⟩
  rw [← hm1] at O1 hz ⊢
  clear hm1
  have S0 : ((w1.cell? ⟨w.heap.size, 0, none⟩ = some (.int .i64 h.id) ∧ w1.cell? ⟨w.heap.size, 1, none⟩ = some (.bool h.rp) ∧ w1.cell? ⟨w.heap.size, 2, none⟩ = some (.bool h.au) ∧ w1.cell? ⟨w.heap.size, 3, none⟩ = some (.bool h.ct) ∧ w1.cell? ⟨w.heap.size, 4, none⟩ = some (.bool h.wa) ∧ w1.cell? ⟨w.heap.size, 5, none⟩ = some (.bool h.ca) ∧ w1.cell? ⟨w.heap.size, 6, none⟩ = some (.int .i64 h.code) ∧ w1.cell? ⟨w.heap.size, 7, none⟩ = some (.string h.qn) ∧ w1.cell? ⟨w.heap.size, 8, none⟩ = some (.int .i64 h.qt) ∧ w1.cell? ⟨w.heap.size, 9, none⟩ = some (.slice A1 n1 c1) ∧ w1.cell? ⟨w.heap.size, 10, none⟩ = some (.slice A2 n2 c2) ∧ w1.cell? ⟨w.heap.size, 11, none⟩ = some (.slice A3 n3 c3)) ∧ Sv w w1) := ⟨X1.out, L1.out⟩
  have OA : Hid ((w1.alloc (.cells #[.int .u8 (f1 h), .int .u8 (f2 h)] 5)).drew.ownsRow w.heap.size 5 1 (.slice (some ⟨g1, 0, none⟩) m1 cap1) m1 ((tail2 h.id).map bv)) := O1.out.alloc _
  have SA : Hid (Sl (w1.alloc (.cells #[.int .u8 (f1 h), .int .u8 (f2 h)] 5)).drew (w1.alloc (.cells #[.int .u8 (f1 h), .int .u8 (f2 h)] 5)).heap.size (some ⟨w1.heap.size, 0, none⟩) 2 (fls h)) := sl_new w1 _ (fls h) HF.out.symm
  have BA : Hid (w.heap.size ≤ (w1.alloc (.cells #[.int .u8 (f1 h), .int .u8 (f2 h)] 5)).drew.heap.size) := Nat.le_trans L1.out.size (by simp [World.drew])
  have XA : Hid (∀ w2 : World, (w1.alloc (.cells #[.int .u8 (f1 h), .int .u8 (f2 h)] 5)).drew.grownBy w2 (some g1) → Mx w2 w.heap.size h (.slice A1 n1 c1) (.slice A2 n2 c2) (.slice A3 n3 c3) ∧ Sv w w2) := fun w2 hgrow => ⟨(show Mx (w1.alloc (.cells #[.int .u8 (f1 h), .int .u8 (f2 h)] 5)).drew w.heap.size h (.slice A1 n1 c1) (.slice A2 n2 c2) (.slice A3 n3 c3) from (X1.out.alloc _)).grown hgrow (fun e => by have := Option.some.inj e; have := NB.out; omega), (show Below w.heap.size w (w1.alloc (.cells #[.int .u8 (f1 h), .int .u8 (f2 h)] 5)).drew from (L1.out.alloc L1.out.size _).drew).grown hgrow BA.out (fun j hj => by cases hj; have := NB.out; omega)⟩
  have hz8 : m1 ≤ 800000000 := by omega
  have h28 : 2 ≤ 800000000 := by omega
  have h02 : 0 < 2 := by omega
  have e1 := E1.out
  have e2 := E2.out
  have e3 := E3.out
  have e4 := E4.out
  have e5 := E5.out
  have e6 := E6.out
  have e7 := E7.out
  go_wp2
  go_region_held3 (fun w' => ((w'.cell? ⟨w.heap.size, 0, none⟩ = some (.int .i64 h.id) ∧ w'.cell? ⟨w.heap.size, 1, none⟩ = some (.bool h.rp) ∧ w'.cell? ⟨w.heap.size, 2, none⟩ = some (.bool h.au) ∧ w'.cell? ⟨w.heap.size, 3, none⟩ = some (.bool h.ct) ∧ w'.cell? ⟨w.heap.size, 4, none⟩ = some (.bool h.wa) ∧ w'.cell? ⟨w.heap.size, 5, none⟩ = some (.bool h.ca) ∧ w'.cell? ⟨w.heap.size, 6, none⟩ = some (.int .i64 h.code) ∧ w'.cell? ⟨w.heap.size, 7, none⟩ = some (.string h.qn) ∧ w'.cell? ⟨w.heap.size, 8, none⟩ = some (.int .i64 h.qt) ∧ w'.cell? ⟨w.heap.size, 9, none⟩ = some (.slice A1 n1 c1) ∧ w'.cell? ⟨w.heap.size, 10, none⟩ = some (.slice A2 n2 c2) ∧ w'.cell? ⟨w.heap.size, 11, none⟩ = some (.slice A3 n3 c3)) ∧ Sv w w'))
    (first | exact S0 | with_reducible assumption | exact kept1_draw (by assumption) | exact kept1 (by assumption) ((Below.refl _ _).alloc (Nat.le_refl _) _) | exact SR | fail)
    (first
      | (go_at_call 21; (with_reducible refine (flagS _ _ _).mono ?_); rintro e w' ⟨rfl, rfl⟩)
      | (refine step_append_bytes rfl (.tmp 8) (.tmp 33) rfl w.heap.size g1 m1 cap1 (tail2 h.id) rfl OA.out w1.heap.size 0 2 2 _ (fls h) rfl SA.out hz8 h28 h02 BA.out ?_; intro g2 cap2 w2 hown hgrow; have SR := XA.out w2 hgrow)
      | fail)
  clear e1 e2 e3 e4 e5 e6 e7 hz8 h28 h02 OA SA BA XA
  have O2 := Lib.hid hown
  have S2 : ((w2.cell? ⟨w.heap.size, 0, none⟩ = some (.int .i64 h.id) ∧ w2.cell? ⟨w.heap.size, 1, none⟩ = some (.bool h.rp) ∧ w2.cell? ⟨w.heap.size, 2, none⟩ = some (.bool h.au) ∧ w2.cell? ⟨w.heap.size, 3, none⟩ = some (.bool h.ct) ∧ w2.cell? ⟨w.heap.size, 4, none⟩ = some (.bool h.wa) ∧ w2.cell? ⟨w.heap.size, 5, none⟩ = some (.bool h.ca) ∧ w2.cell? ⟨w.heap.size, 6, none⟩ = some (.int .i64 h.code) ∧ w2.cell? ⟨w.heap.size, 7, none⟩ = some (.string h.qn) ∧ w2.cell? ⟨w.heap.size, 8, none⟩ = some (.int .i64 h.qt) ∧ w2.cell? ⟨w.heap.size, 9, none⟩ = some (.slice A1 n1 c1) ∧ w2.cell? ⟨w.heap.size, 10, none⟩ = some (.slice A2 n2 c2) ∧ w2.cell? ⟨w.heap.size, 11, none⟩ = some (.slice A3 n3 c3)) ∧ Sv w w2) := SR
  clear hown hgrow SR S0 O1 X1 L1 NB
  obtain ⟨m2, hm2⟩ : ∃ m2, m2 = m1 + 2 := ⟨_, rfl⟩
  rw [← hm2] at O2 ⊢
  have hz2 : m2 ≤ 4 := by omega
  clear hm2 hz
  have v2 : Sv w w2.drew := S2.2.drew
  have C2 := Lib.hid (PT.out w2.drew g2 m2 cap2 (tail2 h.id ++ fls h) 1 v2 O2.out (by omega))
  go_wp2
  go_region_held3 (fun w' => ((w'.cell? ⟨w.heap.size, 0, none⟩ = some (.int .i64 h.id) ∧ w'.cell? ⟨w.heap.size, 1, none⟩ = some (.bool h.rp) ∧ w'.cell? ⟨w.heap.size, 2, none⟩ = some (.bool h.au) ∧ w'.cell? ⟨w.heap.size, 3, none⟩ = some (.bool h.ct) ∧ w'.cell? ⟨w.heap.size, 4, none⟩ = some (.bool h.wa) ∧ w'.cell? ⟨w.heap.size, 5, none⟩ = some (.bool h.ca) ∧ w'.cell? ⟨w.heap.size, 6, none⟩ = some (.int .i64 h.code) ∧ w'.cell? ⟨w.heap.size, 7, none⟩ = some (.string h.qn) ∧ w'.cell? ⟨w.heap.size, 8, none⟩ = some (.int .i64 h.qt) ∧ w'.cell? ⟨w.heap.size, 9, none⟩ = some (.slice A1 n1 c1) ∧ w'.cell? ⟨w.heap.size, 10, none⟩ = some (.slice A2 n2 c2) ∧ w'.cell? ⟨w.heap.size, 11, none⟩ = some (.slice A3 n3 c3)) ∧ Sv w w'))
    (first | exact S2 | with_reducible assumption | exact kept1 (by assumption) hl | exact kept1_draw (by assumption) | fail)
    (first
      | (go_at_call 20; (with_reducible refine C2.out.mono ?_); rintro e w3 ⟨g3, m3, cap3, rfl, o3, z3, hl⟩; have v3 := svt v2 hl)
      | (go_at_call 20; (with_reducible refine (PT.out w3 g3 m3 cap3 _ (n1 : Int) v3 o3 (by omega)).mono ?_); rintro e w4 ⟨g4, m4, cap4, rfl, o4, z4, hl⟩; have v4 := svt v3 hl)
      | (go_at_call 20; (with_reducible refine (PT.out w4 g4 m4 cap4 _ (n2 : Int) v4 o4 (by omega)).mono ?_); rintro e w5 ⟨g5, m5, cap5, rfl, o5, z5, hl⟩; have v5 := svt v4 hl)
      | (go_at_call 20; (with_reducible refine (PT.out w5 g5 m5 cap5 _ (n3 : Int) v5 o5 (by omega)).mono ?_); rintro e w6 ⟨g6, m6, cap6, rfl, o6, z6, hl⟩)
      | fail)
  rename_i hH
  have O6 := Lib.hid o6
  have L6 : Hid (Below w.heap.size w w6) := hH.2
  clear o3 o4 o5 o6 z3 z4 z5 z6 hl hH S2 O2 v2 v3 v4 v5 C2
  go_wp2
  go_ret
  rw [HH.out]
  exact gives_of_owns O6.out L6.out

set_option maxRecDepth 100000 in
set_option maxHeartbeats 8000000 in
theorem impl (h : Hd) (A1 A2 A3 : Option Addr) (n1 c1 n2 c2 n3 c3 : Nat) (w : World) : Calls Try.prog 8 #[.agg #[.int .i64 h.id, .bool h.rp, .bool h.au, .bool h.ct, .bool h.wa, .bool h.ca, .int .i64 h.code, .string h.qn, .int .i64 h.qt, .slice A1 n1 c1, .slice A2 n2 c2, .slice A3 n3 c3]] w (Gives w (hdl h n1 n2 n3)) := by
  have PT : Hid (∀ (W : World) (g m cap : Nat) (L : List UInt8) (k : Int), Sv w W → W.ownsRow w.heap.size 5 1 (.slice (some ⟨g, 0, none⟩) m cap) m (L.map bv) → m ≤ 400000000 → Calls Try.prog 25 #[.slice (some ⟨g, 0, none⟩) m cap, .int .i64 k] W (P2 w.heap.size L m k W)) := fun W g m cap L k hW ho hm =>
    (implPut2O _ m cap L k W (ownB_sl ho).1 (fun h => by cases h) hm).mono fun e w' hg => p2_of hg (ownB_sl ho).2.2.2 hW.size
  have HH : Hid (hdl h n1 n2 n3 = tail2 h.id ++ fls h ++ tail2 1 ++ tail2 (n1 : Int) ++ tail2 (n2 : Int) ++ tail2 (n3 : Int)) := rfl
  have S0 : Mx (w.alloc (.cells #[.int .i64 h.id, .bool h.rp, .bool h.au, .bool h.ct, .bool h.wa, .bool h.ca, .int .i64 h.code, .string h.qn, .int .i64 h.qt, .slice A1 n1 c1, .slice A2 n2 c2, .slice A3 n3 c3] 33)) w.heap.size h (.slice A1 n1 c1) (.slice A2 n2 c2) (.slice A3 n3 c3) ∧ Sv w (w.alloc (.cells #[.int .i64 h.id, .bool h.rp, .bool h.au, .bool h.ct, .bool h.wa, .bool h.ca, .int .i64 h.code, .string h.qn, .int .i64 h.qt, .slice A1 n1 c1, .slice A2 n2 c2, .slice A3 n3 c3] 33)) := ⟨mx_new w 33 h (.slice A1 n1 c1) (.slice A2 n2 c2) (.slice A3 n3 c3), (Below.refl w.heap.size w).alloc (Nat.le_refl _) _⟩
  have v0 : Sv w (w.alloc (.cells #[.int .i64 h.id, .bool h.rp, .bool h.au, .bool h.ct, .bool h.wa, .bool h.ca, .int .i64 h.code, .string h.qn, .int .i64 h.qt, .slice A1 n1 c1, .slice A2 n2 c2, .slice A3 n3 c3] 33)).drew := S0.2.drew
  have PN : Hid (∀ W : World, Calls Try.prog 25 #[.slice none 0 0, .int .i64 h.id] W fun e w' => ∃ g m cap, e = .returned (.slice (some ⟨g, 0, none⟩) m cap) ∧ w'.ownsRow W.heap.size 5 1 (.slice (some ⟨g, 0, none⟩) m cap) m ((tail2 h.id).map bv) ∧ m ≤ 2 ∧ Below W.heap.size W w') := fun W =>
    (implPut2O none 0 0 [] h.id W Sl.nil (fun _ => ⟨rfl, rfl⟩) (by omega)).mono fun e w' hg => by
      rw [List.nil_append] at hg
      obtain ⟨g, cap, he, ho, hl'⟩ := hg
      exact ⟨g, _, cap, he, ho, t2_len h.id, hl'⟩
  have AP : Hid (∀ (W : World) (b g m cap q : Nat), W.ownsRow b 5 1 (.slice (some ⟨g, 0, none⟩) m cap) m ((tail2 h.id).map bv) → Bk W q 5 ((fls h).map bv) → m ≤ 2 → w.heap.size ≤ W.heap.size → Calls Try.prog 24 #[.slice (some ⟨g, 0, none⟩) m cap, .slice (some ⟨q, 0, none⟩) 2 2] W fun e w' => ∃ g' m' cap', e = .returned (.slice (some ⟨g', 0, none⟩) m' cap') ∧ w'.ownsRow w.heap.size 5 1 (.slice (some ⟨g', 0, none⟩) m' cap') m' ((tail2 h.id ++ fls h).map bv) ∧ m' ≤ 4 ∧ Below W.heap.size W w') := fun W b g m cap q ho hb hm hw =>
    (appendedO _ _ m cap 2 2 (tail2 h.id) (fls h) W (ownB_sl ho).1 (hb.sl.wider hb.lt) (fun h => by cases h) (fun h => by cases h) (by omega) (by omega)).mono fun e w' hg => by
      obtain ⟨g, cap, he, ho', hl'⟩ := hg
      exact ⟨g, _, cap, he, owns_base ho' hw, by rw [List.length_append, (ownB_sl ho).2.2.2]; show m + 2 ≤ 4; omega, hl'⟩
  go_enter Try.func8, Try.ntmps8
  go_wp2
  go_region_held3 (fun w' => ((w'.cell? ⟨w.heap.size, 0, none⟩ = some (.int .i64 h.id) ∧ w'.cell? ⟨w.heap.size, 1, none⟩ = some (.bool h.rp) ∧ w'.cell? ⟨w.heap.size, 2, none⟩ = some (.bool h.au) ∧ w'.cell? ⟨w.heap.size, 3, none⟩ = some (.bool h.ct) ∧ w'.cell? ⟨w.heap.size, 4, none⟩ = some (.bool h.wa) ∧ w'.cell? ⟨w.heap.size, 5, none⟩ = some (.bool h.ca) ∧ w'.cell? ⟨w.heap.size, 6, none⟩ = some (.int .i64 h.code) ∧ w'.cell? ⟨w.heap.size, 7, none⟩ = some (.string h.qn) ∧ w'.cell? ⟨w.heap.size, 8, none⟩ = some (.int .i64 h.qt) ∧ w'.cell? ⟨w.heap.size, 9, none⟩ = some (.slice A1 n1 c1) ∧ w'.cell? ⟨w.heap.size, 10, none⟩ = some (.slice A2 n2 c2) ∧ w'.cell? ⟨w.heap.size, 11, none⟩ = some (.slice A3 n3 c3)) ∧ Sv w w'))
    (first | exact S0 | with_reducible assumption | exact kept1 (by assumption) hl | exact kept1_draw (by assumption) | fail)
    (first
      | (go_at_call 25; (with_reducible refine (PN.out _).mono ?_); rintro e w1 ⟨g1, m1, cap1, rfl, o1, z1, hl⟩; have v1 := svt v0 hl)
      | (go_at_call 26; (with_reducible refine (flagBytes h A1 A2 A3 n1 c1 n2 c2 n3 c3 _).mono ?_); rintro e w2 ⟨q2, rfl, b2, hl⟩; have o2 := ownB_below o1 hl; have v2 := svt v1 hl)
      | (go_at_call 24; (with_reducible refine (AP.out _ _ _ _ _ _ o2 b2 z1 (sv_size v2)).mono ?_); rintro e w3 ⟨g3, m3, cap3, rfl, o3, z3, hl⟩)
      | fail)
  rename_i hH
  have O3 := Lib.hid o3
  have X3 : Hid (Mx w3 w.heap.size h (.slice A1 n1 c1) (.slice A2 n2 c2) (.slice A3 n3 c3)) := hH.1
  have L3 : Hid (Sv w w3) := hH.2
  clear o1 o2 o3 b2 z1 hl hH S0 PN AP v0 v1 v2
  go_wp2_with fail
  refine (PT.out w3 g3 m3 cap3 _ 1 L3.out O3.out (by omega)).mono ?_
  rintro e w4 ⟨g4, m4, cap4, rfl, ho, z4, hl⟩
  have O4 := Lib.hid ho
  have X4 := Lib.hid (X3.out.below hl)
  have L4 : Hid (Sv w w4) := svt L3.out hl
  clear ho hl O3 X3 L3
  obtain ⟨x0, x1, x2, x3, x4, x5, x6, x7, x8, x9, x10, x11⟩ := X4.out
  go_wp2_with fail
  refine (PT.out w4 g4 m4 cap4 _ (n1 : Int) L4.out O4.out (by omega)).mono ?_
  rintro e w5 ⟨g5, m5, cap5, rfl, ho, z5, hl⟩
  have O5 := Lib.hid ho
  have X5 := Lib.hid (X4.out.below hl)
  have L5 : Hid (Sv w w5) := svt L4.out hl
  clear ho hl O4 X4 L4 x0 x1 x2 x3 x4 x5 x6 x7 x8 x9 x10 x11
  obtain ⟨x0, x1, x2, x3, x4, x5, x6, x7, x8, x9, x10, x11⟩ := X5.out
  go_wp2_with fail
  refine (PT.out w5 g5 m5 cap5 _ (n2 : Int) L5.out O5.out (by omega)).mono ?_
  rintro e w6 ⟨g6, m6, cap6, rfl, ho, z6, hl⟩
  have O6 := Lib.hid ho
  have X6 := Lib.hid (X5.out.below hl)
  have L6 : Hid (Sv w w6) := svt L5.out hl
  clear ho hl O5 X5 L5 x0 x1 x2 x3 x4 x5 x6 x7 x8 x9 x10 x11
  obtain ⟨x0, x1, x2, x3, x4, x5, x6, x7, x8, x9, x10, x11⟩ := X6.out
  go_wp2_with fail
  refine (PT.out w6 g6 m6 cap6 _ (n3 : Int) L6.out O6.out (by omega)).mono ?_
  rintro e w7 ⟨g7, m7, cap7, rfl, ho, z7, hl⟩
  have O7 := Lib.hid ho
  have X7 := Lib.hid (X6.out.below hl)
  have L7 : Hid (Sv w w7) := svt L6.out hl
  clear ho hl O6 X6 L6 x0 x1 x2 x3 x4 x5 x6 x7 x8 x9 x10 x11
  go_wp2
  go_ret
  rw [HH.out]
  exact gives_of_owns O7.out L7.out
end Go.Proofs.Ytkfibepejlgniaa.HeadS
