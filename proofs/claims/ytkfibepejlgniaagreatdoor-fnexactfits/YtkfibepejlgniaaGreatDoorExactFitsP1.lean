/- What PutRecords does in the model: a new slice that holds the old bytes and those of each valid record. Conditions: at most 1048576 bytes, as many records, as many bytes in each text. -/
import Derived.Test.YtkfibepejlgniaaGreatDoorHeadDef
import Derived.Test.YtkfibepejlgniaaGreatDoorPutO
import Derived.Test.YtkfibepejlgniaaGreatDoorResM
import Derived.Deep.RegionHeld3
import Derived.BigQuiet
import Derived.Test.YtkfibepejlgniaaGreatDoorUp
import Derived.Test.YtkfibepejlgniaaGreatDoorShelf
import Derived.Test.YtkfibepejlgniaaGreatDoorAbvSpec
import Derived.Test.YtkfibepejlgniaaGreatDoorWireMath
import Derived.RangeFuncBox
import Derived.RangeFuncLeaves
import Derived.Shelf.Abstract
import Derived.WalkKit
import Derived.OwnWalkIn
import Derived.TacticsInMore
import Derived.LoopNIn
import Derived.LoopIn
import Derived.Maps.AppendAt
import Derived.Deep.AppendLies
import Derived.Test.YtkfibepejlgniaaGreatDoorPutSpec
import Derived.Test.YtkfibepejlgniaaGreatDoorDataS
/- What PutHead does in the program and in the model: a new slice with the header's bytes. -/
namespace Go.Proofs.YtkfibepejlgniaaGreatDoor.HeadS
open Go.RowKit Go.Proofs.YtkfibepejlgniaaGreatDoor.Mem Go.Proofs.YtkfibepejlgniaaGreatDoor.MemR Go.Proofs.YtkfibepejlgniaaGreatDoor.MemM Go.Proofs.YtkfibepejlgniaaGreatDoor.App Go.Proofs.YtkfibepejlgniaaGreatDoor.Put Go.Proofs.YtkfibepejlgniaaGreatDoor.PutO Go.Proofs.YtkfibepejlgniaaGreatDoor.HeadDef

section
variable {w0 w w' : World} {g base n cap : Nat} {h : Hd} {x y z : Value} {l : List UInt8}
theorem kept1 (m : Mx w g h x y z ∧ Sv w0 w) (hl : Below w.heap.size w w') : Mx w' g h x y z ∧ Sv w0 w' := ⟨m.1.below hl, m.2.trans (hl.mono m.2.size)⟩
theorem kept1_draw (m : Mx w g h x y z ∧ Sv w0 w) : Mx w.drew g h x y z ∧ Sv w0 w.drew := kept1 m ((Below.refl _ _).drew)
theorem svt (h : Sv w0 w) (hl : Below w.heap.size w w') : Sv w0 w' := h.trans (hl.mono h.size)
theorem sv_size (h : Sv w0 w) : w0.heap.size ≤ w.heap.size := Below.size h
theorem ownB_below (h : w.ownsRow base 5 1 (.slice (some ⟨g, 0, none⟩) n cap) n (l.map bv)) (hb : Below w.heap.size w w') : w'.ownsRow base 5 1 (.slice (some ⟨g, 0, none⟩) n cap) n (l.map bv) :=
  h.kept (row := none) ⟨hb.os, hb.tape, hb.output, hb.size, fun k hk _ => hb.block k hk⟩ (Or.inr (by simp [Value.ownBlock]))
theorem ownB_sl (h : w.ownsRow base 5 1 (.slice (some ⟨g, 0, none⟩) n cap) n (l.map bv)) : Sl w w.heap.size (some ⟨g, 0, none⟩) n l ∧ n ≤ cap ∧ base ≤ g ∧ l.length = n := by
  have hl : l.length = n := by have := h.1; simpa using this
  obtain ⟨r, hb, hr, hg⟩ := bk_of_owns h
  exact ⟨hl ▸ (hb.sl'.wider hb.lt), by rw [← hr, List.length_append, List.length_map, hl]; omega, hg, hl⟩
end

/-- append of bytes as one step of a region that draws. -/
theorem step_append_bytes {ops : Array Oper} {o : Oper} {a : Act} {w : World} {K : Act → World → Prop} {Q : Exit → Act → World → Prop} {E : Prop} (hgd : o.guard = none) (s x : Operand)
    (ho : o.op = .call { callee := .builtin .append, args := #[s, x], argTypes := #[22, 22] })
    (base g n cap : Nat) (L : List UInt8) (hs : a.eval s = .slice (some ⟨g, 0, none⟩) n cap) (hown : w.ownsRow base 5 1 (.slice (some ⟨g, 0, none⟩) n cap) n (L.map bv))
    (b off m c B : Nat) (l : List UInt8) (hx : a.eval x = .slice (some ⟨b, off, none⟩) m c) (hl : Sl w B (some ⟨b, off, none⟩) m l)
    (hn : n ≤ 800000000) (hm : m ≤ 800000000) (hm0 : 0 < m) (hbase : base ≤ w.heap.size)
    (h : ∀ g' cap' w', w'.ownsRow base 5 1 (.slice (some ⟨g', 0, none⟩) (n + m) cap') (n + m) ((L ++ l).map bv) → w.grownBy w' (some g) → K (a.put o.dst (.slice (some ⟨g', 0, none⟩) (n + m) cap')) w') :
    if Region.wanted o (yielded ops a.tmps) = true then Oper.wp Tryz.prog o a w K Q else E := by
  have hw : Region.wanted o (yielded ops a.tmps) = true := by simp [Region.wanted, hgd]
  rw [if_pos hw]
  obtain ⟨i0, hi, hz0, hz1, hz2⟩ := info_parts Copy.info
  exact wp_append_own w s x 22 ho base 5 i0 _ 1 1 Tryz.underlying22 hi hz0 hz1 hz2 rfl (by decide) _ n (L.map bv) hs hown ⟨b, off, none⟩ m c (l.map bv) hx (by simp [hl.1]) (cells_of hl _ rfl) (oneCells l) (by unfold maxLen; omega) (by omega) hbase
    (fun v' w' h1 h2 h3 => by
      rcases h1.2 with ⟨hv, _⟩ | ⟨g', cap', cur, hv, _⟩
      · have := (h3.1 hv).2
        omega
      · subst hv
        exact h g' cap' w' (by rw [List.map_append]; exact h1) h2)

theorem flagS (b : Bool) (n : Int) (w : World) : Calls Tryz.prog 90 #[.bool b, .int .i64 n] w fun e w' => e = .returned (.int .i64 (bi b n)) ∧ w = w' := by
  cases b
  all_goals
    go_enter Tryz.func90, Tryz.ntmps90
    go_wp2
    go_ret
    exact ⟨rfl, rfl⟩

theorem bitI (b : Bool) (n : Int) (w : World) : Calls Tryz.prog 141 #[.bool b, .int .u8 n] w fun e w' => e = .returned (.int .u8 (bi b n)) ∧ w = w' := by
  cases b
  all_goals
    go_enter Tryz.func141, Tryz.ntmps141
    go_wp2
    go_ret
    exact ⟨rfl, rfl⟩

set_option maxRecDepth 100000 in
set_option maxHeartbeats 4000000 in
theorem flagBytes (h : Hd) (A1 A2 A3 : Option Addr) (n1 c1 n2 c2 n3 c3 : Nat) (w : World) : Calls Tryz.prog 89 #[.agg #[.int .i64 h.id, .bool h.rp, .bool h.au, .bool h.ct, .bool h.wa, .bool h.ca, .int .i64 h.code, .string h.qn, .int .i64 h.qt, .slice A1 n1 c1, .slice A2 n2 c2, .slice A3 n3 c3]] w fun e w' => ∃ g, e = .returned (.slice (some ⟨g, 0, none⟩) 2 2) ∧ Bk w' g 5 ((fls h).map bv) ∧ Below w.heap.size w w' := by
  have X0 := mx_new w 28 h (.slice A1 n1 c1) (.slice A2 n2 c2) (.slice A3 n3 c3)
  have S0 : (Mx (w.alloc (.cells #[.int .i64 h.id, .bool h.rp, .bool h.au, .bool h.ct, .bool h.wa, .bool h.ca, .int .i64 h.code, .string h.qn, .int .i64 h.qt, .slice A1 n1 c1, .slice A2 n2 c2, .slice A3 n3 c3] 28)) w.heap.size h (.slice A1 n1 c1) (.slice A2 n2 c2) (.slice A3 n3 c3) ∧ Sv w (w.alloc (.cells #[.int .i64 h.id, .bool h.rp, .bool h.au, .bool h.ct, .bool h.wa, .bool h.ca, .int .i64 h.code, .string h.qn, .int .i64 h.qt, .slice A1 n1 c1, .slice A2 n2 c2, .slice A3 n3 c3] 28))) := ⟨X0, (Below.refl w.heap.size w).alloc (Nat.le_refl _) _⟩
  have hf := fls_cells h
  have o1 : bits .or .u8 (bits .or .u8 (bits .or .u8 (bi h.rp 128) (bi h.au 4)) (bi h.ct 2)) (bi h.wa 1) = f1 h := or_first h.rp h.au h.ct h.wa
  have o2 : bits .or .u8 (bi h.ca 128) (IntKind.u8.wrap (bits .and .i64 h.code 15)) = f2 h := by
    rw [and15, IntKind.wrap_u8, show h.code % 16 % 256 = h.code % 16 by omega]
    exact or_second h.ca _ (by omega) (by omega)
  have HF := Lib.hid hf
  have O1 := Lib.hid o1
  have O2 := Lib.hid o2
  clear hf X0 o1 o2
  go_enter Tryz.func89, Tryz.ntmps89
  go_wp2
  go_region_held3 (fun w' => ((w'.cell? ⟨w.heap.size, 0, none⟩ = some (.int .i64 h.id) ∧ w'.cell? ⟨w.heap.size, 1, none⟩ = some (.bool h.rp) ∧ w'.cell? ⟨w.heap.size, 2, none⟩ = some (.bool h.au) ∧ w'.cell? ⟨w.heap.size, 3, none⟩ = some (.bool h.ct) ∧ w'.cell? ⟨w.heap.size, 4, none⟩ = some (.bool h.wa) ∧ w'.cell? ⟨w.heap.size, 5, none⟩ = some (.bool h.ca) ∧ w'.cell? ⟨w.heap.size, 6, none⟩ = some (.int .i64 h.code) ∧ w'.cell? ⟨w.heap.size, 7, none⟩ = some (.string h.qn) ∧ w'.cell? ⟨w.heap.size, 8, none⟩ = some (.int .i64 h.qt) ∧ w'.cell? ⟨w.heap.size, 9, none⟩ = some (.slice A1 n1 c1) ∧ w'.cell? ⟨w.heap.size, 10, none⟩ = some (.slice A2 n2 c2) ∧ w'.cell? ⟨w.heap.size, 11, none⟩ = some (.slice A3 n3 c3)) ∧ Sv w w'))
    (first | exact S0 | with_reducible assumption | exact kept1_draw (by assumption) | fail)
    (first
      | (go_at_call 141; (with_reducible refine (bitI _ _ _).mono ?_); rintro e w' ⟨rfl, rfl⟩)
      | fail)
  rename_i hH
  clear S0
  rw [O1.out]
  go_wp2
  go_region_held3 (fun w' => ((w'.cell? ⟨w.heap.size, 0, none⟩ = some (.int .i64 h.id) ∧ w'.cell? ⟨w.heap.size, 1, none⟩ = some (.bool h.rp) ∧ w'.cell? ⟨w.heap.size, 2, none⟩ = some (.bool h.au) ∧ w'.cell? ⟨w.heap.size, 3, none⟩ = some (.bool h.ct) ∧ w'.cell? ⟨w.heap.size, 4, none⟩ = some (.bool h.wa) ∧ w'.cell? ⟨w.heap.size, 5, none⟩ = some (.bool h.ca) ∧ w'.cell? ⟨w.heap.size, 6, none⟩ = some (.int .i64 h.code) ∧ w'.cell? ⟨w.heap.size, 7, none⟩ = some (.string h.qn) ∧ w'.cell? ⟨w.heap.size, 8, none⟩ = some (.int .i64 h.qt) ∧ w'.cell? ⟨w.heap.size, 9, none⟩ = some (.slice A1 n1 c1) ∧ w'.cell? ⟨w.heap.size, 10, none⟩ = some (.slice A2 n2 c2) ∧ w'.cell? ⟨w.heap.size, 11, none⟩ = some (.slice A3 n3 c3)) ∧ Sv w w'))
    (first | with_reducible assumption | exact hH | exact kept1_draw (by assumption) | fail)
    (first
      | (go_at_call 141; (with_reducible refine (bitI _ _ _).mono ?_); rintro e w' ⟨rfl, rfl⟩)
      | fail)
  rename_i hH2
  rw [O2.out]
  go_wp2
  go_ret
  have hk : Bk ((w.alloc (.cells #[.int .i64 h.id, .bool h.rp, .bool h.au, .bool h.ct, .bool h.wa, .bool h.ca, .int .i64 h.code, .string h.qn, .int .i64 h.qt, .slice A1 n1 c1, .slice A2 n2 c2, .slice A3 n3 c3] 28)).alloc (.cells #[.int .u8 (f1 h), .int .u8 (f2 h)] 5)) (w.heap.size + 1) 5 ((fls h).map bv) := by rw [HF.out]; exact ResM.at2
  exact ⟨_, rfl, hk, (((Below.refl w.heap.size w).alloc (Nat.le_refl _) _).alloc (by simp) _).drew.drew⟩

/-- What Put2 does with a row of one's own. -/
def P2 (base : Nat) (L : List UInt8) (m : Nat) (k : Int) (W : World) (e : Ending) (w' : World) : Prop :=
  ∃ g' m' cap', e = .returned (.slice (some ⟨g', 0, none⟩) m' cap') ∧ w'.ownsRow base 5 1 (.slice (some ⟨g', 0, none⟩) m' cap') m' ((L ++ tail2 k).map bv) ∧ m' ≤ m + 2 ∧ Below W.heap.size W w'
theorem p2_of {base : Nat} {L : List UInt8} {m : Nat} {k : Int} {W w' : World} {e : Ending} (h : GivesO W (L ++ tail2 k) e w') (hl : L.length = m) (hb : base ≤ W.heap.size) : P2 base L m k W e w' := by
  obtain ⟨g, cap, he, ho, hl'⟩ := h
  exact ⟨g, _, cap, he, owns_base ho hb, by rw [List.length_append, hl]; have := t2_len k; omega, hl'⟩

set_option maxRecDepth 100000 in
set_option maxHeartbeats 8000000 in
theorem spec (h : Hd) (A1 A2 A3 : Option Addr) (n1 c1 n2 c2 n3 c3 : Nat) (w : World) : Calls Tryz.prog 33 #[.agg #[.int .i64 h.id, .bool h.rp, .bool h.au, .bool h.ct, .bool h.wa, .bool h.ca, .int .i64 h.code, .string h.qn, .int .i64 h.qt, .slice A1 n1 c1, .slice A2 n2 c2, .slice A3 n3 c3]] w (Gives w (hdl h n1 n2 n3)) := by
  have X0 := Lib.hid ((mx_new w 28 h (.slice A1 n1 c1) (.slice A2 n2 c2) (.slice A3 n3 c3)).alloc (.cells #[] 5))
  have L0 := Lib.hid (((Below.refl w.heap.size w).alloc (Nat.le_refl _) (.cells #[.int .i64 h.id, .bool h.rp, .bool h.au, .bool h.ct, .bool h.wa, .bool h.ca, .int .i64 h.code, .string h.qn, .int .i64 h.qt, .slice A1 n1 c1, .slice A2 n2 c2, .slice A3 n3 c3] 28)).alloc (by simp) (.cells #[] 5))
  have PT : Hid (∀ (W : World) (g m cap : Nat) (L : List UInt8) (k : Int), Sv w W → W.ownsRow w.heap.size 5 1 (.slice (some ⟨g, 0, none⟩) m cap) m (L.map bv) → m ≤ 400000000 → Calls Tryz.prog 85 #[.slice (some ⟨g, 0, none⟩) m cap, .int .i64 k] W (P2 w.heap.size L m k W)) := fun W g m cap L k hW ho hm =>
    (specPut2O _ m cap L k W (ownB_sl ho).1 (fun h => by cases h) hm).mono fun e w' hg => p2_of hg (ownB_sl ho).2.2.2 hW.size
  have HF := Lib.hid (fls_cells h)
  have HH : Hid (hdl h n1 n2 n3 = tail2 h.id ++ fls h ++ tail2 1 ++ tail2 (n1 : Int) ++ tail2 (n2 : Int) ++ tail2 (n3 : Int)) := rfl
  have i1 := f1_in h
  have i2 := f2_in h
  have F1 : Hid (f1 h = bi h.rp 128 + bi h.au 4 + bi h.ct 2 + bi h.wa 1) := rfl
  have F2 : Hid (f2 h = bi h.ca 128 + h.code % 16) := rfl
  have j1 := bi_lo h.rp 128 (by decide)
  have j2 := bi_lo h.au 4 (by decide)
  have j3 := bi_lo h.ct 2 (by decide)
  have j4 := bi_lo h.wa 1 (by decide)
  have j5 := bi_lo h.ca 128 (by decide)
  have E1 : Hid (IntKind.i64.wrap (bi h.rp 128 + bi h.au 4) = bi h.rp 128 + bi h.au 4) := by show _ = _; rw [IntKind.wrap_i64]; omega
  have E2 : Hid (IntKind.i64.wrap (bi h.rp 128 + bi h.au 4 + bi h.ct 2) = bi h.rp 128 + bi h.au 4 + bi h.ct 2) := by show _ = _; rw [IntKind.wrap_i64]; omega
  have E3 : Hid (IntKind.i64.wrap (bi h.rp 128 + bi h.au 4 + bi h.ct 2 + bi h.wa 1) = f1 h) := by show _ = _; rw [IntKind.wrap_i64, F1.out]; omega
  have E4 : Hid (IntKind.u8.wrap (f1 h) = f1 h) := by show _ = _; rw [IntKind.wrap_u8]; omega
  have E5 : Hid (bits .and .i64 h.code 15 = h.code % 16) := and15 h.code
  have E6 : Hid (IntKind.i64.wrap (bi h.ca 128 + h.code % 16) = f2 h) := by show _ = _; rw [IntKind.wrap_i64, F2.out]; omega
  have E7 : Hid (IntKind.u8.wrap (f2 h) = f2 h) := by show _ = _; rw [IntKind.wrap_u8]; omega
  clear i1 i2 j1 j2 j3 j4 j5
  go_enter Tryz.func33, Tryz.ntmps33
  obtain ⟨x0, x1, x2, x3, x4, x5, x6, x7, x8, x9, x10, x11⟩ := X0.out
  go_wp2_with fail
  refine (specPut2O _ 0 0 [] h.id _ Sl.nil (fun h => by cases h) (by omega)).mono ?_
  rintro e w1 ⟨g1, cap1, rfl, ho, hl⟩
  have hz : (([] : List UInt8) ++ tail2 h.id).length ≤ 2 := by rw [List.nil_append]; exact t2_len _
  rw [List.nil_append] at ho hz ⊢
  have NB : Hid (w.heap.size < g1) := Nat.lt_of_lt_of_le (by simp; omega) (ownB_sl ho).2.2.1
  have O1 := Lib.hid (owns_base ho L0.out.size)
  have X1 := Lib.hid (X0.out.below hl)
  have L1 := Lib.hid (L0.out.trans (hl.mono L0.out.size))
  clear ho hl L0 X0 x0 x1 x2 x3 x4 x5 x6 x7 x8 x9 x10 x11
  obtain ⟨m1, hm1⟩ : ∃ m1, m1 = (tail2 h.id).length := ⟨_, rfl⟩
  rw [← hm1] at O1 hz ⊢
  clear hm1
  have S0 : ((w1.cell? ⟨w.heap.size, 0, none⟩ = some (.int .i64 h.id) ∧ w1.cell? ⟨w.heap.size, 1, none⟩ = some (.bool h.rp) ∧ w1.cell? ⟨w.heap.size, 2, none⟩ = some (.bool h.au) ∧ w1.cell? ⟨w.heap.size, 3, none⟩ = some (.bool h.ct) ∧ w1.cell? ⟨w.heap.size, 4, none⟩ = some (.bool h.wa) ∧ w1.cell? ⟨w.heap.size, 5, none⟩ = some (.bool h.ca) ∧ w1.cell? ⟨w.heap.size, 6, none⟩ = some (.int .i64 h.code) ∧ w1.cell? ⟨w.heap.size, 7, none⟩ = some (.string h.qn) ∧ w1.cell? ⟨w.heap.size, 8, none⟩ = some (.int .i64 h.qt) ∧ w1.cell? ⟨w.heap.size, 9, none⟩ = some (.slice A1 n1 c1) ∧ w1.cell? ⟨w.heap.size, 10, none⟩ = some (.slice A2 n2 c2) ∧ w1.cell? ⟨w.heap.size, 11, none⟩ = some (.slice A3 n3 c3)) ∧ Sv w w1) := ⟨X1.out, L1.out⟩
  have OA : Hid ((w1.alloc (.cells #[.int .u8 (f1 h), .int .u8 (f2 h)] 5)).drew.ownsRow w.heap.size 5 1 (.slice (some ⟨g1, 0, none⟩) m1 cap1) m1 ((tail2 h.id).map bv)) := O1.out.alloc _
  have SA : Hid (Sl (w1.alloc (.cells #[.int .u8 (f1 h), .int .u8 (f2 h)] 5)).drew (w1.alloc (.cells #[.int .u8 (f1 h), .int .u8 (f2 h)] 5)).heap.size (some ⟨w1.heap.size, 0, none⟩) 2 (fls h)) := sl_new w1 _ (fls h) HF.out.symm
  have BA : Hid (w.heap.size ≤ (w1.alloc (.cells #[.int .u8 (f1 h), .int .u8 (f2 h)] 5)).drew.heap.size) := Nat.le_trans L1.out.size (by simp [World.drew])
  have XA : Hid (∀ w2 : World, (w1.alloc (.cells #[.int .u8 (f1 h), .int .u8 (f2 h)] 5)).drew.grownBy w2 (some g1) → Mx w2 w.heap.size h (.slice A1 n1 c1) (.slice A2 n2 c2) (.slice A3 n3 c3) ∧ Sv w w2) := fun w2 hgrow => ⟨(show Mx (w1.alloc (.cells #[.int .u8 (f1 h), .int .u8 (f2 h)] 5)).drew w.heap.size h (.slice A1 n1 c1) (.slice A2 n2 c2) (.slice A3 n3 c3) from (X1.out.alloc _)).grown hgrow (fun e => by have := Option.some.inj e; have := NB.out; omega), (show Below w.heap.size w (w1.alloc (.cells #[.int .u8 (f1 h), .int .u8 (f2 h)] 5)).drew from (L1.out.alloc L1.out.size _).drew).grown hgrow BA.out (fun j hj => by cases hj; have := NB.out; omega)⟩
  have hz8 : m1 ≤ 800000000 := by omega
  have h28 : 2 ≤ 800000000 := by omega
  have h02 : 0 < 2 := by omega
  have e1 := E1.out
  have e2 := E2.out
  have e3 := E3.out
  have e4 := E4.out
  have e5 := E5.out
  have e6 := E6.out
  have e7 := E7.out
  go_wp2
  go_region_held3 (fun w' => ((w'.cell? ⟨w.heap.size, 0, none⟩ = some (.int .i64 h.id) ∧ w'.cell? ⟨w.heap.size, 1, none⟩ = some (.bool h.rp) ∧ w'.cell? ⟨w.heap.size, 2, none⟩ = some (.bool h.au) ∧ w'.cell? ⟨w.heap.size, 3, none⟩ = some (.bool h.ct) ∧ w'.cell? ⟨w.heap.size, 4, none⟩ = some (.bool h.wa) ∧ w'.cell? ⟨w.heap.size, 5, none⟩ = some (.bool h.ca) ∧ w'.cell? ⟨w.heap.size, 6, none⟩ = some (.int .i64 h.code) ∧ w'.cell? ⟨w.heap.size, 7, none⟩ = some (.string h.qn) ∧ w'.cell? ⟨w.heap.size, 8, none⟩ = some (.int .i64 h.qt) ∧ w'.cell? ⟨w.heap.size, 9, none⟩ = some (.slice A1 n1 c1) ∧ w'.cell? ⟨w.heap.size, 10, none⟩ = some (.slice A2 n2 c2) ∧ w'.cell? ⟨w.heap.size, 11, none⟩ = some (.slice A3 n3 c3)) ∧ Sv w w'))
    (first | exact S0 | with_reducible assumption | exact kept1_draw (by assumption) | exact kept1 (by assumption) ((Below.refl _ _).alloc (Nat.le_refl _) _) | exact SR | fail)
    (first
      | (go_at_call 90; (with_reducible refine (flagS _ _ _).mono ?_); rintro e w' ⟨rfl, rfl⟩)
      | (refine step_append_bytes rfl (.tmp 8) (.tmp 33) rfl w.heap.size g1 m1 cap1 (tail2 h.id) rfl OA.out w1.heap.size 0 2 2 _ (fls h) rfl SA.out hz8 h28 h02 BA.out ?_; intro g2 cap2 w2 hown hgrow; have SR := XA.out w2 hgrow)
      | fail)
  clear e1 e2 e3 e4 e5 e6 e7 hz8 h28 h02 OA SA BA XA
  have O2 := Lib.hid hown
  have S2 : ((w2.cell? ⟨w.heap.size, 0, none⟩ = some (.int .i64 h.id) ∧ w2.cell? ⟨w.heap.size, 1, none⟩ = some (.bool h.rp) ∧ w2.cell? ⟨w.heap.size, 2, none⟩ = some (.bool h.au) ∧ w2.cell? ⟨w.heap.size, 3, none⟩ = some (.bool h.ct) ∧ w2.cell? ⟨w.heap.size, 4, none⟩ = some (.bool h.wa) ∧ w2.cell? ⟨w.heap.size, 5, none⟩ = some (.bool h.ca) ∧ w2.cell? ⟨w.heap.size, 6, none⟩ = some (.int .i64 h.code) ∧ w2.cell? ⟨w.heap.size, 7, none⟩ = some (.string h.qn) ∧ w2.cell? ⟨w.heap.size, 8, none⟩ = some (.int .i64 h.qt) ∧ w2.cell? ⟨w.heap.size, 9, none⟩ = some (.slice A1 n1 c1) ∧ w2.cell? ⟨w.heap.size, 10, none⟩ = some (.slice A2 n2 c2) ∧ w2.cell? ⟨w.heap.size, 11, none⟩ = some (.slice A3 n3 c3)) ∧ Sv w w2) := SR
  clear hown hgrow SR S0 O1 X1 L1 NB
  obtain ⟨m2, hm2⟩ : ∃ m2, m2 = m1 + 2 := ⟨_, rfl⟩
  rw [← hm2] at O2 ⊢
  have hz2 : m2 ≤ 4 := by omega
  clear hm2 hz
  have v2 : Sv w w2.drew := S2.2.drew
  have C2 := Lib.hid (PT.out w2.drew g2 m2 cap2 (tail2 h.id ++ fls h) 1 v2 O2.out (by omega))
  go_wp2
  go_region_held3 (fun w' => ((w'.cell? ⟨w.heap.size, 0, none⟩ = some (.int .i64 h.id) ∧ w'.cell? ⟨w.heap.size, 1, none⟩ = some (.bool h.rp) ∧ w'.cell? ⟨w.heap.size, 2, none⟩ = some (.bool h.au) ∧ w'.cell? ⟨w.heap.size, 3, none⟩ = some (.bool h.ct) ∧ w'.cell? ⟨w.heap.size, 4, none⟩ = some (.bool h.wa) ∧ w'.cell? ⟨w.heap.size, 5, none⟩ = some (.bool h.ca) ∧ w'.cell? ⟨w.heap.size, 6, none⟩ = some (.int .i64 h.code) ∧ w'.cell? ⟨w.heap.size, 7, none⟩ = some (.string h.qn) ∧ w'.cell? ⟨w.heap.size, 8, none⟩ = some (.int .i64 h.qt) ∧ w'.cell? ⟨w.heap.size, 9, none⟩ = some (.slice A1 n1 c1) ∧ w'.cell? ⟨w.heap.size, 10, none⟩ = some (.slice A2 n2 c2) ∧ w'.cell? ⟨w.heap.size, 11, none⟩ = some (.slice A3 n3 c3)) ∧ Sv w w'))
    (first | exact S2 | with_reducible assumption | exact kept1 (by assumption) hl | exact kept1_draw (by assumption) | fail)
    (first
      | (go_at_call 85; (with_reducible refine C2.out.mono ?_); rintro e w3 ⟨g3, m3, cap3, rfl, o3, z3, hl⟩; have v3 := svt v2 hl)
      | (go_at_call 85; (with_reducible refine (PT.out w3 g3 m3 cap3 _ (n1 : Int) v3 o3 (by omega)).mono ?_); rintro e w4 ⟨g4, m4, cap4, rfl, o4, z4, hl⟩; have v4 := svt v3 hl)
      | (go_at_call 85; (with_reducible refine (PT.out w4 g4 m4 cap4 _ (n2 : Int) v4 o4 (by omega)).mono ?_); rintro e w5 ⟨g5, m5, cap5, rfl, o5, z5, hl⟩; have v5 := svt v4 hl)
      | (go_at_call 85; (with_reducible refine (PT.out w5 g5 m5 cap5 _ (n3 : Int) v5 o5 (by omega)).mono ?_); rintro e w6 ⟨g6, m6, cap6, rfl, o6, z6, hl⟩)
      | fail)
  rename_i hH
  have O6 := Lib.hid o6
  have L6 : Hid (Below w.heap.size w w6) := hH.2
  clear o3 o4 o5 o6 z3 z4 z5 z6 hl hH S2 O2 v2 v3 v4 v5 C2
  go_wp2
  go_ret
  rw [HH.out]
  exact gives_of_owns O6.out L6.out

set_option maxRecDepth 100000 in
set_option maxHeartbeats 8000000 in
theorem impl (h : Hd) (A1 A2 A3 : Option Addr) (n1 c1 n2 c2 n3 c3 : Nat) (w : World) : Calls Tryz.prog 32 #[.agg #[.int .i64 h.id, .bool h.rp, .bool h.au, .bool h.ct, .bool h.wa, .bool h.ca, .int .i64 h.code, .string h.qn, .int .i64 h.qt, .slice A1 n1 c1, .slice A2 n2 c2, .slice A3 n3 c3]] w (Gives w (hdl h n1 n2 n3)) := by
  have PT : Hid (∀ (W : World) (g m cap : Nat) (L : List UInt8) (k : Int), Sv w W → W.ownsRow w.heap.size 5 1 (.slice (some ⟨g, 0, none⟩) m cap) m (L.map bv) → m ≤ 400000000 → Calls Tryz.prog 83 #[.slice (some ⟨g, 0, none⟩) m cap, .int .i64 k] W (P2 w.heap.size L m k W)) := fun W g m cap L k hW ho hm =>
    (implPut2O _ m cap L k W (ownB_sl ho).1 (fun h => by cases h) hm).mono fun e w' hg => p2_of hg (ownB_sl ho).2.2.2 hW.size
  have HH : Hid (hdl h n1 n2 n3 = tail2 h.id ++ fls h ++ tail2 1 ++ tail2 (n1 : Int) ++ tail2 (n2 : Int) ++ tail2 (n3 : Int)) := rfl
  have S0 : Mx (w.alloc (.cells #[.int .i64 h.id, .bool h.rp, .bool h.au, .bool h.ct, .bool h.wa, .bool h.ca, .int .i64 h.code, .string h.qn, .int .i64 h.qt, .slice A1 n1 c1, .slice A2 n2 c2, .slice A3 n3 c3] 28)) w.heap.size h (.slice A1 n1 c1) (.slice A2 n2 c2) (.slice A3 n3 c3) ∧ Sv w (w.alloc (.cells #[.int .i64 h.id, .bool h.rp, .bool h.au, .bool h.ct, .bool h.wa, .bool h.ca, .int .i64 h.code, .string h.qn, .int .i64 h.qt, .slice A1 n1 c1, .slice A2 n2 c2, .slice A3 n3 c3] 28)) := ⟨mx_new w 28 h (.slice A1 n1 c1) (.slice A2 n2 c2) (.slice A3 n3 c3), (Below.refl w.heap.size w).alloc (Nat.le_refl _) _⟩
  have v0 : Sv w (w.alloc (.cells #[.int .i64 h.id, .bool h.rp, .bool h.au, .bool h.ct, .bool h.wa, .bool h.ca, .int .i64 h.code, .string h.qn, .int .i64 h.qt, .slice A1 n1 c1, .slice A2 n2 c2, .slice A3 n3 c3] 28)).drew := S0.2.drew
  have PN : Hid (∀ W : World, Calls Tryz.prog 83 #[.slice none 0 0, .int .i64 h.id] W fun e w' => ∃ g m cap, e = .returned (.slice (some ⟨g, 0, none⟩) m cap) ∧ w'.ownsRow W.heap.size 5 1 (.slice (some ⟨g, 0, none⟩) m cap) m ((tail2 h.id).map bv) ∧ m ≤ 2 ∧ Below W.heap.size W w') := fun W =>
    (implPut2O none 0 0 [] h.id W Sl.nil (fun _ => ⟨rfl, rfl⟩) (by omega)).mono fun e w' hg => by
      rw [List.nil_append] at hg
      obtain ⟨g, cap, he, ho, hl'⟩ := hg
      exact ⟨g, _, cap, he, ho, t2_len h.id, hl'⟩
  have AP : Hid (∀ (W : World) (b g m cap q : Nat), W.ownsRow b 5 1 (.slice (some ⟨g, 0, none⟩) m cap) m ((tail2 h.id).map bv) → Bk W q 5 ((fls h).map bv) → m ≤ 2 → w.heap.size ≤ W.heap.size → Calls Tryz.prog 88 #[.slice (some ⟨g, 0, none⟩) m cap, .slice (some ⟨q, 0, none⟩) 2 2] W fun e w' => ∃ g' m' cap', e = .returned (.slice (some ⟨g', 0, none⟩) m' cap') ∧ w'.ownsRow w.heap.size 5 1 (.slice (some ⟨g', 0, none⟩) m' cap') m' ((tail2 h.id ++ fls h).map bv) ∧ m' ≤ 4 ∧ Below W.heap.size W w') := fun W b g m cap q ho hb hm hw =>
    (appendedO _ _ m cap 2 2 (tail2 h.id) (fls h) W (ownB_sl ho).1 (hb.sl.wider hb.lt) (fun h => by cases h) (fun h => by cases h) (by omega) (by omega)).mono fun e w' hg => by
      obtain ⟨g, cap, he, ho', hl'⟩ := hg
      exact ⟨g, _, cap, he, owns_base ho' hw, by rw [List.length_append, (ownB_sl ho).2.2.2]; show m + 2 ≤ 4; omega, hl'⟩
  go_enter Tryz.func32, Tryz.ntmps32
  go_wp2
  go_region_held3 (fun w' => ((w'.cell? ⟨w.heap.size, 0, none⟩ = some (.int .i64 h.id) ∧ w'.cell? ⟨w.heap.size, 1, none⟩ = some (.bool h.rp) ∧ w'.cell? ⟨w.heap.size, 2, none⟩ = some (.bool h.au) ∧ w'.cell? ⟨w.heap.size, 3, none⟩ = some (.bool h.ct) ∧ w'.cell? ⟨w.heap.size, 4, none⟩ = some (.bool h.wa) ∧ w'.cell? ⟨w.heap.size, 5, none⟩ = some (.bool h.ca) ∧ w'.cell? ⟨w.heap.size, 6, none⟩ = some (.int .i64 h.code) ∧ w'.cell? ⟨w.heap.size, 7, none⟩ = some (.string h.qn) ∧ w'.cell? ⟨w.heap.size, 8, none⟩ = some (.int .i64 h.qt) ∧ w'.cell? ⟨w.heap.size, 9, none⟩ = some (.slice A1 n1 c1) ∧ w'.cell? ⟨w.heap.size, 10, none⟩ = some (.slice A2 n2 c2) ∧ w'.cell? ⟨w.heap.size, 11, none⟩ = some (.slice A3 n3 c3)) ∧ Sv w w'))
    (first | exact S0 | with_reducible assumption | exact kept1 (by assumption) hl | exact kept1_draw (by assumption) | fail)
    (first
      | (go_at_call 83; (with_reducible refine (PN.out _).mono ?_); rintro e w1 ⟨g1, m1, cap1, rfl, o1, z1, hl⟩; have v1 := svt v0 hl)
      | (go_at_call 89; (with_reducible refine (flagBytes h A1 A2 A3 n1 c1 n2 c2 n3 c3 _).mono ?_); rintro e w2 ⟨q2, rfl, b2, hl⟩; have o2 := ownB_below o1 hl; have v2 := svt v1 hl)
      | (go_at_call 88; (with_reducible refine (AP.out _ _ _ _ _ _ o2 b2 z1 (sv_size v2)).mono ?_); rintro e w3 ⟨g3, m3, cap3, rfl, o3, z3, hl⟩)
      | fail)
  rename_i hH
  have O3 := Lib.hid o3
  have X3 : Hid (Mx w3 w.heap.size h (.slice A1 n1 c1) (.slice A2 n2 c2) (.slice A3 n3 c3)) := hH.1
  have L3 : Hid (Sv w w3) := hH.2
  clear o1 o2 o3 b2 z1 hl hH S0 PN AP v0 v1 v2
  go_wp2_with fail
  refine (PT.out w3 g3 m3 cap3 _ 1 L3.out O3.out (by omega)).mono ?_
  rintro e w4 ⟨g4, m4, cap4, rfl, ho, z4, hl⟩
  have O4 := Lib.hid ho
  have X4 := Lib.hid (X3.out.below hl)
  have L4 : Hid (Sv w w4) := svt L3.out hl
  clear ho hl O3 X3 L3
  obtain ⟨x0, x1, x2, x3, x4, x5, x6, x7, x8, x9, x10, x11⟩ := X4.out
  go_wp2_with fail
  refine (PT.out w4 g4 m4 cap4 _ (n1 : Int) L4.out O4.out (by omega)).mono ?_
  rintro e w5 ⟨g5, m5, cap5, rfl, ho, z5, hl⟩
  have O5 := Lib.hid ho
  have X5 := Lib.hid (X4.out.below hl)
  have L5 : Hid (Sv w w5) := svt L4.out hl
  clear ho hl O4 X4 L4 x0 x1 x2 x3 x4 x5 x6 x7 x8 x9 x10 x11
  obtain ⟨x0, x1, x2, x3, x4, x5, x6, x7, x8, x9, x10, x11⟩ := X5.out
  go_wp2_with fail
  refine (PT.out w5 g5 m5 cap5 _ (n2 : Int) L5.out O5.out (by omega)).mono ?_
  rintro e w6 ⟨g6, m6, cap6, rfl, ho, z6, hl⟩
  have O6 := Lib.hid ho
  have X6 := Lib.hid (X5.out.below hl)
  have L6 : Hid (Sv w w6) := svt L5.out hl
  clear ho hl O5 X5 L5 x0 x1 x2 x3 x4 x5 x6 x7 x8 x9 x10 x11
  obtain ⟨x0, x1, x2, x3, x4, x5, x6, x7, x8, x9, x10, x11⟩ := X6.out
  go_wp2_with fail
  refine (PT.out w6 g6 m6 cap6 _ (n3 : Int) L6.out O6.out (by omega)).mono ?_
  rintro e w7 ⟨g7, m7, cap7, rfl, ho, z7, hl⟩
  have O7 := Lib.hid ho
  have X7 := Lib.hid (X6.out.below hl)
  have L7 : Hid (Sv w w7) := svt L6.out hl
  clear ho hl O6 X6 L6 x0 x1 x2 x3 x4 x5 x6 x7 x8 x9 x10 x11
  go_wp2
  go_ret
  rw [HH.out]
  exact gives_of_owns O7.out L7.out
end Go.Proofs.YtkfibepejlgniaaGreatDoor.HeadS

/- What the program's Up does, by the library's proved contract of strings.Cut: it returns the text behind the first dot of its argument, none where there is no dot. Condition: at most 1048576 bytes; the library's variable internal/bytealg.MaxLen holds an int. -/
namespace Go.Proofs.YtkfibepejlgniaaGreatDoor.UpImpl
open Go.RowKit Go.Proofs.YtkfibepejlgniaaGreatDoor.Mem Go.Proofs.YtkfibepejlgniaaGreatDoor.MemS Go.Proofs.YtkfibepejlgniaaGreatDoor.JoinSpec Go.Proofs.YtkfibepejlgniaaGreatDoor.Split Go.Proofs.YtkfibepejlgniaaGreatDoor.JoinLab Go.Proofs.YtkfibepejlgniaaGreatDoor.NameMath Go.Proofs.YtkfibepejlgniaaGreatDoor.Labels Go.Proofs.YtkfibepejlgniaaGreatDoor.Up

theorem index_none : ∀ l : List UInt8, 46 ∉ l → Lib.index l [46] = -1
  | [], _ => rfl
  | c :: l, h => by
    have ih := index_none l (fun e => h (by simp [e]))
    have hc : ¬ (46 : UInt8) = c := fun e => h (by rw [e]; simp)
    have h1 : ([46] : List UInt8).isPrefixOf (c :: l) = false := by
      show ((46 : UInt8) == c && _) = false
      rw [beq_eq_false_iff_ne.2 hc]; rfl
    rw [Lib.index, ih, h1]
    simp
theorem cut_ab (s : ByteArray) : (⟨(Lib.cut s.data.toList [46]).2.1.toArray⟩ : ByteArray) = Ab s := by
  apply text_ext
  rw [Ab, Jo_list]
  show (Lib.cut s.data.toList [46]).2.1 = _
  by_cases h0 : s.size = 0
  · have hz : s.data.toList.length = s.size := by simp
    have e : s.data.toList = [] := List.eq_nil_of_length_eq_zero (by omega)
    rw [Lab, if_pos h0, e]
    rfl
  · rw [jo, List.map_drop, lab_list s h0]
    by_cases hm : 46 ∈ s.data.toList
    · obtain ⟨a, b, e, ha⟩ := parts hm
      rw [e, spa_some a [] b ha, List.drop_succ_cons, List.drop_zero, join_spa, List.nil_append, Lib.cut, index_at a b ha, if_pos (by omega)]
      simp
    · rw [spa_none _ _ hm, Lib.cut, index_none _ hm, if_neg (by decide)]
      rfl

theorem cut (s : ByteArray) (w : World) (he : Env w) (hs : s.size ≤ 1048576) : Calls Tryz.prog 201 #[.string s, .string ⟨#[46]⟩] w fun e w' => ∃ x b n, e = .returned (.tuple #[.string x, .string (Ab s), .bool b]) ∧ w' = w.drewN n := by
  obtain ⟨m, hm⟩ := he
  refine (Go.Proofs.Any.strings_Cut { Tryz.laysM145 with } s ⟨#[46]⟩ m w (by omega) hm).mono fun e w' ⟨hr, n, hw⟩ => ?_
  rw [show (⟨#[46]⟩ : ByteArray).data.toList = [46] from rfl, cut_ab] at hr
  exact ⟨_, _, n, hr, hw⟩

set_option maxHeartbeats 1000000 in
theorem impl (s : ByteArray) (w : World) (he : Env w) (hs : s.size ≤ 1048576) : Calls Tryz.prog 186 #[.string s] w fun e w' => e = .returned (.string (Ab s)) ∧ Below w.heap.size w w' := by
  have HC := Lib.hid (cut s w he hs)
  clear he
  generalize Ab s = U at *
  go_enter Tryz.func186, Tryz.ntmps186
  go_wp2_with fail
  refine HC.out.mono ?_
  rintro e w1 ⟨x, b, n, rfl, rfl⟩
  go_wp2
  go_ret
  exact ⟨rfl, drewN_below _ _ _⟩
end Go.Proofs.YtkfibepejlgniaaGreatDoor.UpImpl

/- What the program's iterator over the ancestors of a valid name does (upward, a closure that keeps its place in a captured variable): it yields the joined labels behind the first, the second, and so on, till a round says no more. -/
namespace Go.Proofs.YtkfibepejlgniaaGreatDoor.AbvIter
open Go.RowKit Go.Shelf Go.Proofs.YtkfibepejlgniaaGreatDoor.Mem Go.Proofs.YtkfibepejlgniaaGreatDoor.MemS Go.Proofs.YtkfibepejlgniaaGreatDoor.JoinSpec Go.Proofs.YtkfibepejlgniaaGreatDoor.Split Go.Proofs.YtkfibepejlgniaaGreatDoor.JoinLab Go.Proofs.YtkfibepejlgniaaGreatDoor.Label Go.Proofs.YtkfibepejlgniaaGreatDoor.Labels Go.Proofs.YtkfibepejlgniaaGreatDoor.NameOk Go.Proofs.YtkfibepejlgniaaGreatDoor.Up Go.Proofs.YtkfibepejlgniaaGreatDoor.WireMath

attribute [local go_sem] Oper.semAt_some

/-- The i-th ancestor. A def, so that no step of a walk opens it. -/
def u (s : ByteArray) (i : Nat) : ByteArray := Jo ((Lab s).drop i)
theorem u_zero (s : ByteArray) : u s 0 = s := by unfold u; rw [List.drop_zero, jo_lab]
theorem okL_drop {L : List ByteArray} (h : okL L = true) (i : Nat) : okL (L.drop i) = true := by
  rw [okL, List.all_eq_true] at h ⊢
  exact fun x hx => h x (List.mem_of_mem_drop hx)
theorem u_up {s : ByteArray} (h : okL (Lab s) = true) (i : Nat) : Ab (u s i) = u s (i + 1) := by
  unfold Ab u
  rw [lab_ok (okL_drop h i), List.drop_drop]
theorem u_end (s : ByteArray) : u s (Lab s).length = ⟨#[]⟩ := by
  unfold u
  rw [List.drop_length]
  rfl
theorem jo_less {x : ByteArray} {r : List ByteArray} (h : 0 < x.size) : (Jo r).size < (Jo (x :: r)).size := by
  have hz : x.data.toList.length = x.size := by simp
  rw [Jo_size, Jo_size]
  cases r with
  | nil =>
    have e : jo [x] = x.data.toList := by simp [jo, Lib.join_one]
    have e0 : jo [] = [] := by simp [jo, Lib.join_nil]
    rw [e, e0, hz]
    simpa using h
  | cons y r =>
    have e : jo (x :: y :: r) = x.data.toList ++ 46 :: jo (y :: r) := by
      rw [jo, List.map_cons, join_more _ _ (by simp)]
      rfl
    rw [e, List.length_append, List.length_cons]
    omega
theorem u_less {s : ByteArray} (h : okL (Lab s) = true) {i : Nat} (hi : i < (Lab s).length) : (u s (i + 1)).size < (u s i).size := by
  unfold u
  rw [List.drop_eq_getElem_cons hi]
  refine jo_less ?_
  have h1 := lok_ne (okL_mem h _ (List.getElem_mem hi))
  have hz : (Lab s)[i].data.toList.length = (Lab s)[i].size := by simp
  omega
theorem u_ne {s : ByteArray} (h : okL (Lab s) = true) {i : Nat} (hi : i < (Lab s).length) : (u s i).size ≠ 0 := by
  have := u_less h hi
  omega
theorem u_small {s : ByteArray} (h : okL (Lab s) = true) : ∀ i, i ≤ (Lab s).length → (u s i).size ≤ s.size
  | 0, _ => by rw [u_zero]; exact Nat.le_refl _
  | i + 1, hi => by
    have h1 := u_small h i (by omega)
    have h2 := u_less h (i := i) (by omega)
    omega
/-- The size of the text in a box. -/
def bx (w : World) (B : Nat) : Nat := match w.cell? ⟨B, 0, none⟩ with
  | some (.string t) => t.size
  | _ => 0
theorem bx_of {w : World} {B : Nat} {t : TypeId} {x : ByteArray} (h : Boxed w B t (.string x)) : bx w B = x.size := by
  unfold bx
  rw [h.cell]

set_option maxRecDepth 100000 in
set_option maxHeartbeats 1000000 in
theorem iter (m l Bs : Nat) (hm : 1 ≤ m) (s : ByteArray) (hok : okL (Lab s) = true) (hz : s.size ≤ 1048576) (J : Nat → World → Prop) (Jx : World → Prop)
    (hY : ∀ i W, J i W → i ≤ (Lab s).length → YieldAt Fence.wide (m - 1) Tryz.prog l #[.string (u s i)] W fun e W' =>
      (e = .returned (.bool true) ∧ i < (Lab s).length ∧ J (i + 1) W' ∧ W'.heap[Bs]? = W.heap[Bs]?) ∨ (e = .returned (.bool false) ∧ Jx W'))
    (hk : ∀ i W W' row, J i W → W.grownBy W' row → (∀ r, row = some r → r = Bs) → J i W') (henv : ∀ i W, J i W → Env W)
    (W : World) (h0 : J 0 W) (hb : Boxed W Bs 9 (.string s)) :
    CallsIn Fence.wide m Tryz.prog 185 #[.func (.yield l) #[] #[], .pointer (some ⟨Bs, 0, none⟩)] W fun e W' => (∃ v, e = .returned v) ∧ Jx W' := by
  refine callsIn_of_wp Tryz.func185 rfl trivial ?_ rfl
  simp only [Tryz.ntmps185, List.size_toArray, List.length_cons, List.length_nil, Nat.reduceAdd, Nat.reduceSub, Array.replicate_succ, Array.replicate_zero, List.push_toArray, List.append_toArray, List.nil_append, List.cons_append]
  gi_wp2
  gi_loopw [3] (fun _ wr => ∃ i : Nat, i ≤ (Lab s).length ∧ J i wr ∧ Boxed wr Bs 9 (.string (u s i))) (fun _ wr => bx wr Bs)
  case atStart => exact ⟨0, Nat.zero_le _, h0, by rw [u_zero]; exact hb⟩
  case round =>
    obtain ⟨i, hi, hJ, hB⟩ := hrel
    obtain ⟨fn, tmps, assign, body, hy, hR⟩ := hY i wr hJ hi
    have hc := hB.cell
    gi_wp2
    refine hR.mono ?_
    rintro e W3 (⟨rfl, hlt, hJ3, hB3⟩ | ⟨rfl, hx⟩)
    · have hB4 : Boxed W3 Bs 9 (.string (u s i)) := hB3.trans hB
      have hc3 := hB4.cell
      have hf3 := hB4.frozen
      have UP := Lib.hid (UpImpl.impl (u s i) W3 (henv _ _ hJ3) (by have := u_small hok i hi; omega))
      have HU := Lib.hid (u_up hok i)
      rw [HU.out] at UP
      have HLE := Lib.hid (u_less hok hlt)
      gi_wp2
      refine ⟨trivial, (callsIn_wide.2 UP.out).mono ?_⟩
      rintro e W5 ⟨rfl, hl5⟩
      have hB5 : Boxed W5 Bs 9 (.string (u s i)) := (hl5.block Bs hB4.lt).trans hB4
      have hc5 := hB5.cell
      have hf5 := hB5.frozen
      have J5 := hk _ _ _ none hJ3 ⟨hl5.os, hl5.tape, hl5.output, hl5.size, fun k hk _ => hl5.block k hk⟩ (fun r e => by cases e)
      have J6 := hk _ _ _ (some Bs) J5 (grownBy_setCell' W5 Bs (.string (u s (i + 1)))) (fun r e => by cases e; rfl)
      gi_wp2
      go_roundw
      case rel => exact ⟨i + 1, by omega, J6, hB5.set _⟩
      case measure => rw [bx_of (hB5.set (.string (u s (i + 1)))), bx_of hB]; exact HLE.out
    · gi_wp2
      go_end0
      exact ⟨⟨_, rfl⟩, hx⟩
end Go.Proofs.YtkfibepejlgniaaGreatDoor.AbvIter

/- A law for the one loop over the program's iterator upward: what the loop's body must do in each round, and what then holds behind the loop, which is left by its break. -/
namespace Go.Proofs.YtkfibepejlgniaaGreatDoor.AbvLaw
open Go.RowKit Go.Shelf Go.Proofs.YtkfibepejlgniaaGreatDoor.Mem Go.Proofs.YtkfibepejlgniaaGreatDoor.MemS Go.Proofs.YtkfibepejlgniaaGreatDoor.Split Go.Proofs.YtkfibepejlgniaaGreatDoor.Labels Go.Proofs.YtkfibepejlgniaaGreatDoor.NameOk Go.Proofs.YtkfibepejlgniaaGreatDoor.AbvIter

/-- The three blocks that the body leaves alone: the iterator's captured variable, the rounds' deferred calls, the loop's record. -/
def Kp (Bs D : Nat) (W W' : World) : Prop := W'.heap[Bs]? = W.heap[Bs]? ∧ W'.heap[D]? = W.heap[D]? ∧ W'.heap[D + 1]? = W.heap[D + 1]?
/-- How a round may end: it goes on, or it breaks. -/
def Rd (Bs D N id i : Nat) (I : Nat → World → Prop) (Ix : World → Prop) (W : World) : Exit → Act → World → Prop
  | .normal, _, W' => i < N ∧ I (i + 1) W' ∧ Kp Bs D W W'
  | .exit k, _, W' => k = id ∧ Ix W' ∧ Kp Bs D W W'
  | _, _, _ => False
/-- A statement on worlds that minds neither new blocks nor a turn of these three. -/
def Calm (Bs D : Nat) (I : World → Prop) : Prop := ∀ W W' row, I W → W.grownBy W' row → (∀ r, row = some r → r = Bs ∨ r = D ∨ r = D + 1) → I W'
theorem Calm.put {Bs D : Nat} {I : World → Prop} (h : Calm Bs D I) {W : World} (l : Nat) (o : Obj) (hI : I W) (hl : l = D ∨ l = D + 1) : I (W.putObj l o) :=
  h W _ (some l) hI (grownBy_putObj' W l o) (fun r e => by cases e; exact Or.inr hl)
theorem Calm.alloc {Bs D : Nat} {I : World → Prop} (h : Calm Bs D I) {W : World} (o : Obj) (hI : I W) : I (W.alloc o) :=
  h W _ none hI (World.grownBy_alloc W o none) (fun r e => by cases e)

theorem range {g : Operand} {ps : Array Tmp} {assign body : Code} {Q : Exit → Act → World → Prop} {a : Act} {w : World} (n : Nat) (hn : 3 ≤ n) (s : ByteArray) (hok : okL (Lab s) = true) (hz : s.size ≤ 1048576) (Bs : Nat) (hBs : Bs < w.heap.size)
    (hg : a.eval g = .func (.func 185) #[] #[.pointer (some ⟨Bs, 0, none⟩)]) (hps : ps.size = 1)
    (I : Nat → World → Prop) (Ix : World → Prop) (id : Nat) (hI : ∀ i, Calm Bs w.heap.size (I i)) (hIx : Calm Bs w.heap.size Ix) (hIe : ∀ i W, I i W → Env W)
    (h0 : I 0 w) (hbox : Boxed w Bs 9 (.string s)) (a₁ : Nat → Act)
    (hassign : ∀ (l i : Nat) (W : World) (K : Act → World → Prop), K (a₁ i) W →
      assign.wpIn (Fence.wide.inRound l) (n - 1 - 1) Tryz.prog (Exit.then K (fun _ _ _ => False)) { tmps := (ps.zip #[.string (u s i)]).foldl (fun t (p, v) => t.setIfInBounds p v) a.tmps, defers := [] } W)
    (hbody : ∀ (l i : Nat) (W : World), I i W → i ≤ (Lab s).length → W.heap[w.heap.size]? = some (.deferred (some [])) → (∃ r, W.heap[w.heap.size + 1]? = some (.loop r)) →
      body.wpIn (Fence.wide.inRound l) (n - 1 - 1) Tryz.prog (Rd Bs w.heap.size (Lab s).length id i I Ix W) (a₁ i) W)
    (hstop : ∀ W : World, Ix W → W.heap[w.heap.size]? = some (.deferred (some [])) → (Code.exit id).wpIn Fence.wide n Tryz.prog Q { a with defers := { target := .collected w.heap.size, args := #[] } :: a.defers } W) :
    (Code.rangeFunc g ps assign body).wpIn Fence.wide n Tryz.prog Q a w := by
  have eg : ∀ args w, (callFunc 185 args).run Tryz.prog w = .ok (.enter 185 args) w := enters_of Tryz.func185 (by kernel_rfl) rfl
  refine wpIn_rangeFunc fun fn hfn => ?_
  rw [show Fence.wide.round = none from rfl]
  let rc : LoopState → Option Code → Loop := fun st pe => { state := st, pending := pe, fn, tmps := a.tmps, params := ps, assign, body, defers := w.heap.size }
  have hw1 : ∃ W1 : World, W1 = (w.alloc (.deferred (some []))).alloc (.loop (rc .ready none)) := ⟨_, rfl⟩
  obtain ⟨W1, hW1⟩ := hw1
  have hL : W1.heap[w.heap.size + 1]? = some (.loop (rc .ready none)) := by
    have h := World.alloc_heap_new (w.alloc (.deferred (some []))) (.loop (rc .ready none))
    rw [World.size_alloc] at h
    rw [hW1]
    exact h
  have hD : W1.heap[w.heap.size]? = some (.deferred (some [])) := by
    rw [hW1]
    exact (Below.heap_alloc _ _ _ (by simp)).trans (World.alloc_heap_new w _)
  have hB1 : Boxed W1 Bs 9 (.string s) := by
    rw [hW1]
    exact (hbox.alloc _).alloc _
  have hI1 : I 0 W1 := by
    rw [hW1]
    exact (hI 0).alloc _ ((hI 0).alloc _ h0)
  refine ⟨w.heap.size + 1, [{ target := .collected w.heap.size, args := #[] }], W1, { target := .fn (.func 185) #[.pointer (some ⟨Bs, 0, none⟩)], args := #[.func (.yield (w.heap.size + 1)) #[] #[]] }, W1, 185,
    #[.func (.yield (w.heap.size + 1)) #[] #[], .pointer (some ⟨Bs, 0, none⟩)], W1, ?_, ?_, fun _ _ => trivial, ?_, fun _ => by omega, ?_⟩
  · rw [hW1]
    exact run_enterLoop_outer _ _ _ _ _
  · simp only [resolve, hg]
    simp [go_sem]
  · simp [invoke, go_sem, eg]
  · refine (iter (n - 1) (w.heap.size + 1) Bs (by omega) s hok hz
      (fun i W => I i W ∧ W.heap[w.heap.size + 1]? = some (.loop (rc .ready none)) ∧ W.heap[w.heap.size]? = some (.deferred (some [])))
      (fun W => Ix W ∧ W.heap[w.heap.size + 1]? = some (.loop (rc .done (some (.exit id)))) ∧ W.heap[w.heap.size]? = some (.deferred (some [])))
      ?_ ?_ (fun i W h => hIe i W h.1) W1 ⟨hI1, hL, hD⟩ hB1).mono ?_
    · rintro i W ⟨hi, hl, hk⟩ hle
      have hlt : w.heap.size + 1 < W.heap.size := (Array.getElem?_eq_some_iff.1 hl).1
      refine ⟨fn, _, assign, body, run_yield (P := Tryz.prog) (args := #[.string (u s i)]) hl (by show 1 = ps.size; rw [hps]), roundIn_of_wpIn hfn (hassign _ i W _ ⟨_, run_beginRound hl rfl, ?_⟩)⟩
      have hl2 : (W.putObj (w.heap.size + 1) (.loop (rc .busy none))).heap[w.heap.size + 1]? = some (.loop (rc .busy none)) := World.putObj_heap_same hlt
      have hk2 : (W.putObj (w.heap.size + 1) (.loop (rc .busy none))).heap[w.heap.size]? = some (.deferred (some [])) := (World.putObj_heap_other (by omega)).trans hk
      have hb2 : (W.putObj (w.heap.size + 1) (.loop (rc .busy none))).heap[Bs]? = W.heap[Bs]? := World.putObj_heap_other (by omega)
      refine wpIn_mono (hbody _ i _ ((hI i).put _ _ hi (Or.inr rfl)) hle hk2 ⟨_, hl2⟩) ?_
      rintro e a3 W3 hp
      cases e with
      | normal =>
        obtain ⟨hiN, hi3, hKb, hKd, hKl⟩ := hp
        have hl3 : W3.heap[w.heap.size + 1]? = some (.loop (rc .busy none)) := hKl.trans hl2
        have hlt3 := (Array.getElem?_eq_some_iff.1 hl3).1
        exact ⟨_, _, run_endRound (P := Tryz.prog) none hl3, .inl ⟨rfl, hiN, ⟨(hI (i + 1)).put _ _ hi3 (Or.inr rfl), World.putObj_heap_same hlt3, (World.putObj_heap_other (by omega)).trans (hKd.trans hk2)⟩, (World.putObj_heap_other (by omega)).trans (hKb.trans hb2)⟩⟩
      | exit k =>
        obtain ⟨rfl, hi3, hKb, hKd, hKl⟩ := hp
        have hl3 : W3.heap[w.heap.size + 1]? = some (.loop (rc .busy none)) := hKl.trans hl2
        have hlt3 := (Array.getElem?_eq_some_iff.1 hl3).1
        exact ⟨_, _, run_endRound (P := Tryz.prog) (some (.exit k)) hl3, .inr ⟨rfl, hIx.put _ _ hi3 (Or.inr rfl), World.putObj_heap_same hlt3, (World.putObj_heap_other (by omega)).trans (hKd.trans hk2)⟩⟩
      | ret => exact hp.elim
      | goto t => exact hp.elim
      | panic c => exact hp.elim
      | outgrown => exact hp.elim
    · rintro i W W' row ⟨hi, hl, hk⟩ hgr hrow
      exact ⟨hI i W W' row hi hgr (fun r e => Or.inl (hrow r e)), (hgr.block _ (Array.getElem?_eq_some_iff.1 hl).1 (fun e => by have := hrow _ e.symm; omega)).trans hl, (hgr.block _ (Array.getElem?_eq_some_iff.1 hk).1 (fun e => by have := hrow _ e.symm; omega)).trans hk⟩
    · rintro e W2 ⟨⟨v, rfl⟩, hx, hl, hk⟩
      exact ⟨some (.exit id), _, run_endLoop (P := Tryz.prog) hl (by simp [rc]), hstop _ (hIx.put _ _ hx (Or.inr rfl)) ((World.putObj_heap_other (by omega)).trans hk)⟩
end Go.Proofs.YtkfibepejlgniaaGreatDoor.AbvLaw

/- What the program's Above does at a valid name: a new slice with the name and all its ancestors up to and with the root. Conditions: the name is valid; the library's variable internal/bytealg.MaxLen holds an int. -/
namespace Go.Proofs.YtkfibepejlgniaaGreatDoor.AbvImpl
open Go.RowKit Go.Shelf Go.Proofs.YtkfibepejlgniaaGreatDoor.Mem Go.Proofs.YtkfibepejlgniaaGreatDoor.MemS Go.Proofs.YtkfibepejlgniaaGreatDoor.AppS Go.Proofs.YtkfibepejlgniaaGreatDoor.JoinSpec Go.Proofs.YtkfibepejlgniaaGreatDoor.Split Go.Proofs.YtkfibepejlgniaaGreatDoor.Labels Go.Proofs.YtkfibepejlgniaaGreatDoor.NameOk Go.Proofs.YtkfibepejlgniaaGreatDoor.AbvSpec Go.Proofs.YtkfibepejlgniaaGreatDoor.AbvIter Go.Proofs.YtkfibepejlgniaaGreatDoor.AbvLaw

attribute [local go_sem] Oper.semAt_some

/-- append of one new text onto a row of one's own inside a fence, with where the row lies behind it. -/
theorem append_in {F : Fence} {m : Nat} {P : Program} {w : World} {ops : Array Oper} {rest : List Oper} {o : Oper} {a : Act} {Q : Exit → Act → World → Prop} (hgd : o.guard = none) (s x : Operand) (t : TypeId)
    (ho : o.op = .call { callee := .builtin .append, args := #[s, x], argTypes := #[t, t] })
    (base : Nat) (e : TypeId) (i : TypeInfo) (z : Value) (ht : P.underlying t = some (.slice e)) (hi : P.info? e = some i) (hz : i.zero = some z)
    (hsize : i.size = 1) (hby : i.bytes = 16) (hzs : z.cells.size = 1)
    (g n cap : Nat) (l : List ByteArray) (hs : a.eval s = .slice (some ⟨g, 0, none⟩) n cap) (hown : w.ownsRow base e 1 (.slice (some ⟨g, 0, none⟩) n cap) n (l.map tv))
    (y : ByteArray) (hx : a.eval x = .slice (some ⟨w.heap.size, 0, none⟩) 1 1)
    (hn : n ≤ 800000000) (hbase : base ≤ w.heap.size)
    (h : ∀ g' cap' w', w'.ownsRow base e 1 (.slice (some ⟨g', 0, none⟩) (n + 1) cap') (n + 1) ((l ++ [y]).map tv) → (w.alloc (.cells #[.string y] e)).grownBy w' (some g) → (g = g' ∨ g' = w.heap.size + 1) → wpListIn F m P ops Q rest (a.put o.dst (.slice (some ⟨g', 0, none⟩) (n + 1) cap')) w') : wpListIn F m P ops Q (o :: rest) a (w.alloc (.cells #[.string y] e)) := by
  obtain ⟨g', cap', w', hrun, h1, h2, h3, _⟩ := run_append_lies (P := P) (w.alloc (.cells #[.string y] e)) t o.type base e i z 1 16 ht hi hz hsize hby hzs (by decide) _ n (l.map tv) (hown.alloc _) ⟨w.heap.size, 0, none⟩ 1 1 [.string y] rfl
    (fun j u hu => by
      have hj : j = 0 := by have := (List.getElem?_eq_some_iff.1 hu).1; simp at this; exact this
      subst hj
      have hb : Bk (w.alloc (.cells #[.string y] e)) w.heap.size e [.string y] := heap_alloc_new w _
      rw [Addr.add_lit, hb.cell]
      exact hu) (fun u hu => by simp at hu; subst hu; rfl) (by omega) (by unfold maxLen; omega) (by omega) (by simp; omega) (w.heap.size + 1) (by simp)
  have hfin := h g' cap' w' (by rw [List.map_append]; exact h1) h2 (by
    rcases h3 with h3 | h3
    · exact Or.inl (Option.some.inj h3)
    · exact Or.inr h3)
  refine wpListIn_plain hgd fun K hK => ?_
  unfold Oper.wpIn
  refine ⟨by simp [Oper.about, ho, resolve, Target.leads, Sem.run_pure], ?_⟩
  rw [Oper.semAt_plain F _ _ (by rw [ho]; intro c hc; cases hc)]
  simp [execOp, ho, resolve, invoke, builtin, hs, hx, hrun, Result.andThen]
  exact hK _ _ hfin

set_option maxHeartbeats 1000000 in
theorem upward (m : Nat) (s : ByteArray) (w : World) : CallsIn Fence.wide m Tryz.prog 164 #[.string s] w fun e w' => e = .returned (.func (.func 185) #[] #[.pointer (some ⟨w.heap.size, 0, none⟩)]) ∧ w' = w.alloc (.cells #[.string s] 9) := by
  refine callsIn_of_wp Tryz.func164 rfl trivial ?_ rfl
  simp only [Tryz.ntmps164, List.size_toArray, List.length_cons, List.length_nil, Nat.reduceAdd, Nat.reduceSub, Array.replicate_succ, Array.replicate_zero, List.push_toArray, List.append_toArray, List.nil_append, List.cons_append]
  gi_wp2
  go_ret
  exact ⟨rfl, rfl⟩

/-- The first i of the joined labels. -/
def aup (s : ByteArray) (i : Nat) : List ByteArray := (List.range i).map (u s)
theorem aup_step (s : ByteArray) (i : Nat) : aup s (i + 1) = aup s i ++ [u s i] := by
  unfold aup
  rw [List.range_succ, List.map_append]
  rfl
theorem aup_ab (s : ByteArray) (k : Nat) : aup s (k + 1) = ab s k := rfl
/-- What holds between two rounds: the slice in its box owns the first i of them. -/
def Iv (w : World) (s : ByteArray) (i : Nat) (W : World) : Prop :=
  ∃ g cap, Boxed W (w.heap.size + 1) 85 (.slice (some ⟨g, 0, none⟩) i cap) ∧ W.ownsRow w.heap.size 9 1 (.slice (some ⟨g, 0, none⟩) i cap) i ((aup s i).map tv) ∧ g ≠ w.heap.size + 1 + 1 ∧ (g < w.heap.size + 3 ∨ w.heap.size + 5 ≤ g) ∧ Below w.heap.size w W
theorem Iv.calm (w : World) (s : ByteArray) (i : Nat) : AbvLaw.Calm (w.heap.size + 1 + 1) (w.heap.size + 3) (Iv w s i) := by
  rintro W W' row ⟨g, cap, hb, ho, hg, hg2, hl⟩ hgr hrow
  refine ⟨g, cap, hb.kept hgr (fun e => ?_), ho.kept hgr (Or.inr (fun e => ?_)), hg, hg2, hl.grown hgr hl.size (fun k hk => ?_)⟩
  · have := hrow _ e.symm
    omega
  · have := hrow _ e.symm
    simp at this
    omega
  · have := hrow _ hk
    omega

set_option maxRecDepth 100000 in
set_option maxHeartbeats 4000000 in
theorem impl (s : ByteArray) (w : World) (he : Env w) (hnm : Nm s = true) : Calls Tryz.prog 131 #[.string s] w (GivesS w (ab s (Lab s).length)) := by
  obtain ⟨i0, hi, hz0, hz1, hz2⟩ := info_parts AppS.info
  have hp : s.size ≤ 50 ∧ (Lab s).length ≤ 6 ∧ okL (Lab s) = true := by
    rw [Nm, Bool.and_eq_true, Bool.and_eq_true] at hnm
    exact ⟨of_decide_eq_true hnm.1.2, of_decide_eq_true hnm.2, hnm.1.1⟩
  obtain ⟨h50, h6, hok⟩ := hp
  refine (callsIn_wide (n := 5)).1 ?_
  refine callsIn_of_wp_marks Tryz.func131 rfl trivial ?_ rfl
  simp only [Tryz.ntmps131, List.size_toArray, List.length_cons, List.length_nil, Nat.reduceAdd, Nat.reduceSub, Array.replicate_succ, Array.replicate_zero, List.push_toArray, List.append_toArray, List.nil_append, List.cons_append]
  gi_wp2
  refine ⟨trivial, (upward _ s _).mono ?_⟩
  rintro e w' ⟨rfl, rfl⟩
  gi_wp2
  have hb0 : Boxed (((w.alloc (.cells #[] 9)).alloc (.cells #[.slice (some ⟨w.heap.size, 0, none⟩) 0 0] 85)).alloc (.cells #[.string s] 9)) (w.heap.size + 1 + 1) 9 (.string s) := by
    have := Boxed.new ((w.alloc (.cells #[] 9)).alloc (.cells #[.slice (some ⟨w.heap.size, 0, none⟩) 0 0] 85)) 9 (.string s)
    rw [World.size_alloc, World.size_alloc] at this
    exact this
  have hv0 : Iv w s 0 (((w.alloc (.cells #[] 9)).alloc (.cells #[.slice (some ⟨w.heap.size, 0, none⟩) 0 0] 85)).alloc (.cells #[.string s] 9)) := by
    refine ⟨w.heap.size, 0, ?_, ((AppS.owns_new w).alloc _).alloc _, by omega, by omega, (((Below.refl w.heap.size w).alloc (Nat.le_refl _) _).alloc (by simp) _).alloc (by simp; omega) _⟩
    have := Boxed.new (w.alloc (.cells #[] 9)) 85 (.slice (some ⟨w.heap.size, 0, none⟩) 0 0)
    rw [World.size_alloc] at this
    exact this.alloc _
  have hsz : (((w.alloc (.cells #[] 9)).alloc (.cells #[.slice (some ⟨w.heap.size, 0, none⟩) 0 0] 85)).alloc (.cells #[.string s] 9)).heap.size = w.heap.size + 3 := by simp
  generalize (((w.alloc (.cells #[] 9)).alloc (.cells #[.slice (some ⟨w.heap.size, 0, none⟩) 0 0] 85)).alloc (.cells #[.string s] 9)) = W0 at *
  have HE := Lib.hid he
  clear he
  refine AbvLaw.range 5 (by omega) s hok (by omega) (w.heap.size + 1 + 1) (by omega) rfl rfl (Iv w s) (Iv w s ((Lab s).length + 1)) 0 (fun i => by rw [hsz]; exact Iv.calm w s i) (by rw [hsz]; exact Iv.calm w s _)
    (fun i W h => by obtain ⟨_, _, _, _, _, _, hl⟩ := h; exact HE.out.below hl) hv0 hb0
    (fun i => { tmps := #[.string s, undef, .slice none 0 0, .pointer (some ⟨w.heap.size + 1, 0, none⟩), .string (u s i), .slice (some ⟨w.heap.size, 0, none⟩) 0 0, .string s, .func (.func 185) #[] #[.pointer (some ⟨w.heap.size + 1 + 1, 0, none⟩)], .string (u s i), undef, undef, undef, undef, undef, undef, undef], defers := [] }) ?assign ?body ?stop
  case assign =>
    intro l i W K hK
    gi_wp2
    exact hK
  case body =>
    rintro l i W ⟨g, cap, hb, ho, hg, hg2, hl⟩ hle hD ⟨r, hL⟩
    rw [hsz] at hD hL ⊢
    have hDl : w.heap.size + 3 < W.heap.size := (Array.getElem?_eq_some_iff.1 hD).1
    have hLl : w.heap.size + 3 + 1 < W.heap.size := (Array.getElem?_eq_some_iff.1 hL).1
    have hc := hb.cell
    have fin : ∀ (g' cap' : Nat) (w1 : World), w1.ownsRow w.heap.size 9 1 (.slice (some ⟨g', 0, none⟩) (i + 1) cap') (i + 1) ((aup s i ++ [u s i]).map tv) → (W.alloc (.cells #[.string (u s i)] 9)).grownBy w1 (some g) → (g = g' ∨ g' = W.heap.size + 1) →
        Boxed w1 (w.heap.size + 1) 85 (.slice (some ⟨g, 0, none⟩) i cap) ∧ Iv w s (i + 1) (w1.setCell ⟨w.heap.size + 1, 0, none⟩ (.slice (some ⟨g', 0, none⟩) (i + 1) cap')) ∧ Kp (w.heap.size + 1 + 1) (w.heap.size + 3) W (w1.setCell ⟨w.heap.size + 1, 0, none⟩ (.slice (some ⟨g', 0, none⟩) (i + 1) cap')) := by
      intro g' cap' w1 hown hgrow hlie
      have hgw := (ho.lt g rfl).1
      have hne : some (w.heap.size + 1) ≠ some g := hb.not_row (by decide) ho
      have hb1 : Boxed w1 (w.heap.size + 1) 85 (.slice (some ⟨g, 0, none⟩) i cap) := (hb.alloc _).kept hgrow hne
      have hne2 : some (w.heap.size + 1) ≠ some g' := hb1.not_row (by decide) hown
      have keep : ∀ k, k < W.heap.size → k ≠ g → k ≠ w.heap.size + 1 → (w1.setCell ⟨w.heap.size + 1, 0, none⟩ (.slice (some ⟨g', 0, none⟩) (i + 1) cap')).heap[k]? = W.heap[k]? := fun k h1 h2 h3 =>
        ((Below.heap_setCell w1 _ _ k h3).trans (hgrow.block k (by simp; omega) (fun e => h2 (Option.some.inj e)))).trans (Below.heap_alloc W _ k h1)
      refine ⟨hb1, ⟨g', cap', hb1.set _, ?_, by omega, by omega, ?_⟩, keep _ (by omega) (fun e => hg e.symm) (by omega), keep _ (by omega) (by omega) (by omega), keep _ (by omega) (by omega) (by omega)⟩
      · rw [aup_step]
        exact hown.kept (grownBy_setCell' w1 (w.heap.size + 1) _) (Or.inr (fun e => hne2 e.symm))
      · exact (((hl.alloc hl.size _).grown hgrow (by have := hl.size; simp; omega) (fun q hq => by cases hq; exact hgw)).setCell (p := ⟨w.heap.size + 1, 0, none⟩) (by show w.heap.size ≤ w.heap.size + 1; omega) _)
    have FIN := Lib.hid fin
    have HO := Lib.hid ho
    have HLS := Lib.hid hl.size
    clear fin ho hb hl hD hL
    by_cases hlt : i < (Lab s).length
    · have hne := Labels.not_empty _ (u_ne hok hlt)
      gi_wp2_with (gi_at_builtin; refine append_in rfl (.tmp 9) (.tmp 11) 85 rfl w.heap.size 9 i0 (.string ⟨#[]⟩) Tryz.underlying85 hi hz0 hz1 hz2 rfl g i cap (aup s i) rfl HO.out (u s i) rfl ?c1 ?c2 ?_)
      case c1 => omega
      case c2 => exact HLS.out
      intro g' cap' w1 hown hgrow hlie
      obtain ⟨hb1, hiv, hkp⟩ := FIN.out g' cap' w1 (by rw [List.map_append]; exact hown) hgrow hlie
      have hc1 := hb1.cell
      have hf1 := hb1.frozen
      have IV := Lib.hid hiv
      have KP := Lib.hid hkp
      clear hown hgrow hlie hiv hkp
      gi_wp2
      exact ⟨hlt, IV.out, KP.out⟩
    · have hiN : i = (Lab s).length := by omega
      subst hiN
      have hne : (u s (Lab s).length).toList.isEmpty = true := by rw [u_end, ByteArray.toList_eq]; rfl
      gi_wp2_with (gi_at_builtin; refine append_in rfl (.tmp 9) (.tmp 11) 85 rfl w.heap.size 9 i0 (.string ⟨#[]⟩) Tryz.underlying85 hi hz0 hz1 hz2 rfl g (Lab s).length cap (aup s (Lab s).length) rfl HO.out (u s (Lab s).length) rfl ?c1 ?c2 ?_)
      case c1 => omega
      case c2 => exact HLS.out
      intro g' cap' w1 hown hgrow hlie
      obtain ⟨hb1, hiv, hkp⟩ := FIN.out g' cap' w1 (by rw [List.map_append]; exact hown) hgrow hlie
      have hc1 := hb1.cell
      have hf1 := hb1.frozen
      have IV := Lib.hid hiv
      have KP := Lib.hid hkp
      clear hown hgrow hlie hiv hkp
      gi_wp2
      exact ⟨rfl, IV.out, KP.out⟩
  case stop =>
    rintro W ⟨g, cap, hb, ho, hg, hg2, hl⟩ hD
    rw [hsz] at hD ⊢
    have hc := hb.cell
    gi_wp2
    refine ⟨by simp, .inl ⟨_, _, rfl, run_takeDeferred hD, ?_⟩⟩
    refine ⟨_, results_tmp rfl _ _ _, ?_⟩
    rw [← aup_ab]
    exact AppS.gives_of_owns (ownsRow_putObj ho _ hD rfl) (hl.grown (grownBy_putObj' W _ _) hl.size (fun k e => by cases e; omega))
end Go.Proofs.YtkfibepejlgniaaGreatDoor.AbvImpl

/- What the program's PutName does: a new slice that holds the old bytes and what the model's PutName puts behind them. Conditions: at most 1048576 bytes in each argument; the library's variable internal/bytealg.MaxLen holds an int. -/
namespace Go.Proofs.YtkfibepejlgniaaGreatDoor.PutName
open Go.RowKit Go.Proofs.YtkfibepejlgniaaGreatDoor.Mem Go.Proofs.YtkfibepejlgniaaGreatDoor.MemS Go.Proofs.YtkfibepejlgniaaGreatDoor.AppS Go.Proofs.YtkfibepejlgniaaGreatDoor.App Go.Proofs.YtkfibepejlgniaaGreatDoor.JoinSpec Go.Proofs.YtkfibepejlgniaaGreatDoor.Split Go.Proofs.YtkfibepejlgniaaGreatDoor.Labels Go.Proofs.YtkfibepejlgniaaGreatDoor.Label Go.Proofs.YtkfibepejlgniaaGreatDoor.PutLabel Go.Proofs.YtkfibepejlgniaaGreatDoor.NameOk Go.Proofs.YtkfibepejlgniaaGreatDoor.Plain Go.Proofs.YtkfibepejlgniaaGreatDoor.Place Go.Proofs.YtkfibepejlgniaaGreatDoor.AbvSpec Go.Proofs.YtkfibepejlgniaaGreatDoor.Put Go.Proofs.YtkfibepejlgniaaGreatDoor.PutSpec

theorem bk_head {w : World} {g i : Nat} {t : TypeId} {L : List ByteArray} {r : List Value} (h : Bk w g t (L.map tv ++ r)) (hi : i ≤ L.length) : Ss w w.heap.size (some ⟨g, 0, none⟩) i (L.take i) := by
  have e : (L.take i).map tv ++ ((L.drop i).map tv ++ r) = L.map tv ++ r := by rw [← List.append_assoc, ← List.map_append, List.take_append_drop]
  exact bk_ssw (r := (L.drop i).map tv ++ r) (by rw [e]; exact h) (by rw [List.length_take]; omega)
theorem ptr_tail (q : Int) (h0 : 0 ≤ q) (h1 : q ≤ 16383) : tail2 (49152 + q) = ptr q := if_pos (by omega)

set_option maxRecDepth 100000 in
set_option maxHeartbeats 4000000 in
theorem impl (A : Option Addr) (n c : Nat) (l : List UInt8) (s : ByteArray) (w : World) (he : Env w) (hs : Sl w w.heap.size A n l) (hnc : n ≤ c) (hnil : A = none → n = 0 ∧ c = 0) (hn : n ≤ 200000000) (hz : s.size ≤ 1048576) :
    Calls Tryz.prog 82 #[.slice A n c, .string s] w (Gives w (l ++ tailN l s)) := by
  have HS := Lib.hid hs
  have HL := Lib.hid hs.1
  have HN := Lib.hid hnil
  have HE := Lib.hid he
  have NO := Lib.hid (NameOk.impl s w he (by omega))
  have LA := Lib.hid (fun w he => Labels.impl s w he (by omega))
  have PL := Lib.hid (fun t w he hs => Place.impl A n c l t w he hs (by omega) hnc)
  have PP := Lib.hid (fun w he hs => Plain.impl A n c l s w he hs HN.out (by omega) (by omega))
  clear hs hnil he
  cases hb : Nm s with
  | false =>
    have HT : Hid (tailN l s = []) := by show _ = _; rw [tailN, hb]; rfl
    rw [hb] at NO
    clear hb
    go_enter Tryz.func82, Tryz.ntmps82
    go_wp2_with fail
    refine NO.out.mono ?_
    rintro e w1 ⟨rfl, hl⟩
    have L1 := Lib.hid hl
    clear hl
    go_wp2_with fail
    refine (appended_gives A none n c 0 0 l [] w1 ((HS.out.below L1.out).wider L1.out.size) Sl.nil HN.out (fun _ => ⟨rfl, rfl⟩) (by omega) (by omega)).mono ?_
    rintro e w2 ⟨g, m, c1, r, rfl, hm, hle, hg, hb, hl⟩
    have HM := Lib.hid hm
    have HK := Lib.hid hb
    have HG := Lib.hid hg
    have HL := Lib.hid hl
    clear hm hb hl hg
    go_wp2
    go_ret
    rw [HT.out]
    exact Gives.later ⟨g, m, c1, r, rfl, HM.out, hle, HG.out, HK.out, HL.out⟩ L1.out
  | true =>
    have AB := Lib.hid (fun w he => AbvImpl.impl s w he hb)
    have HT : Hid (tailN l s = pn l (Lab s)) := by show _ = _; rw [tailN, hb]; rfl
    have HTP : Hid (tailP s = tls (Lab s) ++ zer) := by show _ = _; rw [tailP, hb]; rfl
    obtain ⟨h50, h6, hok⟩ := nm_parts hb
    have HSH := Lib.hid (lab_short s)
    have HAG := Lib.hid (fun k h => ab_get s (Lab s).length k h)
    have HAL := Lib.hid (ab_len s (Lab s).length)
    rw [hb] at NO
    clear hb hok
    generalize ab s (Lab s).length = M at *
    generalize Lab s = L at *
    go_enter Tryz.func82, Tryz.ntmps82
    go_wp2_with fail
    refine NO.out.mono ?_
    rintro e w1 ⟨rfl, hl⟩
    have L1 := Lib.hid hl
    clear hl
    go_wp2_with fail
    refine (LA.out w1 (HE.out.below L1.out)).mono ?_
    rintro e w2 ⟨gl, nl, cl, rl, rfl, hm, hcl, hg, hk, hl⟩
    have NL := Lib.hid hm
    have hnl : nl ≤ 6 := by omega
    have K2 := Lib.hid hk
    have L2 := Lib.hid (L1.out.trans (hl.mono L1.out.size))
    clear hm hg hk hl L1
    go_wp2_with fail
    refine (AB.out w2 (HE.out.below L2.out)).mono ?_
    rintro e w3 ⟨ga, na, ca, ra, rfl, hm, hca, hg, hk, hl⟩
    have NA := Lib.hid hm
    have hna : nl + 1 = na := by have := HAL.out; have := NL.out; omega
    have KA3 := Lib.hid hk
    have K3 := Lib.hid (K2.out.below hl K2.out.lt)
    have L3 := Lib.hid (L2.out.trans (hl.mono L2.out.size))
    clear hm hg hk hl L2 K2
    subst hna
    go_wp2
    go_loopw [22] (fun i wr => ∃ k : Nat, k ≤ nl ∧ i = .int .i64 k ∧ Hid (pn l L = tls (L.take k) ++ pn l (L.drop k)) ∧ Hid (Bk wr ga 9 (M.map tv ++ ra)) ∧ Hid (Bk wr gl 9 (L.map tv ++ rl)) ∧ Hid (Below w.heap.size w wr)) (fun i _ => nl - (intOf i).toNat)
    case atStart => exact ⟨0, Nat.zero_le _, rfl, by show _ = _; rw [List.take_zero, tls_nil, List.nil_append, List.drop_zero], KA3.out, K3.out, L3.out⟩
    case round =>
      clear K3 L3 KA3
      obtain ⟨k, hk, rfl, HPN, HKA, HK, HB⟩ := hrel
      by_cases hlt : k < nl
      · have hkl : k < L.length := by rw [NL.out]; exact hlt
        have hkm : k < M.length := by rw [NA.out]; omega
        have hy : wr.cell? ⟨ga, k, none⟩ = some (.string M[k]) := by
          rw [HKA.out.cell, List.getElem?_append_left (by rw [List.length_map]; exact hkm), tv_get]
        have HMK := Lib.hid (HAG.out k hkm)
        have PK := Lib.hid (PL.out M[k] wr (HE.out.below HB.out) ((HS.out.below HB.out).wider HB.out.size))
        by_cases hq : 0 ≤ pl l M[k]
        · obtain ⟨q, hqe, _, hq2, _⟩ := pl_some hq
          have HV : Hid (pn l (L.drop k) = ptr (q : Int)) := by
            show _ = _
            rw [← hqe, HMK.out]
            exact pn_hit hkl (by rw [← HMK.out]; exact hq)
          rw [hqe] at PK
          have PT := Lib.hid (ptr_tail (q : Int) (by omega) (by omega))
          clear hqe hq
          generalize M[k] = X at *
          go_wp2_with fail
          refine PK.out.mono ?_
          rintro e w5 ⟨rfl, hl⟩
          have B5 := Lib.hid (HB.out.trans (hl.mono HB.out.size))
          have K5 := Lib.hid (HK.out.below hl HK.out.lt)
          clear hl HB HK HKA hy
          have TL : Hid ((l ++ tls (L.take k)).length ≤ 200010000) := by
            show _ ≤ _
            have h1 := tls_len (L.take k)
            rw [List.length_take] at h1
            rw [List.length_append, HL.out]
            omega
          go_wp2_with fail
          refine (putLabels A n c l (some ⟨gl, 0, none⟩) k cl (L.take k) w5 ((HS.out.below B5.out).wider B5.out.size) HN.out (bk_head K5.out (by omega)) (by omega) (by omega) (fun j h => by
            rw [List.getElem_take]
            exact Nat.le_trans (HSH.out j (by rw [List.length_take] at h; omega)) (by omega))).mono ?_
          rintro e w6 ⟨g6, m6, c6, r6, rfl, hm, hle, hg, hb, hl⟩
          have hm6 : m6 ≤ 200010000 := by have := TL.out; omega
          have M6 := Lib.hid hm
          have X6 := Lib.hid hb
          have B6 := Lib.hid (B5.out.trans (hl.mono B5.out.size))
          clear hm hg hb hl B5 K5
          go_wp2_with fail
          refine (implPut2 (some ⟨g6, 0, none⟩) m6 c6 _ (49152 + (q : Int)) w6 (M6.out ▸ (X6.out.sl'.wider X6.out.lt)) (fun h => by cases h) (by omega)).mono ?_
          rintro e w7 ⟨g7, m7, c7, r7, rfl, hm, hle7, hg, hb, hl⟩
          rw [PT.out] at hm hb
          have M7 := Lib.hid hm
          have X7 := Lib.hid hb
          have G7 := Lib.hid hg
          have HLL := Lib.hid hl
          clear hm hg hb hl
          go_wp2
          go_ret
          rw [HT.out, HPN.out, HV.out, ← List.append_assoc]
          exact Gives.later ⟨g7, m7, c7, r7, rfl, M7.out, hle7, G7.out, X7.out, HLL.out⟩ B6.out
        · have HV : Hid (pn l L = tls (L.take (k + 1)) ++ pn l (L.drop (k + 1))) := by
            show _ = _
            rw [tls_step L k hkl, HPN.out, pn_miss hkl (by rw [← HMK.out]; exact hq), List.append_assoc]
          have hqm := pl_least l M[k]
          generalize pl l M[k] = q at *
          generalize M[k] = X at *
          have hq' : ¬ (0 : Int) ≤ q := hq
          go_wp2_with fail
          refine PK.out.mono ?_
          rintro e w5 ⟨rfl, hl⟩
          have B5 := Lib.hid (HB.out.trans (hl.mono HB.out.size))
          have K5 := Lib.hid (HK.out.below hl HK.out.lt)
          have KA5 := Lib.hid (HKA.out.below hl HKA.out.lt)
          clear hl HB HK HKA hy
          go_wp2
          go_roundw
          case rel => exact ⟨k + 1, by omega, by go_num, HV.out, KA5.out, K5.out, B5.out⟩
          case measure => simp [intOf]; omega
      · have HTA : Hid (L.take k = L) := List.take_of_length_le (by rw [NL.out]; omega)
        have HTD : Hid (L.drop k = []) := List.drop_of_length_le (by rw [NL.out]; omega)
        rw [HTA.out, HTD.out] at HPN
        have HPN2 : Hid (pn l L = tls L ++ zer) := HPN.out
        clear HPN
        go_wp2_with fail
        refine (PP.out wr (HE.out.below HB.out) ((HS.out.below HB.out).wider HB.out.size)).mono ?_
        rintro e w5 ⟨g, m, c1, r, rfl, hm, hle, hg, hb, hl⟩
        have HM := Lib.hid hm
        have HKK := Lib.hid hb
        have HG := Lib.hid hg
        have HLL := Lib.hid hl
        clear hm hb hl hg
        go_wp2
        go_ret
        rw [HT.out, HPN2.out, ← HTP.out]
        exact Gives.later ⟨g, m, c1, r, rfl, HM.out, hle, HG.out, HKK.out, HLL.out⟩ HB.out
end Go.Proofs.YtkfibepejlgniaaGreatDoor.PutName

/- What the model's PutRecord does: a new slice that holds the old bytes and those of a valid record. Conditions: fewer than 199000001 bytes in the slice, at most 1048576 in each text. -/
namespace Go.Proofs.YtkfibepejlgniaaGreatDoor.RecS
open Go.RowKit Go.Proofs.YtkfibepejlgniaaGreatDoor.Mem Go.Proofs.YtkfibepejlgniaaGreatDoor.MemR Go.Proofs.YtkfibepejlgniaaGreatDoor.App Go.Proofs.YtkfibepejlgniaaGreatDoor.Put Go.Proofs.YtkfibepejlgniaaGreatDoor.PutO Go.Proofs.YtkfibepejlgniaaGreatDoor.PutLabel Go.Proofs.YtkfibepejlgniaaGreatDoor.BoxR Go.Proofs.YtkfibepejlgniaaGreatDoor.RecOk Go.Proofs.YtkfibepejlgniaaGreatDoor.Plain Go.Proofs.YtkfibepejlgniaaGreatDoor.PutSpec Go.Proofs.YtkfibepejlgniaaGreatDoor.FieldMath Go.Proofs.YtkfibepejlgniaaGreatDoor.DataS

/-- The bytes as they grow. -/
def t1 (l : List UInt8) (r : Rec) : List UInt8 := l ++ tailN l r.name
def t2 (l : List UInt8) (r : Rec) : List UInt8 := t1 l r ++ tail2 r.ty
def t3 (l : List UInt8) (r : Rec) : List UInt8 := t2 l r ++ tail2 1
def t4 (l : List UInt8) (r : Rec) : List UInt8 := t3 l r ++ tail4 r.ttl
def t5 (l : List UInt8) (r : Rec) : List UInt8 := t4 l r ++ tail2 ((dat r).length : Int)
section
variable (l : List UInt8) (r : Rec)
theorem l1 : (t1 l r).length ≤ l.length + 80 := by unfold t1; rw [List.length_append]; have := tailN_len l r.name; omega
theorem l2 : (t2 l r).length ≤ l.length + 82 := by unfold t2; rw [List.length_append]; have := tail2_len r.ty; have := l1 l r; omega
theorem l3 : (t3 l r).length ≤ l.length + 84 := by unfold t3; rw [List.length_append]; have := tail2_len 1; have := l2 l r; omega
theorem l4 : (t4 l r).length ≤ l.length + 88 := by unfold t4; rw [List.length_append]; have := tail4_len r.ttl; have := l3 l r; omega
theorem l5 : (t5 l r).length ≤ l.length + 90 := by unfold t5; rw [List.length_append]; have := tail2_len ((dat r).length : Int); have := l4 l r; omega
theorem t_all (h : rok r = true) : t5 l r ++ dat r = l ++ tailR l r := by
  unfold t5 t4 t3 t2 t1
  rw [tailR, if_pos h]
  simp only [List.append_assoc]
theorem t_none (h : rok r = false) : l ++ tailR l r = l := by
  rw [tailR, h]
  simp
end
theorem kept6 {w w1 w2 : World} {g : Nat} {r : Rec} (h : (w1.cell? ⟨g, 0, none⟩ = some (.string r.name) ∧ w1.cell? ⟨g, 1, none⟩ = some (.int .i64 r.ty) ∧ w1.cell? ⟨g, 2, none⟩ = some (.int .i64 r.ttl) ∧ w1.cell? ⟨g, 3, none⟩ = some (.int .i64 r.n) ∧ w1.cell? ⟨g, 4, none⟩ = some (.string r.host) ∧ w1.cell? ⟨g, 5, none⟩ = some (.string r.text)) ∧ Sv w w1) (hl : Below w1.heap.size w1 w2) :
    (w2.cell? ⟨g, 0, none⟩ = some (.string r.name) ∧ w2.cell? ⟨g, 1, none⟩ = some (.int .i64 r.ty) ∧ w2.cell? ⟨g, 2, none⟩ = some (.int .i64 r.ttl) ∧ w2.cell? ⟨g, 3, none⟩ = some (.int .i64 r.n) ∧ w2.cell? ⟨g, 4, none⟩ = some (.string r.host) ∧ w2.cell? ⟨g, 5, none⟩ = some (.string r.text)) ∧ Sv w w2 :=
  ⟨show Bx w2 g r from (show Bx w1 g r from h.1).below hl, h.2.trans (hl.mono h.2.size)⟩
theorem kept6_draw {w w1 : World} {g : Nat} {r : Rec} (h : (w1.cell? ⟨g, 0, none⟩ = some (.string r.name) ∧ w1.cell? ⟨g, 1, none⟩ = some (.int .i64 r.ty) ∧ w1.cell? ⟨g, 2, none⟩ = some (.int .i64 r.ttl) ∧ w1.cell? ⟨g, 3, none⟩ = some (.int .i64 r.n) ∧ w1.cell? ⟨g, 4, none⟩ = some (.string r.host) ∧ w1.cell? ⟨g, 5, none⟩ = some (.string r.text)) ∧ Sv w w1) :
    (w1.drew.cell? ⟨g, 0, none⟩ = some (.string r.name) ∧ w1.drew.cell? ⟨g, 1, none⟩ = some (.int .i64 r.ty) ∧ w1.drew.cell? ⟨g, 2, none⟩ = some (.int .i64 r.ttl) ∧ w1.drew.cell? ⟨g, 3, none⟩ = some (.int .i64 r.n) ∧ w1.drew.cell? ⟨g, 4, none⟩ = some (.string r.host) ∧ w1.drew.cell? ⟨g, 5, none⟩ = some (.string r.text)) ∧ Sv w w1.drew := kept6 h ((Below.refl _ _).drew)

set_option maxRecDepth 100000 in
set_option maxHeartbeats 4000000 in
theorem spec (A : Option Addr) (n c : Nat) (l : List UInt8) (r : Rec) (w : World) (hs : Sl w w.heap.size A n l) (hnc : n ≤ c) (hnil : A = none → n = 0 ∧ c = 0) (hn : n ≤ 199000000) (hr : Med r) :
    Calls Tryz.prog 140 #[.slice A n c, .agg #[.string r.name, .int .i64 r.ty, .int .i64 r.ttl, .int .i64 r.n, .string r.host, .string r.text]] w (GivesO w (l ++ tailR l r)) := by
  obtain ⟨i0, hi, hz0, hz1, hz2⟩ := info_parts Copy.info
  have HS := Lib.hid hs
  have HL := Lib.hid hs.1
  have HN := Lib.hid hnil
  clear hs hnil
  have RO := Lib.hid (fun w => RecOk.spec r w hr.mod)
  have PD := Lib.hid (fun w => DataS.spec r w hr)
  have hnm : r.name.size ≤ 1048576 := hr.1
  have TA := Lib.hid (t_all l r)
  have TN := Lib.hid (t_none l r)
  have X0 := Lib.hid (bx_new w 117 r)
  have L0 := Lib.hid ((Below.refl w.heap.size w).alloc (Nat.le_refl _) (.cells #[.string r.name, .int .i64 r.ty, .int .i64 r.ttl, .int .i64 r.n, .string r.host, .string r.text] 117))
  obtain ⟨u, hu⟩ : ∃ u, rok r = u := ⟨_, rfl⟩
  have HB := Lib.hid hu
  clear hu
  go_enter Tryz.func140, Tryz.ntmps140
  go_wp2_with fail
  refine (RO.out _).mono ?_
  rw [HB.out]
  rintro e w1 ⟨rfl, hl⟩
  have L1 := Lib.hid (L0.out.trans (hl.mono L0.out.size))
  have X1 := Lib.hid (X0.out.below hl)
  clear hl L0 X0 RO
  cases u with
  | false =>
    have SA := Lib.hid (sl_alloc ((HS.out.below L1.out).wider L1.out.size) (.cells #[] 5))
    have ON := Lib.hid (owns_base (owns_new w1) L1.out.size)
    go_wp2_with (at_builtin; refine append_src rfl (.tmp 10) (.tmp 11) 22 rfl w.heap.size 5 i0 (.int .u8 0) Tryz.underlying22 hi hz0 hz1 hz2 rfl w1.heap.size 0 0 [] rfl ON.out A n c _ l rfl SA.out HN.out ?c1 ?c2 ?c3 ?_)
    case c1 => omega
    case c2 => omega
    case c3 => have := L1.out.size; simp; omega
    intro g1 cap1 w2 hown hgrow
    have O1 := Lib.hid hown
    have L2 := Lib.hid ((L1.out.alloc L1.out.size (.cells #[] 5)).grown hgrow (by have := L1.out.size; simp; omega) (fun j hj => by cases hj; exact L1.out.size))
    clear hown hgrow
    go_wp2
    go_ret
    rw [TN.out HB.out]
    exact givesO_of O1.out L2.out
  | true =>
    have h1 := l1 l r
    have h2 := l2 l r
    have h3 := l3 l r
    have h4 := l4 l r
    have h5 := l5 l r
    rw [HL.out] at h1 h2 h3 h4 h5
    have hd := dat_len r
    have PN : Hid (∀ (W : World), ((W.cell? ⟨w.heap.size, 0, none⟩ = some (.string r.name) ∧ W.cell? ⟨w.heap.size, 1, none⟩ = some (.int .i64 r.ty) ∧ W.cell? ⟨w.heap.size, 2, none⟩ = some (.int .i64 r.ttl) ∧ W.cell? ⟨w.heap.size, 3, none⟩ = some (.int .i64 r.n) ∧ W.cell? ⟨w.heap.size, 4, none⟩ = some (.string r.host) ∧ W.cell? ⟨w.heap.size, 5, none⟩ = some (.string r.text)) ∧ Sv w W) → Calls Tryz.prog 86 #[.slice A n c, .string r.name] W (Gives W (t1 l r))) :=
      fun W hW => (PutSpec.spec A n c l r.name W ((HS.out.below hW.2).wider hW.2.size) hnc HN.out (by omega) (by omega)).mono fun e w' h => h.gives
    have P2 : Hid (∀ (g m c : Nat) (rr : List Value) (W : World), (t1 l r).length = m → Bk W g 5 ((t1 l r).map bv ++ rr) → Calls Tryz.prog 85 #[.slice (some ⟨g, 0, none⟩) m c, .int .i64 r.ty] W (Gives W (t2 l r))) :=
      fun g m c rr W hm hb => specPut2 (some ⟨g, 0, none⟩) m c (t1 l r) r.ty W (hm ▸ (hb.sl'.wider hb.lt)) (fun h => by cases h) (by omega)
    have P3 : Hid (∀ (g m c : Nat) (rr : List Value) (W : World), (t2 l r).length = m → Bk W g 5 ((t2 l r).map bv ++ rr) → Calls Tryz.prog 85 #[.slice (some ⟨g, 0, none⟩) m c, .int .i64 1] W (Gives W (t3 l r))) :=
      fun g m c rr W hm hb => specPut2 (some ⟨g, 0, none⟩) m c (t2 l r) 1 W (hm ▸ (hb.sl'.wider hb.lt)) (fun h => by cases h) (by omega)
    have P4 : Hid (∀ (g m c : Nat) (rr : List Value) (W : World), (t3 l r).length = m → Bk W g 5 ((t3 l r).map bv ++ rr) → Calls Tryz.prog 170 #[.slice (some ⟨g, 0, none⟩) m c, .int .i64 r.ttl] W (Gives W (t4 l r))) :=
      fun g m c rr W hm hb => specPut4 (some ⟨g, 0, none⟩) m c (t3 l r) r.ttl W (hm ▸ (hb.sl'.wider hb.lt)) (fun h => by cases h) (by omega)
    have P5 : Hid (∀ (g m c : Nat) (rr : List Value) (W : World), (t4 l r).length = m → Bk W g 5 ((t4 l r).map bv ++ rr) → Calls Tryz.prog 85 #[.slice (some ⟨g, 0, none⟩) m c, .int .i64 ((dat r).length : Int)] W (GivesO W (t5 l r))) :=
      fun g m c rr W hm hb => specPut2O (some ⟨g, 0, none⟩) m c (t4 l r) ((dat r).length : Int) W (hm ▸ (hb.sl'.wider hb.lt)) (fun h => by cases h) (by omega)
    have S0 : (w1.cell? ⟨w.heap.size, 0, none⟩ = some (.string r.name) ∧ w1.cell? ⟨w.heap.size, 1, none⟩ = some (.int .i64 r.ty) ∧ w1.cell? ⟨w.heap.size, 2, none⟩ = some (.int .i64 r.ttl) ∧ w1.cell? ⟨w.heap.size, 3, none⟩ = some (.int .i64 r.n) ∧ w1.cell? ⟨w.heap.size, 4, none⟩ = some (.string r.host) ∧ w1.cell? ⟨w.heap.size, 5, none⟩ = some (.string r.text)) ∧ Sv w w1 := ⟨X1.out, L1.out⟩
    generalize t1 l r = T1 at *
    generalize t2 l r = T2 at *
    generalize t3 l r = T3 at *
    generalize t4 l r = T4 at *
    generalize t5 l r = T5 at *
    generalize dat r = D at *
    have LW := Lib.hid (Nat.le_trans L1.out.size (Nat.le_refl _))
    clear X1
    go_wp2
    go_region_held3 (fun w' => (w'.cell? ⟨w.heap.size, 0, none⟩ = some (.string r.name) ∧ w'.cell? ⟨w.heap.size, 1, none⟩ = some (.int .i64 r.ty) ∧ w'.cell? ⟨w.heap.size, 2, none⟩ = some (.int .i64 r.ttl) ∧ w'.cell? ⟨w.heap.size, 3, none⟩ = some (.int .i64 r.n) ∧ w'.cell? ⟨w.heap.size, 4, none⟩ = some (.string r.host) ∧ w'.cell? ⟨w.heap.size, 5, none⟩ = some (.string r.text)) ∧ Sv w w')
      (first | exact S0 | assumption | exact kept6 (by assumption) hl | exact kept6_draw (by assumption) | fail)
      (first
        | (go_at_call 86; refine (PN.out _ (by assumption)).mono ?_; rintro e w11 ⟨g1, m1, c1, r1, rfl, hm1, -, hg1, hb1, hl⟩)
        | (go_at_call 170; refine (P4.out _ _ _ _ _ hm3 hb3).mono ?_; rintro e w14 ⟨g4, m4, c4, r4, rfl, hm4, -, hg4, hb4, hl⟩)
        | (go_at_call 85; refine (P3.out _ _ _ _ _ hm2 hb2).mono ?_; rintro e w13 ⟨g3, m3, c3, r3, rfl, hm3, -, hg3, hb3, hl⟩)
        | (go_at_call 85; refine (P2.out _ _ _ _ _ hm1 hb1).mono ?_; rintro e w12 ⟨g2, m2, c2, r2, rfl, hm2, -, hg2, hb2, hl⟩)
        | fail)
    rename_i hH
    have X14 : Hid (Bx w14 w.heap.size r) := hH.1
    have L14 : Hid (Below w.heap.size w w14) := hH.2
    have M4 := Lib.hid hm4
    have B4 := Lib.hid hb4
    clear hH hm1 hb1 hg1 hm2 hb2 hg2 hm3 hb3 hg3 hm4 hb4 hg4 hl S0 PN P2 P3 P4 L1 LW
    obtain ⟨x0, x1, x2, x3, x4, x5⟩ := X14.out
    go_wp2_with fail
    refine (PD.out _).mono ?_
    rintro e w15 ⟨gd, md, cd, rd, rfl, hmd, hled, hgd, hbd, hl⟩
    have BD := Lib.hid hbd
    have B5 := Lib.hid (B4.out.below hl B4.out.lt)
    have L15 := Lib.hid (L14.out.trans (hl.mono L14.out.size))
    subst hmd
    clear hgd hbd hl x0 x1 x2 x3 x4 x5 X14 B4 L14
    go_wp2_with fail
    refine (P5.out g4 m4 c4 r4 w15 M4.out B5.out).mono ?_
    rintro e w16 ⟨g5, c5, rfl, ho, hl⟩
    have O6 := Lib.hid (owns_base ho L15.out.size)
    have G6 := Lib.hid (show w15.heap.size ≤ g5 from (ho.lt g5 rfl).1)
    have BD6 := Lib.hid (BD.out.below hl BD.out.lt)
    have L16 := Lib.hid (L15.out.trans (hl.mono L15.out.size))
    have SD := Lib.hid (show Sl w16 w16.heap.size (some ⟨gd, 0, none⟩) D.length D from BD6.out.sl'.wider BD6.out.lt)
    clear ho hl B5 BD L15 BD6
    obtain ⟨m5, hm5⟩ : ∃ m, m = T5.length := ⟨_, rfl⟩
    rw [← hm5] at O6 h5 ⊢
    clear hm5
    go_wp2_with (at_builtin; refine append_src rfl (.tmp 29) (.tmp 30) 22 rfl w.heap.size 5 i0 (.int .u8 0) Tryz.underlying22 hi hz0 hz1 hz2 rfl g5 m5 c5 (T5.map bv) rfl O6.out (some ⟨gd, 0, none⟩) D.length cd _ D rfl SD.out (fun h => by cases h) ?d1 ?d2 ?d3 ?_)
    case d1 => omega
    case d2 => omega
    case d3 => exact L16.out.size
    intro g7 c7 w17 hown hgrow
    rw [← List.map_append, TA.out HB.out] at hown
    have O7 := Lib.hid hown
    have L17 := Lib.hid (L16.out.grown hgrow L16.out.size (fun j hj => by cases hj; exact (O6.out.lt g5 rfl).1))
    clear hown hgrow
    go_wp2
    go_ret
    exact givesO_of O7.out L17.out
end Go.Proofs.YtkfibepejlgniaaGreatDoor.RecS

/- What PutRecords does in the model: a new slice that holds the old bytes and those of each valid record. Conditions: at most 1048576 bytes, as many records, as many bytes in each text. -/
namespace Go.Proofs.YtkfibepejlgniaaGreatDoor.PutsS
open Go.RowKit Go.Proofs.YtkfibepejlgniaaGreatDoor.Mem Go.Proofs.YtkfibepejlgniaaGreatDoor.MemR Go.Proofs.YtkfibepejlgniaaGreatDoor.App Go.Proofs.YtkfibepejlgniaaGreatDoor.PutO Go.Proofs.YtkfibepejlgniaaGreatDoor.FieldMath Go.Proofs.YtkfibepejlgniaaGreatDoor.DataS

theorem own_sl {w : World} {base g m cap : Nat} {l : List UInt8} (h : w.ownsRow base 5 1 (.slice (some ⟨g, 0, none⟩) m cap) m (l.map bv)) : Sl w w.heap.size (some ⟨g, 0, none⟩) m l ∧ m ≤ cap := by
  have hl : l.length = m := by have := h.1; simpa using this
  obtain ⟨r, hb, hr, _⟩ := bk_of_owns h
  exact ⟨hl ▸ (hb.sl'.wider hb.lt), by rw [← hr, List.length_append, List.length_map, hl]; omega⟩

set_option maxRecDepth 100000 in
set_option maxHeartbeats 4000000 in
theorem spec (A A' : Option Addr) (n c n' c' : Nat) (l : List UInt8) (L : List Rec) (w : World) (hs : Sl w w.heap.size A n l) (hnil : A = none → n = 0 ∧ c = 0) (hn : n ≤ 1048576) (hS : Sr w w.heap.size A' n' L) (hn' : n' ≤ 1048576) (hM : ∀ r ∈ L, Med r) :
    Calls Tryz.prog 87 #[.slice A n c, .slice A' n' c'] w (GivesO w (puts l L)) := by
  obtain ⟨i0, hi, hz0, hz1, hz2⟩ := info_parts Copy.info
  have HS := Lib.hid hs
  have HN := Lib.hid hnil
  have SS := Lib.hid hS
  have HM := Lib.hid hM
  have HL := Lib.hid hS.1
  have ST := Lib.hid (puts_step l L)
  have PL := Lib.hid (fun k => puts_len (L.take k) l)
  have HZ := Lib.hid hs.1
  have HA : Hid (puts l L = puts l (L.take n')) := by show _ = _; rw [List.take_of_length_le (by rw [hS.1]; omega)]
  have H0 : Hid (puts l (L.take 0) = l) := rfl
  clear hs hnil hS hM
  go_enter Tryz.func87, Tryz.ntmps87
  go_wp2_with (at_builtin; refine append_src rfl (.tmp 7) (.tmp 8) 22 rfl w.heap.size 5 i0 (.int .u8 0) Tryz.underlying22 hi hz0 hz1 hz2 rfl w.heap.size 0 0 [] rfl (owns_new w) A n c _ l rfl (sl_alloc HS.out _) HN.out ?c1 ?c2 ?c3 ?_)
  case c1 => omega
  case c2 => omega
  case c3 => simp
  intro g1 cap1 w1 hown hgrow
  have O1 := Lib.hid hown
  have L1 := Lib.hid ((((Below.refl w.heap.size w).alloc (Nat.le_refl _) (.cells #[] 5))).grown hgrow (by simp) (fun j hj => by cases hj; exact Nat.le_refl _))
  clear hown hgrow
  go_wp2
  go_loopw [5, 6] (fun v i wr => ∃ (k g m cap : Nat), k ≤ n' ∧ m ≤ 1048576 + 173 * k ∧ i = .int .i64 (k : Int) ∧ v = .slice (some ⟨g, 0, none⟩) m cap ∧ Hid (wr.ownsRow w.heap.size 5 1 (.slice (some ⟨g, 0, none⟩) m cap) m ((puts l (L.take k)).map bv)) ∧ Hid (Below w.heap.size w wr)) (fun _ i _ => n' - (intOf i).toNat)
  case atStart => exact ⟨0, g1, n, cap1, Nat.zero_le _, by omega, rfl, by simp, by rw [H0.out]; simpa [Hid] using O1.out, L1.out⟩
  case round =>
    clear O1 L1
    obtain ⟨k, g, m, cap, hk, hm, rfl, rfl, HO, HB⟩ := hrel
    by_cases hlt : k < n'
    · have hkl : k < L.length := by rw [HL.out]; exact hlt
      obtain ⟨b, off, rfl, hbB, hcs⟩ := SS.out.2 (by omega)
      obtain ⟨e0, e1, e2, e3, e4, e5⟩ := (hcs k hkl).below HB.out hbB
      have HQ := Lib.hid (ST.out k hkl)
      have HP := PL.out (k + 1)
      rw [List.length_take, HZ.out] at HP
      have MD := Lib.hid (HM.out L[k] (List.getElem_mem hkl))
      obtain ⟨hsl, hmc⟩ := own_sl HO.out
      have SL := Lib.hid hsl
      clear hcs hsl
      generalize L[k] = r at *
      go_wp2_with fail
      refine (RecS.spec (some ⟨g, 0, none⟩) m cap _ r wr SL.out hmc (fun h => by cases h) (by omega) MD.out).mono ?_
      rw [← HQ.out]
      rintro e w2 ⟨g2, cap2, rfl, ho, hl⟩
      have hz : (puts l (L.take (k + 1))).length ≤ 1048576 + 173 * (k + 1) := by omega
      have O2 := Lib.hid (owns_base ho HB.out.size)
      have B2 := Lib.hid (HB.out.trans (hl.mono HB.out.size))
      clear ho hl HO HB SL e0 e1 e2 e3 e4 e5 HP HQ
      obtain ⟨m2, hm2⟩ : ∃ m2, m2 = (puts l (L.take (k + 1))).length := ⟨_, rfl⟩
      rw [← hm2] at O2 hz ⊢
      clear hm2
      go_wp2
      go_roundw
      case rel => exact ⟨k + 1, g2, m2, cap2, by omega, hz, by go_num, rfl, O2.out, B2.out⟩
      case measure => simp [intOf]; omega
    · obtain rfl : k = n' := by omega
      go_wp2
      go_ret
      rw [HA.out]
      exact givesO_of HO.out HB.out
end Go.Proofs.YtkfibepejlgniaaGreatDoor.PutsS
