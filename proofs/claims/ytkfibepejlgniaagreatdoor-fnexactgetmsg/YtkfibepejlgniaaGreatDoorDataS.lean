/- What the model's PutData does: a new slice with the data of a valid record, an empty one for an invalid record. Condition: at most 1048576 bytes in each text. -/
import Derived.Test.YtkfibepejlgniaaGreatDoorFieldMath
import Derived.Deep.RegionHeld3
namespace Go.Proofs.YtkfibepejlgniaaGreatDoor.DataS
open Go.RowKit Go.Proofs.YtkfibepejlgniaaGreatDoor.Mem Go.Proofs.YtkfibepejlgniaaGreatDoor.MemR Go.Proofs.YtkfibepejlgniaaGreatDoor.App Go.Proofs.YtkfibepejlgniaaGreatDoor.Put Go.Proofs.YtkfibepejlgniaaGreatDoor.PutLabel Go.Proofs.YtkfibepejlgniaaGreatDoor.BoxR Go.Proofs.YtkfibepejlgniaaGreatDoor.RecOk Go.Proofs.YtkfibepejlgniaaGreatDoor.Plain Go.Proofs.YtkfibepejlgniaaGreatDoor.FieldMath

/-- The texts of a record are not long. -/
def Med (r : Rec) : Prop := r.name.size ≤ 1048576 ∧ r.host.size ≤ 1048576 ∧ r.text.size ≤ 1048576
theorem Med.mod {r : Rec} (h : Med r) : Mod r := ⟨Nat.le_trans h.1 (by decide), Nat.le_trans h.2.1 (by decide), Nat.le_trans h.2.2 (by decide)⟩
/-- A new empty slice. -/
theorem gives_nil {w w1 : World} (h : Below w.heap.size w w1) : Gives w [] (.returned (.slice (some ⟨w1.heap.size, 0, none⟩) 0 0)) (w1.alloc (.cells #[] 5)) :=
  ⟨w1.heap.size, 0, 0, [], rfl, rfl, Nat.le_refl _, h.size, heap_alloc_new w1 _, h.alloc h.size _⟩
theorem text_len {r : Rec} (h : rok r = true) (ht : r.ty = 16) : r.text.size ≤ 12 := by
  rw [rok, ht, dko_16, Bool.and_eq_true, Bool.and_eq_true, Bool.and_eq_true, TextR.txo, Bool.and_eq_true] at h
  exact of_decide_eq_true h.2.2.1.2
theorem data_text (s : ByteArray) : (one s.size).map bv ++ s.data.toList.map bv = (one s.size ++ s.data.toList).map bv := by rw [List.map_append]

/-- Nothing of w has been turned. A def, so that no step of a walk opens it. -/
def Sv (w w' : World) : Prop := Below w.heap.size w w'
theorem kept {w w1 w2 : World} {g : Nat} {n : Int} {s : ByteArray} (h : (w1.cell? ⟨g, 3, none⟩ = some (.int .i64 n) ∧ w1.cell? ⟨g, 4, none⟩ = some (.string s)) ∧ Sv w w1) (hl : Below w1.heap.size w1 w2) : (w2.cell? ⟨g, 3, none⟩ = some (.int .i64 n) ∧ w2.cell? ⟨g, 4, none⟩ = some (.string s)) ∧ Sv w w2 := by
  have hg : g < w1.heap.size := World.block_lt_of_cell? _ _ h.1.1
  exact ⟨⟨(hl.cell (p := ⟨g, 3, none⟩) hg).trans h.1.1, (hl.cell (p := ⟨g, 4, none⟩) hg).trans h.1.2⟩, h.2.trans (hl.mono h.2.size)⟩
theorem kept_draw {w w1 : World} {g : Nat} {n : Int} {s : ByteArray} (h : (w1.cell? ⟨g, 3, none⟩ = some (.int .i64 n) ∧ w1.cell? ⟨g, 4, none⟩ = some (.string s)) ∧ Sv w w1) : (w1.drew.cell? ⟨g, 3, none⟩ = some (.int .i64 n) ∧ w1.drew.cell? ⟨g, 4, none⟩ = some (.string s)) ∧ Sv w w1.drew := kept h ((Below.refl _ _).drew)
theorem kept_alloc {w w1 : World} {g : Nat} {n : Int} {s : ByteArray} (h : (w1.cell? ⟨g, 3, none⟩ = some (.int .i64 n) ∧ w1.cell? ⟨g, 4, none⟩ = some (.string s)) ∧ Sv w w1) (o : Obj) : ((w1.alloc o).cell? ⟨g, 3, none⟩ = some (.int .i64 n) ∧ (w1.alloc o).cell? ⟨g, 4, none⟩ = some (.string s)) ∧ Sv w (w1.alloc o) := kept h ((Below.refl _ _).alloc (Nat.le_refl _) _)

set_option maxRecDepth 100000 in
set_option maxHeartbeats 4000000 in
theorem spec (r : Rec) (w : World) (hr : Med r) : Calls Tryz.prog 171 #[.agg #[.string r.name, .int .i64 r.ty, .int .i64 r.ttl, .int .i64 r.n, .string r.host, .string r.text]] w (Gives w (dat r)) := by
  obtain ⟨i0, hi, hz0, hz1, hz2⟩ := info_parts Copy.info
  have RO := Lib.hid (fun w => RecOk.spec r w hr.mod)
  have TL := Lib.hid (fun h t => text_len (r := r) h t)
  have HY := Lib.hid (fun h => rok_ty (r := r) h)
  have HT := Lib.hid (show dat r = if rok r = true then dta r.ty r.n r.host r.text else [] from rfl)
  obtain ⟨name, ty, ttl, n, host, text⟩ := r
  obtain ⟨b1, b2, b3⟩ := hr
  simp only at b1 b2 b3 RO HY HT TL ⊢
  generalize dat ⟨name, ty, ttl, n, host, text⟩ = D at *
  have L0 := Lib.hid ((Below.refl w.heap.size w).alloc (Nat.le_refl _) (.cells #[.string name, .int .i64 ty, .int .i64 ttl, .int .i64 n, .string host, .string text] 117))
  have X0 := Lib.hid (bx_new w 117 ⟨name, ty, ttl, n, host, text⟩)
  cases hb : rok ⟨name, ty, ttl, n, host, text⟩ with
  | false =>
    have HB := Lib.hid hb
    clear hb
    go_enter Tryz.func171, Tryz.ntmps171
    go_wp2_with fail
    refine (RO.out _).mono ?_
    rw [HB.out]
    rintro e w1 ⟨rfl, hl⟩
    have L1 := Lib.hid (L0.out.trans (hl.mono L0.out.size))
    clear hl L0 X0
    go_wp2
    go_ret
    rw [HT.out, HB.out]
    exact gives_nil L1.out
  | true =>
    have HB := Lib.hid hb
    clear hb
    rcases HY.out HB.out with rfl | rfl | rfl | rfl | rfl
    · have HD : Hid (D = [] ++ tail4 n) := by show _ = _; rw [HT.out, if_pos HB.out, dta_1]; rfl
      go_enter Tryz.func171, Tryz.ntmps171
      go_wp2_with fail
      refine (RO.out _).mono ?_
      rw [HB.out]
      rintro e w1 ⟨rfl, hl⟩
      have L1 := Lib.hid (L0.out.trans (hl.mono L0.out.size))
      have X1 := Lib.hid (X0.out.below hl)
      clear hl L0 X0
      obtain ⟨x0, x1, x2, x3, x4, x5⟩ := X1.out
      obtain ⟨y0, y1, y2, y3, y4, y5⟩ := X1.out.alloc (.cells #[] 5)
      go_wp2_with fail
      refine (specPut4 (some ⟨w1.heap.size, 0, none⟩) 0 0 [] n _ Sl.nil (fun h => by cases h) (by omega)).mono ?_
      rintro e w2 hg
      rw [← HD.out] at hg
      obtain ⟨g, m, c1, rr, rfl, hm, hle, hgg, hk, hl⟩ := hg
      have F := Lib.hid (show Gives w D (.returned (.slice (some ⟨g, 0, none⟩) m c1)) w2 from Gives.later ⟨g, m, c1, rr, rfl, hm, hle, hgg, hk, hl⟩ (L1.out.alloc L1.out.size _))
      clear hm hle hgg hk hl
      go_wp2
      go_ret
      exact F.out
    · have HD : Hid (D = [] ++ tailP host) := by show _ = _; rw [HT.out, if_pos HB.out, dta_2]; rfl
      go_enter Tryz.func171, Tryz.ntmps171
      go_wp2_with fail
      refine (RO.out _).mono ?_
      rw [HB.out]
      rintro e w1 ⟨rfl, hl⟩
      have L1 := Lib.hid (L0.out.trans (hl.mono L0.out.size))
      have X1 := Lib.hid (X0.out.below hl)
      clear hl L0 X0
      obtain ⟨x0, x1, x2, x3, x4, x5⟩ := X1.out
      obtain ⟨y0, y1, y2, y3, y4, y5⟩ := X1.out.alloc (.cells #[] 5)
      go_wp2_with fail
      refine (Plain.spec (some ⟨w1.heap.size, 0, none⟩) 0 0 [] host _ Sl.nil (fun h => by cases h) (by omega) (by omega)).mono ?_
      rintro e w2 hgo
      have hg := hgo.gives
      clear hgo
      rw [← HD.out] at hg
      obtain ⟨g, m, c1, rr, rfl, hm, hle, hgg, hk, hl⟩ := hg
      have F := Lib.hid (show Gives w D (.returned (.slice (some ⟨g, 0, none⟩) m c1)) w2 from Gives.later ⟨g, m, c1, rr, rfl, hm, hle, hgg, hk, hl⟩ (L1.out.alloc L1.out.size _))
      clear hm hle hgg hk hl
      go_wp2
      go_ret
      exact F.out
    · have HD : Hid (D = [] ++ tailP host) := by show _ = _; rw [HT.out, if_pos HB.out, dta_5]; rfl
      go_enter Tryz.func171, Tryz.ntmps171
      go_wp2_with fail
      refine (RO.out _).mono ?_
      rw [HB.out]
      rintro e w1 ⟨rfl, hl⟩
      have L1 := Lib.hid (L0.out.trans (hl.mono L0.out.size))
      have X1 := Lib.hid (X0.out.below hl)
      clear hl L0 X0
      obtain ⟨x0, x1, x2, x3, x4, x5⟩ := X1.out
      obtain ⟨y0, y1, y2, y3, y4, y5⟩ := X1.out.alloc (.cells #[] 5)
      go_wp2_with fail
      refine (Plain.spec (some ⟨w1.heap.size, 0, none⟩) 0 0 [] host _ Sl.nil (fun h => by cases h) (by omega) (by omega)).mono ?_
      rintro e w2 hgo
      have hg := hgo.gives
      clear hgo
      rw [← HD.out] at hg
      obtain ⟨g, m, c1, rr, rfl, hm, hle, hgg, hk, hl⟩ := hg
      have F := Lib.hid (show Gives w D (.returned (.slice (some ⟨g, 0, none⟩) m c1)) w2 from Gives.later ⟨g, m, c1, rr, rfl, hm, hle, hgg, hk, hl⟩ (L1.out.alloc L1.out.size _))
      clear hm hle hgg hk hl
      go_wp2
      go_ret
      exact F.out
    · have HD : Hid (D = tailP host ++ tail4 n) := by show _ = _; rw [HT.out, if_pos HB.out, dta_6]
      go_enter Tryz.func171, Tryz.ntmps171
      go_wp2_with fail
      refine (RO.out _).mono ?_
      rw [HB.out]
      rintro e w1 ⟨rfl, hl⟩
      have L1 := Lib.hid (L0.out.trans (hl.mono L0.out.size))
      have X1 := Lib.hid (X0.out.below hl)
      clear hl L0 X0
      obtain ⟨x0, x1, x2, x3, x4, x5⟩ := X1.out
      have S0 : (w1.cell? ⟨w.heap.size, 3, none⟩ = some (.int .i64 n) ∧ w1.cell? ⟨w.heap.size, 4, none⟩ = some (.string host)) ∧ Sv w w1 := ⟨⟨x3, x4⟩, L1.out⟩
      have PP : Hid (∀ (W : World) (g : Nat), Calls Tryz.prog 188 #[.slice (some ⟨g, 0, none⟩) 0 0, .string host] W (Gives W (tailP host))) := fun W g => (Plain.spec (some ⟨g, 0, none⟩) 0 0 [] host W Sl.nil (fun h => by cases h) (by omega) (by omega)).mono fun e w' h => h.gives
      have hlP := tailP_len host
      have Z1 := Lib.hid L1.out.size
      clear L1 X1
      go_wp2
      clear x3 x4
      go_region_held3 (fun w' => (w'.cell? ⟨w.heap.size, 3, none⟩ = some (.int .i64 n) ∧ w'.cell? ⟨w.heap.size, 4, none⟩ = some (.string host)) ∧ Sv w w')
        (first | exact S0 | assumption | exact kept (by assumption) hl | exact kept_alloc (by assumption) _ | exact kept_draw (by assumption) | fail)
        (first
          | (go_at_call 188; refine (PP.out _ _).mono ?_; rintro e w11 ⟨gp, mp, cp, rp, rfl, hm, -, hgp, hbp, hl⟩)
          | (go_at_call 170; refine (specPut4 (some ⟨gp, 0, none⟩) mp cp (tailP host) n w11 (hm ▸ (hbp.sl'.wider hbp.lt)) (fun h => by cases h) (by rw [← hm]; omega)).mono ?_; rintro e w12 ⟨g, m, c1, rr, rfl, hm2, hle, hgg, hk, hl⟩)
          | fail)
      rename_i hH
      have hgw : w.heap.size ≤ g := by
        have h1 := Z1.out
        have h2 := hgp
        have h3 := hbp.lt
        simp at h2
        omega
      have F := Lib.hid (show Gives w D (.returned (.slice (some ⟨g, 0, none⟩) m c1)) w12 from ⟨g, m, c1, rr, rfl, by rw [HD.out]; exact hm2, hle, hgw, by rw [HD.out]; exact hk, hH.2⟩)
      clear hm hbp hm2 hle hgg hk hl hH hgw hgp S0
      go_wp2
      go_ret
      exact F.out
    · have HD : Hid (D = one text.size ++ text.data.toList) := by show _ = _; rw [HT.out, if_pos HB.out, dta_16]
      have ht : text.size ≤ 12 := TL.out HB.out rfl
      have ht1 : (text.size : Int) ≤ 12 := by omega
      go_enter Tryz.func171, Tryz.ntmps171
      go_wp2_with fail
      refine (RO.out _).mono ?_
      rw [HB.out]
      rintro e w1 ⟨rfl, hl⟩
      have L1 := Lib.hid (L0.out.trans (hl.mono L0.out.size))
      have X1 := Lib.hid (X0.out.below hl)
      clear hl L0 X0
      obtain ⟨x0, x1, x2, x3, x4, x5⟩ := X1.out
      obtain ⟨y0, y1, y2, y3, y4, y5⟩ := X1.out.alloc (.cells #[.int .u8 (text.size : Int)] 5)
      have B1 : Hid (Bk (w1.alloc (.cells #[.int .u8 (text.size : Int)] 5)) w1.heap.size 5 ((one text.size).map bv ++ [])) := by
        show Bk _ _ _ _
        unfold Bk
        rw [List.append_nil, ← one_cells text.size (by omega), heap_alloc_new]
      have O1 := Lib.hid (owns_of_bk (base := w.heap.size) (n := 1) (cap := 1) B1.out L1.out.size (one_len _) (by simp [one_len]) (by unfold maxLen; omega))
      go_wp2_with (at_builtin; refine append_str rfl (.tmp 30) (.tmp 32) 22 9 rfl w.heap.size 5 i0 Tryz.underlying22 Tryz.underlying9 hi hz0 hz1 hz2 w1.heap.size 1 1 _ rfl O1.out text rfl ?e1 ?e2 ?e3 ?_)
      case e1 => omega
      case e2 => omega
      case e3 => have := L1.out.size; simp; omega
      intro g3 cap3 w3 hown hgrow
      rw [data_text, ← HD.out] at hown
      have F := Lib.hid (gives_of_owns hown ((L1.out.alloc L1.out.size (.cells #[.int .u8 (text.size : Int)] 5)).grown hgrow (by have := L1.out.size; simp; omega) (fun j hj => by cases hj; exact L1.out.size)))
      clear hown hgrow
      go_wp2
      go_ret
      exact F.out
end Go.Proofs.YtkfibepejlgniaaGreatDoor.DataS
