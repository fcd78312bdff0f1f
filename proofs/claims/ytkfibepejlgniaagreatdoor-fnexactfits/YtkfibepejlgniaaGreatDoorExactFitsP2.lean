/- What the law's own helpers eqQuest and eqMsg do on messages that are the same: they return true and turn nothing. Condition: fewer than 400000001 records in each section. -/
import Derived.Test.YtkfibepejlgniaaGreatDoorDataS
import Derived.Test.YtkfibepejlgniaaGreatDoorExactFitsP1
import Derived.Test.YtkfibepejlgniaaGreatDoorHeadMath
import Derived.Test.YtkfibepejlgniaaGreatDoorMemR
import Derived.Test.YtkfibepejlgniaaGreatDoorResM
import Derived.Lib.QuietBelow
/- What the program's PutData does: a new slice with the data of a valid record, an empty one for an invalid record. Conditions: at most 1048576 bytes in each text; the library's variable internal/bytealg.MaxLen holds an int. -/
namespace Go.Proofs.YtkfibepejlgniaaGreatDoor.DataP
open Go.RowKit Go.Proofs.YtkfibepejlgniaaGreatDoor.Mem Go.Proofs.YtkfibepejlgniaaGreatDoor.MemR Go.Proofs.YtkfibepejlgniaaGreatDoor.App Go.Proofs.YtkfibepejlgniaaGreatDoor.Put Go.Proofs.YtkfibepejlgniaaGreatDoor.PutLabel Go.Proofs.YtkfibepejlgniaaGreatDoor.BoxR Go.Proofs.YtkfibepejlgniaaGreatDoor.Labels Go.Proofs.YtkfibepejlgniaaGreatDoor.RecOk Go.Proofs.YtkfibepejlgniaaGreatDoor.Plain Go.Proofs.YtkfibepejlgniaaGreatDoor.FieldMath Go.Proofs.YtkfibepejlgniaaGreatDoor.DataS

set_option maxHeartbeats 1000000 in
theorem of_addr (r : Rec) (w : World) (h : r.ty = 1) : Calls Tryz.prog 187 #[.agg #[.string r.name, .int .i64 r.ty, .int .i64 r.ttl, .int .i64 r.n, .string r.host, .string r.text]] w fun e w' => e = .returned (.iface 190 (.int .i64 r.n)) ∧ Below w.heap.size w w' := by
  obtain ⟨name, ty, ttl, n, host, text⟩ := r
  obtain rfl : ty = 1 := h
  have L0 := Lib.hid ((Below.refl w.heap.size w).alloc (Nat.le_refl _) (.cells #[.string name, .int .i64 1, .int .i64 ttl, .int .i64 n, .string host, .string text] 117))
  dsimp only
  go_enter Tryz.func187, Tryz.ntmps187
  go_wp2
  go_ret
  exact ⟨rfl, L0.out⟩

set_option maxHeartbeats 1000000 in
theorem of_server (r : Rec) (w : World) (h : r.ty = 2) : Calls Tryz.prog 187 #[.agg #[.string r.name, .int .i64 r.ty, .int .i64 r.ttl, .int .i64 r.n, .string r.host, .string r.text]] w fun e w' => e = .returned (.iface 191 (.string r.host)) ∧ Below w.heap.size w w' := by
  obtain ⟨name, ty, ttl, n, host, text⟩ := r
  obtain rfl : ty = 2 := h
  have L0 := Lib.hid ((Below.refl w.heap.size w).alloc (Nat.le_refl _) (.cells #[.string name, .int .i64 2, .int .i64 ttl, .int .i64 n, .string host, .string text] 117))
  dsimp only
  go_enter Tryz.func187, Tryz.ntmps187
  go_wp2
  go_ret
  exact ⟨rfl, L0.out⟩

set_option maxHeartbeats 1000000 in
theorem of_alias (r : Rec) (w : World) (h : r.ty = 5) : Calls Tryz.prog 187 #[.agg #[.string r.name, .int .i64 r.ty, .int .i64 r.ttl, .int .i64 r.n, .string r.host, .string r.text]] w fun e w' => e = .returned (.iface 192 (.string r.host)) ∧ Below w.heap.size w w' := by
  obtain ⟨name, ty, ttl, n, host, text⟩ := r
  obtain rfl : ty = 5 := h
  have L0 := Lib.hid ((Below.refl w.heap.size w).alloc (Nat.le_refl _) (.cells #[.string name, .int .i64 5, .int .i64 ttl, .int .i64 n, .string host, .string text] 117))
  dsimp only
  go_enter Tryz.func187, Tryz.ntmps187
  go_wp2
  go_ret
  exact ⟨rfl, L0.out⟩

set_option maxHeartbeats 1000000 in
theorem of_start (r : Rec) (w : World) (h : r.ty = 6) : Calls Tryz.prog 187 #[.agg #[.string r.name, .int .i64 r.ty, .int .i64 r.ttl, .int .i64 r.n, .string r.host, .string r.text]] w fun e w' => e = .returned (.iface 194 (.agg #[.string r.host, .int .i64 r.n])) ∧ Below w.heap.size w w' := by
  obtain ⟨name, ty, ttl, n, host, text⟩ := r
  obtain rfl : ty = 6 := h
  have L0 := Lib.hid ((Below.refl w.heap.size w).alloc (Nat.le_refl _) (.cells #[.string name, .int .i64 6, .int .i64 ttl, .int .i64 n, .string host, .string text] 117))
  dsimp only
  go_enter Tryz.func187, Tryz.ntmps187
  go_wp2
  go_ret
  exact ⟨rfl, L0.out⟩

set_option maxHeartbeats 1000000 in
theorem of_text (r : Rec) (w : World) (h : r.ty = 16) : Calls Tryz.prog 187 #[.agg #[.string r.name, .int .i64 r.ty, .int .i64 r.ttl, .int .i64 r.n, .string r.host, .string r.text]] w fun e w' => e = .returned (.iface 195 (.string r.text)) ∧ Below w.heap.size w w' := by
  obtain ⟨name, ty, ttl, n, host, text⟩ := r
  obtain rfl : ty = 16 := h
  have L0 := Lib.hid ((Below.refl w.heap.size w).alloc (Nat.le_refl _) (.cells #[.string name, .int .i64 16, .int .i64 ttl, .int .i64 n, .string host, .string text] 117))
  dsimp only
  go_enter Tryz.func187, Tryz.ntmps187
  go_wp2
  go_ret
  exact ⟨rfl, L0.out⟩

set_option maxHeartbeats 1000000 in
theorem put_addr (n : Int) (w : World) : Calls Tryz.prog 245 #[.int .i64 n] w (Gives w (tail4 n)) := by
  have HP := Lib.hid (implPut4 none 0 0 [] n w Sl.nil (fun _ => ⟨rfl, rfl⟩) (by omega))
  go_enter Tryz.func245, Tryz.ntmps245
  go_wp2_with fail
  refine HP.out.mono ?_
  rintro e w1 ⟨g, m, c1, rr, rfl, hm, hle, hgg, hk, hl⟩
  have F := Lib.hid (show Gives w (tail4 n) (.returned (.slice (some ⟨g, 0, none⟩) m c1)) w1 from ⟨g, m, c1, rr, rfl, hm, hle, hgg, hk, hl⟩)
  clear hm hle hgg hk hl
  go_wp2
  go_ret
  exact F.out

set_option maxHeartbeats 1000000 in
theorem put_server (s : ByteArray) (w : World) (he : Env w) (hz : s.size ≤ 1048576) : Calls Tryz.prog 246 #[.string s] w (Gives w (tailP s)) := by
  have HP := Lib.hid (Plain.impl none 0 0 [] s w he Sl.nil (fun _ => ⟨rfl, rfl⟩) (by omega) (by omega))
  clear he
  go_enter Tryz.func246, Tryz.ntmps246
  go_wp2_with fail
  refine HP.out.mono ?_
  rintro e w1 ⟨g, m, c1, rr, rfl, hm, hle, hgg, hk, hl⟩
  have F := Lib.hid (show Gives w (tailP s) (.returned (.slice (some ⟨g, 0, none⟩) m c1)) w1 from ⟨g, m, c1, rr, rfl, hm, hle, hgg, hk, hl⟩)
  clear hm hle hgg hk hl
  go_wp2
  go_ret
  exact F.out

set_option maxHeartbeats 1000000 in
theorem put_alias (s : ByteArray) (w : World) (he : Env w) (hz : s.size ≤ 1048576) : Calls Tryz.prog 247 #[.string s] w (Gives w (tailP s)) := by
  have HP := Lib.hid (Plain.impl none 0 0 [] s w he Sl.nil (fun _ => ⟨rfl, rfl⟩) (by omega) (by omega))
  clear he
  go_enter Tryz.func247, Tryz.ntmps247
  go_wp2_with fail
  refine HP.out.mono ?_
  rintro e w1 ⟨g, m, c1, rr, rfl, hm, hle, hgg, hk, hl⟩
  have F := Lib.hid (show Gives w (tailP s) (.returned (.slice (some ⟨g, 0, none⟩) m c1)) w1 from ⟨g, m, c1, rr, rfl, hm, hle, hgg, hk, hl⟩)
  clear hm hle hgg hk hl
  go_wp2
  go_ret
  exact F.out

theorem kept2 {w w1 w2 : World} {g : Nat} {n : Int} {s : ByteArray} (h : (w1.cell? ⟨g, 0, none⟩ = some (.string s) ∧ w1.cell? ⟨g, 1, none⟩ = some (.int .i64 n)) ∧ Sv w w1) (hl : Below w1.heap.size w1 w2) : (w2.cell? ⟨g, 0, none⟩ = some (.string s) ∧ w2.cell? ⟨g, 1, none⟩ = some (.int .i64 n)) ∧ Sv w w2 := by
  have hg : g < w1.heap.size := World.block_lt_of_cell? _ _ h.1.1
  exact ⟨⟨(hl.cell (p := ⟨g, 0, none⟩) hg).trans h.1.1, (hl.cell (p := ⟨g, 1, none⟩) hg).trans h.1.2⟩, h.2.trans (hl.mono h.2.size)⟩
theorem kept2_draw {w w1 : World} {g : Nat} {n : Int} {s : ByteArray} (h : (w1.cell? ⟨g, 0, none⟩ = some (.string s) ∧ w1.cell? ⟨g, 1, none⟩ = some (.int .i64 n)) ∧ Sv w w1) : (w1.drew.cell? ⟨g, 0, none⟩ = some (.string s) ∧ w1.drew.cell? ⟨g, 1, none⟩ = some (.int .i64 n)) ∧ Sv w w1.drew := kept2 h ((Below.refl _ _).drew)

set_option maxHeartbeats 4000000 in
theorem put_start (s : ByteArray) (n : Int) (w : World) (he : Env w) (hz : s.size ≤ 1048576) : Calls Tryz.prog 248 #[.agg #[.string s, .int .i64 n]] w (Gives w (tailP s ++ tail4 n)) := by
  have HE := Lib.hid he
  clear he
  have B0 : Hid (Bk (w.alloc (.cells #[.string s, .int .i64 n] 194)) w.heap.size 194 [.string s, .int .i64 n]) := heap_alloc_new w _
  have x0 : (w.alloc (.cells #[.string s, .int .i64 n] 194)).cell? ⟨w.heap.size, 0, none⟩ = some (.string s) := by rw [B0.out.cell]; rfl
  have x1 : (w.alloc (.cells #[.string s, .int .i64 n] 194)).cell? ⟨w.heap.size, 1, none⟩ = some (.int .i64 n) := by rw [B0.out.cell]; rfl
  have S0 : ((w.alloc (.cells #[.string s, .int .i64 n] 194)).cell? ⟨w.heap.size, 0, none⟩ = some (.string s) ∧ (w.alloc (.cells #[.string s, .int .i64 n] 194)).cell? ⟨w.heap.size, 1, none⟩ = some (.int .i64 n)) ∧ Sv w (w.alloc (.cells #[.string s, .int .i64 n] 194)) := ⟨⟨x0, x1⟩, (Below.refl w.heap.size w).alloc (Nat.le_refl _) _⟩
  have PP : Hid (∀ (W : World), ((W.cell? ⟨w.heap.size, 0, none⟩ = some (.string s) ∧ W.cell? ⟨w.heap.size, 1, none⟩ = some (.int .i64 n)) ∧ Sv w W) → Calls Tryz.prog 134 #[.slice none 0 0, .string s] W (Gives W (tailP s))) := fun W hW => Plain.impl none 0 0 [] s W (HE.out.below hW.2) Sl.nil (fun _ => ⟨rfl, rfl⟩) (by omega) (by omega)
  have hlP := tailP_len s
  clear B0
  go_enter Tryz.func248, Tryz.ntmps248
  go_wp2
  clear x0 x1
  go_region_held3 (fun w' => (w'.cell? ⟨w.heap.size, 0, none⟩ = some (.string s) ∧ w'.cell? ⟨w.heap.size, 1, none⟩ = some (.int .i64 n)) ∧ Sv w w')
    (first | exact S0 | assumption | exact kept2 (by assumption) hl | exact kept2_draw (by assumption) | fail)
    (first
      | (go_at_call 134; refine (PP.out _ (by assumption)).mono ?_; rintro e w11 ⟨gp, mp, cp, rp, rfl, hm, -, hgp, hbp, hl⟩)
      | (go_at_call 168; refine (implPut4 (some ⟨gp, 0, none⟩) mp cp (tailP s) n w11 (hm ▸ (hbp.sl'.wider hbp.lt)) (fun h => by cases h) (by rw [← hm]; omega)).mono ?_; rintro e w12 ⟨g, m, c1, rr, rfl, hm2, hle, hgg, hk, hl⟩)
      | fail)
  rename_i hH
  have hgw : w.heap.size ≤ g := by
    have h2 := hgp
    have h3 := hbp.lt
    simp at h2
    omega
  have F := Lib.hid (show Gives w (tailP s ++ tail4 n) (.returned (.slice (some ⟨g, 0, none⟩) m c1)) w12 from ⟨g, m, c1, rr, rfl, hm2, hle, hgw, hk, hH.2⟩)
  clear hm hbp hm2 hle hgg hk hl hH hgw hgp S0
  go_wp2
  go_ret
  exact F.out

set_option maxHeartbeats 4000000 in
theorem put_text (s : ByteArray) (w : World) (hz : s.size ≤ 12) : Calls Tryz.prog 249 #[.string s] w (Gives w (one s.size ++ s.data.toList)) := by
  obtain ⟨i0, hi, hz0, hz1, hz2⟩ := info_parts Copy.info
  have ht1 : (s.size : Int) ≤ 12 := by omega
  have B1 : Hid (Bk (w.alloc (.cells #[.int .u8 (s.size : Int)] 5)) w.heap.size 5 ((one s.size).map bv ++ [])) := by
    show Bk _ _ _ _
    unfold Bk
    rw [List.append_nil, ← one_cells s.size (by omega), heap_alloc_new]
  have O1 := Lib.hid (owns_of_bk (base := w.heap.size) (n := 1) (cap := 1) B1.out (Nat.le_refl _) (one_len _) (by simp [one_len]) (by unfold maxLen; omega))
  go_enter Tryz.func249, Tryz.ntmps249
  go_wp2_with (at_builtin; refine append_str rfl (.tmp 6) (.tmp 7) 22 9 rfl w.heap.size 5 i0 Tryz.underlying22 Tryz.underlying9 hi hz0 hz1 hz2 w.heap.size 1 1 _ rfl O1.out s rfl ?e1 ?e2 ?e3 ?_)
  case e1 => omega
  case e2 => omega
  case e3 => simp
  intro g3 cap3 w3 hown hgrow
  rw [data_text] at hown
  have F := Lib.hid (gives_of_owns hown (((Below.refl w.heap.size w).alloc (Nat.le_refl _) (.cells #[.int .u8 (s.size : Int)] 5)).grown hgrow (by simp) (fun j hj => by cases hj; exact Nat.le_refl _)))
  clear hown hgrow
  go_wp2
  go_ret
  exact F.out

theorem meth_addr (n : Int) (w : World) : (method 331 190 (.int .i64 n) "loop.example/g00497/impl.put").run Tryz.prog w = .ok (245, .int .i64 n) w := by kernel_rfl
theorem meth_server (s : ByteArray) (w : World) : (method 331 191 (.string s) "loop.example/g00497/impl.put").run Tryz.prog w = .ok (246, .string s) w := by kernel_rfl
theorem meth_alias (s : ByteArray) (w : World) : (method 331 192 (.string s) "loop.example/g00497/impl.put").run Tryz.prog w = .ok (247, .string s) w := by kernel_rfl
theorem meth_start (s : ByteArray) (n : Int) (w : World) : (method 331 194 (.agg #[.string s, .int .i64 n]) "loop.example/g00497/impl.put").run Tryz.prog w = .ok (248, .agg #[.string s, .int .i64 n]) w := by kernel_rfl
theorem meth_text (s : ByteArray) (w : World) : (method 331 195 (.string s) "loop.example/g00497/impl.put").run Tryz.prog w = .ok (249, .string s) w := by kernel_rfl

set_option maxHeartbeats 1000000 in
theorem impl (r : Rec) (w : World) (he : Env w) (hr : Med r) : Calls Tryz.prog 167 #[.agg #[.string r.name, .int .i64 r.ty, .int .i64 r.ttl, .int .i64 r.n, .string r.host, .string r.text]] w (Gives w (dat r)) := by
  have HE := Lib.hid he
  clear he
  have B1 : r.host.size ≤ 1048576 := hr.2.1
  have RO := Lib.hid (fun w he => RecOk.impl r w he hr.mod)
  have TL := Lib.hid (fun h t => text_len (r := r) h t)
  have HY := Lib.hid (fun h => rok_ty (r := r) h)
  have HT := Lib.hid (show dat r = if rok r = true then dta r.ty r.n r.host r.text else [] from rfl)
  have X0 := Lib.hid (bx_new w 117 r)
  have L0 := Lib.hid ((Below.refl w.heap.size w).alloc (Nat.le_refl _) (.cells #[.string r.name, .int .i64 r.ty, .int .i64 r.ttl, .int .i64 r.n, .string r.host, .string r.text] 117))
  generalize dat r = D at *
  obtain ⟨u, hu⟩ : ∃ u, rok r = u := ⟨_, rfl⟩
  have HB := Lib.hid hu
  clear hu
  go_enter Tryz.func167, Tryz.ntmps167
  go_wp2_with fail
  refine (RO.out _ (HE.out.below L0.out)).mono ?_
  rw [HB.out]
  rintro e w1 ⟨rfl, hl⟩
  have L1 := Lib.hid (L0.out.trans (hl.mono L0.out.size))
  have X1 := Lib.hid (X0.out.below hl)
  clear hl L0 X0 RO
  cases u with
  | false =>
    go_wp2
    go_ret
    rw [HT.out, HB.out]
    exact gives_nil L1.out
  | true =>
    obtain ⟨x0, x1, x2, x3, x4, x5⟩ := X1.out
    rcases HY.out HB.out with h1 | h1 | h1 | h1 | h1
    · have H1 := Lib.hid h1
      clear h1
      have hm := meth_addr r.n
      go_wp2_with fail
      refine (of_addr r w1 H1.out).mono ?_
      rintro e w2 ⟨rfl, hl⟩
      have L2 := Lib.hid (L1.out.trans (hl.mono L1.out.size))
      have PU := Lib.hid (put_addr r.n w2)
      clear hl L1 x0 x1 x2 x3 x4 x5 X1
      go_wp2_with fail
      refine PU.out.mono ?_
      rintro e w3 ⟨g, m, c1, rr, rfl, hm1, hle, hgg, hk, hl⟩
      have HD : Hid (D = tail4 r.n) := by show _ = _; rw [HT.out, if_pos HB.out, H1.out, dta_1]
      have F := Lib.hid (show Gives w (tail4 r.n) (.returned (.slice (some ⟨g, 0, none⟩) m c1)) w3 from Gives.later ⟨g, m, c1, rr, rfl, hm1, hle, hgg, hk, hl⟩ L2.out)
      clear hm1 hle hgg hk hl
      go_wp2
      go_ret
      rw [HD.out]
      exact F.out
    · have H1 := Lib.hid h1
      clear h1
      have hm := meth_server r.host
      go_wp2_with fail
      refine (of_server r w1 H1.out).mono ?_
      rintro e w2 ⟨rfl, hl⟩
      have L2 := Lib.hid (L1.out.trans (hl.mono L1.out.size))
      have PU := Lib.hid (put_server r.host w2 (HE.out.below L2.out) B1)
      clear hl L1 x0 x1 x2 x3 x4 x5 X1
      go_wp2_with fail
      refine PU.out.mono ?_
      rintro e w3 ⟨g, m, c1, rr, rfl, hm1, hle, hgg, hk, hl⟩
      have HD : Hid (D = tailP r.host) := by show _ = _; rw [HT.out, if_pos HB.out, H1.out, dta_2]
      have F := Lib.hid (show Gives w (tailP r.host) (.returned (.slice (some ⟨g, 0, none⟩) m c1)) w3 from Gives.later ⟨g, m, c1, rr, rfl, hm1, hle, hgg, hk, hl⟩ L2.out)
      clear hm1 hle hgg hk hl
      go_wp2
      go_ret
      rw [HD.out]
      exact F.out
    · have H1 := Lib.hid h1
      clear h1
      have hm := meth_alias r.host
      go_wp2_with fail
      refine (of_alias r w1 H1.out).mono ?_
      rintro e w2 ⟨rfl, hl⟩
      have L2 := Lib.hid (L1.out.trans (hl.mono L1.out.size))
      have PU := Lib.hid (put_alias r.host w2 (HE.out.below L2.out) B1)
      clear hl L1 x0 x1 x2 x3 x4 x5 X1
      go_wp2_with fail
      refine PU.out.mono ?_
      rintro e w3 ⟨g, m, c1, rr, rfl, hm1, hle, hgg, hk, hl⟩
      have HD : Hid (D = tailP r.host) := by show _ = _; rw [HT.out, if_pos HB.out, H1.out, dta_5]
      have F := Lib.hid (show Gives w (tailP r.host) (.returned (.slice (some ⟨g, 0, none⟩) m c1)) w3 from Gives.later ⟨g, m, c1, rr, rfl, hm1, hle, hgg, hk, hl⟩ L2.out)
      clear hm1 hle hgg hk hl
      go_wp2
      go_ret
      rw [HD.out]
      exact F.out
    · have H1 := Lib.hid h1
      clear h1
      have hm := meth_start r.host r.n
      go_wp2_with fail
      refine (of_start r w1 H1.out).mono ?_
      rintro e w2 ⟨rfl, hl⟩
      have L2 := Lib.hid (L1.out.trans (hl.mono L1.out.size))
      have PU := Lib.hid (put_start r.host r.n w2 (HE.out.below L2.out) B1)
      clear hl L1 x0 x1 x2 x3 x4 x5 X1
      go_wp2_with fail
      refine PU.out.mono ?_
      rintro e w3 ⟨g, m, c1, rr, rfl, hm1, hle, hgg, hk, hl⟩
      have HD : Hid (D = tailP r.host ++ tail4 r.n) := by show _ = _; rw [HT.out, if_pos HB.out, H1.out, dta_6]
      have F := Lib.hid (show Gives w (tailP r.host ++ tail4 r.n) (.returned (.slice (some ⟨g, 0, none⟩) m c1)) w3 from Gives.later ⟨g, m, c1, rr, rfl, hm1, hle, hgg, hk, hl⟩ L2.out)
      clear hm1 hle hgg hk hl
      go_wp2
      go_ret
      rw [HD.out]
      exact F.out
    · have H1 := Lib.hid h1
      clear h1
      have hm := meth_text r.text
      go_wp2_with fail
      refine (of_text r w1 H1.out).mono ?_
      rintro e w2 ⟨rfl, hl⟩
      have L2 := Lib.hid (L1.out.trans (hl.mono L1.out.size))
      have PU := Lib.hid (put_text r.text w2 (TL.out HB.out H1.out))
      clear hl L1 x0 x1 x2 x3 x4 x5 X1
      go_wp2_with fail
      refine PU.out.mono ?_
      rintro e w3 ⟨g, m, c1, rr, rfl, hm1, hle, hgg, hk, hl⟩
      have HD : Hid (D = one r.text.size ++ r.text.data.toList) := by show _ = _; rw [HT.out, if_pos HB.out, H1.out, dta_16]
      have F := Lib.hid (show Gives w (one r.text.size ++ r.text.data.toList) (.returned (.slice (some ⟨g, 0, none⟩) m c1)) w3 from Gives.later ⟨g, m, c1, rr, rfl, hm1, hle, hgg, hk, hl⟩ L2.out)
      clear hm1 hle hgg hk hl
      go_wp2
      go_ret
      rw [HD.out]
      exact F.out

end Go.Proofs.YtkfibepejlgniaaGreatDoor.DataP

/- What the program's PutRecord does: a new slice that holds the old bytes and those of a valid record. Conditions: fewer than 199000001 bytes in the slice, at most 1048576 in each text; the library's variable internal/bytealg.MaxLen holds an int. -/
namespace Go.Proofs.YtkfibepejlgniaaGreatDoor.RecP
open Go.RowKit Go.Proofs.YtkfibepejlgniaaGreatDoor.Mem Go.Proofs.YtkfibepejlgniaaGreatDoor.MemR Go.Proofs.YtkfibepejlgniaaGreatDoor.App Go.Proofs.YtkfibepejlgniaaGreatDoor.Put Go.Proofs.YtkfibepejlgniaaGreatDoor.PutO Go.Proofs.YtkfibepejlgniaaGreatDoor.BoxR Go.Proofs.YtkfibepejlgniaaGreatDoor.Labels Go.Proofs.YtkfibepejlgniaaGreatDoor.RecOk Go.Proofs.YtkfibepejlgniaaGreatDoor.PutSpec Go.Proofs.YtkfibepejlgniaaGreatDoor.FieldMath Go.Proofs.YtkfibepejlgniaaGreatDoor.DataS Go.Proofs.YtkfibepejlgniaaGreatDoor.RecS

set_option maxRecDepth 100000 in
set_option maxHeartbeats 4000000 in
theorem impl (A : Option Addr) (n c : Nat) (l : List UInt8) (r : Rec) (w : World) (he : Env w) (hs : Sl w w.heap.size A n l) (hnc : n ≤ c) (hnil : A = none → n = 0 ∧ c = 0) (hn : n ≤ 199000000) (hr : Med r) :
    Calls Tryz.prog 135 #[.slice A n c, .agg #[.string r.name, .int .i64 r.ty, .int .i64 r.ttl, .int .i64 r.n, .string r.host, .string r.text]] w (GivesO w (l ++ tailR l r)) := by
  obtain ⟨i0, hi, hz0, hz1, hz2⟩ := info_parts Copy.info
  have HE := Lib.hid he
  have HS := Lib.hid hs
  have HL := Lib.hid hs.1
  have HN := Lib.hid hnil
  clear hs hnil he
  have RO := Lib.hid (fun w he => RecOk.impl r w he hr.mod)
  have PD := Lib.hid (fun w he => DataP.impl r w he hr)
  have hnm : r.name.size ≤ 1048576 := hr.1
  have TA := Lib.hid (t_all l r)
  have TN := Lib.hid (t_none l r)
  have X0 := Lib.hid (bx_new w 117 r)
  have L0 := Lib.hid ((Below.refl w.heap.size w).alloc (Nat.le_refl _) (.cells #[.string r.name, .int .i64 r.ty, .int .i64 r.ttl, .int .i64 r.n, .string r.host, .string r.text] 117))
  obtain ⟨u, hu⟩ : ∃ u, rok r = u := ⟨_, rfl⟩
  have HB := Lib.hid hu
  clear hu
  go_enter Tryz.func135, Tryz.ntmps135
  go_wp2_with fail
  refine (RO.out _ (HE.out.below L0.out)).mono ?_
  rw [HB.out]
  rintro e w1 ⟨rfl, hl⟩
  have L1 := Lib.hid (L0.out.trans (hl.mono L0.out.size))
  have X1 := Lib.hid (X0.out.below hl)
  clear hl L0 X0 RO
  cases u with
  | false =>
    go_wp2_with fail
    refine (appendedO A none n c 0 0 l [] w1 ((HS.out.below L1.out).wider L1.out.size) Sl.nil HN.out (fun _ => ⟨rfl, rfl⟩) (by omega) (by omega)).mono ?_
    rintro e w2 ⟨g, c1, rfl, ho, hl⟩
    generalize (l ++ []).length = m at *
    rw [List.append_nil] at ho
    have F := Lib.hid (GivesO.later (givesO_of ho hl) L1.out)
    clear ho hl
    go_wp2
    go_ret
    rw [TN.out HB.out]
    exact F.out
  | true =>
    have h1 := l1 l r
    have h2 := l2 l r
    have h3 := l3 l r
    have h4 := l4 l r
    have h5 := l5 l r
    rw [HL.out] at h1 h2 h3 h4 h5
    have hd := dat_len r
    have P1 : Hid (∀ (W : World), Below w.heap.size w W → Calls Tryz.prog 82 #[.slice A n c, .string r.name] W (Gives W (t1 l r))) :=
      fun W hW => PutName.impl A n c l r.name W (HE.out.below hW) ((HS.out.below hW).wider hW.size) hnc HN.out (by omega) (by omega)
    have P2 : Hid (∀ (g m c : Nat) (rr : List Value) (W : World), (t1 l r).length = m → Bk W g 5 ((t1 l r).map bv ++ rr) → Calls Tryz.prog 83 #[.slice (some ⟨g, 0, none⟩) m c, .int .i64 r.ty] W (Gives W (t2 l r))) :=
      fun g m c rr W hm hb => implPut2 (some ⟨g, 0, none⟩) m c (t1 l r) r.ty W (hm ▸ (hb.sl'.wider hb.lt)) (fun h => by cases h) (by omega)
    have P3 : Hid (∀ (g m c : Nat) (rr : List Value) (W : World), (t2 l r).length = m → Bk W g 5 ((t2 l r).map bv ++ rr) → Calls Tryz.prog 83 #[.slice (some ⟨g, 0, none⟩) m c, .int .i64 1] W (Gives W (t3 l r))) :=
      fun g m c rr W hm hb => implPut2 (some ⟨g, 0, none⟩) m c (t2 l r) 1 W (hm ▸ (hb.sl'.wider hb.lt)) (fun h => by cases h) (by omega)
    have P4 : Hid (∀ (g m c : Nat) (rr : List Value) (W : World), (t3 l r).length = m → Bk W g 5 ((t3 l r).map bv ++ rr) → Calls Tryz.prog 168 #[.slice (some ⟨g, 0, none⟩) m c, .int .i64 r.ttl] W (Gives W (t4 l r))) :=
      fun g m c rr W hm hb => implPut4 (some ⟨g, 0, none⟩) m c (t3 l r) r.ttl W (hm ▸ (hb.sl'.wider hb.lt)) (fun h => by cases h) (by omega)
    have P5 : Hid (∀ (g m c : Nat) (rr : List Value) (W : World), (t4 l r).length = m → Bk W g 5 ((t4 l r).map bv ++ rr) → Calls Tryz.prog 83 #[.slice (some ⟨g, 0, none⟩) m c, .int .i64 ((dat r).length : Int)] W (GivesO W (t5 l r))) :=
      fun g m c rr W hm hb => implPut2O (some ⟨g, 0, none⟩) m c (t4 l r) ((dat r).length : Int) W (hm ▸ (hb.sl'.wider hb.lt)) (fun h => by cases h) (by omega)
    generalize t1 l r = T1 at *
    generalize t2 l r = T2 at *
    generalize t3 l r = T3 at *
    generalize t4 l r = T4 at *
    generalize t5 l r = T5 at *
    generalize dat r = D at *
    obtain ⟨x0, x1, x2, x3, x4, x5⟩ := X1.out
    go_wp2_with fail
    refine (PD.out _ (HE.out.below L1.out)).mono ?_
    rintro e w2 ⟨gd, md, cd, rd, rfl, hmd, hled, hgd, hbd, hl⟩
    have BD2 := Lib.hid hbd
    have GD := Lib.hid (Nat.le_trans L1.out.size hgd)
    have X2 := Lib.hid (X1.out.below hl)
    have L2 := Lib.hid (L1.out.trans (hl.mono L1.out.size))
    subst hmd
    clear hgd hbd hl x0 x1 x2 x3 x4 x5 X1 L1
    obtain ⟨x0, x1, x2, x3, x4, x5⟩ := X2.out
    go_wp2_with fail
    refine (P1.out _ L2.out).mono ?_
    rintro e w3 ⟨g1, m1, c1, r1, rfl, hm, -, hg, hb, hl⟩
    have M3 := Lib.hid hm
    have B3 := Lib.hid hb
    have BD3 := Lib.hid (BD2.out.below hl BD2.out.lt)
    have X3 := Lib.hid (X2.out.below hl)
    have L3 := Lib.hid (L2.out.trans (hl.mono L2.out.size))
    clear hm hg hb hl x0 x1 x2 x3 x4 x5 X2 L2 BD2
    obtain ⟨x0, x1, x2, x3, x4, x5⟩ := X3.out
    go_wp2_with fail
    refine (P2.out _ _ _ _ _ M3.out B3.out).mono ?_
    rintro e w4 ⟨g2, m2, c2, r2, rfl, hm, -, hg, hb, hl⟩
    have M4 := Lib.hid hm
    have B4 := Lib.hid hb
    have BD4 := Lib.hid (BD3.out.below hl BD3.out.lt)
    have X4 := Lib.hid (X3.out.below hl)
    have L4 := Lib.hid (L3.out.trans (hl.mono L3.out.size))
    clear hm hg hb hl x0 x1 x2 x3 x4 x5 X3 L3 BD3 M3 B3
    go_wp2_with fail
    refine (P3.out _ _ _ _ _ M4.out B4.out).mono ?_
    rintro e w5 ⟨g3, m3, c3, r3, rfl, hm, -, hg, hb, hl⟩
    have M5 := Lib.hid hm
    have B5 := Lib.hid hb
    have BD5 := Lib.hid (BD4.out.below hl BD4.out.lt)
    have X5 := Lib.hid (X4.out.below hl)
    have L5 := Lib.hid (L4.out.trans (hl.mono L4.out.size))
    clear hm hg hb hl X4 L4 BD4 M4 B4
    obtain ⟨x0, x1, x2, x3, x4, x5⟩ := X5.out
    go_wp2_with fail
    refine (P4.out _ _ _ _ _ M5.out B5.out).mono ?_
    rintro e w6 ⟨g4, m4, c4, r4, rfl, hm, -, hg, hb, hl⟩
    have M6 := Lib.hid hm
    have B6 := Lib.hid hb
    have BD6 := Lib.hid (BD5.out.below hl BD5.out.lt)
    have L6 := Lib.hid (L5.out.trans (hl.mono L5.out.size))
    clear hm hg hb hl x0 x1 x2 x3 x4 x5 X5 L5 BD5 M5 B5
    go_wp2_with fail
    refine (P5.out g4 m4 c4 r4 w6 M6.out B6.out).mono ?_
    rintro e w7 ⟨g5, c5, rfl, ho, hl⟩
    have O7 := Lib.hid (owns_base ho L6.out.size)
    have BD7 := Lib.hid (BD6.out.below hl BD6.out.lt)
    have L7 := Lib.hid (L6.out.trans (hl.mono L6.out.size))
    have SD := Lib.hid (show Sl w7 w7.heap.size (some ⟨gd, 0, none⟩) D.length D from BD7.out.sl'.wider BD7.out.lt)
    clear ho hl B6 BD6 L6 BD7 M6
    obtain ⟨m5, hm5⟩ : ∃ m, m = T5.length := ⟨_, rfl⟩
    rw [← hm5] at O7 h5 ⊢
    clear hm5
    go_wp2_with (at_builtin; refine append_src rfl (.tmp 32) (.tmp 33) 22 rfl w.heap.size 5 i0 (.int .u8 0) Tryz.underlying22 hi hz0 hz1 hz2 rfl g5 m5 c5 (T5.map bv) rfl O7.out (some ⟨gd, 0, none⟩) D.length cd _ D rfl SD.out (fun h => by cases h) ?d1 ?d2 ?d3 ?_)
    case d1 => omega
    case d2 => omega
    case d3 => exact L7.out.size
    intro g7 c7 w8 hown hgrow
    rw [← List.map_append, TA.out HB.out] at hown
    have O8 := Lib.hid hown
    have L8 := Lib.hid (L7.out.grown hgrow L7.out.size (fun j hj => by cases hj; exact (O7.out.lt g5 rfl).1))
    clear hown hgrow
    go_wp2
    go_ret
    exact givesO_of O8.out L8.out
end Go.Proofs.YtkfibepejlgniaaGreatDoor.RecP

/- What PutRecords does in the program: a new slice that holds the old bytes and those of each valid record. Conditions: at most 1048576 bytes, as many records, as many bytes in each text; the library's variable internal/bytealg.MaxLen holds an int. -/
namespace Go.Proofs.YtkfibepejlgniaaGreatDoor.PutsP
open Go.RowKit Go.Proofs.YtkfibepejlgniaaGreatDoor.Mem Go.Proofs.YtkfibepejlgniaaGreatDoor.MemR Go.Proofs.YtkfibepejlgniaaGreatDoor.App Go.Proofs.YtkfibepejlgniaaGreatDoor.Labels Go.Proofs.YtkfibepejlgniaaGreatDoor.PutO Go.Proofs.YtkfibepejlgniaaGreatDoor.FieldMath Go.Proofs.YtkfibepejlgniaaGreatDoor.DataS Go.Proofs.YtkfibepejlgniaaGreatDoor.PutsS

set_option maxRecDepth 100000 in
set_option maxHeartbeats 4000000 in
theorem impl (A A' : Option Addr) (n c n' c' : Nat) (l : List UInt8) (L : List Rec) (w : World) (he : Env w) (hs : Sl w w.heap.size A n l) (hnil : A = none → n = 0 ∧ c = 0) (hn : n ≤ 1048576) (hS : Sr w w.heap.size A' n' L) (hn' : n' ≤ 1048576) (hM : ∀ r ∈ L, Med r) :
    Calls Tryz.prog 84 #[.slice A n c, .slice A' n' c'] w (GivesO w (puts l L)) := by
  have HE := Lib.hid he
  have HS := Lib.hid hs
  have HN := Lib.hid hnil
  have SS := Lib.hid hS
  have HM := Lib.hid hM
  have HL := Lib.hid hS.1
  have ST := Lib.hid (puts_step l L)
  have PL := Lib.hid (fun k => puts_len (L.take k) l)
  have HZ := Lib.hid hs.1
  have HA : Hid (puts l L = puts l (L.take n')) := by show _ = _; rw [List.take_of_length_le (by rw [hS.1]; omega)]
  have H0 : Hid (puts l (L.take 0) = l) := rfl
  clear hs hnil hS hM he
  go_enter Tryz.func84, Tryz.ntmps84
  go_wp2_with fail
  refine (appendedO A none n c 0 0 l [] w HS.out Sl.nil HN.out (fun _ => ⟨rfl, rfl⟩) (by omega) (by omega)).mono ?_
  rintro e w1 ⟨g1, cap1, rfl, ho, hl⟩
  rw [show (l ++ ([] : List UInt8)).length = n from by rw [List.append_nil]; exact HZ.out] at ho ⊢
  rw [List.append_nil] at ho
  have O1 := Lib.hid ho
  have L1 := Lib.hid hl
  clear ho hl
  go_wp2
  go_loopw [5, 12] (fun v i wr => ∃ (k g m cap : Nat), k ≤ n' ∧ m ≤ 1048576 + 173 * k ∧ i = .int .i64 (k : Int) ∧ v = .slice (some ⟨g, 0, none⟩) m cap ∧ Hid (wr.ownsRow w.heap.size 5 1 (.slice (some ⟨g, 0, none⟩) m cap) m ((puts l (L.take k)).map bv)) ∧ Hid (Below w.heap.size w wr)) (fun _ i _ => n' - (intOf i).toNat)
  case atStart => exact ⟨0, g1, n, cap1, Nat.zero_le _, by omega, rfl, rfl, by rw [H0.out]; exact O1.out, L1.out⟩
  case round =>
    clear O1 L1
    obtain ⟨k, g, m, cap, hk, hm, rfl, rfl, HO, HB⟩ := hrel
    by_cases hlt : k < n'
    · have hkl : k < L.length := by rw [HL.out]; exact hlt
      obtain ⟨b, off, rfl, hbB, hcs⟩ := SS.out.2 (by omega)
      obtain ⟨e0, e1, e2, e3, e4, e5⟩ := (hcs k hkl).below HB.out hbB
      have HQ := Lib.hid (ST.out k hkl)
      have HP := PL.out (k + 1)
      rw [List.length_take, HZ.out] at HP
      have MD := Lib.hid (HM.out L[k] (List.getElem_mem hkl))
      obtain ⟨hsl, hmc⟩ := own_sl HO.out
      have SL := Lib.hid hsl
      clear hcs hsl
      generalize L[k] = r at *
      have BA := Lib.hid (HB.out.alloc HB.out.size (.cells #[.string r.name, .int .i64 r.ty, .int .i64 r.ttl, .int .i64 r.n, .string r.host, .string r.text] 117))
      have SA := Lib.hid (sl_alloc SL.out (.cells #[.string r.name, .int .i64 r.ty, .int .i64 r.ttl, .int .i64 r.n, .string r.host, .string r.text] 117))
      go_wp2_with fail
      refine (RecP.impl (some ⟨g, 0, none⟩) m cap _ r _ (HE.out.below BA.out) SA.out hmc (fun h => by cases h) (by omega) MD.out).mono ?_
      rw [← HQ.out]
      rintro e w2 ⟨g2, cap2, rfl, ho, hl⟩
      have hz : (puts l (L.take (k + 1))).length ≤ 1048576 + 173 * (k + 1) := by omega
      have O2 := Lib.hid (owns_base ho BA.out.size)
      have B2 := Lib.hid (BA.out.trans (hl.mono BA.out.size))
      clear ho hl HO HB SL BA SA e0 e1 e2 e3 e4 e5 HP HQ
      obtain ⟨m2, hm2⟩ : ∃ m2, m2 = (puts l (L.take (k + 1))).length := ⟨_, rfl⟩
      rw [← hm2] at O2 hz ⊢
      clear hm2
      go_wp2
      go_roundw
      case rel => exact ⟨k + 1, g2, m2, cap2, by omega, hz, by go_num, rfl, O2.out, B2.out⟩
      case measure => simp [intOf]; omega
    · obtain rfl : k = n' := by omega
      go_wp2
      go_ret
      rw [HA.out]
      exact givesO_of HO.out HB.out
end Go.Proofs.YtkfibepejlgniaaGreatDoor.PutsP

/- What PutMsg, SizeOf and Fits do, in the program and in the model: the message's bytes as HeadMath tells (pm), and nothing that was there is turned. Conditions: at most 1048576 bytes in each text, as many records; for the program: the library's variable internal/bytealg.MaxLen holds an int. -/
namespace Go.Proofs.YtkfibepejlgniaaGreatDoor.PutM
open Go.RowKit Go.Proofs.YtkfibepejlgniaaGreatDoor.Mem Go.Proofs.YtkfibepejlgniaaGreatDoor.MemR Go.Proofs.YtkfibepejlgniaaGreatDoor.MemM Go.Proofs.YtkfibepejlgniaaGreatDoor.App Go.Proofs.YtkfibepejlgniaaGreatDoor.Labels Go.Proofs.YtkfibepejlgniaaGreatDoor.Put Go.Proofs.YtkfibepejlgniaaGreatDoor.PutO Go.Proofs.YtkfibepejlgniaaGreatDoor.PutSpec Go.Proofs.YtkfibepejlgniaaGreatDoor.FieldMath Go.Proofs.YtkfibepejlgniaaGreatDoor.OkM Go.Proofs.YtkfibepejlgniaaGreatDoor.HeadDef Go.Proofs.YtkfibepejlgniaaGreatDoor.HeadMath Go.Proofs.YtkfibepejlgniaaGreatDoor.HeadS

/-- Whether a message fits. -/
def fit (h : Hd) (l1 l2 l3 : List Rec) : Bool := decide (0 < (pm h l1 l2 l3).length)
/-- The call returned a new slice that reads as l, and turned nothing that was there: told of the block. -/
def GO (l : List UInt8) (W : World) (e : Ending) (w' : World) : Prop :=
  ∃ g m c r, e = .returned (.slice (some ⟨g, 0, none⟩) m c) ∧ l.length = m ∧ m ≤ c ∧ W.heap.size ≤ g ∧ Bk w' g 5 (l.map bv ++ r) ∧ Below W.heap.size W w'
theorem go_of {W w' : World} {l : List UInt8} {e : Ending} (h : Gives W l e w') : GO l W e w' := by
  exact h
theorem sl_of {W : World} {g m : Nat} {l : List UInt8} {r : List Value} (hb : Bk W g 5 (l.map bv ++ r)) (hm : l.length = m) : Sl W W.heap.size (some ⟨g, 0, none⟩) m l := hm ▸ (hb.sl'.wider hb.lt)
theorem rl_len {h : Hd} {l1 l2 l3 : List Rec} (e : mok h l1 l2 l3 = true) : l1.length ≤ 8 ∧ l2.length ≤ 8 ∧ l3.length ≤ 8 := by
  have := mok_parts e
  exact ⟨(rls_parts this.2.2.2.1).2, (rls_parts this.2.2.2.2.1).2, (rls_parts this.2.2.2.2.2).2⟩

set_option maxRecDepth 100000 in
set_option maxHeartbeats 8000000 in
theorem spec (h : Hd) (A1 : Option Addr) (n1 c1 : Nat) (l1 : List Rec) (A2 : Option Addr) (n2 c2 : Nat) (l2 : List Rec) (A3 : Option Addr) (n3 c3 : Nat) (l3 : List Rec) (w : World) (hq : h.qn.size ≤ 1048576) (s1 : Sr w w.heap.size A1 n1 l1) (b1 : n1 ≤ 1048576) (m1 : Meds l1) (s2 : Sr w w.heap.size A2 n2 l2) (b2 : n2 ≤ 1048576) (m2 : Meds l2) (s3 : Sr w w.heap.size A3 n3 l3) (b3 : n3 ≤ 1048576) (m3 : Meds l3) : Calls Tryz.prog 29 #[.agg #[.int .i64 h.id, .bool h.rp, .bool h.au, .bool h.ct, .bool h.wa, .bool h.ca, .int .i64 h.code, .string h.qn, .int .i64 h.qt, .slice A1 n1 c1, .slice A2 n2 c2, .slice A3 n3 c3]] w (Gives w (pm h l1 l2 l3)) := by
  have S0 : Mx (w.alloc (.cells #[.int .i64 h.id, .bool h.rp, .bool h.au, .bool h.ct, .bool h.wa, .bool h.ca, .int .i64 h.code, .string h.qn, .int .i64 h.qt, .slice A1 n1 c1, .slice A2 n2 c2, .slice A3 n3 c3] 28)) w.heap.size h (.slice A1 n1 c1) (.slice A2 n2 c2) (.slice A3 n3 c3) ∧ Sv w (w.alloc (.cells #[.int .i64 h.id, .bool h.rp, .bool h.au, .bool h.ct, .bool h.wa, .bool h.ca, .int .i64 h.code, .string h.qn, .int .i64 h.qt, .slice A1 n1 c1, .slice A2 n2 c2, .slice A3 n3 c3] 28)) := ⟨mx_new w 28 h (.slice A1 n1 c1) (.slice A2 n2 c2) (.slice A3 n3 c3), (Below.refl w.heap.size w).alloc (Nat.le_refl _) _⟩
  have X0 : Hid (Mx (w.alloc (.cells #[.int .i64 h.id, .bool h.rp, .bool h.au, .bool h.ct, .bool h.wa, .bool h.ca, .int .i64 h.code, .string h.qn, .int .i64 h.qt, .slice A1 n1 c1, .slice A2 n2 c2, .slice A3 n3 c3] 28)) w.heap.size h (.slice A1 n1 c1) (.slice A2 n2 c2) (.slice A3 n3 c3)) := S0.1
  have L0 : Hid (Sv w (w.alloc (.cells #[.int .i64 h.id, .bool h.rp, .bool h.au, .bool h.ct, .bool h.wa, .bool h.ca, .int .i64 h.code, .string h.qn, .int .i64 h.qt, .slice A1 n1 c1, .slice A2 n2 c2, .slice A3 n3 c3] 28))) := S0.2
  have MK := Lib.hid (OkM.spec h A1 n1 c1 l1 A2 n2 c2 l2 A3 n3 c3 l3 _ (by omega) (s1.on L0.out) (by omega) m1.mods (s2.on L0.out) (by omega) m2.mods (s3.on L0.out) (by omega) m3.mods)
  have HD := Lib.hid (fun W => (HeadS.spec h A1 A2 A3 n1 c1 n2 c2 n3 c3 W).mono fun _ _ => go_of)
  have NM : Hid (∀ (W : World) (g m c : Nat) (l : List UInt8) (r : List Value), Sv w W → Bk W g 5 (l.map bv ++ r) → l.length = m → m ≤ c → m ≤ 1000000 → Calls Tryz.prog 86 #[.slice (some ⟨g, 0, none⟩) m c, .string h.qn] W (GO (l ++ tailN l h.qn) W)) := fun W g m c l r hW hb hm hc h6 =>
    (PutSpec.spec _ m c l h.qn W (sl_of hb hm) hc (fun h => by cases h) (by omega) hq).mono fun _ _ hg => go_of hg.gives
  have PT : Hid (∀ (W : World) (g m c : Nat) (l : List UInt8) (r : List Value) (k : Int), Bk W g 5 (l.map bv ++ r) → l.length = m → m ≤ 1000000 → Calls Tryz.prog 85 #[.slice (some ⟨g, 0, none⟩) m c, .int .i64 k] W (GO (l ++ tail2 k) W)) := fun W g m c l r k hb hm h6 =>
    (specPut2 _ m c l k W (sl_of hb hm) (fun h => by cases h) (by omega)).mono fun _ _ => go_of
  have R1 : Hid (∀ (W : World) (g m c : Nat) (l : List UInt8) (r : List Value), Sv w W → Bk W g 5 (l.map bv ++ r) → l.length = m → m ≤ 1000000 → Calls Tryz.prog 87 #[.slice (some ⟨g, 0, none⟩) m c, .slice A1 n1 c1] W (GO (puts l l1) W)) := fun W g m c l r hW hb hm h6 =>
    (PutsS.spec _ A1 m c n1 c1 l l1 W (sl_of hb hm) (fun h => by cases h) (by omega) (s1.on hW) b1 m1).mono fun _ _ hg => go_of hg.gives
  have R2 : Hid (∀ (W : World) (g m c : Nat) (l : List UInt8) (r : List Value), Sv w W → Bk W g 5 (l.map bv ++ r) → l.length = m → m ≤ 1000000 → Calls Tryz.prog 87 #[.slice (some ⟨g, 0, none⟩) m c, .slice A2 n2 c2] W (GO (puts l l2) W)) := fun W g m c l r hW hb hm h6 =>
    (PutsS.spec _ A2 m c n2 c2 l l2 W (sl_of hb hm) (fun h => by cases h) (by omega) (s2.on hW) b2 m2).mono fun _ _ hg => go_of hg.gives
  have R3 : Hid (∀ (W : World) (g m c : Nat) (l : List UInt8) (r : List Value), Sv w W → Bk W g 5 (l.map bv ++ r) → l.length = m → m ≤ 1000000 → Calls Tryz.prog 87 #[.slice (some ⟨g, 0, none⟩) m c, .slice A3 n3 c3] W (GO (puts l l3) W)) := fun W g m c l r hW hb hm h6 =>
    (PutsS.spec _ A3 m c n3 c3 l l3 W (sl_of hb hm) (fun h => by cases h) (by omega) (s3.on hW) b3 m3).mono fun _ _ hg => go_of hg.gives
  have HB := Lib.hid (fun (e : mok h l1 l2 l3 = false) => pm_bad e)
  have HG := Lib.hid (fun (e : mok h l1 l2 l3 = true) (g : ¬ 512 < (pmr h l1 l2 l3).length) => pm_good e g)
  have HL := Lib.hid (fun (e : mok h l1 l2 l3 = true) (g : 512 < (pmr h l1 l2 l3).length) => pm_long e g)
  have e1 := s1.1
  have e2 := s2.1
  have e3 := s3.1
  have PR : Hid (pmr h l1 l2 l3 = puts (puts (puts (hdl h n1 n2 n3 ++ tailN (hdl h n1 n2 n3) h.qn ++ tail2 h.qt ++ tail2 1) l1) l2) l3) := by show _ = _; rw [pmr, hqs, e1, e2, e3]
  have B0 := Lib.hid (hdl_len h n1 n2 n3)
  have B1 : Hid (((hdl h n1 n2 n3 ++ tailN (hdl h n1 n2 n3) h.qn)).length ≤ 92) := by show _ ≤ _; rw [List.length_append]; have := tailN_len (hdl h n1 n2 n3) h.qn; have := B0.out; omega
  have B2 := Lib.hid (fun (l : List UInt8) (k : Int) => show (l ++ tail2 k).length ≤ l.length + 2 by rw [List.length_append]; have := t2_len k; omega)
  have B3 := Lib.hid (fun (l : List UInt8) => puts_len l1 l)
  have B4 := Lib.hid (fun (l : List UInt8) => puts_len l2 l)
  have RL := Lib.hid (fun (e : mok h l1 l2 l3 = true) => rl_len e)
  clear s1 s2 s3 m1 m2 m3
  generalize mok h l1 l2 l3 = ok at *
  generalize pm h l1 l2 l3 = K at *
  go_enter Tryz.func29, Tryz.ntmps29
  go_wp2_with fail
  refine MK.out.mono ?_
  rintro e w1 ⟨rfl, hl⟩
  have X1 := Lib.hid (X0.out.below hl)
  have L1 : Hid (Sv w w1) := svt L0.out hl
  clear hl X0 L0 S0 MK
  cases ok
  · have HB2 := Lib.hid (HB.out rfl)
    clear HB HG HL RL
    go_wp2
    go_ret
    rw [HB2.out]
    exact ⟨_, 0, 0, [], rfl, rfl, Nat.le_refl _, L1.out.size, heap_alloc_new w1 _, Below.alloc L1.out L1.out.size _⟩
  have rl := RL.out rfl
  have HG2 := Lib.hid (HG.out rfl)
  have HL2 := Lib.hid (HL.out rfl)
  clear RL HB HG HL
  obtain ⟨q1, q2, q3⟩ := rl
  have S1 : ((w1.cell? ⟨w.heap.size, 0, none⟩ = some (.int .i64 h.id) ∧ w1.cell? ⟨w.heap.size, 1, none⟩ = some (.bool h.rp) ∧ w1.cell? ⟨w.heap.size, 2, none⟩ = some (.bool h.au) ∧ w1.cell? ⟨w.heap.size, 3, none⟩ = some (.bool h.ct) ∧ w1.cell? ⟨w.heap.size, 4, none⟩ = some (.bool h.wa) ∧ w1.cell? ⟨w.heap.size, 5, none⟩ = some (.bool h.ca) ∧ w1.cell? ⟨w.heap.size, 6, none⟩ = some (.int .i64 h.code) ∧ w1.cell? ⟨w.heap.size, 7, none⟩ = some (.string h.qn) ∧ w1.cell? ⟨w.heap.size, 8, none⟩ = some (.int .i64 h.qt) ∧ w1.cell? ⟨w.heap.size, 9, none⟩ = some (.slice A1 n1 c1) ∧ w1.cell? ⟨w.heap.size, 10, none⟩ = some (.slice A2 n2 c2) ∧ w1.cell? ⟨w.heap.size, 11, none⟩ = some (.slice A3 n3 c3)) ∧ Sv w w1) := ⟨X1.out, L1.out⟩
  have v1 : Sv w w1.drew := Below.drew L1.out
  have C1 := Lib.hid (HD.out w1.drew)
  go_wp2
  go_region_held3 (fun w' => ((w'.cell? ⟨w.heap.size, 0, none⟩ = some (.int .i64 h.id) ∧ w'.cell? ⟨w.heap.size, 1, none⟩ = some (.bool h.rp) ∧ w'.cell? ⟨w.heap.size, 2, none⟩ = some (.bool h.au) ∧ w'.cell? ⟨w.heap.size, 3, none⟩ = some (.bool h.ct) ∧ w'.cell? ⟨w.heap.size, 4, none⟩ = some (.bool h.wa) ∧ w'.cell? ⟨w.heap.size, 5, none⟩ = some (.bool h.ca) ∧ w'.cell? ⟨w.heap.size, 6, none⟩ = some (.int .i64 h.code) ∧ w'.cell? ⟨w.heap.size, 7, none⟩ = some (.string h.qn) ∧ w'.cell? ⟨w.heap.size, 8, none⟩ = some (.int .i64 h.qt) ∧ w'.cell? ⟨w.heap.size, 9, none⟩ = some (.slice A1 n1 c1) ∧ w'.cell? ⟨w.heap.size, 10, none⟩ = some (.slice A2 n2 c2) ∧ w'.cell? ⟨w.heap.size, 11, none⟩ = some (.slice A3 n3 c3)) ∧ Sv w w'))
    (first | exact S1 | with_reducible assumption | exact kept1 (by assumption) hl | exact kept1_draw (by assumption) | fail)
    (first
      | (go_at_call 33; (with_reducible refine C1.out.mono ?_); rintro e w2 ⟨g2, k2, d2, r2, rfl, z2, y2, -, h2, hl⟩; have v2 := svt v1 hl; have u2 : k2 ≤ 12 := z2 ▸ B0.out)
      | (go_at_call 86; (with_reducible refine (NM.out w2 g2 k2 d2 _ _ v2 h2 z2 y2 (by omega)).mono ?_); rintro e w3 ⟨g3, k3, d3, r3, rfl, z3, y3, -, h3, hl⟩; have v3 := svt v2 hl; have u3 : k3 ≤ 92 := z3 ▸ B1.out)
      | (go_at_call 85; (with_reducible refine (PT.out w3 g3 k3 d3 _ _ h.qt h3 z3 (by omega)).mono ?_); rintro e w4 ⟨g4, k4, d4, r4, rfl, z4, y4, -, h4, hl⟩; have v4 := svt v3 hl; have u4 : k4 ≤ 94 := Nat.le_trans (z4 ▸ B2.out _ h.qt) (by omega))
      | (go_at_call 85; (with_reducible refine (PT.out w4 g4 k4 d4 _ _ 1 h4 z4 (by omega)).mono ?_); rintro e w5 ⟨g5, k5, d5, r5, rfl, z5, y5, -, h5, hl⟩; have u5 : k5 ≤ 96 := Nat.le_trans (z5 ▸ B2.out _ 1) (by omega))
      | fail)
  rename_i hH
  have M5 := Lib.hid z5
  have G5 := Lib.hid h5
  have X5 : Hid (Mx w5 w.heap.size h (.slice A1 n1 c1) (.slice A2 n2 c2) (.slice A3 n3 c3)) := hH.1
  have L5 : Hid (Sv w w5) := hH.2
  clear z2 z3 z4 z5 y2 y3 y4 y5 h2 h3 h4 h5 v1 v2 v3 v4 u2 u3 u4 hl hH S1 C1 X1 L1 HD NM PT
  have S5 : ((w5.cell? ⟨w.heap.size, 0, none⟩ = some (.int .i64 h.id) ∧ w5.cell? ⟨w.heap.size, 1, none⟩ = some (.bool h.rp) ∧ w5.cell? ⟨w.heap.size, 2, none⟩ = some (.bool h.au) ∧ w5.cell? ⟨w.heap.size, 3, none⟩ = some (.bool h.ct) ∧ w5.cell? ⟨w.heap.size, 4, none⟩ = some (.bool h.wa) ∧ w5.cell? ⟨w.heap.size, 5, none⟩ = some (.bool h.ca) ∧ w5.cell? ⟨w.heap.size, 6, none⟩ = some (.int .i64 h.code) ∧ w5.cell? ⟨w.heap.size, 7, none⟩ = some (.string h.qn) ∧ w5.cell? ⟨w.heap.size, 8, none⟩ = some (.int .i64 h.qt) ∧ w5.cell? ⟨w.heap.size, 9, none⟩ = some (.slice A1 n1 c1) ∧ w5.cell? ⟨w.heap.size, 10, none⟩ = some (.slice A2 n2 c2) ∧ w5.cell? ⟨w.heap.size, 11, none⟩ = some (.slice A3 n3 c3)) ∧ Sv w w5) := ⟨X5.out, L5.out⟩
  have v5 : Sv w w5.drew := Below.drew L5.out
  have C5 := Lib.hid (R1.out w5.drew g5 k5 d5 _ _ v5 G5.out M5.out (by omega))
  go_wp2
  go_region_held3 (fun w' => ((w'.cell? ⟨w.heap.size, 0, none⟩ = some (.int .i64 h.id) ∧ w'.cell? ⟨w.heap.size, 1, none⟩ = some (.bool h.rp) ∧ w'.cell? ⟨w.heap.size, 2, none⟩ = some (.bool h.au) ∧ w'.cell? ⟨w.heap.size, 3, none⟩ = some (.bool h.ct) ∧ w'.cell? ⟨w.heap.size, 4, none⟩ = some (.bool h.wa) ∧ w'.cell? ⟨w.heap.size, 5, none⟩ = some (.bool h.ca) ∧ w'.cell? ⟨w.heap.size, 6, none⟩ = some (.int .i64 h.code) ∧ w'.cell? ⟨w.heap.size, 7, none⟩ = some (.string h.qn) ∧ w'.cell? ⟨w.heap.size, 8, none⟩ = some (.int .i64 h.qt) ∧ w'.cell? ⟨w.heap.size, 9, none⟩ = some (.slice A1 n1 c1) ∧ w'.cell? ⟨w.heap.size, 10, none⟩ = some (.slice A2 n2 c2) ∧ w'.cell? ⟨w.heap.size, 11, none⟩ = some (.slice A3 n3 c3)) ∧ Sv w w'))
    (first | exact S5 | with_reducible assumption | exact kept1 (by assumption) hl | exact kept1_draw (by assumption) | fail)
    (first
      | (go_at_call 87; (with_reducible refine C5.out.mono ?_); rintro e w6 ⟨g6, k6, d6, r6, rfl, z6, y6, -, h6, hl⟩; have v6 := svt v5 hl; have u6 : k6 ≤ 2000 := Nat.le_trans (z6 ▸ B3.out _) (by have := M5.out; omega))
      | (go_at_call 87; (with_reducible refine (R2.out w6 g6 k6 d6 _ _ v6 h6 z6 (by omega)).mono ?_); rintro e w7 ⟨g7, k7, d7, r7, rfl, z7, y7, -, h7, hl⟩; have v7 := svt v6 hl; have u7 : k7 ≤ 4000 := Nat.le_trans (z7 ▸ B4.out _) (by omega))
      | (go_at_call 87; (with_reducible refine (R3.out w7 g7 k7 d7 _ _ v7 h7 z7 (by omega)).mono ?_); rintro e w8 ⟨g8, k8, d8, r8, rfl, z8, y8, p8, h8, hl⟩; have NG : Hid (w.heap.size ≤ g8) := Nat.le_trans (sv_size v7) p8)
      | fail)
  rename_i hH
  have L8 : Hid (Sv w w8) := hH.2
  clear S5 C5 v5 v6 v7 hl hH X5 L5 u6 u7 z6 z7 y6 y7 h6 h7 G5 M5 R1 R2 R3
  rw [← PR.out] at z8 h8
  have M8 := Lib.hid z8
  have G8 := Lib.hid h8
  clear z8 h8
  clear PR
  generalize pmr h l1 l2 l3 = KK at *
  by_cases h5 : 512 < k8
  · have h5' : (512 : Int) < (k8 : Int) := by omega
    have HE := Lib.hid (HL2.out (by rw [M8.out]; exact h5))
    go_wp2
    go_ret
    rw [HE.out]
    exact ⟨_, 0, 0, [], rfl, rfl, Nat.le_refl _, L8.out.size, heap_alloc_new w8 _, Below.alloc L8.out L8.out.size _⟩
  · have h5' : ¬ (512 : Int) < (k8 : Int) := by omega
    have HE := Lib.hid (HG2.out (by rw [M8.out]; exact h5))
    go_wp2
    go_ret
    rw [HE.out]
    exact ⟨g8, k8, d8, r8, rfl, M8.out, y8, NG.out, G8.out, L8.out⟩

set_option maxRecDepth 100000 in
set_option maxHeartbeats 8000000 in
theorem impl (h : Hd) (A1 : Option Addr) (n1 c1 : Nat) (l1 : List Rec) (A2 : Option Addr) (n2 c2 : Nat) (l2 : List Rec) (A3 : Option Addr) (n3 c3 : Nat) (l3 : List Rec) (w : World) (he : Env w) (hq : h.qn.size ≤ 1048576) (s1 : Sr w w.heap.size A1 n1 l1) (b1 : n1 ≤ 1048576) (m1 : Meds l1) (s2 : Sr w w.heap.size A2 n2 l2) (b2 : n2 ≤ 1048576) (m2 : Meds l2) (s3 : Sr w w.heap.size A3 n3 l3) (b3 : n3 ≤ 1048576) (m3 : Meds l3) : Calls Tryz.prog 27 #[.agg #[.int .i64 h.id, .bool h.rp, .bool h.au, .bool h.ct, .bool h.wa, .bool h.ca, .int .i64 h.code, .string h.qn, .int .i64 h.qt, .slice A1 n1 c1, .slice A2 n2 c2, .slice A3 n3 c3]] w (Gives w (pm h l1 l2 l3)) := by
  have S0 : Mx (w.alloc (.cells #[.int .i64 h.id, .bool h.rp, .bool h.au, .bool h.ct, .bool h.wa, .bool h.ca, .int .i64 h.code, .string h.qn, .int .i64 h.qt, .slice A1 n1 c1, .slice A2 n2 c2, .slice A3 n3 c3] 28)) w.heap.size h (.slice A1 n1 c1) (.slice A2 n2 c2) (.slice A3 n3 c3) ∧ Sv w (w.alloc (.cells #[.int .i64 h.id, .bool h.rp, .bool h.au, .bool h.ct, .bool h.wa, .bool h.ca, .int .i64 h.code, .string h.qn, .int .i64 h.qt, .slice A1 n1 c1, .slice A2 n2 c2, .slice A3 n3 c3] 28)) := ⟨mx_new w 28 h (.slice A1 n1 c1) (.slice A2 n2 c2) (.slice A3 n3 c3), (Below.refl w.heap.size w).alloc (Nat.le_refl _) _⟩
  have X0 : Hid (Mx (w.alloc (.cells #[.int .i64 h.id, .bool h.rp, .bool h.au, .bool h.ct, .bool h.wa, .bool h.ca, .int .i64 h.code, .string h.qn, .int .i64 h.qt, .slice A1 n1 c1, .slice A2 n2 c2, .slice A3 n3 c3] 28)) w.heap.size h (.slice A1 n1 c1) (.slice A2 n2 c2) (.slice A3 n3 c3)) := S0.1
  have L0 : Hid (Sv w (w.alloc (.cells #[.int .i64 h.id, .bool h.rp, .bool h.au, .bool h.ct, .bool h.wa, .bool h.ca, .int .i64 h.code, .string h.qn, .int .i64 h.qt, .slice A1 n1 c1, .slice A2 n2 c2, .slice A3 n3 c3] 28))) := S0.2
  have MK := Lib.hid (OkM.impl h A1 n1 c1 l1 A2 n2 c2 l2 A3 n3 c3 l3 _ (he.below L0.out) (by omega) (s1.on L0.out) (by omega) m1.mods (s2.on L0.out) (by omega) m2.mods (s3.on L0.out) (by omega) m3.mods)
  have HD := Lib.hid (fun W => (HeadS.impl h A1 A2 A3 n1 c1 n2 c2 n3 c3 W).mono fun _ _ => go_of)
  have NM : Hid (∀ (W : World) (g m c : Nat) (l : List UInt8) (r : List Value), Sv w W → Bk W g 5 (l.map bv ++ r) → l.length = m → m ≤ c → m ≤ 1000000 → Calls Tryz.prog 82 #[.slice (some ⟨g, 0, none⟩) m c, .string h.qn] W (GO (l ++ tailN l h.qn) W)) := fun W g m c l r hW hb hm hc h6 =>
    (PutName.impl _ m c l h.qn W (he.below hW) (sl_of hb hm) hc (fun h => by cases h) (by omega) hq).mono fun _ _ hg => go_of hg
  have PT : Hid (∀ (W : World) (g m c : Nat) (l : List UInt8) (r : List Value) (k : Int), Bk W g 5 (l.map bv ++ r) → l.length = m → m ≤ 1000000 → Calls Tryz.prog 83 #[.slice (some ⟨g, 0, none⟩) m c, .int .i64 k] W (GO (l ++ tail2 k) W)) := fun W g m c l r k hb hm h6 =>
    (implPut2 _ m c l k W (sl_of hb hm) (fun h => by cases h) (by omega)).mono fun _ _ => go_of
  have R1 : Hid (∀ (W : World) (g m c : Nat) (l : List UInt8) (r : List Value), Sv w W → Bk W g 5 (l.map bv ++ r) → l.length = m → m ≤ 1000000 → Calls Tryz.prog 84 #[.slice (some ⟨g, 0, none⟩) m c, .slice A1 n1 c1] W (GO (puts l l1) W)) := fun W g m c l r hW hb hm h6 =>
    (PutsP.impl _ A1 m c n1 c1 l l1 W (he.below hW) (sl_of hb hm) (fun h => by cases h) (by omega) (s1.on hW) b1 m1).mono fun _ _ hg => go_of hg.gives
  have R2 : Hid (∀ (W : World) (g m c : Nat) (l : List UInt8) (r : List Value), Sv w W → Bk W g 5 (l.map bv ++ r) → l.length = m → m ≤ 1000000 → Calls Tryz.prog 84 #[.slice (some ⟨g, 0, none⟩) m c, .slice A2 n2 c2] W (GO (puts l l2) W)) := fun W g m c l r hW hb hm h6 =>
    (PutsP.impl _ A2 m c n2 c2 l l2 W (he.below hW) (sl_of hb hm) (fun h => by cases h) (by omega) (s2.on hW) b2 m2).mono fun _ _ hg => go_of hg.gives
  have R3 : Hid (∀ (W : World) (g m c : Nat) (l : List UInt8) (r : List Value), Sv w W → Bk W g 5 (l.map bv ++ r) → l.length = m → m ≤ 1000000 → Calls Tryz.prog 84 #[.slice (some ⟨g, 0, none⟩) m c, .slice A3 n3 c3] W (GO (puts l l3) W)) := fun W g m c l r hW hb hm h6 =>
    (PutsP.impl _ A3 m c n3 c3 l l3 W (he.below hW) (sl_of hb hm) (fun h => by cases h) (by omega) (s3.on hW) b3 m3).mono fun _ _ hg => go_of hg.gives
  have HB := Lib.hid (fun (e : mok h l1 l2 l3 = false) => pm_bad e)
  have HG := Lib.hid (fun (e : mok h l1 l2 l3 = true) (g : ¬ 512 < (pmr h l1 l2 l3).length) => pm_good e g)
  have HL := Lib.hid (fun (e : mok h l1 l2 l3 = true) (g : 512 < (pmr h l1 l2 l3).length) => pm_long e g)
  have e1 := s1.1
  have e2 := s2.1
  have e3 := s3.1
  have PR : Hid (pmr h l1 l2 l3 = puts (puts (puts (hdl h n1 n2 n3 ++ tailN (hdl h n1 n2 n3) h.qn ++ tail2 h.qt ++ tail2 1) l1) l2) l3) := by show _ = _; rw [pmr, hqs, e1, e2, e3]
  have B0 := Lib.hid (hdl_len h n1 n2 n3)
  have B1 : Hid (((hdl h n1 n2 n3 ++ tailN (hdl h n1 n2 n3) h.qn)).length ≤ 92) := by show _ ≤ _; rw [List.length_append]; have := tailN_len (hdl h n1 n2 n3) h.qn; have := B0.out; omega
  have B2 := Lib.hid (fun (l : List UInt8) (k : Int) => show (l ++ tail2 k).length ≤ l.length + 2 by rw [List.length_append]; have := t2_len k; omega)
  have B3 := Lib.hid (fun (l : List UInt8) => puts_len l1 l)
  have B4 := Lib.hid (fun (l : List UInt8) => puts_len l2 l)
  have RL := Lib.hid (fun (e : mok h l1 l2 l3 = true) => rl_len e)
  clear s1 s2 s3 m1 m2 m3 he
  generalize mok h l1 l2 l3 = ok at *
  generalize pm h l1 l2 l3 = K at *
  go_enter Tryz.func27, Tryz.ntmps27
  go_wp2_with fail
  refine MK.out.mono ?_
  rintro e w1 ⟨rfl, hl⟩
  have X1 := Lib.hid (X0.out.below hl)
  have L1 : Hid (Sv w w1) := svt L0.out hl
  clear hl X0 L0 S0 MK
  cases ok
  · have HB2 := Lib.hid (HB.out rfl)
    clear HB HG HL RL
    go_wp2
    go_ret
    rw [HB2.out]
    exact ⟨_, 0, 0, [], rfl, rfl, Nat.le_refl _, L1.out.size, heap_alloc_new w1 _, Below.alloc L1.out L1.out.size _⟩
  have rl := RL.out rfl
  have HG2 := Lib.hid (HG.out rfl)
  have HL2 := Lib.hid (HL.out rfl)
  clear RL HB HG HL
  obtain ⟨q1, q2, q3⟩ := rl
  have S1 : ((w1.cell? ⟨w.heap.size, 0, none⟩ = some (.int .i64 h.id) ∧ w1.cell? ⟨w.heap.size, 1, none⟩ = some (.bool h.rp) ∧ w1.cell? ⟨w.heap.size, 2, none⟩ = some (.bool h.au) ∧ w1.cell? ⟨w.heap.size, 3, none⟩ = some (.bool h.ct) ∧ w1.cell? ⟨w.heap.size, 4, none⟩ = some (.bool h.wa) ∧ w1.cell? ⟨w.heap.size, 5, none⟩ = some (.bool h.ca) ∧ w1.cell? ⟨w.heap.size, 6, none⟩ = some (.int .i64 h.code) ∧ w1.cell? ⟨w.heap.size, 7, none⟩ = some (.string h.qn) ∧ w1.cell? ⟨w.heap.size, 8, none⟩ = some (.int .i64 h.qt) ∧ w1.cell? ⟨w.heap.size, 9, none⟩ = some (.slice A1 n1 c1) ∧ w1.cell? ⟨w.heap.size, 10, none⟩ = some (.slice A2 n2 c2) ∧ w1.cell? ⟨w.heap.size, 11, none⟩ = some (.slice A3 n3 c3)) ∧ Sv w w1) := ⟨X1.out, L1.out⟩
  have v1 : Sv w w1.drew := Below.drew L1.out
  have C1 := Lib.hid (HD.out w1.drew)
  go_wp2
  go_region_held3 (fun w' => ((w'.cell? ⟨w.heap.size, 0, none⟩ = some (.int .i64 h.id) ∧ w'.cell? ⟨w.heap.size, 1, none⟩ = some (.bool h.rp) ∧ w'.cell? ⟨w.heap.size, 2, none⟩ = some (.bool h.au) ∧ w'.cell? ⟨w.heap.size, 3, none⟩ = some (.bool h.ct) ∧ w'.cell? ⟨w.heap.size, 4, none⟩ = some (.bool h.wa) ∧ w'.cell? ⟨w.heap.size, 5, none⟩ = some (.bool h.ca) ∧ w'.cell? ⟨w.heap.size, 6, none⟩ = some (.int .i64 h.code) ∧ w'.cell? ⟨w.heap.size, 7, none⟩ = some (.string h.qn) ∧ w'.cell? ⟨w.heap.size, 8, none⟩ = some (.int .i64 h.qt) ∧ w'.cell? ⟨w.heap.size, 9, none⟩ = some (.slice A1 n1 c1) ∧ w'.cell? ⟨w.heap.size, 10, none⟩ = some (.slice A2 n2 c2) ∧ w'.cell? ⟨w.heap.size, 11, none⟩ = some (.slice A3 n3 c3)) ∧ Sv w w'))
    (first | exact S1 | with_reducible assumption | exact kept1 (by assumption) hl | exact kept1_draw (by assumption) | fail)
    (first
      | (go_at_call 32; (with_reducible refine C1.out.mono ?_); rintro e w2 ⟨g2, k2, d2, r2, rfl, z2, y2, -, h2, hl⟩; have v2 := svt v1 hl; have u2 : k2 ≤ 12 := z2 ▸ B0.out)
      | (go_at_call 82; (with_reducible refine (NM.out w2 g2 k2 d2 _ _ v2 h2 z2 y2 (by omega)).mono ?_); rintro e w3 ⟨g3, k3, d3, r3, rfl, z3, y3, -, h3, hl⟩; have u3 : k3 ≤ 92 := z3 ▸ B1.out)
      | fail)
  rename_i hH
  have M3 := Lib.hid z3
  have G3 := Lib.hid h3
  have X3 : Hid (Mx w3 w.heap.size h (.slice A1 n1 c1) (.slice A2 n2 c2) (.slice A3 n3 c3)) := hH.1
  have L3 : Hid (Sv w w3) := hH.2
  clear z2 z3 y2 y3 h2 h3 v1 v2 u2 hl hH S1 C1 X1 L1 HD NM
  obtain ⟨x0, x1, x2, x3, x4, x5, x6, x7, x8, x9, x10, x11⟩ := X3.out
  go_wp2_with fail
  refine (PT.out w3 g3 k3 d3 _ _ h.qt G3.out M3.out (by omega)).mono ?_
  rintro e w4 ⟨g4, k4, d4, r4, rfl, hm, -, -, hb, hl⟩
  have u4 : k4 ≤ 94 := Nat.le_trans (hm ▸ B2.out _ h.qt) (by have := M3.out; omega)
  have M4 := Lib.hid hm
  have X4 := Lib.hid (X3.out.below hl)
  have L4 : Hid (Sv w w4) := svt L3.out hl
  have G4 := Lib.hid hb
  clear hm hb hl X3 L3 G3 M3 u3 x0 x1 x2 x3 x4 x5 x6 x7 x8 x9 x10 x11
  go_wp2_with fail
  refine (PT.out w4 g4 k4 d4 _ _ 1 G4.out M4.out (by omega)).mono ?_
  rintro e w5 ⟨g5, k5, d5, r5, rfl, hm, -, -, hb, hl⟩
  have u5 : k5 ≤ 96 := Nat.le_trans (hm ▸ B2.out _ 1) (by have := M4.out; omega)
  have M5 := Lib.hid hm
  have X5 := Lib.hid (X4.out.below hl)
  have L5 : Hid (Sv w w5) := svt L4.out hl
  have G5 := Lib.hid hb
  clear hm hb hl X4 L4 G4 M4 u4
  obtain ⟨x0, x1, x2, x3, x4, x5, x6, x7, x8, x9, x10, x11⟩ := X5.out
  go_wp2_with fail
  refine (R1.out w5 g5 k5 d5 _ _ L5.out G5.out M5.out (by omega)).mono ?_
  rintro e w6 ⟨g6, k6, d6, r6, rfl, hm, -, -, hb, hl⟩
  have u6 : k6 ≤ 2000 := Nat.le_trans (hm ▸ B3.out _) (by have := M5.out; omega)
  have M6 := Lib.hid hm
  have X6 := Lib.hid (X5.out.below hl)
  have L6 : Hid (Sv w w6) := svt L5.out hl
  have G6 := Lib.hid hb
  clear hm hb hl X5 L5 G5 M5 u5 x0 x1 x2 x3 x4 x5 x6 x7 x8 x9 x10 x11
  obtain ⟨x0, x1, x2, x3, x4, x5, x6, x7, x8, x9, x10, x11⟩ := X6.out
  go_wp2_with fail
  refine (R2.out w6 g6 k6 d6 _ _ L6.out G6.out M6.out (by omega)).mono ?_
  rintro e w7 ⟨g7, k7, d7, r7, rfl, hm, -, -, hb, hl⟩
  have u7 : k7 ≤ 4000 := Nat.le_trans (hm ▸ B4.out _) (by have := M6.out; omega)
  have M7 := Lib.hid hm
  have X7 := Lib.hid (X6.out.below hl)
  have L7 : Hid (Sv w w7) := svt L6.out hl
  have G7 := Lib.hid hb
  clear hm hb hl X6 L6 G6 M6 u6 x0 x1 x2 x3 x4 x5 x6 x7 x8 x9 x10 x11
  obtain ⟨x0, x1, x2, x3, x4, x5, x6, x7, x8, x9, x10, x11⟩ := X7.out
  go_wp2_with fail
  refine (R3.out w7 g7 k7 d7 _ _ L7.out G7.out M7.out (by omega)).mono ?_
  rintro e w8 ⟨g8, k8, d8, r8, rfl, hm, y8, p8, hb, hl⟩
  have NG : Hid (w.heap.size ≤ g8) := Nat.le_trans (sv_size L7.out) p8
  clear p8
  rw [← PR.out] at hm hb
  have M8 := Lib.hid hm
  have X8 := Lib.hid (X7.out.below hl)
  have L8 : Hid (Sv w w8) := svt L7.out hl
  have G8 := Lib.hid hb
  clear hm hb hl X7 L7 G7 M7 u7 x0 x1 x2 x3 x4 x5 x6 x7 x8 x9 x10 x11
  clear PR X8
  generalize pmr h l1 l2 l3 = KK at *
  by_cases h5 : 512 < k8
  · have h5' : (512 : Int) < (k8 : Int) := by omega
    have HE := Lib.hid (HL2.out (by rw [M8.out]; exact h5))
    go_wp2
    go_ret
    rw [HE.out]
    exact ⟨_, 0, 0, [], rfl, rfl, Nat.le_refl _, L8.out.size, heap_alloc_new w8 _, Below.alloc L8.out L8.out.size _⟩
  · have h5' : ¬ (512 : Int) < (k8 : Int) := by omega
    have HE := Lib.hid (HG2.out (by rw [M8.out]; exact h5))
    go_wp2
    go_ret
    rw [HE.out]
    exact ⟨g8, k8, d8, r8, rfl, M8.out, y8, NG.out, G8.out, L8.out⟩

set_option maxHeartbeats 2000000 in
theorem sizeS (h : Hd) (A1 : Option Addr) (n1 c1 : Nat) (l1 : List Rec) (A2 : Option Addr) (n2 c2 : Nat) (l2 : List Rec) (A3 : Option Addr) (n3 c3 : Nat) (l3 : List Rec) (w : World) (hq : h.qn.size ≤ 1048576) (s1 : Sr w w.heap.size A1 n1 l1) (b1 : n1 ≤ 1048576) (m1 : Meds l1) (s2 : Sr w w.heap.size A2 n2 l2) (b2 : n2 ≤ 1048576) (m2 : Meds l2) (s3 : Sr w w.heap.size A3 n3 l3) (b3 : n3 ≤ 1048576) (m3 : Meds l3) : Calls Tryz.prog 52 #[.agg #[.int .i64 h.id, .bool h.rp, .bool h.au, .bool h.ct, .bool h.wa, .bool h.ca, .int .i64 h.code, .string h.qn, .int .i64 h.qt, .slice A1 n1 c1, .slice A2 n2 c2, .slice A3 n3 c3]] w fun e w' => e = .returned (.int .i64 ((pm h l1 l2 l3).length : Int)) ∧ Below w.heap.size w w' := by
  have L0 := Lib.hid ((Below.refl w.heap.size w).alloc (Nat.le_refl _) (.cells #[.int .i64 h.id, .bool h.rp, .bool h.au, .bool h.ct, .bool h.wa, .bool h.ca, .int .i64 h.code, .string h.qn, .int .i64 h.qt, .slice A1 n1 c1, .slice A2 n2 c2, .slice A3 n3 c3] 28))
  obtain ⟨x0, x1, x2, x3, x4, x5, x6, x7, x8, x9, x10, x11⟩ := mx_new w 28 h (.slice A1 n1 c1) (.slice A2 n2 c2) (.slice A3 n3 c3)
  have C := Lib.hid (PutM.spec h A1 n1 c1 l1 A2 n2 c2 l2 A3 n3 c3 l3 _ hq (s1.on L0.out) b1 m1 (s2.on L0.out) b2 m2 (s3.on L0.out) b3 m3)
  have KL := pm_len h l1 l2 l3
  clear s1 s2 s3 m1 m2 m3
  go_enter Tryz.func52, Tryz.ntmps52
  go_wp2_with fail
  refine C.out.mono ?_
  rintro e w1 ⟨g, m, c, r, rfl, hm, -, -, -, hl⟩
  have L1 := Lib.hid (L0.out.trans (hl.mono L0.out.size))
  have HM := Lib.hid hm
  clear hl hm L0 C
  go_wp2
  go_ret
  exact ⟨by rw [HM.out]; rfl, L1.out⟩

set_option maxHeartbeats 2000000 in
theorem fitsS (h : Hd) (A1 : Option Addr) (n1 c1 : Nat) (l1 : List Rec) (A2 : Option Addr) (n2 c2 : Nat) (l2 : List Rec) (A3 : Option Addr) (n3 c3 : Nat) (l3 : List Rec) (w : World) (hq : h.qn.size ≤ 1048576) (s1 : Sr w w.heap.size A1 n1 l1) (b1 : n1 ≤ 1048576) (m1 : Meds l1) (s2 : Sr w w.heap.size A2 n2 l2) (b2 : n2 ≤ 1048576) (m2 : Meds l2) (s3 : Sr w w.heap.size A3 n3 l3) (b3 : n3 ≤ 1048576) (m3 : Meds l3) : Calls Tryz.prog 53 #[.agg #[.int .i64 h.id, .bool h.rp, .bool h.au, .bool h.ct, .bool h.wa, .bool h.ca, .int .i64 h.code, .string h.qn, .int .i64 h.qt, .slice A1 n1 c1, .slice A2 n2 c2, .slice A3 n3 c3]] w fun e w' => e = .returned (.bool (fit h l1 l2 l3)) ∧ Below w.heap.size w w' := by
  have L0 := Lib.hid ((Below.refl w.heap.size w).alloc (Nat.le_refl _) (.cells #[.int .i64 h.id, .bool h.rp, .bool h.au, .bool h.ct, .bool h.wa, .bool h.ca, .int .i64 h.code, .string h.qn, .int .i64 h.qt, .slice A1 n1 c1, .slice A2 n2 c2, .slice A3 n3 c3] 28))
  obtain ⟨x0, x1, x2, x3, x4, x5, x6, x7, x8, x9, x10, x11⟩ := mx_new w 28 h (.slice A1 n1 c1) (.slice A2 n2 c2) (.slice A3 n3 c3)
  have C := Lib.hid (sizeS h A1 n1 c1 l1 A2 n2 c2 l2 A3 n3 c3 l3 _ hq (s1.on L0.out) b1 m1 (s2.on L0.out) b2 m2 (s3.on L0.out) b3 m3)
  have KL := pm_len h l1 l2 l3
  clear s1 s2 s3 m1 m2 m3
  go_enter Tryz.func53, Tryz.ntmps53
  go_wp2_with fail
  refine C.out.mono ?_
  rintro e w1 ⟨rfl, hl⟩
  have L1 := Lib.hid (L0.out.trans (hl.mono L0.out.size))
  have HF : Hid (fit h l1 l2 l3 = decide (0 < (pm h l1 l2 l3).length)) := rfl
  generalize (pm h l1 l2 l3).length = m at *
  clear hl L0 C
  by_cases h0 : 0 < m
  · have h0' : (0 : Int) < (m : Int) := by omega
    have HF2 : Hid (fit h l1 l2 l3 = true) := HF.out.trans (decide_eq_true h0)
    go_wp2
    go_ret
    exact ⟨by rw [HF2.out]; rfl, L1.out⟩
  · have h0' : ¬ (0 : Int) < (m : Int) := by omega
    have HF2 : Hid (fit h l1 l2 l3 = false) := HF.out.trans (decide_eq_false h0)
    go_wp2
    go_ret
    exact ⟨by rw [HF2.out]; rfl, L1.out⟩

set_option maxHeartbeats 2000000 in
theorem sizeI (h : Hd) (A1 : Option Addr) (n1 c1 : Nat) (l1 : List Rec) (A2 : Option Addr) (n2 c2 : Nat) (l2 : List Rec) (A3 : Option Addr) (n3 c3 : Nat) (l3 : List Rec) (w : World) (he : Env w) (hq : h.qn.size ≤ 1048576) (s1 : Sr w w.heap.size A1 n1 l1) (b1 : n1 ≤ 1048576) (m1 : Meds l1) (s2 : Sr w w.heap.size A2 n2 l2) (b2 : n2 ≤ 1048576) (m2 : Meds l2) (s3 : Sr w w.heap.size A3 n3 l3) (b3 : n3 ≤ 1048576) (m3 : Meds l3) : Calls Tryz.prog 30 #[.agg #[.int .i64 h.id, .bool h.rp, .bool h.au, .bool h.ct, .bool h.wa, .bool h.ca, .int .i64 h.code, .string h.qn, .int .i64 h.qt, .slice A1 n1 c1, .slice A2 n2 c2, .slice A3 n3 c3]] w fun e w' => e = .returned (.int .i64 ((pm h l1 l2 l3).length : Int)) ∧ Below w.heap.size w w' := by
  have L0 := Lib.hid ((Below.refl w.heap.size w).alloc (Nat.le_refl _) (.cells #[.int .i64 h.id, .bool h.rp, .bool h.au, .bool h.ct, .bool h.wa, .bool h.ca, .int .i64 h.code, .string h.qn, .int .i64 h.qt, .slice A1 n1 c1, .slice A2 n2 c2, .slice A3 n3 c3] 28))
  obtain ⟨x0, x1, x2, x3, x4, x5, x6, x7, x8, x9, x10, x11⟩ := mx_new w 28 h (.slice A1 n1 c1) (.slice A2 n2 c2) (.slice A3 n3 c3)
  have C := Lib.hid (PutM.impl h A1 n1 c1 l1 A2 n2 c2 l2 A3 n3 c3 l3 _ (he.below L0.out) hq (s1.on L0.out) b1 m1 (s2.on L0.out) b2 m2 (s3.on L0.out) b3 m3)
  have KL := pm_len h l1 l2 l3
  clear s1 s2 s3 m1 m2 m3 he
  go_enter Tryz.func30, Tryz.ntmps30
  go_wp2_with fail
  refine C.out.mono ?_
  rintro e w1 ⟨g, m, c, r, rfl, hm, -, -, -, hl⟩
  have L1 := Lib.hid (L0.out.trans (hl.mono L0.out.size))
  have HM := Lib.hid hm
  clear hl hm L0 C
  go_wp2
  go_ret
  exact ⟨by rw [HM.out]; rfl, L1.out⟩

set_option maxHeartbeats 2000000 in
theorem fitsI (h : Hd) (A1 : Option Addr) (n1 c1 : Nat) (l1 : List Rec) (A2 : Option Addr) (n2 c2 : Nat) (l2 : List Rec) (A3 : Option Addr) (n3 c3 : Nat) (l3 : List Rec) (w : World) (he : Env w) (hq : h.qn.size ≤ 1048576) (s1 : Sr w w.heap.size A1 n1 l1) (b1 : n1 ≤ 1048576) (m1 : Meds l1) (s2 : Sr w w.heap.size A2 n2 l2) (b2 : n2 ≤ 1048576) (m2 : Meds l2) (s3 : Sr w w.heap.size A3 n3 l3) (b3 : n3 ≤ 1048576) (m3 : Meds l3) : Calls Tryz.prog 31 #[.agg #[.int .i64 h.id, .bool h.rp, .bool h.au, .bool h.ct, .bool h.wa, .bool h.ca, .int .i64 h.code, .string h.qn, .int .i64 h.qt, .slice A1 n1 c1, .slice A2 n2 c2, .slice A3 n3 c3]] w fun e w' => e = .returned (.bool (fit h l1 l2 l3)) ∧ Below w.heap.size w w' := by
  have L0 := Lib.hid ((Below.refl w.heap.size w).alloc (Nat.le_refl _) (.cells #[.int .i64 h.id, .bool h.rp, .bool h.au, .bool h.ct, .bool h.wa, .bool h.ca, .int .i64 h.code, .string h.qn, .int .i64 h.qt, .slice A1 n1 c1, .slice A2 n2 c2, .slice A3 n3 c3] 28))
  obtain ⟨x0, x1, x2, x3, x4, x5, x6, x7, x8, x9, x10, x11⟩ := mx_new w 28 h (.slice A1 n1 c1) (.slice A2 n2 c2) (.slice A3 n3 c3)
  have C := Lib.hid (sizeI h A1 n1 c1 l1 A2 n2 c2 l2 A3 n3 c3 l3 _ (he.below L0.out) hq (s1.on L0.out) b1 m1 (s2.on L0.out) b2 m2 (s3.on L0.out) b3 m3)
  have KL := pm_len h l1 l2 l3
  clear s1 s2 s3 m1 m2 m3 he
  go_enter Tryz.func31, Tryz.ntmps31
  go_wp2_with fail
  refine C.out.mono ?_
  rintro e w1 ⟨rfl, hl⟩
  have L1 := Lib.hid (L0.out.trans (hl.mono L0.out.size))
  have HF : Hid (fit h l1 l2 l3 = decide (0 < (pm h l1 l2 l3).length)) := rfl
  generalize (pm h l1 l2 l3).length = m at *
  clear hl L0 C
  by_cases h0 : 0 < m
  · have h0' : (0 : Int) < (m : Int) := by omega
    have HF2 : Hid (fit h l1 l2 l3 = true) := HF.out.trans (decide_eq_true h0)
    go_wp2
    go_ret
    exact ⟨by rw [HF2.out]; rfl, L1.out⟩
  · have h0' : ¬ (0 : Int) < (m : Int) := by omega
    have HF2 : Hid (fit h l1 l2 l3 = false) := HF.out.trans (decide_eq_false h0)
    go_wp2
    go_ret
    exact ⟨by rw [HF2.out]; rfl, L1.out⟩
end Go.Proofs.YtkfibepejlgniaaGreatDoor.PutM

/- What the law's own helpers toRecord and toRecordS do: the same record; a new slice with the same records. Condition: fewer than 400000001 records. -/
namespace Go.Proofs.YtkfibepejlgniaaGreatDoor.CopyR
open Go.RowKit Go.Proofs.YtkfibepejlgniaaGreatDoor.Mem Go.Proofs.YtkfibepejlgniaaGreatDoor.MemR

theorem info : (Tryz.prog.info? 117).map (fun i => (i.zero, i.size, i.bytes)) = some (some (.agg #[.string ⟨#[]⟩, .int .i64 0, .int .i64 0, .int .i64 0, .string ⟨#[]⟩, .string ⟨#[]⟩]), 6, 72) := by kernel_rfl

set_option maxHeartbeats 1000000 in
theorem toRecord_any (r : Rec) (w : World) : Calls Tryz.prog 150 #[.agg #[.string r.name, .int .i64 r.ty, .int .i64 r.ttl, .int .i64 r.n, .string r.host, .string r.text]] w fun e w' => e = .returned (.agg #[.string r.name, .int .i64 r.ty, .int .i64 r.ttl, .int .i64 r.n, .string r.host, .string r.text]) ∧ Below w.heap.size w w' := by
  go_enter Tryz.func150, Tryz.ntmps150
  go_wp2
  refine bodyPost_ret (v := .agg #[.string r.name, .int .i64 r.ty, .int .i64 r.ttl, .int .i64 r.n, .string r.host, .string r.text]) (by simp [results, Tryz.results150, go_sem]) rfl ⟨rfl, ?_⟩
  repeat (first | exact Below.refl _ _ | refine Below.setCell ?_ (by simp; try omega) _ | refine Below.alloc ?_ (by simp; try omega) _)

theorem step_list (l : List Rec) (k n : Nat) (hn : l.length = n) (hk : k < n) (h : k < l.length) : (l.take k ++ List.replicate (n - k) zr).set k l[k] = l.take (k + 1) ++ List.replicate (n - (k + 1)) zr := by
  rw [List.set_append_right _ _ (by simp; omega)]
  have h1 : k - (l.take k).length = 0 := by simp; omega
  rw [h1, show n - k = (n - (k + 1)) + 1 by omega, List.replicate_succ, List.set_cons_zero, List.take_succ_eq_append_getElem h, List.append_assoc]
  rfl

set_option maxHeartbeats 1000000 in
theorem toRecordS_any (A : Option Addr) (n c : Nat) (l : List Rec) (w : World) (hs : Sr w w.heap.size A n l) (hn : n ≤ 400000000) :
    Calls Tryz.prog 104 #[.slice A n c] w fun e w' => e = .returned (.slice (some ⟨w.heap.size, 0, none⟩) n n) ∧ Bk w' w.heap.size 117 (fl l) ∧ Below w.heap.size w w' := by
  obtain ⟨i0, hi, hz0, hz1, hz2⟩ := info_parts info
  have HS := Lib.hid hs
  clear hs
  go_enter Tryz.func104, Tryz.ntmps104
  go_wp2_with (at_make; refine wpList_make_full _ rfl _ _ 26 rfl w.heap.size 117 i0 _ 6 Tryz.underlying26 hi hz0 hz1 .i64 .i64 _ _ n rfl rfl ?c0 ?c1 ?c2 ?c3 ?c4 ?_)
  case c0 => rfl
  case c1 => rfl
  case c2 => rw [hz2]; omega
  case c3 => unfold maxLen; omega
  case c4 => exact Nat.le_refl _
  intro w1 hown hgrow
  obtain ⟨r, hb0, hlen0, _, _⟩ := bk_of_owns6 hown
  rw [made_fl] at hb0 hlen0
  have hr : r = [] := by
    have : (fl (List.replicate n zr)).length + r.length = n * 6 := by rw [← List.length_append]; exact hlen0
    rw [fl_len] at this
    simp at this; exact this
  subst hr
  rw [List.append_nil] at hb0
  have HL0 := Lib.hid ((Below.refl w.heap.size w).grown hgrow (Nat.le_refl _) (fun k hk => by cases hk))
  have HB0 := Lib.hid hb0
  clear hb0 hown hgrow hlen0
  go_wp2
  go_loopw [4] (fun i wr => ∃ k : Nat, k ≤ n ∧ i = .int .i64 k ∧ Hid (Bk wr w.heap.size 117 (fl (l.take k ++ List.replicate (n - k) zr))) ∧ Hid (Below w.heap.size w wr)) (fun i _ => n - (intOf i).toNat)
  case atStart => exact ⟨0, Nat.zero_le _, rfl, by simpa [Hid] using HB0.out, HL0.out⟩
  case round =>
    clear HB0 HL0
    obtain ⟨k, hk, rfl, HB, HL⟩ := hrel
    by_cases hlt : k < n
    · obtain ⟨b, off, rfl, hbB, hcs⟩ := HS.out.2 (by omega)
      have hkl : k < l.length := by rw [HS.out.1]; exact hlt
      obtain ⟨e0, e1, e2, e3, e4, e5⟩ := (hcs k hkl).below HL.out hbB
      have HK := Lib.hid (step_list l k n HS.out.1 hlt hkl)
      clear hcs
      generalize l[k] = r at *
      go_wp2_with fail
      refine (toRecord_any r wr).mono ?_
      rintro e w2 ⟨rfl, hl⟩
      have hkk : k < (l.take k ++ List.replicate (n - k) zr).length := by simp; omega
      have B2 := Lib.hid (HB.out.below hl HB.out.lt)
      have L2 := Lib.hid (HL.out.trans (hl.mono HL.out.size))
      clear hl e0 e1 e2 e3 e4 e5 HB HL
      have z : ∀ j, j < n * 6 → (w2.cell? ⟨w.heap.size, j, none⟩).isSome = true := fun j hj => by
        rw [B2.out.cell, List.getElem?_eq_getElem (by rw [fl_len]; simp; have := HS.out.1; omega)]; rfl
      obtain ⟨u0, z0⟩ := Option.isSome_iff_exists.1 (z (k * 6) (by omega))
      obtain ⟨u1, z1⟩ := Option.isSome_iff_exists.1 (z (k * 6 + 1) (by omega))
      obtain ⟨u2, z2⟩ := Option.isSome_iff_exists.1 (z (k * 6 + 2) (by omega))
      obtain ⟨u3, z3⟩ := Option.isSome_iff_exists.1 (z (k * 6 + 3) (by omega))
      obtain ⟨u4, z4⟩ := Option.isSome_iff_exists.1 (z (k * 6 + 4) (by omega))
      obtain ⟨u5, z5⟩ := Option.isSome_iff_exists.1 (z (k * 6 + 5) (by omega))
      have f0 := B2.out.free (k * 6)
      have f1 := B2.out.free (k * 6 + 1)
      have f2 := B2.out.free (k * 6 + 2)
      have f3 := B2.out.free (k * 6 + 3)
      have f4 := B2.out.free (k * 6 + 4)
      have f5 := B2.out.free (k * 6 + 5)
      clear z
      go_wp2
      go_roundw
      case rel =>
        refine ⟨k + 1, by omega, by go_num, ?_, ?_⟩
        · show Bk _ _ _ _
          have h6 := (((((B2.out.set (k * 6) (.string r.name)).set (k * 6 + 1) (.int .i64 r.ty)).set (k * 6 + 2) (.int .i64 r.ttl)).set (k * 6 + 3) (.int .i64 r.n)).set (k * 6 + 4) (.string r.host)).set (k * 6 + 5) (.string r.text)
          rw [fl_put _ k r hkk, HK.out] at h6
          exact h6
        · show Below _ _ _
          exact (((((L2.out.setCell (Nat.le_refl _) _).setCell (Nat.le_refl _) _).setCell (Nat.le_refl _) _).setCell (Nat.le_refl _) _).setCell (Nat.le_refl _) _).setCell (Nat.le_refl _) _
      case measure => simp [intOf]; omega
    · have hkn : k = n := by omega
      subst hkn
      go_wp2
      go_ret
      refine ⟨rfl, ?_, HL.out⟩
      have := HB.out
      rw [List.take_of_length_le (by rw [HS.out.1]; omega)] at this
      simpa using this

end Go.Proofs.YtkfibepejlgniaaGreatDoor.CopyR

/- What the law's own helpers toQuest and toMsg do: the same question; the same message with new slices of the same records. Condition: fewer than 400000001 records in each section. -/
namespace Go.Proofs.YtkfibepejlgniaaGreatDoor.ToM
open Go.RowKit Go.Proofs.YtkfibepejlgniaaGreatDoor.Mem Go.Proofs.YtkfibepejlgniaaGreatDoor.MemR Go.Proofs.YtkfibepejlgniaaGreatDoor.BoxR Go.Proofs.YtkfibepejlgniaaGreatDoor.MemM Go.Proofs.YtkfibepejlgniaaGreatDoor.CopyR Go.Proofs.YtkfibepejlgniaaGreatDoor.ResM

set_option maxHeartbeats 1000000 in
theorem toQuest_any (s : ByteArray) (n : Int) (w : World) : Calls Tryz.prog 103 #[.agg #[.string s, .int .i64 n]] w fun e w' => e = .returned (.agg #[.string s, .int .i64 n]) ∧ Below w.heap.size w w' := by
  go_enter Tryz.func103, Tryz.ntmps103
  go_wp2
  refine bodyPost_ret (v := .agg #[.string s, .int .i64 n]) (by simp [results, Tryz.results103, go_sem]) rfl ⟨rfl, ?_⟩
  repeat (first | exact Below.refl _ _ | refine Below.setCell ?_ (by simp; try omega) _ | refine Below.alloc ?_ (by simp; try omega) _)

theorem toRecordS_g (A : Option Addr) (n c : Nat) (l : List Rec) (w : World) (hs : Sr w w.heap.size A n l) (hn : n ≤ 400000000) :
    Calls Tryz.prog 104 #[.slice A n c] w fun e w' => ∃ g, e = .returned (.slice (some ⟨g, 0, none⟩) n n) ∧ Bk w' g 117 (fl l) ∧ w.heap.size ≤ g ∧ Below w.heap.size w w' :=
  (toRecordS_any A n c l w hs hn).mono fun _ _ ⟨h1, h2, h3⟩ => ⟨_, h1, h2, Nat.le_refl _, h3⟩

set_option maxRecDepth 100000 in
set_option maxHeartbeats 4000000 in
theorem toMsg_any (h : Hd) (A1 : Option Addr) (n1 c1 : Nat) (l1 : List Rec) (A2 : Option Addr) (n2 c2 : Nat) (l2 : List Rec) (A3 : Option Addr) (n3 c3 : Nat) (l3 : List Rec) (w : World)
    (s1 : Sr w w.heap.size A1 n1 l1) (m1 : n1 ≤ 400000000) (s2 : Sr w w.heap.size A2 n2 l2) (m2 : n2 ≤ 400000000) (s3 : Sr w w.heap.size A3 n3 l3) (m3 : n3 ≤ 400000000) :
    Calls Tryz.prog 44 #[.agg #[.int .i64 h.id, .bool h.rp, .bool h.au, .bool h.ct, .bool h.wa, .bool h.ca, .int .i64 h.code, .string h.qn, .int .i64 h.qt, .slice A1 n1 c1, .slice A2 n2 c2, .slice A3 n3 c3]] w (GivesM w h n1 n2 n3 l1 l2 l3) := by
  have S0 := Lib.hid s1
  have T0 := Lib.hid s2
  have U0 := Lib.hid s3
  clear s1 s2 s3
  have P0 := Lib.hid (((mx_new w 56 h (.slice A1 n1 c1) (.slice A2 n2 c2) (.slice A3 n3 c3)).alloc (.cells #[.int .i64 0, .bool false, .bool false, .bool false, .bool false, .bool false, .int .i64 0, .string ⟨#[]⟩, .int .i64 0, .slice none 0 0, .slice none 0 0, .slice none 0 0] 28)).alloc (.cells #[.int .i64 h.id, .bool h.rp, .bool h.au, .bool h.ct, .bool h.wa, .bool h.ca, .int .i64 h.code, .string ⟨#[]⟩, .int .i64 0, .slice none 0 0, .slice none 0 0, .slice none 0 0] 28))
  have R0 := Lib.hid ((at2 (w := w) (a := .cells #[.int .i64 h.id, .bool h.rp, .bool h.au, .bool h.ct, .bool h.wa, .bool h.ca, .int .i64 h.code, .string h.qn, .int .i64 h.qt, .slice A1 n1 c1, .slice A2 n2 c2, .slice A3 n3 c3] 56) (cs := #[.int .i64 0, .bool false, .bool false, .bool false, .bool false, .bool false, .int .i64 0, .string ⟨#[]⟩, .int .i64 0, .slice none 0 0, .slice none 0 0, .slice none 0 0]) (t := 28)).alloc (.cells #[.int .i64 h.id, .bool h.rp, .bool h.au, .bool h.ct, .bool h.wa, .bool h.ca, .int .i64 h.code, .string ⟨#[]⟩, .int .i64 0, .slice none 0 0, .slice none 0 0, .slice none 0 0] 28))
  have O0 := Lib.hid (at3 (w := w) (a := .cells #[.int .i64 h.id, .bool h.rp, .bool h.au, .bool h.ct, .bool h.wa, .bool h.ca, .int .i64 h.code, .string h.qn, .int .i64 h.qt, .slice A1 n1 c1, .slice A2 n2 c2, .slice A3 n3 c3] 56) (b := .cells #[.int .i64 0, .bool false, .bool false, .bool false, .bool false, .bool false, .int .i64 0, .string ⟨#[]⟩, .int .i64 0, .slice none 0 0, .slice none 0 0, .slice none 0 0] 28) (cs := #[.int .i64 h.id, .bool h.rp, .bool h.au, .bool h.ct, .bool h.wa, .bool h.ca, .int .i64 h.code, .string ⟨#[]⟩, .int .i64 0, .slice none 0 0, .slice none 0 0, .slice none 0 0]) (t := 28))
  have L0 := Lib.hid ((((Below.refl w.heap.size w).alloc (Nat.le_refl _) (.cells #[.int .i64 h.id, .bool h.rp, .bool h.au, .bool h.ct, .bool h.wa, .bool h.ca, .int .i64 h.code, .string h.qn, .int .i64 h.qt, .slice A1 n1 c1, .slice A2 n2 c2, .slice A3 n3 c3] 56)).alloc (by simp) (.cells #[.int .i64 0, .bool false, .bool false, .bool false, .bool false, .bool false, .int .i64 0, .string ⟨#[]⟩, .int .i64 0, .slice none 0 0, .slice none 0 0, .slice none 0 0] 28)).alloc (by simp; omega) (.cells #[.int .i64 h.id, .bool h.rp, .bool h.au, .bool h.ct, .bool h.wa, .bool h.ca, .int .i64 h.code, .string ⟨#[]⟩, .int .i64 0, .slice none 0 0, .slice none 0 0, .slice none 0 0] 28))
  go_enter Tryz.func44, Tryz.ntmps44
  go_wp2_with fail
  refine (toQuest_any h.qn h.qt _).mono ?_
  rintro e w1 ⟨rfl, hl⟩
  have P1 := Lib.hid (P0.out.below hl)
  have R1 := Lib.hid (R0.out.below hl R0.out.lt)
  have O1 := Lib.hid (O0.out.below hl O0.out.lt)
  have L1 := Lib.hid (L0.out.trans (hl.mono L0.out.size))
  clear hl P0 R0 O0 L0
  have z7 : w1.cell? ⟨w.heap.size + 1 + 1, 7, none⟩ = some (.string ⟨#[]⟩) := O1.out.cell 7
  have z8 : w1.cell? ⟨w.heap.size + 1 + 1, 8, none⟩ = some (.int .i64 0) := O1.out.cell 8
  have f7 := O1.out.free 7
  have f8 := O1.out.free 8
  have O2 := Lib.hid ((O1.out.set 7 (.string h.qn)).set 8 (.int .i64 h.qt))
  have R2 := Lib.hid ((R1.out.other (p := ⟨w.heap.size + 1 + 1, 7, none⟩) (by simp) (.string h.qn)).other (p := ⟨w.heap.size + 1 + 1, 8, none⟩) (by simp) (.int .i64 h.qt))
  have L2 := Lib.hid ((L1.out.setCell (p := ⟨w.heap.size + 1 + 1, 7, none⟩) (by simp; omega) (.string h.qn)).setCell (p := ⟨w.heap.size + 1 + 1, 8, none⟩) (by simp; omega) (.int .i64 h.qt))
  have P2 := Lib.hid (P1.out.set2 (p := ⟨w.heap.size + 1 + 1, 7, none⟩) (q := ⟨w.heap.size + 1 + 1, 8, none⟩) (show w.heap.size ≠ w.heap.size + 1 + 1 by omega) (show w.heap.size ≠ w.heap.size + 1 + 1 by omega) (.string h.qn) (.int .i64 h.qt))
  obtain ⟨x0, x1, x2, x3, x4, x5, x6, x7, x8, x9, x10, x11⟩ := P1.out
  go_wp2_with fail
  refine (toRecordS_g A1 n1 c1 l1 _ (S0.out.on L2.out) m1).mono ?_
  rintro e w3 ⟨g1, rfl, hb, hg, hl⟩
  have Ng1 : Hid (w.heap.size + 1 + 1 < g1) := Nat.lt_of_lt_of_le O2.out.lt hg
  have Bg13 := Lib.hid hb
  have P3 := Lib.hid (P2.out.below hl)
  have R3 := Lib.hid (R2.out.below hl R2.out.lt)
  have O3 := Lib.hid (O2.out.below hl O2.out.lt)
  have L3 := Lib.hid (L2.out.trans (hl.mono L2.out.size))
  clear hb hg hl P2 R2 O2 L2 x0 x1 x2 x3 x4 x5 x6 x7 x8 x9 x10 x11 z7 z8 f7 f8  P1 R1 O1 L1
  have z9 : w3.cell? ⟨w.heap.size + 1 + 1, 9, none⟩ = some (.slice none 0 0) := O3.out.cell 9
  have f9 := O3.out.free 9
  have O4 := Lib.hid (O3.out.set 9 (.slice (some ⟨g1, 0, none⟩) n1 n1))
  have R4 := Lib.hid (R3.out.other (p := ⟨w.heap.size + 1 + 1, 9, none⟩) (by simp) (.slice (some ⟨g1, 0, none⟩) n1 n1))
  have L4 := Lib.hid (L3.out.setCell (p := ⟨w.heap.size + 1 + 1, 9, none⟩) (by simp; omega) (.slice (some ⟨g1, 0, none⟩) n1 n1))
  have P4 := Lib.hid (P3.out.set1 (p := ⟨w.heap.size + 1 + 1, 9, none⟩) (show w.heap.size ≠ w.heap.size + 1 + 1 by omega) (.slice (some ⟨g1, 0, none⟩) n1 n1))
  have Bg14 := Lib.hid (Bg13.out.other (p := ⟨w.heap.size + 1 + 1, 9, none⟩) (Nat.ne_of_gt Ng1.out) (.slice (some ⟨g1, 0, none⟩) n1 n1))
  obtain ⟨x0, x1, x2, x3, x4, x5, x6, x7, x8, x9, x10, x11⟩ := P3.out
  go_wp2_with fail
  refine (toRecordS_g A2 n2 c2 l2 _ (T0.out.on L4.out) m2).mono ?_
  rintro e w5 ⟨g2, rfl, hb, hg, hl⟩
  have Ng2 : Hid (w.heap.size + 1 + 1 < g2) := Nat.lt_of_lt_of_le O4.out.lt hg
  have Bg25 := Lib.hid hb
  have Qg1g2 := Lib.hid (Nat.lt_of_lt_of_le Bg14.out.lt hg)
  have Bg15 := Lib.hid (Bg14.out.below hl Bg14.out.lt)
  have P5 := Lib.hid (P4.out.below hl)
  have R5 := Lib.hid (R4.out.below hl R4.out.lt)
  have O5 := Lib.hid (O4.out.below hl O4.out.lt)
  have L5 := Lib.hid (L4.out.trans (hl.mono L4.out.size))
  clear hb hg hl P4 R4 O4 L4 x0 x1 x2 x3 x4 x5 x6 x7 x8 x9 x10 x11 z9 f9 Bg14 P3 R3 O3 L3 Bg13
  have z10 : w5.cell? ⟨w.heap.size + 1 + 1, 10, none⟩ = some (.slice none 0 0) := O5.out.cell 10
  have f10 := O5.out.free 10
  have O6 := Lib.hid (O5.out.set 10 (.slice (some ⟨g2, 0, none⟩) n2 n2))
  have R6 := Lib.hid (R5.out.other (p := ⟨w.heap.size + 1 + 1, 10, none⟩) (by simp) (.slice (some ⟨g2, 0, none⟩) n2 n2))
  have L6 := Lib.hid (L5.out.setCell (p := ⟨w.heap.size + 1 + 1, 10, none⟩) (by simp; omega) (.slice (some ⟨g2, 0, none⟩) n2 n2))
  have P6 := Lib.hid (P5.out.set1 (p := ⟨w.heap.size + 1 + 1, 10, none⟩) (show w.heap.size ≠ w.heap.size + 1 + 1 by omega) (.slice (some ⟨g2, 0, none⟩) n2 n2))
  have Bg16 := Lib.hid (Bg15.out.other (p := ⟨w.heap.size + 1 + 1, 10, none⟩) (Nat.ne_of_gt Ng1.out) (.slice (some ⟨g2, 0, none⟩) n2 n2))
  have Bg26 := Lib.hid (Bg25.out.other (p := ⟨w.heap.size + 1 + 1, 10, none⟩) (Nat.ne_of_gt Ng2.out) (.slice (some ⟨g2, 0, none⟩) n2 n2))
  obtain ⟨x0, x1, x2, x3, x4, x5, x6, x7, x8, x9, x10, x11⟩ := P5.out
  go_wp2_with fail
  refine (toRecordS_g A3 n3 c3 l3 _ (U0.out.on L6.out) m3).mono ?_
  rintro e w7 ⟨g3, rfl, hb, hg, hl⟩
  have Ng3 : Hid (w.heap.size + 1 + 1 < g3) := Nat.lt_of_lt_of_le O6.out.lt hg
  have Bg37 := Lib.hid hb
  have Qg1g3 := Lib.hid (Nat.lt_of_lt_of_le Bg16.out.lt hg)
  have Qg2g3 := Lib.hid (Nat.lt_of_lt_of_le Bg26.out.lt hg)
  have Bg17 := Lib.hid (Bg16.out.below hl Bg16.out.lt)
  have Bg27 := Lib.hid (Bg26.out.below hl Bg26.out.lt)
  have P7 := Lib.hid (P6.out.below hl)
  have R7 := Lib.hid (R6.out.below hl R6.out.lt)
  have O7 := Lib.hid (O6.out.below hl O6.out.lt)
  have L7 := Lib.hid (L6.out.trans (hl.mono L6.out.size))
  clear hb hg hl P6 R6 O6 L6 x0 x1 x2 x3 x4 x5 x6 x7 x8 x9 x10 x11 z10 f10 Bg16 Bg26 P5 R5 O5 L5 Bg15 Bg25
  have z11 : w7.cell? ⟨w.heap.size + 1 + 1, 11, none⟩ = some (.slice none 0 0) := O7.out.cell 11
  have f11 := O7.out.free 11
  have O8 := Lib.hid (O7.out.set 11 (.slice (some ⟨g3, 0, none⟩) n3 n3))
  have R8 := Lib.hid (R7.out.other (p := ⟨w.heap.size + 1 + 1, 11, none⟩) (by simp) (.slice (some ⟨g3, 0, none⟩) n3 n3))
  have L8 := Lib.hid (L7.out.setCell (p := ⟨w.heap.size + 1 + 1, 11, none⟩) (by simp; omega) (.slice (some ⟨g3, 0, none⟩) n3 n3))
  have P8 := Lib.hid (P7.out.set1 (p := ⟨w.heap.size + 1 + 1, 11, none⟩) (show w.heap.size ≠ w.heap.size + 1 + 1 by omega) (.slice (some ⟨g3, 0, none⟩) n3 n3))
  have Bg18 := Lib.hid (Bg17.out.other (p := ⟨w.heap.size + 1 + 1, 11, none⟩) (Nat.ne_of_gt Ng1.out) (.slice (some ⟨g3, 0, none⟩) n3 n3))
  have Bg28 := Lib.hid (Bg27.out.other (p := ⟨w.heap.size + 1 + 1, 11, none⟩) (Nat.ne_of_gt Ng2.out) (.slice (some ⟨g3, 0, none⟩) n3 n3))
  have Bg38 := Lib.hid (Bg37.out.other (p := ⟨w.heap.size + 1 + 1, 11, none⟩) (Nat.ne_of_gt Ng3.out) (.slice (some ⟨g3, 0, none⟩) n3 n3))
  obtain ⟨x0, x1, x2, x3, x4, x5, x6, x7, x8, x9, x10, x11⟩ := P7.out
  have o0 : w7.cell? ⟨w.heap.size + 1 + 1, 0, none⟩ = some (.int .i64 h.id) := O7.out.cell 0
  have o1 : w7.cell? ⟨w.heap.size + 1 + 1, 1, none⟩ = some (.bool h.rp) := O7.out.cell 1
  have o2 : w7.cell? ⟨w.heap.size + 1 + 1, 2, none⟩ = some (.bool h.au) := O7.out.cell 2
  have o3 : w7.cell? ⟨w.heap.size + 1 + 1, 3, none⟩ = some (.bool h.ct) := O7.out.cell 3
  have o4 : w7.cell? ⟨w.heap.size + 1 + 1, 4, none⟩ = some (.bool h.wa) := O7.out.cell 4
  have o5 : w7.cell? ⟨w.heap.size + 1 + 1, 5, none⟩ = some (.bool h.ca) := O7.out.cell 5
  have o6 : w7.cell? ⟨w.heap.size + 1 + 1, 6, none⟩ = some (.int .i64 h.code) := O7.out.cell 6
  have o7 : w7.cell? ⟨w.heap.size + 1 + 1, 7, none⟩ = some (.string h.qn) := O7.out.cell 7
  have o8 : w7.cell? ⟨w.heap.size + 1 + 1, 8, none⟩ = some (.int .i64 h.qt) := O7.out.cell 8
  have o9 : w7.cell? ⟨w.heap.size + 1 + 1, 9, none⟩ = some (.slice (some ⟨g1, 0, none⟩) n1 n1) := O7.out.cell 9
  have o10 : w7.cell? ⟨w.heap.size + 1 + 1, 10, none⟩ = some (.slice (some ⟨g2, 0, none⟩) n2 n2) := O7.out.cell 10
  have r0 : w7.cell? ⟨w.heap.size + 1, 0, none⟩ = some (.int .i64 0) := R7.out.cell 0
  have q0 := R7.out.free 0
  have r1 : w7.cell? ⟨w.heap.size + 1, 1, none⟩ = some (.bool false) := R7.out.cell 1
  have q1 := R7.out.free 1
  have r2 : w7.cell? ⟨w.heap.size + 1, 2, none⟩ = some (.bool false) := R7.out.cell 2
  have q2 := R7.out.free 2
  have r3 : w7.cell? ⟨w.heap.size + 1, 3, none⟩ = some (.bool false) := R7.out.cell 3
  have q3 := R7.out.free 3
  have r4 : w7.cell? ⟨w.heap.size + 1, 4, none⟩ = some (.bool false) := R7.out.cell 4
  have q4 := R7.out.free 4
  have r5 : w7.cell? ⟨w.heap.size + 1, 5, none⟩ = some (.bool false) := R7.out.cell 5
  have q5 := R7.out.free 5
  have r6 : w7.cell? ⟨w.heap.size + 1, 6, none⟩ = some (.int .i64 0) := R7.out.cell 6
  have q6 := R7.out.free 6
  have r7 : w7.cell? ⟨w.heap.size + 1, 7, none⟩ = some (.string ⟨#[]⟩) := R7.out.cell 7
  have q7 := R7.out.free 7
  have r8 : w7.cell? ⟨w.heap.size + 1, 8, none⟩ = some (.int .i64 0) := R7.out.cell 8
  have q8 := R7.out.free 8
  have r9 : w7.cell? ⟨w.heap.size + 1, 9, none⟩ = some (.slice none 0 0) := R7.out.cell 9
  have q9 := R7.out.free 9
  have r10 : w7.cell? ⟨w.heap.size + 1, 10, none⟩ = some (.slice none 0 0) := R7.out.cell 10
  have q10 := R7.out.free 10
  have r11 : w7.cell? ⟨w.heap.size + 1, 11, none⟩ = some (.slice none 0 0) := R7.out.cell 11
  have q11 := R7.out.free 11
  have F := Lib.hid (filM_bk (h0 := zh) (x0 := .slice none 0 0) (y0 := .slice none 0 0) (z0 := .slice none 0 0) R8.out h (.slice (some ⟨g1, 0, none⟩) n1 n1) (.slice (some ⟨g2, 0, none⟩) n2 n2) (.slice (some ⟨g3, 0, none⟩) n3 n3))
  have E := Lib.hid (filM_below L8.out (g := w.heap.size + 1) (by omega) h (.slice (some ⟨g1, 0, none⟩) n1 n1) (.slice (some ⟨g2, 0, none⟩) n2 n2) (.slice (some ⟨g3, 0, none⟩) n3 n3))
  have I1 := Lib.hid (filM_other Bg18.out (g := w.heap.size + 1) (by have := Ng1.out; omega) h (.slice (some ⟨g1, 0, none⟩) n1 n1) (.slice (some ⟨g2, 0, none⟩) n2 n2) (.slice (some ⟨g3, 0, none⟩) n3 n3))
  have I2 := Lib.hid (filM_other Bg28.out (g := w.heap.size + 1) (by have := Ng2.out; omega) h (.slice (some ⟨g1, 0, none⟩) n1 n1) (.slice (some ⟨g2, 0, none⟩) n2 n2) (.slice (some ⟨g3, 0, none⟩) n3 n3))
  have I3 := Lib.hid (filM_other Bg38.out (g := w.heap.size + 1) (by have := Ng3.out; omega) h (.slice (some ⟨g1, 0, none⟩) n1 n1) (.slice (some ⟨g2, 0, none⟩) n2 n2) (.slice (some ⟨g3, 0, none⟩) n3 n3))
  go_wp2
  refine bodyPost_ret (v := .agg #[.int .i64 h.id, .bool h.rp, .bool h.au, .bool h.ct, .bool h.wa, .bool h.ca, .int .i64 h.code, .string h.qn, .int .i64 h.qt, .slice (some ⟨g1, 0, none⟩) n1 n1, .slice (some ⟨g2, 0, none⟩) n2 n2, .slice (some ⟨g3, 0, none⟩) n3 n3]) (res1M rfl F.out rfl) rfl ⟨g1, n1, [], g2, n2, [], g3, n3, [], rfl, ?_, ?_, ?_, ?_, Qg1g2.out, Qg2g3.out, E.out⟩
  · rw [List.append_nil]; exact I1.out
  · rw [List.append_nil]; exact I2.out
  · rw [List.append_nil]; exact I3.out
  · have := Ng1.out; omega
end Go.Proofs.YtkfibepejlgniaaGreatDoor.ToM

/- What the law's own helpers eqRecord and eqRecordS do on records that are the same: they return true and turn nothing. Condition: fewer than 400000001 records. -/
namespace Go.Proofs.YtkfibepejlgniaaGreatDoor.EqR
open Go.RowKit Go.Proofs.YtkfibepejlgniaaGreatDoor.Mem Go.Proofs.YtkfibepejlgniaaGreatDoor.MemR

set_option maxHeartbeats 1000000 in
theorem eqRecord_same (r : Rec) (w : World) : Calls Tryz.prog 151 #[.agg #[.string r.name, .int .i64 r.ty, .int .i64 r.ttl, .int .i64 r.n, .string r.host, .string r.text], .agg #[.string r.name, .int .i64 r.ty, .int .i64 r.ttl, .int .i64 r.n, .string r.host, .string r.text]] w fun e w' => e = .returned (.bool true) ∧ Below w.heap.size w w' := by
  obtain ⟨name, ty, ttl, n, host, text⟩ := r
  simp only
  go_enter Tryz.func151, Tryz.ntmps151
  go_wp2
  go_ret
  exact ⟨rfl, ((Below.refl _ _).alloc (Nat.le_refl _) _).alloc (by simp) _⟩

set_option maxHeartbeats 1000000 in
theorem eqRecordS_same (A A' : Option Addr) (n c c' : Nat) (l : List Rec) (w : World) (hs : Sr w w.heap.size A n l) (hs' : Sr w w.heap.size A' n l) (hn : n ≤ 400000000) :
    Calls Tryz.prog 106 #[.slice A n c, .slice A' n c'] w fun e w' => e = .returned (.bool true) ∧ Below w.heap.size w w' := by
  have mixed : Tryz.prog.follows .mixedOrders = true := by kernel_rfl
  have hd : ((n : Int) != (n : Int)) = false := by simp
  have HS := Lib.hid hs
  have HT := Lib.hid hs'
  clear hs hs'
  go_enter Tryz.func106, Tryz.ntmps106
  go_wp2
  go_loopw [5] (fun i wr => ∃ k : Nat, k ≤ n ∧ i = .int .i64 k ∧ Hid (Below w.heap.size w wr)) (fun i _ => n - (intOf i).toNat)
  case atStart => exact ⟨0, Nat.zero_le _, rfl, Below.refl _ _⟩
  case round =>
    obtain ⟨k, hk, rfl, HL⟩ := hrel
    by_cases hlt : k < n
    · obtain ⟨b, off, rfl, hbB, hcs⟩ := HS.out.2 (by omega)
      obtain ⟨b', off', rfl, hbB', hcs'⟩ := HT.out.2 (by omega)
      have hkl : k < l.length := by rw [HS.out.1]; exact hlt
      have E := (hcs k hkl).below HL.out hbB
      have E' := (hcs' k hkl).below HL.out hbB'
      clear hcs hcs'
      generalize l[k] = r at *
      have x0 : ∀ d os, (Sort.grow (redrawn wr d) os).cell? _ = some _ := cell_regrown E.1
      have x1 : ∀ d os, (Sort.grow (redrawn wr d) os).cell? _ = some _ := cell_regrown E.2.1
      have x2 : ∀ d os, (Sort.grow (redrawn wr d) os).cell? _ = some _ := cell_regrown E.2.2.1
      have x3 : ∀ d os, (Sort.grow (redrawn wr d) os).cell? _ = some _ := cell_regrown E.2.2.2.1
      have x4 : ∀ d os, (Sort.grow (redrawn wr d) os).cell? _ = some _ := cell_regrown E.2.2.2.2.1
      have x5 : ∀ d os, (Sort.grow (redrawn wr d) os).cell? _ = some _ := cell_regrown E.2.2.2.2.2
      have y0 : ∀ d os, (Sort.grow (redrawn wr d) os).cell? _ = some _ := cell_regrown E'.1
      have y1 : ∀ d os, (Sort.grow (redrawn wr d) os).cell? _ = some _ := cell_regrown E'.2.1
      have y2 : ∀ d os, (Sort.grow (redrawn wr d) os).cell? _ = some _ := cell_regrown E'.2.2.1
      have y3 : ∀ d os, (Sort.grow (redrawn wr d) os).cell? _ = some _ := cell_regrown E'.2.2.2.1
      have y4 : ∀ d os, (Sort.grow (redrawn wr d) os).cell? _ = some _ := cell_regrown E'.2.2.2.2.1
      have y5 : ∀ d os, (Sort.grow (redrawn wr d) os).cell? _ = some _ := cell_regrown E'.2.2.2.2.2
      clear E E'
      go_wp2_with fail
      refine wp_region_quiet_below (by assumption) (by kernel_rfl) ?_
      repeat (quiet_step (first | (go_at_call 151; exact Calls.regrown_of (eqRecord_same _ _))))
      refine wpQuiet_nil ?_
      intro w2 hw2
      have L2 := Lib.hid (HL.out.trans ((show Below wr.heap.size wr w2 by obtain ⟨p, rfl⟩ := hw2; exact below_regrown _ _ _).mono HL.out.size))
      clear hw2 x0 x1 x2 x3 x4 x5 y0 y1 y2 y3 y4 y5
      go_wp2
      go_roundw
      case rel => exact ⟨k + 1, by omega, by go_num, L2.out⟩
      case measure => simp [intOf]; omega
    · go_wp2
      go_ret
      exact ⟨rfl, HL.out⟩

end Go.Proofs.YtkfibepejlgniaaGreatDoor.EqR

/- What the law's own helpers eqQuest and eqMsg do on messages that are the same: they return true and turn nothing. Condition: fewer than 400000001 records in each section. -/
namespace Go.Proofs.YtkfibepejlgniaaGreatDoor.EqM
open Go.RowKit Go.Proofs.YtkfibepejlgniaaGreatDoor.Mem Go.Proofs.YtkfibepejlgniaaGreatDoor.MemR Go.Proofs.YtkfibepejlgniaaGreatDoor.BoxR Go.Proofs.YtkfibepejlgniaaGreatDoor.MemM Go.Proofs.YtkfibepejlgniaaGreatDoor.EqR Go.Proofs.YtkfibepejlgniaaGreatDoor.ResM

set_option maxHeartbeats 1000000 in
theorem eqQuest_same (s : ByteArray) (n : Int) (w : World) : Calls Tryz.prog 105 #[.agg #[.string s, .int .i64 n], .agg #[.string s, .int .i64 n]] w fun e w' => e = .returned (.bool true) ∧ Below w.heap.size w w' := by
  go_enter Tryz.func105, Tryz.ntmps105
  go_wp2
  go_ret
  exact ⟨rfl, ((Below.refl _ _).alloc (Nat.le_refl _) _).alloc (by simp) _⟩

set_option maxHeartbeats 4000000 in
theorem eqMsg_same (h : Hd) (A1 A1' : Option Addr) (n1 c1 c1' : Nat) (l1 : List Rec) (A2 A2' : Option Addr) (n2 c2 c2' : Nat) (l2 : List Rec) (A3 A3' : Option Addr) (n3 c3 c3' : Nat) (l3 : List Rec) (w : World)
    (s1 : Sr w w.heap.size A1 n1 l1) (t1 : Sr w w.heap.size A1' n1 l1) (m1 : n1 ≤ 400000000) (s2 : Sr w w.heap.size A2 n2 l2) (t2 : Sr w w.heap.size A2' n2 l2) (m2 : n2 ≤ 400000000) (s3 : Sr w w.heap.size A3 n3 l3) (t3 : Sr w w.heap.size A3' n3 l3) (m3 : n3 ≤ 400000000) :
    Calls Tryz.prog 46 #[.agg #[.int .i64 h.id, .bool h.rp, .bool h.au, .bool h.ct, .bool h.wa, .bool h.ca, .int .i64 h.code, .string h.qn, .int .i64 h.qt, .slice A1 n1 c1, .slice A2 n2 c2, .slice A3 n3 c3], .agg #[.int .i64 h.id, .bool h.rp, .bool h.au, .bool h.ct, .bool h.wa, .bool h.ca, .int .i64 h.code, .string h.qn, .int .i64 h.qt, .slice A1' n1 c1', .slice A2' n2 c2', .slice A3' n3 c3']] w fun e w' => e = .returned (.bool true) ∧ Below w.heap.size w w' := by
  have L0 := Lib.hid (((Below.refl w.heap.size w).alloc (Nat.le_refl _) (.cells #[.int .i64 h.id, .bool h.rp, .bool h.au, .bool h.ct, .bool h.wa, .bool h.ca, .int .i64 h.code, .string h.qn, .int .i64 h.qt, .slice A1 n1 c1, .slice A2 n2 c2, .slice A3 n3 c3] 28)).alloc (by simp) (.cells #[.int .i64 h.id, .bool h.rp, .bool h.au, .bool h.ct, .bool h.wa, .bool h.ca, .int .i64 h.code, .string h.qn, .int .i64 h.qt, .slice A1' n1 c1', .slice A2' n2 c2', .slice A3' n3 c3'] 28))
  have X0 := Lib.hid ((mx_new w 28 h (.slice A1 n1 c1) (.slice A2 n2 c2) (.slice A3 n3 c3)).alloc (.cells #[.int .i64 h.id, .bool h.rp, .bool h.au, .bool h.ct, .bool h.wa, .bool h.ca, .int .i64 h.code, .string h.qn, .int .i64 h.qt, .slice A1' n1 c1', .slice A2' n2 c2', .slice A3' n3 c3'] 28))
  have Y0 := Lib.hid (mx_of (h := h) (x := .slice A1' n1 c1') (y := .slice A2' n2 c2') (z := .slice A3' n3 c3') (at2 (w := w) (a := .cells #[.int .i64 h.id, .bool h.rp, .bool h.au, .bool h.ct, .bool h.wa, .bool h.ca, .int .i64 h.code, .string h.qn, .int .i64 h.qt, .slice A1 n1 c1, .slice A2 n2 c2, .slice A3 n3 c3] 28) (cs := #[.int .i64 h.id, .bool h.rp, .bool h.au, .bool h.ct, .bool h.wa, .bool h.ca, .int .i64 h.code, .string h.qn, .int .i64 h.qt, .slice A1' n1 c1', .slice A2' n2 c2', .slice A3' n3 c3']) (t := 28)))
  have S0 := Lib.hid (s1.on L0.out)
  have T0 := Lib.hid (s2.on L0.out)
  have U0 := Lib.hid (s3.on L0.out)
  have I0 := Lib.hid (t1.on L0.out)
  have J0 := Lib.hid (t2.on L0.out)
  have K0 := Lib.hid (t3.on L0.out)
  clear s1 s2 s3 t1 t2 t3
  go_enter Tryz.func46, Tryz.ntmps46
  go_wp2_with fail
  refine (eqQuest_same h.qn h.qt _).mono ?_
  rintro e w1 ⟨rfl, hl⟩
  have L1 := Lib.hid (L0.out.trans (hl.mono L0.out.size))
  have X1 := Lib.hid (X0.out.below hl)
  have Y1 := Lib.hid (Y0.out.below hl)
  have S1 := Lib.hid (S0.out.on hl)
  have T1 := Lib.hid (T0.out.on hl)
  have U1 := Lib.hid (U0.out.on hl)
  have I1 := Lib.hid (I0.out.on hl)
  have J1 := Lib.hid (J0.out.on hl)
  have K1 := Lib.hid (K0.out.on hl)
  clear hl L0 X0 Y0 S0 T0 U0 I0 J0 K0 
  obtain ⟨x0, x1, x2, x3, x4, x5, x6, x7, x8, x9, x10, x11⟩ := X1.out
  obtain ⟨y0, y1, y2, y3, y4, y5, y6, y7, y8, y9, y10, y11⟩ := Y1.out
  go_wp2_with fail
  refine (eqRecordS_same A1 A1' n1 c1 c1' l1 w1 S1.out I1.out m1).mono ?_
  rintro e w2 ⟨rfl, hl⟩
  have L2 := Lib.hid (L1.out.trans (hl.mono L1.out.size))
  have X2 := Lib.hid (X1.out.below hl)
  have Y2 := Lib.hid (Y1.out.below hl)
  have T2 := Lib.hid (T1.out.on hl)
  have U2 := Lib.hid (U1.out.on hl)
  have J2 := Lib.hid (J1.out.on hl)
  have K2 := Lib.hid (K1.out.on hl)
  clear hl L1 X1 Y1 S1 T1 U1 I1 J1 K1 x0 x1 x2 x3 x4 x5 x6 x7 x8 x9 x10 x11 y0 y1 y2 y3 y4 y5 y6 y7 y8 y9 y10 y11
  obtain ⟨x0, x1, x2, x3, x4, x5, x6, x7, x8, x9, x10, x11⟩ := X2.out
  obtain ⟨y0, y1, y2, y3, y4, y5, y6, y7, y8, y9, y10, y11⟩ := Y2.out
  go_wp2_with fail
  refine (eqRecordS_same A2 A2' n2 c2 c2' l2 w2 T2.out J2.out m2).mono ?_
  rintro e w3 ⟨rfl, hl⟩
  have L3 := Lib.hid (L2.out.trans (hl.mono L2.out.size))
  have X3 := Lib.hid (X2.out.below hl)
  have Y3 := Lib.hid (Y2.out.below hl)
  have U3 := Lib.hid (U2.out.on hl)
  have K3 := Lib.hid (K2.out.on hl)
  clear hl L2 X2 Y2 T2 U2 J2 K2 x0 x1 x2 x3 x4 x5 x6 x7 x8 x9 x10 x11 y0 y1 y2 y3 y4 y5 y6 y7 y8 y9 y10 y11
  obtain ⟨x0, x1, x2, x3, x4, x5, x6, x7, x8, x9, x10, x11⟩ := X3.out
  obtain ⟨y0, y1, y2, y3, y4, y5, y6, y7, y8, y9, y10, y11⟩ := Y3.out
  go_wp2_with fail
  refine (eqRecordS_same A3 A3' n3 c3 c3' l3 w3 U3.out K3.out m3).mono ?_
  rintro e w4 ⟨rfl, hl⟩
  have L4 := Lib.hid (L3.out.trans (hl.mono L3.out.size))
  clear hl L3 X3 Y3 U3 K3 x0 x1 x2 x3 x4 x5 x6 x7 x8 x9 x10 x11 y0 y1 y2 y3 y4 y5 y6 y7 y8 y9 y10 y11
  go_wp2
  go_ret
  exact ⟨rfl, L4.out⟩
end Go.Proofs.YtkfibepejlgniaaGreatDoor.EqM
