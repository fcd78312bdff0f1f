/- What the program's PutData does: a new slice with the data of a valid record, an empty one for an invalid record. Conditions: at most 1048576 bytes in each text; the library's variable internal/bytealg.MaxLen holds an int. -/
import Derived.Test.YtcpadkehalgddaaGreatDoorDataS
namespace Go.Proofs.YtcpadkehalgddaaGreatDoor.DataP
open Go.RowKit Go.Proofs.YtcpadkehalgddaaGreatDoor.Mem Go.Proofs.YtcpadkehalgddaaGreatDoor.MemR Go.Proofs.YtcpadkehalgddaaGreatDoor.App Go.Proofs.YtcpadkehalgddaaGreatDoor.Put Go.Proofs.YtcpadkehalgddaaGreatDoor.PutLabel Go.Proofs.YtcpadkehalgddaaGreatDoor.BoxR Go.Proofs.YtcpadkehalgddaaGreatDoor.Labels Go.Proofs.YtcpadkehalgddaaGreatDoor.RecOk Go.Proofs.YtcpadkehalgddaaGreatDoor.Plain Go.Proofs.YtcpadkehalgddaaGreatDoor.FieldMath Go.Proofs.YtcpadkehalgddaaGreatDoor.DataS

set_option maxHeartbeats 1000000 in
theorem of_addr (r : Rec) (w : World) (h : r.ty = 1) : Calls Tryz.prog 36 #[.agg #[.string r.name, .int .i64 r.ty, .int .i64 r.ttl, .int .i64 r.n, .string r.host, .string r.text]] w fun e w' => e = .returned (.iface 92 (.int .i64 r.n)) ∧ Below w.heap.size w w' := by
  obtain ⟨name, ty, ttl, n, host, text⟩ := r
  obtain rfl : ty = 1 := h
  have L0 := Lib.hid ((Below.refl w.heap.size w).alloc (Nat.le_refl _) (.cells #[.string name, .int .i64 1, .int .i64 ttl, .int .i64 n, .string host, .string text] 25))
  dsimp only
  go_enter Tryz.func36, Tryz.ntmps36
  go_wp2
  go_ret
  exact ⟨rfl, L0.out⟩

set_option maxHeartbeats 1000000 in
theorem of_server (r : Rec) (w : World) (h : r.ty = 2) : Calls Tryz.prog 36 #[.agg #[.string r.name, .int .i64 r.ty, .int .i64 r.ttl, .int .i64 r.n, .string r.host, .string r.text]] w fun e w' => e = .returned (.iface 93 (.string r.host)) ∧ Below w.heap.size w w' := by
  obtain ⟨name, ty, ttl, n, host, text⟩ := r
  obtain rfl : ty = 2 := h
  have L0 := Lib.hid ((Below.refl w.heap.size w).alloc (Nat.le_refl _) (.cells #[.string name, .int .i64 2, .int .i64 ttl, .int .i64 n, .string host, .string text] 25))
  dsimp only
  go_enter Tryz.func36, Tryz.ntmps36
  go_wp2
  go_ret
  exact ⟨rfl, L0.out⟩

set_option maxHeartbeats 1000000 in
theorem of_alias (r : Rec) (w : World) (h : r.ty = 5) : Calls Tryz.prog 36 #[.agg #[.string r.name, .int .i64 r.ty, .int .i64 r.ttl, .int .i64 r.n, .string r.host, .string r.text]] w fun e w' => e = .returned (.iface 94 (.string r.host)) ∧ Below w.heap.size w w' := by
  obtain ⟨name, ty, ttl, n, host, text⟩ := r
  obtain rfl : ty = 5 := h
  have L0 := Lib.hid ((Below.refl w.heap.size w).alloc (Nat.le_refl _) (.cells #[.string name, .int .i64 5, .int .i64 ttl, .int .i64 n, .string host, .string text] 25))
  dsimp only
  go_enter Tryz.func36, Tryz.ntmps36
  go_wp2
  go_ret
  exact ⟨rfl, L0.out⟩

set_option maxHeartbeats 1000000 in
theorem of_start (r : Rec) (w : World) (h : r.ty = 6) : Calls Tryz.prog 36 #[.agg #[.string r.name, .int .i64 r.ty, .int .i64 r.ttl, .int .i64 r.n, .string r.host, .string r.text]] w fun e w' => e = .returned (.iface 96 (.agg #[.string r.host, .int .i64 r.n])) ∧ Below w.heap.size w w' := by
  obtain ⟨name, ty, ttl, n, host, text⟩ := r
  obtain rfl : ty = 6 := h
  have L0 := Lib.hid ((Below.refl w.heap.size w).alloc (Nat.le_refl _) (.cells #[.string name, .int .i64 6, .int .i64 ttl, .int .i64 n, .string host, .string text] 25))
  dsimp only
  go_enter Tryz.func36, Tryz.ntmps36
  go_wp2
  go_ret
  exact ⟨rfl, L0.out⟩

set_option maxHeartbeats 1000000 in
theorem of_text (r : Rec) (w : World) (h : r.ty = 16) : Calls Tryz.prog 36 #[.agg #[.string r.name, .int .i64 r.ty, .int .i64 r.ttl, .int .i64 r.n, .string r.host, .string r.text]] w fun e w' => e = .returned (.iface 97 (.string r.text)) ∧ Below w.heap.size w w' := by
  obtain ⟨name, ty, ttl, n, host, text⟩ := r
  obtain rfl : ty = 16 := h
  have L0 := Lib.hid ((Below.refl w.heap.size w).alloc (Nat.le_refl _) (.cells #[.string name, .int .i64 16, .int .i64 ttl, .int .i64 n, .string host, .string text] 25))
  dsimp only
  go_enter Tryz.func36, Tryz.ntmps36
  go_wp2
  go_ret
  exact ⟨rfl, L0.out⟩

set_option maxHeartbeats 1000000 in
theorem put_addr (n : Int) (w : World) : Calls Tryz.prog 148 #[.int .i64 n] w (Gives w (tail4 n)) := by
  have HP := Lib.hid (implPut4 none 0 0 [] n w Sl.nil (fun _ => ⟨rfl, rfl⟩) (by omega))
  go_enter Tryz.func148, Tryz.ntmps148
  go_wp2_with fail
  refine HP.out.mono ?_
  rintro e w1 ⟨g, m, c1, rr, rfl, hm, hle, hgg, hk, hl⟩
  have F := Lib.hid (show Gives w (tail4 n) (.returned (.slice (some ⟨g, 0, none⟩) m c1)) w1 from ⟨g, m, c1, rr, rfl, hm, hle, hgg, hk, hl⟩)
  clear hm hle hgg hk hl
  go_wp2
  go_ret
  exact F.out

set_option maxHeartbeats 1000000 in
theorem put_server (s : ByteArray) (w : World) (he : Env w) (hz : s.size ≤ 1048576) : Calls Tryz.prog 149 #[.string s] w (Gives w (tailP s)) := by
  have HP := Lib.hid (Plain.impl none 0 0 [] s w he Sl.nil (fun _ => ⟨rfl, rfl⟩) (by omega) (by omega))
  clear he
  go_enter Tryz.func149, Tryz.ntmps149
  go_wp2_with fail
  refine HP.out.mono ?_
  rintro e w1 ⟨g, m, c1, rr, rfl, hm, hle, hgg, hk, hl⟩
  have F := Lib.hid (show Gives w (tailP s) (.returned (.slice (some ⟨g, 0, none⟩) m c1)) w1 from ⟨g, m, c1, rr, rfl, hm, hle, hgg, hk, hl⟩)
  clear hm hle hgg hk hl
  go_wp2
  go_ret
  exact F.out

set_option maxHeartbeats 1000000 in
theorem put_alias (s : ByteArray) (w : World) (he : Env w) (hz : s.size ≤ 1048576) : Calls Tryz.prog 150 #[.string s] w (Gives w (tailP s)) := by
  have HP := Lib.hid (Plain.impl none 0 0 [] s w he Sl.nil (fun _ => ⟨rfl, rfl⟩) (by omega) (by omega))
  clear he
  go_enter Tryz.func150, Tryz.ntmps150
  go_wp2_with fail
  refine HP.out.mono ?_
  rintro e w1 ⟨g, m, c1, rr, rfl, hm, hle, hgg, hk, hl⟩
  have F := Lib.hid (show Gives w (tailP s) (.returned (.slice (some ⟨g, 0, none⟩) m c1)) w1 from ⟨g, m, c1, rr, rfl, hm, hle, hgg, hk, hl⟩)
  clear hm hle hgg hk hl
  go_wp2
  go_ret
  exact F.out

theorem kept2 {w w1 w2 : World} {g : Nat} {n : Int} {s : ByteArray} (h : (w1.cell? ⟨g, 0, none⟩ = some (.string s) ∧ w1.cell? ⟨g, 1, none⟩ = some (.int .i64 n)) ∧ Sv w w1) (hl : Below w1.heap.size w1 w2) : (w2.cell? ⟨g, 0, none⟩ = some (.string s) ∧ w2.cell? ⟨g, 1, none⟩ = some (.int .i64 n)) ∧ Sv w w2 := by
  have hg : g < w1.heap.size := World.block_lt_of_cell? _ _ h.1.1
  exact ⟨⟨(hl.cell (p := ⟨g, 0, none⟩) hg).trans h.1.1, (hl.cell (p := ⟨g, 1, none⟩) hg).trans h.1.2⟩, h.2.trans (hl.mono h.2.size)⟩
theorem kept2_draw {w w1 : World} {g : Nat} {n : Int} {s : ByteArray} (h : (w1.cell? ⟨g, 0, none⟩ = some (.string s) ∧ w1.cell? ⟨g, 1, none⟩ = some (.int .i64 n)) ∧ Sv w w1) : (w1.drew.cell? ⟨g, 0, none⟩ = some (.string s) ∧ w1.drew.cell? ⟨g, 1, none⟩ = some (.int .i64 n)) ∧ Sv w w1.drew := kept2 h ((Below.refl _ _).drew)

set_option maxHeartbeats 4000000 in
theorem put_start (s : ByteArray) (n : Int) (w : World) (he : Env w) (hz : s.size ≤ 1048576) : Calls Tryz.prog 151 #[.agg #[.string s, .int .i64 n]] w (Gives w (tailP s ++ tail4 n)) := by
  have HE := Lib.hid he
  clear he
  have B0 : Hid (Bk (w.alloc (.cells #[.string s, .int .i64 n] 96)) w.heap.size 96 [.string s, .int .i64 n]) := heap_alloc_new w _
  have x0 : (w.alloc (.cells #[.string s, .int .i64 n] 96)).cell? ⟨w.heap.size, 0, none⟩ = some (.string s) := by rw [B0.out.cell]; rfl
  have x1 : (w.alloc (.cells #[.string s, .int .i64 n] 96)).cell? ⟨w.heap.size, 1, none⟩ = some (.int .i64 n) := by rw [B0.out.cell]; rfl
  have S0 : ((w.alloc (.cells #[.string s, .int .i64 n] 96)).cell? ⟨w.heap.size, 0, none⟩ = some (.string s) ∧ (w.alloc (.cells #[.string s, .int .i64 n] 96)).cell? ⟨w.heap.size, 1, none⟩ = some (.int .i64 n)) ∧ Sv w (w.alloc (.cells #[.string s, .int .i64 n] 96)) := ⟨⟨x0, x1⟩, (Below.refl w.heap.size w).alloc (Nat.le_refl _) _⟩
  have PP : Hid (∀ (W : World), ((W.cell? ⟨w.heap.size, 0, none⟩ = some (.string s) ∧ W.cell? ⟨w.heap.size, 1, none⟩ = some (.int .i64 n)) ∧ Sv w W) → Calls Tryz.prog 68 #[.slice none 0 0, .string s] W (Gives W (tailP s))) := fun W hW => Plain.impl none 0 0 [] s W (HE.out.below hW.2) Sl.nil (fun _ => ⟨rfl, rfl⟩) (by omega) (by omega)
  have hlP := tailP_len s
  clear B0
  go_enter Tryz.func151, Tryz.ntmps151
  go_wp2
  clear x0 x1
  go_region_held3 (fun w' => (w'.cell? ⟨w.heap.size, 0, none⟩ = some (.string s) ∧ w'.cell? ⟨w.heap.size, 1, none⟩ = some (.int .i64 n)) ∧ Sv w w')
    (first | exact S0 | assumption | exact kept2 (by assumption) hl | exact kept2_draw (by assumption) | fail)
    (first
      | (go_at_call 68; refine (PP.out _ (by assumption)).mono ?_; rintro e w11 ⟨gp, mp, cp, rp, rfl, hm, -, hgp, hbp, hl⟩)
      | (go_at_call 35; refine (implPut4 (some ⟨gp, 0, none⟩) mp cp (tailP s) n w11 (hm ▸ (hbp.sl'.wider hbp.lt)) (fun h => by cases h) (by rw [← hm]; omega)).mono ?_; rintro e w12 ⟨g, m, c1, rr, rfl, hm2, hle, hgg, hk, hl⟩)
      | fail)
  rename_i hH
  have hgw : w.heap.size ≤ g := by
    have h2 := hgp
    have h3 := hbp.lt
    simp at h2
    omega
  have F := Lib.hid (show Gives w (tailP s ++ tail4 n) (.returned (.slice (some ⟨g, 0, none⟩) m c1)) w12 from ⟨g, m, c1, rr, rfl, hm2, hle, hgw, hk, hH.2⟩)
  clear hm hbp hm2 hle hgg hk hl hH hgw hgp S0
  go_wp2
  go_ret
  exact F.out

set_option maxHeartbeats 4000000 in
theorem put_text (s : ByteArray) (w : World) (hz : s.size ≤ 12) : Calls Tryz.prog 152 #[.string s] w (Gives w (one s.size ++ s.data.toList)) := by
  obtain ⟨i0, hi, hz0, hz1, hz2⟩ := info_parts Copy.info
  have ht1 : (s.size : Int) ≤ 12 := by omega
  have B1 : Hid (Bk (w.alloc (.cells #[.int .u8 (s.size : Int)] 5)) w.heap.size 5 ((one s.size).map bv ++ [])) := by
    show Bk _ _ _ _
    unfold Bk
    rw [List.append_nil, ← one_cells s.size (by omega), heap_alloc_new]
  have O1 := Lib.hid (owns_of_bk (base := w.heap.size) (n := 1) (cap := 1) B1.out (Nat.le_refl _) (one_len _) (by simp [one_len]) (by unfold maxLen; omega))
  go_enter Tryz.func152, Tryz.ntmps152
  go_wp2_with (at_builtin; refine append_str rfl (.tmp 6) (.tmp 7) 22 9 rfl w.heap.size 5 i0 Tryz.underlying22 Tryz.underlying9 hi hz0 hz1 hz2 w.heap.size 1 1 _ rfl O1.out s rfl ?e1 ?e2 ?e3 ?_)
  case e1 => omega
  case e2 => omega
  case e3 => simp
  intro g3 cap3 w3 hown hgrow
  rw [data_text] at hown
  have F := Lib.hid (gives_of_owns hown (((Below.refl w.heap.size w).alloc (Nat.le_refl _) (.cells #[.int .u8 (s.size : Int)] 5)).grown hgrow (by simp) (fun j hj => by cases hj; exact Nat.le_refl _)))
  clear hown hgrow
  go_wp2
  go_ret
  exact F.out

theorem meth_addr (n : Int) (w : World) : (method 265 92 (.int .i64 n) "loop.example/g00497/impl.put").run Tryz.prog w = .ok (148, .int .i64 n) w := by kernel_rfl
theorem meth_server (s : ByteArray) (w : World) : (method 265 93 (.string s) "loop.example/g00497/impl.put").run Tryz.prog w = .ok (149, .string s) w := by kernel_rfl
theorem meth_alias (s : ByteArray) (w : World) : (method 265 94 (.string s) "loop.example/g00497/impl.put").run Tryz.prog w = .ok (150, .string s) w := by kernel_rfl
theorem meth_start (s : ByteArray) (n : Int) (w : World) : (method 265 96 (.agg #[.string s, .int .i64 n]) "loop.example/g00497/impl.put").run Tryz.prog w = .ok (151, .agg #[.string s, .int .i64 n]) w := by kernel_rfl
theorem meth_text (s : ByteArray) (w : World) : (method 265 97 (.string s) "loop.example/g00497/impl.put").run Tryz.prog w = .ok (152, .string s) w := by kernel_rfl

set_option maxHeartbeats 1000000 in
theorem impl (r : Rec) (w : World) (he : Env w) (hr : Med r) : Calls Tryz.prog 9 #[.agg #[.string r.name, .int .i64 r.ty, .int .i64 r.ttl, .int .i64 r.n, .string r.host, .string r.text]] w (Gives w (dat r)) := by
  have HE := Lib.hid he
  clear he
  have B1 : r.host.size ≤ 1048576 := hr.2.1
  have RO := Lib.hid (fun w he => RecOk.impl r w he hr.mod)
  have TL := Lib.hid (fun h t => text_len (r := r) h t)
  have HY := Lib.hid (fun h => rok_ty (r := r) h)
  have HT := Lib.hid (show dat r = if rok r = true then dta r.ty r.n r.host r.text else [] from rfl)
  have X0 := Lib.hid (bx_new w 25 r)
  have L0 := Lib.hid ((Below.refl w.heap.size w).alloc (Nat.le_refl _) (.cells #[.string r.name, .int .i64 r.ty, .int .i64 r.ttl, .int .i64 r.n, .string r.host, .string r.text] 25))
  generalize dat r = D at *
  obtain ⟨u, hu⟩ : ∃ u, rok r = u := ⟨_, rfl⟩
  have HB := Lib.hid hu
  clear hu
  go_enter Tryz.func9, Tryz.ntmps9
  go_wp2_with fail
  refine (RO.out _ (HE.out.below L0.out)).mono ?_
  rw [HB.out]
  rintro e w1 ⟨rfl, hl⟩
  have L1 := Lib.hid (L0.out.trans (hl.mono L0.out.size))
  have X1 := Lib.hid (X0.out.below hl)
  clear hl L0 X0 RO
  cases u with
  | false =>
    go_wp2
    go_ret
    rw [HT.out, HB.out]
    exact gives_nil L1.out
  | true =>
    obtain ⟨x0, x1, x2, x3, x4, x5⟩ := X1.out
    rcases HY.out HB.out with h1 | h1 | h1 | h1 | h1
    · have H1 := Lib.hid h1
      clear h1
      have hm := meth_addr r.n
      go_wp2_with fail
      refine (of_addr r w1 H1.out).mono ?_
      rintro e w2 ⟨rfl, hl⟩
      have L2 := Lib.hid (L1.out.trans (hl.mono L1.out.size))
      have PU := Lib.hid (put_addr r.n w2)
      clear hl L1 x0 x1 x2 x3 x4 x5 X1
      go_wp2_with fail
      refine PU.out.mono ?_
      rintro e w3 ⟨g, m, c1, rr, rfl, hm1, hle, hgg, hk, hl⟩
      have HD : Hid (D = tail4 r.n) := by show _ = _; rw [HT.out, if_pos HB.out, H1.out, dta_1]
      have F := Lib.hid (show Gives w (tail4 r.n) (.returned (.slice (some ⟨g, 0, none⟩) m c1)) w3 from Gives.later ⟨g, m, c1, rr, rfl, hm1, hle, hgg, hk, hl⟩ L2.out)
      clear hm1 hle hgg hk hl
      go_wp2
      go_ret
      rw [HD.out]
      exact F.out
    · have H1 := Lib.hid h1
      clear h1
      have hm := meth_server r.host
      go_wp2_with fail
      refine (of_server r w1 H1.out).mono ?_
      rintro e w2 ⟨rfl, hl⟩
      have L2 := Lib.hid (L1.out.trans (hl.mono L1.out.size))
      have PU := Lib.hid (put_server r.host w2 (HE.out.below L2.out) B1)
      clear hl L1 x0 x1 x2 x3 x4 x5 X1
      go_wp2_with fail
      refine PU.out.mono ?_
      rintro e w3 ⟨g, m, c1, rr, rfl, hm1, hle, hgg, hk, hl⟩
      have HD : Hid (D = tailP r.host) := by show _ = _; rw [HT.out, if_pos HB.out, H1.out, dta_2]
      have F := Lib.hid (show Gives w (tailP r.host) (.returned (.slice (some ⟨g, 0, none⟩) m c1)) w3 from Gives.later ⟨g, m, c1, rr, rfl, hm1, hle, hgg, hk, hl⟩ L2.out)
      clear hm1 hle hgg hk hl
      go_wp2
      go_ret
      rw [HD.out]
      exact F.out
    · have H1 := Lib.hid h1
      clear h1
      have hm := meth_alias r.host
      go_wp2_with fail
      refine (of_alias r w1 H1.out).mono ?_
      rintro e w2 ⟨rfl, hl⟩
      have L2 := Lib.hid (L1.out.trans (hl.mono L1.out.size))
      have PU := Lib.hid (put_alias r.host w2 (HE.out.below L2.out) B1)
      clear hl L1 x0 x1 x2 x3 x4 x5 X1
      go_wp2_with fail
      refine PU.out.mono ?_
      rintro e w3 ⟨g, m, c1, rr, rfl, hm1, hle, hgg, hk, hl⟩
      have HD : Hid (D = tailP r.host) := by show _ = _; rw [HT.out, if_pos HB.out, H1.out, dta_5]
      have F := Lib.hid (show Gives w (tailP r.host) (.returned (.slice (some ⟨g, 0, none⟩) m c1)) w3 from Gives.later ⟨g, m, c1, rr, rfl, hm1, hle, hgg, hk, hl⟩ L2.out)
      clear hm1 hle hgg hk hl
      go_wp2
      go_ret
      rw [HD.out]
      exact F.out
    · have H1 := Lib.hid h1
      clear h1
      have hm := meth_start r.host r.n
      go_wp2_with fail
      refine (of_start r w1 H1.out).mono ?_
      rintro e w2 ⟨rfl, hl⟩
      have L2 := Lib.hid (L1.out.trans (hl.mono L1.out.size))
      have PU := Lib.hid (put_start r.host r.n w2 (HE.out.below L2.out) B1)
      clear hl L1 x0 x1 x2 x3 x4 x5 X1
      go_wp2_with fail
      refine PU.out.mono ?_
      rintro e w3 ⟨g, m, c1, rr, rfl, hm1, hle, hgg, hk, hl⟩
      have HD : Hid (D = tailP r.host ++ tail4 r.n) := by show _ = _; rw [HT.out, if_pos HB.out, H1.out, dta_6]
      have F := Lib.hid (show Gives w (tailP r.host ++ tail4 r.n) (.returned (.slice (some ⟨g, 0, none⟩) m c1)) w3 from Gives.later ⟨g, m, c1, rr, rfl, hm1, hle, hgg, hk, hl⟩ L2.out)
      clear hm1 hle hgg hk hl
      go_wp2
      go_ret
      rw [HD.out]
      exact F.out
    · have H1 := Lib.hid h1
      clear h1
      have hm := meth_text r.text
      go_wp2_with fail
      refine (of_text r w1 H1.out).mono ?_
      rintro e w2 ⟨rfl, hl⟩
      have L2 := Lib.hid (L1.out.trans (hl.mono L1.out.size))
      have PU := Lib.hid (put_text r.text w2 (TL.out HB.out H1.out))
      clear hl L1 x0 x1 x2 x3 x4 x5 X1
      go_wp2_with fail
      refine PU.out.mono ?_
      rintro e w3 ⟨g, m, c1, rr, rfl, hm1, hle, hgg, hk, hl⟩
      have HD : Hid (D = one r.text.size ++ r.text.data.toList) := by show _ = _; rw [HT.out, if_pos HB.out, H1.out, dta_16]
      have F := Lib.hid (show Gives w (one r.text.size ++ r.text.data.toList) (.returned (.slice (some ⟨g, 0, none⟩) m c1)) w3 from Gives.later ⟨g, m, c1, rr, rfl, hm1, hle, hgg, hk, hl⟩ L2.out)
      clear hm1 hle hgg hk hl
      go_wp2
      go_ret
      rw [HD.out]
      exact F.out

end Go.Proofs.YtcpadkehalgddaaGreatDoor.DataP
