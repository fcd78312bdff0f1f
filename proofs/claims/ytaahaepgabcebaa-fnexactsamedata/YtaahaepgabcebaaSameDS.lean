/- What SameData does in the model: whether each record of the one list stands in the other, but for its time to live. Condition: fewer than 400000001 records. -/
import Derived.Test.YtaahaepgabcebaaDataM
import Derived.Test.YtaahaepgabcebaaEqlR
import Derived.Deep.DeepCutAuto
namespace Go.Proofs.Ytaahaepgabcebaa.SameDS
open Go.RowKit Go.Proofs.Ytaahaepgabcebaa.Mem Go.Proofs.Ytaahaepgabcebaa.MemR Go.Proofs.Ytaahaepgabcebaa.Isin Go.Proofs.Ytaahaepgabcebaa.DataM

theorem sixB {w : World} {g : Nat} {r : Rec} (h : Bk w g 37 (rc r)) : w.cell? ⟨g, 0, none⟩ = some (.string r.name) ∧ w.cell? ⟨g, 0 + 1, none⟩ = some (.int .i64 r.ty) ∧ w.cell? ⟨g, 0 + 2, none⟩ = some (.int .i64 r.ttl) ∧ w.cell? ⟨g, 0 + 3, none⟩ = some (.int .i64 r.n) ∧ w.cell? ⟨g, 0 + 4, none⟩ = some (.string r.host) ∧ w.cell? ⟨g, 0 + 5, none⟩ = some (.string r.text) :=
  ⟨h.cell 0, h.cell 1, h.cell 2, h.cell 3, h.cell 4, h.cell 5⟩

set_option maxHeartbeats 4000000 in
theorem isIn (A : Option Addr) (n c : Nat) (l : List Rec) (r : Rec) (w : World) (hs : Sr w w.heap.size A n l) (hn : n ≤ 400000000) :
    Calls Try.prog 63 #[.slice A n c, .agg #[.string r.name, .int .i64 r.ty, .int .i64 r.ttl, .int .i64 r.n, .string r.host, .string r.text]] w fun e w' => e = .returned (.bool (isin (zs l) (zt r))) ∧ Below w.heap.size w w' := by
  have HS := Lib.hid hs
  have hg := EqlR.grd
  have R0 : Hid (Bk (w.alloc (.cells #[.string r.name, .int .i64 r.ty, .int .i64 r.ttl, .int .i64 r.n, .string r.host, .string r.text] 37)) w.heap.size 37 (rc r)) := heap_alloc_new w _
  have L0 : Hid (Below w.heap.size w (w.alloc (.cells #[.string r.name, .int .i64 r.ty, .int .i64 r.ttl, .int .i64 r.n, .string r.host, .string r.text] 37))) := (Below.refl w.heap.size w).alloc (Nat.le_refl _) _
  clear hs
  go_enter Try.func63, Try.ntmps63
  go_wp2
  generalize w.alloc (.cells #[.string r.name, .int .i64 r.ty, .int .i64 r.ttl, .int .i64 r.n, .string r.host, .string r.text] 37) = w0 at *
  go_loopw [5] (fun i wr => ∃ k : Nat, k ≤ n ∧ i = .int .i64 k ∧ Hid (zt r ∉ (zs l).take k) ∧ Hid (Bk wr w.heap.size 37 (rc r)) ∧ Hid (Below w.heap.size w wr)) (fun i _ => n - (intOf i).toNat)
  case atStart => exact ⟨0, Nat.zero_le _, rfl, not_zero _ _, R0.out, L0.out⟩
  case round =>
    clear R0 L0
    obtain ⟨k, hk, rfl, HX, HB, HL⟩ := hrel
    by_cases hlt : k < n
    · obtain ⟨b, off, rfl, hbB, hcs⟩ := HS.out.2 (by omega)
      have hkl : k < l.length := by rw [HS.out.1]; exact hlt
      obtain ⟨e0, e1, e2, e3, e4, e5⟩ := (hcs k hkl).below HL.out hbB
      clear hcs
      have hkz : k < (zs l).length := by rw [zs_len]; exact hkl
      have hz := zs_at l k hkz hkl
      have HI := Lib.hid (isin_at (zs l) (zt r) k hkz)
      have HO := Lib.hid (not_next (zs l) (zt r) k hkz)
      rw [hz] at HI HO
      clear hz
      generalize l[k] = x at *
      have y2 : (wr.alloc (.cells #[.string x.name, .int .i64 x.ty, .int .i64 x.ttl, .int .i64 x.n, .string x.host, .string x.text] 37)).cell? ⟨w.heap.size, 2, none⟩ = some (.int .i64 r.ttl) := (HB.out.alloc _).cell 2
      have B2 := Lib.hid (HB.out.alloc (.cells #[.string x.name, .int .i64 x.ty, .int .i64 r.ttl, .int .i64 x.n, .string x.host, .string x.text] 37))
      have X2 : Hid (Bk (wr.alloc (.cells #[.string x.name, .int .i64 x.ty, .int .i64 r.ttl, .int .i64 x.n, .string x.host, .string x.text] 37)) wr.heap.size 37 [.string x.name, .int .i64 x.ty, .int .i64 r.ttl, .int .i64 x.n, .string x.host, .string x.text]) := heap_alloc_new wr _
      have L2 := Lib.hid (HL.out.alloc HL.out.size (.cells #[.string x.name, .int .i64 x.ty, .int .i64 r.ttl, .int .i64 x.n, .string x.host, .string x.text] 37))
      go_upto_region 6 with (fail)
      clear y2 e0 e1 e2 e3 e4 e5 HB HL
      generalize wr.alloc (.cells #[.string x.name, .int .i64 x.ty, .int .i64 r.ttl, .int .i64 x.n, .string x.host, .string x.text] 37) = w2 at *
      generalize wr.heap.size = gx at *
      obtain ⟨y0, y1, y2, y3, y4, y5⟩ := sixB B2.out
      have x0 := X2.out.cell 0
      have x1 := X2.out.cell 1
      have x2 := X2.out.cell 2
      have x3 := X2.out.cell 3
      have x4 := X2.out.cell 4
      have x5 := X2.out.cell 5
      by_cases hne : wt r.ttl x = r
      · have HT := Lib.hid (HI.out (wt_yes hne))
        have hq := fun W => (show Sem.run Try.prog (binOp .eql 37 (.agg #[.string x.name, .int .i64 x.ty, .int .i64 r.ttl, .int .i64 x.n, .string x.host, .string x.text]) (.agg #[.string r.name, .int .i64 r.ty, .int .i64 r.ttl, .int .i64 r.n, .string r.host, .string r.text])) W = .ok (.bool true) W from by
          have h := EqlR.eql_same (wt r.ttl x) W
          rw [hne] at h
          have e : (Value.agg #[.string x.name, .int .i64 x.ty, .int .i64 r.ttl, .int .i64 x.n, .string x.host, .string x.text]) = .agg #[.string r.name, .int .i64 r.ty, .int .i64 r.ttl, .int .i64 r.n, .string r.host, .string r.text] := by rw [← hne]; rfl
          rw [e]
          exact h)
        clear hne HI HO
        go_wp2
        go_ret
        exact ⟨by rw [HT.out]; rfl, L2.out⟩
      · have HN := Lib.hid (HO.out HX.out (wt_no hne))
        have hq := fun W => (show Sem.run Try.prog (binOp .eql 37 (.agg #[.string x.name, .int .i64 x.ty, .int .i64 r.ttl, .int .i64 x.n, .string x.host, .string x.text]) (.agg #[.string r.name, .int .i64 r.ty, .int .i64 r.ttl, .int .i64 r.n, .string r.host, .string r.text])) W = .ok (.bool false) W from EqlR.eql_diff (r := wt r.ttl x) (s := r) hne W)
        clear hne HI HO
        go_wp2
        go_roundw
        case rel => exact ⟨k + 1, by omega, by go_num, HN.out, B2.out, L2.out⟩
        case measure => simp [intOf]; omega
    · obtain rfl : n = k := by omega
      have HF : Hid (isin (zs l) (zt r) = false) := isin_false (by have h := HX.out; rw [SetMath.take_all (by rw [zs_len]; exact HS.out.1)] at h; exact h)
      go_wp2
      go_ret
      exact ⟨by rw [HF.out]; rfl, HL.out⟩

set_option maxHeartbeats 4000000 in
theorem spec (A A' : Option Addr) (n c n' c' : Nat) (l m : List Rec) (w : World) (hs : Sr w w.heap.size A n l) (hs' : Sr w w.heap.size A' n' m) (hn : n ≤ 400000000) (hn' : n' ≤ 400000000) :
    Calls Try.prog 39 #[.slice A n c, .slice A' n' c'] w fun e w' => e = .returned (.bool (sd l m)) ∧ Below w.heap.size w w' := by
  have HS := Lib.hid hs
  have HT := Lib.hid hs'
  clear hs hs'
  go_enter Try.func39, Try.ntmps39
  go_wp2
  go_loopw [5] (fun i wr => ∃ k : Nat, k ≤ n ∧ i = .int .i64 k ∧ Hid (∀ x ∈ (zs l).take k, x ∈ zs m) ∧ Hid (Below w.heap.size w wr)) (fun i _ => n - (intOf i).toNat)
  case atStart => exact ⟨0, Nat.zero_le _, rfl, fun x hx => by simp at hx, Below.refl _ _⟩
  case round =>
    obtain ⟨k, hk, rfl, HX, HL⟩ := hrel
    by_cases hlt : k < n
    · obtain ⟨b, off, rfl, hbB, hcs⟩ := HS.out.2 (by omega)
      have hkl : k < l.length := by rw [HS.out.1]; exact hlt
      obtain ⟨e0, e1, e2, e3, e4, e5⟩ := (hcs k hkl).below HL.out hbB
      clear hcs
      have hkz : k < (zs l).length := by rw [zs_len]; exact hkl
      have hz := zs_at l k hkz hkl
      have HE := Lib.hid (List.take_succ_eq_append_getElem hkz)
      have HM : Hid (zt l[k] ∈ zs l) := by have := List.getElem_mem hkz; rw [hz] at this; exact this
      rw [hz] at HE
      clear hz
      generalize l[k] = x at *
      go_wp2_with fail
      refine (isIn A' n' c' m x wr ((HT.out.below HL.out).wider HL.out.size) hn').mono ?_
      rintro e w1 ⟨rfl, hl⟩
      have L1 := Lib.hid (HL.out.trans (hl.mono HL.out.size))
      clear hl e0 e1 e2 e3 e4 e5
      by_cases hin : zt x ∈ zs m
      · have HI := Lib.hid (isin_true hin)
        have HR : Hid (∀ y ∈ (zs l).take (k + 1), y ∈ zs m) := fun y hy => by
          rw [HE.out, List.mem_append, List.mem_singleton] at hy
          rcases hy with hy | rfl
          · exact HX.out y hy
          · exact hin
        clear hin
        rw [HI.out]
        go_wp2
        go_roundw
        case rel => exact ⟨k + 1, by omega, by go_num, HR.out, L1.out⟩
        case measure => simp [intOf]; omega
      · have HI := Lib.hid (isin_false hin)
        have HF : Hid (sd l m = false) := show _ = _ by
          unfold sd
          rw [sub_false (fun h => hin (h _ HM.out)), Bool.false_and]
        clear hin
        rw [HI.out]
        go_wp2
        go_ret
        exact ⟨by rw [HF.out]; rfl, L1.out⟩
    · obtain rfl : n = k := by omega
      have HA : Hid (sub l m = true) := sub_true (by have h := HX.out; rw [SetMath.take_all (by rw [zs_len]; exact HS.out.1)] at h; exact h)
      clear HX
      go_wp2
      go_loopw [6] (fun i wr => ∃ k : Nat, k ≤ n' ∧ i = .int .i64 k ∧ Hid (∀ x ∈ (zs m).take k, x ∈ zs l) ∧ Hid (Below w.heap.size w wr)) (fun i _ => n' - (intOf i).toNat)
      case atStart => exact ⟨0, Nat.zero_le _, rfl, fun x hx => by simp at hx, HL.out⟩
      case round =>
        clear HL
        obtain ⟨k, hk, rfl, HX, HL⟩ := hrel
        by_cases hlt : k < n'
        · obtain ⟨b, off, rfl, hbB, hcs⟩ := HT.out.2 (by omega)
          have hkl : k < m.length := by rw [HT.out.1]; exact hlt
          obtain ⟨e0, e1, e2, e3, e4, e5⟩ := (hcs k hkl).below HL.out hbB
          clear hcs
          have hkz : k < (zs m).length := by rw [zs_len]; exact hkl
          have hz := zs_at m k hkz hkl
          have HE := Lib.hid (List.take_succ_eq_append_getElem hkz)
          have HM : Hid (zt m[k] ∈ zs m) := by have := List.getElem_mem hkz; rw [hz] at this; exact this
          rw [hz] at HE
          clear hz
          generalize m[k] = x at *
          go_wp2_with fail
          refine (isIn A n c l x wr ((HS.out.below HL.out).wider HL.out.size) hn).mono ?_
          rintro e w1 ⟨rfl, hl⟩
          have L1 := Lib.hid (HL.out.trans (hl.mono HL.out.size))
          clear hl e0 e1 e2 e3 e4 e5
          by_cases hin : zt x ∈ zs l
          · have HI := Lib.hid (isin_true hin)
            have HR : Hid (∀ y ∈ (zs m).take (k + 1), y ∈ zs l) := fun y hy => by
              rw [HE.out, List.mem_append, List.mem_singleton] at hy
              rcases hy with hy | rfl
              · exact HX.out y hy
              · exact hin
            clear hin
            rw [HI.out]
            go_wp2
            go_roundw
            case rel => exact ⟨k + 1, by omega, by go_num, HR.out, L1.out⟩
            case measure => simp [intOf]; omega
          · have HI := Lib.hid (isin_false hin)
            have HF : Hid (sd l m = false) := show _ = _ by
              unfold sd
              rw [sub_false (l := m) (fun h => hin (h _ HM.out)), Bool.and_false]
            clear hin
            rw [HI.out]
            go_wp2
            go_ret
            exact ⟨by rw [HF.out]; rfl, L1.out⟩
        · obtain rfl : n' = k := by omega
          have HF : Hid (sd l m = true) := show _ = _ by
            unfold sd
            rw [HA.out, sub_true (by have h := HX.out; rw [SetMath.take_all (by rw [zs_len]; exact HT.out.1)] at h; exact h)]
            rfl
          go_wp2
          go_ret
          exact ⟨by rw [HF.out]; rfl, HL.out⟩
end Go.Proofs.Ytaahaepgabcebaa.SameDS
