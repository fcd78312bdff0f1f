/- What KeysOf does in the model: the keys of all records, each once. Condition: fewer than 400000001 records. -/
import Derived.Test.YtaahaepgabcebaaKeyT
import Derived.Test.YtaahaepgabcebaaIsin
import Derived.Deep.QuietTactic
import Derived.BigQuiet
namespace Go.Proofs.Ytaahaepgabcebaa.KeyS
open Go.RowKit Go.Proofs.Ytaahaepgabcebaa.Mem Go.Proofs.Ytaahaepgabcebaa.MemR Go.Proofs.Ytaahaepgabcebaa.SetMath Go.Proofs.Ytaahaepgabcebaa.MemQ Go.Proofs.Ytaahaepgabcebaa.Isin

theorem eql_same (q : Key) (w : World) : Sem.run Try.prog (binOp .eql 34 (.agg #[.string q.name, .int .i64 q.ty]) (.agg #[.string q.name, .int .i64 q.ty])) w = .ok (.bool true) w := by
  have h := KeyT.quest_same q w
  unfold qv Op.equal Op.maxDepth at h
  rw [run_eql_struct, h]
  rfl
theorem eql_diff {q p : Key} (hne : ¬ q = p) (w : World) : Sem.run Try.prog (binOp .eql 34 (.agg #[.string q.name, .int .i64 q.ty]) (.agg #[.string p.name, .int .i64 p.ty])) w = .ok (.bool false) w := by
  have h := KeyT.quest_diff hne w
  unfold qv Op.equal Op.maxDepth at h
  rw [run_eql_struct, h]
  rfl
theorem grd : Try.prog.eqGuardType Try.prog.depth 34 = false := by kernel_rfl
theorem isin_zero {α : Type} (l : List α) (x : α) : isin (l.take 0) x = false := isin_false (not_zero l x)
theorem isin_next {α : Type} (l : List α) (x : α) (k : Nat) (h : k < l.length) (hb : isin (l.take k) x = true) : isin (l.take (k + 1)) x = true := by
  by_cases hm : x ∈ l.take k
  · refine isin_true ?_
    rw [List.take_succ_eq_append_getElem h, List.mem_append]
    exact Or.inl hm
  · rw [isin_false hm] at hb; cases hb
theorem isin_here {α : Type} (l : List α) (x : α) (k : Nat) (h : k < l.length) (e : l[k] = x) : isin (l.take (k + 1)) x = true := by
  refine isin_true ?_
  rw [List.take_succ_eq_append_getElem h, List.mem_append, List.mem_singleton]
  exact Or.inr e.symm
theorem isin_not {α : Type} (l : List α) (x : α) (k : Nat) (h : k < l.length) (hb : isin (l.take k) x = false) (e : ¬ l[k] = x) : isin (l.take (k + 1)) x = false := by
  refine isin_false (not_next l x k h (fun hm => ?_) e)
  rw [isin_true hm] at hb; cases hb
theorem isin_mem {α : Type} {l : List α} {x : α} (h : isin l x = true) : x ∈ l := by
  by_cases hm : x ∈ l
  · exact hm
  · rw [isin_false hm] at h; cases h
theorem isin_nmem {α : Type} {l : List α} {x : α} (h : isin l x = false) : x ∉ l := fun hm => by rw [isin_true hm] at h; cases h

set_option maxHeartbeats 4000000 in
theorem spec (b0 o0 n c : Nat) (l : List Rec) (w : World) (hs : Sr w w.heap.size (some ⟨b0, o0, none⟩) n l) (hn : n ≤ 400000000) : Calls Try.prog 18 #[.slice (some ⟨b0, o0, none⟩) n c] w (GivesQ w (uq (kl l))) := by
  have mixed : Try.prog.follows .mixedOrders = true := by kernel_rfl
  have hg := grd
  have HS := Lib.hid hs
  clear hs
  have P0 := Lib.hid (owns_new w)
  have L0 := Lib.hid ((Below.refl w.heap.size w).alloc (Nat.le_refl _) (.cells #[] 34))
  go_enter Try.func18, Try.ntmps18
  go_wp2
  generalize w.alloc (.cells #[] 34) = w0 at *
  go_loopw [3, 4] (fun out i wr => ∃ k g m cap : Nat, k ≤ n ∧ m ≤ k ∧ i = .int .i64 k ∧ out = .slice (some ⟨g, 0, none⟩) m cap ∧ Hid (wr.ownsRow w.heap.size 34 2 (.slice (some ⟨g, 0, none⟩) m cap) m (fq (uq (kl (l.take k))))) ∧ Hid (Below w.heap.size w wr)) (fun _ i _ => n - (intOf i).toNat)
  case atStart => exact ⟨0, w.heap.size, 0, 0, Nat.zero_le _, Nat.le_refl _, rfl, rfl, P0.out, L0.out⟩
  case round =>
    clear P0 L0
    obtain ⟨k, g, m, cap, hk, hm, rfl, rfl, HO, HL⟩ := hrel
    by_cases hlt : k < n
    · obtain ⟨b, off, hA, hbB, hcs⟩ := HS.out.2 (by omega)
      obtain ⟨rfl, rfl⟩ : b0 = b ∧ o0 = off := by simp at hA; exact hA
      clear hA
      have hkl : k < l.length := by rw [HS.out.1]; exact hlt
      obtain ⟨e0, e1, e2, e3, e4, e5⟩ := (hcs k hkl).below HL.out hbB
      clear hcs e2 e3 e4 e5
      have HT := Lib.hid (kl_take l k hkl)
      generalize l[k] = r at *
      have hwb : b0 < wr.heap.size := Nat.lt_of_lt_of_le hbB HL.out.size
      have a0 : (wr.alloc (.cells #[.string ⟨#[]⟩, .int .i64 0] 34)).cell? ⟨b0, o0 + k * 6, none⟩ = some (.string r.name) := (((Below.refl wr.heap.size wr).alloc (Nat.le_refl _) (.cells #[.string ⟨#[]⟩, .int .i64 0] 34)).cell (p := ⟨b0, o0 + k * 6, none⟩) hwb).trans e0
      have a1 : (wr.alloc (.cells #[.string ⟨#[]⟩, .int .i64 0] 34)).cell? ⟨b0, o0 + k * 6 + 1, none⟩ = some (.int .i64 r.ty) := (((Below.refl wr.heap.size wr).alloc (Nat.le_refl _) (.cells #[.string ⟨#[]⟩, .int .i64 0] 34)).cell (p := ⟨b0, o0 + k * 6 + 1, none⟩) hwb).trans e1
      go_wp2
      go_region
      clear e0 e1 a0 a1
      have W1 : Hid (Below w.heap.size w (wr.alloc (.cells #[.string r.name, .int .i64 r.ty] 34)).drew) := (HL.out.alloc HL.out.size _).drew
      have O1 : Hid ((wr.alloc (.cells #[.string r.name, .int .i64 r.ty] 34)).drew.ownsRow w.heap.size 34 2 (.slice (some ⟨g, 0, none⟩) m cap) m (fq (uq (kl (l.take k))))) := (HO.out.alloc _).drew
      have X1 : Hid (Bk (wr.alloc (.cells #[.string r.name, .int .i64 r.ty] 34)).drew wr.heap.size 34 [.string r.name, .int .i64 r.ty]) := heap_alloc_new wr _
      have HU := Lib.hid (show uq (kl (l.take (k + 1))) = add (uq (kl (l.take k))) (ky r) from by rw [HT.out, uq_snoc])
      clear HT HO HL
      generalize (wr.alloc (.cells #[.string r.name, .int .i64 r.ty] 34)).drew = w1 at *
      generalize wr.heap.size = gq at *
      clear hbB hwb
      have HQ : Hid (∃ L : List Key, L = uq (kl (l.take k)) ∧ L.length = m ∧ ∀ j (h : j < L.length), Cq w1 g (j * 2) L[j]) := by
        obtain ⟨r', hb, _, _, _⟩ := bk_of_owns2 O1.out
        refine ⟨_, rfl, ?_, fun j hj => bk_cq hb j hj⟩
        have := O1.out.1
        rw [fq_len] at this
        omega
      obtain ⟨L, hL, hLm, hLc⟩ := HQ.out
      rw [← hL] at O1 HU
      clear hL HQ
      have HM := Lib.hid hLm
      have HC := Lib.hid hLc
      clear hLm hLc
      go_wp2
      go_loopw [6, 7] (fun tb i wr => ∃ (j : Nat) (x : Bool), j ≤ m ∧ i = .int .i64 j ∧ tb = .bool x ∧ Hid (x = isin (L.take j) (ky r)) ∧ Hid (∃ q, wr = w1.drewN q)) (fun _ i _ => m - (intOf i).toNat)
      case atStart => exact ⟨0, false, Nat.zero_le _, rfl, rfl, (isin_zero L (ky r)).symm, ⟨0, rfl⟩⟩
      case round =>
        obtain ⟨j, x, hj, rfl, rfl, HX, HW⟩ := hrel
        obtain ⟨q, rfl⟩ := HW.out
        clear HW
        by_cases hjm : j < m
        · have hjl : j < L.length := by rw [HM.out]; exact hjm
          obtain ⟨c0, c1⟩ := HC.out j hjl
          have d0 := X1.out.cell 0
          have d1 := X1.out.cell 1
          have HN := Lib.hid (isin_next L (ky r) j hjl)
          have HH := Lib.hid (isin_here L (ky r) j hjl)
          have HI := Lib.hid (isin_not L (ky r) j hjl)
          generalize L[j] = y at *
          cases x with
          | true =>
            have HR := Lib.hid (HN.out HX.out.symm).symm
            clear HN HH HI c0 c1 d0 d1
            go_wp2
            go_quiet (fail)
            go_wp2
            go_roundw
            case rel => exact ⟨j + 1, true, by omega, by go_num, rfl, HR.out, ⟨_, rfl⟩⟩
            case measure => simp [intOf]; omega
          | false =>
            by_cases he : y = ky r
            · have HR := Lib.hid (HH.out he).symm
              have hq := fun W => (show Sem.run Try.prog (binOp .eql 34 (.agg #[.string y.name, .int .i64 y.ty]) (.agg #[.string r.name, .int .i64 r.ty])) W = .ok (.bool true) W from by rw [he]; exact eql_same (ky r) W)
              clear he HN HH HI
              go_wp2
              go_quiet (fail)
              go_wp2
              go_roundw
              case rel => exact ⟨j + 1, true, by omega, by go_num, rfl, HR.out, ⟨_, rfl⟩⟩
              case measure => simp [intOf]; omega
            · have HR := Lib.hid (HI.out HX.out.symm he).symm
              have hq := fun W => (show Sem.run Try.prog (binOp .eql 34 (.agg #[.string y.name, .int .i64 y.ty]) (.agg #[.string r.name, .int .i64 r.ty])) W = .ok (.bool false) W from eql_diff he W)
              clear he HN HH HI
              go_wp2
              go_quiet (fail)
              go_wp2
              go_roundw
              case rel => exact ⟨j + 1, false, by omega, by go_num, rfl, HR.out, ⟨_, rfl⟩⟩
              case measure => simp [intOf]; omega
        · obtain rfl : m = j := by omega
          have HX2 : Hid (x = isin L (ky r)) := by rw [take_all HM.out] at HX; exact HX
          clear HX HC
          cases x with
          | true =>
            have HA := Lib.hid (HU.out.trans (add_in (isin_mem HX2.out.symm)))
            go_wp2
            go_roundw
            case rel => exact ⟨k + 1, g, m, cap, by omega, by omega, by go_num, rfl, by rw [HA.out]; exact O1.out, W1.out.trans (drewN_below _ _ _)⟩
            case measure => simp [intOf]; omega
          | false =>
            have HA := Lib.hid (HU.out.trans (add_out (isin_nmem HX2.out.symm)))
            have d0 := X1.out.cell 0
            have d1 := X1.out.cell 1
            have O2 : Hid ((w1.drewN q).ownsRow w.heap.size 34 2 (.slice (some ⟨g, 0, none⟩) m cap) m (fq L)) := O1.out
            have W2 : Hid (Below w.heap.size w (w1.drewN q)) := W1.out.trans (drewN_below _ _ _)
            have D0 : (w1.drewN q).cell? ⟨gq, 0, none⟩ = some (.string r.name) := d0
            have D1 : (w1.drewN q).cell? ⟨gq, 0 + 1, none⟩ = some (.int .i64 r.ty) := d1
            clear d0 d1 O1 W1 X1
            generalize w1.drewN q = w2 at *
            go_wp2_with (at_builtin; refine append_one (w := w2) rfl (.tmp 43) (.tmp 45) rfl w.heap.size g m cap L rfl O2.out (ky r) rfl (by omega) (by have h1 := O2.out.lt g rfl; omega) ?_)
            intro g' cap' w3 hown hgrow _
            have O3 := Lib.hid hown
            have L3 := Lib.hid ((W2.out.alloc W2.out.size (.cells #[.string r.name, .int .i64 r.ty] 34)).grown hgrow (Nat.le_trans W2.out.size (by simp)) (fun j hj => by cases hj; have h1 := O2.out.lt g rfl; omega))
            clear hown hgrow
            go_wp2
            go_roundw
            case rel => exact ⟨k + 1, g', m + 1, cap', by omega, by omega, by go_num, rfl, by rw [HA.out]; exact O3.out, L3.out⟩
            case measure => simp [intOf]; omega
    · obtain rfl : n = k := by omega
      have HN := Lib.hid (take_all HS.out.1)
      go_wp2
      go_ret
      have ho := HO.out
      rw [HN.out] at ho
      exact gives_of_owns ho HL.out
end Go.Proofs.Ytaahaepgabcebaa.KeyS
