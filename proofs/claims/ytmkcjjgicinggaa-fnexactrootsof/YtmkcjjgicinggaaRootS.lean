/- What RootsOf does in the model: the addresses of the posts of the root, each once. Condition: fewer than 400000001 posts. -/
import Derived.Test.YtmkcjjgicinggaaIsin
import Derived.Test.YtmkcjjgicinggaaMemI
import Derived.Test.YtmkcjjgicinggaaRoMath
import Derived.Test.YtmkcjjgicinggaaMapK
namespace Go.Proofs.Ytmkcjjgicinggaa.RootS
open Go.RowKit Go.Proofs.Ytmkcjjgicinggaa.Mem Go.Proofs.Ytmkcjjgicinggaa.MemR Go.Proofs.Ytmkcjjgicinggaa.SetMath Go.Proofs.Ytmkcjjgicinggaa.Isin Go.Proofs.Ytmkcjjgicinggaa.MapK Go.Proofs.Ytmkcjjgicinggaa.MemI Go.Proofs.Ytmkcjjgicinggaa.MemF Go.Proofs.Ytmkcjjgicinggaa.RoMath

theorem grown_of_below {w w' : World} (h : Below w.heap.size w w') (r : Option Nat) : w.grownBy w' r := ⟨h.os, h.tape, h.output, h.size, fun k hk _ => h.block k hk⟩

set_option maxHeartbeats 1000000 in
theorem has (A : Option Addr) (n c : Nat) (l : List Int) (x : Int) (w : World) (hs : Si w A n l) (hn : n ≤ 400000000) :
    Calls Try.prog 15 #[.slice A n c, .int .i64 x] w fun e w' => e = .returned (.bool (isin l x)) ∧ Below w.heap.size w w' := by
  have HS := Lib.hid hs
  clear hs
  go_enter Try.func15, Try.ntmps15
  go_wp2
  go_loopw [5] (fun i wr => ∃ k : Nat, k ≤ n ∧ i = .int .i64 k ∧ Hid (x ∉ l.take k) ∧ Hid (Below w.heap.size w wr)) (fun i _ => n - (intOf i).toNat)
  case atStart => exact ⟨0, Nat.zero_le _, rfl, not_zero l x, Below.refl _ _⟩
  case round =>
    obtain ⟨k, hk, rfl, HX, HL⟩ := hrel
    by_cases hlt : k < n
    · obtain ⟨b, off, rfl, hbB, hcs⟩ := HS.out.2 (by omega)
      have hkl : k < l.length := by rw [HS.out.1]; exact hlt
      have e0 : wr.cell? ⟨b, off + k, none⟩ = some (.int .i64 l[k]) := (HL.out.cell (p := ⟨b, off + k, none⟩) hbB).trans (hcs k hkl)
      clear hcs
      have HI := Lib.hid (isin_at l x k hkl)
      have HO := Lib.hid (not_next l x k hkl)
      generalize l[k] = y at *
      by_cases hne : y = x
      · have HT := Lib.hid (HI.out hne)
        subst hne
        have q1 : (y == y) = true := by simp
        go_wp2
        go_ret
        exact ⟨by rw [HT.out]; rfl, HL.out⟩
      · have HN := Lib.hid (HO.out HX.out hne)
        have q1 : (y == x) = false := by simpa using hne
        clear hne
        go_wp2
        go_roundw
        case rel => exact ⟨k + 1, by omega, by go_num, HN.out, HL.out⟩
        case measure => simp [intOf]; omega
    · obtain rfl : n = k := by omega
      have HF : Hid (isin l x = false) := isin_false (by rw [take_all HS.out.1] at HX; exact HX.out)
      go_wp2
      go_ret
      exact ⟨by rw [HF.out]; rfl, HL.out⟩

theorem made_own (w : World) (o : Obj) : ((w.alloc o).alloc (.cells #[] 3)).ownsRow (w.heap.size + 1) 3 1 (.slice (some ⟨w.heap.size + 1, 0, none⟩) 0 0) 0 [] := by
  have e : (w.alloc o).heap.size = w.heap.size + 1 := by simp
  have := owns_new (w.alloc o)
  rwa [e] at this

set_option maxHeartbeats 4000000 in
theorem spec (A : Option Addr) (n c : Nat) (P : Option Addr) (m d : Nat) (ps : List Pst) (w : World) (hs : Rp w w.heap.size P m ps) (hm : m ≤ 400000000) : Calls Try.prog 5 #[.agg #[.slice A n c, .slice P m d]] w (GivesI w (uq (ro ps))) := by
  have HS := Lib.hid hs
  clear hs
  have P0 := Lib.hid (made_own w (.cells #[.slice A n c, .slice P m d] 32))
  have X0 := Lib.hid ((fx_new w 32 (.slice A n c) (.slice P m d)).alloc (.cells #[] 3))
  have L0 := Lib.hid (((Below.refl w.heap.size w).alloc (Nat.le_refl _) (.cells #[.slice A n c, .slice P m d] 32)).alloc (by simp) (.cells #[] 3))
  go_enter Try.func5, Try.ntmps5
  go_wp2
  generalize (w.alloc (.cells #[.slice A n c, .slice P m d] 32)).alloc (.cells #[] 3) = w0 at *
  go_loopw [3, 4] (fun out i wr => ∃ k g u cap : Nat, k ≤ m ∧ u ≤ k ∧ i = .int .i64 k ∧ out = .slice (some ⟨g, 0, none⟩) u cap ∧ Hid (wr.ownsRow (w.heap.size + 1) 3 1 (.slice (some ⟨g, 0, none⟩) u cap) u ((uq (ro (ps.take k))).map iv)) ∧ Hid (Fx wr w.heap.size (.slice A n c) (.slice P m d)) ∧ Hid (Below w.heap.size w wr)) (fun _ i _ => m - (intOf i).toNat)
  case atStart => exact ⟨0, w.heap.size + 1, 0, 0, Nat.zero_le _, Nat.le_refl _, rfl, rfl, P0.out, X0.out, L0.out⟩
  case round =>
    clear P0 L0 X0
    obtain ⟨k, g, u, cap, hk, hu, rfl, rfl, HO, HX, HL⟩ := hrel
    obtain ⟨x0, x1⟩ := HX.out
    by_cases hlt : k < m
    · obtain ⟨b, off, rfl, hbB, hcs⟩ := HS.out.2 (by omega)
      have hkl : k < ps.length := by rw [HS.out.1]; exact hlt
      obtain ⟨e0, e1⟩ := (hcs k hkl).below HL.out hbB
      clear hcs
      have HT := Lib.hid (ro_take ps k hkl)
      generalize ps[k] = r at *
      by_cases hap : ¬ (r.apex.data.toList == []) = true
      · have HA := Lib.hid (show uq (ro (ps.take (k + 1))) = uq (ro (ps.take k)) from by rw [HT.out, if_neg hap, List.append_nil])
        have t1 : (r.apex.data.toList == []) = false := by simpa using hap
        have t2 : (r.apex.toList == ({ data := #[] } : ByteArray).toList) = false := by rw [ByteArray.toList_eq, ByteArray.toList_eq]; exact t1
        have t3 : ¬ r.apex.toList = [] := by rw [ByteArray.toList_eq]; simpa using hap
        clear hap
        go_wp2
        go_roundw
        case rel => exact ⟨k + 1, g, u, cap, by omega, by omega, by go_num, rfl, by rw [HA.out]; exact HO.out, HX.out, HL.out⟩
        case measure => simp [intOf]; omega
      replace hap : (r.apex.data.toList == []) = true := Classical.not_not.1 hap
      have HU := Lib.hid (show uq (ro (ps.take (k + 1))) = add (uq (ro (ps.take k))) r.addr from by rw [HT.out, if_pos hap, uq_snoc])
      have t2 : (r.apex.toList == ({ data := #[] } : ByteArray).toList) = true := by rw [ByteArray.toList_eq, ByteArray.toList_eq]; exact hap
      have t3 : r.apex.toList = [] := by rw [ByteArray.toList_eq]; simpa using hap
      have HZ : Hid ((uq (ro (ps.take k))).length = u) := show _ = _ by have := HO.out.1; simpa using this
      have SS : Hid (∀ W : World, W.ownsRow (w.heap.size + 1) 3 1 (.slice (some ⟨g, 0, none⟩) u cap) u ((uq (ro (ps.take k))).map iv) → Calls Try.prog 15 #[.slice (some ⟨g, 0, none⟩) u cap, .int .i64 r.addr] W fun e w' => e = .returned (.bool (isin (uq (ro (ps.take k))) r.addr)) ∧ Below W.heap.size W w') :=
        fun W O => has _ u cap (uq (ro (ps.take k))) r.addr W (show Si W (some ⟨g, 0, none⟩) u (uq (ro (ps.take k))) from by obtain ⟨r', hb, _, _⟩ := bk_of_owns O; exact bk_si hb HZ.out) (by omega)
      go_wp2_with fail
      refine (SS.out _ HO.out).mono ?_
      rintro e w1 ⟨rfl, hl⟩
      have O1 := Lib.hid (HO.out.kept (grown_of_below hl none) (Or.inr (fun e => by cases e)))
      have L1 := Lib.hid (HL.out.trans (hl.mono HL.out.size))
      have X1 := Lib.hid (HX.out.below hl)
      have C1 := (show Cp w1 b (off + k * 2) r from (show Cp wr b (off + k * 2) r from ⟨e0, e1⟩).below (hl.mono HL.out.size) hbB)
      clear hl e0 e1 SS x0 x1 HX
      obtain ⟨e0, e1⟩ := C1
      obtain ⟨x0, x1⟩ := X1.out
      by_cases hin : r.addr ∈ uq (ro (ps.take k))
      · have HA := Lib.hid (HU.out.trans (add_in hin))
        have HB := Lib.hid (isin_true hin)
        clear hin
        rw [HB.out]
        go_wp2
        go_roundw
        case rel => exact ⟨k + 1, g, u, cap, by omega, by omega, by go_num, rfl, by rw [HA.out]; exact O1.out, X1.out, L1.out⟩
        case measure => simp [intOf]; omega
      · have HA := Lib.hid (HU.out.trans (add_out hin))
        have HB := Lib.hid (isin_false hin)
        clear hin
        rw [HB.out]
        go_wp2_with (at_builtin; refine append_one (w := w1) rfl (.tmp 31) (.tmp 38) rfl (w.heap.size + 1) g u cap (uq (ro (ps.take k))) rfl O1.out r.addr rfl (by omega) (by have h1 := O1.out.lt g rfl; omega) ?_)
        intro g' cap' w3 hown hgrow _
        have O3 := Lib.hid hown
        have X3 := Lib.hid ((X1.out.alloc (.cells #[.int .i64 r.addr] 3)).grown hgrow (fun e => by have h1 := O1.out.lt g rfl; have := Option.some.inj e; omega))
        have L3 := Lib.hid ((L1.out.alloc L1.out.size (.cells #[.int .i64 r.addr] 3)).grown hgrow (Nat.le_trans L1.out.size (by simp)) (fun j hj => by cases hj; have h1 := O1.out.lt g rfl; omega))
        clear hown hgrow
        go_wp2
        go_roundw
        case rel => exact ⟨k + 1, g', u + 1, cap', by omega, by omega, by go_num, rfl, by rw [HA.out, List.map_append]; exact O3.out, X3.out, L3.out⟩
        case measure => simp [intOf]; omega
    · obtain rfl : m = k := by omega
      have HN := Lib.hid (take_all HS.out.1)
      go_wp2
      go_ret
      have ho := HO.out
      rw [HN.out] at ho
      exact gives_of_owns (own_mono ho (by omega)) HL.out
end Go.Proofs.Ytmkcjjgicinggaa.RootS
