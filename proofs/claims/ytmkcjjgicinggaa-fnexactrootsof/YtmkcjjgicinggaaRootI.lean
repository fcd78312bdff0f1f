/- What RootsOf does in the program: the addresses of the posts of the root, each once. Condition: fewer than 400000001 posts. -/
import Derived.Test.YtmkcjjgicinggaaFstI
import Derived.Test.YtmkcjjgicinggaaRootS
namespace Go.Proofs.Ytmkcjjgicinggaa.RootI
open Go.RowKit Go.Proofs.Ytmkcjjgicinggaa.Mem Go.Proofs.Ytmkcjjgicinggaa.MemR Go.Proofs.Ytmkcjjgicinggaa.SetMath Go.Proofs.Ytmkcjjgicinggaa.MapK Go.Proofs.Ytmkcjjgicinggaa.MemI Go.Proofs.Ytmkcjjgicinggaa.MemF Go.Proofs.Ytmkcjjgicinggaa.RoMath Go.Proofs.Ytmkcjjgicinggaa.RootS

/-- append of one new int onto a row of the call's own, the new block's number as the walk spells it. -/
theorem append_at {w : World} {ops : Array Oper} {rest : List Oper} {o : Oper} {a : Act} {Q : Exit → Act → World → Prop} (hgd : o.guard = none) (s x : Operand)
    (ho : o.op = .call { callee := .builtin .append, args := #[s, x], argTypes := #[27, 27] })
    (base g n cap : Nat) (l : List Int) (hs : a.eval s = .slice (some ⟨g, 0, none⟩) n cap) (hown : w.ownsRow base 3 1 (.slice (some ⟨g, 0, none⟩) n cap) n (l.map iv))
    (y : Int) (p : Nat) (hp : w.heap.size = p) (hx : a.eval x = .slice (some ⟨p, 0, none⟩) 1 1) (hn : n ≤ 800000000) (hbase : base ≤ w.heap.size)
    (h : ∀ g' cap' w', w'.ownsRow base 3 1 (.slice (some ⟨g', 0, none⟩) (n + 1) cap') (n + 1) ((l ++ [y]).map iv) → (w.alloc (.cells #[.int .i64 y] 3)).grownBy w' (some g) → wpList Try.prog ops Q rest (a.put o.dst (.slice (some ⟨g', 0, none⟩) (n + 1) cap')) w') : wpList Try.prog ops Q (o :: rest) a (w.alloc (.cells #[.int .i64 y] 3)) := by
  subst hp
  exact append_one (w := w) hgd s x ho base g n cap l hs hown y hx hn hbase (fun g' cap' w' h1 h2 _ => h g' cap' w' h1 h2)

set_option maxHeartbeats 4000000 in
theorem impl (A : Option Addr) (n c : Nat) (P : Option Addr) (m d : Nat) (ps : List Pst) (w : World) (hs : Rp w w.heap.size P m ps) (hm : m ≤ 400000000) : Calls Try.prog 7 #[.agg #[.slice A n c, .slice P m d]] w (GivesI w (uq (ro ps))) := by
  have HS := Lib.hid hs
  clear hs
  have P0 := Lib.hid (made_own w (.cells #[.slice A n c, .slice P m d] 32))
  have X0 := Lib.hid ((fx_new w 32 (.slice A n c) (.slice P m d)).alloc (.cells #[] 3))
  have L0 := Lib.hid (((Below.refl w.heap.size w).alloc (Nat.le_refl _) (.cells #[.slice A n c, .slice P m d] 32)).alloc (by simp) (.cells #[] 3))
  obtain ⟨x0, x1⟩ := X0.out
  go_enter Try.func7, Try.ntmps7
  go_wp2
  generalize (w.alloc (.cells #[.slice A n c, .slice P m d] 32)).alloc (.cells #[] 3) = w0 at *
  go_loopw [3, 10] (fun out i wr => ∃ k g u cap : Nat, k ≤ m ∧ u ≤ k ∧ i = .int .i64 k ∧ out = .slice (some ⟨g, 0, none⟩) u cap ∧ Hid (wr.ownsRow (w.heap.size + 1) 3 1 (.slice (some ⟨g, 0, none⟩) u cap) u ((ro (ps.take k)).map iv)) ∧ Hid (Below w.heap.size w wr)) (fun _ i _ => m - (intOf i).toNat)
  case atStart => exact ⟨0, w.heap.size + 1, 0, 0, Nat.zero_le _, Nat.le_refl _, rfl, rfl, P0.out, L0.out⟩
  case round =>
    clear P0 L0 X0 x0 x1
    obtain ⟨k, g, u, cap, hk, hu, rfl, rfl, HO, HL⟩ := hrel
    by_cases hlt : k < m
    · obtain ⟨b, off, rfl, hbB, hcs⟩ := HS.out.2 (by omega)
      have hkl : k < ps.length := by rw [HS.out.1]; exact hlt
      obtain ⟨e0, e1⟩ := (hcs k hkl).below HL.out hbB
      clear hcs
      have HT := Lib.hid (ro_take ps k hkl)
      generalize ps[k] = r at *
      have L1 := Lib.hid (HL.out.alloc HL.out.size (.cells #[.int .i64 r.addr, .string r.apex] 42))
      have O1 := Lib.hid (HO.out.alloc (.cells #[.int .i64 r.addr, .string r.apex] 42))
      by_cases hap : ¬ (r.apex.data.toList == []) = true
      · have HA := Lib.hid (show ro (ps.take (k + 1)) = ro (ps.take k) from by rw [HT.out, if_neg hap, List.append_nil])
        have t1 : (r.apex.data.toList == []) = false := by simpa using hap
        have t2 : (r.apex.toList == ({ data := #[] } : ByteArray).toList) = false := by rw [ByteArray.toList_eq, ByteArray.toList_eq]; exact t1
        have t3 : ¬ r.apex.toList = [] := by rw [ByteArray.toList_eq]; simpa using hap
        have t4 : r.apex.toList.isEmpty = false := by simpa using t3
        clear hap
        go_wp2
        go_roundw
        case rel => exact ⟨k + 1, g, u, cap, by omega, by omega, by go_num, rfl, by rw [HA.out]; exact O1.out, L1.out⟩
        case measure => simp [intOf]; omega
      replace hap : (r.apex.data.toList == []) = true := Classical.not_not.1 hap
      have HA := Lib.hid (show ro (ps.take (k + 1)) = ro (ps.take k) ++ [r.addr] from by rw [HT.out, if_pos hap])
      have t2 : (r.apex.toList == ({ data := #[] } : ByteArray).toList) = true := by rw [ByteArray.toList_eq, ByteArray.toList_eq]; exact hap
      have t3 : r.apex.toList = [] := by rw [ByteArray.toList_eq]; simpa using hap
      have t4 : r.apex.toList.isEmpty = true := by simpa using t3
      go_wp2_with (at_builtin; refine append_at (w := wr.alloc (.cells #[.int .i64 r.addr, .string r.apex] 42)) rfl (.tmp 17) (.tmp 20) rfl (w.heap.size + 1) g u cap (ro (ps.take k)) rfl O1.out r.addr (wr.heap.size + 1) (by simp) rfl (by omega) (by have h1 := O1.out.lt g rfl; omega) ?_)
      intro g' cap' w3 hown hgrow
      have O3 := Lib.hid hown
      have L3 := Lib.hid ((L1.out.alloc L1.out.size (.cells #[.int .i64 r.addr] 3)).grown hgrow (Nat.le_trans L1.out.size (by simp)) (fun j hj => by cases hj; have h1 := O1.out.lt g rfl; omega))
      clear hown hgrow
      go_wp2
      go_roundw
      case rel => exact ⟨k + 1, g', u + 1, cap', by omega, by omega, by go_num, rfl, by rw [HA.out, List.map_append]; exact O3.out, L3.out⟩
      case measure => simp [intOf]; omega
    · obtain rfl : m = k := by omega
      have HN2 := Lib.hid (take_all HS.out.1)
      have HQ : Hid (Si wr (some ⟨g, 0, none⟩) u (ro ps)) := by
        have ho := HO.out
        rw [HN2.out] at ho
        have hz : (ro ps).length = u := by have := ho.1; simpa using this
        obtain ⟨r', hb, _, _⟩ := bk_of_owns ho
        exact bk_si hb hz
      go_wp2_with fail
      refine (FstI.impl _ u cap (ro ps) wr HQ.out (by omega)).mono ?_
      rintro e w1 ⟨g1, m1, c1, r1, rfl, hm1, hc1, hg1, hb1, hl1⟩
      have G1 := Lib.hid (Nat.le_trans HL.out.size hg1)
      have M1 := Lib.hid hm1
      have C1 := Lib.hid hc1
      have B1 := Lib.hid hb1
      have L1 := Lib.hid (HL.out.trans (hl1.mono HL.out.size))
      clear hm1 hc1 hg1 hb1 hl1
      go_wp2
      go_ret
      exact ⟨g1, m1, c1, r1, rfl, M1.out, C1.out, G1.out, B1.out, L1.out⟩
end Go.Proofs.Ytmkcjjgicinggaa.RootI
