/- What SetOf does in the model: the records of a name and a type, in order. Condition: fewer than 400000001 records. -/
import Derived.Test.YtmabbeefeipnaaaWt
import Derived.Test.YtmabbeefeipnaaaIsin
namespace Go.Proofs.Ytmabbeefeipnaaa.SetS
open Go.RowKit Go.Proofs.Ytmabbeefeipnaaa.Mem Go.Proofs.Ytmabbeefeipnaaa.MemR Go.Proofs.Ytmabbeefeipnaaa.SetMath Go.Proofs.Ytmabbeefeipnaaa.AppR Go.Proofs.Ytmabbeefeipnaaa.Isin Go.Proofs.Ytmabbeefeipnaaa.Wt

/-- append of one new record onto a row of the call's own, the new block's number as the walk spells it. -/
theorem append_at {w : World} {ops : Array Oper} {rest : List Oper} {o : Oper} {a : Act} {Q : Exit → Act → World → Prop} (hgd : o.guard = none) (s x : Operand)
    (ho : o.op = .call { callee := .builtin .append, args := #[s, x], argTypes := #[30, 30] })
    (base g n cap : Nat) (l : List Rec) (hs : a.eval s = .slice (some ⟨g, 0, none⟩) n cap) (hown : w.ownsRow base 68 6 (.slice (some ⟨g, 0, none⟩) n cap) n (fl l))
    (y : Rec) (p : Nat) (hp : w.heap.size = p) (hx : a.eval x = .slice (some ⟨p, 0, none⟩) 1 1) (hn : n ≤ 800000000) (hbase : base ≤ w.heap.size)
    (h : ∀ g' cap' w', w'.ownsRow base 68 6 (.slice (some ⟨g', 0, none⟩) (n + 1) cap') (n + 1) (fl (l ++ [y])) → (w.alloc (.cells #[.string y.name, .int .i64 y.ty, .int .i64 y.ttl, .int .i64 y.n, .string y.host, .string y.text] 68)).grownBy w' (some g) → wpList Try.prog ops Q rest (a.put o.dst (.slice (some ⟨g', 0, none⟩) (n + 1) cap')) w') : wpList Try.prog ops Q (o :: rest) a (w.alloc (.cells #[.string y.name, .int .i64 y.ty, .int .i64 y.ttl, .int .i64 y.n, .string y.host, .string y.text] 68)) := by
  subst hp
  have hb : Bk (w.alloc (.cells #[.string y.name, .int .i64 y.ty, .int .i64 y.ttl, .int .i64 y.n, .string y.host, .string y.text] 68)) w.heap.size 68 (fl [y]) := heap_alloc_new w _
  exact append_recs hgd s x ho base g n cap l hs (hown.alloc _) w.heap.size 0 1 1 _ [y] hx (bk_sr0 hb rfl) hn (by omega) (by simp; omega) h

set_option maxHeartbeats 4000000 in
theorem spec (s : ByteArray) (t : Int) (b0 o0 n c : Nat) (l : List Rec) (w : World) (hs : Sr w w.heap.size (some ⟨b0, o0, none⟩) n l) (hn : n ≤ 400000000) : Calls Try.prog 38 #[.slice (some ⟨b0, o0, none⟩) n c, .string s, .int .i64 t] w (GivesL w (sf s t l)) := by
  have HS := Lib.hid hs
  clear hs
  have P0 := Lib.hid (owns_new w)
  have L0 := Lib.hid ((Below.refl w.heap.size w).alloc (Nat.le_refl _) (.cells #[] 68))
  go_enter Try.func38, Try.ntmps38
  go_wp2
  generalize w.alloc (.cells #[] 68) = w0 at *
  go_loopw [7, 8] (fun out i wr => ∃ k g m cap : Nat, k ≤ n ∧ m ≤ k ∧ i = .int .i64 k ∧ out = .slice (some ⟨g, 0, none⟩) m cap ∧ Hid (wr.ownsRow w.heap.size 68 6 (.slice (some ⟨g, 0, none⟩) m cap) m (fl (sf s t (l.take k)))) ∧ Hid (Below w.heap.size w wr)) (fun _ i _ => n - (intOf i).toNat)
  case atStart => exact ⟨0, w.heap.size, 0, 0, Nat.zero_le _, Nat.le_refl _, rfl, rfl, P0.out, L0.out⟩
  case round =>
    clear P0 L0
    obtain ⟨k, g, m, cap, hk, hm, rfl, rfl, HO, HL⟩ := hrel
    by_cases hlt : k < n
    · obtain ⟨b, off, hA, hbB, hcs⟩ := HS.out.2 (by omega)
      obtain ⟨rfl, rfl⟩ : b0 = b ∧ o0 = off := by simp at hA; exact hA
      clear hA
      have hkl : k < l.length := by rw [HS.out.1]; exact hlt
      obtain ⟨e0, e1, e2, e3, e4, e5⟩ := (hcs k hkl).below HL.out hbB
      clear hcs
      have HT := Lib.hid (sf_take s t l k hkl)
      generalize l[k] = r at *
      by_cases hnm : ¬ r.name = s
      · have HA := Lib.hid (show sf s t (l.take (k + 1)) = sf s t (l.take k) from by rw [HT.out, isk_false (fun h => hnm h.1), if_neg (by decide), List.append_nil])
        have t1 : (r.name.toList == s.toList) = false := bytes_ne hnm
        have t2 : (r.name.data.toList == s.data.toList) = false := by rw [← ByteArray.toList_eq, ← ByteArray.toList_eq]; exact t1
        clear hnm
        go_wp2
        go_roundw
        case rel => exact ⟨k + 1, g, m, cap, by omega, by omega, by go_num, rfl, by rw [HA.out]; exact HO.out, HL.out⟩
        case measure => simp [intOf]; omega
      replace hnm : r.name = s := Classical.not_not.1 hnm
      have t1 : (r.name.toList == s.toList) = true := by rw [hnm]; simp
      have t2 : (r.name.data.toList == s.data.toList) = true := by rw [hnm]; simp
      by_cases hty : ¬ r.ty = t
      · have HA := Lib.hid (show sf s t (l.take (k + 1)) = sf s t (l.take k) from by rw [HT.out, isk_false (fun h => hty h.2), if_neg (by decide), List.append_nil])
        have t0 : (r.ty == t) = false := by simpa using hty
        clear hty hnm
        go_wp2
        go_roundw
        case rel => exact ⟨k + 1, g, m, cap, by omega, by omega, by go_num, rfl, by rw [HA.out]; exact HO.out, HL.out⟩
        case measure => simp [intOf]; omega
      replace hty : r.ty = t := Classical.not_not.1 hty
      have HA := Lib.hid (show sf s t (l.take (k + 1)) = sf s t (l.take k) ++ [r] from by rw [HT.out, isk_true ⟨hnm, hty⟩, if_pos rfl])
      have t0 : (r.ty == t) = true := by simpa using hty
      clear hty hnm
      go_wp2_with (at_builtin; refine append_at (w := wr) rfl (.tmp 32) (.tmp 37) rfl w.heap.size g m cap (sf s t (l.take k)) rfl HO.out r wr.heap.size rfl rfl (by omega) (by have h1 := HO.out.lt g rfl; omega) ?_)
      intro g' cap' w3 hown hgrow
      have O3 := Lib.hid hown
      have L3 := Lib.hid ((HL.out.alloc HL.out.size (.cells #[.string r.name, .int .i64 r.ty, .int .i64 r.ttl, .int .i64 r.n, .string r.host, .string r.text] 68)).grown hgrow (Nat.le_trans HL.out.size (by simp)) (fun j hj => by cases hj; have h1 := HO.out.lt g rfl; omega))
      clear hown hgrow
      go_wp2
      go_roundw
      case rel => exact ⟨k + 1, g', m + 1, cap', by omega, by omega, by go_num, rfl, by rw [HA.out]; exact O3.out, L3.out⟩
      case measure => simp [intOf]; omega
    · obtain rfl : n = k := by omega
      have HN := Lib.hid (take_all HS.out.1)
      go_wp2
      go_ret
      have ho := HO.out
      rw [HN.out] at ho
      obtain ⟨r', hb, _, hcap, hg⟩ := bk_of_owns6 ho
      have hz : (sf s t l).length = m := by have := ho.1; rw [fl_len] at this; omega
      exact ⟨g, m, cap, r', rfl, hz, hcap, hg, hb, HL.out⟩
end Go.Proofs.Ytmabbeefeipnaaa.SetS
