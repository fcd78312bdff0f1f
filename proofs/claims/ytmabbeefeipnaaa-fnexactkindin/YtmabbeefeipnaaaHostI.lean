/- What Hosts does in the program: the hosts of the records of servers, each once. Condition: fewer than 400000001 records. -/
import Derived.Test.YtmabbeefeipnaaaFstS
namespace Go.Proofs.Ytmabbeefeipnaaa.HostI
open Go.RowKit Go.Proofs.Ytmabbeefeipnaaa.Mem Go.Proofs.Ytmabbeefeipnaaa.MemR Go.Proofs.Ytmabbeefeipnaaa.SetMath Go.Proofs.Ytmabbeefeipnaaa.MemS Go.Proofs.Ytmabbeefeipnaaa.AppS

/-- append of one new text onto a row of the call's own, the new block's number as the walk spells it. -/
theorem append_at {w : World} {ops : Array Oper} {rest : List Oper} {o : Oper} {a : Act} {Q : Exit → Act → World → Prop} (hgd : o.guard = none) (s x : Operand)
    (ho : o.op = .call { callee := .builtin .append, args := #[s, x], argTypes := #[71, 71] })
    (base g n cap : Nat) (l : List ByteArray) (hs : a.eval s = .slice (some ⟨g, 0, none⟩) n cap) (hown : w.ownsRow base 9 1 (.slice (some ⟨g, 0, none⟩) n cap) n (l.map tv))
    (y : ByteArray) (p : Nat) (hp : w.heap.size = p) (hx : a.eval x = .slice (some ⟨p, 0, none⟩) 1 1) (hn : n ≤ 800000000) (hbase : base ≤ w.heap.size)
    (h : ∀ g' cap' w', w'.ownsRow base 9 1 (.slice (some ⟨g', 0, none⟩) (n + 1) cap') (n + 1) ((l ++ [y]).map tv) → (w.alloc (.cells #[.string y] 9)).grownBy w' (some g) → wpList Try.prog ops Q rest (a.put o.dst (.slice (some ⟨g', 0, none⟩) (n + 1) cap')) w') : wpList Try.prog ops Q (o :: rest) a (w.alloc (.cells #[.string y] 9)) := by
  subst hp
  obtain ⟨i0, hi, hz0, hz1, hz2⟩ := info_parts info
  exact append_one (w := w) hgd s x 71 ho base 9 i0 _ Try.underlying71 hi hz0 hz1 hz2 rfl g n cap l hs hown y hx hn hbase h

set_option maxHeartbeats 4000000 in
theorem impl (b0 o0 n c : Nat) (l : List Rec) (w : World) (hs : Sr w w.heap.size (some ⟨b0, o0, none⟩) n l) (hn : n ≤ 400000000) : Calls Try.prog 80 #[.slice (some ⟨b0, o0, none⟩) n c] w (GivesS w (uq (hl l))) := by
  have HS := Lib.hid hs
  clear hs
  have P0 := Lib.hid (owns_new w)
  have L0 := Lib.hid ((Below.refl w.heap.size w).alloc (Nat.le_refl _) (.cells #[] 9))
  go_enter Try.func80, Try.ntmps80
  go_wp2
  generalize w.alloc (.cells #[] 9) = w0 at *
  go_loopw [3, 9] (fun out i wr => ∃ k g m cap : Nat, k ≤ n ∧ m ≤ k ∧ i = .int .i64 k ∧ out = .slice (some ⟨g, 0, none⟩) m cap ∧ Hid (wr.ownsRow w.heap.size 9 1 (.slice (some ⟨g, 0, none⟩) m cap) m ((hl (l.take k)).map tv)) ∧ Hid (Below w.heap.size w wr)) (fun _ i _ => n - (intOf i).toNat)
  case atStart => exact ⟨0, w.heap.size, 0, 0, Nat.zero_le _, Nat.le_refl _, rfl, rfl, P0.out, L0.out⟩
  case round =>
    clear P0 L0
    obtain ⟨k, g, m, cap, hk, hm, rfl, rfl, HO, HL⟩ := hrel
    by_cases hlt : k < n
    · obtain ⟨b, off, hA, hbB, hcs⟩ := HS.out.2 (by omega)
      obtain ⟨rfl, rfl⟩ : b0 = b ∧ o0 = off := by simp at hA; exact hA
      clear hA
      have hkl : k < l.length := by rw [HS.out.1]; exact hlt
      obtain ⟨e0, e1, e2, e3, e4, e5⟩ := (hcs k hkl).below HL.out hbB
      clear hcs
      have HT := Lib.hid (hl_take l k hkl)
      generalize l[k] = r at *
      have W1 : Hid (Below w.heap.size w (wr.alloc (.cells #[.string r.name, .int .i64 r.ty, .int .i64 r.ttl, .int .i64 r.n, .string r.host, .string r.text] 68))) := HL.out.alloc HL.out.size _
      have O1 := Lib.hid (HO.out.alloc (.cells #[.string r.name, .int .i64 r.ty, .int .i64 r.ttl, .int .i64 r.n, .string r.host, .string r.text] 68))
      by_cases hty : ¬ r.ty = 2
      · have HA := Lib.hid (show hl (l.take (k + 1)) = hl (l.take k) from by rw [HT.out, if_neg hty, List.append_nil])
        have t0 : (r.ty == 2) = false := by simpa using hty
        clear hty
        go_wp2
        go_roundw
        case rel => exact ⟨k + 1, g, m, cap, by omega, by omega, by go_num, rfl, by rw [HA.out]; exact O1.out, W1.out⟩
        case measure => simp [intOf]; omega
      replace hty : r.ty = 2 := Classical.not_not.1 hty
      have HA := Lib.hid (show hl (l.take (k + 1)) = hl (l.take k) ++ [r.host] from by rw [HT.out, if_pos hty])
      have t0 : (r.ty == 2) = true := by simpa using hty
      clear hty
      go_wp2_with (at_builtin; refine append_at (w := wr.alloc (.cells #[.string r.name, .int .i64 r.ty, .int .i64 r.ttl, .int .i64 r.n, .string r.host, .string r.text] 68)) rfl (.tmp 16) (.tmp 19) rfl w.heap.size g m cap (hl (l.take k)) rfl O1.out r.host (wr.heap.size + 1) (by simp) rfl (by omega) (by have h1 := O1.out.lt g rfl; omega) ?_)
      intro g' cap' w3 hown hgrow
      have O3 := Lib.hid hown
      have L3 := Lib.hid ((W1.out.alloc W1.out.size (.cells #[.string r.host] 9)).grown hgrow (Nat.le_trans W1.out.size (by simp)) (fun j hj => by cases hj; have h1 := O1.out.lt g rfl; omega))
      clear hown hgrow
      go_wp2
      go_roundw
      case rel => exact ⟨k + 1, g', m + 1, cap', by omega, by omega, by go_num, rfl, by rw [HA.out, List.map_append]; exact O3.out, L3.out⟩
      case measure => simp [intOf]; omega
    · obtain rfl : n = k := by omega
      have HN := Lib.hid (take_all HS.out.1)
      have HQ : Hid (Ss wr wr.heap.size (some ⟨g, 0, none⟩) m (hl l)) := by
        have ho := HO.out
        rw [HN.out] at ho
        have hz : (hl l).length = m := by have := ho.1; simpa using this
        obtain ⟨r', hb, _, _⟩ := bk_of_owns ho
        exact bk_ssw hb hz
      go_wp2_with fail
      refine (FstS.impl _ m cap (hl l) wr HQ.out (by omega)).mono ?_
      rintro e w1 ⟨g1, m1, c1, r1, rfl, hm1, hc1, hg1, hb1, hl1⟩
      have G1 := Lib.hid (Nat.le_trans HL.out.size hg1)
      have M1 := Lib.hid hm1
      have C1 := Lib.hid hc1
      have B1 := Lib.hid hb1
      have L1 := Lib.hid (HL.out.trans (hl1.mono HL.out.size))
      clear hm1 hc1 hg1 hb1 hl1
      go_wp2
      go_ret
      exact ⟨g1, m1, c1, r1, rfl, M1.out, C1.out, G1.out, B1.out, L1.out⟩
end Go.Proofs.Ytmabbeefeipnaaa.HostI
