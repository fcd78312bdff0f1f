/- What Glue does in the program: the addresses of the hosts, in their order, out of a map of groups. Condition: at most 1048576 records and as many hosts (so the result may have many more). -/
import Derived.Test.YtmabbeefeipnaaaZoneMath
import Derived.Test.YtmabbeefeipnaaaMemZ
import Derived.Test.YtmabbeefeipnaaaSetI
import Derived.Test.YtmabbeefeipnaaaMemS
namespace Go.Proofs.Ytmabbeefeipnaaa.GlueI
open Go.RowKit Go.Proofs.Ytmabbeefeipnaaa.Mem Go.Proofs.Ytmabbeefeipnaaa.MemR Go.Proofs.Ytmabbeefeipnaaa.SetMath Go.Proofs.Ytmabbeefeipnaaa.ZoneMath Go.Proofs.Ytmabbeefeipnaaa.MemZ Go.Proofs.Ytmabbeefeipnaaa.MemS Go.Proofs.Ytmabbeefeipnaaa.MemQ Go.Proofs.Ytmabbeefeipnaaa.MapK Go.Proofs.Ytmabbeefeipnaaa.MapE Go.Proofs.Ytmabbeefeipnaaa.GrpM Go.Proofs.Ytmabbeefeipnaaa.AppR Go.Proofs.Ytmabbeefeipnaaa.Wt Go.Proofs.Ytmabbeefeipnaaa.SetI

/-- append of a slice of records onto a row of the call's own, up to many records. -/
theorem append_wide {w : World} {ops : Array Oper} {rest : List Oper} {o : Oper} {a : Act} {Q : Exit → Act → World → Prop} (hgd : o.guard = none) (s x : Operand)
    (ho : o.op = .call { callee := .builtin .append, args := #[s, x], argTypes := #[30, 30] })
    (base g n cap : Nat) (L : List Rec) (hs : a.eval s = .slice (some ⟨g, 0, none⟩) n cap) (hown : w.ownsRow base 68 6 (.slice (some ⟨g, 0, none⟩) n cap) n (fl L))
    (b off m c B : Nat) (l : List Rec) (hx : a.eval x = .slice (some ⟨b, off, none⟩) m c) (hl : Sr w B (some ⟨b, off, none⟩) m l)
    (hnm : n + m ≤ 1900000000000) (hbase : base ≤ w.heap.size)
    (h : ∀ g' cap' w', w'.ownsRow base 68 6 (.slice (some ⟨g', 0, none⟩) (n + m) cap') (n + m) (fl (L ++ l)) → w.grownBy w' (some g) → wpList Try.prog ops Q rest (a.put o.dst (.slice (some ⟨g', 0, none⟩) (n + m) cap')) w') : wpList Try.prog ops Q (o :: rest) a w := by
  obtain ⟨i0, hi, hz0, hz1, hz2⟩ := info_parts CopyR.info
  exact wpList_append_own w hgd s x 30 ho base 68 i0 _ 6 72 Try.underlying30 hi hz0 hz1 hz2 rfl (by decide) _ n (fl L) hs hown ⟨b, off, none⟩ m c (fl l) hx (by rw [fl_len, hl.1]) (cells_of hl) (one_fl l) (by unfold maxLen; omega) (by omega) hbase
    (fun v' w' h1 h2 h3 => by
      rcases h1.2 with ⟨hv, _⟩ | ⟨g', cap', cur, hv, _⟩
      · have := (h3.1 hv).1
        cases this
      · subst hv
        exact h g' cap' w' (by rw [fl_append]; exact h1) h2)

set_option maxRecDepth 100000 in
set_option maxHeartbeats 8000000 in
theorem impl (s : ByteArray) (b0 o0 n c : Nat) (l : List Rec) (b1 o1 nh ch : Nat) (H : List ByteArray) (w : World) (hs : Sr w w.heap.size (some ⟨b0, o0, none⟩) n l) (hh : Ss w w.heap.size (some ⟨b1, o1, none⟩) nh H) (hn : n ≤ 1048576) (hnh : nh ≤ 1048576) :
    Calls Try.prog 79 #[.agg #[.string s, .slice (some ⟨b0, o0, none⟩) n c], .slice (some ⟨b1, o1, none⟩) nh ch] w (GivesL w (gl H l)) := by
  have L0 := Lib.hid ((Below.refl w.heap.size w).alloc (Nat.le_refl _) (.cells #[.string s, .slice (some ⟨b0, o0, none⟩) n c] 32))
  have X0 := Lib.hid (zx_new w 32 s (.slice (some ⟨b0, o0, none⟩) n c))
  have SE := Lib.hid (fun W hW => SetI.sets b0 o0 n c l W hW (by omega))
  have S0 := Lib.hid (hs.on L0.out)
  have HH := Lib.hid hh
  have HN := Lib.hid hs.1
  clear hs hh
  obtain ⟨x0, x1⟩ := X0.out
  go_enter Try.func79, Try.ntmps79
  obtain ⟨i0, hi, hz0, hz1, hz2⟩ := info_parts CopyR.info
  go_wp2_with fail
  refine (SE.out _ S0.out).mono ?_
  rintro e w1 ⟨bm, rfl, hbm, ⟨es, hm, hq, ho, hd⟩, hl⟩
  have L1 := Lib.hid (L0.out.trans (hl.mono L0.out.size))
  have M1 := Lib.hid hm
  have HQ := Lib.hid hq
  have HS' := Lib.hid (ev_key es)
  have HND := Lib.hid (ev_nodup (es := es) (by rw [hq]; exact nodup_uq _))
  have R1 : Hid (∀ (j : Nat) (e : Ge), es[j]? = some e → (sq e.q l).length = e.m ∧ Sr w1 w1.heap.size (some ⟨e.g, 0, none⟩) e.m (sq e.q l)) := fun j e hj => by
    have hz := own_m (ho j e hj)
    obtain ⟨r', hb, _⟩ := bk_of_owns6 (ho j e hj)
    exact ⟨hz, bk_sr hb hz⟩
  have KT := KeyT.quests
  have P2 := Lib.hid (AppR.owns_new w1)
  have L2 := Lib.hid ((Below.refl w1.heap.size w1).alloc (Nat.le_refl _) (.cells #[] 68))
  clear hm hq ho hd hl SE hbm L0 X0 S0 x0 x1
  go_wp2
  generalize w1.alloc (.cells #[] 68) = w2 at *
  go_loopw [6, 15] (fun out i wr => ∃ k g m cap : Nat, k ≤ nh ∧ m ≤ k * n ∧ i = .int .i64 k ∧ out = .slice (some ⟨g, 0, none⟩) m cap ∧ Hid (wr.ownsRow w1.heap.size 68 6 (.slice (some ⟨g, 0, none⟩) m cap) m (fl (gl (H.take k) l))) ∧ Hid (Below w1.heap.size w1 wr)) (fun _ i _ => nh - (intOf i).toNat)
  case atStart => exact ⟨0, w1.heap.size, 0, 0, Nat.zero_le _, Nat.zero_le _, rfl, rfl, P2.out, L2.out⟩
  case round =>
    clear P2 L2
    obtain ⟨k, g, m, cap, hk, hm, rfl, rfl, HO, HL⟩ := hrel
    by_cases hlt : k < nh
    · obtain ⟨b, off, hA, hbB, hcs⟩ := HH.out.2 (by omega)
      obtain ⟨rfl, rfl⟩ : b1 = b ∧ o1 = off := by simp at hA; exact hA
      clear hA
      have hkl : k < H.length := by rw [HH.out.1]; exact hlt
      have e0 : wr.cell? ⟨b1, o1 + k, none⟩ = some (.string H[k]) := ((L1.out.trans (HL.out.mono L1.out.size)).cell (p := ⟨b1, o1 + k, none⟩) hbB).trans (hcs k hkl)
      clear hcs
      have HT := Lib.hid (gl_take H l k hkl)
      generalize H[k] = y at *
      have hmm : Hid (m ≤ 1100000000000) := show _ ≤ _ from Nat.le_trans hm (Nat.le_trans (Nat.mul_le_mul (show k ≤ 1048576 by omega) hn) (by decide))
      have lg : Hid (w1.heap.size ≤ g ∧ g < wr.heap.size) := HO.out.lt g rfl
      have M2 := Lib.hid (M1.out.below HL.out M1.out.lt)
      have HX : Hid (KeyT.KQ (qv ⟨y, 1⟩)) := ⟨⟨y, 1⟩, rfl⟩
      by_cases hin : (⟨y, 1⟩ : Key) ∈ uq (kl l)
      · obtain ⟨j, e, hj, hk'⟩ : ∃ (j : Nat) (e : Ge), es[j]? = some e ∧ e.q = ⟨y, 1⟩ := by
          rw [← HQ.out] at hin
          obtain ⟨e, he, hq⟩ := List.mem_map.1 hin
          obtain ⟨j, hj⟩ := List.getElem?_of_mem he
          exact ⟨j, e, hj, hq⟩
        have HE : Hid (sq e.q l = sf y 1 l) := show _ = _ by rw [hk']; rfl
        have hem : e.m ≤ n := by
          have h1 := (R1.out j e hj).1
          have h2 := sf_len e.q.name e.q.ty l
          have h3 : (sq e.q l).length ≤ l.length := h2
          have := HN.out
          omega
        have LK : Hid ((Instr.lookup 61 (.map (some bm)) (.agg #[.string y, .int .i64 1]) false).run Try.prog wr = .ok (.slice (some ⟨e.g, 0, none⟩) e.m e.cap) wr) := M2.out.in KT Try.underlying61 HS'.out HND.out HX.out (show (qv ⟨y, 1⟩, sv e) ∈ ev es from by rw [← hk']; exact List.mem_of_getElem? (ev_at hj)) false
        have SR : Hid (Sr wr w1.heap.size (some ⟨e.g, 0, none⟩) e.m (sf y 1 l)) := by
          have := (R1.out j e hj).2
          rw [HE.out] at this
          exact this.below HL.out
        clear hin hj hk' HX M2
        go_wp2_with (first | (at_lookup; refine wp_look rfl _ _ false rfl (.agg #[.string y, .int .i64 1]) (.slice (some ⟨e.g, 0, none⟩) e.m e.cap) rfl rfl LK.out ?_) | (at_builtin; refine append_wide rfl (.tmp 19) (.tmp 23) rfl w1.heap.size g m cap (gl (H.take k) l) rfl HO.out e.g 0 e.m e.cap _ (sf y 1 l) rfl SR.out (by have := hmm.out; omega) HL.out.size ?_))
        intro g' cap' w3 hown hgrow
        have O3 := Lib.hid hown
        have L3 := Lib.hid (HL.out.grown hgrow HL.out.size (fun j hj => by cases hj; exact lg.out.1))
        clear hown hgrow
        go_wp2
        go_roundw
        case rel => exact ⟨k + 1, g', m + e.m, cap', by omega, by rw [Nat.add_mul, Nat.one_mul]; omega, by go_num, rfl, by rw [HT.out]; exact O3.out, L3.out⟩
        case measure => simp [intOf]; omega
      · have HE : Hid (sf y 1 l = []) := sq_none (q := ⟨y, 1⟩) (fun h => hin (mem_uq.2 h))
        have LK : Hid ((Instr.lookup 61 (.map (some bm)) (.agg #[.string y, .int .i64 1]) false).run Try.prog wr = .ok (.slice none 0 0) wr) := M2.out.out KT Try.underlying61 (zero _) HS'.out HX.out (ev_out (by rw [HQ.out]; exact hin)) false
        clear hin HX M2
        go_wp2_with (at_lookup; refine wp_look rfl _ _ false rfl (.agg #[.string y, .int .i64 1]) (.slice none 0 0) rfl rfl LK.out ?_; refine wpList_append_own_none rfl (.tmp 19) (.tmp 23) 30 rfl w1.heap.size 68 i0 6 Try.underlying30 hi _ m (fl (gl (H.take k) l)) rfl HO.out rfl ?_)
        go_wp2
        go_roundw
        case rel => exact ⟨k + 1, g, m, cap, by omega, by rw [Nat.add_mul, Nat.one_mul]; omega, by go_num, rfl, by rw [HT.out, HE.out, List.append_nil]; exact HO.out, HL.out⟩
        case measure => simp [intOf]; omega
    · obtain rfl : nh = k := by omega
      have HN := Lib.hid (take_all HH.out.1)
      go_wp2
      go_ret
      have ho := HO.out
      rw [HN.out] at ho
      obtain ⟨r', hb, _, hcap, hg⟩ := bk_of_owns6 ho
      have hz : (gl H l).length = m := by have := ho.1; rw [fl_len] at this; omega
      exact ⟨g, m, cap, r', rfl, hz, hcap, Nat.le_trans L1.out.size hg, hb, L1.out.trans (HL.out.mono L1.out.size)⟩

end Go.Proofs.Ytmabbeefeipnaaa.GlueI
