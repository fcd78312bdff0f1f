/- What setsOf and SetOf do in the program: a map of slices, one for each name and type; the records of a name and a type, in order. Condition: fewer than 100000001 records. -/
import Derived.Test.YtmabbeefeipnaaaGrpM
import Derived.Test.YtmabbeefeipnaaaKeyI
import Derived.Test.YtmabbeefeipnaaaWt
import Derived.Deep.DeepCutAuto
namespace Go.Proofs.Ytmabbeefeipnaaa.SetI
open Go.RowKit Go.Proofs.Ytmabbeefeipnaaa.Mem Go.Proofs.Ytmabbeefeipnaaa.MemR Go.Proofs.Ytmabbeefeipnaaa.SetMath Go.Proofs.Ytmabbeefeipnaaa.MemQ Go.Proofs.Ytmabbeefeipnaaa.MapK Go.Proofs.Ytmabbeefeipnaaa.MapE Go.Proofs.Ytmabbeefeipnaaa.GrpM Go.Proofs.Ytmabbeefeipnaaa.AppR Go.Proofs.Ytmabbeefeipnaaa.Wt

/-- The call returned a map of groups, and turned nothing that was there. -/
def GivesG (w : World) (l : List Rec) (e : Ending) (w' : World) : Prop :=
  ∃ b, e = .returned (.map (some b)) ∧ w.heap.size ≤ b ∧ Gr w' (w.heap.size + 1) b l ∧ Below w.heap.size w w'

theorem zero (w : World) : (zeroValue 30).run Try.prog w = .ok (.slice none 0 0) w := by kernel_rfl

theorem gr_zero {w : World} {base b : Nat} {l : List Rec} (h : Mp w b []) : Gr w base b (l.take 0) :=
  ⟨[], h, rfl, fun i e he => by simp at he, fun i i' e e' he => by simp at he⟩

set_option maxHeartbeats 2000000 in
/-- copyRecords of nil. -/
theorem copyNil (w : World) : Calls Try.prog 74 #[.slice none 0 0] w (CpyR.GivesC w 0 []) := by
  have L0 := Lib.hid ((Below.refl w.heap.size w).alloc (Nat.le_refl _) (.cells #[] 68))
  have O0 := Lib.hid (AppR.owns_new w)
  go_enter Try.func74, Try.ntmps74
  obtain ⟨i0, hi, hz0, hz1, hz2⟩ := info_parts CopyR.info
  go_wp2_with (at_builtin; refine wpList_append_own_none rfl (.tmp 3) (.tmp 4) 30 rfl w.heap.size 68 i0 6 Try.underlying30 hi hz1 _ 0 [] rfl O0.out rfl ?_)
  go_wp2
  go_ret
  obtain ⟨r, hb, _, _, hg⟩ := bk_of_owns6 O0.out
  exact ⟨w.heap.size, 0, r, rfl, Nat.le_refl _, hg, hb, L0.out⟩

set_option maxRecDepth 100000 in
set_option maxHeartbeats 4000000 in
theorem sets (b0 o0 n c : Nat) (l : List Rec) (w : World) (hs : Sr w w.heap.size (some ⟨b0, o0, none⟩) n l) (hn : n ≤ 100000000) : Calls Try.prog 41 #[.slice (some ⟨b0, o0, none⟩) n c] w (GivesG w l) := by
  have HS := Lib.hid hs
  clear hs
  have hmm := @run_makeMap Try.prog
  obtain ⟨i0, hi, hz0, hz1, hz2⟩ := info_parts CopyR.info
  have P0 := Lib.hid (gr_zero (base := w.heap.size + 1) (l := l) (Mp.made w))
  have L0 := Lib.hid ((Below.refl w.heap.size w).alloc (Nat.le_refl _) (.map #[] 0))
  go_enter Try.func41, Try.ntmps41
  go_wp2
  generalize w.alloc (.map #[] 0) = w0 at *
  go_loopw [10] (fun i wr => ∃ k : Nat, k ≤ n ∧ i = .int .i64 k ∧ Hid (Gr wr (w.heap.size + 1) w.heap.size (l.take k)) ∧ Hid (Below w.heap.size w wr)) (fun i _ => n - (intOf i).toNat)
  case atStart => exact ⟨0, Nat.zero_le _, rfl, P0.out, L0.out⟩
  case round =>
    clear P0 L0
    obtain ⟨k, hk, rfl, HO, HL⟩ := hrel
    by_cases hlt : k < n
    · obtain ⟨b, off, hA, hbB, hcs⟩ := HS.out.2 (by omega)
      obtain ⟨rfl, rfl⟩ : b0 = b ∧ o0 = off := by simp at hA; exact hA
      clear hA
      have hkl : k < l.length := by rw [HS.out.1]; exact hlt
      obtain ⟨e0, e1, e2, e3, e4, e5⟩ := (hcs k hkl).below HL.out hbB
      clear hcs
      have HT := Lib.hid (List.take_succ_eq_append_getElem hkl)
      have HTL : Hid ((l.take k).length = k) := show _ = _ by simp; omega
      generalize l[k] = r at *
      obtain ⟨es, hm, hq, ho, hd⟩ := HO.out
      clear HO
      have HM := Lib.hid hm
      have HQ := Lib.hid hq
      have HR := Lib.hid ho
      have HD := Lib.hid hd
      clear hm hq ho hd
      have B1 : Hid (Bk (wr.alloc (.cells #[.string r.name, .int .i64 r.ty, .int .i64 r.ttl, .int .i64 r.n, .string r.host, .string r.text] 68)) wr.heap.size 68 (rc r)) := heap_alloc_new wr _
      have hgB : w.heap.size ≤ wr.heap.size := HL.out.size
      go_wp2_with fail
      refine (KeyI.keyOf r _).mono ?_
      rintro e w1 ⟨rfl, hl⟩
      have hlA : Below wr.heap.size wr w1 := ((Below.refl wr.heap.size wr).alloc (Nat.le_refl _) _).trans (hl.mono (by simp))
      have M1 := Lib.hid ((HM.out.below hlA HM.out.lt).alloc (.cells #[.string r.name, .int .i64 r.ty] 34))
      have R1 := Lib.hid (rows_kept HR.out (row := none) (w' := w1.alloc (.cells #[.string r.name, .int .i64 r.ty] 34)) (World.grownBy.trans ⟨hlA.os, hlA.tape, hlA.output, hlA.size, fun k hk _ => hlA.block k hk⟩ (World.grownBy_alloc w1 _ none)) (by simp))
      have L1 := Lib.hid ((HL.out.trans (hlA.mono HL.out.size)).alloc (Nat.le_trans HL.out.size hlA.size) (.cells #[.string r.name, .int .i64 r.ty] 34))
      have X1 := Lib.hid ((B1.out.below hl (by simp)).alloc (.cells #[.string r.name, .int .i64 r.ty] 34))
      have Y1 : Hid (Bk (w1.alloc (.cells #[.string r.name, .int .i64 r.ty] 34)) w1.heap.size 34 [.string r.name, .int .i64 r.ty]) := heap_alloc_new w1 _
      clear hl hlA HM HR HL B1 e0 e1 e2 e3 e4 e5
      go_upto_region 6 with (fail)
      generalize w1.alloc (.cells #[.string r.name, .int .i64 r.ty] 34) = w2 at *
      generalize w1.heap.size = gk at *
      have x0 := Y1.out.cell 0
      have x1 := Y1.out.cell 1
      have y0 : w2.cell? ⟨wr.heap.size, 0, none⟩ = some (.string r.name) := X1.out.cell 0
      have y1 : w2.cell? ⟨wr.heap.size, 1, none⟩ = some (.int .i64 r.ty) := X1.out.cell 1
      have y2 : w2.cell? ⟨wr.heap.size, 2, none⟩ = some (.int .i64 r.ttl) := X1.out.cell 2
      have y3 : w2.cell? ⟨wr.heap.size, 3, none⟩ = some (.int .i64 r.n) := X1.out.cell 3
      have y4 : w2.cell? ⟨wr.heap.size, 4, none⟩ = some (.string r.host) := X1.out.cell 4
      have y5 : w2.cell? ⟨wr.heap.size, 5, none⟩ = some (.string r.text) := X1.out.cell 5
      have KT := KeyT.quests
      have M3 := Lib.hid (M1.out.alloc (.cells #[.string r.name, .int .i64 r.ty, .int .i64 r.ttl, .int .i64 r.n, .string r.host, .string r.text] 68))
      have R3 := Lib.hid (rows_kept R1.out (World.grownBy_alloc w2 (.cells #[.string r.name, .int .i64 r.ty, .int .i64 r.ttl, .int .i64 r.n, .string r.host, .string r.text] 68) none) (by simp))
      have L3 := Lib.hid (L1.out.alloc L1.out.size (.cells #[.string r.name, .int .i64 r.ty, .int .i64 r.ttl, .int .i64 r.n, .string r.host, .string r.text] 68))
      have N3 : Hid (Bk (w2.alloc (.cells #[.string r.name, .int .i64 r.ty, .int .i64 r.ttl, .int .i64 r.n, .string r.host, .string r.text] 68)) w2.heap.size 68 (fl [r])) := heap_alloc_new w2 _
      have HB : Hid (w.heap.size < w2.heap.size) := M1.out.lt
      have HS' := Lib.hid (ev_key es)
      have HND := Lib.hid (ev_nodup (es := es) (by rw [HQ.out]; exact nodup_uq _))
      have HX : Hid (KeyT.KQ (qv (ky r))) := ⟨ky r, rfl⟩
      clear M1 R1 L1 X1 Y1 hgB
      by_cases hin : ky r ∈ uq (kl (l.take k))
      · obtain ⟨j, e, hj, hk'⟩ : ∃ (j : Nat) (e : Ge), es[j]? = some e ∧ e.q = ky r := by
          rw [← HQ.out] at hin
          obtain ⟨e, he, hq⟩ := List.mem_map.1 hin
          obtain ⟨j, hj⟩ := List.getElem?_of_mem he
          exact ⟨j, e, hj, hq⟩
        have HJ := Lib.hid hj
        have HK := Lib.hid hk'
        have hem : e.m ≤ k := by
          have h1 := own_m (R3.out j e hj)
          have h2 := sf_len_take e.q.name e.q.ty l k
          have h3 : (sq e.q (l.take k)).length ≤ k := h2
          omega
        have EN := Lib.hid (entry_old M3.out KT Try.underlying61 HS'.out HND.out HX.out (show (ev es)[j]? = some (qv (ky r), sv e) from by rw [← hk']; exact ev_at hj))
        clear hin hj hk'
        go_wp2_with (guard_target =~ wpList _ _ _ ({ dst := _, op := Op.mapEntry _ _ _, type := _, pos := _, after := _, guard := _ } :: _) _ _; refine wp_entry rfl (.tmp 16) (.tmp 17) rfl (qv (ky r)) (sv e) rfl rfl (ev es) j EN.out ?_)
        intro w4 st m4 g4 s4
        have M4 := Lib.hid m4
        have R4 := Lib.hid (rows_kept R3.out g4 (fun g hg _ h => by have h8 : g = w.heap.size := Option.some.inj h; omega))
        have L4 := Lib.hid (L3.out.grown g4 L3.out.size (fun j hj => by cases hj; exact Nat.le_refl _))
        have N4 := Lib.hid (N3.out.grown g4 (fun h => by have h8 : w2.heap.size = w.heap.size := Option.some.inj h; have := HB.out; omega))
        have S4 : Hid (w4.heap.size = w2.heap.size + 1) := s4
        clear m4 g4 s4 EN M3 R3 L3 N3 x0 x1 y0 y1 y2 y3 y4 y5
        go_wp2_with (at_builtin; refine wpList_append_lies w4 rfl (.tmp 18) (.tmp 20) 30 rfl (w.heap.size + 1) 68 i0 _ 6 72 Try.underlying30 hi hz0 hz1 hz2 rfl (by decide) (sv e) e.m (fl (sq e.q (l.take k))) rfl (R4.out j e HJ.out) ⟨w2.heap.size, 0, none⟩ 1 1 (fl [r]) rfl rfl (World.news_of_block N4.out) (one_fl [r]) (by decide) (by unfold maxLen; omega) (by omega) (by have h1 := HB.out; have h2 := S4.out; omega) w4.heap.size rfl ?_)
        intro g' cap' w5 hown hgrow hlies hlt5
        have O5 := Lib.hid hown
        have G5 : Hid (w4.grownBy w5 (some e.g)) := hgrow
        have LI : Hid (e.g = g' ∨ g' = w4.heap.size) := hlies.imp (fun h => Option.some.inj h) id
        have NB : Hid (some w.heap.size ≠ some e.g) := fun h => by
          have h8 : w.heap.size = e.g := Option.some.inj h
          have := own_lt (R4.out j e HJ.out)
          omega
        have ST := Lib.hid ((M4.out.grown G5.out NB.out).store (P := Try.prog) 61 (show (ev es)[j]? = some (qv e.q, sv e) from ev_at HJ.out) (.slice (some ⟨g', 0, none⟩) (e.m + 1) cap'))
        have L5 := Lib.hid (L4.out.grown G5.out L4.out.size (fun i hi => by cases hi; have := own_lt (R4.out j e HJ.out); omega))
        clear hown hgrow hlies hlt5 M4 N4 L4
        rw [HK.out] at ST
        go_wp2_with (guard_target =~ wpList _ _ _ ({ dst := _, op := Op.entryStore _ _ _ _, type := _, pos := _, after := _, guard := _ } :: _) _ _; refine wp_stamp rfl (.tmp 16) (.tmp 23) (.tmp 22) rfl (.slice (some ⟨g', 0, none⟩) (e.m + 1) cap') rfl rfl rfl ((ev es).set j (qv (ky r), .slice (some ⟨g', 0, none⟩) (e.m + 1) cap')) ST.out ?_)
        intro w6 m6 g6 s6
        have GG : Hid (Gr w6 (w.heap.size + 1) w.heap.size (l.take k ++ [r])) := gr_old HQ.out R4.out HD.out HJ.out HK.out G5.out O5.out LI.out (Nat.lt_succ_self _) g6 m6
        have L6 := Lib.hid (L5.out.grown g6 L5.out.size (fun j hj => by cases hj; exact Nat.le_refl _))
        clear m6 g6 s6 ST L5 O5 G5 LI NB R4
        go_wp2
        go_roundw
        case rel => exact ⟨k + 1, by omega, by go_num, by rw [HT.out]; exact GG.out, L6.out⟩
        case measure => simp [intOf]; omega
      · have HI := Lib.hid hin
        have HO' : Hid (∀ p ∈ ev es, p.1 ≠ qv (ky r)) := ev_out (by rw [HQ.out]; exact hin)
        have EN := Lib.hid (entry_new M3.out KT Try.underlying61 (zero _) HS'.out HX.out HO'.out)
        clear hin
        go_wp2_with (guard_target =~ wpList _ _ _ ({ dst := _, op := Op.mapEntry _ _ _, type := _, pos := _, after := _, guard := _ } :: _) _ _; refine wp_entry rfl (.tmp 16) (.tmp 17) rfl (qv (ky r)) (.slice none 0 0) rfl rfl (ev es ++ [(qv (ky r), .slice none 0 0)]) (ev es).length EN.out ?_)
        intro w4 st m4 g4 s4
        have M4 := Lib.hid m4
        have R4 := Lib.hid (rows_kept R3.out g4 (fun g hg _ h => by have h8 : g = w.heap.size := Option.some.inj h; omega))
        have L4 := Lib.hid (L3.out.grown g4 L3.out.size (fun j hj => by cases hj; exact Nat.le_refl _))
        have N4 := Lib.hid (N3.out.grown g4 (fun h => by have h8 : w2.heap.size = w.heap.size := Option.some.inj h; have := HB.out; omega))
        have S4 : Hid (w4.heap.size = w2.heap.size + 1) := s4
        clear m4 g4 s4 EN M3 R3 L3 N3 x0 x1 y0 y1 y2 y3 y4 y5
        go_wp2_with (at_builtin; refine wpList_append_lies w4 rfl (.tmp 18) (.tmp 20) 30 rfl (w.heap.size + 1) 68 i0 _ 6 72 Try.underlying30 hi hz0 hz1 hz2 rfl (by decide) (.slice none 0 0) 0 [] rfl (World.ownsRow_nil w4 _ _ _) ⟨w2.heap.size, 0, none⟩ 1 1 (fl [r]) rfl rfl (World.news_of_block N4.out) (one_fl [r]) (by decide) (by unfold maxLen; omega) (by omega) (by have h1 := HB.out; have h2 := S4.out; omega) w4.heap.size rfl ?_)
        intro g' cap' w5 hown hgrow hlies hlt5
        have O5 : Hid (w5.ownsRow (w.heap.size + 1) 68 6 (.slice (some ⟨g', 0, none⟩) 1 cap') 1 (fl [r])) := hown
        have G5 : Hid (w4.grownBy w5 none) := hgrow
        have LI : Hid (g' = w4.heap.size) := hlies.elim (fun h => by cases h) id
        have ST := Lib.hid ((M4.out.grown G5.out (by simp)).store (P := Try.prog) 61 (show (ev es ++ [(qv (ky r), Value.slice none 0 0)])[(ev es).length]? = some (qv (ky r), .slice none 0 0) from by rw [List.getElem?_append_right (Nat.le_refl _), Nat.sub_self]; rfl) (.slice (some ⟨g', 0, none⟩) 1 cap'))
        have L5 := Lib.hid (L4.out.grown G5.out L4.out.size (fun i hi => by cases hi))
        have EQ : Hid ((ev es ++ [(qv (ky r), Value.slice none 0 0)]).set (ev es).length (qv (ky r), Value.slice (some ⟨g', 0, none⟩) 1 cap') = ev es ++ [(qv (ky r), Value.slice (some ⟨g', 0, none⟩) 1 cap')]) := show _ = _ by
          rw [List.set_append_right _ _ (Nat.le_refl _), Nat.sub_self]; rfl
        clear hown hgrow hlies hlt5 M4 N4 L4
        rw [EQ.out] at ST
        go_wp2_with (guard_target =~ wpList _ _ _ ({ dst := _, op := Op.entryStore _ _ _ _, type := _, pos := _, after := _, guard := _ } :: _) _ _; refine wp_stamp rfl (.tmp 16) (.tmp 23) (.tmp 22) rfl (.slice (some ⟨g', 0, none⟩) 1 cap') rfl rfl rfl (ev es ++ [(qv (ky r), .slice (some ⟨g', 0, none⟩) 1 cap')]) ST.out ?_)
        intro w6 m6 g6 s6
        have GG : Hid (Gr w6 (w.heap.size + 1) w.heap.size (l.take k ++ [r])) := gr_new HQ.out R4.out HD.out HI.out G5.out O5.out LI.out (Nat.lt_succ_self _) g6 m6
        have L6 := Lib.hid (L5.out.grown g6 L5.out.size (fun j hj => by cases hj; exact Nat.le_refl _))
        clear m6 g6 s6 ST L5 O5 G5 LI EQ R4
        go_wp2
        go_roundw
        case rel => exact ⟨k + 1, by omega, by go_num, by rw [HT.out]; exact GG.out, L6.out⟩
        case measure => simp [intOf]; omega
    · obtain rfl : n = k := by omega
      have HN := Lib.hid (take_all HS.out.1)
      go_wp2
      go_ret
      exact ⟨w.heap.size, rfl, Nat.le_refl _, by have := HO.out; rw [HN.out] at this; exact this, HL.out⟩

set_option maxHeartbeats 4000000 in
theorem impl (s : ByteArray) (t : Int) (b0 o0 n c : Nat) (l : List Rec) (w : World) (hs : Sr w w.heap.size (some ⟨b0, o0, none⟩) n l) (hn : n ≤ 100000000) : Calls Try.prog 78 #[.slice (some ⟨b0, o0, none⟩) n c, .string s, .int .i64 t] w (GivesL w (sf s t l)) := by
  have SE := Lib.hid (sets b0 o0 n c l w hs hn)
  have HN := Lib.hid hs.1
  clear hs
  go_enter Try.func78, Try.ntmps78
  go_wp2_with fail
  refine SE.out.mono ?_
  rintro e w1 ⟨b, rfl, hb, ⟨es, hm, hq, ho, hd⟩, hl⟩
  have M1 := Lib.hid hm
  have HQ := Lib.hid hq
  have R1 := Lib.hid ho
  have L1 := Lib.hid hl
  have HS' := Lib.hid (ev_key es)
  have HND := Lib.hid (ev_nodup (es := es) (by rw [hq]; exact nodup_uq _))
  have HX : Hid (KeyT.KQ (qv ⟨s, t⟩)) := ⟨⟨s, t⟩, rfl⟩
  have KT := KeyT.quests
  clear hm hq ho hd hl SE hb
  by_cases hin : (⟨s, t⟩ : Key) ∈ uq (kl l)
  · obtain ⟨j, e, hj, hk'⟩ : ∃ (j : Nat) (e : Ge), es[j]? = some e ∧ e.q = ⟨s, t⟩ := by
      rw [← HQ.out] at hin
      obtain ⟨e, he, hq⟩ := List.mem_map.1 hin
      obtain ⟨j, hj⟩ := List.getElem?_of_mem he
      exact ⟨j, e, hj, hq⟩
    have OW := Lib.hid (R1.out j e hj)
    have HE : Hid (sq e.q l = sf s t l) := show _ = _ by rw [hk']; rfl
    have HM := Lib.hid (own_m OW.out)
    have hm : e.m ≤ n := by
      have h1 := HM.out
      have h2 := sf_len e.q.name e.q.ty l
      have h3 : (sq e.q l).length ≤ l.length := h2
      have := HN.out
      omega
    have LK : Hid ((Instr.lookup 61 (.map (some b)) (.agg #[.string s, .int .i64 t]) false).run Try.prog w1 = .ok (.slice (some ⟨e.g, 0, none⟩) e.m e.cap) w1) := M1.out.in KT Try.underlying61 HS'.out HND.out HX.out (show (qv ⟨s, t⟩, sv e) ∈ ev es from by rw [← hk']; exact List.mem_of_getElem? (ev_at hj)) false
    have SR : Hid (Sr w1 w1.heap.size (some ⟨e.g, 0, none⟩) e.m (sf s t l)) := by
      obtain ⟨r', hb, _⟩ := bk_of_owns6 OW.out
      rw [HE.out] at hb HM
      exact bk_sr hb HM.out
    clear hin hj hk'
    go_wp2_with (at_lookup; refine wp_look rfl _ _ false rfl (.agg #[.string s, .int .i64 t]) (.slice (some ⟨e.g, 0, none⟩) e.m e.cap) rfl rfl LK.out ?_)
    refine (CpyR.copyI e.g 0 e.m e.cap (sf s t l) w1 SR.out (by omega)).mono ?_
    rintro e' w2 ⟨g, cp, r, rfl, hcap, hg, hb, hl⟩
    have B2 := Lib.hid hb
    have G2 := Lib.hid (Nat.le_trans L1.out.size hg)
    have L2 := Lib.hid (L1.out.trans (hl.mono L1.out.size))
    have C2 := Lib.hid hcap
    have H2 : Hid ((sf s t l).length = e.m) := by rw [HE.out] at HM; exact HM
    clear hb hg hl hcap
    go_wp2
    go_ret
    exact ⟨g, e.m, cp, r, rfl, H2.out, C2.out, G2.out, B2.out, L2.out⟩
  · have HE : Hid (sf s t l = []) := sq_none (q := ⟨s, t⟩) (fun h => hin (mem_uq.2 h))
    have LK : Hid ((Instr.lookup 61 (.map (some b)) (.agg #[.string s, .int .i64 t]) false).run Try.prog w1 = .ok (.slice none 0 0) w1) := M1.out.out KT Try.underlying61 (zero _) HS'.out HX.out (ev_out (by rw [HQ.out]; exact hin)) false
    clear hin
    go_wp2_with (at_lookup; refine wp_look rfl _ _ false rfl (.agg #[.string s, .int .i64 t]) (.slice none 0 0) rfl rfl LK.out ?_)
    refine (copyNil w1).mono ?_
    rintro e' w2 ⟨g, cp, r, rfl, hcap, hg, hb, hl⟩
    have B2 := Lib.hid hb
    have G2 := Lib.hid (Nat.le_trans L1.out.size hg)
    have L2 := Lib.hid (L1.out.trans (hl.mono L1.out.size))
    have C2 := Lib.hid hcap
    clear hb hg hl hcap
    go_wp2
    go_ret
    rw [HE.out]
    exact ⟨g, 0, cp, r, rfl, rfl, C2.out, G2.out, B2.out, L2.out⟩
end Go.Proofs.Ytmabbeefeipnaaa.SetI
