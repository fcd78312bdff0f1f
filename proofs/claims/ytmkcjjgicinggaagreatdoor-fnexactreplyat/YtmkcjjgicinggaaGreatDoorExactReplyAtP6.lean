/- What each kind of reply holds, in the program: refusal, referral, aliasReply, setReply, noDataReply, noNameReply. Condition: at most 1048576 records, no name of more than 400000000 bytes. -/
import Derived.Test.YtmkcjjgicinggaaGreatDoorExactReplyAtP5
import Derived.Test.YtmkcjjgicinggaaGreatDoorExactReplyAtP4
import Derived.Deep.DeepCutAuto
import Derived.Test.YtmkcjjgicinggaaGreatDoorExactReplyAtP1
import Derived.Test.YtmkcjjgicinggaaGreatDoorExactReplyAtP3
import Derived.Test.YtmkcjjgicinggaaGreatDoorMemZ
import Derived.Test.YtmkcjjgicinggaaGreatDoorExactReplyAtP2
import Derived.Test.YtmkcjjgicinggaaGreatDoorMemS
import Derived.Deep.RegionHeld3
/- What setsOf and SetOf do in the program: a map of slices, one for each name and type; the records of a name and a type, in order. Condition: fewer than 100000001 records. -/
namespace Go.Proofs.YtmkcjjgicinggaaGreatDoor.SetI
open Go.RowKit Go.Proofs.YtmkcjjgicinggaaGreatDoor.Mem Go.Proofs.YtmkcjjgicinggaaGreatDoor.MemR Go.Proofs.YtmkcjjgicinggaaGreatDoor.SetMath Go.Proofs.YtmkcjjgicinggaaGreatDoor.MemQ Go.Proofs.YtmkcjjgicinggaaGreatDoor.MapK Go.Proofs.YtmkcjjgicinggaaGreatDoor.MapE Go.Proofs.YtmkcjjgicinggaaGreatDoor.GrpM Go.Proofs.YtmkcjjgicinggaaGreatDoor.AppR Go.Proofs.YtmkcjjgicinggaaGreatDoor.Wt

/-- The call returned a map of groups, and turned nothing that was there. -/
def GivesG (w : World) (l : List Rec) (e : Ending) (w' : World) : Prop :=
  ∃ b, e = .returned (.map (some b)) ∧ w.heap.size ≤ b ∧ Gr w' (w.heap.size + 1) b l ∧ Below w.heap.size w w'

theorem zero (w : World) : (zeroValue 35).run Tryz.prog w = .ok (.slice none 0 0) w := by kernel_rfl

theorem gr_zero {w : World} {base b : Nat} {l : List Rec} (h : Mp w b []) : Gr w base b (l.take 0) :=
  ⟨[], h, rfl, fun i e he => by simp at he, fun i i' e e' he => by simp at he⟩

set_option maxHeartbeats 2000000 in
/-- copyRecords of nil. -/
theorem copyNil (w : World) : Calls Tryz.prog 61 #[.slice none 0 0] w (CpyR.GivesC w 0 []) := by
  have L0 := Lib.hid ((Below.refl w.heap.size w).alloc (Nat.le_refl _) (.cells #[] 93))
  have O0 := Lib.hid (AppR.owns_new w)
  go_enter Tryz.func61, Tryz.ntmps61
  obtain ⟨i0, hi, hz0, hz1, hz2⟩ := info_parts CopyR.info
  go_wp2_with (at_builtin; refine wpList_append_own_none rfl (.tmp 3) (.tmp 4) 35 rfl w.heap.size 93 i0 6 Tryz.underlying35 hi hz1 _ 0 [] rfl O0.out rfl ?_)
  go_wp2
  go_ret
  obtain ⟨r, hb, _, _, hg⟩ := bk_of_owns6 O0.out
  exact ⟨w.heap.size, 0, r, rfl, Nat.le_refl _, hg, hb, L0.out⟩

set_option maxRecDepth 100000 in
set_option maxHeartbeats 4000000 in
theorem sets (b0 o0 n c : Nat) (l : List Rec) (w : World) (hs : Sr w w.heap.size (some ⟨b0, o0, none⟩) n l) (hn : n ≤ 100000000) : Calls Tryz.prog 62 #[.slice (some ⟨b0, o0, none⟩) n c] w (GivesG w l) := by
  have HS := Lib.hid hs
  clear hs
  have hmm := @run_makeMap Tryz.prog
  obtain ⟨i0, hi, hz0, hz1, hz2⟩ := info_parts CopyR.info
  have P0 := Lib.hid (gr_zero (base := w.heap.size + 1) (l := l) (Mp.made w))
  have L0 := Lib.hid ((Below.refl w.heap.size w).alloc (Nat.le_refl _) (.map #[] 0))
  go_enter Tryz.func62, Tryz.ntmps62
  go_wp2
  generalize w.alloc (.map #[] 0) = w0 at *
  go_loopw [10] (fun i wr => ∃ k : Nat, k ≤ n ∧ i = .int .i64 k ∧ Hid (Gr wr (w.heap.size + 1) w.heap.size (l.take k)) ∧ Hid (Below w.heap.size w wr)) (fun i _ => n - (intOf i).toNat)
  case atStart => exact ⟨0, Nat.zero_le _, rfl, P0.out, L0.out⟩
  case round =>
    clear P0 L0
    obtain ⟨k, hk, rfl, HO, HL⟩ := hrel
    by_cases hlt : k < n
    · obtain ⟨b, off, hA, hbB, hcs⟩ := HS.out.2 (by omega)
      obtain ⟨rfl, rfl⟩ : b0 = b ∧ o0 = off := by simp at hA; exact hA
      clear hA
      have hkl : k < l.length := by rw [HS.out.1]; exact hlt
      obtain ⟨e0, e1, e2, e3, e4, e5⟩ := (hcs k hkl).below HL.out hbB
      clear hcs
      have HT := Lib.hid (List.take_succ_eq_append_getElem hkl)
      have HTL : Hid ((l.take k).length = k) := show _ = _ by simp; omega
      generalize l[k] = r at *
      obtain ⟨es, hm, hq, ho, hd⟩ := HO.out
      clear HO
      have HM := Lib.hid hm
      have HQ := Lib.hid hq
      have HR := Lib.hid ho
      have HD := Lib.hid hd
      clear hm hq ho hd
      have B1 : Hid (Bk (wr.alloc (.cells #[.string r.name, .int .i64 r.ty, .int .i64 r.ttl, .int .i64 r.n, .string r.host, .string r.text] 93)) wr.heap.size 93 (rc r)) := heap_alloc_new wr _
      have hgB : w.heap.size ≤ wr.heap.size := HL.out.size
      go_wp2_with fail
      refine (KeyI.keyOf r _).mono ?_
      rintro e w1 ⟨rfl, hl⟩
      have hlA : Below wr.heap.size wr w1 := ((Below.refl wr.heap.size wr).alloc (Nat.le_refl _) _).trans (hl.mono (by simp))
      have M1 := Lib.hid ((HM.out.below hlA HM.out.lt).alloc (.cells #[.string r.name, .int .i64 r.ty] 29))
      have R1 := Lib.hid (rows_kept HR.out (row := none) (w' := w1.alloc (.cells #[.string r.name, .int .i64 r.ty] 29)) (World.grownBy.trans ⟨hlA.os, hlA.tape, hlA.output, hlA.size, fun k hk _ => hlA.block k hk⟩ (World.grownBy_alloc w1 _ none)) (by simp))
      have L1 := Lib.hid ((HL.out.trans (hlA.mono HL.out.size)).alloc (Nat.le_trans HL.out.size hlA.size) (.cells #[.string r.name, .int .i64 r.ty] 29))
      have X1 := Lib.hid ((B1.out.below hl (by simp)).alloc (.cells #[.string r.name, .int .i64 r.ty] 29))
      have Y1 : Hid (Bk (w1.alloc (.cells #[.string r.name, .int .i64 r.ty] 29)) w1.heap.size 29 [.string r.name, .int .i64 r.ty]) := heap_alloc_new w1 _
      clear hl hlA HM HR HL B1 e0 e1 e2 e3 e4 e5
      go_upto_region 6 with (fail)
      generalize w1.alloc (.cells #[.string r.name, .int .i64 r.ty] 29) = w2 at *
      generalize w1.heap.size = gk at *
      have x0 := Y1.out.cell 0
      have x1 := Y1.out.cell 1
      have y0 : w2.cell? ⟨wr.heap.size, 0, none⟩ = some (.string r.name) := X1.out.cell 0
      have y1 : w2.cell? ⟨wr.heap.size, 1, none⟩ = some (.int .i64 r.ty) := X1.out.cell 1
      have y2 : w2.cell? ⟨wr.heap.size, 2, none⟩ = some (.int .i64 r.ttl) := X1.out.cell 2
      have y3 : w2.cell? ⟨wr.heap.size, 3, none⟩ = some (.int .i64 r.n) := X1.out.cell 3
      have y4 : w2.cell? ⟨wr.heap.size, 4, none⟩ = some (.string r.host) := X1.out.cell 4
      have y5 : w2.cell? ⟨wr.heap.size, 5, none⟩ = some (.string r.text) := X1.out.cell 5
      have KT := KeyT.quests
      have M3 := Lib.hid (M1.out.alloc (.cells #[.string r.name, .int .i64 r.ty, .int .i64 r.ttl, .int .i64 r.n, .string r.host, .string r.text] 93))
      have R3 := Lib.hid (rows_kept R1.out (World.grownBy_alloc w2 (.cells #[.string r.name, .int .i64 r.ty, .int .i64 r.ttl, .int .i64 r.n, .string r.host, .string r.text] 93) none) (by simp))
      have L3 := Lib.hid (L1.out.alloc L1.out.size (.cells #[.string r.name, .int .i64 r.ty, .int .i64 r.ttl, .int .i64 r.n, .string r.host, .string r.text] 93))
      have N3 : Hid (Bk (w2.alloc (.cells #[.string r.name, .int .i64 r.ty, .int .i64 r.ttl, .int .i64 r.n, .string r.host, .string r.text] 93)) w2.heap.size 93 (fl [r])) := heap_alloc_new w2 _
      have HB : Hid (w.heap.size < w2.heap.size) := M1.out.lt
      have HS' := Lib.hid (ev_key es)
      have HND := Lib.hid (ev_nodup (es := es) (by rw [HQ.out]; exact nodup_uq _))
      have HX : Hid (KeyT.KQ (qv (ky r))) := ⟨ky r, rfl⟩
      clear M1 R1 L1 X1 Y1 hgB
      by_cases hin : ky r ∈ uq (kl (l.take k))
      · obtain ⟨j, e, hj, hk'⟩ : ∃ (j : Nat) (e : Ge), es[j]? = some e ∧ e.q = ky r := by
          rw [← HQ.out] at hin
          obtain ⟨e, he, hq⟩ := List.mem_map.1 hin
          obtain ⟨j, hj⟩ := List.getElem?_of_mem he
          exact ⟨j, e, hj, hq⟩
        have HJ := Lib.hid hj
        have HK := Lib.hid hk'
        have hem : e.m ≤ k := by
          have h1 := own_m (R3.out j e hj)
          have h2 := sf_len_take e.q.name e.q.ty l k
          have h3 : (sq e.q (l.take k)).length ≤ k := h2
          omega
        have EN := Lib.hid (entry_old M3.out KT Tryz.underlying96 HS'.out HND.out HX.out (show (ev es)[j]? = some (qv (ky r), sv e) from by rw [← hk']; exact ev_at hj))
        clear hin hj hk'
        go_wp2_with (guard_target =~ wpList _ _ _ ({ dst := _, op := Op.mapEntry _ _ _, type := _, pos := _, after := _, guard := _ } :: _) _ _; refine wp_entry rfl (.tmp 16) (.tmp 17) rfl (qv (ky r)) (sv e) rfl rfl (ev es) j EN.out ?_)
        intro w4 st m4 g4 s4
        have M4 := Lib.hid m4
        have R4 := Lib.hid (rows_kept R3.out g4 (fun g hg _ h => by have h8 : g = w.heap.size := Option.some.inj h; omega))
        have L4 := Lib.hid (L3.out.grown g4 L3.out.size (fun j hj => by cases hj; exact Nat.le_refl _))
        have N4 := Lib.hid (N3.out.grown g4 (fun h => by have h8 : w2.heap.size = w.heap.size := Option.some.inj h; have := HB.out; omega))
        have S4 : Hid (w4.heap.size = w2.heap.size + 1) := s4
        clear m4 g4 s4 EN M3 R3 L3 N3 x0 x1 y0 y1 y2 y3 y4 y5
        go_wp2_with (at_builtin; refine wpList_append_lies w4 rfl (.tmp 18) (.tmp 20) 35 rfl (w.heap.size + 1) 93 i0 _ 6 72 Tryz.underlying35 hi hz0 hz1 hz2 rfl (by decide) (sv e) e.m (fl (sq e.q (l.take k))) rfl (R4.out j e HJ.out) ⟨w2.heap.size, 0, none⟩ 1 1 (fl [r]) rfl rfl (World.news_of_block N4.out) (one_fl [r]) (by decide) (by unfold maxLen; omega) (by omega) (by have h1 := HB.out; have h2 := S4.out; omega) w4.heap.size rfl ?_)
        intro g' cap' w5 hown hgrow hlies hlt5
        have O5 := Lib.hid hown
        have G5 : Hid (w4.grownBy w5 (some e.g)) := hgrow
        have LI : Hid (e.g = g' ∨ g' = w4.heap.size) := hlies.imp (fun h => Option.some.inj h) id
        have NB : Hid (some w.heap.size ≠ some e.g) := fun h => by
          have h8 : w.heap.size = e.g := Option.some.inj h
          have := own_lt (R4.out j e HJ.out)
          omega
        have ST := Lib.hid ((M4.out.grown G5.out NB.out).store (P := Tryz.prog) 96 (show (ev es)[j]? = some (qv e.q, sv e) from ev_at HJ.out) (.slice (some ⟨g', 0, none⟩) (e.m + 1) cap'))
        have L5 := Lib.hid (L4.out.grown G5.out L4.out.size (fun i hi => by cases hi; have := own_lt (R4.out j e HJ.out); omega))
        clear hown hgrow hlies hlt5 M4 N4 L4
        rw [HK.out] at ST
        go_wp2_with (guard_target =~ wpList _ _ _ ({ dst := _, op := Op.entryStore _ _ _ _, type := _, pos := _, after := _, guard := _ } :: _) _ _; refine wp_stamp rfl (.tmp 16) (.tmp 23) (.tmp 22) rfl (.slice (some ⟨g', 0, none⟩) (e.m + 1) cap') rfl rfl rfl ((ev es).set j (qv (ky r), .slice (some ⟨g', 0, none⟩) (e.m + 1) cap')) ST.out ?_)
        intro w6 m6 g6 s6
        have GG : Hid (Gr w6 (w.heap.size + 1) w.heap.size (l.take k ++ [r])) := gr_old HQ.out R4.out HD.out HJ.out HK.out G5.out O5.out LI.out (Nat.lt_succ_self _) g6 m6
        have L6 := Lib.hid (L5.out.grown g6 L5.out.size (fun j hj => by cases hj; exact Nat.le_refl _))
        clear m6 g6 s6 ST L5 O5 G5 LI NB R4
        go_wp2
        go_roundw
        case rel => exact ⟨k + 1, by omega, by go_num, by rw [HT.out]; exact GG.out, L6.out⟩
        case measure => simp [intOf]; omega
      · have HI := Lib.hid hin
        have HO' : Hid (∀ p ∈ ev es, p.1 ≠ qv (ky r)) := ev_out (by rw [HQ.out]; exact hin)
        have EN := Lib.hid (entry_new M3.out KT Tryz.underlying96 (zero _) HS'.out HX.out HO'.out)
        clear hin
        go_wp2_with (guard_target =~ wpList _ _ _ ({ dst := _, op := Op.mapEntry _ _ _, type := _, pos := _, after := _, guard := _ } :: _) _ _; refine wp_entry rfl (.tmp 16) (.tmp 17) rfl (qv (ky r)) (.slice none 0 0) rfl rfl (ev es ++ [(qv (ky r), .slice none 0 0)]) (ev es).length EN.out ?_)
        intro w4 st m4 g4 s4
        have M4 := Lib.hid m4
        have R4 := Lib.hid (rows_kept R3.out g4 (fun g hg _ h => by have h8 : g = w.heap.size := Option.some.inj h; omega))
        have L4 := Lib.hid (L3.out.grown g4 L3.out.size (fun j hj => by cases hj; exact Nat.le_refl _))
        have N4 := Lib.hid (N3.out.grown g4 (fun h => by have h8 : w2.heap.size = w.heap.size := Option.some.inj h; have := HB.out; omega))
        have S4 : Hid (w4.heap.size = w2.heap.size + 1) := s4
        clear m4 g4 s4 EN M3 R3 L3 N3 x0 x1 y0 y1 y2 y3 y4 y5
        go_wp2_with (at_builtin; refine wpList_append_lies w4 rfl (.tmp 18) (.tmp 20) 35 rfl (w.heap.size + 1) 93 i0 _ 6 72 Tryz.underlying35 hi hz0 hz1 hz2 rfl (by decide) (.slice none 0 0) 0 [] rfl (World.ownsRow_nil w4 _ _ _) ⟨w2.heap.size, 0, none⟩ 1 1 (fl [r]) rfl rfl (World.news_of_block N4.out) (one_fl [r]) (by decide) (by unfold maxLen; omega) (by omega) (by have h1 := HB.out; have h2 := S4.out; omega) w4.heap.size rfl ?_)
        intro g' cap' w5 hown hgrow hlies hlt5
        have O5 : Hid (w5.ownsRow (w.heap.size + 1) 93 6 (.slice (some ⟨g', 0, none⟩) 1 cap') 1 (fl [r])) := hown
        have G5 : Hid (w4.grownBy w5 none) := hgrow
        have LI : Hid (g' = w4.heap.size) := hlies.elim (fun h => by cases h) id
        have ST := Lib.hid ((M4.out.grown G5.out (by simp)).store (P := Tryz.prog) 96 (show (ev es ++ [(qv (ky r), Value.slice none 0 0)])[(ev es).length]? = some (qv (ky r), .slice none 0 0) from by rw [List.getElem?_append_right (Nat.le_refl _), Nat.sub_self]; rfl) (.slice (some ⟨g', 0, none⟩) 1 cap'))
        have L5 := Lib.hid (L4.out.grown G5.out L4.out.size (fun i hi => by cases hi))
        have EQ : Hid ((ev es ++ [(qv (ky r), Value.slice none 0 0)]).set (ev es).length (qv (ky r), Value.slice (some ⟨g', 0, none⟩) 1 cap') = ev es ++ [(qv (ky r), Value.slice (some ⟨g', 0, none⟩) 1 cap')]) := show _ = _ by
          rw [List.set_append_right _ _ (Nat.le_refl _), Nat.sub_self]; rfl
        clear hown hgrow hlies hlt5 M4 N4 L4
        rw [EQ.out] at ST
        go_wp2_with (guard_target =~ wpList _ _ _ ({ dst := _, op := Op.entryStore _ _ _ _, type := _, pos := _, after := _, guard := _ } :: _) _ _; refine wp_stamp rfl (.tmp 16) (.tmp 23) (.tmp 22) rfl (.slice (some ⟨g', 0, none⟩) 1 cap') rfl rfl rfl (ev es ++ [(qv (ky r), .slice (some ⟨g', 0, none⟩) 1 cap')]) ST.out ?_)
        intro w6 m6 g6 s6
        have GG : Hid (Gr w6 (w.heap.size + 1) w.heap.size (l.take k ++ [r])) := gr_new HQ.out R4.out HD.out HI.out G5.out O5.out LI.out (Nat.lt_succ_self _) g6 m6
        have L6 := Lib.hid (L5.out.grown g6 L5.out.size (fun j hj => by cases hj; exact Nat.le_refl _))
        clear m6 g6 s6 ST L5 O5 G5 LI EQ R4
        go_wp2
        go_roundw
        case rel => exact ⟨k + 1, by omega, by go_num, by rw [HT.out]; exact GG.out, L6.out⟩
        case measure => simp [intOf]; omega
    · obtain rfl : n = k := by omega
      have HN := Lib.hid (take_all HS.out.1)
      go_wp2
      go_ret
      exact ⟨w.heap.size, rfl, Nat.le_refl _, by have := HO.out; rw [HN.out] at this; exact this, HL.out⟩

set_option maxHeartbeats 4000000 in
theorem impl (s : ByteArray) (t : Int) (b0 o0 n c : Nat) (l : List Rec) (w : World) (hs : Sr w w.heap.size (some ⟨b0, o0, none⟩) n l) (hn : n ≤ 100000000) : Calls Tryz.prog 15 #[.slice (some ⟨b0, o0, none⟩) n c, .string s, .int .i64 t] w (GivesL w (sf s t l)) := by
  have SE := Lib.hid (sets b0 o0 n c l w hs hn)
  have HN := Lib.hid hs.1
  clear hs
  go_enter Tryz.func15, Tryz.ntmps15
  go_wp2_with fail
  refine SE.out.mono ?_
  rintro e w1 ⟨b, rfl, hb, ⟨es, hm, hq, ho, hd⟩, hl⟩
  have M1 := Lib.hid hm
  have HQ := Lib.hid hq
  have R1 := Lib.hid ho
  have L1 := Lib.hid hl
  have HS' := Lib.hid (ev_key es)
  have HND := Lib.hid (ev_nodup (es := es) (by rw [hq]; exact nodup_uq _))
  have HX : Hid (KeyT.KQ (qv ⟨s, t⟩)) := ⟨⟨s, t⟩, rfl⟩
  have KT := KeyT.quests
  clear hm hq ho hd hl SE hb
  by_cases hin : (⟨s, t⟩ : Key) ∈ uq (kl l)
  · obtain ⟨j, e, hj, hk'⟩ : ∃ (j : Nat) (e : Ge), es[j]? = some e ∧ e.q = ⟨s, t⟩ := by
      rw [← HQ.out] at hin
      obtain ⟨e, he, hq⟩ := List.mem_map.1 hin
      obtain ⟨j, hj⟩ := List.getElem?_of_mem he
      exact ⟨j, e, hj, hq⟩
    have OW := Lib.hid (R1.out j e hj)
    have HE : Hid (sq e.q l = sf s t l) := show _ = _ by rw [hk']; rfl
    have HM := Lib.hid (own_m OW.out)
    have hm : e.m ≤ n := by
      have h1 := HM.out
      have h2 := sf_len e.q.name e.q.ty l
      have h3 : (sq e.q l).length ≤ l.length := h2
      have := HN.out
      omega
    have LK : Hid ((Instr.lookup 96 (.map (some b)) (.agg #[.string s, .int .i64 t]) false).run Tryz.prog w1 = .ok (.slice (some ⟨e.g, 0, none⟩) e.m e.cap) w1) := M1.out.in KT Tryz.underlying96 HS'.out HND.out HX.out (show (qv ⟨s, t⟩, sv e) ∈ ev es from by rw [← hk']; exact List.mem_of_getElem? (ev_at hj)) false
    have SR : Hid (Sr w1 w1.heap.size (some ⟨e.g, 0, none⟩) e.m (sf s t l)) := by
      obtain ⟨r', hb, _⟩ := bk_of_owns6 OW.out
      rw [HE.out] at hb HM
      exact bk_sr hb HM.out
    clear hin hj hk'
    go_wp2_with (at_lookup; refine wp_look rfl _ _ false rfl (.agg #[.string s, .int .i64 t]) (.slice (some ⟨e.g, 0, none⟩) e.m e.cap) rfl rfl LK.out ?_)
    refine (CpyR.copyI e.g 0 e.m e.cap (sf s t l) w1 SR.out (by omega)).mono ?_
    rintro e' w2 ⟨g, cp, r, rfl, hcap, hg, hb, hl⟩
    have B2 := Lib.hid hb
    have G2 := Lib.hid (Nat.le_trans L1.out.size hg)
    have L2 := Lib.hid (L1.out.trans (hl.mono L1.out.size))
    have C2 := Lib.hid hcap
    have H2 : Hid ((sf s t l).length = e.m) := by rw [HE.out] at HM; exact HM
    clear hb hg hl hcap
    go_wp2
    go_ret
    exact ⟨g, e.m, cp, r, rfl, H2.out, C2.out, G2.out, B2.out, L2.out⟩
  · have HE : Hid (sf s t l = []) := sq_none (q := ⟨s, t⟩) (fun h => hin (mem_uq.2 h))
    have LK : Hid ((Instr.lookup 96 (.map (some b)) (.agg #[.string s, .int .i64 t]) false).run Tryz.prog w1 = .ok (.slice none 0 0) w1) := M1.out.out KT Tryz.underlying96 (zero _) HS'.out HX.out (ev_out (by rw [HQ.out]; exact hin)) false
    clear hin
    go_wp2_with (at_lookup; refine wp_look rfl _ _ false rfl (.agg #[.string s, .int .i64 t]) (.slice none 0 0) rfl rfl LK.out ?_)
    refine (copyNil w1).mono ?_
    rintro e' w2 ⟨g, cp, r, rfl, hcap, hg, hb, hl⟩
    have B2 := Lib.hid hb
    have G2 := Lib.hid (Nat.le_trans L1.out.size hg)
    have L2 := Lib.hid (L1.out.trans (hl.mono L1.out.size))
    have C2 := Lib.hid hcap
    clear hb hg hl hcap
    go_wp2
    go_ret
    rw [HE.out]
    exact ⟨g, 0, cp, r, rfl, rfl, C2.out, G2.out, B2.out, L2.out⟩
end Go.Proofs.YtmkcjjgicinggaaGreatDoor.SetI

/- What firstsOf does at texts: a new slice with the texts, each once, in the order of the first occurrences. Condition: fewer than 400000001 of them. -/
namespace Go.Proofs.YtmkcjjgicinggaaGreatDoor.FstS
open Go.RowKit Go.Proofs.YtmkcjjgicinggaaGreatDoor.Mem Go.Proofs.YtmkcjjgicinggaaGreatDoor.SetMath Go.Proofs.YtmkcjjgicinggaaGreatDoor.MapK Go.Proofs.YtmkcjjgicinggaaGreatDoor.KeyT Go.Proofs.YtmkcjjgicinggaaGreatDoor.MemS Go.Proofs.YtmkcjjgicinggaaGreatDoor.AppS

/-- The entries of a set. -/
def en (l : List ByteArray) : List (Value × Value) := l.map (fun x => (.string x, .bool true))

theorem en_key (l : List ByteArray) : ∀ p ∈ en l, KS p.1 := by
  intro p hp
  obtain ⟨x, _, rfl⟩ := List.mem_map.1 hp
  exact ⟨x, rfl⟩

theorem val_inj {x y : ByteArray} (h : (.string x : Value) = .string y) : x = y := by simpa using h

theorem en_out {l : List ByteArray} {x : ByteArray} (h : x ∉ l) : ∀ p ∈ en l, p.1 ≠ .string x := by
  intro p hp e
  obtain ⟨y, hy, rfl⟩ := List.mem_map.1 hp
  exact h (val_inj e ▸ hy)

theorem en_in {l : List ByteArray} {x : ByteArray} (h : x ∈ l) : (.string x, Value.bool true) ∈ en l := List.mem_map.2 ⟨x, h, rfl⟩

theorem en_nodup : ∀ {l : List ByteArray}, l.Nodup → ((en l).map Prod.fst).Nodup
  | [], _ => by simp [en]
  | x :: l, h => by
    obtain ⟨h1, h2⟩ := List.nodup_cons.1 h
    show (.string x :: (en l).map Prod.fst).Nodup
    refine List.nodup_cons.2 ⟨fun hm => ?_, en_nodup h2⟩
    obtain ⟨p, hp, he⟩ := List.mem_map.1 hm
    exact en_out h1 p hp he

theorem en_snoc (l : List ByteArray) (x : ByteArray) : en (l ++ [x]) = en l ++ [(.string x, .bool true)] := by simp [en]

theorem zero (w : World) : (zeroValue 4).run Tryz.prog w = .ok (.bool false) w := by kernel_rfl

theorem made_own (w : World) : ((w.alloc (.map #[] 0)).alloc (.cells #[] 9)).ownsRow (w.heap.size + 1) 9 1 (.slice (some ⟨w.heap.size + 1, 0, none⟩) 0 0) 0 [] := by
  have e : (w.alloc (.map #[] 0)).heap.size = w.heap.size + 1 := by simp
  have := owns_new (w.alloc (.map #[] 0))
  rwa [e] at this

set_option maxHeartbeats 4000000 in
theorem impl (A0 : Option Addr) (n c : Nat) (l : List ByteArray) (w : World) (hs : Ss w w.heap.size A0 n l) (hn : n ≤ 400000000) :
    Calls Tryz.prog 60 #[.slice A0 n c] w (GivesS w (uq l)) := by
  obtain ⟨i0, hi, hz0, hz1, hz2⟩ := info_parts info
  have HS := Lib.hid hs
  clear hs
  have hmm := @run_makeMap Tryz.prog
  have P0 := Lib.hid (made_own w)
  have M0 := Lib.hid ((Mp.made w).alloc (.cells #[] 9))
  have L0 := Lib.hid (((Below.refl w.heap.size w).alloc (Nat.le_refl _) (.map #[] 0)).alloc (by simp) (.cells #[] 9))
  go_enter Tryz.func60, Tryz.ntmps60
  go_wp2
  generalize (w.alloc (.map #[] 0)).alloc (.cells #[] 9) = w0 at *
  go_loopw [4, 11] (fun out i wr => ∃ k g m cap : Nat, k ≤ n ∧ m ≤ k ∧ i = .int .i64 k ∧ out = .slice (some ⟨g, 0, none⟩) m cap ∧ Hid (wr.ownsRow (w.heap.size + 1) 9 1 (.slice (some ⟨g, 0, none⟩) m cap) m ((uq (l.take k)).map tv)) ∧ Hid (Mp wr w.heap.size (en (uq (l.take k)))) ∧ Hid (Below w.heap.size w wr)) (fun _ i _ => n - (intOf i).toNat)
  case atStart => exact ⟨0, w.heap.size + 1, 0, 0, Nat.zero_le _, Nat.le_refl _, rfl, rfl, P0.out, M0.out, L0.out⟩
  case round =>
    clear P0 M0 L0
    obtain ⟨k, g, m, cap, hk, hm, rfl, rfl, HO, HM, HL⟩ := hrel
    by_cases hlt : k < n
    · obtain ⟨b, off, rfl, hbB, hcs⟩ := HS.out.2 (by omega)
      have hkl : k < l.length := by rw [HS.out.1]; exact hlt
      have HU := Lib.hid (uq_take l k hkl)
      have e0 : wr.cell? ⟨b, off + k, none⟩ = some (.string l[k]) := (HL.out.cell (p := ⟨b, off + k, none⟩) hbB).trans (hcs k hkl)
      clear hcs
      generalize l[k] = x at *
      have M1 := Lib.hid HM.out
      have O1 := Lib.hid HO.out
      have L1 := Lib.hid HL.out
      have HE := Lib.hid (en_key (uq (l.take k)))
      have HD := Lib.hid (en_nodup (nodup_uq (l.take k)))
      have HX : Hid (KS (.string x)) := ⟨x, rfl⟩
      by_cases hin : x ∈ uq (l.take k)
      · have HA := Lib.hid (HU.out.trans (add_in hin))
        have HI := Lib.hid (en_in hin)
        clear hin
        have LK : Hid ((Instr.lookup 145 (.map (some w.heap.size)) (.string x) false).run Tryz.prog wr = .ok (.bool true) wr) := M1.out.in KeyT.strings Tryz.underlying145 HE.out HD.out HX.out HI.out false
        go_wp2_with (at_lookup; refine wp_look rfl _ _ false rfl (.string x) (.bool true) rfl rfl LK.out ?_)
        go_roundw
        case rel => exact ⟨k + 1, g, m, cap, by omega, by omega, by go_num, rfl, by rw [HA.out]; exact O1.out, by rw [HA.out]; exact M1.out, L1.out⟩
        case measure => simp [intOf]; omega
      · have HA := Lib.hid (HU.out.trans (add_out hin))
        have HI := Lib.hid (en_out hin)
        clear hin
        have LK : Hid ((Instr.lookup 145 (.map (some w.heap.size)) (.string x) false).run Tryz.prog wr = .ok (.bool false) wr) := M1.out.out KeyT.strings Tryz.underlying145 (zero _) HE.out HX.out HI.out false
        have ST := Lib.hid (M1.out.new KeyT.strings Tryz.underlying145 HE.out (.bool true) HX.out HI.out)
        go_wp2_with (first | (at_lookup; refine wp_look rfl _ _ false rfl (.string x) (.bool false) rfl rfl LK.out ?_) | (at_mapUpdate; refine wp_store rfl _ _ _ rfl (.string x) (.bool true) rfl rfl rfl (en (uq (l.take k)) ++ [(.string x, .bool true)]) ST.out ?_))
        intro w2 m2 g2 s2
        clear LK ST
        have M2 := Lib.hid m2
        have O2 := Lib.hid (O1.out.kept g2 (Or.inr (fun e => by have h1 : w.heap.size + 1 ≤ g := (O1.out.lt g rfl).1; have h2 : g = w.heap.size := Option.some.inj e; omega)))
        have L2 := Lib.hid (L1.out.grown g2 L1.out.size (fun j hj => by cases hj; exact Nat.le_refl _))
        clear m2 g2 s2 M1 O1 L1
        go_wp2_with (at_builtin; refine append_one (w := w2) rfl (.tmp 21) (.tmp 23) 39 rfl (w.heap.size + 1) 9 i0 _ Tryz.underlying39 hi hz0 hz1 hz2 rfl g m cap (uq (l.take k)) rfl O2.out x rfl (by omega) (by have h1 := O2.out.lt g rfl; omega) ?_)
        intro g' cap' w3 hown hgrow
        have O3 := Lib.hid hown
        have NE := Lib.hid (show some w.heap.size ≠ some g from fun e => by have h1 := O2.out.lt g rfl; have h2 := Option.some.inj e; omega)
        have M3 := Lib.hid ((M2.out.alloc (.cells #[.string x] 9)).grown hgrow NE.out)
        have L3 := Lib.hid ((L2.out.alloc L2.out.size (.cells #[.string x] 9)).grown hgrow (Nat.le_trans L2.out.size (by simp)) (fun j hj => by cases hj; have h1 := O2.out.lt g rfl; omega))
        clear hown hgrow
        go_wp2
        go_roundw
        case rel => exact ⟨k + 1, g', m + 1, cap', by omega, by omega, by go_num, rfl, by rw [HA.out, List.map_append]; exact O3.out, by rw [HA.out, en_snoc]; exact M3.out, L3.out⟩
        case measure => simp [intOf]; omega
    · obtain rfl : n = k := by omega
      have HN := Lib.hid (take_all HS.out.1)
      go_wp2
      go_ret
      have ho := HO.out
      rw [HN.out] at ho
      exact gives_of_owns (own_mono ho (by omega)) HL.out
end Go.Proofs.YtmkcjjgicinggaaGreatDoor.FstS

/- What Hosts does in the program: the hosts of the records of servers, each once. Condition: fewer than 400000001 records. -/
namespace Go.Proofs.YtmkcjjgicinggaaGreatDoor.HostI
open Go.RowKit Go.Proofs.YtmkcjjgicinggaaGreatDoor.Mem Go.Proofs.YtmkcjjgicinggaaGreatDoor.MemR Go.Proofs.YtmkcjjgicinggaaGreatDoor.SetMath Go.Proofs.YtmkcjjgicinggaaGreatDoor.MemS Go.Proofs.YtmkcjjgicinggaaGreatDoor.AppS

/-- append of one new text onto a row of the call's own, the new block's number as the walk spells it. -/
theorem append_at {w : World} {ops : Array Oper} {rest : List Oper} {o : Oper} {a : Act} {Q : Exit → Act → World → Prop} (hgd : o.guard = none) (s x : Operand)
    (ho : o.op = .call { callee := .builtin .append, args := #[s, x], argTypes := #[39, 39] })
    (base g n cap : Nat) (l : List ByteArray) (hs : a.eval s = .slice (some ⟨g, 0, none⟩) n cap) (hown : w.ownsRow base 9 1 (.slice (some ⟨g, 0, none⟩) n cap) n (l.map tv))
    (y : ByteArray) (p : Nat) (hp : w.heap.size = p) (hx : a.eval x = .slice (some ⟨p, 0, none⟩) 1 1) (hn : n ≤ 800000000) (hbase : base ≤ w.heap.size)
    (h : ∀ g' cap' w', w'.ownsRow base 9 1 (.slice (some ⟨g', 0, none⟩) (n + 1) cap') (n + 1) ((l ++ [y]).map tv) → (w.alloc (.cells #[.string y] 9)).grownBy w' (some g) → wpList Tryz.prog ops Q rest (a.put o.dst (.slice (some ⟨g', 0, none⟩) (n + 1) cap')) w') : wpList Tryz.prog ops Q (o :: rest) a (w.alloc (.cells #[.string y] 9)) := by
  subst hp
  obtain ⟨i0, hi, hz0, hz1, hz2⟩ := info_parts info
  exact append_one (w := w) hgd s x 39 ho base 9 i0 _ Tryz.underlying39 hi hz0 hz1 hz2 rfl g n cap l hs hown y hx hn hbase h

set_option maxHeartbeats 4000000 in
theorem impl (b0 o0 n c : Nat) (l : List Rec) (w : World) (hs : Sr w w.heap.size (some ⟨b0, o0, none⟩) n l) (hn : n ≤ 400000000) : Calls Tryz.prog 14 #[.slice (some ⟨b0, o0, none⟩) n c] w (GivesS w (uq (hl l))) := by
  have HS := Lib.hid hs
  clear hs
  have P0 := Lib.hid (owns_new w)
  have L0 := Lib.hid ((Below.refl w.heap.size w).alloc (Nat.le_refl _) (.cells #[] 9))
  go_enter Tryz.func14, Tryz.ntmps14
  go_wp2
  generalize w.alloc (.cells #[] 9) = w0 at *
  go_loopw [3, 9] (fun out i wr => ∃ k g m cap : Nat, k ≤ n ∧ m ≤ k ∧ i = .int .i64 k ∧ out = .slice (some ⟨g, 0, none⟩) m cap ∧ Hid (wr.ownsRow w.heap.size 9 1 (.slice (some ⟨g, 0, none⟩) m cap) m ((hl (l.take k)).map tv)) ∧ Hid (Below w.heap.size w wr)) (fun _ i _ => n - (intOf i).toNat)
  case atStart => exact ⟨0, w.heap.size, 0, 0, Nat.zero_le _, Nat.le_refl _, rfl, rfl, P0.out, L0.out⟩
  case round =>
    clear P0 L0
    obtain ⟨k, g, m, cap, hk, hm, rfl, rfl, HO, HL⟩ := hrel
    by_cases hlt : k < n
    · obtain ⟨b, off, hA, hbB, hcs⟩ := HS.out.2 (by omega)
      obtain ⟨rfl, rfl⟩ : b0 = b ∧ o0 = off := by simp at hA; exact hA
      clear hA
      have hkl : k < l.length := by rw [HS.out.1]; exact hlt
      obtain ⟨e0, e1, e2, e3, e4, e5⟩ := (hcs k hkl).below HL.out hbB
      clear hcs
      have HT := Lib.hid (hl_take l k hkl)
      generalize l[k] = r at *
      have W1 : Hid (Below w.heap.size w (wr.alloc (.cells #[.string r.name, .int .i64 r.ty, .int .i64 r.ttl, .int .i64 r.n, .string r.host, .string r.text] 93))) := HL.out.alloc HL.out.size _
      have O1 := Lib.hid (HO.out.alloc (.cells #[.string r.name, .int .i64 r.ty, .int .i64 r.ttl, .int .i64 r.n, .string r.host, .string r.text] 93))
      by_cases hty : ¬ r.ty = 2
      · have HA := Lib.hid (show hl (l.take (k + 1)) = hl (l.take k) from by rw [HT.out, if_neg hty, List.append_nil])
        have t0 : (r.ty == 2) = false := by simpa using hty
        clear hty
        go_wp2
        go_roundw
        case rel => exact ⟨k + 1, g, m, cap, by omega, by omega, by go_num, rfl, by rw [HA.out]; exact O1.out, W1.out⟩
        case measure => simp [intOf]; omega
      replace hty : r.ty = 2 := Classical.not_not.1 hty
      have HA := Lib.hid (show hl (l.take (k + 1)) = hl (l.take k) ++ [r.host] from by rw [HT.out, if_pos hty])
      have t0 : (r.ty == 2) = true := by simpa using hty
      clear hty
      go_wp2_with (at_builtin; refine append_at (w := wr.alloc (.cells #[.string r.name, .int .i64 r.ty, .int .i64 r.ttl, .int .i64 r.n, .string r.host, .string r.text] 93)) rfl (.tmp 16) (.tmp 19) rfl w.heap.size g m cap (hl (l.take k)) rfl O1.out r.host (wr.heap.size + 1) (by simp) rfl (by omega) (by have h1 := O1.out.lt g rfl; omega) ?_)
      intro g' cap' w3 hown hgrow
      have O3 := Lib.hid hown
      have L3 := Lib.hid ((W1.out.alloc W1.out.size (.cells #[.string r.host] 9)).grown hgrow (Nat.le_trans W1.out.size (by simp)) (fun j hj => by cases hj; have h1 := O1.out.lt g rfl; omega))
      clear hown hgrow
      go_wp2
      go_roundw
      case rel => exact ⟨k + 1, g', m + 1, cap', by omega, by omega, by go_num, rfl, by rw [HA.out, List.map_append]; exact O3.out, L3.out⟩
      case measure => simp [intOf]; omega
    · obtain rfl : n = k := by omega
      have HN := Lib.hid (take_all HS.out.1)
      have HQ : Hid (Ss wr wr.heap.size (some ⟨g, 0, none⟩) m (hl l)) := by
        have ho := HO.out
        rw [HN.out] at ho
        have hz : (hl l).length = m := by have := ho.1; simpa using this
        obtain ⟨r', hb, _, _⟩ := bk_of_owns ho
        exact bk_ssw hb hz
      go_wp2_with fail
      refine (FstS.impl _ m cap (hl l) wr HQ.out (by omega)).mono ?_
      rintro e w1 ⟨g1, m1, c1, r1, rfl, hm1, hc1, hg1, hb1, hl1⟩
      have G1 := Lib.hid (Nat.le_trans HL.out.size hg1)
      have M1 := Lib.hid hm1
      have C1 := Lib.hid hc1
      have B1 := Lib.hid hb1
      have L1 := Lib.hid (HL.out.trans (hl1.mono HL.out.size))
      clear hm1 hc1 hg1 hb1 hl1
      go_wp2
      go_ret
      exact ⟨g1, m1, c1, r1, rfl, M1.out, C1.out, G1.out, B1.out, L1.out⟩
end Go.Proofs.YtmkcjjgicinggaaGreatDoor.HostI

/- What CutsOf does in the program: the names of the cuts, each once. Condition: fewer than 400000001 records, no name of more than 400000000 bytes. -/
namespace Go.Proofs.YtmkcjjgicinggaaGreatDoor.CutsOfI
open Go.RowKit Go.Proofs.YtmkcjjgicinggaaGreatDoor.Mem Go.Proofs.YtmkcjjgicinggaaGreatDoor.MemR Go.Proofs.YtmkcjjgicinggaaGreatDoor.SetMath Go.Proofs.YtmkcjjgicinggaaGreatDoor.NameMath Go.Proofs.YtmkcjjgicinggaaGreatDoor.ZoneMath Go.Proofs.YtmkcjjgicinggaaGreatDoor.MemZ Go.Proofs.YtmkcjjgicinggaaGreatDoor.MemS Go.Proofs.YtmkcjjgicinggaaGreatDoor.AppS Go.Proofs.YtmkcjjgicinggaaGreatDoor.HostI

theorem text_ne {x y : ByteArray} (h : x ≠ y) : (x.toList == y.toList) = false := by
  rw [beq_eq_false_iff_ne, ByteArray.toList_eq, ByteArray.toList_eq]
  exact fun e => h (text_ext e)

set_option maxHeartbeats 8000000 in
theorem impl (s : ByteArray) (b0 o0 n c : Nat) (l : List Rec) (w : World) (hs : Sr w w.heap.size (some ⟨b0, o0, none⟩) n l) (hn : n ≤ 400000000) (hm : s.size ≤ 400000000) (hz : ∀ r ∈ l, r.name.size ≤ 400000000) :
    Calls Tryz.prog 116 #[.agg #[.string s, .slice (some ⟨b0, o0, none⟩) n c]] w (GivesS w (uq (cn s l))) := by
  have Z0 := Lib.hid ((zx_new w 37 s (.slice (some ⟨b0, o0, none⟩) n c)).alloc (.cells #[] 9))
  have L0 := Lib.hid (((Below.refl w.heap.size w).alloc (Nat.le_refl _) (.cells #[.string s, .slice (some ⟨b0, o0, none⟩) n c] 37)).alloc (by simp) (.cells #[] 9))
  have P0 := Lib.hid (owns_new (w.alloc (.cells #[.string s, .slice (some ⟨b0, o0, none⟩) n c] 37)))
  rw [show (w.alloc (.cells #[.string s, .slice (some ⟨b0, o0, none⟩) n c] 37)).heap.size = w.heap.size + 1 by simp] at P0
  have HS := Lib.hid hs
  have HZ := Lib.hid hz
  clear hs hz
  go_enter Tryz.func116, Tryz.ntmps116
  go_wp2
  generalize (w.alloc (.cells #[.string s, .slice (some ⟨b0, o0, none⟩) n c] 37)).alloc (.cells #[] 9) = w0 at *
  go_loopw [3, 10] (fun out i wr => ∃ k g m cap : Nat, k ≤ n ∧ m ≤ k ∧ i = .int .i64 k ∧ out = .slice (some ⟨g, 0, none⟩) m cap ∧ Hid (wr.ownsRow (w.heap.size + 1) 9 1 (.slice (some ⟨g, 0, none⟩) m cap) m ((cn s (l.take k)).map tv)) ∧ Hid (Zx wr w.heap.size s (.slice (some ⟨b0, o0, none⟩) n c)) ∧ Hid (Below w.heap.size w wr)) (fun _ i _ => n - (intOf i).toNat)
  case atStart => exact ⟨0, w.heap.size + 1, 0, 0, Nat.zero_le _, Nat.le_refl _, rfl, rfl, P0.out, Z0.out, L0.out⟩
  case round =>
    clear P0 L0 Z0
    obtain ⟨k, g, m, cap, hk, hm', rfl, rfl, HO, HX, HL⟩ := hrel
    by_cases hlt : k < n
    · obtain ⟨b, off, hA, hbB, hcs⟩ := HS.out.2 (by omega)
      obtain ⟨rfl, rfl⟩ : b0 = b ∧ o0 = off := by simp at hA; exact hA
      clear hA
      have hkl : k < l.length := by rw [HS.out.1]; exact hlt
      obtain ⟨e0, e1, e2, e3, e4, e5⟩ := (hcs k hkl).below HL.out hbB
      clear hcs
      obtain ⟨z0, z1⟩ := HX.out
      have ltz := HX.out.lt
      have HT := Lib.hid (cn_take s l k hkl)
      have HM := Lib.hid (HZ.out _ (List.getElem_mem hkl))
      generalize l[k] = r at *
      have W1 : Hid (Below w.heap.size w (wr.alloc (.cells #[.string r.name, .int .i64 r.ty, .int .i64 r.ttl, .int .i64 r.n, .string r.host, .string r.text] 93))) := HL.out.alloc HL.out.size _
      have X1 := Lib.hid (HX.out.alloc (.cells #[.string r.name, .int .i64 r.ty, .int .i64 r.ttl, .int .i64 r.n, .string r.host, .string r.text] 93))
      have O1 := Lib.hid (HO.out.alloc (.cells #[.string r.name, .int .i64 r.ty, .int .i64 r.ttl, .int .i64 r.n, .string r.host, .string r.text] 93))
      by_cases hty : ¬ r.ty = 2
      · have HA := Lib.hid (show cn s (l.take (k + 1)) = cn s (l.take k) from by rw [HT.out, isc_false (fun h => hty h.1), if_neg (by decide), List.append_nil])
        have t0 : (r.ty == 2) = false := by simpa using hty
        clear hty
        go_wp2
        go_roundw
        case rel => exact ⟨k + 1, g, m, cap, by omega, by omega, by go_num, rfl, by rw [HA.out]; exact O1.out, X1.out, W1.out⟩
        case measure => simp [intOf]; omega
      replace hty : r.ty = 2 := Classical.not_not.1 hty
      have t0 : (r.ty == 2) = true := by simpa using hty
      by_cases hnm : r.name = s
      · have HA := Lib.hid (show cn s (l.take (k + 1)) = cn s (l.take k) from by rw [HT.out, isc_false (fun h => h.2.1 hnm), if_neg (by decide), List.append_nil])
        have t1 : (r.name.toList == s.toList) = true := by rw [hnm]; simp
        have t2 : (r.name.data.toList == s.data.toList) = true := by rw [hnm]; simp
        clear hty hnm
        go_wp2
        go_roundw
        case rel => exact ⟨k + 1, g, m, cap, by omega, by omega, by go_num, rfl, by rw [HA.out]; exact O1.out, X1.out, W1.out⟩
        case measure => simp [intOf]; omega
      have t1 : (r.name.toList == s.toList) = false := text_ne hnm
      have t2 : (r.name.data.toList == s.data.toList) = false := by rw [← ByteArray.toList_eq, ← ByteArray.toList_eq]; exact t1
      have US := Lib.hid (fun W => UnderImpl.impl r.name s W HM.out hm)
      have HU : Hid (Un r.name s = true → cn s (l.take (k + 1)) = cn s (l.take k) ++ [r.name]) := fun hu => by rw [HT.out, isc_true ⟨hty, hnm, hu⟩, if_pos rfl]
      have HV : Hid (Un r.name s = false → cn s (l.take (k + 1)) = cn s (l.take k)) := fun hu => by rw [HT.out, isc_false (fun h => by rw [hu] at h; exact absurd h.2.2 (by decide)), if_neg (by decide), List.append_nil]
      generalize Un r.name s = u at *
      clear hty hnm HT
      go_wp2_with fail
      refine (US.out _).mono ?_
      rintro e w1 ⟨rfl, rfl⟩
      clear US
      cases u with
      | false =>
        have HA := Lib.hid (HV.out rfl)
        clear HU HV
        go_wp2
        go_roundw
        case rel => exact ⟨k + 1, g, m, cap, by omega, by omega, by go_num, rfl, by rw [HA.out]; exact O1.out, X1.out, W1.out⟩
        case measure => simp [intOf]; omega
      | true =>
        have HA := Lib.hid (HU.out rfl)
        clear HU HV
        go_wp2_with (at_builtin; refine append_at (w := wr.alloc (.cells #[.string r.name, .int .i64 r.ty, .int .i64 r.ttl, .int .i64 r.n, .string r.host, .string r.text] 93)) rfl (.tmp 31) (.tmp 34) rfl (w.heap.size + 1) g m cap (cn s (l.take k)) rfl O1.out r.name (wr.heap.size + 1) (by simp) rfl (by omega) (by have h1 := O1.out.lt g rfl; omega) ?_)
        intro g' cap' w3 hown hgrow
        have O3 := Lib.hid hown
        have gge : w.heap.size + 1 ≤ g := (O1.out.lt g rfl).1
        have X3 := Lib.hid ((X1.out.alloc (.cells #[.string r.name] 9)).grown hgrow (fun e => by have := Option.some.inj e; omega))
        have L3 := Lib.hid ((W1.out.alloc W1.out.size (.cells #[.string r.name] 9)).grown hgrow (Nat.le_trans W1.out.size (by simp)) (fun j hj => by cases hj; omega))
        clear hown hgrow
        go_wp2
        go_roundw
        case rel => exact ⟨k + 1, g', m + 1, cap', by omega, by omega, by go_num, rfl, by rw [HA.out, List.map_append]; exact O3.out, X3.out, L3.out⟩
        case measure => simp [intOf]; omega
    · obtain rfl : n = k := by omega
      have HN := Lib.hid (take_all HS.out.1)
      have HQ : Hid (Ss wr wr.heap.size (some ⟨g, 0, none⟩) m (cn s l)) := by
        have ho := HO.out
        rw [HN.out] at ho
        have hz : (cn s l).length = m := by have := ho.1; simpa using this
        obtain ⟨r', hb, _, _⟩ := bk_of_owns ho
        exact bk_ssw hb hz
      go_wp2_with fail
      refine (FstS.impl _ m cap (cn s l) wr HQ.out (by omega)).mono ?_
      rintro e w1 ⟨g1, m1, c1, r1, rfl, hm1, hc1, hg1, hb1, hl1⟩
      have G1 := Lib.hid (Nat.le_trans HL.out.size hg1)
      have M1 := Lib.hid hm1
      have C1 := Lib.hid hc1
      have B1 := Lib.hid hb1
      have L1 := Lib.hid (HL.out.trans (hl1.mono HL.out.size))
      clear hm1 hc1 hg1 hb1 hl1
      go_wp2
      go_ret
      exact ⟨g1, m1, c1, r1, rfl, M1.out, C1.out, G1.out, B1.out, L1.out⟩

end Go.Proofs.YtmkcjjgicinggaaGreatDoor.CutsOfI

/- What CutOf does in the program (a range over the cuts). Condition: fewer than 400000001 records, no name of more than 400000000 bytes. -/
namespace Go.Proofs.YtmkcjjgicinggaaGreatDoor.CutOfI
open Go.RowKit Go.Proofs.YtmkcjjgicinggaaGreatDoor.Mem Go.Proofs.YtmkcjjgicinggaaGreatDoor.MemR Go.Proofs.YtmkcjjgicinggaaGreatDoor.SetMath Go.Proofs.YtmkcjjgicinggaaGreatDoor.NameMath Go.Proofs.YtmkcjjgicinggaaGreatDoor.ZoneMath Go.Proofs.YtmkcjjgicinggaaGreatDoor.MemZ Go.Proofs.YtmkcjjgicinggaaGreatDoor.MemS Go.Proofs.YtmkcjjgicinggaaGreatDoor.AppS

set_option maxHeartbeats 8000000 in
theorem impl (s nm : ByteArray) (b0 o0 n c : Nat) (l : List Rec) (w : World) (hs : Sr w w.heap.size (some ⟨b0, o0, none⟩) n l) (hn : n ≤ 400000000) (hm : s.size ≤ 400000000) (hq : nm.size ≤ 400000000) (hz : ∀ r ∈ l, r.name.size ≤ 400000000) :
    Calls Tryz.prog 59 #[.agg #[.string s, .slice (some ⟨b0, o0, none⟩) n c], .string nm] w fun e w' => e = .returned (cv (co nm (uq (cn s l)))) ∧ Below w.heap.size w w' := by
  have L0 := Lib.hid ((Below.refl w.heap.size w).alloc (Nat.le_refl _) (.cells #[.string s, .slice (some ⟨b0, o0, none⟩) n c] 37))
  have X0 := Lib.hid (zx_new w 37 s (.slice (some ⟨b0, o0, none⟩) n c))
  have CS := Lib.hid (fun W hW => CutsOfI.impl s b0 o0 n c l W hW hn hm hz)
  have S0 := Lib.hid (hs.on L0.out)
  have HLN : Hid ((uq (cn s l)).length ≤ 400000000) := by show _ ≤ _; have h1 := len_uq (cn s l); have h2 := cn_len s l; have := hs.1; omega
  have HZ : Hid (∀ x ∈ uq (cn s l), x.size ≤ 400000000) := fun x hx => by obtain ⟨r, hr, rfl⟩ := cn_mem (mem_uq.1 hx); exact hz r hr
  clear hs hz
  generalize uq (cn s l) = L at *
  obtain ⟨x0, x1⟩ := X0.out
  go_enter Tryz.func59, Tryz.ntmps59
  go_wp2_with fail
  refine (CS.out _ S0.out).mono ?_
  rintro e w1 ⟨g, m, cap, r', rfl, hlm, hmc, hg, hb, hl⟩
  have HM := Lib.hid hlm
  have hm' : m ≤ 400000000 := by have := HLN.out; omega
  have B1 := Lib.hid hb
  have L1 := Lib.hid (L0.out.trans (hl.mono L0.out.size))
  clear hlm hmc hg hb hl CS S0 X0 L0 x0 x1 HLN
  go_wp2
  go_loopw [11] (fun i wr => ∃ k : Nat, k ≤ m ∧ i = .int .i64 k ∧ Hid (co nm (L.take k) = none) ∧ Hid (Bk wr g 9 (L.map tv ++ r')) ∧ Hid (Below w.heap.size w wr)) (fun i _ => m - (intOf i).toNat)
  case atStart => exact ⟨0, Nat.zero_le _, rfl, rfl, B1.out, L1.out⟩
  case round =>
    clear B1 L1
    obtain ⟨k, hk, rfl, HE, HB, HL⟩ := hrel
    by_cases hlt : k < m
    · have hkl : k < L.length := by rw [HM.out]; exact hlt
      have e0 : wr.cell? ⟨g, k, none⟩ = some (.string L[k]) := by
        rw [HB.out.cell, List.getElem?_append_left (by rw [List.length_map]; exact hkl), tv_get]
      have HH := Lib.hid (fun e => co_hit nm L k hkl e HE.out)
      have HN := Lib.hid (fun e => co_next nm L k hkl e HE.out)
      have HY := Lib.hid (HZ.out _ (List.getElem_mem hkl))
      generalize L[k] = y at *
      have US := Lib.hid (fun W => UnderImpl.impl nm y W hq HY.out)
      generalize Un nm y = u at *
      go_wp2_with fail
      refine (US.out _).mono ?_
      rintro e w2 ⟨rfl, rfl⟩
      have B2 := Lib.hid HB.out
      have L2 := Lib.hid HL.out
      clear US e0 HB HL
      cases u with
      | true =>
        have HF := Lib.hid (HH.out rfl)
        clear HH HN
        go_wp2
        go_ret2
        exact ⟨congrArg (fun b => Ending.returned (cv b)) HF.out.symm, L2.out⟩
      | false =>
        have HF := Lib.hid (HN.out rfl)
        clear HH HN
        go_wp2
        go_roundw
        case rel => exact ⟨k + 1, by omega, by go_num, HF.out, B2.out, L2.out⟩
        case measure => simp [intOf]; omega
    · obtain rfl : m = k := by omega
      have HF : Hid (co nm L = none) := by rw [take_all HM.out] at HE; exact HE
      go_wp2
      go_ret2
      exact ⟨congrArg (fun b => Ending.returned (cv b)) HF.out.symm, HL.out⟩

end Go.Proofs.YtmkcjjgicinggaaGreatDoor.CutOfI

/- What StartOf does in the program (a range over the zone's records): the first record of the start's type, or a record with nothing in it. Condition: fewer than 400000001 records. -/
namespace Go.Proofs.YtmkcjjgicinggaaGreatDoor.StartOfI
open Go.RowKit Go.Proofs.YtmkcjjgicinggaaGreatDoor.Mem Go.Proofs.YtmkcjjgicinggaaGreatDoor.MemR Go.Proofs.YtmkcjjgicinggaaGreatDoor.SetMath Go.Proofs.YtmkcjjgicinggaaGreatDoor.ZoneMath Go.Proofs.YtmkcjjgicinggaaGreatDoor.MemZ Go.Proofs.YtmkcjjgicinggaaGreatDoor.ResR Go.Proofs.YtmkcjjgicinggaaGreatDoor.StartS

set_option maxRecDepth 100000 in
set_option maxHeartbeats 8000000 in
theorem impl (s : ByteArray) (b0 o0 n c : Nat) (l : List Rec) (w : World) (hs : Sr w w.heap.size (some ⟨b0, o0, none⟩) n l) (hn : n ≤ 400000000) (_ : s.size ≤ 400000000) (_ : ∀ r ∈ l, r.name.size ≤ 400000000) :
    Calls Tryz.prog 214 #[.agg #[.string s, .slice (some ⟨b0, o0, none⟩) n c]] w fun e w' => e = .returned (.agg #[.string ((st l)).name, .int .i64 ((st l)).ty, .int .i64 ((st l)).ttl, .int .i64 ((st l)).n, .string ((st l)).host, .string ((st l)).text]) ∧ Below w.heap.size w w' := by
  have Z0 := Lib.hid ((zx_new w 37 s (.slice (some ⟨b0, o0, none⟩) n c)).alloc (.cells #[.string ⟨#[]⟩, .int .i64 0, .int .i64 0, .int .i64 0, .string ⟨#[]⟩, .string ⟨#[]⟩] 93))
  have R0 := Lib.hid (box2 (w := w) (a := .cells #[.string s, .slice (some ⟨b0, o0, none⟩) n c] 37) (cs := #[.string ⟨#[]⟩, .int .i64 0, .int .i64 0, .int .i64 0, .string ⟨#[]⟩, .string ⟨#[]⟩]) (t := 93))
  have L0 := Lib.hid (((Below.refl w.heap.size w).alloc (Nat.le_refl _) (.cells #[.string s, .slice (some ⟨b0, o0, none⟩) n c] 37)).alloc (by simp) (.cells #[.string ⟨#[]⟩, .int .i64 0, .int .i64 0, .int .i64 0, .string ⟨#[]⟩, .string ⟨#[]⟩] 93))
  have HS := Lib.hid hs
  clear hs
  go_enter Tryz.func214, Tryz.ntmps214
  go_wp2
  generalize (w.alloc (.cells #[.string s, .slice (some ⟨b0, o0, none⟩) n c] 37)).alloc (.cells #[.string ⟨#[]⟩, .int .i64 0, .int .i64 0, .int .i64 0, .string ⟨#[]⟩, .string ⟨#[]⟩] 93) = w0 at *
  go_loopw [8] (fun i wr => ∃ k : Nat, k ≤ n ∧ i = .int .i64 k ∧ Hid (Bk wr (w.heap.size + 1) 93 (rc zr)) ∧ Hid (Below w.heap.size w wr) ∧ Hid (∀ r ∈ l.take k, r.ty ≠ 6)) (fun i _ => n - (intOf i).toNat)
  case atStart => exact ⟨0, Nat.zero_le _, rfl, R0.out, L0.out, fun r hr => by simp at hr⟩
  case round =>
    clear Z0 R0 L0
    obtain ⟨k, hk, rfl, HR, HL, HE⟩ := hrel
    by_cases hlt : k < n
    · obtain ⟨b, off, hA, hbB, hcs⟩ := HS.out.2 (by omega)
      obtain ⟨rfl, rfl⟩ : b0 = b ∧ o0 = off := by simp at hA; exact hA
      clear hA
      have hkl : k < l.length := by rw [HS.out.1]; exact hlt
      obtain ⟨e0, e1, e2, e3, e4, e5⟩ := (hcs k hkl).below HL.out hbB
      clear hcs
      have HH := Lib.hid (fun e => st_hit l k hkl e HE.out)
      have HN := Lib.hid (fun e => st_next l k hkl e HE.out)
      generalize l[k] = r at *
      have R1 := Lib.hid (HR.out.alloc (.cells #[.string r.name, .int .i64 r.ty, .int .i64 r.ttl, .int .i64 r.n, .string r.host, .string r.text] 93))
      have L1 := Lib.hid (HL.out.alloc HL.out.size (.cells #[.string r.name, .int .i64 r.ty, .int .i64 r.ttl, .int .i64 r.n, .string r.host, .string r.text] 93))
      clear HR HL
      by_cases hty : r.ty = 6
      · have HF := Lib.hid (HH.out hty)
        have t0 : (r.ty == 6) = true := by simpa using hty
        clear hty HH HN
        have r0 : (wr.alloc (.cells #[.string r.name, .int .i64 r.ty, .int .i64 r.ttl, .int .i64 r.n, .string r.host, .string r.text] 93)).cell? ⟨w.heap.size + 1, 0, none⟩ = some (.string ⟨#[]⟩) := R1.out.cell 0
        have r1 : (wr.alloc (.cells #[.string r.name, .int .i64 r.ty, .int .i64 r.ttl, .int .i64 r.n, .string r.host, .string r.text] 93)).cell? ⟨w.heap.size + 1, 1, none⟩ = some (.int .i64 0) := R1.out.cell 1
        have r2 : (wr.alloc (.cells #[.string r.name, .int .i64 r.ty, .int .i64 r.ttl, .int .i64 r.n, .string r.host, .string r.text] 93)).cell? ⟨w.heap.size + 1, 2, none⟩ = some (.int .i64 0) := R1.out.cell 2
        have r3 : (wr.alloc (.cells #[.string r.name, .int .i64 r.ty, .int .i64 r.ttl, .int .i64 r.n, .string r.host, .string r.text] 93)).cell? ⟨w.heap.size + 1, 3, none⟩ = some (.int .i64 0) := R1.out.cell 3
        have r4 : (wr.alloc (.cells #[.string r.name, .int .i64 r.ty, .int .i64 r.ttl, .int .i64 r.n, .string r.host, .string r.text] 93)).cell? ⟨w.heap.size + 1, 4, none⟩ = some (.string ⟨#[]⟩) := R1.out.cell 4
        have r5 : (wr.alloc (.cells #[.string r.name, .int .i64 r.ty, .int .i64 r.ttl, .int .i64 r.n, .string r.host, .string r.text] 93)).cell? ⟨w.heap.size + 1, 5, none⟩ = some (.string ⟨#[]⟩) := R1.out.cell 5
        have q0 := R1.out.free 0
        have q1 := R1.out.free 1
        have q2 := R1.out.free 2
        have q3 := R1.out.free 3
        have q4 := R1.out.free 4
        have q5 := R1.out.free 5
        have F := Lib.hid (fil_bk (r0 := zr) R1.out r)
        have E := Lib.hid (fil_below L1.out (g := w.heap.size + 1) (by omega) r)
        go_wp2
        exact bodyPost_ret (v := .agg #[.string r.name, .int .i64 r.ty, .int .i64 r.ttl, .int .i64 r.n, .string r.host, .string r.text]) (res1 rfl F.out rfl) rfl ⟨by rw [HF.out], E.out⟩
      · have HF := Lib.hid (HN.out hty)
        have t0 : (r.ty == 6) = false := by simpa using hty
        clear hty HH HN
        go_wp2
        go_roundw
        case rel => exact ⟨k + 1, by omega, by go_num, R1.out, L1.out, HF.out⟩
        case measure => simp [intOf]; omega
    · obtain rfl : n = k := by omega
      have HF := Lib.hid (st_none l (by rw [take_all HS.out.1] at HE; exact HE.out))
      have r0 : wr.cell? ⟨w.heap.size + 1, 0, none⟩ = some (.string ⟨#[]⟩) := HR.out.cell 0
      have r1 : wr.cell? ⟨w.heap.size + 1, 1, none⟩ = some (.int .i64 0) := HR.out.cell 1
      have r2 : wr.cell? ⟨w.heap.size + 1, 2, none⟩ = some (.int .i64 0) := HR.out.cell 2
      have r3 : wr.cell? ⟨w.heap.size + 1, 3, none⟩ = some (.int .i64 0) := HR.out.cell 3
      have r4 : wr.cell? ⟨w.heap.size + 1, 4, none⟩ = some (.string ⟨#[]⟩) := HR.out.cell 4
      have r5 : wr.cell? ⟨w.heap.size + 1, 5, none⟩ = some (.string ⟨#[]⟩) := HR.out.cell 5
      have q0 := HR.out.free 0
      have q1 := HR.out.free 1
      have q2 := HR.out.free 2
      have q3 := HR.out.free 3
      have q4 := HR.out.free 4
      have q5 := HR.out.free 5
      have F := Lib.hid (fil_bk (r0 := zr) HR.out zr)
      have E := Lib.hid (fil_below HL.out (g := w.heap.size + 1) (by omega) zr)
      go_wp2
      exact bodyPost_ret (v := .agg #[.string zr.name, .int .i64 zr.ty, .int .i64 zr.ttl, .int .i64 zr.n, .string zr.host, .string zr.text]) (res1 rfl F.out rfl) rfl ⟨by rw [HF.out], E.out⟩
end Go.Proofs.YtmkcjjgicinggaaGreatDoor.StartOfI

/- What Glue does in the program: the addresses of the hosts, in their order, out of a map of groups. Condition: at most 1048576 records and as many hosts (so the result may have many more). -/
namespace Go.Proofs.YtmkcjjgicinggaaGreatDoor.GlueI
open Go.RowKit Go.Proofs.YtmkcjjgicinggaaGreatDoor.Mem Go.Proofs.YtmkcjjgicinggaaGreatDoor.MemR Go.Proofs.YtmkcjjgicinggaaGreatDoor.SetMath Go.Proofs.YtmkcjjgicinggaaGreatDoor.ZoneMath Go.Proofs.YtmkcjjgicinggaaGreatDoor.MemZ Go.Proofs.YtmkcjjgicinggaaGreatDoor.MemS Go.Proofs.YtmkcjjgicinggaaGreatDoor.MemQ Go.Proofs.YtmkcjjgicinggaaGreatDoor.MapK Go.Proofs.YtmkcjjgicinggaaGreatDoor.MapE Go.Proofs.YtmkcjjgicinggaaGreatDoor.GrpM Go.Proofs.YtmkcjjgicinggaaGreatDoor.AppR Go.Proofs.YtmkcjjgicinggaaGreatDoor.Wt Go.Proofs.YtmkcjjgicinggaaGreatDoor.SetI

/-- append of a slice of records onto a row of the call's own, up to many records. -/
theorem append_wide {w : World} {ops : Array Oper} {rest : List Oper} {o : Oper} {a : Act} {Q : Exit → Act → World → Prop} (hgd : o.guard = none) (s x : Operand)
    (ho : o.op = .call { callee := .builtin .append, args := #[s, x], argTypes := #[35, 35] })
    (base g n cap : Nat) (L : List Rec) (hs : a.eval s = .slice (some ⟨g, 0, none⟩) n cap) (hown : w.ownsRow base 93 6 (.slice (some ⟨g, 0, none⟩) n cap) n (fl L))
    (b off m c B : Nat) (l : List Rec) (hx : a.eval x = .slice (some ⟨b, off, none⟩) m c) (hl : Sr w B (some ⟨b, off, none⟩) m l)
    (hnm : n + m ≤ 1900000000000) (hbase : base ≤ w.heap.size)
    (h : ∀ g' cap' w', w'.ownsRow base 93 6 (.slice (some ⟨g', 0, none⟩) (n + m) cap') (n + m) (fl (L ++ l)) → w.grownBy w' (some g) → wpList Tryz.prog ops Q rest (a.put o.dst (.slice (some ⟨g', 0, none⟩) (n + m) cap')) w') : wpList Tryz.prog ops Q (o :: rest) a w := by
  obtain ⟨i0, hi, hz0, hz1, hz2⟩ := info_parts CopyR.info
  exact wpList_append_own w hgd s x 35 ho base 93 i0 _ 6 72 Tryz.underlying35 hi hz0 hz1 hz2 rfl (by decide) _ n (fl L) hs hown ⟨b, off, none⟩ m c (fl l) hx (by rw [fl_len, hl.1]) (cells_of hl) (one_fl l) (by unfold maxLen; omega) (by omega) hbase
    (fun v' w' h1 h2 h3 => by
      rcases h1.2 with ⟨hv, _⟩ | ⟨g', cap', cur, hv, _⟩
      · have := (h3.1 hv).1
        cases this
      · subst hv
        exact h g' cap' w' (by rw [fl_append]; exact h1) h2)

set_option maxRecDepth 100000 in
set_option maxHeartbeats 8000000 in
theorem impl (s : ByteArray) (b0 o0 n c : Nat) (l : List Rec) (b1 o1 nh ch : Nat) (H : List ByteArray) (w : World) (hs : Sr w w.heap.size (some ⟨b0, o0, none⟩) n l) (hh : Ss w w.heap.size (some ⟨b1, o1, none⟩) nh H) (hn : n ≤ 1048576) (hnh : nh ≤ 1048576) :
    Calls Tryz.prog 218 #[.agg #[.string s, .slice (some ⟨b0, o0, none⟩) n c], .slice (some ⟨b1, o1, none⟩) nh ch] w (GivesL w (gl H l)) := by
  have L0 := Lib.hid ((Below.refl w.heap.size w).alloc (Nat.le_refl _) (.cells #[.string s, .slice (some ⟨b0, o0, none⟩) n c] 37))
  have X0 := Lib.hid (zx_new w 37 s (.slice (some ⟨b0, o0, none⟩) n c))
  have SE := Lib.hid (fun W hW => SetI.sets b0 o0 n c l W hW (by omega))
  have S0 := Lib.hid (hs.on L0.out)
  have HH := Lib.hid hh
  have HN := Lib.hid hs.1
  clear hs hh
  obtain ⟨x0, x1⟩ := X0.out
  go_enter Tryz.func218, Tryz.ntmps218
  obtain ⟨i0, hi, hz0, hz1, hz2⟩ := info_parts CopyR.info
  go_wp2_with fail
  refine (SE.out _ S0.out).mono ?_
  rintro e w1 ⟨bm, rfl, hbm, ⟨es, hm, hq, ho, hd⟩, hl⟩
  have L1 := Lib.hid (L0.out.trans (hl.mono L0.out.size))
  have M1 := Lib.hid hm
  have HQ := Lib.hid hq
  have HS' := Lib.hid (ev_key es)
  have HND := Lib.hid (ev_nodup (es := es) (by rw [hq]; exact nodup_uq _))
  have R1 : Hid (∀ (j : Nat) (e : Ge), es[j]? = some e → (sq e.q l).length = e.m ∧ Sr w1 w1.heap.size (some ⟨e.g, 0, none⟩) e.m (sq e.q l)) := fun j e hj => by
    have hz := own_m (ho j e hj)
    obtain ⟨r', hb, _⟩ := bk_of_owns6 (ho j e hj)
    exact ⟨hz, bk_sr hb hz⟩
  have KT := KeyT.quests
  have P2 := Lib.hid (AppR.owns_new w1)
  have L2 := Lib.hid ((Below.refl w1.heap.size w1).alloc (Nat.le_refl _) (.cells #[] 93))
  clear hm hq ho hd hl SE hbm L0 X0 S0 x0 x1
  go_wp2
  generalize w1.alloc (.cells #[] 93) = w2 at *
  go_loopw [6, 15] (fun out i wr => ∃ k g m cap : Nat, k ≤ nh ∧ m ≤ k * n ∧ i = .int .i64 k ∧ out = .slice (some ⟨g, 0, none⟩) m cap ∧ Hid (wr.ownsRow w1.heap.size 93 6 (.slice (some ⟨g, 0, none⟩) m cap) m (fl (gl (H.take k) l))) ∧ Hid (Below w1.heap.size w1 wr)) (fun _ i _ => nh - (intOf i).toNat)
  case atStart => exact ⟨0, w1.heap.size, 0, 0, Nat.zero_le _, Nat.zero_le _, rfl, rfl, P2.out, L2.out⟩
  case round =>
    clear P2 L2
    obtain ⟨k, g, m, cap, hk, hm, rfl, rfl, HO, HL⟩ := hrel
    by_cases hlt : k < nh
    · obtain ⟨b, off, hA, hbB, hcs⟩ := HH.out.2 (by omega)
      obtain ⟨rfl, rfl⟩ : b1 = b ∧ o1 = off := by simp at hA; exact hA
      clear hA
      have hkl : k < H.length := by rw [HH.out.1]; exact hlt
      have e0 : wr.cell? ⟨b1, o1 + k, none⟩ = some (.string H[k]) := ((L1.out.trans (HL.out.mono L1.out.size)).cell (p := ⟨b1, o1 + k, none⟩) hbB).trans (hcs k hkl)
      clear hcs
      have HT := Lib.hid (gl_take H l k hkl)
      generalize H[k] = y at *
      have hmm : Hid (m ≤ 1100000000000) := show _ ≤ _ from Nat.le_trans hm (Nat.le_trans (Nat.mul_le_mul (show k ≤ 1048576 by omega) hn) (by decide))
      have lg : Hid (w1.heap.size ≤ g ∧ g < wr.heap.size) := HO.out.lt g rfl
      have M2 := Lib.hid (M1.out.below HL.out M1.out.lt)
      have HX : Hid (KeyT.KQ (qv ⟨y, 1⟩)) := ⟨⟨y, 1⟩, rfl⟩
      by_cases hin : (⟨y, 1⟩ : Key) ∈ uq (kl l)
      · obtain ⟨j, e, hj, hk'⟩ : ∃ (j : Nat) (e : Ge), es[j]? = some e ∧ e.q = ⟨y, 1⟩ := by
          rw [← HQ.out] at hin
          obtain ⟨e, he, hq⟩ := List.mem_map.1 hin
          obtain ⟨j, hj⟩ := List.getElem?_of_mem he
          exact ⟨j, e, hj, hq⟩
        have HE : Hid (sq e.q l = sf y 1 l) := show _ = _ by rw [hk']; rfl
        have hem : e.m ≤ n := by
          have h1 := (R1.out j e hj).1
          have h2 := sf_len e.q.name e.q.ty l
          have h3 : (sq e.q l).length ≤ l.length := h2
          have := HN.out
          omega
        have LK : Hid ((Instr.lookup 96 (.map (some bm)) (.agg #[.string y, .int .i64 1]) false).run Tryz.prog wr = .ok (.slice (some ⟨e.g, 0, none⟩) e.m e.cap) wr) := M2.out.in KT Tryz.underlying96 HS'.out HND.out HX.out (show (qv ⟨y, 1⟩, sv e) ∈ ev es from by rw [← hk']; exact List.mem_of_getElem? (ev_at hj)) false
        have SR : Hid (Sr wr w1.heap.size (some ⟨e.g, 0, none⟩) e.m (sf y 1 l)) := by
          have := (R1.out j e hj).2
          rw [HE.out] at this
          exact this.below HL.out
        clear hin hj hk' HX M2
        go_wp2_with (first | (at_lookup; refine wp_look rfl _ _ false rfl (.agg #[.string y, .int .i64 1]) (.slice (some ⟨e.g, 0, none⟩) e.m e.cap) rfl rfl LK.out ?_) | (at_builtin; refine append_wide rfl (.tmp 19) (.tmp 23) rfl w1.heap.size g m cap (gl (H.take k) l) rfl HO.out e.g 0 e.m e.cap _ (sf y 1 l) rfl SR.out (by have := hmm.out; omega) HL.out.size ?_))
        intro g' cap' w3 hown hgrow
        have O3 := Lib.hid hown
        have L3 := Lib.hid (HL.out.grown hgrow HL.out.size (fun j hj => by cases hj; exact lg.out.1))
        clear hown hgrow
        go_wp2
        go_roundw
        case rel => exact ⟨k + 1, g', m + e.m, cap', by omega, by rw [Nat.add_mul, Nat.one_mul]; omega, by go_num, rfl, by rw [HT.out]; exact O3.out, L3.out⟩
        case measure => simp [intOf]; omega
      · have HE : Hid (sf y 1 l = []) := sq_none (q := ⟨y, 1⟩) (fun h => hin (mem_uq.2 h))
        have LK : Hid ((Instr.lookup 96 (.map (some bm)) (.agg #[.string y, .int .i64 1]) false).run Tryz.prog wr = .ok (.slice none 0 0) wr) := M2.out.out KT Tryz.underlying96 (zero _) HS'.out HX.out (ev_out (by rw [HQ.out]; exact hin)) false
        clear hin HX M2
        go_wp2_with (at_lookup; refine wp_look rfl _ _ false rfl (.agg #[.string y, .int .i64 1]) (.slice none 0 0) rfl rfl LK.out ?_; refine wpList_append_own_none rfl (.tmp 19) (.tmp 23) 35 rfl w1.heap.size 93 i0 6 Tryz.underlying35 hi _ m (fl (gl (H.take k) l)) rfl HO.out rfl ?_)
        go_wp2
        go_roundw
        case rel => exact ⟨k + 1, g, m, cap, by omega, by rw [Nat.add_mul, Nat.one_mul]; omega, by go_num, rfl, by rw [HT.out, HE.out, List.append_nil]; exact HO.out, HL.out⟩
        case measure => simp [intOf]; omega
    · obtain rfl : nh = k := by omega
      have HN := Lib.hid (take_all HH.out.1)
      go_wp2
      go_ret
      have ho := HO.out
      rw [HN.out] at ho
      obtain ⟨r', hb, _, hcap, hg⟩ := bk_of_owns6 ho
      have hz : (gl H l).length = m := by have := ho.1; rw [fl_len] at this; omega
      exact ⟨g, m, cap, r', rfl, hz, hcap, Nat.le_trans L1.out.size hg, hb, L1.out.trans (HL.out.mono L1.out.size)⟩

end Go.Proofs.YtmkcjjgicinggaaGreatDoor.GlueI

/- What each kind of reply holds, in the program: refusal, referral, aliasReply, setReply, noDataReply, noNameReply. Condition: at most 1048576 records, no name of more than 400000000 bytes. -/
namespace Go.Proofs.YtmkcjjgicinggaaGreatDoor.ConI
open Go.RowKit Go.Proofs.YtmkcjjgicinggaaGreatDoor.Mem Go.Proofs.YtmkcjjgicinggaaGreatDoor.MemR Go.Proofs.YtmkcjjgicinggaaGreatDoor.SetMath Go.Proofs.YtmkcjjgicinggaaGreatDoor.NameMath Go.Proofs.YtmkcjjgicinggaaGreatDoor.ZoneMath Go.Proofs.YtmkcjjgicinggaaGreatDoor.ServeMath Go.Proofs.YtmkcjjgicinggaaGreatDoor.MemZ Go.Proofs.YtmkcjjgicinggaaGreatDoor.MemM Go.Proofs.YtmkcjjgicinggaaGreatDoor.Wt Go.Proofs.YtmkcjjgicinggaaGreatDoor.AppS Go.Proofs.YtmkcjjgicinggaaGreatDoor.MemS Go.Proofs.YtmkcjjgicinggaaGreatDoor.KindS Go.Proofs.YtmkcjjgicinggaaGreatDoor.CutOfS Go.Proofs.YtmkcjjgicinggaaGreatDoor.ResC

/-- The boxes of a zone, a question and a content. -/
theorem three (w : World) (s nm : ByteArray) (ty : Int) (x : Value) (t u v : TypeId) (d : Int) (a : Bool) : (Zx (((w.alloc (.cells #[.string s, x] t)).alloc (.cells #[.string nm, .int .i64 ty] u)).alloc (.cells #[.int .i64 d, .bool a, .slice none 0 0, .slice none 0 0, .slice none 0 0] v)) w.heap.size s x ∧ Qx (((w.alloc (.cells #[.string s, x] t)).alloc (.cells #[.string nm, .int .i64 ty] u)).alloc (.cells #[.int .i64 d, .bool a, .slice none 0 0, .slice none 0 0, .slice none 0 0] v)) (w.heap.size + 1) nm ty) ∧ Bk (((w.alloc (.cells #[.string s, x] t)).alloc (.cells #[.string nm, .int .i64 ty] u)).alloc (.cells #[.int .i64 d, .bool a, .slice none 0 0, .slice none 0 0, .slice none 0 0] v)) (w.heap.size + 1 + 1) v (cc d a (.slice none 0 0) (.slice none 0 0) (.slice none 0 0)) ∧ Below w.heap.size w (((w.alloc (.cells #[.string s, x] t)).alloc (.cells #[.string nm, .int .i64 ty] u)).alloc (.cells #[.int .i64 d, .bool a, .slice none 0 0, .slice none 0 0, .slice none 0 0] v)) := by
  obtain ⟨⟨h1, h2⟩, h3⟩ := two w s nm ty x t u
  have al : Below ((w.alloc (.cells #[.string s, x] t)).alloc (.cells #[.string nm, .int .i64 ty] u)).heap.size ((w.alloc (.cells #[.string s, x] t)).alloc (.cells #[.string nm, .int .i64 ty] u)) (((w.alloc (.cells #[.string s, x] t)).alloc (.cells #[.string nm, .int .i64 ty] u)).alloc (.cells #[.int .i64 d, .bool a, .slice none 0 0, .slice none 0 0, .slice none 0 0] v)) := (Below.refl _ _).alloc (Nat.le_refl _) _
  refine ⟨⟨h1.below al, h2.below al⟩, ?_, h3.trans (al.mono h3.size)⟩
  have := heap_alloc_new ((w.alloc (.cells #[.string s, x] t)).alloc (.cells #[.string nm, .int .i64 ty] u)) (.cells #[.int .i64 d, .bool a, .slice none 0 0, .slice none 0 0, .slice none 0 0] v)
  rw [show ((w.alloc (.cells #[.string s, x] t)).alloc (.cells #[.string nm, .int .i64 ty] u)).heap.size = w.heap.size + 1 + 1 by simp] at this
  exact this

set_option maxRecDepth 100000 in
set_option maxHeartbeats 8000000 in
theorem refusal (s nm : ByteArray) (ty : Int) (b0 o0 n c : Nat) (w : World) :
    Calls Tryz.prog 170 #[.agg #[.string s, .slice (some ⟨b0, o0, none⟩) n c], .agg #[.string nm, .int .i64 ty]] w (GivesK w 5 false [] [] []) := by
  obtain ⟨-, hb0, hl0⟩ := three w s nm ty (.slice (some ⟨b0, o0, none⟩) n c) 37 29 148 5 false
  have R0 := Lib.hid hb0
  have L0 := Lib.hid hl0
  clear hb0 hl0
  go_enter Tryz.func170, Tryz.ntmps170
  go_wp2
  exact bodyPost_ret (v := .agg #[.int .i64 5, .bool false, .slice none 0 0, .slice none 0 0, .slice none 0 0]) (res1C rfl R0.out rfl) rfl ⟨_, _, _, _, _, _, _, _, _, rfl, Sec.nil, Sec.nil, Sec.nil, L0.out⟩

set_option maxRecDepth 100000 in
set_option maxHeartbeats 8000000 in
theorem aliasReply (s nm : ByteArray) (ty : Int) (b0 o0 n c : Nat) (l : List Rec) (w : World) (hs : Sr w w.heap.size (some ⟨b0, o0, none⟩) n l) (hn : n ≤ 1048576) :
    Calls Tryz.prog 172 #[.agg #[.string s, .slice (some ⟨b0, o0, none⟩) n c], .agg #[.string nm, .int .i64 ty]] w (GivesK w 0 true (sf nm 5 l) [] []) := by
  obtain ⟨⟨hx, hy⟩, hb0, hl0⟩ := three w s nm ty (.slice (some ⟨b0, o0, none⟩) n c) 37 29 148 0 false
  have X0 := Lib.hid hx
  have Y0 := Lib.hid hy
  have R0 := Lib.hid hb0
  have L0 := Lib.hid hl0
  have S0 := Lib.hid (hs.on hl0)
  have TS := Lib.hid (fun W hW => SetI.impl nm 5 b0 o0 n c l W hW (by omega))
  clear hs hx hy hb0 hl0
  obtain ⟨x0, x1⟩ := X0.out
  obtain ⟨y0, y1⟩ := Y0.out
  go_enter Tryz.func172, Tryz.ntmps172
  go_wp2_with fail
  refine (TS.out _ S0.out).mono ?_
  rintro e w1 ⟨g, m, cp, r, rfl, hm1, hc1, hg1, hb1, hl⟩
  have R1 := Lib.hid (R0.out.below hl R0.out.lt)
  have L1 := Lib.hid (L0.out.trans (hl.mono L0.out.size))
  have GE : Hid (w.heap.size + 1 + 1 < g) := Nat.lt_of_lt_of_le R0.out.lt hg1
  have F := Lib.hid (filC_bk R1.out 0 true (.slice (some ⟨g, 0, none⟩) m cp) (.slice none 0 0) (.slice none 0 0))
  have E := Lib.hid (filC_below L1.out (g := w.heap.size + 1 + 1) (by omega) 0 true (.slice (some ⟨g, 0, none⟩) m cp) (.slice none 0 0) (.slice none 0 0))
  have Q1 : Hid (Sec (w.heap.size + 1 + 1 + 1) w1 (some ⟨g, 0, none⟩) m cp (sf nm 5 l)) := .inr ⟨g, r, rfl, hm1, hc1, GE.out, hb1⟩
  clear hl hm1 hc1 hg1 hb1 X0 Y0 R0 L0 S0 TS x0 x1 y0 y1
  have r0 := R1.out.cell 0
  have f0 := R1.out.free 0
  have r1 := R1.out.cell 1
  have f1 := R1.out.free 1
  have r2 := R1.out.cell 2
  have f2 := R1.out.free 2
  have r3 := R1.out.cell 3
  have f3 := R1.out.free 3
  have r4 := R1.out.cell 4
  have f4 := R1.out.free 4
  simp only [cc, List.getElem?_cons_zero, List.getElem?_cons_succ] at r0 r1 r2 r3 r4
  go_wp2
  exact bodyPost_ret (v := .agg #[.int .i64 0, .bool true, .slice (some ⟨g, 0, none⟩) m cp, .slice none 0 0, .slice none 0 0]) (res1C rfl F.out rfl) rfl ⟨_, _, _, _, _, _, _, _, _, rfl, (Q1.out.fil (by omega) _ _ _ _ _).low (by omega), Sec.nil, Sec.nil, E.out⟩

set_option maxRecDepth 100000 in
set_option maxHeartbeats 8000000 in
theorem setReply (s nm : ByteArray) (ty : Int) (b0 o0 n c : Nat) (l : List Rec) (w : World) (hs : Sr w w.heap.size (some ⟨b0, o0, none⟩) n l) (hn : n ≤ 1048576) :
    Calls Tryz.prog 173 #[.agg #[.string s, .slice (some ⟨b0, o0, none⟩) n c], .agg #[.string nm, .int .i64 ty]] w (GivesK w 0 true (sf nm ty l) [] []) := by
  obtain ⟨⟨hx, hy⟩, hb0, hl0⟩ := three w s nm ty (.slice (some ⟨b0, o0, none⟩) n c) 37 29 148 0 false
  have X0 := Lib.hid hx
  have Y0 := Lib.hid hy
  have R0 := Lib.hid hb0
  have L0 := Lib.hid hl0
  have S0 := Lib.hid (hs.on hl0)
  have TS := Lib.hid (fun W hW => SetI.impl nm ty b0 o0 n c l W hW (by omega))
  clear hs hx hy hb0 hl0
  obtain ⟨x0, x1⟩ := X0.out
  obtain ⟨y0, y1⟩ := Y0.out
  go_enter Tryz.func173, Tryz.ntmps173
  go_wp2_with fail
  refine (TS.out _ S0.out).mono ?_
  rintro e w1 ⟨g, m, cp, r, rfl, hm1, hc1, hg1, hb1, hl⟩
  have R1 := Lib.hid (R0.out.below hl R0.out.lt)
  have L1 := Lib.hid (L0.out.trans (hl.mono L0.out.size))
  have GE : Hid (w.heap.size + 1 + 1 < g) := Nat.lt_of_lt_of_le R0.out.lt hg1
  have F := Lib.hid (filC_bk R1.out 0 true (.slice (some ⟨g, 0, none⟩) m cp) (.slice none 0 0) (.slice none 0 0))
  have E := Lib.hid (filC_below L1.out (g := w.heap.size + 1 + 1) (by omega) 0 true (.slice (some ⟨g, 0, none⟩) m cp) (.slice none 0 0) (.slice none 0 0))
  have Q1 : Hid (Sec (w.heap.size + 1 + 1 + 1) w1 (some ⟨g, 0, none⟩) m cp (sf nm ty l)) := .inr ⟨g, r, rfl, hm1, hc1, GE.out, hb1⟩
  clear hl hm1 hc1 hg1 hb1 X0 Y0 R0 L0 S0 TS x0 x1 y0 y1
  have r0 := R1.out.cell 0
  have f0 := R1.out.free 0
  have r1 := R1.out.cell 1
  have f1 := R1.out.free 1
  have r2 := R1.out.cell 2
  have f2 := R1.out.free 2
  have r3 := R1.out.cell 3
  have f3 := R1.out.free 3
  have r4 := R1.out.cell 4
  have f4 := R1.out.free 4
  simp only [cc, List.getElem?_cons_zero, List.getElem?_cons_succ] at r0 r1 r2 r3 r4
  go_wp2
  exact bodyPost_ret (v := .agg #[.int .i64 0, .bool true, .slice (some ⟨g, 0, none⟩) m cp, .slice none 0 0, .slice none 0 0]) (res1C rfl F.out rfl) rfl ⟨_, _, _, _, _, _, _, _, _, rfl, (Q1.out.fil (by omega) _ _ _ _ _).low (by omega), Sec.nil, Sec.nil, E.out⟩

set_option maxRecDepth 100000 in
set_option maxHeartbeats 8000000 in
theorem noDataReply (s nm : ByteArray) (ty : Int) (b0 o0 n c : Nat) (l : List Rec) (w : World) (hs : Sr w w.heap.size (some ⟨b0, o0, none⟩) n l) (hn : n ≤ 1048576) (hm : s.size ≤ 400000000) (hz : ∀ r ∈ l, r.name.size ≤ 400000000) :
    Calls Tryz.prog 174 #[.agg #[.string s, .slice (some ⟨b0, o0, none⟩) n c], .agg #[.string nm, .int .i64 ty]] w (GivesK w 0 true [] [st l] []) := by
  obtain ⟨⟨hx, hy⟩, hb0, hl0⟩ := three w s nm ty (.slice (some ⟨b0, o0, none⟩) n c) 37 29 148 0 false
  have X0 := Lib.hid hx
  have Y0 := Lib.hid hy
  have R0 := Lib.hid hb0
  have L0 := Lib.hid hl0
  have S0 := Lib.hid (hs.on hl0)
  have TS := Lib.hid (fun W hW => StartOfI.impl s b0 o0 n c l W hW (by omega) hm hz)
  clear hz
  have HQ : Hid (∃ q, st l = q) := ⟨_, rfl⟩
  obtain ⟨q, hq0⟩ := HQ.out
  rw [hq0] at TS
  have HQ1 := Lib.hid hq0
  clear HQ hq0
  clear hs hx hy hb0 hl0
  obtain ⟨x0, x1⟩ := X0.out
  obtain ⟨y0, y1⟩ := Y0.out
  go_enter Tryz.func174, Tryz.ntmps174
  go_wp2_with fail
  refine (TS.out _ S0.out).mono ?_
  rintro e w1 ⟨rfl, hl⟩
  have al : Below w1.heap.size w1 (w1.alloc (.cells #[.string q.name, .int .i64 q.ty, .int .i64 q.ttl, .int .i64 q.n, .string q.host, .string q.text] 93)) := (Below.refl _ _).alloc (Nat.le_refl _) _
  have R1 := Lib.hid ((R0.out.below hl R0.out.lt).below al (R0.out.below hl R0.out.lt).lt)
  have L1 := Lib.hid (L0.out.trans (hl.mono L0.out.size))
  have L2 := Lib.hid (L1.out.trans (al.mono L1.out.size))
  have N2 : Hid (Bk (w1.alloc (.cells #[.string q.name, .int .i64 q.ty, .int .i64 q.ttl, .int .i64 q.n, .string q.host, .string q.text] 93)) w1.heap.size 93 (fl [q] ++ [])) := heap_alloc_new w1 (.cells #[.string q.name, .int .i64 q.ty, .int .i64 q.ttl, .int .i64 q.n, .string q.host, .string q.text] 93)
  have GE : Hid (w.heap.size + 1 + 1 < w1.heap.size) := (R0.out.below hl R0.out.lt).lt
  have F := Lib.hid (filC_bk R1.out 0 true (.slice none 0 0) (.slice (some ⟨w1.heap.size, 0, none⟩) 1 1) (.slice none 0 0))
  have E := Lib.hid (filC_below L2.out (g := w.heap.size + 1 + 1) (by omega) 0 true (.slice none 0 0) (.slice (some ⟨w1.heap.size, 0, none⟩) 1 1) (.slice none 0 0))
  have Q1 : Hid (Sec (w.heap.size + 1 + 1 + 1) (w1.alloc (.cells #[.string q.name, .int .i64 q.ty, .int .i64 q.ttl, .int .i64 q.n, .string q.host, .string q.text] 93)) (some ⟨w1.heap.size, 0, none⟩) 1 1 [q]) := .inr ⟨w1.heap.size, [], rfl, rfl, Nat.le_refl _, GE.out, N2.out⟩
  clear hl al X0 Y0 R0 L0 S0 TS x0 x1 y0 y1
  have r0 := R1.out.cell 0
  have f0 := R1.out.free 0
  have r1 := R1.out.cell 1
  have f1 := R1.out.free 1
  have r2 := R1.out.cell 2
  have f2 := R1.out.free 2
  have r3 := R1.out.cell 3
  have f3 := R1.out.free 3
  have r4 := R1.out.cell 4
  have f4 := R1.out.free 4
  simp only [cc, List.getElem?_cons_zero, List.getElem?_cons_succ] at r0 r1 r2 r3 r4
  go_wp2
  exact bodyPost_ret (v := .agg #[.int .i64 0, .bool true, .slice none 0 0, .slice (some ⟨w1.heap.size, 0, none⟩) 1 1, .slice none 0 0]) (res1C rfl F.out rfl) rfl ⟨_, _, _, _, _, _, _, _, _, rfl, Sec.nil, by rw [HQ1.out]; exact (Q1.out.fil (by omega) _ _ _ _ _).low (by omega), Sec.nil, E.out⟩

set_option maxRecDepth 100000 in
set_option maxHeartbeats 8000000 in
theorem noNameReply (s nm : ByteArray) (ty : Int) (b0 o0 n c : Nat) (l : List Rec) (w : World) (hs : Sr w w.heap.size (some ⟨b0, o0, none⟩) n l) (hn : n ≤ 1048576) (hm : s.size ≤ 400000000) (hz : ∀ r ∈ l, r.name.size ≤ 400000000) :
    Calls Tryz.prog 175 #[.agg #[.string s, .slice (some ⟨b0, o0, none⟩) n c], .agg #[.string nm, .int .i64 ty]] w (GivesK w 3 true [] [st l] []) := by
  obtain ⟨⟨hx, hy⟩, hb0, hl0⟩ := three w s nm ty (.slice (some ⟨b0, o0, none⟩) n c) 37 29 148 0 false
  have X0 := Lib.hid hx
  have Y0 := Lib.hid hy
  have R0 := Lib.hid hb0
  have L0 := Lib.hid hl0
  have S0 := Lib.hid (hs.on hl0)
  have TS := Lib.hid (fun W hW => StartOfI.impl s b0 o0 n c l W hW (by omega) hm hz)
  clear hz
  have HQ : Hid (∃ q, st l = q) := ⟨_, rfl⟩
  obtain ⟨q, hq0⟩ := HQ.out
  rw [hq0] at TS
  have HQ1 := Lib.hid hq0
  clear HQ hq0
  clear hs hx hy hb0 hl0
  obtain ⟨x0, x1⟩ := X0.out
  obtain ⟨y0, y1⟩ := Y0.out
  go_enter Tryz.func175, Tryz.ntmps175
  go_wp2_with fail
  refine (TS.out _ S0.out).mono ?_
  rintro e w1 ⟨rfl, hl⟩
  have al : Below w1.heap.size w1 (w1.alloc (.cells #[.string q.name, .int .i64 q.ty, .int .i64 q.ttl, .int .i64 q.n, .string q.host, .string q.text] 93)) := (Below.refl _ _).alloc (Nat.le_refl _) _
  have R1 := Lib.hid ((R0.out.below hl R0.out.lt).below al (R0.out.below hl R0.out.lt).lt)
  have L1 := Lib.hid (L0.out.trans (hl.mono L0.out.size))
  have L2 := Lib.hid (L1.out.trans (al.mono L1.out.size))
  have N2 : Hid (Bk (w1.alloc (.cells #[.string q.name, .int .i64 q.ty, .int .i64 q.ttl, .int .i64 q.n, .string q.host, .string q.text] 93)) w1.heap.size 93 (fl [q] ++ [])) := heap_alloc_new w1 (.cells #[.string q.name, .int .i64 q.ty, .int .i64 q.ttl, .int .i64 q.n, .string q.host, .string q.text] 93)
  have GE : Hid (w.heap.size + 1 + 1 < w1.heap.size) := (R0.out.below hl R0.out.lt).lt
  have F := Lib.hid (filC_bk R1.out 3 true (.slice none 0 0) (.slice (some ⟨w1.heap.size, 0, none⟩) 1 1) (.slice none 0 0))
  have E := Lib.hid (filC_below L2.out (g := w.heap.size + 1 + 1) (by omega) 3 true (.slice none 0 0) (.slice (some ⟨w1.heap.size, 0, none⟩) 1 1) (.slice none 0 0))
  have Q1 : Hid (Sec (w.heap.size + 1 + 1 + 1) (w1.alloc (.cells #[.string q.name, .int .i64 q.ty, .int .i64 q.ttl, .int .i64 q.n, .string q.host, .string q.text] 93)) (some ⟨w1.heap.size, 0, none⟩) 1 1 [q]) := .inr ⟨w1.heap.size, [], rfl, rfl, Nat.le_refl _, GE.out, N2.out⟩
  clear hl al X0 Y0 R0 L0 S0 TS x0 x1 y0 y1
  have r0 := R1.out.cell 0
  have f0 := R1.out.free 0
  have r1 := R1.out.cell 1
  have f1 := R1.out.free 1
  have r2 := R1.out.cell 2
  have f2 := R1.out.free 2
  have r3 := R1.out.cell 3
  have f3 := R1.out.free 3
  have r4 := R1.out.cell 4
  have f4 := R1.out.free 4
  simp only [cc, List.getElem?_cons_zero, List.getElem?_cons_succ] at r0 r1 r2 r3 r4
  go_wp2
  exact bodyPost_ret (v := .agg #[.int .i64 3, .bool true, .slice none 0 0, .slice (some ⟨w1.heap.size, 0, none⟩) 1 1, .slice none 0 0]) (res1C rfl F.out rfl) rfl ⟨_, _, _, _, _, _, _, _, _, rfl, Sec.nil, by rw [HQ1.out]; exact (Q1.out.fil (by omega) _ _ _ _ _).low (by omega), Sec.nil, E.out⟩

end Go.Proofs.YtmkcjjgicinggaaGreatDoor.ConI
