/- What the law's own helpers markRecordS and heldRecordS do from any first mark on: every field of every record is overwritten by a mark of its own; and the marks are found. Condition: no mark is above 20000000. -/
import Derived.Test.YtmabbeefeipnaaaResC
import Derived.Test.YtmabbeefeipnaaaKindS
import Derived.Test.YtmabbeefeipnaaaMorS
import Derived.Test.YtmabbeefeipnaaaSetI
import Derived.Test.YtmabbeefeipnaaaExactMoreInP1
import Derived.Deep.RegionHeld3
import Derived.Test.YtmabbeefeipnaaaCutOfS
import Derived.Test.YtmabbeefeipnaaaZoneMath
import Derived.Test.YtmabbeefeipnaaaMemZ
import Derived.Test.YtmabbeefeipnaaaServeMath
import Derived.Laws.EntriesVeiled
import Derived.Test.YtmabbeefeipnaaaMarkR
/- What each kind of reply holds, in the program: refusal, referral, aliasReply, setReply, noDataReply, noNameReply. Condition: at most 1048576 records, no name of more than 400000000 bytes. -/
namespace Go.Proofs.Ytmabbeefeipnaaa.ConI
open Go.RowKit Go.Proofs.Ytmabbeefeipnaaa.Mem Go.Proofs.Ytmabbeefeipnaaa.MemR Go.Proofs.Ytmabbeefeipnaaa.SetMath Go.Proofs.Ytmabbeefeipnaaa.NameMath Go.Proofs.Ytmabbeefeipnaaa.ZoneMath Go.Proofs.Ytmabbeefeipnaaa.ServeMath Go.Proofs.Ytmabbeefeipnaaa.MemZ Go.Proofs.Ytmabbeefeipnaaa.MemM Go.Proofs.Ytmabbeefeipnaaa.Wt Go.Proofs.Ytmabbeefeipnaaa.AppS Go.Proofs.Ytmabbeefeipnaaa.MemS Go.Proofs.Ytmabbeefeipnaaa.KindS Go.Proofs.Ytmabbeefeipnaaa.CutOfS Go.Proofs.Ytmabbeefeipnaaa.ResC

/-- The boxes of a zone, a question and a content. -/
theorem three (w : World) (s nm : ByteArray) (ty : Int) (x : Value) (t u v : TypeId) (d : Int) (a : Bool) : (Zx (((w.alloc (.cells #[.string s, x] t)).alloc (.cells #[.string nm, .int .i64 ty] u)).alloc (.cells #[.int .i64 d, .bool a, .slice none 0 0, .slice none 0 0, .slice none 0 0] v)) w.heap.size s x ∧ Qx (((w.alloc (.cells #[.string s, x] t)).alloc (.cells #[.string nm, .int .i64 ty] u)).alloc (.cells #[.int .i64 d, .bool a, .slice none 0 0, .slice none 0 0, .slice none 0 0] v)) (w.heap.size + 1) nm ty) ∧ Bk (((w.alloc (.cells #[.string s, x] t)).alloc (.cells #[.string nm, .int .i64 ty] u)).alloc (.cells #[.int .i64 d, .bool a, .slice none 0 0, .slice none 0 0, .slice none 0 0] v)) (w.heap.size + 1 + 1) v (cc d a (.slice none 0 0) (.slice none 0 0) (.slice none 0 0)) ∧ Below w.heap.size w (((w.alloc (.cells #[.string s, x] t)).alloc (.cells #[.string nm, .int .i64 ty] u)).alloc (.cells #[.int .i64 d, .bool a, .slice none 0 0, .slice none 0 0, .slice none 0 0] v)) := by
  obtain ⟨⟨h1, h2⟩, h3⟩ := two w s nm ty x t u
  have al : Below ((w.alloc (.cells #[.string s, x] t)).alloc (.cells #[.string nm, .int .i64 ty] u)).heap.size ((w.alloc (.cells #[.string s, x] t)).alloc (.cells #[.string nm, .int .i64 ty] u)) (((w.alloc (.cells #[.string s, x] t)).alloc (.cells #[.string nm, .int .i64 ty] u)).alloc (.cells #[.int .i64 d, .bool a, .slice none 0 0, .slice none 0 0, .slice none 0 0] v)) := (Below.refl _ _).alloc (Nat.le_refl _) _
  refine ⟨⟨h1.below al, h2.below al⟩, ?_, h3.trans (al.mono h3.size)⟩
  have := heap_alloc_new ((w.alloc (.cells #[.string s, x] t)).alloc (.cells #[.string nm, .int .i64 ty] u)) (.cells #[.int .i64 d, .bool a, .slice none 0 0, .slice none 0 0, .slice none 0 0] v)
  rw [show ((w.alloc (.cells #[.string s, x] t)).alloc (.cells #[.string nm, .int .i64 ty] u)).heap.size = w.heap.size + 1 + 1 by simp] at this
  exact this

set_option maxRecDepth 100000 in
set_option maxHeartbeats 8000000 in
theorem refusal (s nm : ByteArray) (ty : Int) (b0 o0 n c : Nat) (w : World) :
    Calls Try.prog 65 #[.agg #[.string s, .slice (some ⟨b0, o0, none⟩) n c], .agg #[.string nm, .int .i64 ty]] w (GivesK w 5 false [] [] []) := by
  obtain ⟨-, hb0, hl0⟩ := three w s nm ty (.slice (some ⟨b0, o0, none⟩) n c) 32 34 64 5 false
  have R0 := Lib.hid hb0
  have L0 := Lib.hid hl0
  clear hb0 hl0
  go_enter Try.func65, Try.ntmps65
  go_wp2
  exact bodyPost_ret (v := .agg #[.int .i64 5, .bool false, .slice none 0 0, .slice none 0 0, .slice none 0 0]) (res1C rfl R0.out rfl) rfl ⟨_, _, _, _, _, _, _, _, _, rfl, Sec.nil, Sec.nil, Sec.nil, L0.out⟩

set_option maxRecDepth 100000 in
set_option maxHeartbeats 8000000 in
theorem aliasReply (s nm : ByteArray) (ty : Int) (b0 o0 n c : Nat) (l : List Rec) (w : World) (hs : Sr w w.heap.size (some ⟨b0, o0, none⟩) n l) (hn : n ≤ 1048576) :
    Calls Try.prog 67 #[.agg #[.string s, .slice (some ⟨b0, o0, none⟩) n c], .agg #[.string nm, .int .i64 ty]] w (GivesK w 0 true (sf nm 5 l) [] []) := by
  obtain ⟨⟨hx, hy⟩, hb0, hl0⟩ := three w s nm ty (.slice (some ⟨b0, o0, none⟩) n c) 32 34 64 0 false
  have X0 := Lib.hid hx
  have Y0 := Lib.hid hy
  have R0 := Lib.hid hb0
  have L0 := Lib.hid hl0
  have S0 := Lib.hid (hs.on hl0)
  have TS := Lib.hid (fun W hW => SetI.impl nm 5 b0 o0 n c l W hW (by omega))
  clear hs hx hy hb0 hl0
  obtain ⟨x0, x1⟩ := X0.out
  obtain ⟨y0, y1⟩ := Y0.out
  go_enter Try.func67, Try.ntmps67
  go_wp2_with fail
  refine (TS.out _ S0.out).mono ?_
  rintro e w1 ⟨g, m, cp, r, rfl, hm1, hc1, hg1, hb1, hl⟩
  have R1 := Lib.hid (R0.out.below hl R0.out.lt)
  have L1 := Lib.hid (L0.out.trans (hl.mono L0.out.size))
  have GE : Hid (w.heap.size + 1 + 1 < g) := Nat.lt_of_lt_of_le R0.out.lt hg1
  have F := Lib.hid (filC_bk R1.out 0 true (.slice (some ⟨g, 0, none⟩) m cp) (.slice none 0 0) (.slice none 0 0))
  have E := Lib.hid (filC_below L1.out (g := w.heap.size + 1 + 1) (by omega) 0 true (.slice (some ⟨g, 0, none⟩) m cp) (.slice none 0 0) (.slice none 0 0))
  have Q1 : Hid (Sec (w.heap.size + 1 + 1 + 1) w1 (some ⟨g, 0, none⟩) m cp (sf nm 5 l)) := .inr ⟨g, r, rfl, hm1, hc1, GE.out, hb1⟩
  clear hl hm1 hc1 hg1 hb1 X0 Y0 R0 L0 S0 TS x0 x1 y0 y1
  have r0 := R1.out.cell 0
  have f0 := R1.out.free 0
  have r1 := R1.out.cell 1
  have f1 := R1.out.free 1
  have r2 := R1.out.cell 2
  have f2 := R1.out.free 2
  have r3 := R1.out.cell 3
  have f3 := R1.out.free 3
  have r4 := R1.out.cell 4
  have f4 := R1.out.free 4
  simp only [cc, List.getElem?_cons_zero, List.getElem?_cons_succ] at r0 r1 r2 r3 r4
  go_wp2
  exact bodyPost_ret (v := .agg #[.int .i64 0, .bool true, .slice (some ⟨g, 0, none⟩) m cp, .slice none 0 0, .slice none 0 0]) (res1C rfl F.out rfl) rfl ⟨_, _, _, _, _, _, _, _, _, rfl, (Q1.out.fil (by omega) _ _ _ _ _).low (by omega), Sec.nil, Sec.nil, E.out⟩

set_option maxRecDepth 100000 in
set_option maxHeartbeats 8000000 in
theorem setReply (s nm : ByteArray) (ty : Int) (b0 o0 n c : Nat) (l : List Rec) (w : World) (hs : Sr w w.heap.size (some ⟨b0, o0, none⟩) n l) (hn : n ≤ 1048576) :
    Calls Try.prog 68 #[.agg #[.string s, .slice (some ⟨b0, o0, none⟩) n c], .agg #[.string nm, .int .i64 ty]] w (GivesK w 0 true (sf nm ty l) [] []) := by
  obtain ⟨⟨hx, hy⟩, hb0, hl0⟩ := three w s nm ty (.slice (some ⟨b0, o0, none⟩) n c) 32 34 64 0 false
  have X0 := Lib.hid hx
  have Y0 := Lib.hid hy
  have R0 := Lib.hid hb0
  have L0 := Lib.hid hl0
  have S0 := Lib.hid (hs.on hl0)
  have TS := Lib.hid (fun W hW => SetI.impl nm ty b0 o0 n c l W hW (by omega))
  clear hs hx hy hb0 hl0
  obtain ⟨x0, x1⟩ := X0.out
  obtain ⟨y0, y1⟩ := Y0.out
  go_enter Try.func68, Try.ntmps68
  go_wp2_with fail
  refine (TS.out _ S0.out).mono ?_
  rintro e w1 ⟨g, m, cp, r, rfl, hm1, hc1, hg1, hb1, hl⟩
  have R1 := Lib.hid (R0.out.below hl R0.out.lt)
  have L1 := Lib.hid (L0.out.trans (hl.mono L0.out.size))
  have GE : Hid (w.heap.size + 1 + 1 < g) := Nat.lt_of_lt_of_le R0.out.lt hg1
  have F := Lib.hid (filC_bk R1.out 0 true (.slice (some ⟨g, 0, none⟩) m cp) (.slice none 0 0) (.slice none 0 0))
  have E := Lib.hid (filC_below L1.out (g := w.heap.size + 1 + 1) (by omega) 0 true (.slice (some ⟨g, 0, none⟩) m cp) (.slice none 0 0) (.slice none 0 0))
  have Q1 : Hid (Sec (w.heap.size + 1 + 1 + 1) w1 (some ⟨g, 0, none⟩) m cp (sf nm ty l)) := .inr ⟨g, r, rfl, hm1, hc1, GE.out, hb1⟩
  clear hl hm1 hc1 hg1 hb1 X0 Y0 R0 L0 S0 TS x0 x1 y0 y1
  have r0 := R1.out.cell 0
  have f0 := R1.out.free 0
  have r1 := R1.out.cell 1
  have f1 := R1.out.free 1
  have r2 := R1.out.cell 2
  have f2 := R1.out.free 2
  have r3 := R1.out.cell 3
  have f3 := R1.out.free 3
  have r4 := R1.out.cell 4
  have f4 := R1.out.free 4
  simp only [cc, List.getElem?_cons_zero, List.getElem?_cons_succ] at r0 r1 r2 r3 r4
  go_wp2
  exact bodyPost_ret (v := .agg #[.int .i64 0, .bool true, .slice (some ⟨g, 0, none⟩) m cp, .slice none 0 0, .slice none 0 0]) (res1C rfl F.out rfl) rfl ⟨_, _, _, _, _, _, _, _, _, rfl, (Q1.out.fil (by omega) _ _ _ _ _).low (by omega), Sec.nil, Sec.nil, E.out⟩

set_option maxRecDepth 100000 in
set_option maxHeartbeats 8000000 in
theorem noDataReply (s nm : ByteArray) (ty : Int) (b0 o0 n c : Nat) (l : List Rec) (w : World) (hs : Sr w w.heap.size (some ⟨b0, o0, none⟩) n l) (hn : n ≤ 1048576) (hm : s.size ≤ 400000000) (hz : ∀ r ∈ l, r.name.size ≤ 400000000) :
    Calls Try.prog 69 #[.agg #[.string s, .slice (some ⟨b0, o0, none⟩) n c], .agg #[.string nm, .int .i64 ty]] w (GivesK w 0 true [] [st l] []) := by
  obtain ⟨⟨hx, hy⟩, hb0, hl0⟩ := three w s nm ty (.slice (some ⟨b0, o0, none⟩) n c) 32 34 64 0 false
  have X0 := Lib.hid hx
  have Y0 := Lib.hid hy
  have R0 := Lib.hid hb0
  have L0 := Lib.hid hl0
  have S0 := Lib.hid (hs.on hl0)
  have TS := Lib.hid (fun W hW => StartOfI.impl s b0 o0 n c l W hW (by omega) hm hz)
  clear hz
  have HQ : Hid (∃ q, st l = q) := ⟨_, rfl⟩
  obtain ⟨q, hq0⟩ := HQ.out
  rw [hq0] at TS
  have HQ1 := Lib.hid hq0
  clear HQ hq0
  clear hs hx hy hb0 hl0
  obtain ⟨x0, x1⟩ := X0.out
  obtain ⟨y0, y1⟩ := Y0.out
  go_enter Try.func69, Try.ntmps69
  go_wp2_with fail
  refine (TS.out _ S0.out).mono ?_
  rintro e w1 ⟨rfl, hl⟩
  have al : Below w1.heap.size w1 (w1.alloc (.cells #[.string q.name, .int .i64 q.ty, .int .i64 q.ttl, .int .i64 q.n, .string q.host, .string q.text] 68)) := (Below.refl _ _).alloc (Nat.le_refl _) _
  have R1 := Lib.hid ((R0.out.below hl R0.out.lt).below al (R0.out.below hl R0.out.lt).lt)
  have L1 := Lib.hid (L0.out.trans (hl.mono L0.out.size))
  have L2 := Lib.hid (L1.out.trans (al.mono L1.out.size))
  have N2 : Hid (Bk (w1.alloc (.cells #[.string q.name, .int .i64 q.ty, .int .i64 q.ttl, .int .i64 q.n, .string q.host, .string q.text] 68)) w1.heap.size 68 (fl [q] ++ [])) := heap_alloc_new w1 (.cells #[.string q.name, .int .i64 q.ty, .int .i64 q.ttl, .int .i64 q.n, .string q.host, .string q.text] 68)
  have GE : Hid (w.heap.size + 1 + 1 < w1.heap.size) := (R0.out.below hl R0.out.lt).lt
  have F := Lib.hid (filC_bk R1.out 0 true (.slice none 0 0) (.slice (some ⟨w1.heap.size, 0, none⟩) 1 1) (.slice none 0 0))
  have E := Lib.hid (filC_below L2.out (g := w.heap.size + 1 + 1) (by omega) 0 true (.slice none 0 0) (.slice (some ⟨w1.heap.size, 0, none⟩) 1 1) (.slice none 0 0))
  have Q1 : Hid (Sec (w.heap.size + 1 + 1 + 1) (w1.alloc (.cells #[.string q.name, .int .i64 q.ty, .int .i64 q.ttl, .int .i64 q.n, .string q.host, .string q.text] 68)) (some ⟨w1.heap.size, 0, none⟩) 1 1 [q]) := .inr ⟨w1.heap.size, [], rfl, rfl, Nat.le_refl _, GE.out, N2.out⟩
  clear hl al X0 Y0 R0 L0 S0 TS x0 x1 y0 y1
  have r0 := R1.out.cell 0
  have f0 := R1.out.free 0
  have r1 := R1.out.cell 1
  have f1 := R1.out.free 1
  have r2 := R1.out.cell 2
  have f2 := R1.out.free 2
  have r3 := R1.out.cell 3
  have f3 := R1.out.free 3
  have r4 := R1.out.cell 4
  have f4 := R1.out.free 4
  simp only [cc, List.getElem?_cons_zero, List.getElem?_cons_succ] at r0 r1 r2 r3 r4
  go_wp2
  exact bodyPost_ret (v := .agg #[.int .i64 0, .bool true, .slice none 0 0, .slice (some ⟨w1.heap.size, 0, none⟩) 1 1, .slice none 0 0]) (res1C rfl F.out rfl) rfl ⟨_, _, _, _, _, _, _, _, _, rfl, Sec.nil, by rw [HQ1.out]; exact (Q1.out.fil (by omega) _ _ _ _ _).low (by omega), Sec.nil, E.out⟩

set_option maxRecDepth 100000 in
set_option maxHeartbeats 8000000 in
theorem noNameReply (s nm : ByteArray) (ty : Int) (b0 o0 n c : Nat) (l : List Rec) (w : World) (hs : Sr w w.heap.size (some ⟨b0, o0, none⟩) n l) (hn : n ≤ 1048576) (hm : s.size ≤ 400000000) (hz : ∀ r ∈ l, r.name.size ≤ 400000000) :
    Calls Try.prog 70 #[.agg #[.string s, .slice (some ⟨b0, o0, none⟩) n c], .agg #[.string nm, .int .i64 ty]] w (GivesK w 3 true [] [st l] []) := by
  obtain ⟨⟨hx, hy⟩, hb0, hl0⟩ := three w s nm ty (.slice (some ⟨b0, o0, none⟩) n c) 32 34 64 0 false
  have X0 := Lib.hid hx
  have Y0 := Lib.hid hy
  have R0 := Lib.hid hb0
  have L0 := Lib.hid hl0
  have S0 := Lib.hid (hs.on hl0)
  have TS := Lib.hid (fun W hW => StartOfI.impl s b0 o0 n c l W hW (by omega) hm hz)
  clear hz
  have HQ : Hid (∃ q, st l = q) := ⟨_, rfl⟩
  obtain ⟨q, hq0⟩ := HQ.out
  rw [hq0] at TS
  have HQ1 := Lib.hid hq0
  clear HQ hq0
  clear hs hx hy hb0 hl0
  obtain ⟨x0, x1⟩ := X0.out
  obtain ⟨y0, y1⟩ := Y0.out
  go_enter Try.func70, Try.ntmps70
  go_wp2_with fail
  refine (TS.out _ S0.out).mono ?_
  rintro e w1 ⟨rfl, hl⟩
  have al : Below w1.heap.size w1 (w1.alloc (.cells #[.string q.name, .int .i64 q.ty, .int .i64 q.ttl, .int .i64 q.n, .string q.host, .string q.text] 68)) := (Below.refl _ _).alloc (Nat.le_refl _) _
  have R1 := Lib.hid ((R0.out.below hl R0.out.lt).below al (R0.out.below hl R0.out.lt).lt)
  have L1 := Lib.hid (L0.out.trans (hl.mono L0.out.size))
  have L2 := Lib.hid (L1.out.trans (al.mono L1.out.size))
  have N2 : Hid (Bk (w1.alloc (.cells #[.string q.name, .int .i64 q.ty, .int .i64 q.ttl, .int .i64 q.n, .string q.host, .string q.text] 68)) w1.heap.size 68 (fl [q] ++ [])) := heap_alloc_new w1 (.cells #[.string q.name, .int .i64 q.ty, .int .i64 q.ttl, .int .i64 q.n, .string q.host, .string q.text] 68)
  have GE : Hid (w.heap.size + 1 + 1 < w1.heap.size) := (R0.out.below hl R0.out.lt).lt
  have F := Lib.hid (filC_bk R1.out 3 true (.slice none 0 0) (.slice (some ⟨w1.heap.size, 0, none⟩) 1 1) (.slice none 0 0))
  have E := Lib.hid (filC_below L2.out (g := w.heap.size + 1 + 1) (by omega) 3 true (.slice none 0 0) (.slice (some ⟨w1.heap.size, 0, none⟩) 1 1) (.slice none 0 0))
  have Q1 : Hid (Sec (w.heap.size + 1 + 1 + 1) (w1.alloc (.cells #[.string q.name, .int .i64 q.ty, .int .i64 q.ttl, .int .i64 q.n, .string q.host, .string q.text] 68)) (some ⟨w1.heap.size, 0, none⟩) 1 1 [q]) := .inr ⟨w1.heap.size, [], rfl, rfl, Nat.le_refl _, GE.out, N2.out⟩
  clear hl al X0 Y0 R0 L0 S0 TS x0 x1 y0 y1
  have r0 := R1.out.cell 0
  have f0 := R1.out.free 0
  have r1 := R1.out.cell 1
  have f1 := R1.out.free 1
  have r2 := R1.out.cell 2
  have f2 := R1.out.free 2
  have r3 := R1.out.cell 3
  have f3 := R1.out.free 3
  have r4 := R1.out.cell 4
  have f4 := R1.out.free 4
  simp only [cc, List.getElem?_cons_zero, List.getElem?_cons_succ] at r0 r1 r2 r3 r4
  go_wp2
  exact bodyPost_ret (v := .agg #[.int .i64 3, .bool true, .slice none 0 0, .slice (some ⟨w1.heap.size, 0, none⟩) 1 1, .slice none 0 0]) (res1C rfl F.out rfl) rfl ⟨_, _, _, _, _, _, _, _, _, rfl, Sec.nil, by rw [HQ1.out]; exact (Q1.out.fil (by omega) _ _ _ _ _).low (by omega), Sec.nil, E.out⟩

end Go.Proofs.Ytmabbeefeipnaaa.ConI

/- What referral does in the program: the servers of the cut, and their addresses in the zone. Condition: at most 1048576 records, no name of more than 400000000 bytes. -/
namespace Go.Proofs.Ytmabbeefeipnaaa.RefI
open Go.RowKit Go.Proofs.Ytmabbeefeipnaaa.Mem Go.Proofs.Ytmabbeefeipnaaa.MemR Go.Proofs.Ytmabbeefeipnaaa.SetMath Go.Proofs.Ytmabbeefeipnaaa.NameMath Go.Proofs.Ytmabbeefeipnaaa.ZoneMath Go.Proofs.Ytmabbeefeipnaaa.ServeMath Go.Proofs.Ytmabbeefeipnaaa.MemZ Go.Proofs.Ytmabbeefeipnaaa.MemM Go.Proofs.Ytmabbeefeipnaaa.Wt Go.Proofs.Ytmabbeefeipnaaa.AppS Go.Proofs.Ytmabbeefeipnaaa.MemS Go.Proofs.Ytmabbeefeipnaaa.KindS Go.Proofs.Ytmabbeefeipnaaa.CutOfS Go.Proofs.Ytmabbeefeipnaaa.ResC Go.Proofs.Ytmabbeefeipnaaa.ConI

/-- The box g holds a content. A def, so that no step of a walk opens it. -/
def RC (w : World) (g : Nat) : Prop := ∃ cs : List Value, cs.length = 5 ∧ Bk w g 64 cs

/-- What a cell of the box holds. -/
def cl (w : World) (g j : Nat) : Value := (w.cell? ⟨g, j, none⟩).getD undef

theorem RC.below {w w' : World} {g : Nat} (k : RC w g) (hb : Below w.heap.size w w') : RC w' g := by
  obtain ⟨cs, hc, k⟩ := k
  exact ⟨cs, hc, k.below hb k.lt⟩

theorem RC.lt {w : World} {g : Nat} (k : RC w g) : g < w.heap.size := by
  obtain ⟨cs, hc, k⟩ := k
  exact k.lt

theorem RC.cell {w : World} {g : Nat} (k : RC w g) (j : Nat) (hj : j < 5) : w.cell? ⟨g, j, none⟩ = some (cl w g j) := by
  obtain ⟨cs, hc, k⟩ := k
  unfold cl
  rw [k.cell, List.getElem?_eq_getElem (show j < cs.length by omega)]
  rfl

theorem RC.free {w : World} {g : Nat} (k : RC w g) (j : Nat) : w.frozen? ⟨g, j, none⟩ = false := by
  obtain ⟨cs, hc, k⟩ := k
  exact k.free j

theorem RC.put {w : World} {g : Nat} (k : RC w g) (j : Nat) (v : Value) : RC (w.setCell ⟨g, j, none⟩ v) g := by
  obtain ⟨cs, hc, k⟩ := k
  exact ⟨cs.set j v, by rw [List.length_set]; exact hc, k.set j v⟩

theorem RC.fil {w : World} {g : Nat} (k : RC w g) (d : Int) (a : Bool) (x y z : Value) : Bk (filC w g d a x y z) g 64 (cc d a x y z) := by
  obtain ⟨cs, hc, k⟩ := k
  match cs, hc with
  | [a0, a1, a2, a3, a4], _ => exact (((((k.set 0 (.int .i64 d)).set 1 (.bool a)).set 2 x).set 3 y).set 4 z)

section
variable {w0 w w1 w' : World} {g k j : Nat} {s : ByteArray} {x : Value} {t : TypeId} {cs : List Value}

theorem keptC (m : ((w.cell? ⟨g, 0, none⟩ = some (.string s) ∧ w.cell? ⟨g, 1, none⟩ = some x) ∧ RC w k ∧ Bk w j t cs) ∧ Svz w0 w) (hl : Below w.heap.size w w') : ((w'.cell? ⟨g, 0, none⟩ = some (.string s) ∧ w'.cell? ⟨g, 1, none⟩ = some x) ∧ RC w' k ∧ Bk w' j t cs) ∧ Svz w0 w' :=
  ⟨⟨Zx.below m.1.1 hl, m.1.2.1.below hl, m.1.2.2.below hl m.1.2.2.lt⟩, m.2.trans (hl.mono m.2.size)⟩

theorem keptC_draw (m : ((w.cell? ⟨g, 0, none⟩ = some (.string s) ∧ w.cell? ⟨g, 1, none⟩ = some x) ∧ RC w k ∧ Bk w j t cs) ∧ Svz w0 w) : ((w.drew.cell? ⟨g, 0, none⟩ = some (.string s) ∧ w.drew.cell? ⟨g, 1, none⟩ = some x) ∧ RC w.drew k ∧ Bk w.drew j t cs) ∧ Svz w0 w.drew := keptC m ((Below.refl _ _).drew)

theorem keptC_put (m : ((w.cell? ⟨g, 0, none⟩ = some (.string s) ∧ w.cell? ⟨g, 1, none⟩ = some x) ∧ RC w k ∧ Bk w j t cs) ∧ Svz w0 w) (h1 : g ≠ k) (h2 : j ≠ k) (h3 : w0.heap.size ≤ k) (i : Nat) (v : Value) : (((w.setCell ⟨k, i, none⟩ v).cell? ⟨g, 0, none⟩ = some (.string s) ∧ (w.setCell ⟨k, i, none⟩ v).cell? ⟨g, 1, none⟩ = some x) ∧ RC (w.setCell ⟨k, i, none⟩ v) k ∧ Bk (w.setCell ⟨k, i, none⟩ v) j t cs) ∧ Svz w0 (w.setCell ⟨k, i, none⟩ v) :=
  ⟨⟨Zx.set1 m.1.1 (p := ⟨k, i, none⟩) h1 v, m.1.2.1.put i v, m.1.2.2.other (p := ⟨k, i, none⟩) h2 v⟩, Below.setCell m.2 (p := ⟨k, i, none⟩) h3 v⟩

theorem keptC_fil (m : ((w1.cell? ⟨g, 0, none⟩ = some (.string s) ∧ w1.cell? ⟨g, 1, none⟩ = some x) ∧ RC w1 k ∧ Bk w1 j t cs) ∧ Svz w0 w1) (h1 : g ≠ k) (h2 : j ≠ k) (h3 : w0.heap.size ≤ k) (v0 v1 v2 v3 v4 : Value) : (((((((w1.setCell ⟨k, 0, none⟩ v0).setCell ⟨k, 1, none⟩ v1).setCell ⟨k, 2, none⟩ v2).setCell ⟨k, 3, none⟩ v3).setCell ⟨k, 4, none⟩ v4).cell? ⟨g, 0, none⟩ = some (.string s) ∧ (((((w1.setCell ⟨k, 0, none⟩ v0).setCell ⟨k, 1, none⟩ v1).setCell ⟨k, 2, none⟩ v2).setCell ⟨k, 3, none⟩ v3).setCell ⟨k, 4, none⟩ v4).cell? ⟨g, 1, none⟩ = some x) ∧ RC (((((w1.setCell ⟨k, 0, none⟩ v0).setCell ⟨k, 1, none⟩ v1).setCell ⟨k, 2, none⟩ v2).setCell ⟨k, 3, none⟩ v3).setCell ⟨k, 4, none⟩ v4) k ∧ Bk (((((w1.setCell ⟨k, 0, none⟩ v0).setCell ⟨k, 1, none⟩ v1).setCell ⟨k, 2, none⟩ v2).setCell ⟨k, 3, none⟩ v3).setCell ⟨k, 4, none⟩ v4) j t cs) ∧ Svz w0 (((((w1.setCell ⟨k, 0, none⟩ v0).setCell ⟨k, 1, none⟩ v1).setCell ⟨k, 2, none⟩ v2).setCell ⟨k, 3, none⟩ v3).setCell ⟨k, 4, none⟩ v4) :=
  keptC_put (keptC_put (keptC_put (keptC_put (keptC_put m h1 h2 h3 0 v0) h1 h2 h3 1 v1) h1 h2 h3 2 v2) h1 h2 h3 3 v3) h1 h2 h3 4 v4
end

set_option maxRecDepth 100000 in
set_option maxHeartbeats 4000000 in
theorem referral (s nm : ByteArray) (ty : Int) (b0 o0 n c : Nat) (l : List Rec) (w : World) (hs : Sr w w.heap.size (some ⟨b0, o0, none⟩) n l) (hn : n ≤ 1048576) (hm : s.size ≤ 400000000) (hq : nm.size ≤ 400000000) (hz : ∀ r ∈ l, r.name.size ≤ 400000000) :
    Calls Try.prog 66 #[.agg #[.string s, .slice (some ⟨b0, o0, none⟩) n c], .agg #[.string nm, .int .i64 ty]] w (GivesK w 0 false [] (sf (cu s nm l) 2 l) (gl (uq (hl (sf (cu s nm l) 2 l))) l)) := by
  obtain ⟨⟨hx, hy⟩, hb0, hl0⟩ := three w s nm ty (.slice (some ⟨b0, o0, none⟩) n c) 32 34 64 0 false
  have X0 := Lib.hid hx
  have Y0 := Lib.hid hy
  have R0 := Lib.hid hb0
  have L0 := Lib.hid hl0
  have HS := Lib.hid hs
  have CS := Lib.hid (fun W hW => CutOfI.impl s nm b0 o0 n c l W hW (by omega) hm hq hz)
  have TS := Lib.hid (fun W hW => SetI.impl (cu s nm l) 2 b0 o0 n c l W hW (by omega))
  obtain ⟨b, hb⟩ := MorS.cu_cv s nm l
  rw [hb] at CS
  have LM : Hid ((sf (cu s nm l) 2 l).length ≤ 1048576) := show _ ≤ _ by have h1 := sf_len (cu s nm l) 2 l; have h2 := hs.1; omega
  clear hs hx hy hb0 hl0 hb hz
  generalize cu s nm l = u at *
  generalize sf u 2 l = lm at *
  have HHL : Hid ((uq (hl lm)).length ≤ 1048576) := show _ ≤ _ by have h1 := len_uq (hl lm); have h2 := hl_len lm; have := LM.out; omega
  have HH := Lib.hid (fun (b o m c : Nat) (W : World) (hW : Sr W W.heap.size (some ⟨b, o, none⟩) m lm) (hm : m ≤ 400000000) => HostI.impl b o m c lm W hW hm)
  generalize uq (hl lm) = H at *
  have GS := Lib.hid (fun (h m c' : Nat) (W : World) (hW : Sr W W.heap.size (some ⟨b0, o0, none⟩) n l) (hh : Ss W W.heap.size (some ⟨h, 0, none⟩) m H) (hm : m ≤ 1048576) => GlueI.impl s b0 o0 n c l h 0 m c' H W hW hh (by omega) hm)
  generalize gl H l = lg at *
  obtain ⟨x0, x1⟩ := X0.out
  obtain ⟨y0, y1⟩ := Y0.out
  go_enter Try.func66, Try.ntmps66
  go_wp2_with fail
  refine (CS.out _ (HS.out.on L0.out)).mono ?_
  rintro e w1 ⟨rfl, hl⟩
  have X1 := Lib.hid (X0.out.below hl)
  have R1 := Lib.hid (R0.out.below hl R0.out.lt)
  have L1 := Lib.hid (L0.out.trans (hl.mono L0.out.size))
  clear hl CS X0 Y0 R0 L0 x0 x1 y0 y1
  obtain ⟨x0, x1⟩ := X1.out
  go_wp2_with fail
  refine (TS.out _ (HS.out.on L1.out)).mono ?_
  rintro e w2 ⟨g, m, cp, r, rfl, hm2, hc2, hg2, hb2, hl⟩
  have M2 := Lib.hid hm2
  have C2 := Lib.hid hc2
  have B2 := Lib.hid hb2
  have NG : Hid (w.heap.size + 1 + 1 < g) := Nat.lt_of_lt_of_le R1.out.lt hg2
  have X2 := Lib.hid (X1.out.below hl)
  have R2 := Lib.hid (R1.out.below hl R1.out.lt)
  have L2 := Lib.hid (L1.out.trans (hl.mono L1.out.size))
  clear hl TS X1 R1 L1 x0 x1 hm2 hc2 hg2 hb2
  have hlm : m ≤ 1048576 := by have := LM.out; have := M2.out; omega
  have HHR : Hid (∀ W : World, ((W.cell? ⟨w.heap.size, 0, none⟩ = some (.string s) ∧ W.cell? ⟨w.heap.size, 1, none⟩ = some (.slice (some ⟨b0, o0, none⟩) n c)) ∧ RC W (w.heap.size + 1 + 1) ∧ Bk W g 68 (fl lm ++ r)) ∧ Svz w W → Calls Try.prog 80 #[.slice (some ⟨g, 0, none⟩) m cp] W (GivesS W H)) := fun W hW => HH.out g 0 m cp W (bk_sr hW.1.2.2 M2.out) (by omega)
  have GSR : Hid (∀ (W : World) (h m' c' : Nat) (r' : List Value), ((W.cell? ⟨w.heap.size, 0, none⟩ = some (.string s) ∧ W.cell? ⟨w.heap.size, 1, none⟩ = some (.slice (some ⟨b0, o0, none⟩) n c)) ∧ RC W (w.heap.size + 1 + 1) ∧ Bk W g 68 (fl lm ++ r)) ∧ Svz w W → Bk W h 9 (H.map tv ++ r') → H.length = m' → Calls Try.prog 79 #[.agg #[.string s, .slice (some ⟨b0, o0, none⟩) n c], .slice (some ⟨h, 0, none⟩) m' c'] W (GivesL W lg)) := fun W h m' c' r' hW hb hz => GS.out h m' c' W (HS.out.on hW.2) (bk_ssw hb hz) (by have := HHL.out; omega)
  have SS0 : ((w2.cell? ⟨w.heap.size, 0, none⟩ = some (.string s) ∧ w2.cell? ⟨w.heap.size, 1, none⟩ = some (.slice (some ⟨b0, o0, none⟩) n c)) ∧ RC w2 (w.heap.size + 1 + 1) ∧ Bk w2 g 68 (fl lm ++ r)) ∧ Svz w w2 := ⟨⟨X2.out, ⟨_, rfl, R2.out⟩, B2.out⟩, L2.out⟩
  have n1 : w.heap.size ≠ w.heap.size + 1 + 1 := by omega
  have n2 : g ≠ w.heap.size + 1 + 1 := by have := NG.out; omega
  have n3 : w.heap.size ≤ w.heap.size + 1 + 1 := by omega
  clear X2 HH GS
  go_wp2
  go_region_held3 (fun w' => ((w'.cell? ⟨w.heap.size, 0, none⟩ = some (.string s) ∧ w'.cell? ⟨w.heap.size, 1, none⟩ = some (.slice (some ⟨b0, o0, none⟩) n c)) ∧ RC w' (w.heap.size + 1 + 1) ∧ Bk w' g 68 (fl lm ++ r)) ∧ Svz w w')
    (first | with_reducible exact keptC_fil (w1 := w4) (by assumption) n1 n2 n3 _ _ _ _ _ | with_reducible exact SS0 | with_reducible assumption | with_reducible exact keptC (by assumption) hl | with_reducible exact keptC_draw (by assumption) | fail)
    (first
      | (go_at_call 80; (with_reducible refine (HHR.out _ (by assumption)).mono ?_); rintro e w3 ⟨g3, m3, c3, r3, rfl, hz3, hc3, hg3, hb3, hl⟩; have y1 := hl)
      | (go_at_call 79; (with_reducible refine (GSR.out _ _ _ _ _ (by assumption) hb3 hz3).mono ?_); rintro e w4 ⟨g4, m4, c4, r4, rfl, hz4, hc4, hg4, hb4, hl⟩; have y2 := hl; have HR := (keptC (by assumption) hl).1.2.1; have p0 := HR.cell 0 (by decide); have f0 := HR.free 0; have p1 := HR.cell 1 (by decide); have f1 := HR.free 1; have p2 := HR.cell 2 (by decide); have f2 := HR.free 2; have p3 := HR.cell 3 (by decide); have f3 := HR.free 3; have p4 := HR.cell 4 (by decide); have f4 := HR.free 4; clear HR)
      | fail)
  rename_i hH
  have a0 : Below w.heap.size w w2.drew := L2.out.drew
  have a1 := a0.trans (y1.mono a0.size)
  have a2 := a1.trans (y2.mono a1.size)
  have RA : RC w4 (w.heap.size + 1 + 1) := by
    have b0 : RC w2.drew (w.heap.size + 1 + 1) := ⟨_, rfl, R2.out⟩
    exact (b0.below y1).below y2
  have BA : Bk w4 g 68 (fl lm ++ r) := by
    have b0 : Bk w2.drew g 68 (fl lm ++ r) := B2.out
    have b1 := b0.below y1 b0.lt
    exact b1.below y2 b1.lt
  have F := Lib.hid (RA.fil 0 false (.slice none 0 0) (.slice (some ⟨g, 0, none⟩) m cp) (.slice (some ⟨g4, 0, none⟩) m4 c4))
  have E := Lib.hid (filC_below a2 (g := w.heap.size + 1 + 1) (by omega) 0 false (.slice none 0 0) (.slice (some ⟨g, 0, none⟩) m cp) (.slice (some ⟨g4, 0, none⟩) m4 c4))
  have G4 : w.heap.size + 1 + 1 < g4 := Nat.lt_of_lt_of_le (show w.heap.size + 1 + 1 < w3.heap.size from Nat.lt_of_lt_of_le (show w.heap.size + 1 + 1 < w2.drew.heap.size from R2.out.lt) y1.size) hg4
  have Q1 : Hid (Sec (w.heap.size + 1 + 1 + 1) w4 (some ⟨g, 0, none⟩) m cp lm) := .inr ⟨g, r, rfl, M2.out, C2.out, NG.out, BA⟩
  have Q2 : Hid (Sec (w.heap.size + 1 + 1 + 1) w4 (some ⟨g4, 0, none⟩) m4 c4 lg) := .inr ⟨g4, r4, rfl, hz4, hc4, G4, hb4⟩
  clear hH SS0 HHR GSR a0 a1 a2 RA BA R2 B2 L2 y1 y2 hl G4 hz3 hc3 hg3 hb3 hz4 hc4 hg4 hb4 p0 f0 p1 f1 p2 f2 p3 f3 p4 f4
  go_wp2
  exact bodyPost_ret (v := .agg #[.int .i64 0, .bool false, .slice none 0 0, .slice (some ⟨g, 0, none⟩) m cp, .slice (some ⟨g4, 0, none⟩) m4 c4]) (res1C rfl F.out rfl) rfl ⟨_, _, _, _, _, _, _, _, _, rfl, Sec.nil, (Q1.out.fil (by omega) _ _ _ _ _).low (by omega), (Q2.out.fil (by omega) _ _ _ _ _).low (by omega), E.out⟩

end Go.Proofs.Ytmabbeefeipnaaa.RefI

/- What InZone does in the program: it tells whether the name is under the zone's apex and under none of its cuts. Condition: fewer than 400000001 records, no name of more than 400000000 bytes. -/
namespace Go.Proofs.Ytmabbeefeipnaaa.InZoneI
open Go.RowKit Go.Proofs.Ytmabbeefeipnaaa.Mem Go.Proofs.Ytmabbeefeipnaaa.MemR Go.Proofs.Ytmabbeefeipnaaa.SetMath Go.Proofs.Ytmabbeefeipnaaa.NameMath Go.Proofs.Ytmabbeefeipnaaa.ZoneMath Go.Proofs.Ytmabbeefeipnaaa.MemZ Go.Proofs.Ytmabbeefeipnaaa.CutOfS

set_option maxHeartbeats 4000000 in
theorem impl (s nm : ByteArray) (b0 o0 n c : Nat) (l : List Rec) (w : World) (hs : Sr w w.heap.size (some ⟨b0, o0, none⟩) n l) (hn : n ≤ 400000000) (hm : s.size ≤ 400000000) (hq : nm.size ≤ 400000000) (hz : ∀ r ∈ l, r.name.size ≤ 400000000) :
    Calls Try.prog 43 #[.agg #[.string s, .slice (some ⟨b0, o0, none⟩) n c], .string nm] w fun e w' => e = .returned (.bool (iz s nm l)) ∧ Below w.heap.size w w' := by
  have L0 := Lib.hid ((Below.refl w.heap.size w).alloc (Nat.le_refl _) (.cells #[.string s, .slice (some ⟨b0, o0, none⟩) n c] 32))
  have X0 := Lib.hid (zx_new w 32 s (.slice (some ⟨b0, o0, none⟩) n c))
  have CS := Lib.hid (fun W hW => CutOfI.impl s nm b0 o0 n c l W hW hn hm hq hz)
  have US := Lib.hid (fun W => UnderImpl.impl nm s W hq hm)
  have S0 := Lib.hid (hs.on L0.out)
  clear hs hz
  have HV : Hid (iz s nm l = (Un nm s && !(co nm (uq (cn s l))).isSome)) := rfl
  generalize iz s nm l = v at *
  generalize co nm (uq (cn s l)) = o at *
  generalize Un nm s = u at *
  obtain ⟨x0, x1⟩ := X0.out
  cases o with
  | none =>
    replace CS : Hid (∀ W, Sr W W.heap.size (some ⟨b0, o0, none⟩) n l → Calls Try.prog 64 #[.agg #[.string s, .slice (some ⟨b0, o0, none⟩) n c], .string nm] W fun e w' => e = .returned (.tuple #[.string ⟨#[]⟩, .bool false]) ∧ Below W.heap.size W w') := CS
    go_enter Try.func43, Try.ntmps43
    go_wp2_with fail
    refine (CS.out _ S0.out).mono ?_
    rintro e w1 ⟨rfl, hl⟩
    have X1 := Lib.hid (X0.out.below hl)
    have L1 := Lib.hid (L0.out.trans (hl.mono L0.out.size))
    clear hl CS S0 L0 X0 x0 x1
    obtain ⟨x0, x1⟩ := X1.out
    go_wp2_with fail
    refine (US.out _).mono ?_
    rintro e w2 ⟨rfl, rfl⟩
    have L2 := Lib.hid L1.out
    clear US x0 x1 X1
    have HF : Hid (v = u) := by show _ = _; rw [HV.out]; simp
    clear HV
    cases u with
    | true => go_wp2; go_ret; exact ⟨congrArg (fun b => Ending.returned (Value.bool b)) HF.out.symm, L2.out⟩
    | false => go_wp2; go_ret; exact ⟨congrArg (fun b => Ending.returned (Value.bool b)) HF.out.symm, L2.out⟩
  | some y =>
    replace CS : Hid (∀ W, Sr W W.heap.size (some ⟨b0, o0, none⟩) n l → Calls Try.prog 64 #[.agg #[.string s, .slice (some ⟨b0, o0, none⟩) n c], .string nm] W fun e w' => e = .returned (.tuple #[.string y, .bool true]) ∧ Below W.heap.size W w') := CS
    go_enter Try.func43, Try.ntmps43
    go_wp2_with fail
    refine (CS.out _ S0.out).mono ?_
    rintro e w1 ⟨rfl, hl⟩
    have X1 := Lib.hid (X0.out.below hl)
    have L1 := Lib.hid (L0.out.trans (hl.mono L0.out.size))
    clear hl CS S0 L0 X0 x0 x1
    obtain ⟨x0, x1⟩ := X1.out
    go_wp2
    have HF : Hid (v = false) := by show _ = _; rw [HV.out]; simp
    go_ret
    exact ⟨congrArg (fun b => Ending.returned (Value.bool b)) HF.out.symm, L1.out⟩

end Go.Proofs.Ytmabbeefeipnaaa.InZoneI

/- What Exists does in the program (a range over the zone's records): it tells whether a record's name is the name or under it. Condition: fewer than 400000001 records, no name of more than 400000000 bytes. -/
namespace Go.Proofs.Ytmabbeefeipnaaa.ExistsI
open Go.RowKit Go.Proofs.Ytmabbeefeipnaaa.Mem Go.Proofs.Ytmabbeefeipnaaa.MemR Go.Proofs.Ytmabbeefeipnaaa.SetMath Go.Proofs.Ytmabbeefeipnaaa.NameMath Go.Proofs.Ytmabbeefeipnaaa.ZoneMath Go.Proofs.Ytmabbeefeipnaaa.MemZ

set_option maxHeartbeats 4000000 in
theorem impl (s nm : ByteArray) (b0 o0 n c : Nat) (l : List Rec) (w : World) (hs : Sr w w.heap.size (some ⟨b0, o0, none⟩) n l) (hn : n ≤ 400000000) (hm : nm.size ≤ 400000000) (hz : ∀ r ∈ l, r.name.size ≤ 400000000) :
    Calls Try.prog 44 #[.agg #[.string s, .slice (some ⟨b0, o0, none⟩) n c], .string nm] w fun e w' => e = .returned (.bool (ex nm l)) ∧ Below w.heap.size w w' := by
  have L0 := Lib.hid ((Below.refl w.heap.size w).alloc (Nat.le_refl _) (.cells #[.string s, .slice (some ⟨b0, o0, none⟩) n c] 32))
  have HS := Lib.hid hs
  have HZ := Lib.hid hz
  clear hs hz
  go_enter Try.func44, Try.ntmps44
  go_wp2
  generalize w.alloc (.cells #[.string s, .slice (some ⟨b0, o0, none⟩) n c] 32) = w0 at *
  go_loopw [10] (fun i wr => ∃ k : Nat, k ≤ n ∧ i = .int .i64 k ∧ Hid (ex nm (l.take k) = false) ∧ Hid (Below w.heap.size w wr)) (fun i _ => n - (intOf i).toNat)
  case atStart => exact ⟨0, Nat.zero_le _, rfl, rfl, L0.out⟩
  case round =>
    clear L0
    obtain ⟨k, hk, rfl, HE, HL⟩ := hrel
    by_cases hlt : k < n
    · obtain ⟨b, off, hA, hbB, hcs⟩ := HS.out.2 (by omega)
      obtain ⟨rfl, rfl⟩ : b0 = b ∧ o0 = off := by simp at hA; exact hA
      clear hA
      have hkl : k < l.length := by rw [HS.out.1]; exact hlt
      obtain ⟨e0, e1, e2, e3, e4, e5⟩ := (hcs k hkl).below HL.out hbB
      clear hcs
      have HT := Lib.hid (ex_take nm l k hkl)
      have HH := Lib.hid (ex_hit nm l k hkl)
      have HM := Lib.hid (HZ.out _ (List.getElem_mem hkl))
      generalize l[k] = r at *
      have W1 : Hid (Below w.heap.size w (wr.alloc (.cells #[.string r.name, .int .i64 r.ty, .int .i64 r.ttl, .int .i64 r.n, .string r.host, .string r.text] 68))) := HL.out.alloc HL.out.size _
      have US := Lib.hid (fun W => UnderImpl.impl r.name nm W HM.out hm)
      generalize Un r.name nm = u at *
      go_wp2_with fail
      refine (US.out _).mono ?_
      rintro e w1 ⟨rfl, rfl⟩
      clear US e0 e1 e2 e3 e4 e5
      cases u with
      | true =>
        have HF := Lib.hid (HH.out rfl)
        clear HH HT
        go_wp2
        go_ret
        exact ⟨congrArg (fun b => Ending.returned (Value.bool b)) HF.out.symm, W1.out⟩
      | false =>
        have HN := Lib.hid (HT.out.trans (by rw [HE.out, Bool.or_false]))
        clear HH HT
        go_wp2
        go_roundw
        case rel => exact ⟨k + 1, by omega, by go_num, HN.out, W1.out⟩
        case measure => simp [intOf]; omega
    · obtain rfl : n = k := by omega
      have HF : Hid (ex nm l = false) := by rw [take_all HS.out.1] at HE; exact HE
      go_wp2
      go_ret
      exact ⟨congrArg (fun b => Ending.returned (Value.bool b)) HF.out.symm, HL.out⟩

end Go.Proofs.Ytmabbeefeipnaaa.ExistsI

/- What KindIn does in the program: the kind of a question's reply, by a map of the records' sets. Condition: fewer than 100000001 records, no name of more than 400000000 bytes. -/
namespace Go.Proofs.Ytmabbeefeipnaaa.KindI
open Go.RowKit Go.Proofs.Ytmabbeefeipnaaa.Mem Go.Proofs.Ytmabbeefeipnaaa.MemR Go.Proofs.Ytmabbeefeipnaaa.SetMath Go.Proofs.Ytmabbeefeipnaaa.NameMath Go.Proofs.Ytmabbeefeipnaaa.ZoneMath Go.Proofs.Ytmabbeefeipnaaa.ServeMath Go.Proofs.Ytmabbeefeipnaaa.MemZ Go.Proofs.Ytmabbeefeipnaaa.MemM Go.Proofs.Ytmabbeefeipnaaa.MemQ Go.Proofs.Ytmabbeefeipnaaa.MapK Go.Proofs.Ytmabbeefeipnaaa.MapE Go.Proofs.Ytmabbeefeipnaaa.GrpM Go.Proofs.Ytmabbeefeipnaaa.SetI Go.Proofs.Ytmabbeefeipnaaa.KindS Go.Proofs.Ytmabbeefeipnaaa.CutOfS

/-- What is found in a map of sets: a slice with as many records as the key has. -/
theorem look {w1 W : World} {base b : Nat} {l : List Rec} (h : Gr w1 base b l) (hl : Below w1.heap.size w1 W) (y : ByteArray) (t : Int) :
    ∃ (A : Option Addr) (m cap : Nat), (Instr.lookup 61 (.map (some b)) (.agg #[.string y, .int .i64 t]) false).run Try.prog W = .ok (.slice A m cap) W ∧ (sf y t l).length = m := by
  obtain ⟨es, hm, hq, ho, hd⟩ := h
  have M1 := hm.below hl hm.lt
  have KT := KeyT.quests
  have HS' := ev_key es
  have HND := ev_nodup (es := es) (by rw [hq]; exact nodup_uq _)
  have HX : KeyT.KQ (qv ⟨y, t⟩) := ⟨⟨y, t⟩, rfl⟩
  by_cases hin : (⟨y, t⟩ : Key) ∈ uq (kl l)
  · obtain ⟨j, e, hj, hk'⟩ : ∃ (j : Nat) (e : Ge), es[j]? = some e ∧ e.q = ⟨y, t⟩ := by
      rw [← hq] at hin
      obtain ⟨e, he, hq⟩ := List.mem_map.1 hin
      obtain ⟨j, hj⟩ := List.getElem?_of_mem he
      exact ⟨j, e, hj, hq⟩
    refine ⟨some ⟨e.g, 0, none⟩, e.m, e.cap, M1.in KT Try.underlying61 HS' HND HX (show (qv ⟨y, t⟩, sv e) ∈ ev es from by rw [← hk']; exact List.mem_of_getElem? (ev_at hj)) false, ?_⟩
    have := own_m (ho j e hj)
    rw [hk'] at this
    exact this
  · refine ⟨none, 0, 0, M1.out KT Try.underlying61 (zero _) HS' HX (ev_out (by rw [hq]; exact hin)) false, ?_⟩
    have := sq_none (q := ⟨y, t⟩) (l := l) (fun h => hin (mem_uq.2 h))
    show (sq ⟨y, t⟩ l).length = 0
    rw [this]
    rfl

/-- 'm[k]' at an operation that its guard lets be. -/
theorem wp_look_g {P : Program} {w : World} {t : TypeId} {b : Nat} {ops : Array Oper} {rest : List Oper} {o : Oper} {a : Act} {Q : Exit → Act → World → Prop}
    (hg : Region.wanted o (yielded ops a.tmps) = true) (m x : Operand) (ok : Bool) (hop : o.op = Op.lookup t m x ok) (key r : Value) (hm : a.eval m = .map (some b)) (hx : a.eval x = key)
    (hrun : (Instr.lookup t (.map (some b)) key ok).run P w = .ok r w) (hK : wpList P ops Q rest (a.put o.dst r) w) : wpList P ops Q (o :: rest) a w := by
  refine wpList_step fun K' hK' => ?_
  rw [if_pos hg]
  unfold Oper.wp
  simp [execOp, hop, hm, hx, hrun, Result.andThen]
  exact hK' _ _ hK

set_option maxRecDepth 100000 in
set_option maxHeartbeats 8000000 in
theorem impl (s nm : ByteArray) (ty : Int) (b0 o0 n c : Nat) (l : List Rec) (w : World) (hs : Sr w w.heap.size (some ⟨b0, o0, none⟩) n l) (hn : n ≤ 100000000) (hm : s.size ≤ 400000000) (hq : nm.size ≤ 400000000) (hz : ∀ r ∈ l, r.name.size ≤ 400000000) :
    Calls Try.prog 14 #[.agg #[.string s, .slice (some ⟨b0, o0, none⟩) n c], .agg #[.string nm, .int .i64 ty]] w fun e w' => e = .returned (.int .i64 (kd s nm ty l)) ∧ Below w.heap.size w w' := by
  obtain ⟨⟨hx, hy⟩, hl0⟩ := two w s nm ty (.slice (some ⟨b0, o0, none⟩) n c) 32 34
  have X0 := Lib.hid hx
  have Y0 := Lib.hid hy
  have L0 := Lib.hid hl0
  have S0 := Lib.hid (hs.on hl0)
  have SE := Lib.hid (fun W hW => SetI.sets b0 o0 n c l W hW (by omega))
  have CS := Lib.hid (fun W hW => InZoneI.impl s nm b0 o0 n c l W hW (by omega) hm hq hz)
  have US := Lib.hid (fun W => UnderImpl.impl nm s W hq hm)
  have ES := Lib.hid (fun W hW => ExistsI.impl s nm b0 o0 n c l W hW (by omega) hq hz)
  have K0 := Lib.hid (@kd0 s nm ty l)
  have K1 := Lib.hid (@kd1 s nm ty l)
  have K2 := Lib.hid (@kd2 s nm ty l)
  have K3 := Lib.hid (@kd3 s nm ty l)
  have K4 := Lib.hid (@kd4 s nm ty l)
  have K5 := Lib.hid (@kd5 s nm ty l)
  clear hs hz hx hy hl0
  have HV : Hid (iz s nm l = (Un nm s && !(co nm (uq (cn s l))).isSome)) := rfl
  generalize kd s nm ty l = k at *
  obtain ⟨o, ho⟩ : ∃ o, co nm (uq (cn s l)) = o := ⟨_, rfl⟩
  rw [ho] at HV K1 K2 K3 K4 K5
  clear ho
  generalize iz s nm l = z at *
  generalize Un nm s = u at *
  generalize ex nm l = x at *
  obtain ⟨x0, x1⟩ := X0.out
  obtain ⟨y0, y1⟩ := Y0.out
  go_enter Try.func14, Try.ntmps14
  go_wp2_with fail
  refine (SE.out _ S0.out).mono ?_
  rintro e w1 ⟨bm, rfl, hbm, hgr, hl⟩
  have LK := Lib.hid (fun W (hW : Below w1.heap.size w1 W) => look hgr hW)
  have X1 := Lib.hid (X0.out.below hl)
  have Y1 := Lib.hid (Y0.out.below hl)
  have S1 := Lib.hid (S0.out.on hl)
  have L1 := Lib.hid (L0.out.trans (hl.mono L0.out.size))
  clear hl hgr hbm SE X0 Y0 S0 L0 x0 x1 y0 y1
  obtain ⟨x0, x1⟩ := X1.out
  obtain ⟨y0, y1⟩ := Y1.out
  go_wp2_with fail
  refine (US.out _).mono ?_
  rintro e w1 ⟨rfl, rfl⟩
  clear US
  cases u with
  | false =>
    have HF := Lib.hid (K0.out (by trivial))
    go_wp2
    go_ret
    exact ⟨congrArg (fun b => Ending.returned (Value.int .i64 b)) HF.out.symm, L1.out⟩
  | true =>
  go_wp2_with fail
  refine (CS.out _ S1.out).mono ?_
  rintro e w2 ⟨rfl, hl⟩
  have X2 := Lib.hid (X1.out.below hl)
  have Y2 := Lib.hid (Y1.out.below hl)
  have S2 := Lib.hid (S1.out.on hl)
  have L2 := Lib.hid (L1.out.trans (hl.mono L1.out.size))
  have LT := Lib.hid (LK.out _ hl nm ty)
  have LA := Lib.hid (LK.out _ hl nm 5)
  clear hl CS LK X1 Y1 S1 L1 x0 x1 y0 y1
  cases z with
  | false =>
    have HF := Lib.hid (K1.out (by trivial) (by have := HV.out; cases o with
      | none => simp at this
      | some y => rfl))
    go_wp2
    go_ret
    exact ⟨congrArg (fun b => Ending.returned (Value.int .i64 b)) HF.out.symm, L2.out⟩
  | true =>
  have HO : Hid (o = none) := by
    have := HV.out
    cases o with
    | none => rfl
    | some y => simp at this
  obtain ⟨A5, m5, c5, h5, e5⟩ := LA.out
  obtain ⟨At, mt, ct, ht, et⟩ := LT.out
  have H5 := Lib.hid h5
  have HT := Lib.hid ht
  have E5 := Lib.hid e5
  have ET := Lib.hid et
  clear h5 ht e5 et LA LT HV
  obtain ⟨x0, x1⟩ := X2.out
  obtain ⟨y0, y1⟩ := Y2.out
  by_cases hty : ty = 5
  · have t5 : (ty != 5) = false := by simp [hty]
    have HA : Hid (ty = 5 ∨ (sf nm 5 l).length = 0) := Or.inl hty
    clear hty
    by_cases h4 : (0 : Int) < (mt : Int)
    · have HF := Lib.hid (K3.out (by trivial) HO.out HA.out (by have := ET.out; omega))
      go_wp2_with (at_lookup; refine wp_look rfl _ _ false rfl (.agg #[.string nm, .int .i64 ty]) (.slice At mt ct) rfl rfl HT.out ?_)
      go_ret
      exact ⟨congrArg (fun b => Ending.returned (Value.int .i64 b)) HF.out.symm, L2.out⟩
    · have K4' := Lib.hid (K4.out (by trivial) HO.out HA.out (by have := ET.out; omega))
      have K5' := Lib.hid (K5.out (by trivial) HO.out HA.out (by have := ET.out; omega))
      go_wp2_with (at_lookup; refine wp_look rfl _ _ false rfl (.agg #[.string nm, .int .i64 ty]) (.slice At mt ct) rfl rfl HT.out ?_)
      refine (ES.out _ S2.out).mono ?_
      rintro e w5 ⟨rfl, hl⟩
      have L5 := Lib.hid (L2.out.trans (hl.mono L2.out.size))
      clear hl
      cases x with
      | true => go_wp2; go_ret; exact ⟨congrArg (fun b => Ending.returned (Value.int .i64 b)) (K4'.out (by trivial)).symm, L5.out⟩
      | false => go_wp2; go_ret; exact ⟨congrArg (fun b => Ending.returned (Value.int .i64 b)) (K5'.out (by trivial)).symm, L5.out⟩
  · have t5 : (ty != 5) = true := by simp [hty]
    have HTY := Lib.hid hty
    clear hty
    by_cases h3 : (0 : Int) < (m5 : Int)
    · have HF := Lib.hid (K2.out (by trivial) HO.out HTY.out (by have := E5.out; omega))
      go_wp2_with (at_lookup; refine wp_look_g rfl _ _ false rfl (.agg #[.string nm, .int .i64 5]) (.slice A5 m5 c5) rfl rfl H5.out ?_)
      go_ret
      exact ⟨congrArg (fun b => Ending.returned (Value.int .i64 b)) HF.out.symm, L2.out⟩
    · have HA : Hid (ty = 5 ∨ (sf nm 5 l).length = 0) := Or.inr (by have := E5.out; omega)
      by_cases h4 : (0 : Int) < (mt : Int)
      · have HF := Lib.hid (K3.out (by trivial) HO.out HA.out (by have := ET.out; omega))
        go_wp2_with (first | (at_lookup; refine wp_look rfl _ _ false rfl (.agg #[.string nm, .int .i64 ty]) (.slice At mt ct) rfl rfl HT.out ?_) | (at_lookup; refine wp_look_g rfl _ _ false rfl (.agg #[.string nm, .int .i64 5]) (.slice A5 m5 c5) rfl rfl H5.out ?_))
        go_ret
        exact ⟨congrArg (fun b => Ending.returned (Value.int .i64 b)) HF.out.symm, L2.out⟩
      · have K4' := Lib.hid (K4.out (by trivial) HO.out HA.out (by have := ET.out; omega))
        have K5' := Lib.hid (K5.out (by trivial) HO.out HA.out (by have := ET.out; omega))
        go_wp2_with (first | (at_lookup; refine wp_look rfl _ _ false rfl (.agg #[.string nm, .int .i64 ty]) (.slice At mt ct) rfl rfl HT.out ?_) | (at_lookup; refine wp_look_g rfl _ _ false rfl (.agg #[.string nm, .int .i64 5]) (.slice A5 m5 c5) rfl rfl H5.out ?_))
        refine (ES.out _ S2.out).mono ?_
        rintro e w5 ⟨rfl, hl⟩
        have L5 := Lib.hid (L2.out.trans (hl.mono L2.out.size))
        clear hl
        cases x with
        | true => go_wp2; go_ret; exact ⟨congrArg (fun b => Ending.returned (Value.int .i64 b)) (K4'.out (by trivial)).symm, L5.out⟩
        | false => go_wp2; go_ret; exact ⟨congrArg (fun b => Ending.returned (Value.int .i64 b)) (K5'.out (by trivial)).symm, L5.out⟩

end Go.Proofs.Ytmabbeefeipnaaa.KindI

/- What contentOf does in the program: the content of the reply of a question's kind, by a function value out of an array (a drawn region that fills the result's box). Condition: at most 1048576 records, no name of more than 400000000 bytes. -/
namespace Go.Proofs.Ytmabbeefeipnaaa.ContI
open Go.RowKit Go.Proofs.Ytmabbeefeipnaaa.Mem Go.Proofs.Ytmabbeefeipnaaa.MemR Go.Proofs.Ytmabbeefeipnaaa.SetMath Go.Proofs.Ytmabbeefeipnaaa.NameMath Go.Proofs.Ytmabbeefeipnaaa.ZoneMath Go.Proofs.Ytmabbeefeipnaaa.ServeMath Go.Proofs.Ytmabbeefeipnaaa.MemZ Go.Proofs.Ytmabbeefeipnaaa.MemM Go.Proofs.Ytmabbeefeipnaaa.KindS Go.Proofs.Ytmabbeefeipnaaa.ResC Go.Proofs.Ytmabbeefeipnaaa.ConI Go.Proofs.Ytmabbeefeipnaaa.RefI

section
variable {w0 w w1 w' : World} {g h k a i : Nat} {s nm : ByteArray} {ty : Int} {x v : Value}

theorem keptK (m : (((w.cell? ⟨g, 0, none⟩ = some (.string s) ∧ w.cell? ⟨g, 1, none⟩ = some x) ∧ (w.cell? ⟨h, 0, none⟩ = some (.string nm) ∧ w.cell? ⟨h, 1, none⟩ = some (.int .i64 ty)) ∧ w.cell? ⟨a, i, none⟩ = some v) ∧ RC w k) ∧ Svz w0 w) (hl : Below w.heap.size w w') : (((w'.cell? ⟨g, 0, none⟩ = some (.string s) ∧ w'.cell? ⟨g, 1, none⟩ = some x) ∧ (w'.cell? ⟨h, 0, none⟩ = some (.string nm) ∧ w'.cell? ⟨h, 1, none⟩ = some (.int .i64 ty)) ∧ w'.cell? ⟨a, i, none⟩ = some v) ∧ RC w' k) ∧ Svz w0 w' :=
  ⟨⟨⟨Zx.below m.1.1.1 hl, Qx.below m.1.1.2.1 hl, (hl.cell (p := ⟨a, i, none⟩) (World.block_lt_of_cell? _ _ m.1.1.2.2)).trans m.1.1.2.2⟩, m.1.2.below hl⟩, m.2.trans (hl.mono m.2.size)⟩

theorem keptK_draw (m : (((w.cell? ⟨g, 0, none⟩ = some (.string s) ∧ w.cell? ⟨g, 1, none⟩ = some x) ∧ (w.cell? ⟨h, 0, none⟩ = some (.string nm) ∧ w.cell? ⟨h, 1, none⟩ = some (.int .i64 ty)) ∧ w.cell? ⟨a, i, none⟩ = some v) ∧ RC w k) ∧ Svz w0 w) : (((w.drew.cell? ⟨g, 0, none⟩ = some (.string s) ∧ w.drew.cell? ⟨g, 1, none⟩ = some x) ∧ (w.drew.cell? ⟨h, 0, none⟩ = some (.string nm) ∧ w.drew.cell? ⟨h, 1, none⟩ = some (.int .i64 ty)) ∧ w.drew.cell? ⟨a, i, none⟩ = some v) ∧ RC w.drew k) ∧ Svz w0 w.drew := keptK m ((Below.refl _ _).drew)

theorem keptK_put (m : (((w.cell? ⟨g, 0, none⟩ = some (.string s) ∧ w.cell? ⟨g, 1, none⟩ = some x) ∧ (w.cell? ⟨h, 0, none⟩ = some (.string nm) ∧ w.cell? ⟨h, 1, none⟩ = some (.int .i64 ty)) ∧ w.cell? ⟨a, i, none⟩ = some v) ∧ RC w k) ∧ Svz w0 w) (h1 : g ≠ k) (h2 : h ≠ k) (h4 : a ≠ k) (h3 : w0.heap.size ≤ k) (j : Nat) (u : Value) : ((((w.setCell ⟨k, j, none⟩ u).cell? ⟨g, 0, none⟩ = some (.string s) ∧ (w.setCell ⟨k, j, none⟩ u).cell? ⟨g, 1, none⟩ = some x) ∧ ((w.setCell ⟨k, j, none⟩ u).cell? ⟨h, 0, none⟩ = some (.string nm) ∧ (w.setCell ⟨k, j, none⟩ u).cell? ⟨h, 1, none⟩ = some (.int .i64 ty)) ∧ (w.setCell ⟨k, j, none⟩ u).cell? ⟨a, i, none⟩ = some v) ∧ RC (w.setCell ⟨k, j, none⟩ u) k) ∧ Svz w0 (w.setCell ⟨k, j, none⟩ u) := by
  have e : ∀ b c : Nat, b ≠ k → (w.setCell ⟨k, j, none⟩ u).cell? ⟨b, c, none⟩ = w.cell? ⟨b, c, none⟩ := fun b c hb => World.cell?_of_block (Below.heap_setCell w ⟨k, j, none⟩ u b hb)
  exact ⟨⟨⟨⟨(e g 0 h1).trans m.1.1.1.1, (e g 1 h1).trans m.1.1.1.2⟩, ⟨(e h 0 h2).trans m.1.1.2.1.1, (e h 1 h2).trans m.1.1.2.1.2⟩, (e a i h4).trans m.1.1.2.2⟩, m.1.2.put j u⟩, Below.setCell m.2 (p := ⟨k, j, none⟩) h3 u⟩

theorem keptK_fil (m : (((w1.cell? ⟨g, 0, none⟩ = some (.string s) ∧ w1.cell? ⟨g, 1, none⟩ = some x) ∧ (w1.cell? ⟨h, 0, none⟩ = some (.string nm) ∧ w1.cell? ⟨h, 1, none⟩ = some (.int .i64 ty)) ∧ w1.cell? ⟨a, i, none⟩ = some v) ∧ RC w1 k) ∧ Svz w0 w1) (h1 : g ≠ k) (h2 : h ≠ k) (h4 : a ≠ k) (h3 : w0.heap.size ≤ k) (v0 v1 v2 v3 v4 : Value) : ((((((((w1.setCell ⟨k, 0, none⟩ v0).setCell ⟨k, 1, none⟩ v1).setCell ⟨k, 2, none⟩ v2).setCell ⟨k, 3, none⟩ v3).setCell ⟨k, 4, none⟩ v4).cell? ⟨g, 0, none⟩ = some (.string s) ∧ (((((w1.setCell ⟨k, 0, none⟩ v0).setCell ⟨k, 1, none⟩ v1).setCell ⟨k, 2, none⟩ v2).setCell ⟨k, 3, none⟩ v3).setCell ⟨k, 4, none⟩ v4).cell? ⟨g, 1, none⟩ = some x) ∧ ((((((w1.setCell ⟨k, 0, none⟩ v0).setCell ⟨k, 1, none⟩ v1).setCell ⟨k, 2, none⟩ v2).setCell ⟨k, 3, none⟩ v3).setCell ⟨k, 4, none⟩ v4).cell? ⟨h, 0, none⟩ = some (.string nm) ∧ (((((w1.setCell ⟨k, 0, none⟩ v0).setCell ⟨k, 1, none⟩ v1).setCell ⟨k, 2, none⟩ v2).setCell ⟨k, 3, none⟩ v3).setCell ⟨k, 4, none⟩ v4).cell? ⟨h, 1, none⟩ = some (.int .i64 ty)) ∧ (((((w1.setCell ⟨k, 0, none⟩ v0).setCell ⟨k, 1, none⟩ v1).setCell ⟨k, 2, none⟩ v2).setCell ⟨k, 3, none⟩ v3).setCell ⟨k, 4, none⟩ v4).cell? ⟨a, i, none⟩ = some v) ∧ RC (((((w1.setCell ⟨k, 0, none⟩ v0).setCell ⟨k, 1, none⟩ v1).setCell ⟨k, 2, none⟩ v2).setCell ⟨k, 3, none⟩ v3).setCell ⟨k, 4, none⟩ v4) k) ∧ Svz w0 (((((w1.setCell ⟨k, 0, none⟩ v0).setCell ⟨k, 1, none⟩ v1).setCell ⟨k, 2, none⟩ v2).setCell ⟨k, 3, none⟩ v3).setCell ⟨k, 4, none⟩ v4) :=
  keptK_put (keptK_put (keptK_put (keptK_put (keptK_put m h1 h2 h4 h3 0 v0) h1 h2 h4 h3 1 v1) h1 h2 h4 h3 2 v2) h1 h2 h4 h3 3 v3) h1 h2 h4 h3 4 v4
end

/-- The content of a reply of the kind k. -/
def GivesQ (w : World) (k : Int) (s nm : ByteArray) (ty : Int) (l : List Rec) (e : Ending) (w' : World) : Prop := GivesK w (rcd k) (aut k) (anl k nm ty l) (mol k s nm l) (hel k s nm l) e w'

theorem cases (w : World) (s nm : ByteArray) (ty : Int) (l : List Rec) (e : Ending) (w' : World) (k : Int) :
    (k = 0 → GivesK w 5 false [] [] [] e w' → GivesQ w k s nm ty l e w') ∧ (k = 1 → GivesK w 0 false [] (sf (cu s nm l) 2 l) (gl (uq (hl (sf (cu s nm l) 2 l))) l) e w' → GivesQ w k s nm ty l e w') ∧ (k = 2 → GivesK w 0 true (sf nm 5 l) [] [] e w' → GivesQ w k s nm ty l e w') ∧ (k = 3 → GivesK w 0 true (sf nm ty l) [] [] e w' → GivesQ w k s nm ty l e w') ∧ (k = 4 → GivesK w 0 true [] [st l] [] e w' → GivesQ w k s nm ty l e w') ∧ (k = 5 → GivesK w 3 true [] [st l] [] e w' → GivesQ w k s nm ty l e w') := by
  refine ⟨fun h x => ?_, fun h x => ?_, fun h x => ?_, fun h x => ?_, fun h x => ?_, fun h x => ?_⟩ <;> subst h <;> exact x

set_option maxRecDepth 100000 in
set_option maxHeartbeats 16000000 in
theorem impl (s nm : ByteArray) (ty : Int) (b0 o0 n c : Nat) (l : List Rec) (w : World) (hs : Sr w w.heap.size (some ⟨b0, o0, none⟩) n l) (hn : n ≤ 1048576) (hm : s.size ≤ 400000000) (hq : nm.size ≤ 400000000) (hz : ∀ r ∈ l, r.name.size ≤ 400000000) :
    Calls Try.prog 45 #[.agg #[.string s, .slice (some ⟨b0, o0, none⟩) n c], .agg #[.string nm, .int .i64 ty]] w (GivesQ w (kd s nm ty l) s nm ty l) := by
  obtain ⟨⟨hx, hy⟩, hb0, hl0⟩ := three w s nm ty (.slice (some ⟨b0, o0, none⟩) n c) 32 34 64 0 false
  have al : Below (((w.alloc (.cells #[.string s, .slice (some ⟨b0, o0, none⟩) n c] 32)).alloc (.cells #[.string nm, .int .i64 ty] 34)).alloc (.cells #[.int .i64 0, .bool false, .slice none 0 0, .slice none 0 0, .slice none 0 0] 64)).heap.size (((w.alloc (.cells #[.string s, .slice (some ⟨b0, o0, none⟩) n c] 32)).alloc (.cells #[.string nm, .int .i64 ty] 34)).alloc (.cells #[.int .i64 0, .bool false, .slice none 0 0, .slice none 0 0, .slice none 0 0] 64)) ((((w.alloc (.cells #[.string s, .slice (some ⟨b0, o0, none⟩) n c] 32)).alloc (.cells #[.string nm, .int .i64 ty] 34)).alloc (.cells #[.int .i64 0, .bool false, .slice none 0 0, .slice none 0 0, .slice none 0 0] 64)).alloc (.cells #[.func (.func 65) #[] #[], .func (.func 66) #[] #[], .func (.func 67) #[] #[], .func (.func 68) #[] #[], .func (.func 69) #[] #[], .func (.func 70) #[] #[]] 85)) := (Below.refl _ _).alloc (Nat.le_refl _) _
  have X0 := Lib.hid (hx.below al)
  have Y0 := Lib.hid (hy.below al)
  have R0 := Lib.hid (hb0.below al hb0.lt)
  have L0 := Lib.hid (hl0.trans (al.mono hl0.size))
  have N0 : Hid (Bk ((((w.alloc (.cells #[.string s, .slice (some ⟨b0, o0, none⟩) n c] 32)).alloc (.cells #[.string nm, .int .i64 ty] 34)).alloc (.cells #[.int .i64 0, .bool false, .slice none 0 0, .slice none 0 0, .slice none 0 0] 64)).alloc (.cells #[.func (.func 65) #[] #[], .func (.func 66) #[] #[], .func (.func 67) #[] #[], .func (.func 68) #[] #[], .func (.func 69) #[] #[], .func (.func 70) #[] #[]] 85)) (w.heap.size + 1 + 1 + 1) 85 [.func (.func 65) #[] #[], .func (.func 66) #[] #[], .func (.func 67) #[] #[], .func (.func 68) #[] #[], .func (.func 69) #[] #[], .func (.func 70) #[] #[]]) := by
    have := heap_alloc_new (((w.alloc (.cells #[.string s, .slice (some ⟨b0, o0, none⟩) n c] 32)).alloc (.cells #[.string nm, .int .i64 ty] 34)).alloc (.cells #[.int .i64 0, .bool false, .slice none 0 0, .slice none 0 0, .slice none 0 0] 64)) (.cells #[.func (.func 65) #[] #[], .func (.func 66) #[] #[], .func (.func 67) #[] #[], .func (.func 68) #[] #[], .func (.func 69) #[] #[], .func (.func 70) #[] #[]] 85)
    rw [show (((w.alloc (.cells #[.string s, .slice (some ⟨b0, o0, none⟩) n c] 32)).alloc (.cells #[.string nm, .int .i64 ty] 34)).alloc (.cells #[.int .i64 0, .bool false, .slice none 0 0, .slice none 0 0, .slice none 0 0] 64)).heap.size = w.heap.size + 1 + 1 + 1 by simp] at this
    exact this
  have HS := Lib.hid hs
  clear hx hy hb0 hl0 al hs
  have KI := Lib.hid (fun W hW => KindI.impl s nm ty b0 o0 n c l W hW (by omega) hm hq hz)
  have G0 := Lib.hid (fun (W : World) (hW : True ∧ Svz w W) => ConI.refusal s nm ty b0 o0 n c W)
  have G1 := Lib.hid (fun (W : World) (hW : True ∧ Svz w W) => RefI.referral s nm ty b0 o0 n c l W (HS.out.on hW.2) hn hm hq hz)
  have G2 := Lib.hid (fun (W : World) (hW : True ∧ Svz w W) => ConI.aliasReply s nm ty b0 o0 n c l W (HS.out.on hW.2) hn)
  have G3 := Lib.hid (fun (W : World) (hW : True ∧ Svz w W) => ConI.setReply s nm ty b0 o0 n c l W (HS.out.on hW.2) hn)
  have G4 := Lib.hid (fun (W : World) (hW : True ∧ Svz w W) => ConI.noDataReply s nm ty b0 o0 n c l W (HS.out.on hW.2) hn hm hz)
  have G5 := Lib.hid (fun (W : World) (hW : True ∧ Svz w W) => ConI.noNameReply s nm ty b0 o0 n c l W (HS.out.on hW.2) hn hm hz)
  clear hz
  have K6 := kd_six s nm ty l
  have KE := Lib.hid (fun (W W' : World) (e : Ending) => cases W s nm ty l e W' (kd s nm ty l))
  generalize kd s nm ty l = k at *
  have n1 : w.heap.size ≠ w.heap.size + 1 + 1 := by omega
  have n2 : w.heap.size + 1 ≠ w.heap.size + 1 + 1 := by omega
  have n4 : w.heap.size + 1 + 1 + 1 ≠ w.heap.size + 1 + 1 := by omega
  have n3 : w.heap.size ≤ w.heap.size + 1 + 1 := by omega
  go_enter Try.func45, Try.ntmps45
  go_wp2
  generalize (((w.alloc (.cells #[.string s, .slice (some ⟨b0, o0, none⟩) n c] 32)).alloc (.cells #[.string nm, .int .i64 ty] 34)).alloc (.cells #[.int .i64 0, .bool false, .slice none 0 0, .slice none 0 0, .slice none 0 0] 64)).alloc (.cells #[.func (.func 65) #[] #[], .func (.func 66) #[] #[], .func (.func 67) #[] #[], .func (.func 68) #[] #[], .func (.func 69) #[] #[], .func (.func 70) #[] #[]] 85) = W0 at *
  rcases K6 with hk | hk | hk | hk | hk | hk
  · have KJ : Hid (∀ (e : Ending) (w' : World), GivesK w 5 false [] [] [] e w' → GivesQ w k s nm ty l e w') := fun e w' => (KE.out _ _ _).1 hk
    subst hk
    have KIR : Hid (∀ W : World, (((W.cell? ⟨w.heap.size, 0, none⟩ = some (.string s) ∧ W.cell? ⟨w.heap.size, 1, none⟩ = some (.slice (some ⟨b0, o0, none⟩) n c)) ∧ (W.cell? ⟨w.heap.size + 1, 0, none⟩ = some (.string nm) ∧ W.cell? ⟨w.heap.size + 1, 1, none⟩ = some (.int .i64 ty)) ∧ W.cell? ⟨w.heap.size + 1 + 1 + 1, 0, none⟩ = some (.func (.func 65) #[] #[])) ∧ RC W (w.heap.size + 1 + 1)) ∧ Svz w W → Calls Try.prog 14 #[.agg #[.string s, .slice (some ⟨b0, o0, none⟩) n c], .agg #[.string nm, .int .i64 ty]] W fun e w' => e = .returned (.int .i64 0) ∧ Below W.heap.size W w') := fun W hW => KI.out W (HS.out.on hW.2)
    have GR : Hid (∀ W : World, (((W.cell? ⟨w.heap.size, 0, none⟩ = some (.string s) ∧ W.cell? ⟨w.heap.size, 1, none⟩ = some (.slice (some ⟨b0, o0, none⟩) n c)) ∧ (W.cell? ⟨w.heap.size + 1, 0, none⟩ = some (.string nm) ∧ W.cell? ⟨w.heap.size + 1, 1, none⟩ = some (.int .i64 ty)) ∧ W.cell? ⟨w.heap.size + 1 + 1 + 1, 0, none⟩ = some (.func (.func 65) #[] #[])) ∧ RC W (w.heap.size + 1 + 1)) ∧ Svz w W → Calls Try.prog 65 #[.agg #[.string s, .slice (some ⟨b0, o0, none⟩) n c], .agg #[.string nm, .int .i64 ty]] W (GivesK W 5 false [] [] [])) := fun W hW => G0.out W ⟨trivial, hW.2⟩
    have SS0 : (((W0.cell? ⟨w.heap.size, 0, none⟩ = some (.string s) ∧ W0.cell? ⟨w.heap.size, 1, none⟩ = some (.slice (some ⟨b0, o0, none⟩) n c)) ∧ (W0.cell? ⟨w.heap.size + 1, 0, none⟩ = some (.string nm) ∧ W0.cell? ⟨w.heap.size + 1, 1, none⟩ = some (.int .i64 ty)) ∧ W0.cell? ⟨w.heap.size + 1 + 1 + 1, 0, none⟩ = some (.func (.func 65) #[] #[])) ∧ RC W0 (w.heap.size + 1 + 1)) ∧ Svz w W0 := ⟨⟨⟨X0.out, Y0.out, N0.out.cell 0⟩, ⟨_, rfl, R0.out⟩⟩, L0.out⟩
    clear X0 Y0 N0 KI G0 G1 G2 G3 G4 G5 KE
    go_region_held3 (fun w' => (((w'.cell? ⟨w.heap.size, 0, none⟩ = some (.string s) ∧ w'.cell? ⟨w.heap.size, 1, none⟩ = some (.slice (some ⟨b0, o0, none⟩) n c)) ∧ (w'.cell? ⟨w.heap.size + 1, 0, none⟩ = some (.string nm) ∧ w'.cell? ⟨w.heap.size + 1, 1, none⟩ = some (.int .i64 ty)) ∧ w'.cell? ⟨w.heap.size + 1 + 1 + 1, 0, none⟩ = some (.func (.func 65) #[] #[])) ∧ RC w' (w.heap.size + 1 + 1)) ∧ Svz w w')
      (first | with_reducible exact keptK_fil (w1 := w4) (by assumption) n1 n2 n4 n3 _ _ _ _ _ | with_reducible exact SS0 | with_reducible assumption | with_reducible exact keptK (by assumption) hl | with_reducible exact keptK_draw (by assumption) | fail)
      (first
        | (go_at_call 14; (with_reducible refine (KIR.out _ (by assumption)).mono ?_); rintro e w2 ⟨rfl, hl⟩; have y1 := hl)
        | (go_at_call 65; (with_reducible refine (GR.out _ (by assumption)).mono ?_); rintro e w4 ⟨A1, m1, c1, A2, m2, c2, A3, m3, c3, rfl, q1, q2, q3, hl⟩; have y2 := hl; have HR := (keptK (by assumption) hl).1.2; have p0 := HR.cell 0 (by decide); have f0 := HR.free 0; have p1 := HR.cell 1 (by decide); have f1 := HR.free 1; have p2 := HR.cell 2 (by decide); have f2 := HR.free 2; have p3 := HR.cell 3 (by decide); have f3 := HR.free 3; have p4 := HR.cell 4 (by decide); have f4 := HR.free 4; clear HR)
        | fail)
    rename_i hH
    have a0 : Below w.heap.size w W0.drew := L0.out.drew
    have a1 := a0.trans (y1.mono a0.size)
    have a2 := a1.trans (y2.mono a1.size)
    have RA : RC w4 (w.heap.size + 1 + 1) := by
      have b0 : RC W0.drew (w.heap.size + 1 + 1) := ⟨_, rfl, R0.out⟩
      exact (b0.below y1).below y2
    have G4 : w.heap.size + 1 + 1 < w2.heap.size := Nat.lt_of_lt_of_le (show w.heap.size + 1 + 1 < W0.drew.heap.size from R0.out.lt) y1.size
    have F := Lib.hid (RA.fil 5 false (.slice A1 m1 c1) (.slice A2 m2 c2) (.slice A3 m3 c3))
    have E := Lib.hid (filC_below a2 (g := w.heap.size + 1 + 1) (by omega) 5 false (.slice A1 m1 c1) (.slice A2 m2 c2) (.slice A3 m3 c3))
    have Q1 := Lib.hid ((q1.fil G4 5 false (.slice A1 m1 c1) (.slice A2 m2 c2) (.slice A3 m3 c3)).low (show w.heap.size ≤ w2.heap.size by omega))
    have Q2 := Lib.hid ((q2.fil G4 5 false (.slice A1 m1 c1) (.slice A2 m2 c2) (.slice A3 m3 c3)).low (show w.heap.size ≤ w2.heap.size by omega))
    have Q3 := Lib.hid ((q3.fil G4 5 false (.slice A1 m1 c1) (.slice A2 m2 c2) (.slice A3 m3 c3)).low (show w.heap.size ≤ w2.heap.size by omega))
    clear hH SS0 KIR GR a0 a1 a2 RA R0 L0 y1 y2 hl G4 q1 q2 q3 p0 f0 p1 f1 p2 f2 p3 f3 p4 f4
    go_wp2
    exact bodyPost_ret (v := .agg #[.int .i64 5, .bool false, .slice A1 m1 c1, .slice A2 m2 c2, .slice A3 m3 c3]) (res1C rfl F.out rfl) rfl (KJ.out _ _ ⟨_, _, _, _, _, _, _, _, _, rfl, Q1.out, Q2.out, Q3.out, E.out⟩)
  · have KJ : Hid (∀ (e : Ending) (w' : World), GivesK w 0 false [] (sf (cu s nm l) 2 l) (gl (uq (hl (sf (cu s nm l) 2 l))) l) e w' → GivesQ w k s nm ty l e w') := fun e w' => (KE.out _ _ _).2.1 hk
    subst hk
    have KIR : Hid (∀ W : World, (((W.cell? ⟨w.heap.size, 0, none⟩ = some (.string s) ∧ W.cell? ⟨w.heap.size, 1, none⟩ = some (.slice (some ⟨b0, o0, none⟩) n c)) ∧ (W.cell? ⟨w.heap.size + 1, 0, none⟩ = some (.string nm) ∧ W.cell? ⟨w.heap.size + 1, 1, none⟩ = some (.int .i64 ty)) ∧ W.cell? ⟨w.heap.size + 1 + 1 + 1, 1, none⟩ = some (.func (.func 66) #[] #[])) ∧ RC W (w.heap.size + 1 + 1)) ∧ Svz w W → Calls Try.prog 14 #[.agg #[.string s, .slice (some ⟨b0, o0, none⟩) n c], .agg #[.string nm, .int .i64 ty]] W fun e w' => e = .returned (.int .i64 1) ∧ Below W.heap.size W w') := fun W hW => KI.out W (HS.out.on hW.2)
    have GR : Hid (∀ W : World, (((W.cell? ⟨w.heap.size, 0, none⟩ = some (.string s) ∧ W.cell? ⟨w.heap.size, 1, none⟩ = some (.slice (some ⟨b0, o0, none⟩) n c)) ∧ (W.cell? ⟨w.heap.size + 1, 0, none⟩ = some (.string nm) ∧ W.cell? ⟨w.heap.size + 1, 1, none⟩ = some (.int .i64 ty)) ∧ W.cell? ⟨w.heap.size + 1 + 1 + 1, 1, none⟩ = some (.func (.func 66) #[] #[])) ∧ RC W (w.heap.size + 1 + 1)) ∧ Svz w W → Calls Try.prog 66 #[.agg #[.string s, .slice (some ⟨b0, o0, none⟩) n c], .agg #[.string nm, .int .i64 ty]] W (GivesK W 0 false [] (sf (cu s nm l) 2 l) (gl (uq (hl (sf (cu s nm l) 2 l))) l))) := fun W hW => G1.out W ⟨trivial, hW.2⟩
    have SS0 : (((W0.cell? ⟨w.heap.size, 0, none⟩ = some (.string s) ∧ W0.cell? ⟨w.heap.size, 1, none⟩ = some (.slice (some ⟨b0, o0, none⟩) n c)) ∧ (W0.cell? ⟨w.heap.size + 1, 0, none⟩ = some (.string nm) ∧ W0.cell? ⟨w.heap.size + 1, 1, none⟩ = some (.int .i64 ty)) ∧ W0.cell? ⟨w.heap.size + 1 + 1 + 1, 1, none⟩ = some (.func (.func 66) #[] #[])) ∧ RC W0 (w.heap.size + 1 + 1)) ∧ Svz w W0 := ⟨⟨⟨X0.out, Y0.out, N0.out.cell 1⟩, ⟨_, rfl, R0.out⟩⟩, L0.out⟩
    clear X0 Y0 N0 KI G0 G1 G2 G3 G4 G5 KE
    go_region_held3 (fun w' => (((w'.cell? ⟨w.heap.size, 0, none⟩ = some (.string s) ∧ w'.cell? ⟨w.heap.size, 1, none⟩ = some (.slice (some ⟨b0, o0, none⟩) n c)) ∧ (w'.cell? ⟨w.heap.size + 1, 0, none⟩ = some (.string nm) ∧ w'.cell? ⟨w.heap.size + 1, 1, none⟩ = some (.int .i64 ty)) ∧ w'.cell? ⟨w.heap.size + 1 + 1 + 1, 1, none⟩ = some (.func (.func 66) #[] #[])) ∧ RC w' (w.heap.size + 1 + 1)) ∧ Svz w w')
      (first | with_reducible exact keptK_fil (w1 := w4) (by assumption) n1 n2 n4 n3 _ _ _ _ _ | with_reducible exact SS0 | with_reducible assumption | with_reducible exact keptK (by assumption) hl | with_reducible exact keptK_draw (by assumption) | fail)
      (first
        | (go_at_call 14; (with_reducible refine (KIR.out _ (by assumption)).mono ?_); rintro e w2 ⟨rfl, hl⟩; have y1 := hl)
        | (go_at_call 66; (with_reducible refine (GR.out _ (by assumption)).mono ?_); rintro e w4 ⟨A1, m1, c1, A2, m2, c2, A3, m3, c3, rfl, q1, q2, q3, hl⟩; have y2 := hl; have HR := (keptK (by assumption) hl).1.2; have p0 := HR.cell 0 (by decide); have f0 := HR.free 0; have p1 := HR.cell 1 (by decide); have f1 := HR.free 1; have p2 := HR.cell 2 (by decide); have f2 := HR.free 2; have p3 := HR.cell 3 (by decide); have f3 := HR.free 3; have p4 := HR.cell 4 (by decide); have f4 := HR.free 4; clear HR)
        | fail)
    rename_i hH
    have a0 : Below w.heap.size w W0.drew := L0.out.drew
    have a1 := a0.trans (y1.mono a0.size)
    have a2 := a1.trans (y2.mono a1.size)
    have RA : RC w4 (w.heap.size + 1 + 1) := by
      have b0 : RC W0.drew (w.heap.size + 1 + 1) := ⟨_, rfl, R0.out⟩
      exact (b0.below y1).below y2
    have G4 : w.heap.size + 1 + 1 < w2.heap.size := Nat.lt_of_lt_of_le (show w.heap.size + 1 + 1 < W0.drew.heap.size from R0.out.lt) y1.size
    have F := Lib.hid (RA.fil 0 false (.slice A1 m1 c1) (.slice A2 m2 c2) (.slice A3 m3 c3))
    have E := Lib.hid (filC_below a2 (g := w.heap.size + 1 + 1) (by omega) 0 false (.slice A1 m1 c1) (.slice A2 m2 c2) (.slice A3 m3 c3))
    have Q1 := Lib.hid ((q1.fil G4 0 false (.slice A1 m1 c1) (.slice A2 m2 c2) (.slice A3 m3 c3)).low (show w.heap.size ≤ w2.heap.size by omega))
    have Q2 := Lib.hid ((q2.fil G4 0 false (.slice A1 m1 c1) (.slice A2 m2 c2) (.slice A3 m3 c3)).low (show w.heap.size ≤ w2.heap.size by omega))
    have Q3 := Lib.hid ((q3.fil G4 0 false (.slice A1 m1 c1) (.slice A2 m2 c2) (.slice A3 m3 c3)).low (show w.heap.size ≤ w2.heap.size by omega))
    clear hH SS0 KIR GR a0 a1 a2 RA R0 L0 y1 y2 hl G4 q1 q2 q3 p0 f0 p1 f1 p2 f2 p3 f3 p4 f4
    go_wp2
    exact bodyPost_ret (v := .agg #[.int .i64 0, .bool false, .slice A1 m1 c1, .slice A2 m2 c2, .slice A3 m3 c3]) (res1C rfl F.out rfl) rfl (KJ.out _ _ ⟨_, _, _, _, _, _, _, _, _, rfl, Q1.out, Q2.out, Q3.out, E.out⟩)
  · have KJ : Hid (∀ (e : Ending) (w' : World), GivesK w 0 true (sf nm 5 l) [] [] e w' → GivesQ w k s nm ty l e w') := fun e w' => (KE.out _ _ _).2.2.1 hk
    subst hk
    have KIR : Hid (∀ W : World, (((W.cell? ⟨w.heap.size, 0, none⟩ = some (.string s) ∧ W.cell? ⟨w.heap.size, 1, none⟩ = some (.slice (some ⟨b0, o0, none⟩) n c)) ∧ (W.cell? ⟨w.heap.size + 1, 0, none⟩ = some (.string nm) ∧ W.cell? ⟨w.heap.size + 1, 1, none⟩ = some (.int .i64 ty)) ∧ W.cell? ⟨w.heap.size + 1 + 1 + 1, 2, none⟩ = some (.func (.func 67) #[] #[])) ∧ RC W (w.heap.size + 1 + 1)) ∧ Svz w W → Calls Try.prog 14 #[.agg #[.string s, .slice (some ⟨b0, o0, none⟩) n c], .agg #[.string nm, .int .i64 ty]] W fun e w' => e = .returned (.int .i64 2) ∧ Below W.heap.size W w') := fun W hW => KI.out W (HS.out.on hW.2)
    have GR : Hid (∀ W : World, (((W.cell? ⟨w.heap.size, 0, none⟩ = some (.string s) ∧ W.cell? ⟨w.heap.size, 1, none⟩ = some (.slice (some ⟨b0, o0, none⟩) n c)) ∧ (W.cell? ⟨w.heap.size + 1, 0, none⟩ = some (.string nm) ∧ W.cell? ⟨w.heap.size + 1, 1, none⟩ = some (.int .i64 ty)) ∧ W.cell? ⟨w.heap.size + 1 + 1 + 1, 2, none⟩ = some (.func (.func 67) #[] #[])) ∧ RC W (w.heap.size + 1 + 1)) ∧ Svz w W → Calls Try.prog 67 #[.agg #[.string s, .slice (some ⟨b0, o0, none⟩) n c], .agg #[.string nm, .int .i64 ty]] W (GivesK W 0 true (sf nm 5 l) [] [])) := fun W hW => G2.out W ⟨trivial, hW.2⟩
    have SS0 : (((W0.cell? ⟨w.heap.size, 0, none⟩ = some (.string s) ∧ W0.cell? ⟨w.heap.size, 1, none⟩ = some (.slice (some ⟨b0, o0, none⟩) n c)) ∧ (W0.cell? ⟨w.heap.size + 1, 0, none⟩ = some (.string nm) ∧ W0.cell? ⟨w.heap.size + 1, 1, none⟩ = some (.int .i64 ty)) ∧ W0.cell? ⟨w.heap.size + 1 + 1 + 1, 2, none⟩ = some (.func (.func 67) #[] #[])) ∧ RC W0 (w.heap.size + 1 + 1)) ∧ Svz w W0 := ⟨⟨⟨X0.out, Y0.out, N0.out.cell 2⟩, ⟨_, rfl, R0.out⟩⟩, L0.out⟩
    clear X0 Y0 N0 KI G0 G1 G2 G3 G4 G5 KE
    go_region_held3 (fun w' => (((w'.cell? ⟨w.heap.size, 0, none⟩ = some (.string s) ∧ w'.cell? ⟨w.heap.size, 1, none⟩ = some (.slice (some ⟨b0, o0, none⟩) n c)) ∧ (w'.cell? ⟨w.heap.size + 1, 0, none⟩ = some (.string nm) ∧ w'.cell? ⟨w.heap.size + 1, 1, none⟩ = some (.int .i64 ty)) ∧ w'.cell? ⟨w.heap.size + 1 + 1 + 1, 2, none⟩ = some (.func (.func 67) #[] #[])) ∧ RC w' (w.heap.size + 1 + 1)) ∧ Svz w w')
      (first | with_reducible exact keptK_fil (w1 := w4) (by assumption) n1 n2 n4 n3 _ _ _ _ _ | with_reducible exact SS0 | with_reducible assumption | with_reducible exact keptK (by assumption) hl | with_reducible exact keptK_draw (by assumption) | fail)
      (first
        | (go_at_call 14; (with_reducible refine (KIR.out _ (by assumption)).mono ?_); rintro e w2 ⟨rfl, hl⟩; have y1 := hl)
        | (go_at_call 67; (with_reducible refine (GR.out _ (by assumption)).mono ?_); rintro e w4 ⟨A1, m1, c1, A2, m2, c2, A3, m3, c3, rfl, q1, q2, q3, hl⟩; have y2 := hl; have HR := (keptK (by assumption) hl).1.2; have p0 := HR.cell 0 (by decide); have f0 := HR.free 0; have p1 := HR.cell 1 (by decide); have f1 := HR.free 1; have p2 := HR.cell 2 (by decide); have f2 := HR.free 2; have p3 := HR.cell 3 (by decide); have f3 := HR.free 3; have p4 := HR.cell 4 (by decide); have f4 := HR.free 4; clear HR)
        | fail)
    rename_i hH
    have a0 : Below w.heap.size w W0.drew := L0.out.drew
    have a1 := a0.trans (y1.mono a0.size)
    have a2 := a1.trans (y2.mono a1.size)
    have RA : RC w4 (w.heap.size + 1 + 1) := by
      have b0 : RC W0.drew (w.heap.size + 1 + 1) := ⟨_, rfl, R0.out⟩
      exact (b0.below y1).below y2
    have G4 : w.heap.size + 1 + 1 < w2.heap.size := Nat.lt_of_lt_of_le (show w.heap.size + 1 + 1 < W0.drew.heap.size from R0.out.lt) y1.size
    have F := Lib.hid (RA.fil 0 true (.slice A1 m1 c1) (.slice A2 m2 c2) (.slice A3 m3 c3))
    have E := Lib.hid (filC_below a2 (g := w.heap.size + 1 + 1) (by omega) 0 true (.slice A1 m1 c1) (.slice A2 m2 c2) (.slice A3 m3 c3))
    have Q1 := Lib.hid ((q1.fil G4 0 true (.slice A1 m1 c1) (.slice A2 m2 c2) (.slice A3 m3 c3)).low (show w.heap.size ≤ w2.heap.size by omega))
    have Q2 := Lib.hid ((q2.fil G4 0 true (.slice A1 m1 c1) (.slice A2 m2 c2) (.slice A3 m3 c3)).low (show w.heap.size ≤ w2.heap.size by omega))
    have Q3 := Lib.hid ((q3.fil G4 0 true (.slice A1 m1 c1) (.slice A2 m2 c2) (.slice A3 m3 c3)).low (show w.heap.size ≤ w2.heap.size by omega))
    clear hH SS0 KIR GR a0 a1 a2 RA R0 L0 y1 y2 hl G4 q1 q2 q3 p0 f0 p1 f1 p2 f2 p3 f3 p4 f4
    go_wp2
    exact bodyPost_ret (v := .agg #[.int .i64 0, .bool true, .slice A1 m1 c1, .slice A2 m2 c2, .slice A3 m3 c3]) (res1C rfl F.out rfl) rfl (KJ.out _ _ ⟨_, _, _, _, _, _, _, _, _, rfl, Q1.out, Q2.out, Q3.out, E.out⟩)
  · have KJ : Hid (∀ (e : Ending) (w' : World), GivesK w 0 true (sf nm ty l) [] [] e w' → GivesQ w k s nm ty l e w') := fun e w' => (KE.out _ _ _).2.2.2.1 hk
    subst hk
    have KIR : Hid (∀ W : World, (((W.cell? ⟨w.heap.size, 0, none⟩ = some (.string s) ∧ W.cell? ⟨w.heap.size, 1, none⟩ = some (.slice (some ⟨b0, o0, none⟩) n c)) ∧ (W.cell? ⟨w.heap.size + 1, 0, none⟩ = some (.string nm) ∧ W.cell? ⟨w.heap.size + 1, 1, none⟩ = some (.int .i64 ty)) ∧ W.cell? ⟨w.heap.size + 1 + 1 + 1, 3, none⟩ = some (.func (.func 68) #[] #[])) ∧ RC W (w.heap.size + 1 + 1)) ∧ Svz w W → Calls Try.prog 14 #[.agg #[.string s, .slice (some ⟨b0, o0, none⟩) n c], .agg #[.string nm, .int .i64 ty]] W fun e w' => e = .returned (.int .i64 3) ∧ Below W.heap.size W w') := fun W hW => KI.out W (HS.out.on hW.2)
    have GR : Hid (∀ W : World, (((W.cell? ⟨w.heap.size, 0, none⟩ = some (.string s) ∧ W.cell? ⟨w.heap.size, 1, none⟩ = some (.slice (some ⟨b0, o0, none⟩) n c)) ∧ (W.cell? ⟨w.heap.size + 1, 0, none⟩ = some (.string nm) ∧ W.cell? ⟨w.heap.size + 1, 1, none⟩ = some (.int .i64 ty)) ∧ W.cell? ⟨w.heap.size + 1 + 1 + 1, 3, none⟩ = some (.func (.func 68) #[] #[])) ∧ RC W (w.heap.size + 1 + 1)) ∧ Svz w W → Calls Try.prog 68 #[.agg #[.string s, .slice (some ⟨b0, o0, none⟩) n c], .agg #[.string nm, .int .i64 ty]] W (GivesK W 0 true (sf nm ty l) [] [])) := fun W hW => G3.out W ⟨trivial, hW.2⟩
    have SS0 : (((W0.cell? ⟨w.heap.size, 0, none⟩ = some (.string s) ∧ W0.cell? ⟨w.heap.size, 1, none⟩ = some (.slice (some ⟨b0, o0, none⟩) n c)) ∧ (W0.cell? ⟨w.heap.size + 1, 0, none⟩ = some (.string nm) ∧ W0.cell? ⟨w.heap.size + 1, 1, none⟩ = some (.int .i64 ty)) ∧ W0.cell? ⟨w.heap.size + 1 + 1 + 1, 3, none⟩ = some (.func (.func 68) #[] #[])) ∧ RC W0 (w.heap.size + 1 + 1)) ∧ Svz w W0 := ⟨⟨⟨X0.out, Y0.out, N0.out.cell 3⟩, ⟨_, rfl, R0.out⟩⟩, L0.out⟩
    clear X0 Y0 N0 KI G0 G1 G2 G3 G4 G5 KE
    go_region_held3 (fun w' => (((w'.cell? ⟨w.heap.size, 0, none⟩ = some (.string s) ∧ w'.cell? ⟨w.heap.size, 1, none⟩ = some (.slice (some ⟨b0, o0, none⟩) n c)) ∧ (w'.cell? ⟨w.heap.size + 1, 0, none⟩ = some (.string nm) ∧ w'.cell? ⟨w.heap.size + 1, 1, none⟩ = some (.int .i64 ty)) ∧ w'.cell? ⟨w.heap.size + 1 + 1 + 1, 3, none⟩ = some (.func (.func 68) #[] #[])) ∧ RC w' (w.heap.size + 1 + 1)) ∧ Svz w w')
      (first | with_reducible exact keptK_fil (w1 := w4) (by assumption) n1 n2 n4 n3 _ _ _ _ _ | with_reducible exact SS0 | with_reducible assumption | with_reducible exact keptK (by assumption) hl | with_reducible exact keptK_draw (by assumption) | fail)
      (first
        | (go_at_call 14; (with_reducible refine (KIR.out _ (by assumption)).mono ?_); rintro e w2 ⟨rfl, hl⟩; have y1 := hl)
        | (go_at_call 68; (with_reducible refine (GR.out _ (by assumption)).mono ?_); rintro e w4 ⟨A1, m1, c1, A2, m2, c2, A3, m3, c3, rfl, q1, q2, q3, hl⟩; have y2 := hl; have HR := (keptK (by assumption) hl).1.2; have p0 := HR.cell 0 (by decide); have f0 := HR.free 0; have p1 := HR.cell 1 (by decide); have f1 := HR.free 1; have p2 := HR.cell 2 (by decide); have f2 := HR.free 2; have p3 := HR.cell 3 (by decide); have f3 := HR.free 3; have p4 := HR.cell 4 (by decide); have f4 := HR.free 4; clear HR)
        | fail)
    rename_i hH
    have a0 : Below w.heap.size w W0.drew := L0.out.drew
    have a1 := a0.trans (y1.mono a0.size)
    have a2 := a1.trans (y2.mono a1.size)
    have RA : RC w4 (w.heap.size + 1 + 1) := by
      have b0 : RC W0.drew (w.heap.size + 1 + 1) := ⟨_, rfl, R0.out⟩
      exact (b0.below y1).below y2
    have G4 : w.heap.size + 1 + 1 < w2.heap.size := Nat.lt_of_lt_of_le (show w.heap.size + 1 + 1 < W0.drew.heap.size from R0.out.lt) y1.size
    have F := Lib.hid (RA.fil 0 true (.slice A1 m1 c1) (.slice A2 m2 c2) (.slice A3 m3 c3))
    have E := Lib.hid (filC_below a2 (g := w.heap.size + 1 + 1) (by omega) 0 true (.slice A1 m1 c1) (.slice A2 m2 c2) (.slice A3 m3 c3))
    have Q1 := Lib.hid ((q1.fil G4 0 true (.slice A1 m1 c1) (.slice A2 m2 c2) (.slice A3 m3 c3)).low (show w.heap.size ≤ w2.heap.size by omega))
    have Q2 := Lib.hid ((q2.fil G4 0 true (.slice A1 m1 c1) (.slice A2 m2 c2) (.slice A3 m3 c3)).low (show w.heap.size ≤ w2.heap.size by omega))
    have Q3 := Lib.hid ((q3.fil G4 0 true (.slice A1 m1 c1) (.slice A2 m2 c2) (.slice A3 m3 c3)).low (show w.heap.size ≤ w2.heap.size by omega))
    clear hH SS0 KIR GR a0 a1 a2 RA R0 L0 y1 y2 hl G4 q1 q2 q3 p0 f0 p1 f1 p2 f2 p3 f3 p4 f4
    go_wp2
    exact bodyPost_ret (v := .agg #[.int .i64 0, .bool true, .slice A1 m1 c1, .slice A2 m2 c2, .slice A3 m3 c3]) (res1C rfl F.out rfl) rfl (KJ.out _ _ ⟨_, _, _, _, _, _, _, _, _, rfl, Q1.out, Q2.out, Q3.out, E.out⟩)
  · have KJ : Hid (∀ (e : Ending) (w' : World), GivesK w 0 true [] [st l] [] e w' → GivesQ w k s nm ty l e w') := fun e w' => (KE.out _ _ _).2.2.2.2.1 hk
    subst hk
    have KIR : Hid (∀ W : World, (((W.cell? ⟨w.heap.size, 0, none⟩ = some (.string s) ∧ W.cell? ⟨w.heap.size, 1, none⟩ = some (.slice (some ⟨b0, o0, none⟩) n c)) ∧ (W.cell? ⟨w.heap.size + 1, 0, none⟩ = some (.string nm) ∧ W.cell? ⟨w.heap.size + 1, 1, none⟩ = some (.int .i64 ty)) ∧ W.cell? ⟨w.heap.size + 1 + 1 + 1, 4, none⟩ = some (.func (.func 69) #[] #[])) ∧ RC W (w.heap.size + 1 + 1)) ∧ Svz w W → Calls Try.prog 14 #[.agg #[.string s, .slice (some ⟨b0, o0, none⟩) n c], .agg #[.string nm, .int .i64 ty]] W fun e w' => e = .returned (.int .i64 4) ∧ Below W.heap.size W w') := fun W hW => KI.out W (HS.out.on hW.2)
    have GR : Hid (∀ W : World, (((W.cell? ⟨w.heap.size, 0, none⟩ = some (.string s) ∧ W.cell? ⟨w.heap.size, 1, none⟩ = some (.slice (some ⟨b0, o0, none⟩) n c)) ∧ (W.cell? ⟨w.heap.size + 1, 0, none⟩ = some (.string nm) ∧ W.cell? ⟨w.heap.size + 1, 1, none⟩ = some (.int .i64 ty)) ∧ W.cell? ⟨w.heap.size + 1 + 1 + 1, 4, none⟩ = some (.func (.func 69) #[] #[])) ∧ RC W (w.heap.size + 1 + 1)) ∧ Svz w W → Calls Try.prog 69 #[.agg #[.string s, .slice (some ⟨b0, o0, none⟩) n c], .agg #[.string nm, .int .i64 ty]] W (GivesK W 0 true [] [st l] [])) := fun W hW => G4.out W ⟨trivial, hW.2⟩
    have SS0 : (((W0.cell? ⟨w.heap.size, 0, none⟩ = some (.string s) ∧ W0.cell? ⟨w.heap.size, 1, none⟩ = some (.slice (some ⟨b0, o0, none⟩) n c)) ∧ (W0.cell? ⟨w.heap.size + 1, 0, none⟩ = some (.string nm) ∧ W0.cell? ⟨w.heap.size + 1, 1, none⟩ = some (.int .i64 ty)) ∧ W0.cell? ⟨w.heap.size + 1 + 1 + 1, 4, none⟩ = some (.func (.func 69) #[] #[])) ∧ RC W0 (w.heap.size + 1 + 1)) ∧ Svz w W0 := ⟨⟨⟨X0.out, Y0.out, N0.out.cell 4⟩, ⟨_, rfl, R0.out⟩⟩, L0.out⟩
    clear X0 Y0 N0 KI G0 G1 G2 G3 G4 G5 KE
    go_region_held3 (fun w' => (((w'.cell? ⟨w.heap.size, 0, none⟩ = some (.string s) ∧ w'.cell? ⟨w.heap.size, 1, none⟩ = some (.slice (some ⟨b0, o0, none⟩) n c)) ∧ (w'.cell? ⟨w.heap.size + 1, 0, none⟩ = some (.string nm) ∧ w'.cell? ⟨w.heap.size + 1, 1, none⟩ = some (.int .i64 ty)) ∧ w'.cell? ⟨w.heap.size + 1 + 1 + 1, 4, none⟩ = some (.func (.func 69) #[] #[])) ∧ RC w' (w.heap.size + 1 + 1)) ∧ Svz w w')
      (first | with_reducible exact keptK_fil (w1 := w4) (by assumption) n1 n2 n4 n3 _ _ _ _ _ | with_reducible exact SS0 | with_reducible assumption | with_reducible exact keptK (by assumption) hl | with_reducible exact keptK_draw (by assumption) | fail)
      (first
        | (go_at_call 14; (with_reducible refine (KIR.out _ (by assumption)).mono ?_); rintro e w2 ⟨rfl, hl⟩; have y1 := hl)
        | (go_at_call 69; (with_reducible refine (GR.out _ (by assumption)).mono ?_); rintro e w4 ⟨A1, m1, c1, A2, m2, c2, A3, m3, c3, rfl, q1, q2, q3, hl⟩; have y2 := hl; have HR := (keptK (by assumption) hl).1.2; have p0 := HR.cell 0 (by decide); have f0 := HR.free 0; have p1 := HR.cell 1 (by decide); have f1 := HR.free 1; have p2 := HR.cell 2 (by decide); have f2 := HR.free 2; have p3 := HR.cell 3 (by decide); have f3 := HR.free 3; have p4 := HR.cell 4 (by decide); have f4 := HR.free 4; clear HR)
        | fail)
    rename_i hH
    have a0 : Below w.heap.size w W0.drew := L0.out.drew
    have a1 := a0.trans (y1.mono a0.size)
    have a2 := a1.trans (y2.mono a1.size)
    have RA : RC w4 (w.heap.size + 1 + 1) := by
      have b0 : RC W0.drew (w.heap.size + 1 + 1) := ⟨_, rfl, R0.out⟩
      exact (b0.below y1).below y2
    have G4 : w.heap.size + 1 + 1 < w2.heap.size := Nat.lt_of_lt_of_le (show w.heap.size + 1 + 1 < W0.drew.heap.size from R0.out.lt) y1.size
    have F := Lib.hid (RA.fil 0 true (.slice A1 m1 c1) (.slice A2 m2 c2) (.slice A3 m3 c3))
    have E := Lib.hid (filC_below a2 (g := w.heap.size + 1 + 1) (by omega) 0 true (.slice A1 m1 c1) (.slice A2 m2 c2) (.slice A3 m3 c3))
    have Q1 := Lib.hid ((q1.fil G4 0 true (.slice A1 m1 c1) (.slice A2 m2 c2) (.slice A3 m3 c3)).low (show w.heap.size ≤ w2.heap.size by omega))
    have Q2 := Lib.hid ((q2.fil G4 0 true (.slice A1 m1 c1) (.slice A2 m2 c2) (.slice A3 m3 c3)).low (show w.heap.size ≤ w2.heap.size by omega))
    have Q3 := Lib.hid ((q3.fil G4 0 true (.slice A1 m1 c1) (.slice A2 m2 c2) (.slice A3 m3 c3)).low (show w.heap.size ≤ w2.heap.size by omega))
    clear hH SS0 KIR GR a0 a1 a2 RA R0 L0 y1 y2 hl G4 q1 q2 q3 p0 f0 p1 f1 p2 f2 p3 f3 p4 f4
    go_wp2
    exact bodyPost_ret (v := .agg #[.int .i64 0, .bool true, .slice A1 m1 c1, .slice A2 m2 c2, .slice A3 m3 c3]) (res1C rfl F.out rfl) rfl (KJ.out _ _ ⟨_, _, _, _, _, _, _, _, _, rfl, Q1.out, Q2.out, Q3.out, E.out⟩)
  · have KJ : Hid (∀ (e : Ending) (w' : World), GivesK w 3 true [] [st l] [] e w' → GivesQ w k s nm ty l e w') := fun e w' => (KE.out _ _ _).2.2.2.2.2 hk
    subst hk
    have KIR : Hid (∀ W : World, (((W.cell? ⟨w.heap.size, 0, none⟩ = some (.string s) ∧ W.cell? ⟨w.heap.size, 1, none⟩ = some (.slice (some ⟨b0, o0, none⟩) n c)) ∧ (W.cell? ⟨w.heap.size + 1, 0, none⟩ = some (.string nm) ∧ W.cell? ⟨w.heap.size + 1, 1, none⟩ = some (.int .i64 ty)) ∧ W.cell? ⟨w.heap.size + 1 + 1 + 1, 5, none⟩ = some (.func (.func 70) #[] #[])) ∧ RC W (w.heap.size + 1 + 1)) ∧ Svz w W → Calls Try.prog 14 #[.agg #[.string s, .slice (some ⟨b0, o0, none⟩) n c], .agg #[.string nm, .int .i64 ty]] W fun e w' => e = .returned (.int .i64 5) ∧ Below W.heap.size W w') := fun W hW => KI.out W (HS.out.on hW.2)
    have GR : Hid (∀ W : World, (((W.cell? ⟨w.heap.size, 0, none⟩ = some (.string s) ∧ W.cell? ⟨w.heap.size, 1, none⟩ = some (.slice (some ⟨b0, o0, none⟩) n c)) ∧ (W.cell? ⟨w.heap.size + 1, 0, none⟩ = some (.string nm) ∧ W.cell? ⟨w.heap.size + 1, 1, none⟩ = some (.int .i64 ty)) ∧ W.cell? ⟨w.heap.size + 1 + 1 + 1, 5, none⟩ = some (.func (.func 70) #[] #[])) ∧ RC W (w.heap.size + 1 + 1)) ∧ Svz w W → Calls Try.prog 70 #[.agg #[.string s, .slice (some ⟨b0, o0, none⟩) n c], .agg #[.string nm, .int .i64 ty]] W (GivesK W 3 true [] [st l] [])) := fun W hW => G5.out W ⟨trivial, hW.2⟩
    have SS0 : (((W0.cell? ⟨w.heap.size, 0, none⟩ = some (.string s) ∧ W0.cell? ⟨w.heap.size, 1, none⟩ = some (.slice (some ⟨b0, o0, none⟩) n c)) ∧ (W0.cell? ⟨w.heap.size + 1, 0, none⟩ = some (.string nm) ∧ W0.cell? ⟨w.heap.size + 1, 1, none⟩ = some (.int .i64 ty)) ∧ W0.cell? ⟨w.heap.size + 1 + 1 + 1, 5, none⟩ = some (.func (.func 70) #[] #[])) ∧ RC W0 (w.heap.size + 1 + 1)) ∧ Svz w W0 := ⟨⟨⟨X0.out, Y0.out, N0.out.cell 5⟩, ⟨_, rfl, R0.out⟩⟩, L0.out⟩
    clear X0 Y0 N0 KI G0 G1 G2 G3 G4 G5 KE
    go_region_held3 (fun w' => (((w'.cell? ⟨w.heap.size, 0, none⟩ = some (.string s) ∧ w'.cell? ⟨w.heap.size, 1, none⟩ = some (.slice (some ⟨b0, o0, none⟩) n c)) ∧ (w'.cell? ⟨w.heap.size + 1, 0, none⟩ = some (.string nm) ∧ w'.cell? ⟨w.heap.size + 1, 1, none⟩ = some (.int .i64 ty)) ∧ w'.cell? ⟨w.heap.size + 1 + 1 + 1, 5, none⟩ = some (.func (.func 70) #[] #[])) ∧ RC w' (w.heap.size + 1 + 1)) ∧ Svz w w')
      (first | with_reducible exact keptK_fil (w1 := w4) (by assumption) n1 n2 n4 n3 _ _ _ _ _ | with_reducible exact SS0 | with_reducible assumption | with_reducible exact keptK (by assumption) hl | with_reducible exact keptK_draw (by assumption) | fail)
      (first
        | (go_at_call 14; (with_reducible refine (KIR.out _ (by assumption)).mono ?_); rintro e w2 ⟨rfl, hl⟩; have y1 := hl)
        | (go_at_call 70; (with_reducible refine (GR.out _ (by assumption)).mono ?_); rintro e w4 ⟨A1, m1, c1, A2, m2, c2, A3, m3, c3, rfl, q1, q2, q3, hl⟩; have y2 := hl; have HR := (keptK (by assumption) hl).1.2; have p0 := HR.cell 0 (by decide); have f0 := HR.free 0; have p1 := HR.cell 1 (by decide); have f1 := HR.free 1; have p2 := HR.cell 2 (by decide); have f2 := HR.free 2; have p3 := HR.cell 3 (by decide); have f3 := HR.free 3; have p4 := HR.cell 4 (by decide); have f4 := HR.free 4; clear HR)
        | fail)
    rename_i hH
    have a0 : Below w.heap.size w W0.drew := L0.out.drew
    have a1 := a0.trans (y1.mono a0.size)
    have a2 := a1.trans (y2.mono a1.size)
    have RA : RC w4 (w.heap.size + 1 + 1) := by
      have b0 : RC W0.drew (w.heap.size + 1 + 1) := ⟨_, rfl, R0.out⟩
      exact (b0.below y1).below y2
    have G4 : w.heap.size + 1 + 1 < w2.heap.size := Nat.lt_of_lt_of_le (show w.heap.size + 1 + 1 < W0.drew.heap.size from R0.out.lt) y1.size
    have F := Lib.hid (RA.fil 3 true (.slice A1 m1 c1) (.slice A2 m2 c2) (.slice A3 m3 c3))
    have E := Lib.hid (filC_below a2 (g := w.heap.size + 1 + 1) (by omega) 3 true (.slice A1 m1 c1) (.slice A2 m2 c2) (.slice A3 m3 c3))
    have Q1 := Lib.hid ((q1.fil G4 3 true (.slice A1 m1 c1) (.slice A2 m2 c2) (.slice A3 m3 c3)).low (show w.heap.size ≤ w2.heap.size by omega))
    have Q2 := Lib.hid ((q2.fil G4 3 true (.slice A1 m1 c1) (.slice A2 m2 c2) (.slice A3 m3 c3)).low (show w.heap.size ≤ w2.heap.size by omega))
    have Q3 := Lib.hid ((q3.fil G4 3 true (.slice A1 m1 c1) (.slice A2 m2 c2) (.slice A3 m3 c3)).low (show w.heap.size ≤ w2.heap.size by omega))
    clear hH SS0 KIR GR a0 a1 a2 RA R0 L0 y1 y2 hl G4 q1 q2 q3 p0 f0 p1 f1 p2 f2 p3 f3 p4 f4
    go_wp2
    exact bodyPost_ret (v := .agg #[.int .i64 3, .bool true, .slice A1 m1 c1, .slice A2 m2 c2, .slice A3 m3 c3]) (res1C rfl F.out rfl) rfl (KJ.out _ _ ⟨_, _, _, _, _, _, _, _, _, rfl, Q1.out, Q2.out, Q3.out, E.out⟩)

end Go.Proofs.Ytmabbeefeipnaaa.ContI

/- What AnswerIn, MoreIn and HelpIn do in the program: a field of the content (perhaps nil). Condition: at most 1048576 records, no name of more than 400000000 bytes. -/
namespace Go.Proofs.Ytmabbeefeipnaaa.AnsI
open Go.RowKit Go.Proofs.Ytmabbeefeipnaaa.Mem Go.Proofs.Ytmabbeefeipnaaa.MemR Go.Proofs.Ytmabbeefeipnaaa.ServeMath Go.Proofs.Ytmabbeefeipnaaa.MemZ Go.Proofs.Ytmabbeefeipnaaa.MemM Go.Proofs.Ytmabbeefeipnaaa.KindS Go.Proofs.Ytmabbeefeipnaaa.ResC Go.Proofs.Ytmabbeefeipnaaa.ContI

/-- The call returned a slice (nil, or new) that reads as the records, and turned nothing that was there. -/
def GivesN (w : World) (L : List Rec) (e : Ending) (w' : World) : Prop := ∃ A m c, e = .returned (.slice A m c) ∧ Sec w.heap.size w' A m c L ∧ Below w.heap.size w w'

theorem field1 (d : Int) (a : Bool) (A1 : Option Addr) (m1 c1 : Nat) (A2 : Option Addr) (m2 c2 : Nat) (A3 : Option Addr) (m3 c3 : Nat) (w : World) : (Instr.field 64 (.agg #[.int .i64 d, .bool a, .slice A1 m1 c1, .slice A2 m2 c2, .slice A3 m3 c3]) 2).run Try.prog w = .ok (.slice A1 m1 c1) w := by kernel_rfl

theorem field2 (d : Int) (a : Bool) (A1 : Option Addr) (m1 c1 : Nat) (A2 : Option Addr) (m2 c2 : Nat) (A3 : Option Addr) (m3 c3 : Nat) (w : World) : (Instr.field 64 (.agg #[.int .i64 d, .bool a, .slice A1 m1 c1, .slice A2 m2 c2, .slice A3 m3 c3]) 3).run Try.prog w = .ok (.slice A2 m2 c2) w := by kernel_rfl

theorem field3 (d : Int) (a : Bool) (A1 : Option Addr) (m1 c1 : Nat) (A2 : Option Addr) (m2 c2 : Nat) (A3 : Option Addr) (m3 c3 : Nat) (w : World) : (Instr.field 64 (.agg #[.int .i64 d, .bool a, .slice A1 m1 c1, .slice A2 m2 c2, .slice A3 m3 c3]) 4).run Try.prog w = .ok (.slice A3 m3 c3) w := by kernel_rfl

set_option maxHeartbeats 2000000 in
theorem answerIn (s nm : ByteArray) (ty : Int) (b0 o0 n c : Nat) (l : List Rec) (w : World) (hs : Sr w w.heap.size (some ⟨b0, o0, none⟩) n l) (hn : n ≤ 1048576) (hm : s.size ≤ 400000000) (hq : nm.size ≤ 400000000) (hz : ∀ r ∈ l, r.name.size ≤ 400000000) :
    Calls Try.prog 17 #[.agg #[.string s, .slice (some ⟨b0, o0, none⟩) n c], .agg #[.string nm, .int .i64 ty]] w (GivesN w (anl (kd s nm ty l) nm ty l)) := by
  obtain ⟨⟨hx, hy⟩, hl0⟩ := two w s nm ty (.slice (some ⟨b0, o0, none⟩) n c) 32 34
  have X0 := Lib.hid hx
  have Y0 := Lib.hid hy
  have L0 := Lib.hid hl0
  have S0 := Lib.hid (hs.on hl0)
  have CI := Lib.hid (fun W hW => ContI.impl s nm ty b0 o0 n c l W hW hn hm hq hz)
  clear hx hy hl0 hs hz
  generalize kd s nm ty l = k at *
  obtain ⟨x0, x1⟩ := X0.out
  obtain ⟨y0, y1⟩ := Y0.out
  go_enter Try.func17, Try.ntmps17
  go_wp2_with fail
  refine (CI.out _ S0.out).mono ?_
  rintro e w1 ⟨A1, m1, c1, A2, m2, c2, A3, m3, c3, rfl, q1, q2, q3, hl⟩
  have Q := Lib.hid (q1.low L0.out.size)
  have HF := field1 (rcd k) (aut k) A1 m1 c1 A2 m2 c2 A3 m3 c3 w1
  have L1 := Lib.hid (L0.out.trans (hl.mono L0.out.size))
  clear q1 q2 q3 hl CI S0 L0 X0 Y0 x0 x1 y0 y1
  go_wp2
  go_ret
  exact ⟨A1, m1, c1, rfl, Q.out, L1.out⟩

set_option maxHeartbeats 2000000 in
theorem moreIn (s nm : ByteArray) (ty : Int) (b0 o0 n c : Nat) (l : List Rec) (w : World) (hs : Sr w w.heap.size (some ⟨b0, o0, none⟩) n l) (hn : n ≤ 1048576) (hm : s.size ≤ 400000000) (hq : nm.size ≤ 400000000) (hz : ∀ r ∈ l, r.name.size ≤ 400000000) :
    Calls Try.prog 23 #[.agg #[.string s, .slice (some ⟨b0, o0, none⟩) n c], .agg #[.string nm, .int .i64 ty]] w (GivesN w (mol (kd s nm ty l) s nm l)) := by
  obtain ⟨⟨hx, hy⟩, hl0⟩ := two w s nm ty (.slice (some ⟨b0, o0, none⟩) n c) 32 34
  have X0 := Lib.hid hx
  have Y0 := Lib.hid hy
  have L0 := Lib.hid hl0
  have S0 := Lib.hid (hs.on hl0)
  have CI := Lib.hid (fun W hW => ContI.impl s nm ty b0 o0 n c l W hW hn hm hq hz)
  clear hx hy hl0 hs hz
  generalize kd s nm ty l = k at *
  obtain ⟨x0, x1⟩ := X0.out
  obtain ⟨y0, y1⟩ := Y0.out
  go_enter Try.func23, Try.ntmps23
  go_wp2_with fail
  refine (CI.out _ S0.out).mono ?_
  rintro e w1 ⟨A1, m1, c1, A2, m2, c2, A3, m3, c3, rfl, q1, q2, q3, hl⟩
  have Q := Lib.hid (q2.low L0.out.size)
  have HF := field2 (rcd k) (aut k) A1 m1 c1 A2 m2 c2 A3 m3 c3 w1
  have L1 := Lib.hid (L0.out.trans (hl.mono L0.out.size))
  clear q1 q2 q3 hl CI S0 L0 X0 Y0 x0 x1 y0 y1
  go_wp2
  go_ret
  exact ⟨A2, m2, c2, rfl, Q.out, L1.out⟩

set_option maxHeartbeats 2000000 in
theorem helpIn (s nm : ByteArray) (ty : Int) (b0 o0 n c : Nat) (l : List Rec) (w : World) (hs : Sr w w.heap.size (some ⟨b0, o0, none⟩) n l) (hn : n ≤ 1048576) (hm : s.size ≤ 400000000) (hq : nm.size ≤ 400000000) (hz : ∀ r ∈ l, r.name.size ≤ 400000000) :
    Calls Try.prog 25 #[.agg #[.string s, .slice (some ⟨b0, o0, none⟩) n c], .agg #[.string nm, .int .i64 ty]] w (GivesN w (hel (kd s nm ty l) s nm l)) := by
  obtain ⟨⟨hx, hy⟩, hl0⟩ := two w s nm ty (.slice (some ⟨b0, o0, none⟩) n c) 32 34
  have X0 := Lib.hid hx
  have Y0 := Lib.hid hy
  have L0 := Lib.hid hl0
  have S0 := Lib.hid (hs.on hl0)
  have CI := Lib.hid (fun W hW => ContI.impl s nm ty b0 o0 n c l W hW hn hm hq hz)
  clear hx hy hl0 hs hz
  generalize kd s nm ty l = k at *
  obtain ⟨x0, x1⟩ := X0.out
  obtain ⟨y0, y1⟩ := Y0.out
  go_enter Try.func25, Try.ntmps25
  go_wp2_with fail
  refine (CI.out _ S0.out).mono ?_
  rintro e w1 ⟨A1, m1, c1, A2, m2, c2, A3, m3, c3, rfl, q1, q2, q3, hl⟩
  have Q := Lib.hid (q3.low L0.out.size)
  have HF := field3 (rcd k) (aut k) A1 m1 c1 A2 m2 c2 A3 m3 c3 w1
  have L1 := Lib.hid (L0.out.trans (hl.mono L0.out.size))
  clear q1 q2 q3 hl CI S0 L0 X0 Y0 x0 x1 y0 y1
  go_wp2
  go_ret
  exact ⟨A3, m3, c3, rfl, Q.out, L1.out⟩

end Go.Proofs.Ytmabbeefeipnaaa.AnsI

/- What the law's own helpers markRecordS and heldRecordS do from any first mark on: every field of every record is overwritten by a mark of its own; and the marks are found. Condition: no mark is above 20000000. -/
namespace Go.Proofs.Ytmabbeefeipnaaa.MarkR3
open Go.RowKit Go.Proofs.Ytmabbeefeipnaaa.Mem Go.Proofs.Ytmabbeefeipnaaa.MemR Go.Proofs.Ytmabbeefeipnaaa.MarkS Go.Proofs.Ytmabbeefeipnaaa.MarkR Go.Proofs.Ytmabbeefeipnaaa.BoxR

/-- So many records of marks, from u on. -/
def mkf (u n : Nat) : List Rec := (List.range n).map (fun j => mr (u + 6 * j))
theorem mkf_len (u n : Nat) : (mkf u n).length = n := by simp [mkf]
theorem mkf_at (u n j : Nat) (h : j < (mkf u n).length) : (mkf u n)[j] = mr (u + 6 * j) := by simp [mkf]
theorem mkf_snoc (u n : Nat) : mkf u (n + 1) = mkf u n ++ [mr (u + 6 * n)] := by simp [mkf, List.range_succ]
theorem mid_at (u : Nat) (l : List Rec) (j : Nat) (h : j < l.length) : ∃ h' : j < (mkf u j ++ l.drop j).length, (mkf u j ++ l.drop j)[j] = l[j] := by
  refine ⟨by rw [List.length_append, mkf_len, List.length_drop]; omega, ?_⟩
  rw [List.getElem_append_right (by rw [mkf_len]; omega), List.getElem_drop]
  congr 1
  rw [mkf_len]
  omega
theorem mid_set (u : Nat) (l : List Rec) (j : Nat) (h : j < l.length) : (mkf u j ++ l.drop j).set j (mr (u + 6 * j)) = mkf u (j + 1) ++ l.drop (j + 1) := by
  rw [List.set_append_right _ _ (by rw [mkf_len]; omega), mkf_len, Nat.sub_self, List.drop_eq_getElem_cons h, List.set_cons_zero, mkf_snoc, List.append_assoc]
  rfl

theorem mark_none (k : Int) (w : World) : Calls Try.prog 20 #[.slice none 0 0, .int .i64 k] w fun e w' => e = .returned (.int .i64 k) ∧ w = w' := by
  go_enter Try.func20, Try.ntmps20
  go_wp2
  go_loop [1, 5] (fun kk i => kk = .int .i64 k ∧ i = .int .i64 0) (fun _ _ => 0)
  case atStart => exact ⟨rfl, rfl⟩
  case round =>
    obtain ⟨rfl, rfl⟩ := hrel
    go_wp2
    go_ret
    exact ⟨rfl, rfl⟩

theorem held_none (k : Int) (w : World) : Calls Try.prog 21 #[.slice none 0 0, .int .i64 k] w fun e w' => e = .returned (.int .i64 k) ∧ w = w' := by
  go_enter Try.func21, Try.ntmps21
  go_wp2
  go_loop [1, 5] (fun kk i => kk = .int .i64 k ∧ i = .int .i64 0) (fun _ _ => 0)
  case atStart => exact ⟨rfl, rfl⟩
  case round =>
    obtain ⟨rfl, rfl⟩ := hrel
    go_wp2
    go_ret
    exact ⟨rfl, rfl⟩

set_option maxHeartbeats 4000000 in
theorem markRecordS_at (g n c u0 : Nat) (l : List Rec) (r : List Value) (w : World) (hb : Bk w g 68 (fl l ++ r)) (hl : l.length = n) (hp : 0 < u0) (hn : u0 + 6 * n ≤ 20000000) :
    Calls Try.prog 20 #[.slice (some ⟨g, 0, none⟩) n c, .int .i64 (u0 : Int)] w fun e w' => e = .returned (.int .i64 ((u0 : Int) + 6 * (n : Int))) ∧ Bk w' g 68 (fl (mkf u0 n) ++ r) ∧ w.grownBy w' (some g) := by
  have HB := Lib.hid hb
  have HL := Lib.hid hl
  clear hb hl
  go_enter Try.func20, Try.ntmps20
  go_wp2
  go_loopw [1, 5] (fun kk i wr => ∃ j u : Nat, j ≤ n ∧ i = .int .i64 j ∧ kk = .int .i64 (u : Int) ∧ Hid (u = u0 + 6 * j) ∧ Hid (Bk wr g 68 (fl (mkf u0 j ++ l.drop j) ++ r)) ∧ Hid (w.grownBy wr (some g))) (fun _ i _ => n - (intOf i).toNat)
  case atStart => exact ⟨0, u0, Nat.zero_le _, rfl, rfl, rfl, HB.out, World.grownBy.refl _ _⟩
  case round =>
    clear HB
    obtain ⟨j, u, hj, rfl, rfl, HU, HJ, HG⟩ := hrel
    have hu : u ≤ 20000000 := by have := HU.out; omega
    by_cases hlt : j < n
    · have hu0 : 0 < u := by have := HU.out; omega
      have hu6 : u + 6 ≤ 20000000 := by have := HU.out; omega
      have hjl : j < l.length := by rw [HL.out]; exact hlt
      have HM := Lib.hid (mid_set u0 l j hjl)
      have hML : j < (mkf u0 j ++ l.drop j).length := (mid_at u0 l j hjl).1
      generalize mkf u0 j ++ l.drop j = M at *
      go_wp2_with fail
      refine (markText_any u hu0 (by omega) wr).mono ?_
      rintro e w1 ⟨rfl, hl1⟩
      have B1 := Lib.hid (HJ.out.below hl1 HJ.out.lt)
      have G1 := Lib.hid (grown_trans HG.out (grown_of_below hl1 (some g)))
      clear hl1 HJ HG
      obtain ⟨z0, z1, z2, z3, z4, z5⟩ := bk_ce B1.out j hML
      have f0 := B1.out.free (j * 6)
      have f1 := B1.out.free (j * 6 + 1)
      have f2 := B1.out.free (j * 6 + 2)
      have f3 := B1.out.free (j * 6 + 3)
      have Z4 : Hid ((fl M ++ r)[j * 6 + 4]? = some (.string M[j].host)) := (B1.out.cell (j * 6 + 4)).symm.trans z4
      have Z5 : Hid ((fl M ++ r)[j * 6 + 5]? = some (.string M[j].text)) := (B1.out.cell (j * 6 + 5)).symm.trans z5
      clear z4 z5
      have B2 := Lib.hid ((((B1.out.set (j * 6) (.string (Mt u))).set (j * 6 + 1) (.int .i64 ((u : Int) + 1))).set (j * 6 + 2) (.int .i64 ((u : Int) + 1 + 1))).set (j * 6 + 3) (.int .i64 ((u : Int) + 1 + 1 + 1)))
      have G2 := Lib.hid (grown_set (grown_set (grown_set (grown_set G1.out (j * 6) (.string (Mt u))) (j * 6 + 1) (.int .i64 ((u : Int) + 1))) (j * 6 + 2) (.int .i64 ((u : Int) + 1 + 1))) (j * 6 + 3) (.int .i64 ((u : Int) + 1 + 1 + 1)))
      have e4 : (u : Int) + 1 + 1 + 1 + 1 = ((u + 4 : Nat) : Int) := by omega
      have E4 := Lib.hid e4
      clear e4
      go_wp2_with fail
      rw [E4.out]
      refine (markText_any (u + 4) (by omega) (by omega) _).mono ?_
      rintro e w3 ⟨rfl, hl3⟩
      have B3 := Lib.hid (B2.out.below hl3 B2.out.lt)
      have G3 := Lib.hid (grown_trans G2.out (grown_of_below hl3 (some g)))
      clear hl3 B2 G2 z0 z1 z2 z3 f0 f1 f2 f3 B1 G1
      have z4 : w3.cell? ⟨g, j * 6 + 4, none⟩ = some (.string M[j].host) := by
        rw [B3.out.cell, List.getElem?_set_ne (by omega), List.getElem?_set_ne (by omega), List.getElem?_set_ne (by omega), List.getElem?_set_ne (by omega)]
        exact Z4.out
      have f4 := B3.out.free (j * 6 + 4)
      have B4 := Lib.hid (B3.out.set (j * 6 + 4) (.string (Mt (u + 4))))
      have G4 := Lib.hid (grown_set G3.out (j * 6 + 4) (.string (Mt (u + 4))))
      go_wp2_with fail
      have e5 : Hid ((u : Int) + 4 + 1 = ((u + 5 : Nat) : Int)) := show _ = _ by omega
      rw [e5.out]
      refine (markText_any (u + 5) (by omega) (by omega) _).mono ?_
      rintro e w5 ⟨rfl, hl5⟩
      have B5 := Lib.hid (B4.out.below hl5 B4.out.lt)
      have G5 := Lib.hid (grown_trans G4.out (grown_of_below hl5 (some g)))
      clear hl5 B3 G3 B4 G4 z4 f4
      have z5 : w5.cell? ⟨g, j * 6 + 5, none⟩ = some (.string M[j].text) := by
        rw [B5.out.cell, List.getElem?_set_ne (by omega), List.getElem?_set_ne (by omega), List.getElem?_set_ne (by omega), List.getElem?_set_ne (by omega), List.getElem?_set_ne (by omega)]
        exact Z5.out
      have f5 := B5.out.free (j * 6 + 5)
      have B6 := Lib.hid (B5.out.set (j * 6 + 5) (.string (Mt (u + 5))))
      have G6 := Lib.hid (grown_set G5.out (j * 6 + 5) (.string (Mt (u + 5))))
      go_wp2
      go_roundw
      case rel =>
        refine ⟨j + 1, u + 6, by omega, by go_num, by go_num, show _ = _ by have := HU.out; omega, ?_, G6.out⟩
        show Bk _ _ _ _
        have h := B6.out
        have hp := put_r M r j (mr u) hML
        have hq : mr u = mr (u0 + 6 * j) := by rw [HU.out]
        rw [hq, HM.out, ← hq] at hp
        have hx := hp.symm
        rw [hx]
        exact h
      case measure => simp [intOf]; omega
    · have hje : j = n := by omega
      subst hje
      go_wp2
      go_ret
      refine ⟨?_, ?_, HG.out⟩
      · rw [HU.out]
        push_cast
        rfl
      · have h := HJ.out
        rw [List.drop_eq_nil_of_le (by rw [HL.out]; exact Nat.le_refl _), List.append_nil] at h
        exact h

set_option maxHeartbeats 4000000 in
theorem heldRecordS_at (g n c u0 : Nat) (r : List Value) (w : World) (hb : Bk w g 68 (fl (mkf u0 n) ++ r)) (hp : 0 < u0) (hn : u0 + 6 * n ≤ 20000000) :
    Calls Try.prog 21 #[.slice (some ⟨g, 0, none⟩) n c, .int .i64 (u0 : Int)] w fun e w' => e = .returned (.int .i64 ((u0 : Int) + 6 * (n : Int))) ∧ Below w.heap.size w w' := by
  have mixed : Try.prog.follows .mixedOrders = true := by kernel_rfl
  have HB := Lib.hid hb
  clear hb
  go_enter Try.func21, Try.ntmps21
  go_wp2
  go_loopw [1, 5] (fun kk i wr => ∃ j u : Nat, j ≤ n ∧ i = .int .i64 j ∧ kk = .int .i64 (u : Int) ∧ Hid (u = u0 + 6 * j) ∧ Hid (Below w.heap.size w wr)) (fun _ i _ => n - (intOf i).toNat)
  case atStart => exact ⟨0, u0, Nat.zero_le _, rfl, rfl, rfl, Below.refl _ _⟩
  case round =>
    obtain ⟨j, u, hj, rfl, rfl, HU, HG⟩ := hrel
    have hu : u ≤ 20000000 := by have := HU.out; omega
    by_cases hlt : j < n
    · have hu0 : 0 < u := by have := HU.out; omega
      have hu6 : u + 6 ≤ 20000000 := by have := HU.out; omega
      have hjl : j < (mkf u0 n).length := by rw [mkf_len]; exact hlt
      have C : Hid (Ce wr g (j * 6) (mr u)) := by
        have h := bk_ce (HB.out.below HG.out HB.out.lt) j hjl
        rw [mkf_at u0 n j hjl, ← HU.out] at h
        exact h
      have x0 : ∀ d os, (Sort.grow (redrawn wr d) os).cell? ⟨g, j * 6, none⟩ = some (.string (Mt u)) := cell_regrown C.out.1
      go_wp2_with fail
      refine wp_region_quiet_below (by assumption) (by kernel_rfl) ?_
      repeat (quiet_step (first | (go_at_call 47; exact in_class (fun W _ => markText_any u hu0 (by omega) W))))
      refine wpQuiet_nil ?_
      intro w2 hw2
      have L2 := Lib.hid (of_class hw2)
      clear hw2 x0
      have C2 : Hid (Ce w2 g (j * 6) (mr u)) := C.out.below L2.out (Nat.lt_of_lt_of_le HB.out.lt HG.out.size)
      have G2 := Lib.hid (HG.out.trans (L2.out.mono HG.out.size))
      clear L2 C HG
      have z1 : w2.cell? ⟨g, j * 6 + 1, none⟩ = some (.int .i64 ((u : Int) + 1)) := C2.out.2.1
      have z2 : w2.cell? ⟨g, j * 6 + 2, none⟩ = some (.int .i64 ((u : Int) + 1 + 1)) := C2.out.2.2.1
      have z3 : w2.cell? ⟨g, j * 6 + 3, none⟩ = some (.int .i64 ((u : Int) + 1 + 1 + 1)) := C2.out.2.2.2.1
      have x4 : ∀ d os, (Sort.grow (redrawn w2 d) os).cell? ⟨g, j * 6 + 4, none⟩ = some (.string (Mt (u + 4))) := cell_regrown C2.out.2.2.2.2.1
      go_wp2_with fail
      refine wp_region_quiet_below (by assumption) (by kernel_rfl) ?_
      repeat (quiet_step (first | (go_at_call 47; exact in_class (fun W _ => mark_at _ (u + 4) (by omega) (by omega) (by omega) W))))
      refine wpQuiet_nil ?_
      intro w4 hw4
      have L4 := Lib.hid (of_class hw4)
      clear hw4 x4 z1 z2 z3
      have C4 : Hid (Ce w4 g (j * 6) (mr u)) := C2.out.below L4.out (Nat.lt_of_lt_of_le HB.out.lt G2.out.size)
      have G4 := Lib.hid (G2.out.trans (L4.out.mono G2.out.size))
      clear L4 C2 G2
      have x5 : ∀ d os, (Sort.grow (redrawn w4 d) os).cell? ⟨g, j * 6 + 5, none⟩ = some (.string (Mt (u + 5))) := cell_regrown C4.out.2.2.2.2.2
      go_wp2_with fail
      refine wp_region_quiet_below (by assumption) (by kernel_rfl) ?_
      repeat (quiet_step (first | (go_at_call 47; exact in_class (fun W _ => mark_at _ (u + 5) (by omega) (by omega) (by omega) W))))
      refine wpQuiet_nil ?_
      intro w6 hw6
      have L6 := Lib.hid (of_class hw6)
      clear hw6 x5
      have G6 := Lib.hid (G4.out.trans (L6.out.mono G4.out.size))
      clear L6 C4 G4
      go_wp2
      go_roundw
      case rel => exact ⟨j + 1, u + 6, by omega, by go_num, by go_num, show _ = _ by have := HU.out; omega, G6.out⟩
      case measure => simp [intOf]; omega
    · have hje : j = n := by omega
      subst hje
      go_wp2
      go_ret
      refine ⟨?_, HG.out⟩
      rw [HU.out]
      push_cast
      rfl

end Go.Proofs.Ytmabbeefeipnaaa.MarkR3
