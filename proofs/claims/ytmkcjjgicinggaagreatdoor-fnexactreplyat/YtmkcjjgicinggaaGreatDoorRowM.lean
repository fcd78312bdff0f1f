/- What a question and a message that come in read as. -/
import Derived.Test.YtmkcjjgicinggaaGreatDoorMemM
import Derived.Test.YtmkcjjgicinggaaGreatDoorRowR
namespace Go.Proofs.YtmkcjjgicinggaaGreatDoor.RowM
open Go.Proofs.YtmkcjjgicinggaaGreatDoor.Mem Go.Proofs.YtmkcjjgicinggaaGreatDoor.MemR Go.Proofs.YtmkcjjgicinggaaGreatDoor.MemM Go.Proofs.YtmkcjjgicinggaaGreatDoor.RowR
open Go.ChangeShapes Go.WideShapes Go.ChangeAt Go.RowKit Go.Deep

section
variable {H : Type} {enc : TypeId × Value → H} {w : World} {base : Nat} {spare : Nat → Bool} {held : Bool}
theorem two_of {cs : List Value} {s0 : ByteArray} {x1 : Int} (h : cs.length = 2) (e0 : (cs.drop 0).take 1 = [.string s0]) (e1 : (cs.drop 1).take 1 = [.int .i64 x1]) : cs = [.string s0, .int .i64 x1] := by
  match cs, h with
  | [c0, c1], _ =>
    simp only [List.drop_zero, List.drop_succ_cons, List.take_succ_cons, List.take_zero, List.cons.injEq, and_true] at e0 e1
    subst e0 e1
    rfl

theorem quest_of {fuel : Nat} {cs : List Value} {x : DataW H × List MemPlace} (h : DataW.trod enc Tryz.prog w base spare held fuel 70 cs = some x) : ∃ (s : ByteArray) (n : Int), cs = [.string s, .int .i64 n] ∧ s.size ≤ 9223372036854775807 := by
  obtain ⟨xs, n, _, _, hc, hl, hg⟩ := DataW.trod_struct Tryz.underlying70 h
  have h2 : cs.length = 2 := hc.trans (by kernel_rfl)
  have hx : xs.length = 2 := hl
  have ks : Tryz.prog.cellsOf 9 = 1 := by kernel_rfl
  have ki : Tryz.prog.cellsOf 3 = 1 := by kernel_rfl
  have g : ∀ i, i < 2 → xs[i]? = some (xs[i]!) := fun i hi => by rw [getElem!_pos xs i (by omega)]; exact List.getElem?_eq_getElem (by omega)
  have f0 := (hg 0 _ rfl).trans (g 0 (by omega))
  have f1 := (hg 1 _ rfl).trans (g 1 (by omega))
  obtain ⟨s0, e0, _, z0⟩ := DataW.trod_string Tryz.underlying9 f0
  obtain ⟨x1, e1, _⟩ := DataW.trod_int Tryz.underlying3 f1
  replace e0 : (cs.drop 0).take (Tryz.prog.cellsOf 9) = [.string s0] := e0
  replace e1 : (cs.drop 1).take (Tryz.prog.cellsOf 3) = [.int .i64 x1] := e1
  rw [ks] at e0
  rw [ki] at e1
  unfold maxLen at z0
  exact ⟨s0, x1, two_of h2 e0 e1, z0⟩

set_option maxRecDepth 100000 in
/-- A question that comes in. -/
theorem quest_in {r : Reach} {b0 : Nat} {v : Value} {d : DataW H} {p : List MemPlace} (hv : Value.okWide Tryz.prog w r b0 70 v) (h : DataW.Trod enc Tryz.prog w base spare held 70 v d p) :
    ∃ (s : ByteArray) (n : Int), v = .agg #[.string s, .int .i64 n] ∧ s.size ≤ 9223372036854775807 := by
  obtain ⟨cs, rfl, _⟩ := okWide_struct Tryz.underlying70 hv
  obtain ⟨fuel, hf⟩ := h
  obtain ⟨s, n, hr, hz⟩ := quest_of hf
  refine ⟨s, n, ?_, hz⟩
  have e : cs.toList = [.string s, .int .i64 n] := hr
  rw [show cs = ([.string s, .int .i64 n] : List Value).toArray from by rw [← e]]

theorem twelve_of {cs : List Value} {x0 x6 x8 : Int} {b1 b2 b3 b4 b5 : Bool} {s7 : ByteArray} {v1 v2 v3 : Value} (h : cs.length = 12)
    (e0 : (cs.drop 0).take 1 = [.int .i64 x0]) (e1 : (cs.drop 1).take 1 = [.bool b1]) (e2 : (cs.drop 2).take 1 = [.bool b2]) (e3 : (cs.drop 3).take 1 = [.bool b3]) (e4 : (cs.drop 4).take 1 = [.bool b4]) (e5 : (cs.drop 5).take 1 = [.bool b5]) (e6 : (cs.drop 6).take 1 = [.int .i64 x6]) (e7 : (cs.drop 7).take 2 = [.string s7, .int .i64 x8])
    (e9 : (cs.drop 9).take 1 = [v1]) (e10 : (cs.drop 10).take 1 = [v2]) (e11 : (cs.drop 11).take 1 = [v3]) : cs = mc ⟨x0, b1, b2, b3, b4, b5, x6, s7, x8⟩ v1 v2 v3 := by
  match cs, h with
  | [c0, c1, c2, c3, c4, c5, c6, c7, c8, c9, c10, c11], _ =>
    simp only [List.drop_zero, List.drop_succ_cons, List.take_succ_cons, List.take_zero, List.cons.injEq, and_true] at e0 e1 e2 e3 e4 e5 e6 e7 e9 e10 e11
    obtain ⟨e7, e8⟩ := e7
    subst e0 e1 e2 e3 e4 e5 e6 e7 e8 e9 e10 e11
    rfl

theorem slice_cells {fuel : Nat} {cs : List Value} {x : DataW H × List MemPlace} (h : DataW.trod enc Tryz.prog w base spare held fuel 71 cs = some x) : ∃ a len cap, cs = [.slice a len cap] := by
  rcases open_slice Tryz.underlying71 h with ⟨hcs, _⟩ | ⟨x, len', cap', m, n, D, Pl, hcs, _⟩
  · exact ⟨_, _, _, hcs⟩
  · exact ⟨_, _, _, hcs⟩
end

section
variable {H : Type} {enc : TypeId × Value → H} {w : World}

theorem recs_of {fuel : Nat} {cs : List Value} {x : DataW H × List MemPlace} (h : DataW.trod enc Tryz.prog w 0 (fun _ => true) true fuel 71 cs = some x) : ∃ a len cap l, cs = [.slice a len cap] ∧ IsRecs w a len l := by
  obtain ⟨a, len, cap, rfl⟩ := slice_cells h
  obtain ⟨d, p⟩ := x
  obtain ⟨l, hl⟩ := recs_in (a := a) (len := len) (cap := cap) (d := d) (p := p) ⟨fuel, h⟩
  exact ⟨a, len, cap, l, rfl, hl⟩

set_option maxRecDepth 100000 in
set_option maxHeartbeats 1000000 in
theorem msg_of {fuel : Nat} {cs : List Value} {x : DataW H × List MemPlace} (h : DataW.trod enc Tryz.prog w 0 (fun _ => true) true fuel 73 cs = some x) :
    ∃ (hd : Hd) (a1 : Option Addr) (n1 c1 : Nat) (l1 : List Rec) (a2 : Option Addr) (n2 c2 : Nat) (l2 : List Rec) (a3 : Option Addr) (n3 c3 : Nat) (l3 : List Rec),
      cs = mc hd (.slice a1 n1 c1) (.slice a2 n2 c2) (.slice a3 n3 c3) ∧ hd.qn.size ≤ 9223372036854775807 ∧ IsRecs w a1 n1 l1 ∧ IsRecs w a2 n2 l2 ∧ IsRecs w a3 n3 l3 := by
  obtain ⟨xs, n, _, _, hc, hl, hg⟩ := DataW.trod_struct Tryz.underlying73 h
  have h12 : cs.length = 12 := hc.trans (by kernel_rfl)
  have hx : xs.length = 11 := hl
  have kb : Tryz.prog.cellsOf 4 = 1 := by kernel_rfl
  have ki : Tryz.prog.cellsOf 3 = 1 := by kernel_rfl
  have kq : Tryz.prog.cellsOf 70 = 2 := by kernel_rfl
  have kr : Tryz.prog.cellsOf 71 = 1 := by kernel_rfl
  have g : ∀ i, i < 11 → xs[i]? = some (xs[i]!) := fun i hi => by rw [getElem!_pos xs i (by omega)]; exact List.getElem?_eq_getElem (by omega)
  have f0 := (hg 0 _ rfl).trans (g 0 (by omega))
  have f1 := (hg 1 _ rfl).trans (g 1 (by omega))
  have f2 := (hg 2 _ rfl).trans (g 2 (by omega))
  have f3 := (hg 3 _ rfl).trans (g 3 (by omega))
  have f4 := (hg 4 _ rfl).trans (g 4 (by omega))
  have f5 := (hg 5 _ rfl).trans (g 5 (by omega))
  have f6 := (hg 6 _ rfl).trans (g 6 (by omega))
  have f7 := (hg 7 _ rfl).trans (g 7 (by omega))
  have f8 := (hg 8 _ rfl).trans (g 8 (by omega))
  have f9 := (hg 9 _ rfl).trans (g 9 (by omega))
  have f10 := (hg 10 _ rfl).trans (g 10 (by omega))
  obtain ⟨x0, e0, _⟩ := DataW.trod_int Tryz.underlying3 f0
  obtain ⟨x1, e1, _⟩ := DataW.trod_bool Tryz.underlying4 f1
  obtain ⟨x2, e2, _⟩ := DataW.trod_bool Tryz.underlying4 f2
  obtain ⟨x3, e3, _⟩ := DataW.trod_bool Tryz.underlying4 f3
  obtain ⟨x4, e4, _⟩ := DataW.trod_bool Tryz.underlying4 f4
  obtain ⟨x5, e5, _⟩ := DataW.trod_bool Tryz.underlying4 f5
  obtain ⟨x6, e6, _⟩ := DataW.trod_int Tryz.underlying3 f6
  obtain ⟨s7, x7, e7, z7⟩ := quest_of f7
  obtain ⟨a8, n8, c8, l8, e8, z8⟩ := recs_of f8
  obtain ⟨a9, n9, c9, l9, e9, z9⟩ := recs_of f9
  obtain ⟨a10, n10, c10, l10, e10, z10⟩ := recs_of f10
  replace e0 : (cs.drop 0).take (Tryz.prog.cellsOf 3) = [.int .i64 x0] := e0
  replace e1 : (cs.drop 1).take (Tryz.prog.cellsOf 4) = [.bool x1] := e1
  replace e2 : (cs.drop 2).take (Tryz.prog.cellsOf 4) = [.bool x2] := e2
  replace e3 : (cs.drop 3).take (Tryz.prog.cellsOf 4) = [.bool x3] := e3
  replace e4 : (cs.drop 4).take (Tryz.prog.cellsOf 4) = [.bool x4] := e4
  replace e5 : (cs.drop 5).take (Tryz.prog.cellsOf 4) = [.bool x5] := e5
  replace e6 : (cs.drop 6).take (Tryz.prog.cellsOf 3) = [.int .i64 x6] := e6
  replace e7 : (cs.drop 7).take (Tryz.prog.cellsOf 70) = [.string s7, .int .i64 x7] := e7
  replace e8 : (cs.drop 9).take (Tryz.prog.cellsOf 71) = [.slice a8 n8 c8] := e8
  replace e9 : (cs.drop 10).take (Tryz.prog.cellsOf 71) = [.slice a9 n9 c9] := e9
  replace e10 : (cs.drop 11).take (Tryz.prog.cellsOf 71) = [.slice a10 n10 c10] := e10
  rw [ki] at e0 e6
  rw [kb] at e1 e2 e3 e4 e5
  rw [kq] at e7
  rw [kr] at e8 e9 e10
  exact ⟨⟨x0, x1, x2, x3, x4, x5, x6, s7, x7⟩, a8, n8, c8, l8, a9, n9, c9, l9, a10, n10, c10, l10, twelve_of h12 e0 e1 e2 e3 e4 e5 e6 e7 e8 e9 e10, z7, z8, z9, z10⟩

set_option maxRecDepth 100000 in
/-- A message that comes in. -/
theorem msg_in {r : Reach} {b0 : Nat} {v : Value} {d : DataW H} {p : List MemPlace} (hv : Value.okWide Tryz.prog w r b0 73 v) (h : DataW.Trod enc Tryz.prog w 0 (fun _ => true) true 73 v d p) :
    ∃ (hd : Hd) (a1 : Option Addr) (n1 c1 : Nat) (l1 : List Rec) (a2 : Option Addr) (n2 c2 : Nat) (l2 : List Rec) (a3 : Option Addr) (n3 c3 : Nat) (l3 : List Rec),
      v = .agg #[.int .i64 hd.id, .bool hd.rp, .bool hd.au, .bool hd.ct, .bool hd.wa, .bool hd.ca, .int .i64 hd.code, .string hd.qn, .int .i64 hd.qt, .slice a1 n1 c1, .slice a2 n2 c2, .slice a3 n3 c3] ∧ hd.qn.size ≤ 9223372036854775807 ∧ IsRecs w a1 n1 l1 ∧ IsRecs w a2 n2 l2 ∧ IsRecs w a3 n3 l3 := by
  obtain ⟨cs, rfl, _⟩ := okWide_struct Tryz.underlying73 hv
  obtain ⟨fuel, hf⟩ := h
  obtain ⟨hd, a1, n1, c1, l1, a2, n2, c2, l2, a3, n3, c3, l3, hr, hz⟩ := msg_of hf
  refine ⟨hd, a1, n1, c1, l1, a2, n2, c2, l2, a3, n3, c3, l3, ?_, hz⟩
  have e : cs.toList = mc hd (.slice a1 n1 c1) (.slice a2 n2 c2) (.slice a3 n3 c3) := hr
  rw [show cs = (mc hd (.slice a1 n1 c1) (.slice a2 n2 c2) (.slice a3 n3 c3)).toArray from by rw [← e]]
  rfl

end
end Go.Proofs.YtmkcjjgicinggaaGreatDoor.RowM
