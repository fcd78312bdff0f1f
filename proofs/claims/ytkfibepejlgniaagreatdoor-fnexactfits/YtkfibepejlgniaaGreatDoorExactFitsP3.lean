/- Fits answers as its model at every message. -/
import Derived.Test.YtkfibepejlgniaaGreatDoorMemR
import Derived.Deep.Slices
import Derived.Deep.Fields
import Derived.ChangeSame
import Derived.ProofKit
import Derived.OpenShut
import Derived.Test.YtkfibepejlgniaaGreatDoorMemM
import Derived.Test.YtkfibepejlgniaaGreatDoorExactFitsP2
import Derived.Test.YtkfibepejlgniaaGreatDoorSzM
import Derived.Deep.RegionHeld3
import Derived.Test.YtkfibepejlgniaaGreatDoorLabels
import Derived.LaidLaws
import Derived.Test.YtkfibepejlgniaaGreatDoorCards
import Derived.Test.YtkfibepejlgniaaGreatDoorTie
import Derived.ShutString
import Derived.ChangeOld
import Derived.Below
import Derived.Deep.DeepHandedRow
/- What a record that comes in, and a slice of records that comes in, read as. -/
namespace Go.Proofs.YtkfibepejlgniaaGreatDoor.RowR
open Go.Proofs.YtkfibepejlgniaaGreatDoor.Mem Go.Proofs.YtkfibepejlgniaaGreatDoor.MemR
open Go.ChangeShapes Go.WideShapes Go.ChangeAt Go.RowKit Go.Deep

/-- The texts of a record are no longer than any text. -/
def Small (r : Rec) : Prop := r.name.size ≤ 9223372036854775807 ∧ r.host.size ≤ 9223372036854775807 ∧ r.text.size ≤ 9223372036854775807
/-- The argument reads as records. -/
def IsRecs (w : World) (a : Option Addr) (len : Nat) (l : List Rec) : Prop :=
  Sr w w.heap.size a len l ∧ len ≤ 9223372036854775807 ∧ ∀ r ∈ l, Small r

section
variable {H : Type} {enc : TypeId × Value → H} {w : World} {base : Nat} {spare : Nat → Bool} {held : Bool}
theorem six_of {cs : List Value} {s0 s4 s5 : ByteArray} {x1 x2 x3 : Int} (h : cs.length = 6) (e0 : (cs.drop 0).take 1 = [.string s0]) (e1 : (cs.drop 1).take 1 = [.int .i64 x1]) (e2 : (cs.drop 2).take 1 = [.int .i64 x2])
    (e3 : (cs.drop 3).take 1 = [.int .i64 x3]) (e4 : (cs.drop 4).take 1 = [.string s4]) (e5 : (cs.drop 5).take 1 = [.string s5]) : cs = rc ⟨s0, x1, x2, x3, s4, s5⟩ := by
  match cs, h with
  | [c0, c1, c2, c3, c4, c5], _ =>
    simp only [List.drop_zero, List.drop_succ_cons, List.take_succ_cons, List.take_zero, List.cons.injEq, and_true] at e0 e1 e2 e3 e4 e5
    subst e0 e1 e2 e3 e4 e5
    rfl
theorem rec_of {fuel : Nat} {cs : List Value} {x : DataW H × List MemPlace} (h : DataW.trod enc Tryz.prog w base spare held fuel 151 cs = some x) : ∃ r : Rec, cs = rc r ∧ Small r := by
  obtain ⟨xs, n, _, _, hc, hl, hg⟩ := DataW.trod_struct Tryz.underlying151 h
  have h6 : cs.length = 6 := hc.trans (by kernel_rfl)
  have hx : xs.length = 6 := hl
  have ks : Tryz.prog.cellsOf 9 = 1 := by kernel_rfl
  have ki : Tryz.prog.cellsOf 3 = 1 := by kernel_rfl
  have g : ∀ i, i < 6 → xs[i]? = some (xs[i]!) := fun i hi => by rw [getElem!_pos xs i (by omega)]; exact List.getElem?_eq_getElem (by omega)
  have f0 := (hg 0 _ rfl).trans (g 0 (by omega))
  have f1 := (hg 1 _ rfl).trans (g 1 (by omega))
  have f2 := (hg 2 _ rfl).trans (g 2 (by omega))
  have f3 := (hg 3 _ rfl).trans (g 3 (by omega))
  have f4 := (hg 4 _ rfl).trans (g 4 (by omega))
  have f5 := (hg 5 _ rfl).trans (g 5 (by omega))
  obtain ⟨s0, e0, _, z0⟩ := DataW.trod_string Tryz.underlying9 f0
  obtain ⟨x1, e1, _⟩ := DataW.trod_int Tryz.underlying3 f1
  obtain ⟨x2, e2, _⟩ := DataW.trod_int Tryz.underlying3 f2
  obtain ⟨x3, e3, _⟩ := DataW.trod_int Tryz.underlying3 f3
  obtain ⟨s4, e4, _, z4⟩ := DataW.trod_string Tryz.underlying9 f4
  obtain ⟨s5, e5, _, z5⟩ := DataW.trod_string Tryz.underlying9 f5
  replace e0 : (cs.drop 0).take (Tryz.prog.cellsOf 9) = [.string s0] := e0
  replace e1 : (cs.drop 1).take (Tryz.prog.cellsOf 3) = [.int .i64 x1] := e1
  replace e2 : (cs.drop 2).take (Tryz.prog.cellsOf 3) = [.int .i64 x2] := e2
  replace e3 : (cs.drop 3).take (Tryz.prog.cellsOf 3) = [.int .i64 x3] := e3
  replace e4 : (cs.drop 4).take (Tryz.prog.cellsOf 9) = [.string s4] := e4
  replace e5 : (cs.drop 5).take (Tryz.prog.cellsOf 9) = [.string s5] := e5
  rw [ks] at e0 e4 e5
  rw [ki] at e1 e2 e3
  unfold maxLen at z0 z4 z5
  exact ⟨⟨s0, x1, x2, x3, s4, s5⟩, six_of h6 e0 e1 e2 e3 e4 e5, z0, z4, z5⟩
set_option maxRecDepth 100000 in
/-- A record that comes in. -/
theorem rec_in {r : Reach} {b0 : Nat} {v : Value} {d : DataW H} {p : List MemPlace} (hv : Value.okWide Tryz.prog w r b0 151 v) (h : DataW.Trod enc Tryz.prog w base spare held 151 v d p) :
    ∃ r : Rec, v = .agg #[.string r.name, .int .i64 r.ty, .int .i64 r.ttl, .int .i64 r.n, .string r.host, .string r.text] ∧ Small r := by
  obtain ⟨cs, rfl, _⟩ := okWide_struct Tryz.underlying151 hv
  obtain ⟨fuel, hf⟩ := h
  obtain ⟨r, hr, hz⟩ := rec_of hf
  refine ⟨r, ?_, hz⟩
  have e : cs.toList = rc r := hr
  rw [show cs = (rc r).toArray from by rw [← e]]
  rfl
end

section
variable {H : Type} {enc : TypeId × Value → H} {w : World}

set_option maxRecDepth 100000 in
/-- A slice of records that comes in. -/
theorem recs_in {a : Option Addr} {len cap : Nat} {d : DataW H} {p : List MemPlace} (h : DataW.Trod enc Tryz.prog w 0 (fun _ => true) true 54 (.slice a len cap) d p) : ∃ l, IsRecs w a len l := by
  obtain ⟨fuel, hf⟩ := h
  rcases open_slice Tryz.underlying54 hf with ⟨hcs, _⟩ | ⟨x, len', cap', m, n, D, Pl, hcs, _, hl, hm, hmm, _, hx⟩
  · simp [Value.cells] at hcs
    obtain ⟨rfl, rfl, rfl⟩ := hcs
    exact ⟨[], Sr.nil, by omega, fun r h => by simp at h⟩
  · simp [Value.cells] at hcs
    obtain ⟨rfl, rfl, rfl⟩ := hcs
    unfold maxLen at hm
    simp only [if_true] at hmm
    subst hmm
    have hC : Tryz.prog.cellsOf 151 = 6 := by kernel_rfl
    rw [hC] at hx
    obtain ⟨b, off, spot⟩ := x
    rcases Nat.eq_zero_or_pos len with h0 | h0
    · subst h0
      exact ⟨[], Sr.nil, by omega, fun r h => by simp at h⟩
    have hs : spot = none := by
      obtain ⟨cs', hc, _⟩ := hx 0 (by omega)
      obtain ⟨_, hl6, hat⟩ := World.cells?_some hc
      have c0 := hat 0 (by omega)
      rw [List.getElem?_eq_getElem (by omega)] at c0
      simpa [Addr.add] using World.cell?_spot c0
    subst hs
    have key : ∀ i : Nat, ∃ r : Rec, i < len → (b < w.heap.size ∧ Ce w b (off + i * 6) r ∧ Small r) := fun i => by
      by_cases hi : i < len
      · obtain ⟨cs', hc, ht⟩ := hx i (by omega)
        obtain ⟨r, rfl, hz⟩ := rec_of ht
        obtain ⟨_, _, hat⟩ := World.cells?_some hc
        refine ⟨r, fun _ => ?_⟩
        have hc : ∀ c, c < 6 → w.cell? ⟨b, off + i * 6 + c, none⟩ = (rc r)[c]? := fun c hc => by
          rw [← hat c hc, Addr.add_lit, Addr.add_lit]
        have c0 : w.cell? ⟨b, off + i * 6 + 0, none⟩ = some (.string r.name) := hc 0 (by omega)
        exact ⟨World.block_lt_of_cell? _ _ c0, ⟨c0, hc 1 (by omega), hc 2 (by omega), hc 3 (by omega), hc 4 (by omega), hc 5 (by omega)⟩, hz⟩
      · exact ⟨zr, fun h => absurd h hi⟩
    obtain ⟨f, hf⟩ := Classical.axiomOfChoice key
    refine ⟨(List.range len).map f, ⟨by simp, fun hn => ?_⟩, by omega, fun r hr => ?_⟩
    · refine ⟨b, off, rfl, (hf 0 hn).1, fun j hj => ?_⟩
      have hj' : j < len := by simpa using hj
      have := (hf j hj').2.1
      simpa using this
    · obtain ⟨i, hi, rfl⟩ := List.mem_map.1 hr
      exact (hf i (List.mem_range.1 hi)).2.2

end
end Go.Proofs.YtkfibepejlgniaaGreatDoor.RowR

/- What a question and a message that come in read as. -/
namespace Go.Proofs.YtkfibepejlgniaaGreatDoor.RowM
open Go.Proofs.YtkfibepejlgniaaGreatDoor.Mem Go.Proofs.YtkfibepejlgniaaGreatDoor.MemR Go.Proofs.YtkfibepejlgniaaGreatDoor.MemM Go.Proofs.YtkfibepejlgniaaGreatDoor.RowR
open Go.ChangeShapes Go.WideShapes Go.ChangeAt Go.RowKit Go.Deep

section
variable {H : Type} {enc : TypeId × Value → H} {w : World} {base : Nat} {spare : Nat → Bool} {held : Bool}
theorem two_of {cs : List Value} {s0 : ByteArray} {x1 : Int} (h : cs.length = 2) (e0 : (cs.drop 0).take 1 = [.string s0]) (e1 : (cs.drop 1).take 1 = [.int .i64 x1]) : cs = [.string s0, .int .i64 x1] := by
  match cs, h with
  | [c0, c1], _ =>
    simp only [List.drop_zero, List.drop_succ_cons, List.take_succ_cons, List.take_zero, List.cons.injEq, and_true] at e0 e1
    subst e0 e1
    rfl

theorem quest_of {fuel : Nat} {cs : List Value} {x : DataW H × List MemPlace} (h : DataW.trod enc Tryz.prog w base spare held fuel 53 cs = some x) : ∃ (s : ByteArray) (n : Int), cs = [.string s, .int .i64 n] ∧ s.size ≤ 9223372036854775807 := by
  obtain ⟨xs, n, _, _, hc, hl, hg⟩ := DataW.trod_struct Tryz.underlying53 h
  have h2 : cs.length = 2 := hc.trans (by kernel_rfl)
  have hx : xs.length = 2 := hl
  have ks : Tryz.prog.cellsOf 9 = 1 := by kernel_rfl
  have ki : Tryz.prog.cellsOf 3 = 1 := by kernel_rfl
  have g : ∀ i, i < 2 → xs[i]? = some (xs[i]!) := fun i hi => by rw [getElem!_pos xs i (by omega)]; exact List.getElem?_eq_getElem (by omega)
  have f0 := (hg 0 _ rfl).trans (g 0 (by omega))
  have f1 := (hg 1 _ rfl).trans (g 1 (by omega))
  obtain ⟨s0, e0, _, z0⟩ := DataW.trod_string Tryz.underlying9 f0
  obtain ⟨x1, e1, _⟩ := DataW.trod_int Tryz.underlying3 f1
  replace e0 : (cs.drop 0).take (Tryz.prog.cellsOf 9) = [.string s0] := e0
  replace e1 : (cs.drop 1).take (Tryz.prog.cellsOf 3) = [.int .i64 x1] := e1
  rw [ks] at e0
  rw [ki] at e1
  unfold maxLen at z0
  exact ⟨s0, x1, two_of h2 e0 e1, z0⟩

set_option maxRecDepth 100000 in
/-- A question that comes in. -/
theorem quest_in {r : Reach} {b0 : Nat} {v : Value} {d : DataW H} {p : List MemPlace} (hv : Value.okWide Tryz.prog w r b0 53 v) (h : DataW.Trod enc Tryz.prog w base spare held 53 v d p) :
    ∃ (s : ByteArray) (n : Int), v = .agg #[.string s, .int .i64 n] ∧ s.size ≤ 9223372036854775807 := by
  obtain ⟨cs, rfl, _⟩ := okWide_struct Tryz.underlying53 hv
  obtain ⟨fuel, hf⟩ := h
  obtain ⟨s, n, hr, hz⟩ := quest_of hf
  refine ⟨s, n, ?_, hz⟩
  have e : cs.toList = [.string s, .int .i64 n] := hr
  rw [show cs = ([.string s, .int .i64 n] : List Value).toArray from by rw [← e]]

theorem twelve_of {cs : List Value} {x0 x6 x8 : Int} {b1 b2 b3 b4 b5 : Bool} {s7 : ByteArray} {v1 v2 v3 : Value} (h : cs.length = 12)
    (e0 : (cs.drop 0).take 1 = [.int .i64 x0]) (e1 : (cs.drop 1).take 1 = [.bool b1]) (e2 : (cs.drop 2).take 1 = [.bool b2]) (e3 : (cs.drop 3).take 1 = [.bool b3]) (e4 : (cs.drop 4).take 1 = [.bool b4]) (e5 : (cs.drop 5).take 1 = [.bool b5]) (e6 : (cs.drop 6).take 1 = [.int .i64 x6]) (e7 : (cs.drop 7).take 2 = [.string s7, .int .i64 x8])
    (e9 : (cs.drop 9).take 1 = [v1]) (e10 : (cs.drop 10).take 1 = [v2]) (e11 : (cs.drop 11).take 1 = [v3]) : cs = mc ⟨x0, b1, b2, b3, b4, b5, x6, s7, x8⟩ v1 v2 v3 := by
  match cs, h with
  | [c0, c1, c2, c3, c4, c5, c6, c7, c8, c9, c10, c11], _ =>
    simp only [List.drop_zero, List.drop_succ_cons, List.take_succ_cons, List.take_zero, List.cons.injEq, and_true] at e0 e1 e2 e3 e4 e5 e6 e7 e9 e10 e11
    obtain ⟨e7, e8⟩ := e7
    subst e0 e1 e2 e3 e4 e5 e6 e7 e8 e9 e10 e11
    rfl

theorem slice_cells {fuel : Nat} {cs : List Value} {x : DataW H × List MemPlace} (h : DataW.trod enc Tryz.prog w base spare held fuel 54 cs = some x) : ∃ a len cap, cs = [.slice a len cap] := by
  rcases open_slice Tryz.underlying54 h with ⟨hcs, _⟩ | ⟨x, len', cap', m, n, D, Pl, hcs, _⟩
  · exact ⟨_, _, _, hcs⟩
  · exact ⟨_, _, _, hcs⟩
end

section
variable {H : Type} {enc : TypeId × Value → H} {w : World}

theorem recs_of {fuel : Nat} {cs : List Value} {x : DataW H × List MemPlace} (h : DataW.trod enc Tryz.prog w 0 (fun _ => true) true fuel 54 cs = some x) : ∃ a len cap l, cs = [.slice a len cap] ∧ IsRecs w a len l := by
  obtain ⟨a, len, cap, rfl⟩ := slice_cells h
  obtain ⟨d, p⟩ := x
  obtain ⟨l, hl⟩ := recs_in (a := a) (len := len) (cap := cap) (d := d) (p := p) ⟨fuel, h⟩
  exact ⟨a, len, cap, l, rfl, hl⟩

set_option maxRecDepth 100000 in
set_option maxHeartbeats 1000000 in
theorem msg_of {fuel : Nat} {cs : List Value} {x : DataW H × List MemPlace} (h : DataW.trod enc Tryz.prog w 0 (fun _ => true) true fuel 56 cs = some x) :
    ∃ (hd : Hd) (a1 : Option Addr) (n1 c1 : Nat) (l1 : List Rec) (a2 : Option Addr) (n2 c2 : Nat) (l2 : List Rec) (a3 : Option Addr) (n3 c3 : Nat) (l3 : List Rec),
      cs = mc hd (.slice a1 n1 c1) (.slice a2 n2 c2) (.slice a3 n3 c3) ∧ hd.qn.size ≤ 9223372036854775807 ∧ IsRecs w a1 n1 l1 ∧ IsRecs w a2 n2 l2 ∧ IsRecs w a3 n3 l3 := by
  obtain ⟨xs, n, _, _, hc, hl, hg⟩ := DataW.trod_struct Tryz.underlying56 h
  have h12 : cs.length = 12 := hc.trans (by kernel_rfl)
  have hx : xs.length = 11 := hl
  have kb : Tryz.prog.cellsOf 4 = 1 := by kernel_rfl
  have ki : Tryz.prog.cellsOf 3 = 1 := by kernel_rfl
  have kq : Tryz.prog.cellsOf 53 = 2 := by kernel_rfl
  have kr : Tryz.prog.cellsOf 54 = 1 := by kernel_rfl
  have g : ∀ i, i < 11 → xs[i]? = some (xs[i]!) := fun i hi => by rw [getElem!_pos xs i (by omega)]; exact List.getElem?_eq_getElem (by omega)
  have f0 := (hg 0 _ rfl).trans (g 0 (by omega))
  have f1 := (hg 1 _ rfl).trans (g 1 (by omega))
  have f2 := (hg 2 _ rfl).trans (g 2 (by omega))
  have f3 := (hg 3 _ rfl).trans (g 3 (by omega))
  have f4 := (hg 4 _ rfl).trans (g 4 (by omega))
  have f5 := (hg 5 _ rfl).trans (g 5 (by omega))
  have f6 := (hg 6 _ rfl).trans (g 6 (by omega))
  have f7 := (hg 7 _ rfl).trans (g 7 (by omega))
  have f8 := (hg 8 _ rfl).trans (g 8 (by omega))
  have f9 := (hg 9 _ rfl).trans (g 9 (by omega))
  have f10 := (hg 10 _ rfl).trans (g 10 (by omega))
  obtain ⟨x0, e0, _⟩ := DataW.trod_int Tryz.underlying3 f0
  obtain ⟨x1, e1, _⟩ := DataW.trod_bool Tryz.underlying4 f1
  obtain ⟨x2, e2, _⟩ := DataW.trod_bool Tryz.underlying4 f2
  obtain ⟨x3, e3, _⟩ := DataW.trod_bool Tryz.underlying4 f3
  obtain ⟨x4, e4, _⟩ := DataW.trod_bool Tryz.underlying4 f4
  obtain ⟨x5, e5, _⟩ := DataW.trod_bool Tryz.underlying4 f5
  obtain ⟨x6, e6, _⟩ := DataW.trod_int Tryz.underlying3 f6
  obtain ⟨s7, x7, e7, z7⟩ := quest_of f7
  obtain ⟨a8, n8, c8, l8, e8, z8⟩ := recs_of f8
  obtain ⟨a9, n9, c9, l9, e9, z9⟩ := recs_of f9
  obtain ⟨a10, n10, c10, l10, e10, z10⟩ := recs_of f10
  replace e0 : (cs.drop 0).take (Tryz.prog.cellsOf 3) = [.int .i64 x0] := e0
  replace e1 : (cs.drop 1).take (Tryz.prog.cellsOf 4) = [.bool x1] := e1
  replace e2 : (cs.drop 2).take (Tryz.prog.cellsOf 4) = [.bool x2] := e2
  replace e3 : (cs.drop 3).take (Tryz.prog.cellsOf 4) = [.bool x3] := e3
  replace e4 : (cs.drop 4).take (Tryz.prog.cellsOf 4) = [.bool x4] := e4
  replace e5 : (cs.drop 5).take (Tryz.prog.cellsOf 4) = [.bool x5] := e5
  replace e6 : (cs.drop 6).take (Tryz.prog.cellsOf 3) = [.int .i64 x6] := e6
  replace e7 : (cs.drop 7).take (Tryz.prog.cellsOf 53) = [.string s7, .int .i64 x7] := e7
  replace e8 : (cs.drop 9).take (Tryz.prog.cellsOf 54) = [.slice a8 n8 c8] := e8
  replace e9 : (cs.drop 10).take (Tryz.prog.cellsOf 54) = [.slice a9 n9 c9] := e9
  replace e10 : (cs.drop 11).take (Tryz.prog.cellsOf 54) = [.slice a10 n10 c10] := e10
  rw [ki] at e0 e6
  rw [kb] at e1 e2 e3 e4 e5
  rw [kq] at e7
  rw [kr] at e8 e9 e10
  exact ⟨⟨x0, x1, x2, x3, x4, x5, x6, s7, x7⟩, a8, n8, c8, l8, a9, n9, c9, l9, a10, n10, c10, l10, twelve_of h12 e0 e1 e2 e3 e4 e5 e6 e7 e8 e9 e10, z7, z8, z9, z10⟩

set_option maxRecDepth 100000 in
/-- A message that comes in. -/
theorem msg_in {r : Reach} {b0 : Nat} {v : Value} {d : DataW H} {p : List MemPlace} (hv : Value.okWide Tryz.prog w r b0 56 v) (h : DataW.Trod enc Tryz.prog w 0 (fun _ => true) true 56 v d p) :
    ∃ (hd : Hd) (a1 : Option Addr) (n1 c1 : Nat) (l1 : List Rec) (a2 : Option Addr) (n2 c2 : Nat) (l2 : List Rec) (a3 : Option Addr) (n3 c3 : Nat) (l3 : List Rec),
      v = .agg #[.int .i64 hd.id, .bool hd.rp, .bool hd.au, .bool hd.ct, .bool hd.wa, .bool hd.ca, .int .i64 hd.code, .string hd.qn, .int .i64 hd.qt, .slice a1 n1 c1, .slice a2 n2 c2, .slice a3 n3 c3] ∧ hd.qn.size ≤ 9223372036854775807 ∧ IsRecs w a1 n1 l1 ∧ IsRecs w a2 n2 l2 ∧ IsRecs w a3 n3 l3 := by
  obtain ⟨cs, rfl, _⟩ := okWide_struct Tryz.underlying56 hv
  obtain ⟨fuel, hf⟩ := h
  obtain ⟨hd, a1, n1, c1, l1, a2, n2, c2, l2, a3, n3, c3, l3, hr, hz⟩ := msg_of hf
  refine ⟨hd, a1, n1, c1, l1, a2, n2, c2, l2, a3, n3, c3, l3, ?_, hz⟩
  have e : cs.toList = mc hd (.slice a1 n1 c1) (.slice a2 n2 c2) (.slice a3 n3 c3) := hr
  rw [show cs = (mc hd (.slice a1 n1 c1) (.slice a2 n2 c2) (.slice a3 n3 c3)).toArray from by rw [← e]]
  rfl

end
end Go.Proofs.YtkfibepejlgniaaGreatDoor.RowM

/- The law FnExactFits returns true at every message, where the library's variable internal/bytealg.MaxLen holds an int, and turns nothing that was there: Fits answers as its model. -/
namespace Go.Proofs.YtkfibepejlgniaaGreatDoor.LawFits
open Go.RowKit Go.Proofs.YtkfibepejlgniaaGreatDoor.Mem Go.Proofs.YtkfibepejlgniaaGreatDoor.MemR Go.Proofs.YtkfibepejlgniaaGreatDoor.BoxR Go.Proofs.YtkfibepejlgniaaGreatDoor.Labels Go.Proofs.YtkfibepejlgniaaGreatDoor.RecOk Go.Proofs.YtkfibepejlgniaaGreatDoor.MemM Go.Proofs.YtkfibepejlgniaaGreatDoor.ResM Go.Proofs.YtkfibepejlgniaaGreatDoor.RowR Go.Proofs.YtkfibepejlgniaaGreatDoor.SzM Go.Proofs.YtkfibepejlgniaaGreatDoor.ToM Go.Proofs.YtkfibepejlgniaaGreatDoor.EqM Go.Proofs.YtkfibepejlgniaaGreatDoor.HeadDef Go.Proofs.YtkfibepejlgniaaGreatDoor.HeadMath Go.Proofs.YtkfibepejlgniaaGreatDoor.PutM

set_option maxRecDepth 100000 in
set_option maxHeartbeats 8000000 in
theorem walk (h : Hd) (A1 : Option Addr) (n1 c1 : Nat) (l1 : List Rec) (A2 : Option Addr) (n2 c2 : Nat) (l2 : List Rec) (A3 : Option Addr) (n3 c3 : Nat) (l3 : List Rec) (w : World) (he : Env w) (hq : h.qn.size ≤ 9223372036854775807) (i1 : IsRecs w A1 n1 l1) (i2 : IsRecs w A2 n2 l2) (i3 : IsRecs w A3 n3 l3) :
    Calls Tryz.prog 9 #[.agg #[.int .i64 h.id, .bool h.rp, .bool h.au, .bool h.ct, .bool h.wa, .bool h.ca, .int .i64 h.code, .string h.qn, .int .i64 h.qt, .slice A1 n1 c1, .slice A2 n2 c2, .slice A3 n3 c3]] w fun e w' => e = .returned (.bool true) ∧ Below w.heap.size w w' := by
  have HE := Lib.hid he
  have L0 := Lib.hid ((Below.refl w.heap.size w).alloc (Nat.le_refl _) (.cells #[.int .i64 h.id, .bool h.rp, .bool h.au, .bool h.ct, .bool h.wa, .bool h.ca, .int .i64 h.code, .string h.qn, .int .i64 h.qt, .slice A1 n1 c1, .slice A2 n2 c2, .slice A3 n3 c3] 56))
  have X0 := Lib.hid (mx_new w 56 h (.slice A1 n1 c1) (.slice A2 n2 c2) (.slice A3 n3 c3))
  have S1 := Lib.hid i1.1
  have m1 := i1.2.1
  have Z1 : Hid (Sms l1) := i1.2.2
  have B1 := Lib.hid i1.1.1
  have S2 := Lib.hid i2.1
  have m2 := i2.2.1
  have Z2 : Hid (Sms l2) := i2.2.2
  have B2 := Lib.hid i2.1.1
  have S3 := Lib.hid i3.1
  have m3 := i3.2.1
  have Z3 : Hid (Sms l3) := i3.2.2
  have B3 := Lib.hid i3.1.1
  clear i1 i2 i3 he
  go_enter Tryz.func9, Tryz.ntmps9
  go_wp2_with fail
  refine (szMsg_any h A1 n1 c1 l1 A2 n2 c2 l2 A3 n3 c3 l3 1048576 _ (by omega) (by omega) hq (S1.out.on L0.out) m1 Z1.out (S2.out.on L0.out) m2 Z2.out (S3.out.on L0.out) m3 Z3.out).mono ?_
  rintro e w1 ⟨y, rfl, hy0, hy1, hy, hl⟩
  have Y := Lib.hid hy
  have L1 := Lib.hid (L0.out.trans (hl.mono L0.out.size))
  have X1 := Lib.hid (X0.out.below hl)
  clear hl L0 X0
  clear hy 
  by_cases negy : y < 0
  · go_wp2
    go_ret
    exact ⟨rfl, L1.out⟩
  have bz : mz h l1 l2 l3 ≤ 1048576 := by have := Y.out (by omega); omega
  obtain ⟨g1, g2, g3, qz⟩ := meds_of bz
  have D1 := Lib.hid g1
  have D2 := Lib.hid g2
  have D3 := Lib.hid g3
  have b1 : n1 ≤ 1048576 := by have := B1.out; unfold mz at bz; omega
  have b2 : n2 ≤ 1048576 := by have := B2.out; unfold mz at bz; omega
  have b3 : n3 ≤ 1048576 := by have := B3.out; unfold mz at bz; omega
  clear g1 g2 g3 Y bz
  obtain ⟨q, hqq⟩ : ∃ q, fit h l1 l2 l3 = q := ⟨_, rfl⟩
  have HQ := Lib.hid hqq
  clear hqq
  obtain ⟨x0_0, x0_1, x0_2, x0_3, x0_4, x0_5, x0_6, x0_7, x0_8, x0_9, x0_10, x0_11⟩ := X1.out
  go_wp2_with fail
  refine (toMsg_any h A1 n1 c1 l1 A2 n2 c2 l2 A3 n3 c3 l3 _ (S1.out.on L1.out) (by omega) (S2.out.on L1.out) (by omega) (S3.out.on L1.out) (by omega)).mono ?_
  rintro e w2 ⟨t1, f1, rt1, t2, f2, rt2, t3, f3, rt3, rfl, hb1, hb2, hb3, -, -, -, hl⟩
  have T1_2 := Lib.hid hb1
  have T2_2 := Lib.hid hb2
  have T3_2 := Lib.hid hb3
  have L2 := Lib.hid (L1.out.trans (hl.mono L1.out.size))
  have X2 := Lib.hid (X1.out.below hl)
  clear hl L1 X1
  clear hb1 hb2 hb3 x0_0 x0_1 x0_2 x0_3 x0_4 x0_5 x0_6 x0_7 x0_8 x0_9 x0_10 x0_11
  go_wp2_with fail
  refine (PutM.fitsS h _ n1 f1 l1 _ n2 f2 l2 _ n3 f3 l3 _ qz (bk_sr T1_2.out B1.out) b1 D1.out (bk_sr T2_2.out B2.out) b2 D2.out (bk_sr T3_2.out B3.out) b3 D3.out).mono ?_
  rintro e w3 ⟨rfl, hl⟩
  rw [HQ.out]
  have L3 := Lib.hid (L2.out.trans (hl.mono L2.out.size))
  have X3 := Lib.hid (X2.out.below hl)
  clear hl L2 X2 T1_2 T2_2 T3_2
  obtain ⟨x0_0, x0_1, x0_2, x0_3, x0_4, x0_5, x0_6, x0_7, x0_8, x0_9, x0_10, x0_11⟩ := X3.out
  go_wp2_with fail
  refine (toMsg_any h A1 n1 c1 l1 A2 n2 c2 l2 A3 n3 c3 l3 _ (S1.out.on L3.out) (by omega) (S2.out.on L3.out) (by omega) (S3.out.on L3.out) (by omega)).mono ?_
  rintro e w4 ⟨p1, e1, rp1, p2, e2, rp2, p3, e3, rp3, rfl, hb1, hb2, hb3, -, -, -, hl⟩
  have P1_4 := Lib.hid hb1
  have P2_4 := Lib.hid hb2
  have P3_4 := Lib.hid hb3
  have L4 := Lib.hid (L3.out.trans (hl.mono L3.out.size))
  have X4 := Lib.hid (X3.out.below hl)
  clear hl L3 X3
  clear hb1 hb2 hb3 x0_0 x0_1 x0_2 x0_3 x0_4 x0_5 x0_6 x0_7 x0_8 x0_9 x0_10 x0_11
  have al : Below w4.heap.size w4 (w4.alloc (.cells #[.int .i64 h.id, .bool h.rp, .bool h.au, .bool h.ct, .bool h.wa, .bool h.ca, .int .i64 h.code, .string h.qn, .int .i64 h.qt, .slice (some ⟨p1, 0, none⟩) n1 e1, .slice (some ⟨p2, 0, none⟩) n2 e2, .slice (some ⟨p3, 0, none⟩) n3 e3] 28)) := (Below.refl _ _).alloc (Nat.le_refl _) _
  have Q5 := Lib.hid (mx_new w4 28 h (.slice (some ⟨p1, 0, none⟩) n1 e1) (.slice (some ⟨p2, 0, none⟩) n2 e2) (.slice (some ⟨p3, 0, none⟩) n3 e3))
  have L5 := Lib.hid (L4.out.trans (al.mono L4.out.size))
  have X5 := Lib.hid (X4.out.below al)
  have P1_5 := Lib.hid (P1_4.out.below al P1_4.out.lt)
  have P2_5 := Lib.hid (P2_4.out.below al P2_4.out.lt)
  have P3_5 := Lib.hid (P3_4.out.below al P3_4.out.lt)
  clear al L4 X4 P1_4 P2_4 P3_4
  go_wp2_with fail
  refine (PutM.fitsI h _ n1 e1 l1 _ n2 e2 l2 _ n3 e3 l3 _ (HE.out.below L5.out) qz (bk_sr P1_5.out B1.out) b1 D1.out (bk_sr P2_5.out B2.out) b2 D2.out (bk_sr P3_5.out B3.out) b3 D3.out).mono ?_
  rintro e w6 ⟨rfl, hl⟩
  rw [HQ.out]
  generalize w4.heap.size = gq at *
  have L6 := Lib.hid (L5.out.trans (hl.mono L5.out.size))
  have X6 := Lib.hid (X5.out.below hl)
  have P1_6 := Lib.hid (P1_5.out.below hl P1_5.out.lt)
  have P2_6 := Lib.hid (P2_5.out.below hl P2_5.out.lt)
  have P3_6 := Lib.hid (P3_5.out.below hl P3_5.out.lt)
  have Q6 := Lib.hid (Q5.out.below hl)
  clear hl L5 X5 P1_5 P2_5 P3_5 Q5
  have TM : Hid (∀ W : World, (((W.cell? ⟨w.heap.size, 0, none⟩ = some (.int .i64 h.id) ∧ W.cell? ⟨w.heap.size, 1, none⟩ = some (.bool h.rp) ∧ W.cell? ⟨w.heap.size, 2, none⟩ = some (.bool h.au) ∧ W.cell? ⟨w.heap.size, 3, none⟩ = some (.bool h.ct) ∧ W.cell? ⟨w.heap.size, 4, none⟩ = some (.bool h.wa) ∧ W.cell? ⟨w.heap.size, 5, none⟩ = some (.bool h.ca) ∧ W.cell? ⟨w.heap.size, 6, none⟩ = some (.int .i64 h.code) ∧ W.cell? ⟨w.heap.size, 7, none⟩ = some (.string h.qn) ∧ W.cell? ⟨w.heap.size, 8, none⟩ = some (.int .i64 h.qt) ∧ W.cell? ⟨w.heap.size, 9, none⟩ = some (.slice A1 n1 c1) ∧ W.cell? ⟨w.heap.size, 10, none⟩ = some (.slice A2 n2 c2) ∧ W.cell? ⟨w.heap.size, 11, none⟩ = some (.slice A3 n3 c3)) ∧ (W.cell? ⟨gq, 0, none⟩ = some (.int .i64 h.id) ∧ W.cell? ⟨gq, 1, none⟩ = some (.bool h.rp) ∧ W.cell? ⟨gq, 2, none⟩ = some (.bool h.au) ∧ W.cell? ⟨gq, 3, none⟩ = some (.bool h.ct) ∧ W.cell? ⟨gq, 4, none⟩ = some (.bool h.wa) ∧ W.cell? ⟨gq, 5, none⟩ = some (.bool h.ca) ∧ W.cell? ⟨gq, 6, none⟩ = some (.int .i64 h.code) ∧ W.cell? ⟨gq, 7, none⟩ = some (.string h.qn) ∧ W.cell? ⟨gq, 8, none⟩ = some (.int .i64 h.qt) ∧ W.cell? ⟨gq, 9, none⟩ = some (.slice (some ⟨p1, 0, none⟩) n1 e1) ∧ W.cell? ⟨gq, 10, none⟩ = some (.slice (some ⟨p2, 0, none⟩) n2 e2) ∧ W.cell? ⟨gq, 11, none⟩ = some (.slice (some ⟨p3, 0, none⟩) n3 e3))) ∧ Sv w6 W) → Calls Tryz.prog 44 #[.agg #[.int .i64 h.id, .bool h.rp, .bool h.au, .bool h.ct, .bool h.wa, .bool h.ca, .int .i64 h.code, .string h.qn, .int .i64 h.qt, .slice A1 n1 c1, .slice A2 n2 c2, .slice A3 n3 c3]] W (GivesM W h n1 n2 n3 l1 l2 l3)) := fun W hW => toMsg_any h A1 n1 c1 l1 A2 n2 c2 l2 A3 n3 c3 l3 W ((S1.out.on L6.out).on hW.2) (by omega) ((S2.out.on L6.out).on hW.2) (by omega) ((S3.out.on L6.out).on hW.2) (by omega)
  have EQ : Hid (∀ (W : World) (t1 f1 : Nat) (q1 : List Value) (t2 f2 : Nat) (q2 : List Value) (t3 f3 : Nat) (q3 : List Value), (((W.cell? ⟨w.heap.size, 0, none⟩ = some (.int .i64 h.id) ∧ W.cell? ⟨w.heap.size, 1, none⟩ = some (.bool h.rp) ∧ W.cell? ⟨w.heap.size, 2, none⟩ = some (.bool h.au) ∧ W.cell? ⟨w.heap.size, 3, none⟩ = some (.bool h.ct) ∧ W.cell? ⟨w.heap.size, 4, none⟩ = some (.bool h.wa) ∧ W.cell? ⟨w.heap.size, 5, none⟩ = some (.bool h.ca) ∧ W.cell? ⟨w.heap.size, 6, none⟩ = some (.int .i64 h.code) ∧ W.cell? ⟨w.heap.size, 7, none⟩ = some (.string h.qn) ∧ W.cell? ⟨w.heap.size, 8, none⟩ = some (.int .i64 h.qt) ∧ W.cell? ⟨w.heap.size, 9, none⟩ = some (.slice A1 n1 c1) ∧ W.cell? ⟨w.heap.size, 10, none⟩ = some (.slice A2 n2 c2) ∧ W.cell? ⟨w.heap.size, 11, none⟩ = some (.slice A3 n3 c3)) ∧ (W.cell? ⟨gq, 0, none⟩ = some (.int .i64 h.id) ∧ W.cell? ⟨gq, 1, none⟩ = some (.bool h.rp) ∧ W.cell? ⟨gq, 2, none⟩ = some (.bool h.au) ∧ W.cell? ⟨gq, 3, none⟩ = some (.bool h.ct) ∧ W.cell? ⟨gq, 4, none⟩ = some (.bool h.wa) ∧ W.cell? ⟨gq, 5, none⟩ = some (.bool h.ca) ∧ W.cell? ⟨gq, 6, none⟩ = some (.int .i64 h.code) ∧ W.cell? ⟨gq, 7, none⟩ = some (.string h.qn) ∧ W.cell? ⟨gq, 8, none⟩ = some (.int .i64 h.qt) ∧ W.cell? ⟨gq, 9, none⟩ = some (.slice (some ⟨p1, 0, none⟩) n1 e1) ∧ W.cell? ⟨gq, 10, none⟩ = some (.slice (some ⟨p2, 0, none⟩) n2 e2) ∧ W.cell? ⟨gq, 11, none⟩ = some (.slice (some ⟨p3, 0, none⟩) n3 e3))) ∧ Sv w6 W) → Bk W t1 117 (fl l1 ++ q1) → Bk W t2 117 (fl l2 ++ q2) → Bk W t3 117 (fl l3 ++ q3) → Calls Tryz.prog 46 #[.agg #[.int .i64 h.id, .bool h.rp, .bool h.au, .bool h.ct, .bool h.wa, .bool h.ca, .int .i64 h.code, .string h.qn, .int .i64 h.qt, .slice (some ⟨p1, 0, none⟩) n1 e1, .slice (some ⟨p2, 0, none⟩) n2 e2, .slice (some ⟨p3, 0, none⟩) n3 e3], .agg #[.int .i64 h.id, .bool h.rp, .bool h.au, .bool h.ct, .bool h.wa, .bool h.ca, .int .i64 h.code, .string h.qn, .int .i64 h.qt, .slice (some ⟨t1, 0, none⟩) n1 f1, .slice (some ⟨t2, 0, none⟩) n2 f2, .slice (some ⟨t3, 0, none⟩) n3 f3]] W fun e w' => e = .returned (.bool true) ∧ Below W.heap.size W w') := fun W t1 f1 q1 t2 f2 q2 t3 f3 q3 hW k1 k2 k3 => eqMsg_same h _ _ n1 e1 f1 l1 _ _ n2 e2 f2 l2 _ _ n3 e3 f3 l3 W (bk_sr (P1_6.out.below hW.2 P1_6.out.lt) B1.out) (bk_sr k1 B1.out) (by omega) (bk_sr (P2_6.out.below hW.2 P2_6.out.lt) B2.out) (bk_sr k2 B2.out) (by omega) (bk_sr (P3_6.out.below hW.2 P3_6.out.lt) B3.out) (bk_sr k3 B3.out) (by omega)
  have S0 : (((w6.cell? ⟨w.heap.size, 0, none⟩ = some (.int .i64 h.id) ∧ w6.cell? ⟨w.heap.size, 1, none⟩ = some (.bool h.rp) ∧ w6.cell? ⟨w.heap.size, 2, none⟩ = some (.bool h.au) ∧ w6.cell? ⟨w.heap.size, 3, none⟩ = some (.bool h.ct) ∧ w6.cell? ⟨w.heap.size, 4, none⟩ = some (.bool h.wa) ∧ w6.cell? ⟨w.heap.size, 5, none⟩ = some (.bool h.ca) ∧ w6.cell? ⟨w.heap.size, 6, none⟩ = some (.int .i64 h.code) ∧ w6.cell? ⟨w.heap.size, 7, none⟩ = some (.string h.qn) ∧ w6.cell? ⟨w.heap.size, 8, none⟩ = some (.int .i64 h.qt) ∧ w6.cell? ⟨w.heap.size, 9, none⟩ = some (.slice A1 n1 c1) ∧ w6.cell? ⟨w.heap.size, 10, none⟩ = some (.slice A2 n2 c2) ∧ w6.cell? ⟨w.heap.size, 11, none⟩ = some (.slice A3 n3 c3)) ∧ (w6.cell? ⟨gq, 0, none⟩ = some (.int .i64 h.id) ∧ w6.cell? ⟨gq, 1, none⟩ = some (.bool h.rp) ∧ w6.cell? ⟨gq, 2, none⟩ = some (.bool h.au) ∧ w6.cell? ⟨gq, 3, none⟩ = some (.bool h.ct) ∧ w6.cell? ⟨gq, 4, none⟩ = some (.bool h.wa) ∧ w6.cell? ⟨gq, 5, none⟩ = some (.bool h.ca) ∧ w6.cell? ⟨gq, 6, none⟩ = some (.int .i64 h.code) ∧ w6.cell? ⟨gq, 7, none⟩ = some (.string h.qn) ∧ w6.cell? ⟨gq, 8, none⟩ = some (.int .i64 h.qt) ∧ w6.cell? ⟨gq, 9, none⟩ = some (.slice (some ⟨p1, 0, none⟩) n1 e1) ∧ w6.cell? ⟨gq, 10, none⟩ = some (.slice (some ⟨p2, 0, none⟩) n2 e2) ∧ w6.cell? ⟨gq, 11, none⟩ = some (.slice (some ⟨p3, 0, none⟩) n3 e3))) ∧ Sv w6 w6) := ⟨⟨X6.out, Q6.out⟩, Below.refl _ _⟩
  have hbb : (q != q) = false := by cases q <;> rfl
  go_wp2
  go_region_held3 (fun w' => (((w'.cell? ⟨w.heap.size, 0, none⟩ = some (.int .i64 h.id) ∧ w'.cell? ⟨w.heap.size, 1, none⟩ = some (.bool h.rp) ∧ w'.cell? ⟨w.heap.size, 2, none⟩ = some (.bool h.au) ∧ w'.cell? ⟨w.heap.size, 3, none⟩ = some (.bool h.ct) ∧ w'.cell? ⟨w.heap.size, 4, none⟩ = some (.bool h.wa) ∧ w'.cell? ⟨w.heap.size, 5, none⟩ = some (.bool h.ca) ∧ w'.cell? ⟨w.heap.size, 6, none⟩ = some (.int .i64 h.code) ∧ w'.cell? ⟨w.heap.size, 7, none⟩ = some (.string h.qn) ∧ w'.cell? ⟨w.heap.size, 8, none⟩ = some (.int .i64 h.qt) ∧ w'.cell? ⟨w.heap.size, 9, none⟩ = some (.slice A1 n1 c1) ∧ w'.cell? ⟨w.heap.size, 10, none⟩ = some (.slice A2 n2 c2) ∧ w'.cell? ⟨w.heap.size, 11, none⟩ = some (.slice A3 n3 c3)) ∧ (w'.cell? ⟨gq, 0, none⟩ = some (.int .i64 h.id) ∧ w'.cell? ⟨gq, 1, none⟩ = some (.bool h.rp) ∧ w'.cell? ⟨gq, 2, none⟩ = some (.bool h.au) ∧ w'.cell? ⟨gq, 3, none⟩ = some (.bool h.ct) ∧ w'.cell? ⟨gq, 4, none⟩ = some (.bool h.wa) ∧ w'.cell? ⟨gq, 5, none⟩ = some (.bool h.ca) ∧ w'.cell? ⟨gq, 6, none⟩ = some (.int .i64 h.code) ∧ w'.cell? ⟨gq, 7, none⟩ = some (.string h.qn) ∧ w'.cell? ⟨gq, 8, none⟩ = some (.int .i64 h.qt) ∧ w'.cell? ⟨gq, 9, none⟩ = some (.slice (some ⟨p1, 0, none⟩) n1 e1) ∧ w'.cell? ⟨gq, 10, none⟩ = some (.slice (some ⟨p2, 0, none⟩) n2 e2) ∧ w'.cell? ⟨gq, 11, none⟩ = some (.slice (some ⟨p3, 0, none⟩) n3 e3))) ∧ Sv w6 w'))
    (first | with_reducible exact S0 | with_reducible assumption | exact kept2 (by assumption) hl | exact kept2_draw (by assumption) | fail)
    (first
      | (go_at_call 44; (with_reducible refine (TM.out _ (by assumption)).mono ?_); rintro e wt6 ⟨tt1, ff1, qq1, tt2, ff2, qq2, tt3, ff3, qq3, rfl, hb1, hb2, hb3, -, -, -, hl⟩)
      | (go_at_call 46; (with_reducible refine (EQ.out _ _ _ _ _ _ _ _ _ _ (by assumption) hb1 hb2 hb3).mono ?_); rintro e w7 ⟨rfl, hl⟩)
      | fail)
  rename_i hH
  have hz : Below w6.heap.size w6 w7 := hH.2
  clear hH hb1 hb2 hb3 hl S0 TM EQ
  have L7 := Lib.hid (L6.out.trans (hz.mono L6.out.size))
  clear hz L6 X6 P1_6 P2_6 P3_6 Q6
  go_wp2
  go_ret
  exact ⟨rfl, L7.out⟩
end Go.Proofs.YtkfibepejlgniaaGreatDoor.LawFits

/- What the world's shape gives the walks of this seat, and one world in which the listed tables of unicode/utf8 read as their text lays them. -/
namespace Go.Proofs.YtkfibepejlgniaaGreatDoor.LaidU
open Go.RowKit Go.Proofs.YtkfibepejlgniaaGreatDoor.Labels

theorem env {W : World} (h : W.ShapedOpen Tryz.prog) : Env W := Tryz.laysM146.s1_3 W h

def acc : List Int := [128, 191, 160, 191, 128, 159, 144, 191, 128, 143, 0, 0, 0, 0, 0, 0, 0, 0, 0, 0, 0, 0, 0, 0, 0, 0, 0, 0, 0, 0, 0, 0]
theorem gFirst : Tryz.prog.globalNamed "unicode/utf8.first" = some 4 := by kernel_rfl
theorem gAcc : Tryz.prog.globalNamed "unicode/utf8.acceptRanges" = some 5 := by kernel_rfl
/-- A block of cells, with other cells in it. -/
def put (cs : Array Value) : Obj → Obj
  | .cells _ t frozen => .cells cs t frozen
  | o => o
/-- The settled world, the two tables holding what their text lays. -/
noncomputable def laidWorld (os : Os) : World :=
  { World.holding Tryz.prog os ⟨#[], #[], []⟩ with heap := ((World.holding Tryz.prog os ⟨#[], #[], []⟩).heap.modify 4 (put (Go.Pinned.utf8FirstZ.map (fun n : Nat => Value.int .u8 (n : Int))).toArray)).modify 5 (put (acc.map (Value.int .u8)).toArray) }
def two : List (String × DataW Unit) := [("unicode/utf8.acceptRanges", Rows.laid_unicode_utf8_acceptRanges), ("unicode/utf8.first", Rows.laid_unicode_utf8_first)]
theorem laid_met (os : Os) (args : Array Value) : laidMet Tryz.prog two ((laidWorld os).forCall (fun _ _ => 0) ⟨#[], args, []⟩).memory :=
  laidMet_of_run' 8 (by kernel_rfl) (by kernel_rfl)
end Go.Proofs.YtkfibepejlgniaaGreatDoor.LaidU

/- Fits answers as its model at every message. -/
namespace Go.Proofs.YtkfibepejlgniaaGreatDoor.exactFitsCard
open Go.ChangeShapes Go.WideShapes Go.ChangeAt Go.RowKit Go.Proofs.YtkfibepejlgniaaGreatDoor.LaidU Go.Proofs.YtkfibepejlgniaaGreatDoor.Mem Go.Proofs.YtkfibepejlgniaaGreatDoor.RowM

theorem own : ownKnob Tryz.prog.godebug = none := by kernel_rfl
theorem laidOut : laidOutB Tryz.prog = true := by kernel_rfl

set_option maxRecDepth 100000 in
theorem contract (H : Type) (enc : TypeId × Value → H) (W : World) (base : Nat) (args : Array Value) (ds gs : List (DataW H)) (before : List MemPlace)
    (hval0 : ∀ (j : Nat) t v, Tryz.f9.params[j]? = some t → args[j]? = some v → Value.okWide Tryz.prog W .any base t v)
    (hW : DataW.Whole enc Tryz.prog Tryz.f9.params.toList Rows.fnExactFitsSpec.vars false W args.toList ds gs before) (hsh : W.ShapedOpen Tryz.prog) :
    Calls Tryz.prog 9 args W fun e W' => ∃ v, e = .returned v ∧ Rows.fnExactFitsSpec.post enc Tryz.prog Tryz.f9 false true false false W args v W' := by
  have hval : ∀ (j : Nat) t v, Tryz.f9.params[j]? = some t → args[j]? = some v → Value.okWide Tryz.prog W .any base t v := hval0
  have hW' := hW
  obtain ⟨p, q, hA0, hV, rfl, _, _⟩ := hW
  have hA : DataW.TrodAll enc Tryz.prog W 0 (fun _ => true) true Tryz.f9.params.toList args.toList ds p := hA0
  rw [Tryz.params9] at hA hval
  obtain ⟨v0, vs0, d0, ds0, p0, q0, _, rfl, rfl, h0, r0⟩ := trodAll_cons hA
  obtain ⟨rfl, rfl, rfl⟩ := trodAll_nil r0
  obtain rfl : args = #[v0] := by cases args; simp_all
  obtain ⟨rfl, rfl⟩ := trodVars_none hV
  have k0 := h0
  have lt0 : ∀ x ∈ p0, x.block < W.heap.size := by obtain ⟨m, hm⟩ := k0; exact DataW.trod_lt m _ _ _ hm
  obtain ⟨x0, a0_1, n0_1, c0_1, l0_1, a0_2, n0_2, c0_2, l0_2, a0_3, n0_3, c0_3, l0_3, rfl, z0, i0_1, i0_2, i0_3⟩ := msg_in (hval 0 56 v0 rfl rfl) h0
  clear hA0 hval0
  refine (LawFits.walk x0 a0_1 n0_1 c0_1 l0_1 a0_2 n0_2 c0_2 l0_2 a0_3 n0_3 c0_3 l0_3 W (env hsh) z0 i0_1 i0_2 i0_3).mono fun e W' ⟨he, bel⟩ => ?_
  subst he
  exact ⟨_, rfl, _, _, _, [], _, [], hW', trodAll_mk1 (shut_bool Tryz.underlying4 _), (trodAll_cons_mk (Below.trod laidOut (by kernel_rfl) (of_decide_eq_true (by kernel_rfl)) k0 bel lt0) trodAll_mk0), rfl, bel.frame _, fun h => by cases h⟩

theorem reads (os : Os) {H : Type} (enc : TypeId × Value → H) : ∃ places, DataW.whole enc Tryz.prog ((laidWorld os).forCall (fun _ _ => 0) ⟨#[], #[.agg #[.int .i64 0, .bool false, .bool false, .bool false, .bool false, .bool false, .int .i64 0, .string ⟨#[]⟩, .int .i64 0, .slice none 0 0, .slice none 0 0, .slice none 0 0]], []⟩).memory Tryz.f9.params.toList Rows.fnExactFitsSpec.vars false #[Value.agg #[.int .i64 0, .bool false, .bool false, .bool false, .bool false, .bool false, .int .i64 0, .string ⟨#[]⟩, .int .i64 0, .slice none 0 0, .slice none 0 0, .slice none 0 0]].toList 8 = some ([.agg [.lit (.int .i64 0), .lit (.bool false), .lit (.bool false), .lit (.bool false), .lit (.bool false), .lit (.bool false), .lit (.int .i64 0), .agg [.lit (.string []), .lit (.int .i64 0)], .nil, .nil, .nil]], [], places) :=
  ⟨[], by kernel_rfl⟩

set_option maxRecDepth 100000 in
theorem lifted (os : Os) (started : os.Started) (H : Type) (enc : TypeId × Value → H) (F : Stop.Interp) :
    ReturnsInHanded {} Tryz.checked os 9 .any ((OpenSpec.ofChange Rows.fnExactFitsSpec).preRow enc Tryz.prog Tryz.f9 Rows.fnExactFitsRow.domain false Rows.fnExactFitsRow.laid) (((OpenSpec.ofChange Rows.fnExactFitsSpec).at F).post enc Tryz.prog Tryz.f9 false true false false) := by
  obtain ⟨places, hx⟩ := reads os enc
  refine returnsInHanded_of_row (C := Tryz.checked) (s := OpenSpec.ofChange Rows.fnExactFitsSpec) own started (by kernel_rfl) Tryz.func9
    (witness_row_at (enc := enc) (C := Tryz.checked) false (laidWorld os) #[.agg #[.int .i64 0, .bool false, .bool false, .bool false, .bool false, .bool false, .int .i64 0, .string ⟨#[]⟩, .int .i64 0, .slice none 0 0, .slice none 0 0, .slice none 0 0]] rfl (by kernel_rfl) (by kernel_rfl) (by kernel_rfl)
      (OpenSpec.preRow_of_cond 8 hx (by kernel_rfl) (fun k hk => by cases hk) (by kernel_rfl) (laid_met os _))) ?_
  intro W base args ds gs before hval hW _ _ _ _ hsh _
  exact contract H enc W base args ds gs before hval hW hsh

theorem said : Rows.FnExactFitsSaid :=
  OpenClaim.holds_of_cond 9 Tryz.f9 rfl rfl rfl rfl rfl rfl rfl ⟨rfl, rfl, rfl, rfl, rfl⟩ rfl rfl rfl rfl rfl (by kernel_rfl) Tryz.func9 (by kernel_rfl)
    (of_decide_eq_true (by kernel_rfl)) (by unfold Func.isWrapper; first | (rw [if_pos (by decide +kernel)]; kernel_rfl) | (rw [if_neg (by decide +kernel)]; exact ⟨rfl, rfl⟩))
    (fun os started H enc _ F => by rw [OpenClaim.pre_eq_preRow]; exact lifted os started H enc F)

theorem plain (f : FuncId) (fn : Func) (hf : Tryz.pinned.checked.prog.funcNamed "loop.example/g00497/laws.FnExactFits" = some f) (hfn : Tryz.pinned.checked.prog.funcs[f]? = some fn) :
    true = Tryz.pinned.checked.prog.looks [] ∧ ∀ (j : Nat) t, fn.params[j]? = some t → Tryz.pinned.checked.prog.wantsStandIn t = false := by
  obtain rfl : f = 9 := Option.some.inj ((show Tryz.prog.funcNamed "loop.example/g00497/laws.FnExactFits" = some 9 by kernel_rfl).symm.trans hf) |>.symm
  obtain rfl : fn = Tryz.f9 := (Option.some.inj (Tryz.func9.symm.trans hfn)).symm
  refine ⟨by kernel_rfl, fun j t ht => ?_⟩
  rw [Tryz.params9] at ht
  obtain rfl : t = 56 := by simpa using Array.mem_of_getElem? ht
  exact (show Tryz.prog.wantsStandIn 56 = false by kernel_rfl)

theorem card : Rows.FnExactFitsCardSaid :=
  Claim7.holds_tied_plain_at .later [] _ _ _ _ said (fun _ h => by cases h) (by kernel_rfl) (fun _ h => by cases h) fnExactFits_row_tie rfl ⟨rfl, rfl⟩ (by kernel_rfl) rfl plain (by kernel_rfl)
end Go.Proofs.YtkfibepejlgniaaGreatDoor.exactFitsCard
namespace Go.Proofs.YtkfibepejlgniaaGreatDoor
theorem fnExactFits_holds : Rows.FnExactFitsCardSaid := exactFitsCard.card
end Go.Proofs.YtkfibepejlgniaaGreatDoor
