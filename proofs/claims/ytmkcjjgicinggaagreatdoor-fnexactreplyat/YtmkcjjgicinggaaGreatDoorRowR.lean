/- What a record that comes in, and a slice of records that comes in, read as. -/
import Derived.Test.YtmkcjjgicinggaaGreatDoorMemR
import Derived.Deep.Slices
import Derived.Deep.Fields
import Derived.ChangeSame
import Derived.ProofKit
import Derived.OpenShut
namespace Go.Proofs.YtmkcjjgicinggaaGreatDoor.RowR
open Go.Proofs.YtmkcjjgicinggaaGreatDoor.Mem Go.Proofs.YtmkcjjgicinggaaGreatDoor.MemR
open Go.ChangeShapes Go.WideShapes Go.ChangeAt Go.RowKit Go.Deep

/-- The texts of a record are no longer than any text. -/
def Small (r : Rec) : Prop := r.name.size ≤ 9223372036854775807 ∧ r.host.size ≤ 9223372036854775807 ∧ r.text.size ≤ 9223372036854775807
/-- The argument reads as records. -/
def IsRecs (w : World) (a : Option Addr) (len : Nat) (l : List Rec) : Prop :=
  Sr w w.heap.size a len l ∧ len ≤ 9223372036854775807 ∧ ∀ r ∈ l, Small r

section
variable {H : Type} {enc : TypeId × Value → H} {w : World} {base : Nat} {spare : Nat → Bool} {held : Bool}
theorem six_of {cs : List Value} {s0 s4 s5 : ByteArray} {x1 x2 x3 : Int} (h : cs.length = 6) (e0 : (cs.drop 0).take 1 = [.string s0]) (e1 : (cs.drop 1).take 1 = [.int .i64 x1]) (e2 : (cs.drop 2).take 1 = [.int .i64 x2])
    (e3 : (cs.drop 3).take 1 = [.int .i64 x3]) (e4 : (cs.drop 4).take 1 = [.string s4]) (e5 : (cs.drop 5).take 1 = [.string s5]) : cs = rc ⟨s0, x1, x2, x3, s4, s5⟩ := by
  match cs, h with
  | [c0, c1, c2, c3, c4, c5], _ =>
    simp only [List.drop_zero, List.drop_succ_cons, List.take_succ_cons, List.take_zero, List.cons.injEq, and_true] at e0 e1 e2 e3 e4 e5
    subst e0 e1 e2 e3 e4 e5
    rfl
theorem rec_of {fuel : Nat} {cs : List Value} {x : DataW H × List MemPlace} (h : DataW.trod enc Tryz.prog w base spare held fuel 169 cs = some x) : ∃ r : Rec, cs = rc r ∧ Small r := by
  obtain ⟨xs, n, _, _, hc, hl, hg⟩ := DataW.trod_struct Tryz.underlying169 h
  have h6 : cs.length = 6 := hc.trans (by kernel_rfl)
  have hx : xs.length = 6 := hl
  have ks : Tryz.prog.cellsOf 9 = 1 := by kernel_rfl
  have ki : Tryz.prog.cellsOf 3 = 1 := by kernel_rfl
  have g : ∀ i, i < 6 → xs[i]? = some (xs[i]!) := fun i hi => by rw [getElem!_pos xs i (by omega)]; exact List.getElem?_eq_getElem (by omega)
  have f0 := (hg 0 _ rfl).trans (g 0 (by omega))
  have f1 := (hg 1 _ rfl).trans (g 1 (by omega))
  have f2 := (hg 2 _ rfl).trans (g 2 (by omega))
  have f3 := (hg 3 _ rfl).trans (g 3 (by omega))
  have f4 := (hg 4 _ rfl).trans (g 4 (by omega))
  have f5 := (hg 5 _ rfl).trans (g 5 (by omega))
  obtain ⟨s0, e0, _, z0⟩ := DataW.trod_string Tryz.underlying9 f0
  obtain ⟨x1, e1, _⟩ := DataW.trod_int Tryz.underlying3 f1
  obtain ⟨x2, e2, _⟩ := DataW.trod_int Tryz.underlying3 f2
  obtain ⟨x3, e3, _⟩ := DataW.trod_int Tryz.underlying3 f3
  obtain ⟨s4, e4, _, z4⟩ := DataW.trod_string Tryz.underlying9 f4
  obtain ⟨s5, e5, _, z5⟩ := DataW.trod_string Tryz.underlying9 f5
  replace e0 : (cs.drop 0).take (Tryz.prog.cellsOf 9) = [.string s0] := e0
  replace e1 : (cs.drop 1).take (Tryz.prog.cellsOf 3) = [.int .i64 x1] := e1
  replace e2 : (cs.drop 2).take (Tryz.prog.cellsOf 3) = [.int .i64 x2] := e2
  replace e3 : (cs.drop 3).take (Tryz.prog.cellsOf 3) = [.int .i64 x3] := e3
  replace e4 : (cs.drop 4).take (Tryz.prog.cellsOf 9) = [.string s4] := e4
  replace e5 : (cs.drop 5).take (Tryz.prog.cellsOf 9) = [.string s5] := e5
  rw [ks] at e0 e4 e5
  rw [ki] at e1 e2 e3
  unfold maxLen at z0 z4 z5
  exact ⟨⟨s0, x1, x2, x3, s4, s5⟩, six_of h6 e0 e1 e2 e3 e4 e5, z0, z4, z5⟩
set_option maxRecDepth 100000 in
/-- A record that comes in. -/
theorem rec_in {r : Reach} {b0 : Nat} {v : Value} {d : DataW H} {p : List MemPlace} (hv : Value.okWide Tryz.prog w r b0 169 v) (h : DataW.Trod enc Tryz.prog w base spare held 169 v d p) :
    ∃ r : Rec, v = .agg #[.string r.name, .int .i64 r.ty, .int .i64 r.ttl, .int .i64 r.n, .string r.host, .string r.text] ∧ Small r := by
  obtain ⟨cs, rfl, _⟩ := okWide_struct Tryz.underlying169 hv
  obtain ⟨fuel, hf⟩ := h
  obtain ⟨r, hr, hz⟩ := rec_of hf
  refine ⟨r, ?_, hz⟩
  have e : cs.toList = rc r := hr
  rw [show cs = (rc r).toArray from by rw [← e]]
  rfl
end

section
variable {H : Type} {enc : TypeId × Value → H} {w : World}

set_option maxRecDepth 100000 in
/-- A slice of records that comes in. -/
theorem recs_in {a : Option Addr} {len cap : Nat} {d : DataW H} {p : List MemPlace} (h : DataW.Trod enc Tryz.prog w 0 (fun _ => true) true 71 (.slice a len cap) d p) : ∃ l, IsRecs w a len l := by
  obtain ⟨fuel, hf⟩ := h
  rcases open_slice Tryz.underlying71 hf with ⟨hcs, _⟩ | ⟨x, len', cap', m, n, D, Pl, hcs, _, hl, hm, hmm, _, hx⟩
  · simp [Value.cells] at hcs
    obtain ⟨rfl, rfl, rfl⟩ := hcs
    exact ⟨[], Sr.nil, by omega, fun r h => by simp at h⟩
  · simp [Value.cells] at hcs
    obtain ⟨rfl, rfl, rfl⟩ := hcs
    unfold maxLen at hm
    simp only [if_true] at hmm
    subst hmm
    have hC : Tryz.prog.cellsOf 169 = 6 := by kernel_rfl
    rw [hC] at hx
    obtain ⟨b, off, spot⟩ := x
    rcases Nat.eq_zero_or_pos len with h0 | h0
    · subst h0
      exact ⟨[], Sr.nil, by omega, fun r h => by simp at h⟩
    have hs : spot = none := by
      obtain ⟨cs', hc, _⟩ := hx 0 (by omega)
      obtain ⟨_, hl6, hat⟩ := World.cells?_some hc
      have c0 := hat 0 (by omega)
      rw [List.getElem?_eq_getElem (by omega)] at c0
      simpa [Addr.add] using World.cell?_spot c0
    subst hs
    have key : ∀ i : Nat, ∃ r : Rec, i < len → (b < w.heap.size ∧ Ce w b (off + i * 6) r ∧ Small r) := fun i => by
      by_cases hi : i < len
      · obtain ⟨cs', hc, ht⟩ := hx i (by omega)
        obtain ⟨r, rfl, hz⟩ := rec_of ht
        obtain ⟨_, _, hat⟩ := World.cells?_some hc
        refine ⟨r, fun _ => ?_⟩
        have hc : ∀ c, c < 6 → w.cell? ⟨b, off + i * 6 + c, none⟩ = (rc r)[c]? := fun c hc => by
          rw [← hat c hc, Addr.add_lit, Addr.add_lit]
        have c0 : w.cell? ⟨b, off + i * 6 + 0, none⟩ = some (.string r.name) := hc 0 (by omega)
        exact ⟨World.block_lt_of_cell? _ _ c0, ⟨c0, hc 1 (by omega), hc 2 (by omega), hc 3 (by omega), hc 4 (by omega), hc 5 (by omega)⟩, hz⟩
      · exact ⟨zr, fun h => absurd h hi⟩
    obtain ⟨f, hf⟩ := Classical.axiomOfChoice key
    refine ⟨(List.range len).map f, ⟨by simp, fun hn => ?_⟩, by omega, fun r hr => ?_⟩
    · refine ⟨b, off, rfl, (hf 0 hn).1, fun j hj => ?_⟩
      have hj' : j < len := by simpa using hj
      have := (hf j hj').2.1
      simpa using this
    · obtain ⟨i, hi, rfl⟩ := List.mem_map.1 hr
      exact (hf i (List.mem_range.1 hi)).2.2

end
end Go.Proofs.YtmkcjjgicinggaaGreatDoor.RowR
