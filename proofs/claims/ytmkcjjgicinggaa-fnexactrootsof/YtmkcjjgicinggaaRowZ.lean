/- What a zone that comes in reads as. -/
import Derived.Test.YtmkcjjgicinggaaRowR
namespace Go.Proofs.Ytmkcjjgicinggaa.RowZ
open Go.Proofs.Ytmkcjjgicinggaa.Mem Go.Proofs.Ytmkcjjgicinggaa.MemR Go.Proofs.Ytmkcjjgicinggaa.RowR
open Go.ChangeShapes Go.WideShapes Go.ChangeAt Go.RowKit Go.Deep

section
variable {H : Type} {enc : TypeId × Value → H} {w : World} {base : Nat} {spare : Nat → Bool} {held : Bool}
theorem zone_cells {cs : List Value} {s0 : ByteArray} {v1 : Value} (h : cs.length = 2) (e0 : (cs.drop 0).take 1 = [.string s0]) (e1 : (cs.drop 1).take 1 = [v1]) : cs = [.string s0, v1] := by
  match cs, h with
  | [c0, c1], _ =>
    simp only [List.drop_zero, List.drop_succ_cons, List.take_succ_cons, List.take_zero, List.cons.injEq, and_true] at e0 e1
    subst e0 e1
    rfl

theorem slice_cells {fuel : Nat} {cs : List Value} {x : DataW H × List MemPlace} (h : DataW.trod enc Try.prog w base spare held fuel 52 cs = some x) : ∃ a len cap, cs = [.slice a len cap] := by
  rcases open_slice Try.underlying52 h with ⟨hcs, _⟩ | ⟨x, len', cap', m, n, D, Pl, hcs, _⟩
  · exact ⟨_, _, _, hcs⟩
  · exact ⟨_, _, _, hcs⟩
end

section
variable {H : Type} {enc : TypeId × Value → H} {w : World}

theorem recs_of {fuel : Nat} {cs : List Value} {x : DataW H × List MemPlace} (h : DataW.trod enc Try.prog w 0 (fun _ => true) true fuel 52 cs = some x) : ∃ a len cap l, cs = [.slice a len cap] ∧ IsRecs w a len l := by
  obtain ⟨a, len, cap, rfl⟩ := slice_cells h
  obtain ⟨d, p⟩ := x
  obtain ⟨l, hl⟩ := recs_in (a := a) (len := len) (cap := cap) (d := d) (p := p) ⟨fuel, h⟩
  exact ⟨a, len, cap, l, rfl, hl⟩

theorem zone_of {fuel : Nat} {cs : List Value} {x : DataW H × List MemPlace} (h : DataW.trod enc Try.prog w 0 (fun _ => true) true fuel 54 cs = some x) :
    ∃ (s : ByteArray) (a : Option Addr) (n c : Nat) (l : List Rec), cs = [.string s, .slice a n c] ∧ s.size ≤ 9223372036854775807 ∧ IsRecs w a n l := by
  obtain ⟨xs, n, _, _, hc, hl, hg⟩ := DataW.trod_struct Try.underlying54 h
  have h2 : cs.length = 2 := hc.trans (by kernel_rfl)
  have hx : xs.length = 2 := hl
  have ks : Try.prog.cellsOf 9 = 1 := by kernel_rfl
  have kr : Try.prog.cellsOf 52 = 1 := by kernel_rfl
  have g : ∀ i, i < 2 → xs[i]? = some (xs[i]!) := fun i hi => by rw [getElem!_pos xs i (by omega)]; exact List.getElem?_eq_getElem (by omega)
  have f0 := (hg 0 _ rfl).trans (g 0 (by omega))
  have f1 := (hg 1 _ rfl).trans (g 1 (by omega))
  obtain ⟨s0, e0, _, z0⟩ := DataW.trod_string Try.underlying9 f0
  obtain ⟨a1, n1, c1, l1, e1, z1⟩ := recs_of f1
  replace e0 : (cs.drop 0).take (Try.prog.cellsOf 9) = [.string s0] := e0
  replace e1 : (cs.drop 1).take (Try.prog.cellsOf 52) = [.slice a1 n1 c1] := e1
  rw [ks] at e0
  rw [kr] at e1
  unfold maxLen at z0
  exact ⟨s0, a1, n1, c1, l1, zone_cells h2 e0 e1, z0, z1⟩

set_option maxRecDepth 100000 in
/-- A zone that comes in. -/
theorem zone_in {r : Reach} {b0 : Nat} {v : Value} {d : DataW H} {p : List MemPlace} (hv : Value.okWide Try.prog w r b0 54 v) (h : DataW.Trod enc Try.prog w 0 (fun _ => true) true 54 v d p) :
    ∃ (s : ByteArray) (a : Option Addr) (n c : Nat) (l : List Rec), v = .agg #[.string s, .slice a n c] ∧ s.size ≤ 9223372036854775807 ∧ IsRecs w a n l := by
  obtain ⟨cs, rfl, _⟩ := okWide_struct Try.underlying54 hv
  obtain ⟨fuel, hf⟩ := h
  obtain ⟨s, a, n, c, l, hr, hz⟩ := zone_of hf
  refine ⟨s, a, n, c, l, ?_, hz⟩
  have e : cs.toList = [.string s, .slice a n c] := hr
  rw [show cs = ([.string s, .slice a n c] : List Value).toArray from by rw [← e]]

end
end Go.Proofs.Ytmkcjjgicinggaa.RowZ
