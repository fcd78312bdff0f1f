/- What a name space that comes in reads as. -/
import Derived.Test.YtmkcjjgicinggaaRowZ
import Derived.Test.YtmkcjjgicinggaaSzF
namespace Go.Proofs.Ytmkcjjgicinggaa.RowF
open Go.Proofs.Ytmkcjjgicinggaa.Mem Go.Proofs.Ytmkcjjgicinggaa.MemR Go.Proofs.Ytmkcjjgicinggaa.RowR Go.Proofs.Ytmkcjjgicinggaa.RowZ Go.Proofs.Ytmkcjjgicinggaa.MemF Go.Proofs.Ytmkcjjgicinggaa.SzF
open Go.ChangeShapes Go.WideShapes Go.ChangeAt Go.RowKit Go.Deep

section
variable {H : Type} {enc : TypeId × Value → H} {w : World}

theorem two_cells {cs : List Value} {v0 v1 : Value} (h : cs.length = 2) (e0 : (cs.drop 0).take 1 = [v0]) (e1 : (cs.drop 1).take 1 = [v1]) : cs = [v0, v1] := by
  match cs, h with
  | [c0, c1], _ =>
    simp only [List.drop_zero, List.drop_succ_cons, List.take_succ_cons, List.take_zero, List.cons.injEq, and_true] at e0 e1
    subst e0 e1
    rfl

theorem post_of {fuel : Nat} {cs : List Value} {x : DataW H × List MemPlace} (h : DataW.trod enc Try.prog w 0 (fun _ => true) true fuel 56 cs = some x) :
    ∃ p : Pst, cs = [.int .i64 p.addr, .string p.apex] ∧ p.apex.size ≤ 9223372036854775807 := by
  obtain ⟨xs, n, _, _, hc, hl, hg⟩ := DataW.trod_struct Try.underlying56 h
  have h2 : cs.length = 2 := hc.trans (by kernel_rfl)
  have hx : xs.length = 2 := hl
  have ks : Try.prog.cellsOf 9 = 1 := by kernel_rfl
  have ki : Try.prog.cellsOf 3 = 1 := by kernel_rfl
  have g : ∀ i, i < 2 → xs[i]? = some (xs[i]!) := fun i hi => by rw [getElem!_pos xs i (by omega)]; exact List.getElem?_eq_getElem (by omega)
  have f0 := (hg 0 _ rfl).trans (g 0 (by omega))
  have f1 := (hg 1 _ rfl).trans (g 1 (by omega))
  obtain ⟨x0, e0, _⟩ := DataW.trod_int Try.underlying3 f0
  obtain ⟨s1, e1, _, z1⟩ := DataW.trod_string Try.underlying9 f1
  replace e0 : (cs.drop 0).take (Try.prog.cellsOf 3) = [.int .i64 x0] := e0
  replace e1 : (cs.drop 1).take (Try.prog.cellsOf 9) = [.string s1] := e1
  rw [ki] at e0
  rw [ks] at e1
  unfold maxLen at z1
  exact ⟨⟨x0, s1⟩, two_cells h2 e0 e1, z1⟩

set_option maxRecDepth 100000 in
theorem posts_of {fuel : Nat} {cs : List Value} {x : DataW H × List MemPlace} (h : DataW.trod enc Try.prog w 0 (fun _ => true) true fuel 23 cs = some x) :
    ∃ a len cap ps, cs = [.slice a len cap] ∧ Rp w w.heap.size a len ps ∧ len ≤ 9223372036854775807 ∧ ∀ p ∈ ps, p.apex.size ≤ 9223372036854775807 := by
  rcases open_slice Try.underlying23 h with ⟨hcs, _⟩ | ⟨x, len, cap, m, n, D, Pl, hcs, _, hl, hm, hmm, _, hx⟩
  · exact ⟨none, 0, 0, [], hcs, Rp.nil, by omega, fun r h => by simp at h⟩
  · unfold maxLen at hm
    simp only [if_true] at hmm
    subst hmm
    have hC : Try.prog.cellsOf 56 = 2 := by kernel_rfl
    rw [hC] at hx
    obtain ⟨b, off, spot⟩ := x
    rcases Nat.eq_zero_or_pos len with h0 | h0
    · subst h0
      exact ⟨_, _, _, [], hcs, Rp.nil, by omega, fun r h => by simp at h⟩
    have hs : spot = none := by
      obtain ⟨cs', hc, _⟩ := hx 0 (by omega)
      obtain ⟨_, hl6, hat⟩ := World.cells?_some hc
      have c0 := hat 0 (by omega)
      rw [List.getElem?_eq_getElem (by omega)] at c0
      simpa [Addr.add] using World.cell?_spot c0
    subst hs
    have key : ∀ i : Nat, ∃ r : Pst, i < len → (b < w.heap.size ∧ Cp w b (off + i * 2) r ∧ r.apex.size ≤ 9223372036854775807) := fun i => by
      by_cases hi : i < len
      · obtain ⟨cs', hc, ht⟩ := hx i (by omega)
        obtain ⟨r, rfl, hz⟩ := post_of ht
        obtain ⟨_, _, hat⟩ := World.cells?_some hc
        refine ⟨r, fun _ => ?_⟩
        have hc : ∀ c, c < 2 → w.cell? ⟨b, off + i * 2 + c, none⟩ = ([.int .i64 r.addr, .string r.apex] : List Value)[c]? := fun c hc => by
          rw [← hat c hc, Addr.add_lit, Addr.add_lit]
        have c0 : w.cell? ⟨b, off + i * 2 + 0, none⟩ = some (.int .i64 r.addr) := hc 0 (by omega)
        exact ⟨World.block_lt_of_cell? _ _ c0, ⟨c0, hc 1 (by omega)⟩, hz⟩
      · exact ⟨⟨0, ⟨#[]⟩⟩, fun h => absurd h hi⟩
    obtain ⟨f, hf⟩ := Classical.axiomOfChoice key
    refine ⟨_, _, _, (List.range len).map f, hcs, ⟨by simp, fun hn => ?_⟩, by omega, fun r hr => ?_⟩
    · refine ⟨b, off, rfl, (hf 0 hn).1, fun j hj => ?_⟩
      have hj' : j < len := by simpa using hj
      have := (hf j hj').2.1
      simpa using this
    · obtain ⟨i, hi, rfl⟩ := List.mem_map.1 hr
      exact (hf i (List.mem_range.1 hi)).2.2

set_option maxRecDepth 100000 in
theorem zones_of {fuel : Nat} {cs : List Value} {x : DataW H × List MemPlace} (h : DataW.trod enc Try.prog w 0 (fun _ => true) true fuel 22 cs = some x) :
    ∃ a len cap zs, cs = [.slice a len cap] ∧ Rz False w w.heap.size a len zs ∧ len ≤ 9223372036854775807 ∧ ∀ z ∈ zs, SmallZ z := by
  rcases open_slice Try.underlying22 h with ⟨hcs, _⟩ | ⟨x, len, cap, m, n, D, Pl, hcs, _, hl, hm, hmm, _, hx⟩
  · exact ⟨none, 0, 0, [], hcs, Rz.nil, by omega, fun r h => by simp at h⟩
  · unfold maxLen at hm
    simp only [if_true] at hmm
    subst hmm
    have hC : Try.prog.cellsOf 54 = 2 := by kernel_rfl
    rw [hC] at hx
    obtain ⟨b, off, spot⟩ := x
    rcases Nat.eq_zero_or_pos len with h0 | h0
    · subst h0
      exact ⟨_, _, _, [], hcs, Rz.nil, by omega, fun r h => by simp at h⟩
    have hs : spot = none := by
      obtain ⟨cs', hc, _⟩ := hx 0 (by omega)
      obtain ⟨_, hl6, hat⟩ := World.cells?_some hc
      have c0 := hat 0 (by omega)
      rw [List.getElem?_eq_getElem (by omega)] at c0
      simpa [Addr.add] using World.cell?_spot c0
    subst hs
    have key : ∀ i : Nat, ∃ r : Zn, i < len → (b < w.heap.size ∧ Cz False w w.heap.size b (off + i * 2) r ∧ SmallZ r) := fun i => by
      by_cases hi : i < len
      · obtain ⟨cs', hc, ht⟩ := hx i (by omega)
        obtain ⟨s, a, n, c, l, rfl, hz, hr⟩ := zone_of ht
        obtain ⟨_, _, hat⟩ := World.cells?_some hc
        refine ⟨⟨s, l⟩, fun _ => ?_⟩
        have hc : ∀ c', c' < 2 → w.cell? ⟨b, off + i * 2 + c', none⟩ = ([.string s, .slice a n c] : List Value)[c']? := fun c' hc => by
          rw [← hat c' hc, Addr.add_lit, Addr.add_lit]
        have c0 : w.cell? ⟨b, off + i * 2 + 0, none⟩ = some (.string s) := hc 0 (by omega)
        exact ⟨World.block_lt_of_cell? _ _ c0, ⟨c0, a, n, c, hc 1 (by omega), hr.1, fun h => h.elim⟩, hz, by have := hr.1.1; have := hr.2.1; show l.length ≤ _; omega, hr.2.2⟩
      · exact ⟨⟨⟨#[]⟩, []⟩, fun h => absurd h hi⟩
    obtain ⟨f, hf⟩ := Classical.axiomOfChoice key
    refine ⟨_, _, _, (List.range len).map f, hcs, ⟨by simp, fun hn => ?_⟩, by omega, fun r hr => ?_⟩
    · refine ⟨b, off, rfl, (hf 0 hn).1, fun j hj => ?_⟩
      have hj' : j < len := by simpa using hj
      have := (hf j hj').2.1
      simpa using this
    · obtain ⟨i, hi, rfl⟩ := List.mem_map.1 hr
      exact (hf i (List.mem_range.1 hi)).2.2

/-- The arguments read as a name space. -/
def IsForest (w : World) (A : Option Addr) (n : Nat) (zs : List Zn) (P : Option Addr) (m : Nat) (ps : List Pst) : Prop :=
  Sf False w A n zs P m ps ∧ n ≤ 9223372036854775807 ∧ m ≤ 9223372036854775807 ∧ (∀ z ∈ zs, SmallZ z) ∧ ∀ p ∈ ps, p.apex.size ≤ 9223372036854775807

theorem forest_of {fuel : Nat} {cs : List Value} {x : DataW H × List MemPlace} (h : DataW.trod enc Try.prog w 0 (fun _ => true) true fuel 25 cs = some x) :
    ∃ (A : Option Addr) (n c : Nat) (zs : List Zn) (P : Option Addr) (m d : Nat) (ps : List Pst), cs = [.slice A n c, .slice P m d] ∧ IsForest w A n zs P m ps := by
  obtain ⟨xs, n, _, _, hc, hl, hg⟩ := DataW.trod_struct Try.underlying25 h
  have h2 : cs.length = 2 := hc.trans (by kernel_rfl)
  have hx : xs.length = 2 := hl
  have kz : Try.prog.cellsOf 22 = 1 := by kernel_rfl
  have kp : Try.prog.cellsOf 23 = 1 := by kernel_rfl
  have g : ∀ i, i < 2 → xs[i]? = some (xs[i]!) := fun i hi => by rw [getElem!_pos xs i (by omega)]; exact List.getElem?_eq_getElem (by omega)
  have f0 := (hg 0 _ rfl).trans (g 0 (by omega))
  have f1 := (hg 1 _ rfl).trans (g 1 (by omega))
  obtain ⟨a0, n0, c0, zs, e0, r0, b0, z0⟩ := zones_of f0
  obtain ⟨a1, n1, c1, ps, e1, r1, b1, z1⟩ := posts_of f1
  replace e0 : (cs.drop 0).take (Try.prog.cellsOf 22) = [.slice a0 n0 c0] := e0
  replace e1 : (cs.drop 1).take (Try.prog.cellsOf 23) = [.slice a1 n1 c1] := e1
  rw [kz] at e0
  rw [kp] at e1
  exact ⟨a0, n0, c0, zs, a1, n1, c1, ps, two_cells h2 e0 e1, ⟨r0, r1⟩, b0, b1, z0, z1⟩

set_option maxRecDepth 100000 in
/-- A name space that comes in. -/
theorem forest_in {r : Reach} {b0 : Nat} {v : Value} {d : DataW H} {p : List MemPlace} (hv : Value.okWide Try.prog w r b0 25 v) (h : DataW.Trod enc Try.prog w 0 (fun _ => true) true 25 v d p) :
    ∃ (A : Option Addr) (n c : Nat) (zs : List Zn) (P : Option Addr) (m d : Nat) (ps : List Pst), v = .agg #[.slice A n c, .slice P m d] ∧ IsForest w A n zs P m ps := by
  obtain ⟨cs, rfl, _⟩ := okWide_struct Try.underlying25 hv
  obtain ⟨fuel, hf⟩ := h
  obtain ⟨A, n, c, zs, P, m, d, ps, hr, hz⟩ := forest_of hf
  refine ⟨A, n, c, zs, P, m, d, ps, ?_, hz⟩
  have e : cs.toList = [.slice A n c, .slice P m d] := hr
  rw [show cs = ([.slice A n c, .slice P m d] : List Value).toArray from by rw [← e]]
end
end Go.Proofs.Ytmkcjjgicinggaa.RowF
