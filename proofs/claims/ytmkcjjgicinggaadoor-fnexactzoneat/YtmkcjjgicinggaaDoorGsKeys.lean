/- What maps.Keys and slices.Collect do at a map whose keys are texts: a new slice with all its keys, in some order; nil if there is none. Conditions: fewer than 100000001 entries, at most 400000000 bytes in each key. -/
import Derived.Test.YtmkcjjgicinggaaDoorMapK
import Derived.Test.YtmkcjjgicinggaaDoorMemS
import Derived.Test.YtmkcjjgicinggaaDoorShelf
import Derived.Shelf.SlIter.Collect
namespace Go.Proofs.YtmkcjjgicinggaaDoor.GsKeys
open Go.RowKit Go.Shelf Go.Maps Go.Sort Go.Proofs.YtmkcjjgicinggaaDoor.Mem Go.Proofs.YtmkcjjgicinggaaDoor.MemS Go.Proofs.YtmkcjjgicinggaaDoor.MapK
open Go.WideElems (Fit rd rg rd_mk rg_of)

/-- How an element reads: not at all. -/
def R0 (H : Type) : Value → Option (DataW H × List MemPlace) := fun _ => some (.nil, [])

theorem key_of (a : ByteArray) (h : a.size ≤ 400000000) : keyOf Tryd.prog 9 (.string a) = some (.string a.data.toList) := by
  have hm : a.size ≤ maxLen := by unfold maxLen; omega
  simp [keyOf, Tryd.underlying9, mapKey, hm]

theorem owns {w : World} {b : Nat} {K : List ByteArray} {v : ByteArray → Value} (h : Mp w b (K.map fun a => (.string a, v a))) (nd : K.Nodup) (hz : ∀ a ∈ K, a.size ≤ 400000000) (hl : K.length ≤ 100000000) :
    ∃ D0 : DataW Unit, w.ownsMap Tryd.prog 9 (R0 Unit) b K.length D0 ∧ (strKeys D0).Perm (K.map (·.data.toList)) ∧ Maps.size D0 = K.length := by
  obtain ⟨es, clock, hb, hes, hborn, hnd⟩ := h
  have hlen : es.toList.length = K.length := by have := congrArg List.length hes; simpa using this
  have key : ∀ x ∈ es.toList, ∃ a ∈ K, x.key = .string a := fun x hx => by
    have : (x.key, x.val) ∈ es.toList.map (fun e => (e.key, e.val)) := List.mem_map.2 ⟨x, hx, rfl⟩
    rw [hes] at this
    obtain ⟨a, ha, e⟩ := List.mem_map.1 this
    exact ⟨a, ha, (congrArg Prod.fst e).symm⟩
  have rds : ∀ x ∈ es.toList, ∃ a ∈ K, x.key = .string a ∧ rd Tryd.prog 9 (R0 Unit) x = some (.string a.data.toList, .nil) := fun x hx => by
    obtain ⟨a, ha, e⟩ := key x hx
    refine ⟨a, ha, e, ?_⟩
    obtain ⟨xk, xv, xb⟩ := x
    simp only at e
    subst e
    exact rd_mk (R := R0 Unit) (yv := (.nil, [])) (key_of a (hz a ha)) rfl
  have hkeys : (es.toList.map (·.key)).Nodup := by
    have e : es.toList.map (·.key) = K.map Value.string := by
      have := congrArg (List.map Prod.fst) hes
      rw [List.map_map, List.map_map] at this
      exact this
    rw [e]
    exact List.pairwise_map.2 (nd.imp fun h e => h (by simpa using e))
  refine ⟨_, ⟨es, clock, hb, ⟨by rw [← Array.length_toList, hlen]; unfold maxLen; omega, ⟨hborn, hnd, hkeys⟩, fun x hx => ?_⟩, by rw [← Array.length_toList, hlen]; exact Nat.le_refl _, rfl⟩, ?_, ?_⟩
  · obtain ⟨a, _, _, e⟩ := rds x hx
    exact ⟨_, e⟩
  · show ((((es.toList.map (rg Tryd.prog 9 (R0 Unit))).foldr DataW.insert []).map fun p => strOf p.1)).Perm _
    refine ((Go.WideShapes.sorted_perm _).map _).trans (List.Perm.of_eq ?_)
    rw [List.map_map]
    have e2 : K.map (·.data.toList) = (es.toList.map (fun e => (e.key, e.val))).map (fun p => match p.1 with | .string s => s.data.toList | _ => []) := by
      rw [hes, List.map_map]
      exact List.map_congr_left fun a _ => rfl
    rw [e2, List.map_map]
    refine List.map_congr_left fun x hx => ?_
    obtain ⟨a, _, ek, e⟩ := rds x hx
    simp only [Function.comp_apply, rg_of e, ek]
    rfl
  · show (((es.toList.map (rg Tryd.prog 9 (R0 Unit))).foldr DataW.insert [])).length = _
    rw [(Go.WideShapes.sorted_perm _).length_eq, List.length_map, hlen]

/-- A slice, perhaps nil, that reads as the texts; the call's own memory. -/
def Own (base : Nat) (L : List ByteArray) (v : Value) (w' : World) : Prop := w'.ownsRow base 9 1 v L.length (L.map tv) ∧ (v = .slice none 0 0 ↔ L = [])

theorem keys (mb : Option Nat) (w : World) : Calls Tryd.prog 30 #[.map mb] w fun e w' => e = .returned (.func (.func 40) #[] #[.pointer (some ⟨w.heap.size, 0, none⟩)]) ∧ w' = w.alloc (.cells #[.map mb] 47) :=
  (callsIn_wide (n := 6)).1 (AnyZ.keys_in Tryd.keysZ Fence.wide 6 trivial rfl mb w)

set_option maxRecDepth 100000 in
theorem collect {w : World} {b Bm : Nat} {K : List ByteArray} {v : ByteArray → Value} (h : Mp w b (K.map fun a => (.string a, v a))) (nd : K.Nodup) (hz : ∀ a ∈ K, a.size ≤ 400000000) (hl : K.length ≤ 100000000) (hm : w.cell? ⟨Bm, 0, none⟩ = some (.map (some b))) :
    Calls Tryd.prog 29 #[.func (.func 40) #[] #[.pointer (some ⟨Bm, 0, none⟩)]] w fun e w' => ∃ (v : Value) (L : List ByteArray), e = .returned v ∧ L.Perm K ∧ Own w.heap.size L v w' ∧ Below w.heap.size w w' := by
  obtain ⟨D0, hown, hperm, hsize⟩ := owns h nd hz hl
  have hseq : SeqGives Fence.wide 4 Tryd.prog 40 #[.pointer (some ⟨Bm, 0, none⟩)] encStr (fun ss => ss.Perm (strKeys D0)) (Maps.size D0) w :=
    AnyZ.keys_gives (ρ := Tryd.keysZ_ren) { Tryd.keysZ with } Fence.wide 4 trivial rfl (by omega) Bm b K.length D0 w (World.block_lt_of_cell? _ _ hm) hm hown
  have hC := AnyZ.collect_in Tryd.collZ Fence.wide 6 trivial trivial rfl (by omega) 40 #[.pointer (some ⟨Bm, 0, none⟩)] trivial (enters_of Tryd.func40 (by kernel_rfl) rfl)
    _ (Maps.size D0) (by rw [hsize]; unfold maxLen; omega) (by rw [hsize]; omega) w hseq
  refine ((callsIn_wide (n := 6)).1 hC).mono ?_
  rintro e w' ⟨x, ss, rfl, hS, hrow, hnil, hb⟩
  have e1 : ss.map encStr = (ss.map fun l => (⟨l.toArray⟩ : ByteArray)).map tv := by rw [List.map_map]; rfl
  have e2 : (ss.map fun l => (⟨l.toArray⟩ : ByteArray)).Perm K := by
    have := (hS.trans hperm).map (fun l => (⟨l.toArray⟩ : ByteArray))
    rw [List.map_map] at this
    refine this.trans (List.Perm.of_eq ?_)
    conv => rhs; rw [← List.map_id K]
    exact List.map_congr_left fun a _ => by simp
  refine ⟨x, ss.map fun l => ⟨l.toArray⟩, rfl, e2, ⟨?_, ?_⟩, hb⟩
  · rw [← e1, List.length_map]
    exact hrow
  · rw [hnil]
    simp
end Go.Proofs.YtmkcjjgicinggaaDoor.GsKeys
