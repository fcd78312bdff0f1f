/- 'm[k] = append(m[k], x)' as the model has it: the entry is found or laid, with its stamp; then its value is stored at the stamp. -/
import Derived.Test.YtmabbeefeipnaaaMapK
namespace Go.Proofs.Ytmabbeefeipnaaa.MapE
open Go.RowKit Go.Proofs.Ytmabbeefeipnaaa.Mem Go.Proofs.Ytmabbeefeipnaaa.MapK
open Go.ChangeMaps (setBlock heap_setBlock_same heap_setBlock_other)

/-- As Mp; and the j-th entry bears the stamp st. -/
def Ms (w : World) (b : Nat) (l : List (Value × Value)) (j st : Nat) : Prop :=
  ∃ es clock, w.heap[b]? = some (.map es clock) ∧ es.toList.map (fun e => (e.key, e.val)) = l ∧ (∀ e ∈ es.toList, e.born < clock) ∧ (es.toList.map (·.born)).Nodup ∧ ∃ e, es.toList[j]? = some e ∧ e.born = st
section
variable {P : Program} {w w' : World} {b : Nat} {l : List (Value × Value)} {k e t : TypeId} {S : Value → Prop} {j st : Nat}

theorem Ms.lt (h : Ms w b l j st) : b < w.heap.size := by
  obtain ⟨es, clock, hb, _⟩ := h
  exact (Array.getElem?_eq_some_iff.1 hb).1

theorem Ms.kept (h : Ms w b l j st) (hk : w'.heap[b]? = w.heap[b]?) : Ms w' b l j st := by
  obtain ⟨es, clock, hb, h1⟩ := h
  exact ⟨es, clock, hk.trans hb, h1⟩

theorem Ms.grown {row : Option Nat} (h : Ms w b l j st) (hg : w.grownBy w' row) (hne : some b ≠ row) : Ms w' b l j st := h.kept (hg.block b h.lt hne)

theorem Ms.alloc (h : Ms w b l j st) (o : Obj) : Ms (w.alloc o) b l j st := h.grown (World.grownBy_alloc w o none) (by simp)

/-- The entry is not there: it is laid, with the zero value. -/
theorem entry_new (h : Mp w b l) (K : MapK.KeyT P k S) (ht : P.underlying t = some (.map k e)) {z : Value} (hz : (zeroValue e).run P w = .ok z w) (hS : ∀ p ∈ l, S p.1) {x : Value} (hx : S x) (hno : ∀ p ∈ l, p.1 ≠ x) :
    ∃ w' st, (Instr.mapEntry t (.map (some b)) x).run P w = .ok (.tuple #[z, .int .i64 (st : Nat)]) w' ∧ Ms w' b (l ++ [(x, z)]) l.length st ∧ w.grownBy w' (some b) ∧ w'.heap.size = w.heap.size := by
  obtain ⟨es, clock, hb, hl, hborn, hnd⟩ := h
  rcases K.find w hx es.toList (mem_key hl hS) with ⟨hrun, _⟩ | ⟨j, e0, _, hj, hk⟩
  · refine ⟨setBlock w b (.map (es.push ⟨x, z, clock⟩) (clock + 1)), clock, ?_, ⟨_, _, heap_setBlock_same hb _, ?_, ?_, ?_, ⟨x, z, clock⟩, ?_, rfl⟩, grown_block hb _, by simp [setBlock]⟩
    · simp [Instr.mapEntry, run_underlying ht, MapKept.run_getObj_map hb, K.check w false hx, hrun, hz, MapKept.run_setObj_map _ hb, Result.andThen, setBlock, goInt]
    · rw [Array.toList_push, List.map_append, hl]; rfl
    · intro e' he'
      rw [Array.toList_push, List.mem_append] at he'
      rcases he' with he' | he'
      · have := hborn e' he'; omega
      · obtain rfl := List.mem_singleton.1 he'; exact Nat.lt_succ_self _
    · rw [Array.toList_push, List.map_append, List.nodup_append]
      refine ⟨hnd, by simp, fun a ha c hc => ?_⟩
      obtain ⟨e', he', rfl⟩ := List.mem_map.1 ha
      have h1 := hborn e' he'
      simp at hc
      omega
    · rw [Array.toList_push, ← hl, List.length_map, List.getElem?_append_right (Nat.le_refl _), Nat.sub_self]
      rfl
  · exact absurd hk (hno (e0.key, e0.val) (hl ▸ List.mem_map.2 ⟨e0, List.mem_of_getElem? hj, rfl⟩))

/-- The entry is there. -/
theorem entry_old (h : Mp w b l) (K : MapK.KeyT P k S) (ht : P.underlying t = some (.map k e)) (hS : ∀ p ∈ l, S p.1) (hd : (l.map Prod.fst).Nodup) {x u : Value} (hx : S x) {j : Nat} (hin : l[j]? = some (x, u)) :
    ∃ w' st, (Instr.mapEntry t (.map (some b)) x).run P w = .ok (.tuple #[u, .int .i64 (st : Nat)]) w' ∧ Ms w' b l j st ∧ w.grownBy w' (some b) ∧ w'.heap.size = w.heap.size := by
  obtain ⟨es, clock, hb, hl, hborn, hnd⟩ := h
  rcases K.find w hx es.toList (mem_key hl hS) with ⟨_, hno⟩ | ⟨i, e0, hrun, hi, hk⟩
  · have hm := List.mem_of_getElem? hin
    rw [← hl] at hm
    obtain ⟨e0, he, hq⟩ := List.mem_map.1 hm
    exact absurd (congrArg Prod.fst hq) (hno e0 he)
  · have hli : l[i]? = some (e0.key, e0.val) := by rw [← hl, List.getElem?_map, hi]; rfl
    have hij : i = j := by
      rw [hk] at hli
      exact key_idx hd hli hin
    subst hij
    have hu : e0.val = u := by rw [hli] at hin; exact congrArg Prod.snd (Option.some.inj hin)
    have hget : es[i]? = some e0 := by rw [← Array.getElem?_toList]; exact hi
    have hmod : (es.modify i fun e => { e with key := x }) = es := by
      refine Array.toList_inj.1 ?_
      rw [Array.toList_modify]
      refine List.ext_getElem? fun n => ?_
      rw [List.getElem?_modify]
      by_cases hn : i = n
      · subst hn
        rw [hi]
        simp [← hk]
      · simp [hn]
    refine ⟨setBlock w b (.map (es.modify i fun e => { e with key := x }) clock), e0.born, ?_, ⟨es, clock, by rw [heap_setBlock_same hb _, hmod], hl, hborn, hnd, e0, hi, rfl⟩, grown_block hb _, by simp [setBlock]⟩
    have hst := K.stays w hx
    have hck := K.check w false hx
    subst hk
    subst hu
    simp [Instr.mapEntry, run_underlying ht, MapKept.run_getObj_map hb, hck, hrun, hget, hst, MapKept.run_setObj_map _ hb, Result.andThen, setBlock, goInt]

/-- The value is stored at the stamp. -/
theorem Ms.store (h : Ms w b l j st) (t : TypeId) {x u : Value} (hin : l[j]? = some (x, u)) (v : Value) :
    ∃ w', (Instr.entryStore t (.map (some b)) (.int .i64 (st : Nat)) v).run P w = .ok () w' ∧ Mp w' b (l.set j (x, v)) ∧ w.grownBy w' (some b) ∧ w'.heap.size = w.heap.size := by
  obtain ⟨es, clock, hb, hl, hborn, hnd, e0, hj, rfl⟩ := h
  have hx : e0.key = x := by
    rw [← hl, List.getElem?_map, hj] at hin
    exact congrArg Prod.fst (Option.some.inj hin)
  have hfind : es.findIdx? (fun e => (e.born : Int) == (e0.born : Int)) = some j := by
    obtain ⟨hlt, he⟩ := List.getElem?_eq_some_iff.1 hj
    rw [Array.findIdx?_eq_some_iff_getElem]
    refine ⟨by simpa using hlt, by rw [show es[j]'(by simpa using hlt) = e0 from he]; simp, fun i hi hp => ?_⟩
    have hil : i < es.toList.length := by omega
    have h1 : (es.toList.map (·.born))[i]? = some e0.born := by
      rw [List.getElem?_map, List.getElem?_eq_getElem hil]
      have h3 : es[i].born = e0.born := by simp at hp; omega
      have h4 : es.toList[i].born = e0.born := h3
      rw [Option.map_some, h4]
    have h2 : (es.toList.map (·.born))[j]? = some e0.born := by rw [List.getElem?_map, hj]; rfl
    have := nodup_inj hnd h1 h2
    omega
  refine ⟨setBlock w b (.map (es.modify j fun e => { e with val := v }) clock), ?_, ⟨_, _, heap_setBlock_same hb _, ?_, ?_, ?_⟩, grown_block hb _, by simp [setBlock]⟩
  · simp [Instr.entryStore, MapKept.run_getObj_map hb, asInt, asIntOf, hfind, MapKept.run_setObj_map _ hb, Result.andThen, setBlock]
  · rw [Array.toList_modify, ← hl]
    refine List.ext_getElem? fun n => ?_
    rw [List.getElem?_map, List.getElem?_modify, List.getElem?_set]
    by_cases hn : j = n
    · subst hn
      have : j < es.toList.length := (List.getElem?_eq_some_iff.1 hj).1
      rw [Array.length_toList] at this
      rw [hj]
      simp [this, hx]
    · simp [hn]
  · intro e' he'
    rw [Array.toList_modify] at he'
    obtain ⟨n, hn⟩ := List.getElem?_of_mem he'
    rw [List.getElem?_modify] at hn
    obtain ⟨e1, h1, rfl⟩ := Option.map_eq_some_iff.1 hn
    have := hborn e1 (List.mem_of_getElem? h1)
    split <;> exact this
  · have : (es.modify j fun e => { e with val := v }).toList.map (·.born) = es.toList.map (·.born) := by
      rw [Array.toList_modify]
      refine List.ext_getElem? fun n => ?_
      rw [List.getElem?_map, List.getElem?_map, List.getElem?_modify]
      cases es.toList[n]? <;> simp
      split <;> rfl
    rw [this]
    exact hnd

/-- The look-up of an entry at the operation. -/
theorem wp_entry {ops : Array Oper} {rest : List Oper} {o : Oper} {a : Act} {Q : Exit → Act → World → Prop}
    (hg : o.guard = none) (m x : Operand) (hop : o.op = Op.mapEntry t m x) (key u : Value) (hm : a.eval m = .map (some b)) (hx : a.eval x = key) (l' : List (Value × Value)) (j' : Nat)
    (hrun : ∃ w' st, (Instr.mapEntry t (.map (some b)) key).run P w = .ok (.tuple #[u, .int .i64 (st : Nat)]) w' ∧ Ms w' b l' j' st ∧ w.grownBy w' (some b) ∧ w'.heap.size = w.heap.size)
    (hK : ∀ w' (st : Nat), Ms w' b l' j' st → w.grownBy w' (some b) → w'.heap.size = w.heap.size → wpList P ops Q rest (a.put o.dst (.tuple #[u, .int .i64 (st : Nat)])) w') : wpList P ops Q (o :: rest) a w := by
  obtain ⟨w', s0, h1, h2, h3, h4⟩ := hrun
  refine wpList_plain hg fun K' hK' => ?_
  unfold Oper.wp
  simp [execOp, hop, hm, hx, h1, Result.andThen]
  exact hK' _ _ (hK w' s0 h2 h3 h4)

/-- The store at a stamp at the operation. -/
theorem wp_stamp {ops : Array Oper} {rest : List Oper} {o : Oper} {a : Act} {Q : Exit → Act → World → Prop}
    (hg : o.guard = none) (m s v : Operand) (hop : o.op = Op.entryStore t m s v) (u : Value) (hm : a.eval m = .map (some b)) (hs : a.eval s = .int .i64 (st : Nat)) (hv : a.eval v = u)
    (l' : List (Value × Value)) (hrun : ∃ w', (Instr.entryStore t (.map (some b)) (.int .i64 (st : Nat)) u).run P w = .ok () w' ∧ Mp w' b l' ∧ w.grownBy w' (some b) ∧ w'.heap.size = w.heap.size)
    (hK : ∀ w', Mp w' b l' → w.grownBy w' (some b) → w'.heap.size = w.heap.size → wpList P ops Q rest (a.put o.dst undef) w') : wpList P ops Q (o :: rest) a w := by
  obtain ⟨w', h1, h2, h3, h4⟩ := hrun
  refine wpList_plain hg fun K' hK' => ?_
  unfold Oper.wp
  simp [execOp, hop, hm, hs, hv, h1, Result.andThen]
  exact hK' _ _ (hK w' h2 h3 h4)
end
end Go.Proofs.Ytmabbeefeipnaaa.MapE
