/- Maps that a call makes and only adds to: what the block of such a map holds, entry by entry in the order in which they came, and the laws on a look-up, a store and a range. Condition: the keys are of a kind that can be compared without a panic (KeyT). -/
import Derived.Test.YtmkcjjgicinggaaGreatDoorMem
import Derived.Maps.RangeRun
import Derived.Maps.OwnOps
import Derived.Deep.AppendLies
namespace Go.Proofs.YtmkcjjgicinggaaGreatDoor.MapK
open Go.RowKit Go.Proofs.YtmkcjjgicinggaaGreatDoor.Mem
open Go.ChangeMaps (setBlock heap_setBlock_same heap_setBlock_other)

/-- What the laws need of the values S as keys of type k. -/
structure KeyT (P : Program) (k : TypeId) (S : Value → Prop) : Prop where
  check : ∀ (w : World) (em : Bool) {v : Value}, S v → (Instr.checkKey em 10000 k v).run P w = .ok () w
  find : ∀ (w : World) {x : Value}, S x → ∀ es : List MapEntry, (∀ e ∈ es, S e.key) →
    ((Instr.findKey k x es).run P w = .ok none w ∧ ∀ e ∈ es, e.key ≠ x) ∨ ∃ j e, (Instr.findKey k x es).run P w = .ok (some (j, e.val)) w ∧ es[j]? = some e ∧ e.key = x
  stays : ∀ (w : World) {v : Value}, S v → (Instr.keyThatStays v v).run P w = .ok v w

theorem KeyT.of {P : Program} {k : TypeId} (K : Go.Maps.Keyed P k) {S : Value → Prop} (h : ∀ v, S v → ∃ l, keyOf P k v = some l) : KeyT P k S where
  check w em v hv := by obtain ⟨l, hl⟩ := h v hv; exact K.check w em hl
  find w x hx es hes := by obtain ⟨l, hl⟩ := h x hx; exact K.find w hl es (fun e he => h _ (hes e he))
  stays w v hv := by obtain ⟨l, hl⟩ := h v hv; exact K.stays w hl

/-- Keys of a struct's type: all that is wanted is whether two of them are equal. -/
theorem KeyT.struct {P : Program} {k : TypeId} {S : Value → Prop} (d : TypeDesc) (hd : P.underlying k = some d) (hn : ∀ x y : Value, S x → Instr.sameNow d x y = none)
    (check : ∀ (w : World) (em : Bool) {v : Value}, S v → (Instr.checkKey em 10000 k v).run P w = .ok () w)
    (same : ∀ (w : World) {x : Value}, S x → (Op.equal k x x).run P w = .ok true w)
    (diff : ∀ (w : World) {x y : Value}, S x → S y → x ≠ y → (Op.equal k x y).run P w = .ok false w)
    (stays : ∀ (w : World) {v : Value}, S v → (Instr.keyThatStays v v).run P w = .ok v w) : KeyT P k S where
  check := check
  stays := stays
  find := by
    have ask : ∀ (w : World) {x : Value}, S x → ∀ (es : List MapEntry) (i : Nat), (∀ e ∈ es, S e.key) →
        ((Instr.findAsking k x es i).run P w = .ok none w ∧ ∀ e ∈ es, e.key ≠ x) ∨ ∃ j e, (Instr.findAsking k x es i).run P w = .ok (some (i + j, e.val)) w ∧ es[j]? = some e ∧ e.key = x := by
      intro w x hx es
      induction es with
      | nil => intro i _; exact Or.inl ⟨rfl, fun e he => by cases he⟩
      | cons e es ih =>
        intro i hes
        have he := hes e (by simp)
        by_cases hq : e.key = x
        · right
          refine ⟨0, e, ?_, rfl, hq⟩
          have hrun := same w hx
          rw [Instr.findAsking, hq]
          simp only [Sem.run_bind, hrun, Result.andThen]
          rfl
        · have hrun := diff w hx he (fun h => hq h.symm)
          have e1 : (Instr.findAsking k x (e :: es) i).run P w = (Instr.findAsking k x es (i + 1)).run P w := by
            rw [Instr.findAsking]
            simp only [Sem.run_bind, hrun, Result.andThen]
            rfl
          rw [e1]
          rcases ih (i + 1) (fun e' he' => hes e' (by simp [he'])) with ⟨h1, h2⟩ | ⟨j, e', h1, h2, h3⟩
          · left
            refine ⟨h1, fun e' he' => ?_⟩
            rcases List.mem_cons.1 he' with rfl | he'
            · exact hq
            · exact h2 e' he'
          · right
            exact ⟨j + 1, e', by rw [h1, show i + 1 + j = i + (j + 1) by omega], by simpa using h2, h3⟩
    intro w x hx es hes
    have hu : (Instr.findKey k x es).run P w = (Instr.findAsking k x es).run P w := by
      simp only [Instr.findKey, Sem.run_bind, run_underlying hd, Result.andThen]
      cases es with
      | nil => rfl
      | cons e es =>
        have h0 : Instr.findNow d x (e :: es) 0 = none := by
          rw [Instr.findNow, hn x e.key hx]
        rw [h0]
    rw [hu]
    rcases ask w hx es 0 hes with h | ⟨j, e, h1, h2, h3⟩
    · exact Or.inl h
    · exact Or.inr ⟨j, e, by rw [h1, Nat.zero_add], h2, h3⟩

theorem own_mono {w : World} {base base' : Nat} {e : TypeId} {size : Nat} {v : Value} {n : Nat} {xs : List Value} (h : w.ownsRow base e size v n xs) (hb : base' ≤ base) : w.ownsRow base' e size v n xs :=
  ⟨h.1, h.2.imp id (fun ⟨g, cap, cur, a, b, r⟩ => ⟨g, cap, cur, a, Nat.le_trans hb b, r⟩)⟩

/-- Block b of w is a map with just these entries, in the order in which they came. -/
def Mp (w : World) (b : Nat) (l : List (Value × Value)) : Prop :=
  ∃ es clock, w.heap[b]? = some (.map es clock) ∧ es.toList.map (fun e => (e.key, e.val)) = l ∧ (∀ e ∈ es.toList, e.born < clock) ∧ (es.toList.map (·.born)).Nodup

section
variable {P : Program} {w w' : World} {b : Nat} {l : List (Value × Value)} {k e t : TypeId} {S : Value → Prop}

theorem Mp.lt (h : Mp w b l) : b < w.heap.size := by
  obtain ⟨es, clock, hb, _⟩ := h
  exact (Array.getElem?_eq_some_iff.1 hb).1

theorem Mp.kept (h : Mp w b l) (hk : w'.heap[b]? = w.heap[b]?) : Mp w' b l := by
  obtain ⟨es, clock, hb, h1⟩ := h
  exact ⟨es, clock, hk.trans hb, h1⟩

theorem Mp.grown {row : Option Nat} (h : Mp w b l) (hg : w.grownBy w' row) (hne : some b ≠ row) : Mp w' b l := h.kept (hg.block b h.lt hne)

theorem Mp.below {B : Nat} (h : Mp w b l) (hb : Below B w w') (hlt : b < B) : Mp w' b l := h.kept (hb.block b hlt)

theorem Mp.alloc (h : Mp w b l) (o : Obj) : Mp (w.alloc o) b l := h.grown (World.grownBy_alloc w o none) (by simp)

theorem Mp.drew (h : Mp w b l) : Mp w.drew b l := h

theorem Mp.drewN (h : Mp w b l) (q : Nat) : Mp (w.drewN q) b l := h

theorem Mp.set (h : Mp w b l) {p : Addr} (hp : b ≠ p.block) (u : Value) : Mp (w.setCell p u) b l := h.kept (Below.heap_setCell w p u b hp)

theorem Mp.made (w : World) : Mp (w.alloc (.map #[] 0)) w.heap.size [] := ⟨#[], 0, (MapKept.heap_alloc w _).1, rfl, by simp, by simp⟩

theorem mem_key {es : Array MapEntry} (h : es.toList.map (fun e => (e.key, e.val)) = l) (hS : ∀ p ∈ l, S p.1) : ∀ e ∈ es.toList, S e.key := fun e he =>
  hS (e.key, e.val) (h ▸ List.mem_map.2 ⟨e, he, rfl⟩)

/-- A look-up of a key that is not there. -/
theorem Mp.out (h : Mp w b l) (K : KeyT P k S) (ht : P.underlying t = some (.map k e)) {z : Value} (hz : (zeroValue e).run P w = .ok z w) (hS : ∀ p ∈ l, S p.1) {x : Value} (hx : S x) (hno : ∀ p ∈ l, p.1 ≠ x) (ok : Bool) :
    (Instr.lookup t (.map (some b)) x ok).run P w = .ok (if ok then .tuple #[z, .bool false] else z) w := by
  obtain ⟨es, clock, hb, hl, _⟩ := h
  rcases K.find w hx es.toList (mem_key hl hS) with ⟨hrun, _⟩ | ⟨j, e0, _, hj, hk⟩
  · simp [Instr.lookup, run_underlying ht, MapKept.run_getObj_map hb, K.check w es.isEmpty hx, hrun, hz, Result.andThen]
  · exact absurd hk (hno (e0.key, e0.val) (hl ▸ List.mem_map.2 ⟨e0, List.mem_of_getElem? hj, rfl⟩))

theorem nodup_inj {α : Type} {l : List α} (hd : l.Nodup) {i j : Nat} {a : α} (h1 : l[i]? = some a) (h2 : l[j]? = some a) : i = j := by
  obtain ⟨hi, e1⟩ := List.getElem?_eq_some_iff.1 h1
  obtain ⟨hj, e2⟩ := List.getElem?_eq_some_iff.1 h2
  have hp := List.pairwise_iff_getElem.1 hd
  rcases Nat.lt_trichotomy i j with h | h | h
  · exact absurd (e1.trans e2.symm) (hp i j hi hj h)
  · exact h
  · exact absurd (e2.trans e1.symm) (hp j i hj hi h)

theorem key_idx (hd : (l.map Prod.fst).Nodup) {x u v : Value} {i j : Nat} (h1 : l[i]? = some (x, u)) (h2 : l[j]? = some (x, v)) : i = j :=
  nodup_inj hd (a := x) (by rw [List.getElem?_map, h1]; rfl) (by rw [List.getElem?_map, h2]; rfl)

theorem key_one (hd : (l.map Prod.fst).Nodup) {x u v : Value} (h1 : (x, u) ∈ l) (h2 : (x, v) ∈ l) : u = v := by
  obtain ⟨i, e1⟩ := List.getElem?_of_mem h1
  obtain ⟨j, e2⟩ := List.getElem?_of_mem h2
  obtain rfl := key_idx hd e1 e2
  rw [e1] at e2
  cases e2
  rfl

/-- A look-up of a key that is there. -/
theorem Mp.in (h : Mp w b l) (K : KeyT P k S) (ht : P.underlying t = some (.map k e)) (hS : ∀ p ∈ l, S p.1) (hd : (l.map Prod.fst).Nodup) {x v : Value} (hx : S x) (hin : (x, v) ∈ l) (ok : Bool) :
    (Instr.lookup t (.map (some b)) x ok).run P w = .ok (if ok then .tuple #[v, .bool true] else v) w := by
  obtain ⟨es, clock, hb, hl, _⟩ := h
  rcases K.find w hx es.toList (mem_key hl hS) with ⟨_, hno⟩ | ⟨j, e0, hrun, hj, hk⟩
  · rw [← hl] at hin
    obtain ⟨e0, he, hq⟩ := List.mem_map.1 hin
    exact absurd (congrArg Prod.fst hq) (hno e0 he)
  · have hv : e0.val = v := key_one hd (x := x) (by rw [← hl, ← hk]; exact List.mem_map.2 ⟨e0, List.mem_of_getElem? hj, rfl⟩) hin
    simp [Instr.lookup, run_underlying ht, MapKept.run_getObj_map hb, K.check w es.isEmpty hx, hrun, hv, Result.andThen]

theorem grown_block {es : Array MapEntry} {c : Nat} (hb : w.heap[b]? = some (.map es c)) (o' : Obj) : w.grownBy (setBlock w b o') (some b) := by
  exact ⟨rfl, rfl, rfl, by simp [setBlock], fun i _ hi => heap_setBlock_other hb _ (fun e => hi (by rw [e]))⟩

/-- A store at a key that is not there. -/
theorem Mp.new (h : Mp w b l) (K : KeyT P k S) (ht : P.underlying t = some (.map k e)) (hS : ∀ p ∈ l, S p.1) {x : Value} (v : Value) (hx : S x) (hno : ∀ p ∈ l, p.1 ≠ x) :
    ∃ w', (Instr.mapUpdate t (.map (some b)) x v).run P w = .ok () w' ∧ Mp w' b (l ++ [(x, v)]) ∧ w.grownBy w' (some b) ∧ w'.heap.size = w.heap.size := by
  obtain ⟨es, clock, hb, hl, hborn, hnd⟩ := h
  rcases K.find w hx es.toList (mem_key hl hS) with ⟨hrun, _⟩ | ⟨j, e0, _, hj, hk⟩
  · refine ⟨setBlock w b (.map (es.push ⟨x, v, clock⟩) (clock + 1)), ?_, ⟨_, _, heap_setBlock_same hb _, ?_, ?_, ?_⟩, grown_block hb _, by simp [setBlock]⟩
    · simp [Instr.mapUpdate, run_underlying ht, MapKept.run_getObj_map hb, K.check w false hx, hrun, MapKept.run_setObj_map _ hb, Result.andThen, setBlock]
    · rw [Array.toList_push, List.map_append, hl]; rfl
    · intro e' he'
      rw [Array.toList_push, List.mem_append] at he'
      rcases he' with he' | he'
      · have := hborn e' he'; omega
      · obtain rfl := List.mem_singleton.1 he'; exact Nat.lt_succ_self _
    · rw [Array.toList_push, List.map_append, List.nodup_append]
      refine ⟨hnd, by simp, fun a ha c hc => ?_⟩
      obtain ⟨e', he', rfl⟩ := List.mem_map.1 ha
      have h1 := hborn e' he'
      simp at hc
      omega
  · exact absurd hk (hno (e0.key, e0.val) (hl ▸ List.mem_map.2 ⟨e0, List.mem_of_getElem? hj, rfl⟩))

/-- A store at a key that is there. -/
theorem Mp.old (h : Mp w b l) (K : KeyT P k S) (ht : P.underlying t = some (.map k e)) (hS : ∀ p ∈ l, S p.1) (hd : (l.map Prod.fst).Nodup) {x u : Value} (v : Value) (hx : S x) {j : Nat} (hin : l[j]? = some (x, u)) :
    ∃ w', (Instr.mapUpdate t (.map (some b)) x v).run P w = .ok () w' ∧ Mp w' b (l.set j (x, v)) ∧ w.grownBy w' (some b) ∧ w'.heap.size = w.heap.size := by
  obtain ⟨es, clock, hb, hl, hborn, hnd⟩ := h
  rcases K.find w hx es.toList (mem_key hl hS) with ⟨_, hno⟩ | ⟨i, e0, hrun, hi, hk⟩
  · have hm := List.mem_of_getElem? hin
    rw [← hl] at hm
    obtain ⟨e0, he, hq⟩ := List.mem_map.1 hm
    exact absurd (congrArg Prod.fst hq) (hno e0 he)
  · have hli : l[i]? = some (e0.key, e0.val) := by rw [← hl, List.getElem?_map, hi]; rfl
    rw [hk] at hli
    obtain rfl := key_idx hd hli hin
    have hget : es[i]? = some e0 := by rw [← Array.getElem?_toList]; exact hi
    refine ⟨setBlock w b (.map (es.modify i fun e => { e with key := x, val := v }) clock), ?_, ⟨_, _, heap_setBlock_same hb _, ?_, ?_, ?_⟩, grown_block hb _, by simp [setBlock]⟩
    · have hst := K.stays w hx
      have hck := K.check w false hx
      subst hk
      simp [Instr.mapUpdate, run_underlying ht, MapKept.run_getObj_map hb, hck, hrun, hget, hst, MapKept.run_setObj_map _ hb, Result.andThen, setBlock]
    · rw [Array.toList_modify, ← hl]
      refine List.ext_getElem? fun n => ?_
      rw [List.getElem?_map, List.getElem?_modify, List.getElem?_set]
      by_cases hn : i = n
      · subst hn
        have : i < es.toList.length := (List.getElem?_eq_some_iff.1 hi).1
        rw [Array.length_toList] at this
        simp [this]
      · simp [hn]
    · intro e' he'
      rw [Array.toList_modify] at he'
      obtain ⟨n, hn⟩ := List.getElem?_of_mem he'
      rw [List.getElem?_modify] at hn
      obtain ⟨e1, h1, rfl⟩ := Option.map_eq_some_iff.1 hn
      have := hborn e1 (List.mem_of_getElem? h1)
      split <;> exact this
    · have : (es.modify i fun e => { e with key := x, val := v }).toList.map (·.born) = es.toList.map (·.born) := by
        rw [Array.toList_modify]
        refine List.ext_getElem? fun n => ?_
        rw [List.getElem?_map, List.getElem?_map, List.getElem?_modify]
        cases es.toList[n]? <;> simp
        split <;> rfl
      rw [this]
      exact hnd

/-- 'm[k]' at the operation. -/
theorem wp_look {ops : Array Oper} {rest : List Oper} {o : Oper} {a : Act} {Q : Exit → Act → World → Prop}
    (hg : o.guard = none) (m x : Operand) (ok : Bool) (hop : o.op = Op.lookup t m x ok) (key r : Value) (hm : a.eval m = .map (some b)) (hx : a.eval x = key)
    (hrun : (Instr.lookup t (.map (some b)) key ok).run P w = .ok r w) (hK : wpList P ops Q rest (a.put o.dst r) w) : wpList P ops Q (o :: rest) a w := by
  refine wpList_plain hg fun K' hK' => ?_
  unfold Oper.wp
  simp [execOp, hop, hm, hx, hrun, Result.andThen]
  exact hK' _ _ hK

/-- 'm[k] = v' at the operation. -/
theorem wp_store {ops : Array Oper} {rest : List Oper} {o : Oper} {a : Act} {Q : Exit → Act → World → Prop}
    (hg : o.guard = none) (m x v : Operand) (hop : o.op = Op.mapUpdate t m x v) (key u : Value) (hm : a.eval m = .map (some b)) (hx : a.eval x = key) (hv : a.eval v = u)
    (l' : List (Value × Value)) (hrun : ∃ w', (Instr.mapUpdate t (.map (some b)) key u).run P w = .ok () w' ∧ Mp w' b l' ∧ w.grownBy w' (some b) ∧ w'.heap.size = w.heap.size)
    (hK : ∀ w', Mp w' b l' → w.grownBy w' (some b) → w'.heap.size = w.heap.size → wpList P ops Q rest (a.put o.dst undef) w') : wpList P ops Q (o :: rest) a w := by
  obtain ⟨w', h1, h2, h3, h4⟩ := hrun
  refine wpList_plain hg fun K' hK' => ?_
  unfold Oper.wp
  simp [execOp, hop, hm, hx, hv, h1, Result.andThen]
  exact hK' _ _ (hK w' h2 h3 h4)
end
end Go.Proofs.YtmkcjjgicinggaaGreatDoor.MapK
