/- A law for the one loop over the program's iterator upward: what the loop's body must do in each round, and what then holds behind the loop, which is left by its break. -/
import Derived.Test.YtkfibepejlgniaaGreatDoorAbvIter
namespace Go.Proofs.YtkfibepejlgniaaGreatDoor.AbvLaw
open Go.RowKit Go.Shelf Go.Proofs.YtkfibepejlgniaaGreatDoor.Mem Go.Proofs.YtkfibepejlgniaaGreatDoor.MemS Go.Proofs.YtkfibepejlgniaaGreatDoor.Split Go.Proofs.YtkfibepejlgniaaGreatDoor.Labels Go.Proofs.YtkfibepejlgniaaGreatDoor.NameOk Go.Proofs.YtkfibepejlgniaaGreatDoor.AbvIter

/-- The three blocks that the body leaves alone: the iterator's captured variable, the rounds' deferred calls, the loop's record. -/
def Kp (Bs D : Nat) (W W' : World) : Prop := W'.heap[Bs]? = W.heap[Bs]? ∧ W'.heap[D]? = W.heap[D]? ∧ W'.heap[D + 1]? = W.heap[D + 1]?
/-- How a round may end: it goes on, or it breaks. -/
def Rd (Bs D N id i : Nat) (I : Nat → World → Prop) (Ix : World → Prop) (W : World) : Exit → Act → World → Prop
  | .normal, _, W' => i < N ∧ I (i + 1) W' ∧ Kp Bs D W W'
  | .exit k, _, W' => k = id ∧ Ix W' ∧ Kp Bs D W W'
  | _, _, _ => False
/-- A statement on worlds that minds neither new blocks nor a turn of these three. -/
def Calm (Bs D : Nat) (I : World → Prop) : Prop := ∀ W W' row, I W → W.grownBy W' row → (∀ r, row = some r → r = Bs ∨ r = D ∨ r = D + 1) → I W'
theorem Calm.put {Bs D : Nat} {I : World → Prop} (h : Calm Bs D I) {W : World} (l : Nat) (o : Obj) (hI : I W) (hl : l = D ∨ l = D + 1) : I (W.putObj l o) :=
  h W _ (some l) hI (grownBy_putObj' W l o) (fun r e => by cases e; exact Or.inr hl)
theorem Calm.alloc {Bs D : Nat} {I : World → Prop} (h : Calm Bs D I) {W : World} (o : Obj) (hI : I W) : I (W.alloc o) :=
  h W _ none hI (World.grownBy_alloc W o none) (fun r e => by cases e)

theorem range {g : Operand} {ps : Array Tmp} {assign body : Code} {Q : Exit → Act → World → Prop} {a : Act} {w : World} (n : Nat) (hn : 3 ≤ n) (s : ByteArray) (hok : okL (Lab s) = true) (hz : s.size ≤ 1048576) (Bs : Nat) (hBs : Bs < w.heap.size)
    (hg : a.eval g = .func (.func 185) #[] #[.pointer (some ⟨Bs, 0, none⟩)]) (hps : ps.size = 1)
    (I : Nat → World → Prop) (Ix : World → Prop) (id : Nat) (hI : ∀ i, Calm Bs w.heap.size (I i)) (hIx : Calm Bs w.heap.size Ix) (hIe : ∀ i W, I i W → Env W)
    (h0 : I 0 w) (hbox : Boxed w Bs 9 (.string s)) (a₁ : Nat → Act)
    (hassign : ∀ (l i : Nat) (W : World) (K : Act → World → Prop), K (a₁ i) W →
      assign.wpIn (Fence.wide.inRound l) (n - 1 - 1) Tryz.prog (Exit.then K (fun _ _ _ => False)) { tmps := (ps.zip #[.string (u s i)]).foldl (fun t (p, v) => t.setIfInBounds p v) a.tmps, defers := [] } W)
    (hbody : ∀ (l i : Nat) (W : World), I i W → i ≤ (Lab s).length → W.heap[w.heap.size]? = some (.deferred (some [])) → (∃ r, W.heap[w.heap.size + 1]? = some (.loop r)) →
      body.wpIn (Fence.wide.inRound l) (n - 1 - 1) Tryz.prog (Rd Bs w.heap.size (Lab s).length id i I Ix W) (a₁ i) W)
    (hstop : ∀ W : World, Ix W → W.heap[w.heap.size]? = some (.deferred (some [])) → (Code.exit id).wpIn Fence.wide n Tryz.prog Q { a with defers := { target := .collected w.heap.size, args := #[] } :: a.defers } W) :
    (Code.rangeFunc g ps assign body).wpIn Fence.wide n Tryz.prog Q a w := by
  have eg : ∀ args w, (callFunc 185 args).run Tryz.prog w = .ok (.enter 185 args) w := enters_of Tryz.func185 (by kernel_rfl) rfl
  refine wpIn_rangeFunc fun fn hfn => ?_
  rw [show Fence.wide.round = none from rfl]
  let rc : LoopState → Option Code → Loop := fun st pe => { state := st, pending := pe, fn, tmps := a.tmps, params := ps, assign, body, defers := w.heap.size }
  have hw1 : ∃ W1 : World, W1 = (w.alloc (.deferred (some []))).alloc (.loop (rc .ready none)) := ⟨_, rfl⟩
  obtain ⟨W1, hW1⟩ := hw1
  have hL : W1.heap[w.heap.size + 1]? = some (.loop (rc .ready none)) := by
    have h := World.alloc_heap_new (w.alloc (.deferred (some []))) (.loop (rc .ready none))
    rw [World.size_alloc] at h
    rw [hW1]
    exact h
  have hD : W1.heap[w.heap.size]? = some (.deferred (some [])) := by
    rw [hW1]
    exact (Below.heap_alloc _ _ _ (by simp)).trans (World.alloc_heap_new w _)
  have hB1 : Boxed W1 Bs 9 (.string s) := by
    rw [hW1]
    exact (hbox.alloc _).alloc _
  have hI1 : I 0 W1 := by
    rw [hW1]
    exact (hI 0).alloc _ ((hI 0).alloc _ h0)
  refine ⟨w.heap.size + 1, [{ target := .collected w.heap.size, args := #[] }], W1, { target := .fn (.func 185) #[.pointer (some ⟨Bs, 0, none⟩)], args := #[.func (.yield (w.heap.size + 1)) #[] #[]] }, W1, 185,
    #[.func (.yield (w.heap.size + 1)) #[] #[], .pointer (some ⟨Bs, 0, none⟩)], W1, ?_, ?_, fun _ _ => trivial, ?_, fun _ => by omega, ?_⟩
  · rw [hW1]
    exact run_enterLoop_outer _ _ _ _ _
  · simp only [resolve, hg]
    simp [go_sem]
  · simp [invoke, go_sem, eg]
  · refine (iter (n - 1) (w.heap.size + 1) Bs (by omega) s hok hz
      (fun i W => I i W ∧ W.heap[w.heap.size + 1]? = some (.loop (rc .ready none)) ∧ W.heap[w.heap.size]? = some (.deferred (some [])))
      (fun W => Ix W ∧ W.heap[w.heap.size + 1]? = some (.loop (rc .done (some (.exit id)))) ∧ W.heap[w.heap.size]? = some (.deferred (some [])))
      ?_ ?_ (fun i W h => hIe i W h.1) W1 ⟨hI1, hL, hD⟩ hB1).mono ?_
    · rintro i W ⟨hi, hl, hk⟩ hle
      have hlt : w.heap.size + 1 < W.heap.size := (Array.getElem?_eq_some_iff.1 hl).1
      refine ⟨fn, _, assign, body, run_yield (P := Tryz.prog) (args := #[.string (u s i)]) hl (by show 1 = ps.size; rw [hps]), roundIn_of_wpIn hfn (hassign _ i W _ ⟨_, run_beginRound hl rfl, ?_⟩)⟩
      have hl2 : (W.putObj (w.heap.size + 1) (.loop (rc .busy none))).heap[w.heap.size + 1]? = some (.loop (rc .busy none)) := World.putObj_heap_same hlt
      have hk2 : (W.putObj (w.heap.size + 1) (.loop (rc .busy none))).heap[w.heap.size]? = some (.deferred (some [])) := (World.putObj_heap_other (by omega)).trans hk
      have hb2 : (W.putObj (w.heap.size + 1) (.loop (rc .busy none))).heap[Bs]? = W.heap[Bs]? := World.putObj_heap_other (by omega)
      refine wpIn_mono (hbody _ i _ ((hI i).put _ _ hi (Or.inr rfl)) hle hk2 ⟨_, hl2⟩) ?_
      rintro e a3 W3 hp
      cases e with
      | normal =>
        obtain ⟨hiN, hi3, hKb, hKd, hKl⟩ := hp
        have hl3 : W3.heap[w.heap.size + 1]? = some (.loop (rc .busy none)) := hKl.trans hl2
        have hlt3 := (Array.getElem?_eq_some_iff.1 hl3).1
        exact ⟨_, _, run_endRound (P := Tryz.prog) none hl3, .inl ⟨rfl, hiN, ⟨(hI (i + 1)).put _ _ hi3 (Or.inr rfl), World.putObj_heap_same hlt3, (World.putObj_heap_other (by omega)).trans (hKd.trans hk2)⟩, (World.putObj_heap_other (by omega)).trans (hKb.trans hb2)⟩⟩
      | exit k =>
        obtain ⟨rfl, hi3, hKb, hKd, hKl⟩ := hp
        have hl3 : W3.heap[w.heap.size + 1]? = some (.loop (rc .busy none)) := hKl.trans hl2
        have hlt3 := (Array.getElem?_eq_some_iff.1 hl3).1
        exact ⟨_, _, run_endRound (P := Tryz.prog) (some (.exit k)) hl3, .inr ⟨rfl, hIx.put _ _ hi3 (Or.inr rfl), World.putObj_heap_same hlt3, (World.putObj_heap_other (by omega)).trans (hKd.trans hk2)⟩⟩
      | ret => exact hp.elim
      | goto t => exact hp.elim
      | panic c => exact hp.elim
      | outgrown => exact hp.elim
    · rintro i W W' row ⟨hi, hl, hk⟩ hgr hrow
      exact ⟨hI i W W' row hi hgr (fun r e => Or.inl (hrow r e)), (hgr.block _ (Array.getElem?_eq_some_iff.1 hl).1 (fun e => by have := hrow _ e.symm; omega)).trans hl, (hgr.block _ (Array.getElem?_eq_some_iff.1 hk).1 (fun e => by have := hrow _ e.symm; omega)).trans hk⟩
    · rintro e W2 ⟨⟨v, rfl⟩, hx, hl, hk⟩
      exact ⟨some (.exit id), _, run_endLoop (P := Tryz.prog) hl (by simp [rc]), hstop _ (hIx.put _ _ hx (Or.inr rfl)) ((World.putObj_heap_other (by omega)).trans hk)⟩
end Go.Proofs.YtkfibepejlgniaaGreatDoor.AbvLaw
