/- What the program's GetRecord does: it reads a record as FieldMath tells (gr), and turns nothing that was there. Conditions: at most 400000000 bytes; the library's variable internal/bytealg.MaxLen holds an int. -/
import Derived.Test.YtcpadkehalgddaaGreatDoorFieldsP1
import Derived.Deep.AppendLies
import Derived.Test.YtcpadkehalgddaaGreatDoorPutSpec
import Derived.Test.YtcpadkehalgddaaGreatDoorFieldMath
import Derived.Test.YtcpadkehalgddaaGreatDoorNameGet
import Derived.Test.YtcpadkehalgddaaGreatDoorResR
import Derived.Test.YtcpadkehalgddaaGreatDoorWireMath
/- A law for the one loop over the program's iterator upward: what the loop's body must do in each round, and what then holds behind the loop, which is left by its break. -/
namespace Go.Proofs.YtcpadkehalgddaaGreatDoor.AbvLaw
open Go.RowKit Go.Shelf Go.Proofs.YtcpadkehalgddaaGreatDoor.Mem Go.Proofs.YtcpadkehalgddaaGreatDoor.MemS Go.Proofs.YtcpadkehalgddaaGreatDoor.Split Go.Proofs.YtcpadkehalgddaaGreatDoor.Labels Go.Proofs.YtcpadkehalgddaaGreatDoor.NameOk Go.Proofs.YtcpadkehalgddaaGreatDoor.AbvIter

/-- The three blocks that the body leaves alone: the iterator's captured variable, the rounds' deferred calls, the loop's record. -/
def Kp (Bs D : Nat) (W W' : World) : Prop := W'.heap[Bs]? = W.heap[Bs]? ∧ W'.heap[D]? = W.heap[D]? ∧ W'.heap[D + 1]? = W.heap[D + 1]?
/-- How a round may end: it goes on, or it breaks. -/
def Rd (Bs D N id i : Nat) (I : Nat → World → Prop) (Ix : World → Prop) (W : World) : Exit → Act → World → Prop
  | .normal, _, W' => i < N ∧ I (i + 1) W' ∧ Kp Bs D W W'
  | .exit k, _, W' => k = id ∧ Ix W' ∧ Kp Bs D W W'
  | _, _, _ => False
/-- A statement on worlds that minds neither new blocks nor a turn of these three. -/
def Calm (Bs D : Nat) (I : World → Prop) : Prop := ∀ W W' row, I W → W.grownBy W' row → (∀ r, row = some r → r = Bs ∨ r = D ∨ r = D + 1) → I W'
theorem Calm.put {Bs D : Nat} {I : World → Prop} (h : Calm Bs D I) {W : World} (l : Nat) (o : Obj) (hI : I W) (hl : l = D ∨ l = D + 1) : I (W.putObj l o) :=
  h W _ (some l) hI (grownBy_putObj' W l o) (fun r e => by cases e; exact Or.inr hl)
theorem Calm.alloc {Bs D : Nat} {I : World → Prop} (h : Calm Bs D I) {W : World} (o : Obj) (hI : I W) : I (W.alloc o) :=
  h W _ none hI (World.grownBy_alloc W o none) (fun r e => by cases e)

theorem range {g : Operand} {ps : Array Tmp} {assign body : Code} {Q : Exit → Act → World → Prop} {a : Act} {w : World} (n : Nat) (hn : 3 ≤ n) (s : ByteArray) (hok : okL (Lab s) = true) (hz : s.size ≤ 1048576) (Bs : Nat) (hBs : Bs < w.heap.size)
    (hg : a.eval g = .func (.func 101) #[] #[.pointer (some ⟨Bs, 0, none⟩)]) (hps : ps.size = 1)
    (I : Nat → World → Prop) (Ix : World → Prop) (id : Nat) (hI : ∀ i, Calm Bs w.heap.size (I i)) (hIx : Calm Bs w.heap.size Ix) (hIe : ∀ i W, I i W → Env W)
    (h0 : I 0 w) (hbox : Boxed w Bs 9 (.string s)) (a₁ : Nat → Act)
    (hassign : ∀ (l i : Nat) (W : World) (K : Act → World → Prop), K (a₁ i) W →
      assign.wpIn (Fence.wide.inRound l) (n - 1 - 1) Tryz.prog (Exit.then K (fun _ _ _ => False)) { tmps := (ps.zip #[.string (u s i)]).foldl (fun t (p, v) => t.setIfInBounds p v) a.tmps, defers := [] } W)
    (hbody : ∀ (l i : Nat) (W : World), I i W → i ≤ (Lab s).length → W.heap[w.heap.size]? = some (.deferred (some [])) → (∃ r, W.heap[w.heap.size + 1]? = some (.loop r)) →
      body.wpIn (Fence.wide.inRound l) (n - 1 - 1) Tryz.prog (Rd Bs w.heap.size (Lab s).length id i I Ix W) (a₁ i) W)
    (hstop : ∀ W : World, Ix W → W.heap[w.heap.size]? = some (.deferred (some [])) → (Code.exit id).wpIn Fence.wide n Tryz.prog Q { a with defers := { target := .collected w.heap.size, args := #[] } :: a.defers } W) :
    (Code.rangeFunc g ps assign body).wpIn Fence.wide n Tryz.prog Q a w := by
  have eg : ∀ args w, (callFunc 101 args).run Tryz.prog w = .ok (.enter 101 args) w := enters_of Tryz.func101 (by kernel_rfl) rfl
  refine wpIn_rangeFunc fun fn hfn => ?_
  rw [show Fence.wide.round = none from rfl]
  let rc : LoopState → Option Code → Loop := fun st pe => { state := st, pending := pe, fn, tmps := a.tmps, params := ps, assign, body, defers := w.heap.size }
  have hw1 : ∃ W1 : World, W1 = (w.alloc (.deferred (some []))).alloc (.loop (rc .ready none)) := ⟨_, rfl⟩
  obtain ⟨W1, hW1⟩ := hw1
  have hL : W1.heap[w.heap.size + 1]? = some (.loop (rc .ready none)) := by
    have h := World.alloc_heap_new (w.alloc (.deferred (some []))) (.loop (rc .ready none))
    rw [World.size_alloc] at h
    rw [hW1]
    exact h
  have hD : W1.heap[w.heap.size]? = some (.deferred (some [])) := by
    rw [hW1]
    exact (Below.heap_alloc _ _ _ (by simp)).trans (World.alloc_heap_new w _)
  have hB1 : Boxed W1 Bs 9 (.string s) := by
    rw [hW1]
    exact (hbox.alloc _).alloc _
  have hI1 : I 0 W1 := by
    rw [hW1]
    exact (hI 0).alloc _ ((hI 0).alloc _ h0)
  refine ⟨w.heap.size + 1, [{ target := .collected w.heap.size, args := #[] }], W1, { target := .fn (.func 101) #[.pointer (some ⟨Bs, 0, none⟩)], args := #[.func (.yield (w.heap.size + 1)) #[] #[]] }, W1, 101,
    #[.func (.yield (w.heap.size + 1)) #[] #[], .pointer (some ⟨Bs, 0, none⟩)], W1, ?_, ?_, fun _ _ => trivial, ?_, fun _ => by omega, ?_⟩
  · rw [hW1]
    exact run_enterLoop_outer _ _ _ _ _
  · simp only [resolve, hg]
    simp [go_sem]
  · simp [invoke, go_sem, eg]
  · refine (iter (n - 1) (w.heap.size + 1) Bs (by omega) s hok hz
      (fun i W => I i W ∧ W.heap[w.heap.size + 1]? = some (.loop (rc .ready none)) ∧ W.heap[w.heap.size]? = some (.deferred (some [])))
      (fun W => Ix W ∧ W.heap[w.heap.size + 1]? = some (.loop (rc .done (some (.exit id)))) ∧ W.heap[w.heap.size]? = some (.deferred (some [])))
      ?_ ?_ (fun i W h => hIe i W h.1) W1 ⟨hI1, hL, hD⟩ hB1).mono ?_
    · rintro i W ⟨hi, hl, hk⟩ hle
      have hlt : w.heap.size + 1 < W.heap.size := (Array.getElem?_eq_some_iff.1 hl).1
      refine ⟨fn, _, assign, body, run_yield (P := Tryz.prog) (args := #[.string (u s i)]) hl (by show 1 = ps.size; rw [hps]), roundIn_of_wpIn hfn (hassign _ i W _ ⟨_, run_beginRound hl rfl, ?_⟩)⟩
      have hl2 : (W.putObj (w.heap.size + 1) (.loop (rc .busy none))).heap[w.heap.size + 1]? = some (.loop (rc .busy none)) := World.putObj_heap_same hlt
      have hk2 : (W.putObj (w.heap.size + 1) (.loop (rc .busy none))).heap[w.heap.size]? = some (.deferred (some [])) := (World.putObj_heap_other (by omega)).trans hk
      have hb2 : (W.putObj (w.heap.size + 1) (.loop (rc .busy none))).heap[Bs]? = W.heap[Bs]? := World.putObj_heap_other (by omega)
      refine wpIn_mono (hbody _ i _ ((hI i).put _ _ hi (Or.inr rfl)) hle hk2 ⟨_, hl2⟩) ?_
      rintro e a3 W3 hp
      cases e with
      | normal =>
        obtain ⟨hiN, hi3, hKb, hKd, hKl⟩ := hp
        have hl3 : W3.heap[w.heap.size + 1]? = some (.loop (rc .busy none)) := hKl.trans hl2
        have hlt3 := (Array.getElem?_eq_some_iff.1 hl3).1
        exact ⟨_, _, run_endRound (P := Tryz.prog) none hl3, .inl ⟨rfl, hiN, ⟨(hI (i + 1)).put _ _ hi3 (Or.inr rfl), World.putObj_heap_same hlt3, (World.putObj_heap_other (by omega)).trans (hKd.trans hk2)⟩, (World.putObj_heap_other (by omega)).trans (hKb.trans hb2)⟩⟩
      | exit k =>
        obtain ⟨rfl, hi3, hKb, hKd, hKl⟩ := hp
        have hl3 : W3.heap[w.heap.size + 1]? = some (.loop (rc .busy none)) := hKl.trans hl2
        have hlt3 := (Array.getElem?_eq_some_iff.1 hl3).1
        exact ⟨_, _, run_endRound (P := Tryz.prog) (some (.exit k)) hl3, .inr ⟨rfl, hIx.put _ _ hi3 (Or.inr rfl), World.putObj_heap_same hlt3, (World.putObj_heap_other (by omega)).trans (hKd.trans hk2)⟩⟩
      | ret => exact hp.elim
      | goto t => exact hp.elim
      | panic c => exact hp.elim
      | outgrown => exact hp.elim
    · rintro i W W' row ⟨hi, hl, hk⟩ hgr hrow
      exact ⟨hI i W W' row hi hgr (fun r e => Or.inl (hrow r e)), (hgr.block _ (Array.getElem?_eq_some_iff.1 hl).1 (fun e => by have := hrow _ e.symm; omega)).trans hl, (hgr.block _ (Array.getElem?_eq_some_iff.1 hk).1 (fun e => by have := hrow _ e.symm; omega)).trans hk⟩
    · rintro e W2 ⟨⟨v, rfl⟩, hx, hl, hk⟩
      exact ⟨some (.exit id), _, run_endLoop (P := Tryz.prog) hl (by simp [rc]), hstop _ (hIx.put _ _ hx (Or.inr rfl)) ((World.putObj_heap_other (by omega)).trans hk)⟩
end Go.Proofs.YtcpadkehalgddaaGreatDoor.AbvLaw

/- What the program's Above does at a valid name: a new slice with the name and all its ancestors up to and with the root. Conditions: the name is valid; the library's variable internal/bytealg.MaxLen holds an int. -/
namespace Go.Proofs.YtcpadkehalgddaaGreatDoor.AbvImpl
open Go.RowKit Go.Shelf Go.Proofs.YtcpadkehalgddaaGreatDoor.Mem Go.Proofs.YtcpadkehalgddaaGreatDoor.MemS Go.Proofs.YtcpadkehalgddaaGreatDoor.AppS Go.Proofs.YtcpadkehalgddaaGreatDoor.JoinSpec Go.Proofs.YtcpadkehalgddaaGreatDoor.Split Go.Proofs.YtcpadkehalgddaaGreatDoor.Labels Go.Proofs.YtcpadkehalgddaaGreatDoor.NameOk Go.Proofs.YtcpadkehalgddaaGreatDoor.AbvSpec Go.Proofs.YtcpadkehalgddaaGreatDoor.AbvIter Go.Proofs.YtcpadkehalgddaaGreatDoor.AbvLaw

attribute [local go_sem] Oper.semAt_some

/-- append of one new text onto a row of one's own inside a fence, with where the row lies behind it. -/
theorem append_in {F : Fence} {m : Nat} {P : Program} {w : World} {ops : Array Oper} {rest : List Oper} {o : Oper} {a : Act} {Q : Exit → Act → World → Prop} (hgd : o.guard = none) (s x : Operand) (t : TypeId)
    (ho : o.op = .call { callee := .builtin .append, args := #[s, x], argTypes := #[t, t] })
    (base : Nat) (e : TypeId) (i : TypeInfo) (z : Value) (ht : P.underlying t = some (.slice e)) (hi : P.info? e = some i) (hz : i.zero = some z)
    (hsize : i.size = 1) (hby : i.bytes = 16) (hzs : z.cells.size = 1)
    (g n cap : Nat) (l : List ByteArray) (hs : a.eval s = .slice (some ⟨g, 0, none⟩) n cap) (hown : w.ownsRow base e 1 (.slice (some ⟨g, 0, none⟩) n cap) n (l.map tv))
    (y : ByteArray) (hx : a.eval x = .slice (some ⟨w.heap.size, 0, none⟩) 1 1)
    (hn : n ≤ 800000000) (hbase : base ≤ w.heap.size)
    (h : ∀ g' cap' w', w'.ownsRow base e 1 (.slice (some ⟨g', 0, none⟩) (n + 1) cap') (n + 1) ((l ++ [y]).map tv) → (w.alloc (.cells #[.string y] e)).grownBy w' (some g) → (g = g' ∨ g' = w.heap.size + 1) → wpListIn F m P ops Q rest (a.put o.dst (.slice (some ⟨g', 0, none⟩) (n + 1) cap')) w') : wpListIn F m P ops Q (o :: rest) a (w.alloc (.cells #[.string y] e)) := by
  obtain ⟨g', cap', w', hrun, h1, h2, h3, _⟩ := run_append_lies (P := P) (w.alloc (.cells #[.string y] e)) t o.type base e i z 1 16 ht hi hz hsize hby hzs (by decide) _ n (l.map tv) (hown.alloc _) ⟨w.heap.size, 0, none⟩ 1 1 [.string y] rfl
    (fun j u hu => by
      have hj : j = 0 := by have := (List.getElem?_eq_some_iff.1 hu).1; simp at this; exact this
      subst hj
      have hb : Bk (w.alloc (.cells #[.string y] e)) w.heap.size e [.string y] := heap_alloc_new w _
      rw [Addr.add_lit, hb.cell]
      exact hu) (fun u hu => by simp at hu; subst hu; rfl) (by omega) (by unfold maxLen; omega) (by omega) (by simp; omega) (w.heap.size + 1) (by simp)
  have hfin := h g' cap' w' (by rw [List.map_append]; exact h1) h2 (by
    rcases h3 with h3 | h3
    · exact Or.inl (Option.some.inj h3)
    · exact Or.inr h3)
  refine wpListIn_plain hgd fun K hK => ?_
  unfold Oper.wpIn
  refine ⟨by simp [Oper.about, ho, resolve, Target.leads, Sem.run_pure], ?_⟩
  rw [Oper.semAt_plain F _ _ (by rw [ho]; intro c hc; cases hc)]
  simp [execOp, ho, resolve, invoke, builtin, hs, hx, hrun, Result.andThen]
  exact hK _ _ hfin

set_option maxHeartbeats 1000000 in
theorem upward (m : Nat) (s : ByteArray) (w : World) : CallsIn Fence.wide m Tryz.prog 90 #[.string s] w fun e w' => e = .returned (.func (.func 101) #[] #[.pointer (some ⟨w.heap.size, 0, none⟩)]) ∧ w' = w.alloc (.cells #[.string s] 9) := by
  refine callsIn_of_wp Tryz.func90 rfl trivial ?_ rfl
  simp only [Tryz.ntmps90, List.size_toArray, List.length_cons, List.length_nil, Nat.reduceAdd, Nat.reduceSub, Array.replicate_succ, Array.replicate_zero, List.push_toArray, List.append_toArray, List.nil_append, List.cons_append]
  gi_wp2
  go_ret
  exact ⟨rfl, rfl⟩

/-- The first i of the joined labels. -/
def aup (s : ByteArray) (i : Nat) : List ByteArray := (List.range i).map (u s)
theorem aup_step (s : ByteArray) (i : Nat) : aup s (i + 1) = aup s i ++ [u s i] := by
  unfold aup
  rw [List.range_succ, List.map_append]
  rfl
theorem aup_ab (s : ByteArray) (k : Nat) : aup s (k + 1) = ab s k := rfl
/-- What holds between two rounds: the slice in its box owns the first i of them. -/
def Iv (w : World) (s : ByteArray) (i : Nat) (W : World) : Prop :=
  ∃ g cap, Boxed W (w.heap.size + 1) 87 (.slice (some ⟨g, 0, none⟩) i cap) ∧ W.ownsRow w.heap.size 9 1 (.slice (some ⟨g, 0, none⟩) i cap) i ((aup s i).map tv) ∧ g ≠ w.heap.size + 1 + 1 ∧ (g < w.heap.size + 3 ∨ w.heap.size + 5 ≤ g) ∧ Below w.heap.size w W
theorem Iv.calm (w : World) (s : ByteArray) (i : Nat) : AbvLaw.Calm (w.heap.size + 1 + 1) (w.heap.size + 3) (Iv w s i) := by
  rintro W W' row ⟨g, cap, hb, ho, hg, hg2, hl⟩ hgr hrow
  refine ⟨g, cap, hb.kept hgr (fun e => ?_), ho.kept hgr (Or.inr (fun e => ?_)), hg, hg2, hl.grown hgr hl.size (fun k hk => ?_)⟩
  · have := hrow _ e.symm
    omega
  · have := hrow _ e.symm
    simp at this
    omega
  · have := hrow _ hk
    omega

set_option maxRecDepth 100000 in
set_option maxHeartbeats 4000000 in
theorem impl (s : ByteArray) (w : World) (he : Env w) (hnm : Nm s = true) : Calls Tryz.prog 65 #[.string s] w (GivesS w (ab s (Lab s).length)) := by
  obtain ⟨i0, hi, hz0, hz1, hz2⟩ := info_parts AppS.info
  have hp : s.size ≤ 50 ∧ (Lab s).length ≤ 6 ∧ okL (Lab s) = true := by
    rw [Nm, Bool.and_eq_true, Bool.and_eq_true] at hnm
    exact ⟨of_decide_eq_true hnm.1.2, of_decide_eq_true hnm.2, hnm.1.1⟩
  obtain ⟨h50, h6, hok⟩ := hp
  refine (callsIn_wide (n := 5)).1 ?_
  refine callsIn_of_wp_marks Tryz.func65 rfl trivial ?_ rfl
  simp only [Tryz.ntmps65, List.size_toArray, List.length_cons, List.length_nil, Nat.reduceAdd, Nat.reduceSub, Array.replicate_succ, Array.replicate_zero, List.push_toArray, List.append_toArray, List.nil_append, List.cons_append]
  gi_wp2
  refine ⟨trivial, (upward _ s _).mono ?_⟩
  rintro e w' ⟨rfl, rfl⟩
  gi_wp2
  have hb0 : Boxed (((w.alloc (.cells #[] 9)).alloc (.cells #[.slice (some ⟨w.heap.size, 0, none⟩) 0 0] 87)).alloc (.cells #[.string s] 9)) (w.heap.size + 1 + 1) 9 (.string s) := by
    have := Boxed.new ((w.alloc (.cells #[] 9)).alloc (.cells #[.slice (some ⟨w.heap.size, 0, none⟩) 0 0] 87)) 9 (.string s)
    rw [World.size_alloc, World.size_alloc] at this
    exact this
  have hv0 : Iv w s 0 (((w.alloc (.cells #[] 9)).alloc (.cells #[.slice (some ⟨w.heap.size, 0, none⟩) 0 0] 87)).alloc (.cells #[.string s] 9)) := by
    refine ⟨w.heap.size, 0, ?_, ((AppS.owns_new w).alloc _).alloc _, by omega, by omega, (((Below.refl w.heap.size w).alloc (Nat.le_refl _) _).alloc (by simp) _).alloc (by simp; omega) _⟩
    have := Boxed.new (w.alloc (.cells #[] 9)) 87 (.slice (some ⟨w.heap.size, 0, none⟩) 0 0)
    rw [World.size_alloc] at this
    exact this.alloc _
  have hsz : (((w.alloc (.cells #[] 9)).alloc (.cells #[.slice (some ⟨w.heap.size, 0, none⟩) 0 0] 87)).alloc (.cells #[.string s] 9)).heap.size = w.heap.size + 3 := by simp
  generalize (((w.alloc (.cells #[] 9)).alloc (.cells #[.slice (some ⟨w.heap.size, 0, none⟩) 0 0] 87)).alloc (.cells #[.string s] 9)) = W0 at *
  have HE := Lib.hid he
  clear he
  refine AbvLaw.range 5 (by omega) s hok (by omega) (w.heap.size + 1 + 1) (by omega) rfl rfl (Iv w s) (Iv w s ((Lab s).length + 1)) 0 (fun i => by rw [hsz]; exact Iv.calm w s i) (by rw [hsz]; exact Iv.calm w s _)
    (fun i W h => by obtain ⟨_, _, _, _, _, _, hl⟩ := h; exact HE.out.below hl) hv0 hb0
    (fun i => { tmps := #[.string s, undef, .slice none 0 0, .pointer (some ⟨w.heap.size + 1, 0, none⟩), .string (u s i), .slice (some ⟨w.heap.size, 0, none⟩) 0 0, .string s, .func (.func 101) #[] #[.pointer (some ⟨w.heap.size + 1 + 1, 0, none⟩)], .string (u s i), undef, undef, undef, undef, undef, undef, undef], defers := [] }) ?assign ?body ?stop
  case assign =>
    intro l i W K hK
    gi_wp2
    exact hK
  case body =>
    rintro l i W ⟨g, cap, hb, ho, hg, hg2, hl⟩ hle hD ⟨r, hL⟩
    rw [hsz] at hD hL ⊢
    have hDl : w.heap.size + 3 < W.heap.size := (Array.getElem?_eq_some_iff.1 hD).1
    have hLl : w.heap.size + 3 + 1 < W.heap.size := (Array.getElem?_eq_some_iff.1 hL).1
    have hc := hb.cell
    have fin : ∀ (g' cap' : Nat) (w1 : World), w1.ownsRow w.heap.size 9 1 (.slice (some ⟨g', 0, none⟩) (i + 1) cap') (i + 1) ((aup s i ++ [u s i]).map tv) → (W.alloc (.cells #[.string (u s i)] 9)).grownBy w1 (some g) → (g = g' ∨ g' = W.heap.size + 1) →
        Boxed w1 (w.heap.size + 1) 87 (.slice (some ⟨g, 0, none⟩) i cap) ∧ Iv w s (i + 1) (w1.setCell ⟨w.heap.size + 1, 0, none⟩ (.slice (some ⟨g', 0, none⟩) (i + 1) cap')) ∧ Kp (w.heap.size + 1 + 1) (w.heap.size + 3) W (w1.setCell ⟨w.heap.size + 1, 0, none⟩ (.slice (some ⟨g', 0, none⟩) (i + 1) cap')) := by
      intro g' cap' w1 hown hgrow hlie
      have hgw := (ho.lt g rfl).1
      have hne : some (w.heap.size + 1) ≠ some g := hb.not_row (by decide) ho
      have hb1 : Boxed w1 (w.heap.size + 1) 87 (.slice (some ⟨g, 0, none⟩) i cap) := (hb.alloc _).kept hgrow hne
      have hne2 : some (w.heap.size + 1) ≠ some g' := hb1.not_row (by decide) hown
      have keep : ∀ k, k < W.heap.size → k ≠ g → k ≠ w.heap.size + 1 → (w1.setCell ⟨w.heap.size + 1, 0, none⟩ (.slice (some ⟨g', 0, none⟩) (i + 1) cap')).heap[k]? = W.heap[k]? := fun k h1 h2 h3 =>
        ((Below.heap_setCell w1 _ _ k h3).trans (hgrow.block k (by simp; omega) (fun e => h2 (Option.some.inj e)))).trans (Below.heap_alloc W _ k h1)
      refine ⟨hb1, ⟨g', cap', hb1.set _, ?_, by omega, by omega, ?_⟩, keep _ (by omega) (fun e => hg e.symm) (by omega), keep _ (by omega) (by omega) (by omega), keep _ (by omega) (by omega) (by omega)⟩
      · rw [aup_step]
        exact hown.kept (grownBy_setCell' w1 (w.heap.size + 1) _) (Or.inr (fun e => hne2 e.symm))
      · exact (((hl.alloc hl.size _).grown hgrow (by have := hl.size; simp; omega) (fun q hq => by cases hq; exact hgw)).setCell (p := ⟨w.heap.size + 1, 0, none⟩) (by show w.heap.size ≤ w.heap.size + 1; omega) _)
    have FIN := Lib.hid fin
    have HO := Lib.hid ho
    have HLS := Lib.hid hl.size
    clear fin ho hb hl hD hL
    by_cases hlt : i < (Lab s).length
    · have hne := Labels.not_empty _ (u_ne hok hlt)
      gi_wp2_with (gi_at_builtin; refine append_in rfl (.tmp 9) (.tmp 11) 87 rfl w.heap.size 9 i0 (.string ⟨#[]⟩) Tryz.underlying87 hi hz0 hz1 hz2 rfl g i cap (aup s i) rfl HO.out (u s i) rfl ?c1 ?c2 ?_)
      case c1 => omega
      case c2 => exact HLS.out
      intro g' cap' w1 hown hgrow hlie
      obtain ⟨hb1, hiv, hkp⟩ := FIN.out g' cap' w1 (by rw [List.map_append]; exact hown) hgrow hlie
      have hc1 := hb1.cell
      have hf1 := hb1.frozen
      have IV := Lib.hid hiv
      have KP := Lib.hid hkp
      clear hown hgrow hlie hiv hkp
      gi_wp2
      exact ⟨hlt, IV.out, KP.out⟩
    · have hiN : i = (Lab s).length := by omega
      subst hiN
      have hne : (u s (Lab s).length).toList.isEmpty = true := by rw [u_end, ByteArray.toList_eq]; rfl
      gi_wp2_with (gi_at_builtin; refine append_in rfl (.tmp 9) (.tmp 11) 87 rfl w.heap.size 9 i0 (.string ⟨#[]⟩) Tryz.underlying87 hi hz0 hz1 hz2 rfl g (Lab s).length cap (aup s (Lab s).length) rfl HO.out (u s (Lab s).length) rfl ?c1 ?c2 ?_)
      case c1 => omega
      case c2 => exact HLS.out
      intro g' cap' w1 hown hgrow hlie
      obtain ⟨hb1, hiv, hkp⟩ := FIN.out g' cap' w1 (by rw [List.map_append]; exact hown) hgrow hlie
      have hc1 := hb1.cell
      have hf1 := hb1.frozen
      have IV := Lib.hid hiv
      have KP := Lib.hid hkp
      clear hown hgrow hlie hiv hkp
      gi_wp2
      exact ⟨rfl, IV.out, KP.out⟩
  case stop =>
    rintro W ⟨g, cap, hb, ho, hg, hg2, hl⟩ hD
    rw [hsz] at hD ⊢
    have hc := hb.cell
    gi_wp2
    refine ⟨by simp, .inl ⟨_, _, rfl, run_takeDeferred hD, ?_⟩⟩
    refine ⟨_, results_tmp rfl _ _ _, ?_⟩
    rw [← aup_ab]
    exact AppS.gives_of_owns (ownsRow_putObj ho _ hD rfl) (hl.grown (grownBy_putObj' W _ _) hl.size (fun k e => by cases e; omega))
end Go.Proofs.YtcpadkehalgddaaGreatDoor.AbvImpl

/- What the program's PutName does: a new slice that holds the old bytes and what the model's PutName puts behind them. Conditions: at most 1048576 bytes in each argument; the library's variable internal/bytealg.MaxLen holds an int. -/
namespace Go.Proofs.YtcpadkehalgddaaGreatDoor.PutName
open Go.RowKit Go.Proofs.YtcpadkehalgddaaGreatDoor.Mem Go.Proofs.YtcpadkehalgddaaGreatDoor.MemS Go.Proofs.YtcpadkehalgddaaGreatDoor.AppS Go.Proofs.YtcpadkehalgddaaGreatDoor.App Go.Proofs.YtcpadkehalgddaaGreatDoor.JoinSpec Go.Proofs.YtcpadkehalgddaaGreatDoor.Split Go.Proofs.YtcpadkehalgddaaGreatDoor.Labels Go.Proofs.YtcpadkehalgddaaGreatDoor.Label Go.Proofs.YtcpadkehalgddaaGreatDoor.PutLabel Go.Proofs.YtcpadkehalgddaaGreatDoor.NameOk Go.Proofs.YtcpadkehalgddaaGreatDoor.Plain Go.Proofs.YtcpadkehalgddaaGreatDoor.Place Go.Proofs.YtcpadkehalgddaaGreatDoor.AbvSpec Go.Proofs.YtcpadkehalgddaaGreatDoor.Put Go.Proofs.YtcpadkehalgddaaGreatDoor.PutSpec

theorem bk_head {w : World} {g i : Nat} {t : TypeId} {L : List ByteArray} {r : List Value} (h : Bk w g t (L.map tv ++ r)) (hi : i ≤ L.length) : Ss w w.heap.size (some ⟨g, 0, none⟩) i (L.take i) := by
  have e : (L.take i).map tv ++ ((L.drop i).map tv ++ r) = L.map tv ++ r := by rw [← List.append_assoc, ← List.map_append, List.take_append_drop]
  exact bk_ssw (r := (L.drop i).map tv ++ r) (by rw [e]; exact h) (by rw [List.length_take]; omega)
theorem ptr_tail (q : Int) (h0 : 0 ≤ q) (h1 : q ≤ 16383) : tail2 (49152 + q) = ptr q := if_pos (by omega)

set_option maxRecDepth 100000 in
set_option maxHeartbeats 4000000 in
theorem impl (A : Option Addr) (n c : Nat) (l : List UInt8) (s : ByteArray) (w : World) (he : Env w) (hs : Sl w w.heap.size A n l) (hnc : n ≤ c) (hnil : A = none → n = 0 ∧ c = 0) (hn : n ≤ 200000000) (hz : s.size ≤ 1048576) :
    Calls Tryz.prog 33 #[.slice A n c, .string s] w (Gives w (l ++ tailN l s)) := by
  have HS := Lib.hid hs
  have HL := Lib.hid hs.1
  have HN := Lib.hid hnil
  have HE := Lib.hid he
  have NO := Lib.hid (NameOk.impl s w he (by omega))
  have LA := Lib.hid (fun w he => Labels.impl s w he (by omega))
  have PL := Lib.hid (fun t w he hs => Place.impl A n c l t w he hs (by omega) hnc)
  have PP := Lib.hid (fun w he hs => Plain.impl A n c l s w he hs HN.out (by omega) (by omega))
  clear hs hnil he
  cases hb : Nm s with
  | false =>
    have HT : Hid (tailN l s = []) := by show _ = _; rw [tailN, hb]; rfl
    rw [hb] at NO
    clear hb
    go_enter Tryz.func33, Tryz.ntmps33
    go_wp2_with fail
    refine NO.out.mono ?_
    rintro e w1 ⟨rfl, hl⟩
    have L1 := Lib.hid hl
    clear hl
    go_wp2_with fail
    refine (appended_gives A none n c 0 0 l [] w1 ((HS.out.below L1.out).wider L1.out.size) Sl.nil HN.out (fun _ => ⟨rfl, rfl⟩) (by omega) (by omega)).mono ?_
    rintro e w2 ⟨g, m, c1, r, rfl, hm, hle, hg, hb, hl⟩
    have HM := Lib.hid hm
    have HK := Lib.hid hb
    have HG := Lib.hid hg
    have HL := Lib.hid hl
    clear hm hb hl hg
    go_wp2
    go_ret
    rw [HT.out]
    exact Gives.later ⟨g, m, c1, r, rfl, HM.out, hle, HG.out, HK.out, HL.out⟩ L1.out
  | true =>
    have AB := Lib.hid (fun w he => AbvImpl.impl s w he hb)
    have HT : Hid (tailN l s = pn l (Lab s)) := by show _ = _; rw [tailN, hb]; rfl
    have HTP : Hid (tailP s = tls (Lab s) ++ zer) := by show _ = _; rw [tailP, hb]; rfl
    obtain ⟨h50, h6, hok⟩ := nm_parts hb
    have HSH := Lib.hid (lab_short s)
    have HAG := Lib.hid (fun k h => ab_get s (Lab s).length k h)
    have HAL := Lib.hid (ab_len s (Lab s).length)
    rw [hb] at NO
    clear hb hok
    generalize ab s (Lab s).length = M at *
    generalize Lab s = L at *
    go_enter Tryz.func33, Tryz.ntmps33
    go_wp2_with fail
    refine NO.out.mono ?_
    rintro e w1 ⟨rfl, hl⟩
    have L1 := Lib.hid hl
    clear hl
    go_wp2_with fail
    refine (LA.out w1 (HE.out.below L1.out)).mono ?_
    rintro e w2 ⟨gl, nl, cl, rl, rfl, hm, hcl, hg, hk, hl⟩
    have NL := Lib.hid hm
    have hnl : nl ≤ 6 := by omega
    have K2 := Lib.hid hk
    have L2 := Lib.hid (L1.out.trans (hl.mono L1.out.size))
    clear hm hg hk hl L1
    go_wp2_with fail
    refine (AB.out w2 (HE.out.below L2.out)).mono ?_
    rintro e w3 ⟨ga, na, ca, ra, rfl, hm, hca, hg, hk, hl⟩
    have NA := Lib.hid hm
    have hna : nl + 1 = na := by have := HAL.out; have := NL.out; omega
    have KA3 := Lib.hid hk
    have K3 := Lib.hid (K2.out.below hl K2.out.lt)
    have L3 := Lib.hid (L2.out.trans (hl.mono L2.out.size))
    clear hm hg hk hl L2 K2
    subst hna
    go_wp2
    go_loopw [22] (fun i wr => ∃ k : Nat, k ≤ nl ∧ i = .int .i64 k ∧ Hid (pn l L = tls (L.take k) ++ pn l (L.drop k)) ∧ Hid (Bk wr ga 9 (M.map tv ++ ra)) ∧ Hid (Bk wr gl 9 (L.map tv ++ rl)) ∧ Hid (Below w.heap.size w wr)) (fun i _ => nl - (intOf i).toNat)
    case atStart => exact ⟨0, Nat.zero_le _, rfl, by show _ = _; rw [List.take_zero, tls_nil, List.nil_append, List.drop_zero], KA3.out, K3.out, L3.out⟩
    case round =>
      clear K3 L3 KA3
      obtain ⟨k, hk, rfl, HPN, HKA, HK, HB⟩ := hrel
      by_cases hlt : k < nl
      · have hkl : k < L.length := by rw [NL.out]; exact hlt
        have hkm : k < M.length := by rw [NA.out]; omega
        have hy : wr.cell? ⟨ga, k, none⟩ = some (.string M[k]) := by
          rw [HKA.out.cell, List.getElem?_append_left (by rw [List.length_map]; exact hkm), tv_get]
        have HMK := Lib.hid (HAG.out k hkm)
        have PK := Lib.hid (PL.out M[k] wr (HE.out.below HB.out) ((HS.out.below HB.out).wider HB.out.size))
        by_cases hq : 0 ≤ pl l M[k]
        · obtain ⟨q, hqe, _, hq2, _⟩ := pl_some hq
          have HV : Hid (pn l (L.drop k) = ptr (q : Int)) := by
            show _ = _
            rw [← hqe, HMK.out]
            exact pn_hit hkl (by rw [← HMK.out]; exact hq)
          rw [hqe] at PK
          have PT := Lib.hid (ptr_tail (q : Int) (by omega) (by omega))
          clear hqe hq
          generalize M[k] = X at *
          go_wp2_with fail
          refine PK.out.mono ?_
          rintro e w5 ⟨rfl, hl⟩
          have B5 := Lib.hid (HB.out.trans (hl.mono HB.out.size))
          have K5 := Lib.hid (HK.out.below hl HK.out.lt)
          clear hl HB HK HKA hy
          have TL : Hid ((l ++ tls (L.take k)).length ≤ 200010000) := by
            show _ ≤ _
            have h1 := tls_len (L.take k)
            rw [List.length_take] at h1
            rw [List.length_append, HL.out]
            omega
          go_wp2_with fail
          refine (putLabels A n c l (some ⟨gl, 0, none⟩) k cl (L.take k) w5 ((HS.out.below B5.out).wider B5.out.size) HN.out (bk_head K5.out (by omega)) (by omega) (by omega) (fun j h => by
            rw [List.getElem_take]
            exact Nat.le_trans (HSH.out j (by rw [List.length_take] at h; omega)) (by omega))).mono ?_
          rintro e w6 ⟨g6, m6, c6, r6, rfl, hm, hle, hg, hb, hl⟩
          have hm6 : m6 ≤ 200010000 := by have := TL.out; omega
          have M6 := Lib.hid hm
          have X6 := Lib.hid hb
          have B6 := Lib.hid (B5.out.trans (hl.mono B5.out.size))
          clear hm hg hb hl B5 K5
          go_wp2_with fail
          refine (implPut2 (some ⟨g6, 0, none⟩) m6 c6 _ (49152 + (q : Int)) w6 (M6.out ▸ (X6.out.sl'.wider X6.out.lt)) (fun h => by cases h) (by omega)).mono ?_
          rintro e w7 ⟨g7, m7, c7, r7, rfl, hm, hle7, hg, hb, hl⟩
          rw [PT.out] at hm hb
          have M7 := Lib.hid hm
          have X7 := Lib.hid hb
          have G7 := Lib.hid hg
          have HLL := Lib.hid hl
          clear hm hg hb hl
          go_wp2
          go_ret
          rw [HT.out, HPN.out, HV.out, ← List.append_assoc]
          exact Gives.later ⟨g7, m7, c7, r7, rfl, M7.out, hle7, G7.out, X7.out, HLL.out⟩ B6.out
        · have HV : Hid (pn l L = tls (L.take (k + 1)) ++ pn l (L.drop (k + 1))) := by
            show _ = _
            rw [tls_step L k hkl, HPN.out, pn_miss hkl (by rw [← HMK.out]; exact hq), List.append_assoc]
          have hqm := pl_least l M[k]
          generalize pl l M[k] = q at *
          generalize M[k] = X at *
          have hq' : ¬ (0 : Int) ≤ q := hq
          go_wp2_with fail
          refine PK.out.mono ?_
          rintro e w5 ⟨rfl, hl⟩
          have B5 := Lib.hid (HB.out.trans (hl.mono HB.out.size))
          have K5 := Lib.hid (HK.out.below hl HK.out.lt)
          have KA5 := Lib.hid (HKA.out.below hl HKA.out.lt)
          clear hl HB HK HKA hy
          go_wp2
          go_roundw
          case rel => exact ⟨k + 1, by omega, by go_num, HV.out, KA5.out, K5.out, B5.out⟩
          case measure => simp [intOf]; omega
      · have HTA : Hid (L.take k = L) := List.take_of_length_le (by rw [NL.out]; omega)
        have HTD : Hid (L.drop k = []) := List.drop_of_length_le (by rw [NL.out]; omega)
        rw [HTA.out, HTD.out] at HPN
        have HPN2 : Hid (pn l L = tls L ++ zer) := HPN.out
        clear HPN
        go_wp2_with fail
        refine (PP.out wr (HE.out.below HB.out) ((HS.out.below HB.out).wider HB.out.size)).mono ?_
        rintro e w5 ⟨g, m, c1, r, rfl, hm, hle, hg, hb, hl⟩
        have HM := Lib.hid hm
        have HKK := Lib.hid hb
        have HG := Lib.hid hg
        have HLL := Lib.hid hl
        clear hm hb hl hg
        go_wp2
        go_ret
        rw [HT.out, HPN2.out, ← HTP.out]
        exact Gives.later ⟨g, m, c1, r, rfl, HM.out, hle, HG.out, HKK.out, HLL.out⟩ HB.out
end Go.Proofs.YtcpadkehalgddaaGreatDoor.PutName

/- What the program's PutRecord does: a new slice that holds the old bytes and those of a valid record. Conditions: fewer than 199000001 bytes in the slice, at most 1048576 in each text; the library's variable internal/bytealg.MaxLen holds an int. -/
namespace Go.Proofs.YtcpadkehalgddaaGreatDoor.RecP
open Go.RowKit Go.Proofs.YtcpadkehalgddaaGreatDoor.Mem Go.Proofs.YtcpadkehalgddaaGreatDoor.MemR Go.Proofs.YtcpadkehalgddaaGreatDoor.App Go.Proofs.YtcpadkehalgddaaGreatDoor.Put Go.Proofs.YtcpadkehalgddaaGreatDoor.PutO Go.Proofs.YtcpadkehalgddaaGreatDoor.BoxR Go.Proofs.YtcpadkehalgddaaGreatDoor.Labels Go.Proofs.YtcpadkehalgddaaGreatDoor.RecOk Go.Proofs.YtcpadkehalgddaaGreatDoor.PutSpec Go.Proofs.YtcpadkehalgddaaGreatDoor.FieldMath Go.Proofs.YtcpadkehalgddaaGreatDoor.DataS Go.Proofs.YtcpadkehalgddaaGreatDoor.RecS

set_option maxRecDepth 100000 in
set_option maxHeartbeats 4000000 in
theorem impl (A : Option Addr) (n c : Nat) (l : List UInt8) (r : Rec) (w : World) (he : Env w) (hs : Sl w w.heap.size A n l) (hnc : n ≤ c) (hnil : A = none → n = 0 ∧ c = 0) (hn : n ≤ 199000000) (hr : Med r) :
    Calls Tryz.prog 8 #[.slice A n c, .agg #[.string r.name, .int .i64 r.ty, .int .i64 r.ttl, .int .i64 r.n, .string r.host, .string r.text]] w (GivesO w (l ++ tailR l r)) := by
  obtain ⟨i0, hi, hz0, hz1, hz2⟩ := info_parts Copy.info
  have HE := Lib.hid he
  have HS := Lib.hid hs
  have HL := Lib.hid hs.1
  have HN := Lib.hid hnil
  clear hs hnil he
  have RO := Lib.hid (fun w he => RecOk.impl r w he hr.mod)
  have PD := Lib.hid (fun w he => DataP.impl r w he hr)
  have hnm : r.name.size ≤ 1048576 := hr.1
  have TA := Lib.hid (t_all l r)
  have TN := Lib.hid (t_none l r)
  have X0 := Lib.hid (bx_new w 25 r)
  have L0 := Lib.hid ((Below.refl w.heap.size w).alloc (Nat.le_refl _) (.cells #[.string r.name, .int .i64 r.ty, .int .i64 r.ttl, .int .i64 r.n, .string r.host, .string r.text] 25))
  obtain ⟨u, hu⟩ : ∃ u, rok r = u := ⟨_, rfl⟩
  have HB := Lib.hid hu
  clear hu
  go_enter Tryz.func8, Tryz.ntmps8
  go_wp2_with fail
  refine (RO.out _ (HE.out.below L0.out)).mono ?_
  rw [HB.out]
  rintro e w1 ⟨rfl, hl⟩
  have L1 := Lib.hid (L0.out.trans (hl.mono L0.out.size))
  have X1 := Lib.hid (X0.out.below hl)
  clear hl L0 X0 RO
  cases u with
  | false =>
    go_wp2_with fail
    refine (appendedO A none n c 0 0 l [] w1 ((HS.out.below L1.out).wider L1.out.size) Sl.nil HN.out (fun _ => ⟨rfl, rfl⟩) (by omega) (by omega)).mono ?_
    rintro e w2 ⟨g, c1, rfl, ho, hl⟩
    generalize (l ++ []).length = m at *
    rw [List.append_nil] at ho
    have F := Lib.hid (GivesO.later (givesO_of ho hl) L1.out)
    clear ho hl
    go_wp2
    go_ret
    rw [TN.out HB.out]
    exact F.out
  | true =>
    have h1 := l1 l r
    have h2 := l2 l r
    have h3 := l3 l r
    have h4 := l4 l r
    have h5 := l5 l r
    rw [HL.out] at h1 h2 h3 h4 h5
    have hd := dat_len r
    have P1 : Hid (∀ (W : World), Below w.heap.size w W → Calls Tryz.prog 33 #[.slice A n c, .string r.name] W (Gives W (t1 l r))) :=
      fun W hW => PutName.impl A n c l r.name W (HE.out.below hW) ((HS.out.below hW).wider hW.size) hnc HN.out (by omega) (by omega)
    have P2 : Hid (∀ (g m c : Nat) (rr : List Value) (W : World), (t1 l r).length = m → Bk W g 5 ((t1 l r).map bv ++ rr) → Calls Tryz.prog 34 #[.slice (some ⟨g, 0, none⟩) m c, .int .i64 r.ty] W (Gives W (t2 l r))) :=
      fun g m c rr W hm hb => implPut2 (some ⟨g, 0, none⟩) m c (t1 l r) r.ty W (hm ▸ (hb.sl'.wider hb.lt)) (fun h => by cases h) (by omega)
    have P3 : Hid (∀ (g m c : Nat) (rr : List Value) (W : World), (t2 l r).length = m → Bk W g 5 ((t2 l r).map bv ++ rr) → Calls Tryz.prog 34 #[.slice (some ⟨g, 0, none⟩) m c, .int .i64 1] W (Gives W (t3 l r))) :=
      fun g m c rr W hm hb => implPut2 (some ⟨g, 0, none⟩) m c (t2 l r) 1 W (hm ▸ (hb.sl'.wider hb.lt)) (fun h => by cases h) (by omega)
    have P4 : Hid (∀ (g m c : Nat) (rr : List Value) (W : World), (t3 l r).length = m → Bk W g 5 ((t3 l r).map bv ++ rr) → Calls Tryz.prog 35 #[.slice (some ⟨g, 0, none⟩) m c, .int .i64 r.ttl] W (Gives W (t4 l r))) :=
      fun g m c rr W hm hb => implPut4 (some ⟨g, 0, none⟩) m c (t3 l r) r.ttl W (hm ▸ (hb.sl'.wider hb.lt)) (fun h => by cases h) (by omega)
    have P5 : Hid (∀ (g m c : Nat) (rr : List Value) (W : World), (t4 l r).length = m → Bk W g 5 ((t4 l r).map bv ++ rr) → Calls Tryz.prog 34 #[.slice (some ⟨g, 0, none⟩) m c, .int .i64 ((dat r).length : Int)] W (GivesO W (t5 l r))) :=
      fun g m c rr W hm hb => implPut2O (some ⟨g, 0, none⟩) m c (t4 l r) ((dat r).length : Int) W (hm ▸ (hb.sl'.wider hb.lt)) (fun h => by cases h) (by omega)
    generalize t1 l r = T1 at *
    generalize t2 l r = T2 at *
    generalize t3 l r = T3 at *
    generalize t4 l r = T4 at *
    generalize t5 l r = T5 at *
    generalize dat r = D at *
    obtain ⟨x0, x1, x2, x3, x4, x5⟩ := X1.out
    go_wp2_with fail
    refine (PD.out _ (HE.out.below L1.out)).mono ?_
    rintro e w2 ⟨gd, md, cd, rd, rfl, hmd, hled, hgd, hbd, hl⟩
    have BD2 := Lib.hid hbd
    have GD := Lib.hid (Nat.le_trans L1.out.size hgd)
    have X2 := Lib.hid (X1.out.below hl)
    have L2 := Lib.hid (L1.out.trans (hl.mono L1.out.size))
    subst hmd
    clear hgd hbd hl x0 x1 x2 x3 x4 x5 X1 L1
    obtain ⟨x0, x1, x2, x3, x4, x5⟩ := X2.out
    go_wp2_with fail
    refine (P1.out _ L2.out).mono ?_
    rintro e w3 ⟨g1, m1, c1, r1, rfl, hm, -, hg, hb, hl⟩
    have M3 := Lib.hid hm
    have B3 := Lib.hid hb
    have BD3 := Lib.hid (BD2.out.below hl BD2.out.lt)
    have X3 := Lib.hid (X2.out.below hl)
    have L3 := Lib.hid (L2.out.trans (hl.mono L2.out.size))
    clear hm hg hb hl x0 x1 x2 x3 x4 x5 X2 L2 BD2
    obtain ⟨x0, x1, x2, x3, x4, x5⟩ := X3.out
    go_wp2_with fail
    refine (P2.out _ _ _ _ _ M3.out B3.out).mono ?_
    rintro e w4 ⟨g2, m2, c2, r2, rfl, hm, -, hg, hb, hl⟩
    have M4 := Lib.hid hm
    have B4 := Lib.hid hb
    have BD4 := Lib.hid (BD3.out.below hl BD3.out.lt)
    have X4 := Lib.hid (X3.out.below hl)
    have L4 := Lib.hid (L3.out.trans (hl.mono L3.out.size))
    clear hm hg hb hl x0 x1 x2 x3 x4 x5 X3 L3 BD3 M3 B3
    go_wp2_with fail
    refine (P3.out _ _ _ _ _ M4.out B4.out).mono ?_
    rintro e w5 ⟨g3, m3, c3, r3, rfl, hm, -, hg, hb, hl⟩
    have M5 := Lib.hid hm
    have B5 := Lib.hid hb
    have BD5 := Lib.hid (BD4.out.below hl BD4.out.lt)
    have X5 := Lib.hid (X4.out.below hl)
    have L5 := Lib.hid (L4.out.trans (hl.mono L4.out.size))
    clear hm hg hb hl X4 L4 BD4 M4 B4
    obtain ⟨x0, x1, x2, x3, x4, x5⟩ := X5.out
    go_wp2_with fail
    refine (P4.out _ _ _ _ _ M5.out B5.out).mono ?_
    rintro e w6 ⟨g4, m4, c4, r4, rfl, hm, -, hg, hb, hl⟩
    have M6 := Lib.hid hm
    have B6 := Lib.hid hb
    have BD6 := Lib.hid (BD5.out.below hl BD5.out.lt)
    have L6 := Lib.hid (L5.out.trans (hl.mono L5.out.size))
    clear hm hg hb hl x0 x1 x2 x3 x4 x5 X5 L5 BD5 M5 B5
    go_wp2_with fail
    refine (P5.out g4 m4 c4 r4 w6 M6.out B6.out).mono ?_
    rintro e w7 ⟨g5, c5, rfl, ho, hl⟩
    have O7 := Lib.hid (owns_base ho L6.out.size)
    have BD7 := Lib.hid (BD6.out.below hl BD6.out.lt)
    have L7 := Lib.hid (L6.out.trans (hl.mono L6.out.size))
    have SD := Lib.hid (show Sl w7 w7.heap.size (some ⟨gd, 0, none⟩) D.length D from BD7.out.sl'.wider BD7.out.lt)
    clear ho hl B6 BD6 L6 BD7 M6
    obtain ⟨m5, hm5⟩ : ∃ m, m = T5.length := ⟨_, rfl⟩
    rw [← hm5] at O7 h5 ⊢
    clear hm5
    go_wp2_with (at_builtin; refine append_src rfl (.tmp 32) (.tmp 33) 22 rfl w.heap.size 5 i0 (.int .u8 0) Tryz.underlying22 hi hz0 hz1 hz2 rfl g5 m5 c5 (T5.map bv) rfl O7.out (some ⟨gd, 0, none⟩) D.length cd _ D rfl SD.out (fun h => by cases h) ?d1 ?d2 ?d3 ?_)
    case d1 => omega
    case d2 => omega
    case d3 => exact L7.out.size
    intro g7 c7 w8 hown hgrow
    rw [← List.map_append, TA.out HB.out] at hown
    have O8 := Lib.hid hown
    have L8 := Lib.hid (L7.out.grown hgrow L7.out.size (fun j hj => by cases hj; exact (O7.out.lt g5 rfl).1))
    clear hown hgrow
    go_wp2
    go_ret
    exact givesO_of O8.out L8.out
end Go.Proofs.YtcpadkehalgddaaGreatDoor.RecP

/- Plain mathematics: the data of a record as the program reads them, ahead of any look at their length; that this is the model's reading, with the look at the record behind it. Nothing of the program is named here but the seat itself. -/
namespace Go.Proofs.YtcpadkehalgddaaGreatDoor.FieldRd
open Go.Proofs.YtcpadkehalgddaaGreatDoor.Mem Go.Proofs.YtcpadkehalgddaaGreatDoor.MemR Go.Proofs.YtcpadkehalgddaaGreatDoor.JoinSpec Go.Proofs.YtcpadkehalgddaaGreatDoor.Split Go.Proofs.YtcpadkehalgddaaGreatDoor.GetLabel Go.Proofs.YtcpadkehalgddaaGreatDoor.NameOk Go.Proofs.YtcpadkehalgddaaGreatDoor.TextR Go.Proofs.YtcpadkehalgddaaGreatDoor.RecOk Go.Proofs.YtcpadkehalgddaaGreatDoor.WireMath Go.Proofs.YtcpadkehalgddaaGreatDoor.FieldMath

/-- What readText reads: a code, the offset behind, the record. -/
def rdT (l : List UInt8) (k : Int) : Nat × Int × Rec :=
  if (l.length : Int) ≤ k then (2, 0, zr) else if (l.length : Int) < k + 1 + bt l k then (2, 0, zr) else (0, k + 1 + bt l k, rT (piece l k.toNat (bt l k).toNat))
/-- What readAddr reads. -/
def rdA (l : List UInt8) (k : Int) : Nat × Int × Rec := if (n4 l k).2 = true then (0, k + 4, rA (n4 l k).1) else (2, 0, zr)
/-- What readServer and readAlias read. -/
def rdH (l : List UInt8) (k ty : Int) : Nat × Int × Rec := ((rn l [] k k 0 (-1)).1, (rn l [] k k 0 (-1)).2.2.1, rH ty (Jo (rn l [] k k 0 (-1)).2.1))
/-- What readStart reads. -/
def rdS (l : List UInt8) (k : Int) : Nat × Int × Rec :=
  if (rn l [] k k 0 (-1)).1 ≠ 0 then ((rn l [] k k 0 (-1)).1, 0, zr)
  else if (n4 l (rn l [] k k 0 (-1)).2.2.1).2 = true then (0, (rn l [] k k 0 (-1)).2.2.1 + 4, rS (Jo (rn l [] k k 0 (-1)).2.1) (n4 l (rn l [] k k 0 (-1)).2.2.1).1) else (2, 0, zr)
/-- What readData reads. A def, so that no step of a walk opens it. -/
def rdd (l : List UInt8) (k ty : Int) : Nat × Int × Rec :=
  if ty = 1 then rdA l k else if ty = 2 ∨ ty = 5 then rdH l k ty else if ty = 6 then rdS l k else if ty = 16 then rdT l k else (2, 0, zr)
theorem bt_bounds (l : List UInt8) (k : Int) : 0 ≤ bt l k ∧ bt l k < 256 := by
  unfold bt
  have := UInt8.toNat_lt (l.getD k.toNat 0)
  omega
theorem rok_T (s : ByteArray) : rok (rT s) = txo s := by
  have h : rok (rT s) = (Nm ⟨#[]⟩ && (inn 0 0 100000 && dko 16 0 ⟨#[]⟩ s)) := rfl
  rw [h, dko_16]
  have e1 : Nm ⟨#[]⟩ = true := by rfl
  have e2 : inn 0 0 100000 = true := by decide
  have e3 : nul 0 = true := by decide
  have e4 : emp ⟨#[]⟩ = true := by decide
  rw [e1, e2, e3, e4]
  simp
/-- What the program's GetData answers, told of what it read. -/
theorem rdd_gd {l : List UInt8} {k n ty : Int} (h : 0 ≤ n ∧ n ≤ 255) (hk : ¬ (k < 0 ∨ (l.length : Int) - n < k)) :
    fx (gd l k n ty) = if (rdd l k ty).1 ≠ 0 then ((rdd l k ty).1, zr) else if (rdd l k ty).2.1 = k + n ∧ rok (rdd l k ty).2.2 = true then (0, (rdd l k ty).2.2) else (2, zr) := by
  have fb : ∀ c : Nat, c ≠ 0 → fx (c, zr) = (c, zr) := fun c hc => fx_bad hc
  have fo : ∀ r : Rec, fx (0, r) = if rok r = true then (0, r) else (2, zr) := fun r => by
    cases hr : rok r
    · rw [fx_not hr]; rfl
    · rw [fx_ok hr]; rfl
  have R0 : ∀ (q : Int) (r : Rec), (if (0 : Nat) ≠ 0 then ((0 : Nat), zr) else if q = k + n ∧ rok r = true then (0, r) else (2, zr)) = if q = k + n ∧ rok r = true then (0, r) else (2, zr) := fun _ _ => if_neg (fun e => e rfl)
  by_cases h1 : ty = 1
  · subst h1
    have e : rdd l k 1 = rdA l k := rfl
    rw [gd_1 h hk, e]
    unfold rdA
    by_cases hb : (n4 l k).2 = true
    · rw [if_pos hb]
      dsimp only
      rw [R0]
      by_cases hn : n = 4
      · rw [if_pos ⟨hb, hn⟩, fo]
        by_cases hr : rok (rA (n4 l k).1) = true
        · rw [if_pos hr, if_pos ⟨by omega, hr⟩]
        · rw [if_neg hr, if_neg (fun e => hr e.2)]
      · rw [if_neg (fun e => hn e.2), fb 2 (by decide), if_neg (fun e => hn (by omega))]
    · rw [if_neg (fun e => hb e.1), fb 2 (by decide), if_neg hb]
      rfl
  by_cases h25 : ty = 2 ∨ ty = 5
  · have e : rdd l k ty = rdH l k ty := by unfold rdd; rw [if_neg h1, if_pos h25]
    rw [gd_h h hk h25, e]
    unfold rdH
    dsimp only
    by_cases hc : (rn l [] k k 0 (-1)).1 ≠ 0
    · rw [if_pos hc, fb _ hc, if_pos hc]
    · rw [if_neg hc, if_neg hc]
      by_cases hn : (rn l [] k k 0 (-1)).2.2.1 = k + n
      · rw [if_pos hn, fo]
        by_cases hr : rok (rH ty (Jo (rn l [] k k 0 (-1)).2.1)) = true
        · rw [if_pos hr, if_pos ⟨hn, hr⟩]
        · rw [if_neg hr, if_neg (fun e => hr e.2)]
      · rw [if_neg hn, fb 2 (by decide), if_neg (fun e => hn e.1)]
  by_cases h6 : ty = 6
  · subst h6
    have e : rdd l k 6 = rdS l k := rfl
    rw [gd_6 h hk, e]
    unfold rdS
    by_cases hc : (rn l [] k k 0 (-1)).1 ≠ 0
    · rw [if_pos hc, fb _ hc, if_pos hc]
      dsimp only
      rw [if_pos hc]
    · rw [if_neg hc, if_neg hc]
      by_cases hb : (n4 l (rn l [] k k 0 (-1)).2.2.1).2 = true
      · rw [if_pos hb]
        dsimp only
        rw [R0]
        by_cases hn : (rn l [] k k 0 (-1)).2.2.1 + 4 = k + n
        · rw [if_pos ⟨hb, hn⟩, fo]
          by_cases hr : rok (rS (Jo (rn l [] k k 0 (-1)).2.1) (n4 l (rn l [] k k 0 (-1)).2.2.1).1) = true
          · rw [if_pos hr, if_pos ⟨hn, hr⟩]
          · rw [if_neg hr, if_neg (fun e => hr e.2)]
        · rw [if_neg (fun e => hn e.2), fb 2 (by decide), if_neg (fun e => hn e.1)]
      · rw [if_neg (fun e => hb e.1), fb 2 (by decide), if_neg hb]
        rfl
  by_cases h16 : ty = 16
  · subst h16
    have e : rdd l k 16 = rdT l k := rfl
    have hbt := bt_bounds l k
    rw [gd_16 h hk, e]
    unfold rdT
    by_cases ha : (l.length : Int) ≤ k
    · rw [if_pos ha, if_neg (fun e => by omega), fb 2 (by decide)]
      rfl
    · rw [if_neg ha]
      by_cases hb : (l.length : Int) < k + 1 + bt l k
      · rw [if_pos hb, if_neg (fun e => by omega), fb 2 (by decide)]
        rfl
      · rw [if_neg hb]
        dsimp only
        rw [R0]
        by_cases hn : bt l k = n - 1
        · rw [hn, rok_T]
          by_cases hr : txo (piece l k.toNat (n - 1).toNat) = true
          · rw [if_pos ⟨by omega, rfl, hr⟩, fo, rok_T, if_pos hr, if_pos ⟨by omega, hr⟩]
          · rw [if_neg (fun e => hr e.2.2), fb 2 (by decide), if_neg (fun e => hr e.2)]
        · rw [if_neg (fun e => hn e.2.1), fb 2 (by decide), if_neg (fun e => by have := e.1; omega)]
  · have e : rdd l k ty = (2, 0, zr) := by unfold rdd; rw [if_neg h1, if_neg h25, if_neg h6, if_neg h16]
    rw [gd_ty h hk (by omega), e, fb 2 (by decide)]
    rfl
end Go.Proofs.YtcpadkehalgddaaGreatDoor.FieldRd

/- What the program's readers of data do: they read as FieldRd tells, and hand on a value of which recordOf makes the record. Conditions: at most 400000000 bytes; the library's variable internal/bytealg.MaxLen holds an int. -/
namespace Go.Proofs.YtcpadkehalgddaaGreatDoor.ReadI
open Go.RowKit Go.Proofs.YtcpadkehalgddaaGreatDoor.Mem Go.Proofs.YtcpadkehalgddaaGreatDoor.MemR Go.Proofs.YtcpadkehalgddaaGreatDoor.JoinSpec Go.Proofs.YtcpadkehalgddaaGreatDoor.Labels Go.Proofs.YtcpadkehalgddaaGreatDoor.GetLabel Go.Proofs.YtcpadkehalgddaaGreatDoor.BoxR Go.Proofs.YtcpadkehalgddaaGreatDoor.NameOk Go.Proofs.YtcpadkehalgddaaGreatDoor.WireMath Go.Proofs.YtcpadkehalgddaaGreatDoor.WalkSpec Go.Proofs.YtcpadkehalgddaaGreatDoor.Get Go.Proofs.YtcpadkehalgddaaGreatDoor.FieldMath Go.Proofs.YtcpadkehalgddaaGreatDoor.FieldRd Go.Proofs.YtcpadkehalgddaaGreatDoor.ResR

theorem get4 (A : Option Addr) (n c : Nat) (l : List UInt8) (k : Int) (w : World) (B : Nat) (hs : Sl w B A n l) (hnc : n ≤ c) (hn : n ≤ 400000000) :
    Calls Tryz.prog 47 #[.slice A n c, .int .i64 k] w fun e w' => e = .returned (.tuple #[.int .i64 (n4 l k).1, .bool (n4 l k).2]) ∧ w = w' := by
  have hl := hs.1
  unfold n4
  by_cases h : 0 ≤ k ∧ k ≤ (l.length : Int) - 4
  · rw [if_pos h]
    obtain ⟨j, rfl⟩ := Int.eq_ofNat_of_zero_le h.1
    refine (implGet4_yes A n c l w B j hs hnc hn (by omega)).mono fun e w' ⟨he, hw⟩ => ⟨?_, hw⟩
    rw [he, Int.toNat_natCast]
    unfold four
    by_cases hv : 2147483647 < be ((l.drop j).take 4)
    · rw [if_pos hv, if_pos hv]
    · rw [if_neg hv, if_neg hv]
  · rw [if_neg h]
    exact implGet4_no A n c w k hn (by omega)

/-- recordOf makes the record r of the value v. -/
def RecOf (v : Value) (r : Rec) : Prop := ∀ W, Calls Tryz.prog 49 #[v] W fun e w' => e = .returned (.agg #[.string r.name, .int .i64 r.ty, .int .i64 r.ttl, .int .i64 r.n, .string r.host, .string r.text]) ∧ Below W.heap.size W w'

theorem as_addr_addr (v : Value) (w : World) : (Instr.typeAssert (.iface 92 v) 59 92 true).run Tryz.prog w = .ok (.tuple #[v, .bool true]) w := by kernel_rfl
theorem as_server_addr (v : Value) (w : World) : (Instr.typeAssert (.iface 93 v) 59 92 true).run Tryz.prog w = .ok (.tuple #[.int .i64 0, .bool false]) w := by kernel_rfl
theorem as_server_server (v : Value) (w : World) : (Instr.typeAssert (.iface 93 v) 59 93 true).run Tryz.prog w = .ok (.tuple #[v, .bool true]) w := by kernel_rfl
theorem as_alias_addr (v : Value) (w : World) : (Instr.typeAssert (.iface 94 v) 59 92 true).run Tryz.prog w = .ok (.tuple #[.int .i64 0, .bool false]) w := by kernel_rfl
theorem as_alias_server (v : Value) (w : World) : (Instr.typeAssert (.iface 94 v) 59 93 true).run Tryz.prog w = .ok (.tuple #[.string ⟨#[]⟩, .bool false]) w := by kernel_rfl
theorem as_alias_alias (v : Value) (w : World) : (Instr.typeAssert (.iface 94 v) 59 94 true).run Tryz.prog w = .ok (.tuple #[v, .bool true]) w := by kernel_rfl
theorem as_start_addr (v : Value) (w : World) : (Instr.typeAssert (.iface 96 v) 59 92 true).run Tryz.prog w = .ok (.tuple #[.int .i64 0, .bool false]) w := by kernel_rfl
theorem as_start_server (v : Value) (w : World) : (Instr.typeAssert (.iface 96 v) 59 93 true).run Tryz.prog w = .ok (.tuple #[.string ⟨#[]⟩, .bool false]) w := by kernel_rfl
theorem as_start_alias (v : Value) (w : World) : (Instr.typeAssert (.iface 96 v) 59 94 true).run Tryz.prog w = .ok (.tuple #[.string ⟨#[]⟩, .bool false]) w := by kernel_rfl
theorem as_start_start (v : Value) (w : World) : (Instr.typeAssert (.iface 96 v) 59 96 true).run Tryz.prog w = .ok (.tuple #[v, .bool true]) w := by kernel_rfl
theorem as_text_addr (v : Value) (w : World) : (Instr.typeAssert (.iface 97 v) 59 92 true).run Tryz.prog w = .ok (.tuple #[.int .i64 0, .bool false]) w := by kernel_rfl
theorem as_text_server (v : Value) (w : World) : (Instr.typeAssert (.iface 97 v) 59 93 true).run Tryz.prog w = .ok (.tuple #[.string ⟨#[]⟩, .bool false]) w := by kernel_rfl
theorem as_text_alias (v : Value) (w : World) : (Instr.typeAssert (.iface 97 v) 59 94 true).run Tryz.prog w = .ok (.tuple #[.string ⟨#[]⟩, .bool false]) w := by kernel_rfl
theorem as_text_start (v : Value) (w : World) : (Instr.typeAssert (.iface 97 v) 59 96 true).run Tryz.prog w = .ok (.tuple #[.agg #[.string ⟨#[]⟩, .int .i64 0], .bool false]) w := by kernel_rfl
theorem as_text_text (v : Value) (w : World) : (Instr.typeAssert (.iface 97 v) 59 97 true).run Tryz.prog w = .ok (.tuple #[v, .bool true]) w := by kernel_rfl

set_option maxHeartbeats 1000000 in
theorem of_addr (x : Int) : RecOf (.iface 92 (.int .i64 x)) (rA x) := by
  intro w
  have h_addr := as_addr_addr
  go_enter Tryz.func49, Tryz.ntmps49
  go_wp2
  exact bodyPost_ret (v := .agg #[.string ((rA x)).name, .int .i64 ((rA x)).ty, .int .i64 ((rA x)).ttl, .int .i64 ((rA x)).n, .string ((rA x)).host, .string ((rA x)).text]) (res1 rfl (show Bk _ w.heap.size 25 (rc (rA x)) from heap_alloc_new w _) rfl) rfl ⟨rfl, (Below.refl _ _).alloc (Nat.le_refl _) _⟩

set_option maxHeartbeats 1000000 in
theorem of_server (s : ByteArray) : RecOf (.iface 93 (.string s)) (rH 2 s) := by
  intro w
  have h_addr := as_server_addr
  have h_server := as_server_server
  go_enter Tryz.func49, Tryz.ntmps49
  go_wp2
  exact bodyPost_ret (v := .agg #[.string ((rH 2 s)).name, .int .i64 ((rH 2 s)).ty, .int .i64 ((rH 2 s)).ttl, .int .i64 ((rH 2 s)).n, .string ((rH 2 s)).host, .string ((rH 2 s)).text]) (res1 rfl (show Bk _ w.heap.size 25 (rc (rH 2 s)) from heap_alloc_new w _) rfl) rfl ⟨rfl, (Below.refl _ _).alloc (Nat.le_refl _) _⟩

set_option maxHeartbeats 1000000 in
theorem of_alias (s : ByteArray) : RecOf (.iface 94 (.string s)) (rH 5 s) := by
  intro w
  have h_addr := as_alias_addr
  have h_server := as_alias_server
  have h_alias := as_alias_alias
  go_enter Tryz.func49, Tryz.ntmps49
  go_wp2
  exact bodyPost_ret (v := .agg #[.string ((rH 5 s)).name, .int .i64 ((rH 5 s)).ty, .int .i64 ((rH 5 s)).ttl, .int .i64 ((rH 5 s)).n, .string ((rH 5 s)).host, .string ((rH 5 s)).text]) (res1 rfl (show Bk _ w.heap.size 25 (rc (rH 5 s)) from heap_alloc_new w _) rfl) rfl ⟨rfl, (Below.refl _ _).alloc (Nat.le_refl _) _⟩

set_option maxHeartbeats 1000000 in
theorem of_start (s : ByteArray) (x : Int) : RecOf (.iface 96 (.agg #[.string s, .int .i64 x])) (rS s x) := by
  intro w
  have h_addr := as_start_addr
  have h_server := as_start_server
  have h_alias := as_start_alias
  have h_start := as_start_start
  go_enter Tryz.func49, Tryz.ntmps49
  go_wp2
  exact bodyPost_ret (v := .agg #[.string ((rS s x)).name, .int .i64 ((rS s x)).ty, .int .i64 ((rS s x)).ttl, .int .i64 ((rS s x)).n, .string ((rS s x)).host, .string ((rS s x)).text]) (res1 rfl ((show Bk _ w.heap.size 25 (rc (rS s x)) from heap_alloc_new w _).alloc _) rfl) rfl ⟨rfl, ((Below.refl _ _).alloc (Nat.le_refl _) _).alloc (by simp) _⟩

set_option maxHeartbeats 1000000 in
theorem of_text (s : ByteArray) : RecOf (.iface 97 (.string s)) (rT s) := by
  intro w
  have h_addr := as_text_addr
  have h_server := as_text_server
  have h_alias := as_text_alias
  have h_start := as_text_start
  have h_text := as_text_text
  go_enter Tryz.func49, Tryz.ntmps49
  go_wp2
  exact bodyPost_ret (v := .agg #[.string ((rT s)).name, .int .i64 ((rT s)).ty, .int .i64 ((rT s)).ttl, .int .i64 ((rT s)).n, .string ((rT s)).host, .string ((rT s)).text]) (res1 rfl (show Bk _ w.heap.size 25 (rc (rT s)) from heap_alloc_new w _) rfl) rfl ⟨rfl, (Below.refl _ _).alloc (Nat.le_refl _) _⟩

/-- What a reader hands on. -/
def Rd (w : World) (X : Nat × Int × Rec) (e : Ending) (w' : World) : Prop :=
  ∃ v, e = .returned (.tuple #[v, .int .i64 X.2.1, .int .i64 (X.1 : Int)]) ∧ (X.1 = 0 → RecOf v X.2.2) ∧ Below w.heap.size w w'

set_option maxHeartbeats 1000000 in
theorem readAddr (A : Option Addr) (n c : Nat) (l : List UInt8) (k : Int) (w : World) (hs : Sl w w.heap.size A n l) (hnc : n ≤ c) (hn : n ≤ 400000000) (hk : 0 ≤ k ∧ k ≤ (n : Int)) :
    Calls Tryz.prog 82 #[.slice A n c, .int .i64 k] w (Rd w (rdA l k)) := by
  have G := Lib.hid (get4 A n c l k w _ hs hnc hn)
  have HX : Hid (rdA l k = if (n4 l k).2 = true then (0, k + 4, rA (n4 l k).1) else (2, 0, zr)) := rfl
  clear hs
  generalize rdA l k = X at *
  generalize n4 l k = y at *
  obtain ⟨x, b⟩ := y
  go_enter Tryz.func82, Tryz.ntmps82
  go_wp2_with fail
  refine G.out.mono ?_
  rintro e w1 ⟨rfl, rfl⟩
  cases b
  · have HX2 : Hid (X = (2, 0, zr)) := HX.out
    clear HX
    go_wp2
    go_ret3
    rw [HX2.out]
    exact ⟨_, rfl, fun h => absurd h (by decide), Below.refl _ _⟩
  · have HX2 : Hid (X = (0, k + 4, rA x)) := HX.out
    clear HX
    go_wp2
    go_ret3
    rw [HX2.out]
    exact ⟨_, rfl, fun _ => of_addr x, Below.refl _ _⟩

set_option maxHeartbeats 1000000 in
theorem readServer (A : Option Addr) (n c : Nat) (l : List UInt8) (k : Int) (w : World) (he : Env w) (hs : Sl w w.heap.size A n l) (hnc : n ≤ c) (hn : n ≤ 400000000) :
    Calls Tryz.prog 83 #[.slice A n c, .int .i64 k] w (Rd w (rdH l k 2)) := by
  have G := Lib.hid (NameGet.getName A n c l k w _ rfl he hs hn hnc)
  clear hs he
  unfold rdH
  generalize rn l [] k k 0 (-1) = R at *
  obtain ⟨c0, L0, x0, j0⟩ := R
  unfold val3 at G
  dsimp only at G ⊢
  generalize Jo L0 = s at *
  go_enter Tryz.func83, Tryz.ntmps83
  go_wp2_with fail
  refine G.out.mono ?_
  rintro e w1 ⟨rfl, hl⟩
  have L1 := Lib.hid hl
  clear hl
  go_wp2
  go_ret3
  exact ⟨_, rfl, fun _ => of_server s, L1.out⟩

set_option maxHeartbeats 1000000 in
theorem readAlias (A : Option Addr) (n c : Nat) (l : List UInt8) (k : Int) (w : World) (he : Env w) (hs : Sl w w.heap.size A n l) (hnc : n ≤ c) (hn : n ≤ 400000000) :
    Calls Tryz.prog 84 #[.slice A n c, .int .i64 k] w (Rd w (rdH l k 5)) := by
  have G := Lib.hid (NameGet.getName A n c l k w _ rfl he hs hn hnc)
  clear hs he
  unfold rdH
  generalize rn l [] k k 0 (-1) = R at *
  obtain ⟨c0, L0, x0, j0⟩ := R
  unfold val3 at G
  dsimp only at G ⊢
  generalize Jo L0 = s at *
  go_enter Tryz.func84, Tryz.ntmps84
  go_wp2_with fail
  refine G.out.mono ?_
  rintro e w1 ⟨rfl, hl⟩
  have L1 := Lib.hid hl
  clear hl
  go_wp2
  go_ret3
  exact ⟨_, rfl, fun _ => of_alias s, L1.out⟩

set_option maxHeartbeats 1000000 in
theorem readStart (A : Option Addr) (n c : Nat) (l : List UInt8) (k : Int) (w : World) (he : Env w) (hs : Sl w w.heap.size A n l) (hnc : n ≤ c) (hn : n ≤ 400000000) :
    Calls Tryz.prog 85 #[.slice A n c, .int .i64 k] w (Rd w (rdS l k)) := by
  have G := Lib.hid (NameGet.getName A n c l k w _ rfl he hs hn hnc)
  have G4 := Lib.hid (fun (q : Int) (W : World) (hW : Below w.heap.size w W) => get4 A n c l q W _ ((hs.below hW).wider hW.size) hnc hn)
  have HI := Lib.hid (fun q => n4_in (l := l) (k := q))
  have HL := Lib.hid hs.1
  have HX : Hid (rdS l k = if (rn l [] k k 0 (-1)).1 ≠ 0 then ((rn l [] k k 0 (-1)).1, 0, zr) else if (n4 l (rn l [] k k 0 (-1)).2.2.1).2 = true then (0, (rn l [] k k 0 (-1)).2.2.1 + 4, rS (Jo (rn l [] k k 0 (-1)).2.1) (n4 l (rn l [] k k 0 (-1)).2.2.1).1) else (2, 0, zr)) := rfl
  clear hs he
  generalize rdS l k = X at *
  generalize rn l [] k k 0 (-1) = R at *
  obtain ⟨c0, L0, x0, j0⟩ := R
  unfold val3 at G
  dsimp only at G HX ⊢
  generalize Jo L0 = s at *
  go_enter Tryz.func85, Tryz.ntmps85
  go_wp2_with fail
  refine G.out.mono ?_
  rintro e w1 ⟨rfl, hl⟩
  have L1 := Lib.hid hl
  clear hl G
  by_cases hc : c0 = 0
  · subst hc
    have HX2 := Lib.hid (HX.out.trans (if_neg (fun e => e rfl)))
    clear HX
    have G5 := Lib.hid (G4.out x0 w1 L1.out)
    have HI5 := Lib.hid (HI.out x0)
    clear G4 HI
    generalize n4 l x0 = y at *
    obtain ⟨x, b⟩ := y
    go_wp2_with fail
    refine G5.out.mono ?_
    rintro e w2 ⟨rfl, rfl⟩
    cases b
    · have HX3 : Hid (X = (2, 0, zr)) := HX2.out
      clear HX2
      go_wp2
      go_ret3
      rw [HX3.out]
      exact ⟨_, rfl, fun h => absurd h (by decide), L1.out⟩
    · have HX3 : Hid (X = (0, x0 + 4, rS s x)) := HX2.out
      obtain ⟨q0, q1⟩ := HI5.out rfl
      rw [HL.out] at q1
      clear HX2 HI5
      go_wp2
      go_ret3
      rw [HX3.out]
      exact ⟨_, rfl, fun _ => of_start s x, L1.out⟩
  · have HX2 := Lib.hid (HX.out.trans (if_pos hc))
    have hc2 : ((c0 : Int) != 0) = true := by simp; omega
    clear HX
    go_wp2
    go_ret3
    rw [HX2.out]
    exact ⟨_, rfl, fun h => absurd h hc, L1.out⟩

theorem conv_text {w : World} {B b off n : Nat} {l : List UInt8} (hs : Sl w B (some ⟨b, off, none⟩) n l) (k m cap : Nat) (h : k + 1 + m ≤ n) :
    (convert 22 97 (.slice (some ⟨b, off + (k + 1), none⟩) m cap)).run Tryz.prog w = .ok (.string (piece l k m)) w := by
  have hl := hs.1
  obtain ⟨b', off', hA, _, hc⟩ := hs.2 (by omega)
  obtain ⟨rfl, rfl⟩ : b = b' ∧ off = off' := by simpa using hA
  have hlen : ((l.drop (k + 1)).take m).length = m := by simp; omega
  have := run_convert_bytes_back (P := Tryz.prog) w 22 97 5 ⟨b, off + (k + 1), none⟩ cap ((l.drop (k + 1)).take m) Tryz.underlying22 Tryz.underlying5 Tryz.underlying97 (fun j hj => by
    rw [Addr.add_lit]
    have hj2 : j < m := by rw [hlen] at hj; exact hj
    have := hc (k + 1 + j) (by omega)
    rw [Nat.add_assoc, this]
    simp)
  rw [hlen] at this
  exact this
theorem conv_empty {w : World} (A : Addr) (cap : Nat) (l : List UInt8) (k : Nat) :
    (convert 22 97 (.slice (some A) 0 cap)).run Tryz.prog w = .ok (.string (piece l k 0)) w := by
  have := run_convert_bytes_back (P := Tryz.prog) w 22 97 5 A cap [] Tryz.underlying22 Tryz.underlying5 Tryz.underlying97 (fun j hj => by simp at hj)
  simpa [piece] using this
theorem bt_at (l : List UInt8) (k : Nat) (h : k < l.length) : bt l (k : Int) = (l[k].toNat : Int) := by
  unfold bt
  rw [Int.toNat_natCast, List.getD_eq_getElem?_getD, List.getElem?_eq_getElem h]
  rfl

set_option maxHeartbeats 1000000 in
theorem readText (A : Option Addr) (n c : Nat) (l : List UInt8) (k : Int) (w : World) (hs : Sl w w.heap.size A n l) (hnc : n ≤ c) (hn : n ≤ 400000000) (hk : 0 ≤ k ∧ k ≤ (n : Int)) :
    Calls Tryz.prog 86 #[.slice A n c, .int .i64 k] w (Rd w (rdT l k)) := by
  have hl := hs.1
  obtain ⟨k', rfl⟩ := Int.eq_ofNat_of_zero_le hk.1
  have hk2 := hk.2
  clear hk
  have HX : Hid (rdT l (k' : Int) = if (l.length : Int) ≤ (k' : Int) then (2, 0, zr) else if (l.length : Int) < (k' : Int) + 1 + bt l (k' : Int) then (2, 0, zr) else (0, (k' : Int) + 1 + bt l (k' : Int), rT (piece l (k' : Int).toNat (bt l (k' : Int)).toNat))) := rfl
  generalize rdT l (k' : Int) = X at *
  rw [hl] at HX
  by_cases h1 : (n : Int) ≤ (k' : Int)
  · have HX2 := Lib.hid (HX.out.trans (if_pos h1))
    clear HX hs hl
    go_enter Tryz.func86, Tryz.ntmps86
    go_wp2
    go_ret3
    rw [HX2.out]
    exact ⟨_, rfl, fun h => absurd h (by decide), Below.refl _ _⟩
  · have hkl : k' < l.length := by omega
    have hkn : k' < n := by omega
    have HX2 := Lib.hid (HX.out.trans (if_neg h1))
    clear HX
    rw [bt_at l k' hkl, Int.toNat_natCast, Int.toNat_natCast] at HX2
    obtain ⟨b, off, rfl, hbB, hcs⟩ := hs.2 (by omega)
    have hx : w.cell? ⟨b, off + k', none⟩ = some (.int .u8 (l[k'].toNat : Int)) := hcs k' hkl
    have hb1 : l[k'].toNat < 256 := l[k'].toNat_lt
    have HS := Lib.hid hs
    clear hs hcs hl h1 hk2
    generalize l[k'].toNat = m at *
    by_cases hin : k' + 1 + m ≤ n
    · have HX3 := Lib.hid (HX2.out.trans (if_neg (by omega)))
      clear HX2
      by_cases hck : c = k' + 1
      · obtain rfl : m = 0 := by omega
        have hcv := fun A cap => conv_empty (w := w) A cap l k'
        generalize piece l k' 0 = T at *
        go_enter Tryz.func86, Tryz.ntmps86
        go_wp2
        go_ret3
        rw [HX3.out]
        exact ⟨_, rfl, fun _ => of_text T, Below.refl _ _⟩
      · have hcv := fun cap => conv_text HS.out k' m cap hin
        generalize piece l k' m = T at *
        go_enter Tryz.func86, Tryz.ntmps86
        go_wp2
        go_ret3
        rw [HX3.out]
        exact ⟨_, rfl, fun _ => of_text T, Below.refl _ _⟩
    · have HX3 := Lib.hid (HX2.out.trans (if_pos (by omega)))
      clear HX2
      go_enter Tryz.func86, Tryz.ntmps86
      go_wp2
      go_ret3
      rw [HX3.out]
      exact ⟨_, rfl, fun h => absurd h (by decide), Below.refl _ _⟩

set_option maxHeartbeats 1000000 in
theorem readData (A : Option Addr) (n c : Nat) (l : List UInt8) (k ty : Int) (w : World) (he : Env w) (hs : Sl w w.heap.size A n l) (hnc : n ≤ c) (hn : n ≤ 400000000) (hk : 0 ≤ k ∧ k ≤ (n : Int)) :
    Calls Tryz.prog 48 #[.slice A n c, .int .i64 k, .int .i64 ty] w (Rd w (rdd l k ty)) := by
  have P1 := Lib.hid (readAddr A n c l k w hs hnc hn hk)
  have P2 := Lib.hid (readServer A n c l k w he hs hnc hn)
  have P5 := Lib.hid (readAlias A n c l k w he hs hnc hn)
  have P6 := Lib.hid (readStart A n c l k w he hs hnc hn)
  have P16 := Lib.hid (readText A n c l k w hs hnc hn hk)
  clear hs he hk
  by_cases t1 : ty = 1
  · subst t1
    have HX : Hid (rdd l k 1 = rdA l k) := rfl
    generalize rdd l k 1 = X at *
    generalize rdA l k = Y at *
    obtain ⟨yc, yn, yr⟩ := Y
    go_enter Tryz.func48, Tryz.ntmps48
    go_wp2_with fail
    refine P1.out.mono ?_
    rintro e w1 ⟨v, rfl, hv, hl⟩
    have HV := Lib.hid hv
    have L1 := Lib.hid hl
    clear hv hl
    go_wp2
    go_ret3
    rw [HX.out]
    exact ⟨v, rfl, HV.out, L1.out⟩
  by_cases t2 : ty = 2
  · subst t2
    have HX : Hid (rdd l k 2 = rdH l k 2) := rfl
    generalize rdd l k 2 = X at *
    generalize rdH l k 2 = Y at *
    obtain ⟨yc, yn, yr⟩ := Y
    go_enter Tryz.func48, Tryz.ntmps48
    go_wp2_with fail
    refine P2.out.mono ?_
    rintro e w1 ⟨v, rfl, hv, hl⟩
    have HV := Lib.hid hv
    have L1 := Lib.hid hl
    clear hv hl
    go_wp2
    go_ret3
    rw [HX.out]
    exact ⟨v, rfl, HV.out, L1.out⟩
  by_cases t5 : ty = 5
  · subst t5
    have HX : Hid (rdd l k 5 = rdH l k 5) := rfl
    generalize rdd l k 5 = X at *
    generalize rdH l k 5 = Y at *
    obtain ⟨yc, yn, yr⟩ := Y
    go_enter Tryz.func48, Tryz.ntmps48
    go_wp2_with fail
    refine P5.out.mono ?_
    rintro e w1 ⟨v, rfl, hv, hl⟩
    have HV := Lib.hid hv
    have L1 := Lib.hid hl
    clear hv hl
    go_wp2
    go_ret3
    rw [HX.out]
    exact ⟨v, rfl, HV.out, L1.out⟩
  by_cases t6 : ty = 6
  · subst t6
    have HX : Hid (rdd l k 6 = rdS l k) := rfl
    generalize rdd l k 6 = X at *
    generalize rdS l k = Y at *
    obtain ⟨yc, yn, yr⟩ := Y
    go_enter Tryz.func48, Tryz.ntmps48
    go_wp2_with fail
    refine P6.out.mono ?_
    rintro e w1 ⟨v, rfl, hv, hl⟩
    have HV := Lib.hid hv
    have L1 := Lib.hid hl
    clear hv hl
    go_wp2
    go_ret3
    rw [HX.out]
    exact ⟨v, rfl, HV.out, L1.out⟩
  by_cases t16 : ty = 16
  · subst t16
    have HX : Hid (rdd l k 16 = rdT l k) := rfl
    generalize rdd l k 16 = X at *
    generalize rdT l k = Y at *
    obtain ⟨yc, yn, yr⟩ := Y
    go_enter Tryz.func48, Tryz.ntmps48
    go_wp2_with fail
    refine P16.out.mono ?_
    rintro e w1 ⟨v, rfl, hv, hl⟩
    have HV := Lib.hid hv
    have L1 := Lib.hid hl
    clear hv hl
    go_wp2
    go_ret3
    rw [HX.out]
    exact ⟨v, rfl, HV.out, L1.out⟩
  have HX : Hid (rdd l k ty = (2, 0, zr)) := by show _ = _; unfold rdd; rw [if_neg t1, if_neg (by omega), if_neg t6, if_neg t16]
  generalize rdd l k ty = X at *
  have e1 : (ty == 1) = false := beq_eq_false_iff_ne.2 t1
  have e2 : (ty == 2) = false := beq_eq_false_iff_ne.2 t2
  have e5 : (ty == 5) = false := beq_eq_false_iff_ne.2 t5
  have e6 : (ty == 6) = false := beq_eq_false_iff_ne.2 t6
  have e16 : (ty == 16) = false := beq_eq_false_iff_ne.2 t16
  clear P1 P2 P5 P6 P16
  go_enter Tryz.func48, Tryz.ntmps48
  go_wp2
  go_ret3
  rw [HX.out]
  exact ⟨_, rfl, fun h => absurd h (by decide), Below.refl _ _⟩

end Go.Proofs.YtcpadkehalgddaaGreatDoor.ReadI

/- Plain mathematics: a name that is read is valid, ends behind its offset and inside the bytes, and follows no more pointers than there are bytes. -/
namespace Go.Proofs.YtcpadkehalgddaaGreatDoor.WireGood
open Go.Proofs.YtcpadkehalgddaaGreatDoor.JoinSpec Go.Proofs.YtcpadkehalgddaaGreatDoor.GetLabel Go.Proofs.YtcpadkehalgddaaGreatDoor.NameOk Go.Proofs.YtcpadkehalgddaaGreatDoor.WireMath

/-- What is known on the way from offset o. -/
def Way (l : List UInt8) (o k m : Int) (j : Nat) (x : Int) : Prop :=
  (x = -1 ∧ o ≤ k ∧ j = 0 ∧ m = o) ∨ (0 ≤ x ∧ o < x ∧ x ≤ (l.length : Int) ∧ 0 ≤ m ∧ (j : Int) + m ≤ (l.length : Int))
theorem go_good (l : List UInt8) (o : Int) (L' : List ByteArray) (x' : Int) (j' : Nat) : ∀ f L k m j x, go l f L k m j x = (0, L', x', j') → okL L = true → Nm (Jo L) = true → Way l o k m j x →
    okL L' = true ∧ Nm (Jo L') = true ∧ o < x' ∧ x' ≤ (l.length : Int) ∧ (j' : Int) ≤ (l.length : Int)
  | 0, L, k, m, j, x, h, _, _, _ => by simp [go] at h
  | f + 1, L, k, m, j, x, h, hok, hnm, hw => by
    unfold go at h
    split at h
    · simp at h
    · rename_i hk
      split at h
      · simp only [Prod.mk.injEq, true_and] at h
        obtain ⟨rfl, rfl, rfl⟩ := h
        refine ⟨hok, hnm, ?_⟩
        rcases hw with ⟨rfl, h1, rfl, rfl⟩ | ⟨h0, h1, h2, h3, h4⟩
        · rw [if_pos (by omega)]
          omega
        · rw [if_neg (by omega)]
          omega
      · rename_i h0
        split at h
        · rename_i h192
          split at h
          · simp at h
          · rename_i h1
            split at h
            · simp at h
            · rename_i h2
              have ht := tg_pos l k h192
              refine go_good l o L' x' j' f L _ _ _ _ h hok hnm (Or.inr ?_)
              rcases hw with ⟨rfl, h3, rfl, rfl⟩ | ⟨h3, h4, h5, h6, h7⟩
              · rw [if_pos (by omega)]
                omega
              · rw [if_neg (by omega)]
                omega
        · cases hh : has l k with
          | none =>
            rw [hh] at h
            simp only [Prod.mk.injEq] at h
            have := h.1
            split at this <;> omega
          | some q =>
            obtain ⟨p, e⟩ := q
            rw [hh] at h
            dsimp only at h
            split at h
            · rename_i h3
              have hs := has_some hh
              refine go_good l o L' x' j' f _ _ _ _ _ h (okL_snoc hok hs.2.2.2.1) h3 ?_
              rcases hw with ⟨rfl, h4, h5, h6⟩ | h4
              · exact Or.inl ⟨rfl, by omega, h5, h6⟩
              · exact Or.inr h4
            · simp at h
theorem rn_good {l : List UInt8} {k : Int} {L' : List ByteArray} {x' : Int} {j' : Nat} (h : rn l [] k k 0 (-1) = (0, L', x', j')) :
    okL L' = true ∧ Nm (Jo L') = true ∧ k < x' ∧ x' ≤ (l.length : Int) ∧ (j' : Int) ≤ (l.length : Int) :=
  go_good l k L' x' j' _ _ _ _ _ _ h rfl rfl (Or.inl ⟨rfl, Int.le_refl _, rfl, rfl⟩)
end Go.Proofs.YtcpadkehalgddaaGreatDoor.WireGood

/- What the program's GetData does: it reads as FieldMath tells (gd, and the look at the record besides: fx), and turns nothing that was there. Conditions: at most 400000000 bytes; the library's variable internal/bytealg.MaxLen holds an int. -/
namespace Go.Proofs.YtcpadkehalgddaaGreatDoor.GetI
open Go.RowKit Go.Proofs.YtcpadkehalgddaaGreatDoor.Mem Go.Proofs.YtcpadkehalgddaaGreatDoor.MemR Go.Proofs.YtcpadkehalgddaaGreatDoor.JoinSpec Go.Proofs.YtcpadkehalgddaaGreatDoor.Labels Go.Proofs.YtcpadkehalgddaaGreatDoor.BoxR Go.Proofs.YtcpadkehalgddaaGreatDoor.NameOk Go.Proofs.YtcpadkehalgddaaGreatDoor.TextR Go.Proofs.YtcpadkehalgddaaGreatDoor.RecOk Go.Proofs.YtcpadkehalgddaaGreatDoor.WireMath Go.Proofs.YtcpadkehalgddaaGreatDoor.FieldMath Go.Proofs.YtcpadkehalgddaaGreatDoor.FieldRd Go.Proofs.YtcpadkehalgddaaGreatDoor.ResR Go.Proofs.YtcpadkehalgddaaGreatDoor.ReadI Go.Proofs.YtcpadkehalgddaaGreatDoor.WireGood Go.Proofs.YtcpadkehalgddaaGreatDoor.Plain

/-- What GetData hands back. A def, so that no step of a walk opens it. -/
def val2 (X : Nat × Rec) : Value := .tuple #[.agg #[.string (X.2).name, .int .i64 (X.2).ty, .int .i64 (X.2).ttl, .int .i64 (X.2).n, .string (X.2).host, .string (X.2).text], .int .i64 (X.1 : Int)]
theorem piece_le (l : List UInt8) (k m : Nat) : (GetLabel.piece l k m).size ≤ m := by
  show ((l.drop (k + 1)).take m).toArray.size ≤ m
  simp
  omega
theorem name_le {l : List UInt8} {k : Int} (h : (rn l [] k k 0 (-1)).1 = 0) : (Jo (rn l [] k k 0 (-1)).2.1).size ≤ 50 := by
  generalize hr : rn l [] k k 0 (-1) = R at *
  obtain ⟨c, L, x, j⟩ := R
  have h : c = 0 := h
  subst h
  exact (nm_parts (rn_good hr).2.1).1
/-- A record that was read is not long. -/
theorem rdd_mod (l : List UInt8) (k ty : Int) (h : (rdd l k ty).1 = 0) : DataS.Med (rdd l k ty).2.2 := by
  have hz : DataS.Med zr := ⟨by decide, by decide, by decide⟩
  unfold rdd at h ⊢
  split at h
  · rename_i h1
    rw [if_pos h1]
    unfold rdA at h ⊢
    split
    · exact ⟨by show (0 : Nat) ≤ _; omega, by show (0 : Nat) ≤ _; omega, by show (0 : Nat) ≤ _; omega⟩
    · exact hz
  · rename_i h1
    rw [if_neg h1]
    split at h
    · rename_i h2
      rw [if_pos h2]
      exact ⟨by show (0 : Nat) ≤ _; omega, Nat.le_trans (name_le h) (by decide), by show (0 : Nat) ≤ _; omega⟩
    · rename_i h2
      rw [if_neg h2]
      split at h
      · rename_i h6
        rw [if_pos h6]
        unfold rdS at h ⊢
        split at h
        · rename_i hc
          rw [if_pos hc]
          exact hz
        · rename_i hc
          rw [if_neg hc]
          have hc : (rn l [] k k 0 (-1)).1 = 0 := Decidable.byContradiction hc
          split
          · exact ⟨by show (0 : Nat) ≤ _; omega, Nat.le_trans (name_le hc) (by decide), by show (0 : Nat) ≤ _; omega⟩
          · exact hz
      · rename_i h6
        rw [if_neg h6]
        split at h
        · rename_i h16
          rw [if_pos h16]
          unfold rdT at h ⊢
          split
          · exact hz
          · split
            · exact hz
            · have hb := bt_bounds l k
              have hp := piece_le l k.toNat (bt l k).toNat
              exact ⟨by show (0 : Nat) ≤ _; omega, by show (0 : Nat) ≤ _; omega, by show (GetLabel.piece l k.toNat (bt l k).toNat).size ≤ _; omega⟩
        · exact absurd h (by decide)

set_option maxRecDepth 100000 in
set_option maxHeartbeats 2000000 in
theorem data (A : Option Addr) (n c : Nat) (l : List UInt8) (k q ty : Int) (w : World) (he : Env w) (hs : Sl w w.heap.size A n l) (hnc : n ≤ c) (hn : n ≤ 400000000) :
    Calls Tryz.prog 15 #[.slice A n c, .int .i64 k, .int .i64 q, .int .i64 ty] w fun e w' => e = .returned (val2 (fx (gd l k q ty))) ∧ Below w.heap.size w w' := by
  have hl := hs.1
  have L0 := Lib.hid ((Below.refl w.heap.size w).alloc (Nat.le_refl _) (.cells #[.string ⟨#[]⟩, .int .i64 0, .int .i64 0, .int .i64 0, .string ⟨#[]⟩, .string ⟨#[]⟩] 25))
  by_cases h : 0 ≤ q ∧ q ≤ 255
  · have HI : Hid (inn q 0 255 = true) := decide_eq_true h
    by_cases hk : k < 0 ∨ (n : Int) - q < k
    · have HX : Hid (fx (gd l k q ty) = (1, zr)) := by show _ = _; rw [gd_out h (by rw [hl]; exact hk)]; exact fx_bad (by decide)
      generalize fx (gd l k q ty) = X at *
      clear hs hl he
      obtain ⟨h0, h1⟩ := h
      rcases (show k < 0 ∨ (¬ k < 0 ∧ (n : Int) - q < k) by omega) with hk | ⟨hk0, hk⟩
      all_goals
        go_enter Tryz.func15, Tryz.ntmps15
        go_wp2_with fail
        refine (upTo_any q 255 _).mono ?_
        rw [HI.out]
        rintro e w1 ⟨rfl, rfl⟩
        go_wp2
        refine bodyPost_ret (v := val2 (1, zr)) (res2 rfl (show Bk _ w.heap.size 25 (rc zr) from heap_alloc_new w _) rfl rfl) rfl ⟨by rw [HX.out], L0.out⟩
    · have HX := Lib.hid (rdd_gd (ty := ty) h (by rw [hl]; exact hk))
      have RD := Lib.hid (fun W (hW : Below w.heap.size w W) => readData A n c l k ty W (he.below hW) ((hs.below hW).wider hW.size) hnc hn (by omega))
      have HM := Lib.hid (rdd_mod l k ty)
      have HE := Lib.hid he
      have Z0 : Hid (Bk (w.alloc (.cells #[.string ⟨#[]⟩, .int .i64 0, .int .i64 0, .int .i64 0, .string ⟨#[]⟩, .string ⟨#[]⟩] 25)) w.heap.size 25 (rc zr)) := heap_alloc_new w _
      generalize fx (gd l k q ty) = X at *
      generalize rdd l k ty = Y at *
      obtain ⟨yc, yn, yr⟩ := Y
      dsimp only at HX HM
      clear hs hl he
      obtain ⟨h0, h1⟩ := h
      have hk0 : ¬ k < 0 := by omega
      have hk1 : ¬ (n : Int) - q < k := by omega
      clear hk
      go_enter Tryz.func15, Tryz.ntmps15
      go_wp2_with fail
      refine (upTo_any q 255 _).mono ?_
      rw [HI.out]
      rintro e w1 ⟨rfl, rfl⟩
      go_wp2_with fail
      refine (RD.out _ L0.out).mono ?_
      rintro e w1 ⟨v, rfl, hv, hl⟩
      dsimp only at hv ⊢
      have HV := Lib.hid hv
      have L1 := Lib.hid (L0.out.trans (hl.mono L0.out.size))
      have Z1 := Lib.hid (Z0.out.below hl Z0.out.lt)
      clear hv hl L0 Z0 RD
      obtain ⟨z0, z1, z2, z3, z4, z5⟩ := bx_of Z1.out
      have f0 := Z1.out.free 0
      have f1 := Z1.out.free 1
      have f2 := Z1.out.free 2
      have f3 := Z1.out.free 3
      have f4 := Z1.out.free 4
      have f5 := Z1.out.free 5
      by_cases hc : yc = 0
      · subst hc
        have HX2 := Lib.hid (HX.out.trans (if_neg (fun e => e rfl)))
        have RO := Lib.hid (fun W (hW : Below w.heap.size w W) => RecOk.impl yr W (HE.out.below hW) (HM.out rfl).mod)
        have HR := Lib.hid (HV.out rfl w1)
        clear HX HM HV
        obtain ⟨u, hu⟩ : ∃ u, rok yr = u := ⟨_, rfl⟩
        have HU := Lib.hid hu
        clear hu
        go_wp2_with fail
        refine HR.out.mono ?_
        rintro e w2 ⟨rfl, hl⟩
        have L2 := Lib.hid (L1.out.trans (hl.mono L1.out.size))
        have Z2 := Lib.hid (Z1.out.below hl Z1.out.lt)
        clear hl HR L1 Z1 z0 z1 z2 z3 z4 z5 f0 f1 f2 f3 f4 f5
        have L3 := Lib.hid (L2.out.alloc L2.out.size (.cells #[.string yr.name, .int .i64 yr.ty, .int .i64 yr.ttl, .int .i64 yr.n, .string yr.host, .string yr.text] 25))
        have Z3 := Lib.hid (Z2.out.alloc (.cells #[.string yr.name, .int .i64 yr.ty, .int .i64 yr.ttl, .int .i64 yr.n, .string yr.host, .string yr.text] 25))
        have X3 := Lib.hid (bx_new w2 25 yr)
        obtain ⟨z0, z1, z2, z3, z4, z5⟩ := bx_of Z3.out
        have f0 := Z3.out.free 0
        have f1 := Z3.out.free 1
        have f2 := Z3.out.free 2
        have f3 := Z3.out.free 3
        have f4 := Z3.out.free 4
        have f5 := Z3.out.free 5
        by_cases hq : yn = k + q
        · have hq2 : (yn != k + q) = false := by simp [hq]
          have HX4 : Hid (X = if rok yr = true then (0, yr) else (2, zr)) := by
            show _ = _
            rw [HX2.out, HU.out]
            cases u <;> simp [hq]
          clear hq HX2
          go_wp2_with fail
          refine (RO.out _ L3.out).mono ?_
          rw [HU.out]
          rintro e w4 ⟨rfl, hl⟩
          have L4 := Lib.hid (L3.out.trans (hl.mono L3.out.size))
          have Z4 := Lib.hid (Z3.out.below hl Z3.out.lt)
          have X4 := Lib.hid (X3.out.below hl)
          clear hl L3 Z3 X3 z0 z1 z2 z3 z4 z5 f0 f1 f2 f3 f4 f5
          obtain ⟨z0, z1, z2, z3, z4, z5⟩ := bx_of Z4.out
          have f0 := Z4.out.free 0
          have f1 := Z4.out.free 1
          have f2 := Z4.out.free 2
          have f3 := Z4.out.free 3
          have f4 := Z4.out.free 4
          have f5 := Z4.out.free 5
          rw [HU.out] at HX4
          cases u
          · go_wp2
            refine bodyPost_ret (v := val2 (2, zr)) (res2 rfl (fil_bk Z4.out zr) rfl rfl) rfl ⟨by rw [HX4.out]; rfl, fil_below L4.out (Nat.le_refl _) zr⟩
          · obtain ⟨x0, x1, x2, x3, x4, x5⟩ := X4.out
            go_wp2
            refine bodyPost_ret (v := val2 (0, yr)) (res2 rfl (fil_bk Z4.out yr) rfl rfl) rfl ⟨by rw [HX4.out]; rfl, fil_below L4.out (Nat.le_refl _) yr⟩
        · have hq2 : (yn != k + q) = true := by simpa using hq
          have HX4 : Hid (X = (2, zr)) := by
            show _ = _
            rw [HX2.out, if_neg (fun e => hq e.1)]
          clear hq HX2
          go_wp2
          refine bodyPost_ret (v := val2 (2, zr)) (res2 rfl (fil_bk Z3.out zr) rfl rfl) rfl ⟨by rw [HX4.out], fil_below L3.out (Nat.le_refl _) zr⟩
      · have HX2 := Lib.hid (HX.out.trans (if_pos hc))
        have hc2 : ((yc : Int) != 0) = true := by simp; omega
        clear HX
        go_wp2
        refine bodyPost_ret (v := val2 (yc, zr)) (res2 rfl (fil_bk Z1.out zr) rfl rfl) rfl ⟨by rw [HX2.out], fil_below L1.out (Nat.le_refl _) zr⟩
  · have HI : Hid (inn q 0 255 = false) := decide_eq_false h
    have HX : Hid (fx (gd l k q ty) = (2, zr)) := by show _ = _; rw [gd_n h]; exact fx_bad (by decide)
    generalize fx (gd l k q ty) = X at *
    clear hs hl he h
    go_enter Tryz.func15, Tryz.ntmps15
    go_wp2_with fail
    refine (upTo_any q 255 _).mono ?_
    rw [HI.out]
    rintro e w1 ⟨rfl, rfl⟩
    go_wp2
    refine bodyPost_ret (v := val2 (2, zr)) (res2 rfl (show Bk _ w.heap.size 25 (rc zr) from heap_alloc_new w _) rfl rfl) rfl ⟨by rw [HX.out], L0.out⟩
end Go.Proofs.YtcpadkehalgddaaGreatDoor.GetI

/- What the program's GetRecord does: it reads a record as FieldMath tells (gr), and turns nothing that was there. Conditions: at most 400000000 bytes; the library's variable internal/bytealg.MaxLen holds an int. -/
namespace Go.Proofs.YtcpadkehalgddaaGreatDoor.GetRecI
open Go.RowKit Go.Proofs.YtcpadkehalgddaaGreatDoor.Mem Go.Proofs.YtcpadkehalgddaaGreatDoor.MemR Go.Proofs.YtcpadkehalgddaaGreatDoor.JoinSpec Go.Proofs.YtcpadkehalgddaaGreatDoor.Labels Go.Proofs.YtcpadkehalgddaaGreatDoor.BoxR Go.Proofs.YtcpadkehalgddaaGreatDoor.NameOk Go.Proofs.YtcpadkehalgddaaGreatDoor.TextR Go.Proofs.YtcpadkehalgddaaGreatDoor.RecOk Go.Proofs.YtcpadkehalgddaaGreatDoor.WireMath Go.Proofs.YtcpadkehalgddaaGreatDoor.WireGood Go.Proofs.YtcpadkehalgddaaGreatDoor.WalkSpec Go.Proofs.YtcpadkehalgddaaGreatDoor.Get Go.Proofs.YtcpadkehalgddaaGreatDoor.FieldMath Go.Proofs.YtcpadkehalgddaaGreatDoor.FieldRd Go.Proofs.YtcpadkehalgddaaGreatDoor.ResR Go.Proofs.YtcpadkehalgddaaGreatDoor.ReadI Go.Proofs.YtcpadkehalgddaaGreatDoor.GetI

theorem get2 (A : Option Addr) (n c : Nat) (l : List UInt8) (k : Int) (w : World) (B : Nat) (hs : Sl w B A n l) (hnc : n ≤ c) (hn : n ≤ 400000000) :
    Calls Tryz.prog 46 #[.slice A n c, .int .i64 k] w fun e w' => e = .returned (.tuple #[.int .i64 (n2 l k).1, .bool (n2 l k).2]) ∧ w = w' := by
  have hl := hs.1
  unfold n2
  by_cases h : 0 ≤ k ∧ k ≤ (l.length : Int) - 2
  · rw [if_pos h]
    obtain ⟨j, rfl⟩ := Int.eq_ofNat_of_zero_le h.1
    exact implGet2_yes A n c l w B j hs hnc hn (by omega)
  · rw [if_neg h]
    exact implGet2_no A n c w k hn (by omega)
/-- What GetRecord hands back. A def, so that no step of a walk opens it. -/
def valR (X : Nat × Int × Rec) : Value := .tuple #[.agg #[.string (X.2.2).name, .int .i64 (X.2.2).ty, .int .i64 (X.2.2).ttl, .int .i64 (X.2.2).n, .string (X.2.2).host, .string (X.2.2).text], .int .i64 X.2.1, .int .i64 (X.1 : Int)]
theorem rn_from {l : List UInt8} {k : Int} {L : List ByteArray} {x : Int} {j : Nat} (h : rn l [] k k 0 (-1) = (0, L, x, j)) : 0 ≤ k := by
  refine Decidable.byContradiction fun hk => ?_
  rw [rn_out (Or.inl (by omega))] at h
  simp at h
/-- A valid record's texts are not long; what GetData gives is not. -/
theorem gd_med {l : List UInt8} {k n ty : Int} {r : Rec} (h : fx (gd l k n ty) = (0, r)) : DataS.Med r := by
  by_cases hn : 0 ≤ n ∧ n ≤ 255
  · by_cases hk : k < 0 ∨ (l.length : Int) - n < k
    · rw [gd_out hn hk, fx_bad (by decide)] at h
      simp at h
    · rw [rdd_gd hn hk] at h
      split at h
      · rename_i hc
        simp only [Prod.mk.injEq] at h
        exact absurd h.1 hc
      · rename_i hc
        split at h
        · simp only [Prod.mk.injEq, true_and] at h
          rw [← h]
          exact rdd_mod l k ty (Decidable.byContradiction hc)
        · simp at h
  · rw [gd_n hn, fx_bad (by decide)] at h
    simp at h
theorem fx_cases (X : Nat × Rec) : (fx X = X ∧ (X.1 = 0 → rok X.2 = true)) ∨ (fx X = (2, zr) ∧ X.1 = 0 ∧ rok X.2 = false) := by
  unfold fx
  split
  · rename_i h
    exact Or.inr ⟨rfl, h⟩
  · rename_i h
    exact Or.inl ⟨rfl, fun e => by cases hr : rok X.2; exact absurd ⟨e, hr⟩ h; rfl⟩

/-- What is known behind the head of a record: its answer, told of what GetData gave. -/
theorem gr_by {l : List UInt8} {k : Int} {L : List ByteArray} {p : Int} {j c : Nat} {r : Rec} (h : rn l [] k k 0 (-1) = (0, L, p, j)) (hp : ¬ (l.length : Int) - 10 < p) (hd : fx (gd l (p + 10) (n2 l (p + 8)).1 (n2 l p).1) = (c, r)) :
    gr l k = if c ≠ 0 then (c, 0, zr) else if (n4 l (p + 4)).2 = true ∧ (n2 l (p + 2)).1 = 1 ∧ rok (wn r (Jo L) (n4 l (p + 4)).1) = true then (0, p + 10 + (n2 l (p + 8)).1, wn r (Jo L) (n4 l (p + 4)).1) else (2, 0, zr) := by
  rcases fx_cases (gd l (p + 10) (n2 l (p + 8)).1 (n2 l p).1) with ⟨e, hr⟩ | ⟨e, h0, hr⟩
  · rw [e] at hd
    by_cases hc : c ≠ 0
    · rw [if_pos hc]
      exact gr_data h hp hd hc
    · have hc0 : c = 0 := Decidable.byContradiction hc
      subst hc0
      rw [if_neg hc]
      split
      · rename_i hg
        exact gr_good h hp hd hg
      · rename_i hg
        exact gr_form h hp hd hg
  · rw [e] at hd
    simp only [Prod.mk.injEq] at hd
    obtain ⟨rfl, rfl⟩ := hd
    rw [if_pos (by decide)]
    generalize hD : gd l (p + 10) (n2 l (p + 8)).1 (n2 l p).1 = D at *
    obtain ⟨c', r'⟩ := D
    have h0 : c' = 0 := h0
    subst h0
    exact gr_form h hp hD (fun hg => by rw [rok_wn hD hr] at hg; exact absurd hg.2.2 (by decide))

set_option maxRecDepth 100000 in
set_option maxHeartbeats 4000000 in
theorem record (A : Option Addr) (n c : Nat) (l : List UInt8) (k : Int) (w : World) (he : Env w) (hs : Sl w w.heap.size A n l) (hnc : n ≤ c) (hn : n ≤ 400000000) :
    Calls Tryz.prog 14 #[.slice A n c, .int .i64 k] w fun e w' => e = .returned (valR (gr l k)) ∧ Below w.heap.size w w' := by
  have hl := hs.1
  have L0 := Lib.hid ((Below.refl w.heap.size w).alloc (Nat.le_refl _) (.cells #[.string ⟨#[]⟩, .int .i64 0, .int .i64 0, .int .i64 0, .string ⟨#[]⟩, .string ⟨#[]⟩] 25))
  have Z0 : Hid (Bk (w.alloc (.cells #[.string ⟨#[]⟩, .int .i64 0, .int .i64 0, .int .i64 0, .string ⟨#[]⟩, .string ⟨#[]⟩] 25)) w.heap.size 25 (rc zr)) := heap_alloc_new w _
  have HS := Lib.hid hs
  have HE := Lib.hid he
  have GN := Lib.hid (fun W (hW : Below w.heap.size w W) => NameGet.getName A n c l k W _ rfl (he.below hW) ((hs.below hW).wider hW.size) hn hnc)
  generalize hR : rn l [] k k 0 (-1) = R at *
  obtain ⟨c0, L, p, j⟩ := R
  unfold val3 at GN
  dsimp only at GN
  by_cases hc : c0 = 0
  · subst hc
    have HF := rn_from hR
    obtain ⟨_, _, hp1, hp2, _⟩ := rn_good hR
    have hp0 : 0 ≤ p := by omega
    rw [hl] at hp2
    clear hp1 HF
    by_cases hs10 : (n : Int) - 10 < p
    · have HX := Lib.hid (gr_short hR (by rw [hl]; exact hs10))
      generalize gr l k = X at *
      generalize Jo L = s at *
      clear hs hl he hR
      go_enter Tryz.func14, Tryz.ntmps14
      go_wp2_with fail
      refine (GN.out _ L0.out).mono ?_
      rintro e w1 ⟨rfl, hl⟩
      have L1 := Lib.hid (L0.out.trans (hl.mono L0.out.size))
      have Z1 := Lib.hid (Z0.out.below hl Z0.out.lt)
      clear hl L0 Z0
      obtain ⟨z0, z1, z2, z3, z4, z5⟩ := bx_of Z1.out
      have f0 := Z1.out.free 0
      have f1 := Z1.out.free 1
      have f2 := Z1.out.free 2
      have f3 := Z1.out.free 3
      have f4 := Z1.out.free 4
      have f5 := Z1.out.free 5
      go_wp2
      refine bodyPost_ret (v := valR (1, 0, zr)) (res3 rfl (fil_bk Z1.out zr) rfl rfl rfl) rfl ⟨by rw [HX.out], fil_below L1.out (Nat.le_refl _) zr⟩
    · have HG2 := Lib.hid (fun (q : Int) (W : World) (hW : Below w.heap.size w W) => get2 A n c l q W _ (hs.below hW) hnc hn)
      have HG4 := Lib.hid (fun (q : Int) (W : World) (hW : Below w.heap.size w W) => get4 A n c l q W _ (hs.below hW) hnc hn)
      have HGD := Lib.hid (fun (q m t : Int) (W : World) (hW : Below w.heap.size w W) => GetI.data A n c l q m t W (he.below hW) ((hs.below hW).wider hW.size) hnc hn)
      generalize hD : fx (gd l (p + 10) (n2 l (p + 8)).1 (n2 l p).1) = D at *
      obtain ⟨dc, yr⟩ := D
      have HX := Lib.hid (gr_by hR (by rw [hl]; exact hs10) hD)
      have HM := Lib.hid (fun (e : dc = 0) => gd_med (r := yr) (by rw [hD, e]))
      have HNL : Hid ((Jo L).size ≤ 50) := (Plain.nm_parts (rn_good hR).2.1).1
      have h1 := (n2_in (l := l) (k := p) hp0 (by omega)).2
      have h2 := (n2_in (l := l) (k := p + 2) (by omega) (by omega)).2
      have h8 := (n2_in (l := l) (k := p + 8) (by omega) (by omega)).2
      have hG1 := HG2.out p
      have hG2 := HG2.out (p + 2)
      have hG8 := HG2.out (p + 8)
      have hG4 := HG4.out (p + 4)
      have hGD := HGD.out (p + 10) (n2 l (p + 8)).1 (n2 l p).1
      rw [hD] at hGD
      generalize gr l k = X at *
      generalize Jo L = s at *
      clear hD
      generalize n2 l p = y1 at *
      generalize n2 l (p + 2) = y2 at *
      generalize n2 l (p + 8) = y8 at *
      generalize n4 l (p + 4) = y4 at *
      obtain ⟨ty, b1⟩ := y1
      obtain ⟨cl, b2⟩ := y2
      obtain ⟨q, b8⟩ := y8
      obtain ⟨tt, b4⟩ := y4
      dsimp only at h1 h2 h8 hG1 hG2 hG8 hG4 hGD HX
      obtain ⟨h10, h11⟩ := h1
      obtain ⟨h20, h21⟩ := h2
      obtain ⟨h80, h81⟩ := h8
      have G1 := Lib.hid hG1
      have G2 := Lib.hid hG2
      have G8 := Lib.hid hG8
      have G4 := Lib.hid hG4
      have GD := Lib.hid hGD
      clear hG1 hG2 hG8 hG4 hGD HG2 HG4 HGD hs hl he hR
      go_enter Tryz.func14, Tryz.ntmps14
      go_wp2_with fail
      refine (GN.out _ L0.out).mono ?_
      rintro e w1 ⟨rfl, hl⟩
      have L1 := Lib.hid (L0.out.trans (hl.mono L0.out.size))
      have Z1 := Lib.hid (Z0.out.below hl Z0.out.lt)
      clear hl L0 Z0
      go_wp2_with fail
      refine (G1.out _ L1.out).mono ?_
      rintro e w2 ⟨rfl, rfl⟩
      go_wp2_with fail
      refine (G2.out _ L1.out).mono ?_
      rintro e w2 ⟨rfl, rfl⟩
      go_wp2_with fail
      refine (G4.out _ L1.out).mono ?_
      rintro e w2 ⟨rfl, rfl⟩
      go_wp2_with fail
      refine (G8.out _ L1.out).mono ?_
      rintro e w2 ⟨rfl, rfl⟩
      go_wp2_with fail
      refine (GD.out _ L1.out).mono ?_
      rintro e w2 ⟨rfl, hl⟩
      have L2 := Lib.hid (L1.out.trans (hl.mono L1.out.size))
      have Z2 := Lib.hid (Z1.out.below hl Z1.out.lt)
      clear hl L1 Z1 G1 G2 G4 G8 GD GN
      unfold val2
      dsimp only
      by_cases hdc : dc = 0
      · subst hdc
        have HX2 := Lib.hid (HX.out.trans (if_neg (fun e => e rfl)))
        have hmed := HM.out rfl
        have RO := Lib.hid (fun W (hW : Below w.heap.size w W) => RecOk.impl (wn yr s tt) W (HE.out.below hW) (show Mod (wn yr s tt) from ⟨Nat.le_trans HNL.out (by decide), (hmed.mod).2.1, (hmed.mod).2.2⟩))
        unfold wn at RO
        dsimp only at RO
        have L3 := Lib.hid (L2.out.alloc L2.out.size (.cells #[.string s, .int .i64 yr.ty, .int .i64 tt, .int .i64 yr.n, .string yr.host, .string yr.text] 25))
        have Z3 := Lib.hid (Z2.out.alloc (.cells #[.string s, .int .i64 yr.ty, .int .i64 tt, .int .i64 yr.n, .string yr.host, .string yr.text] 25))
        have X3 := Lib.hid (bx_new w2 25 (wn yr s tt))
        clear HX HM hmed
        obtain ⟨z0, z1, z2, z3, z4, z5⟩ := bx_of Z3.out
        have f0 := Z3.out.free 0
        have f1 := Z3.out.free 1
        have f2 := Z3.out.free 2
        have f3 := Z3.out.free 3
        have f4 := Z3.out.free 4
        have f5 := Z3.out.free 5
        by_cases hcl : cl = 1
        · have hcl2 : (cl != 1) = false := by simp [hcl]
          cases b4
          · have HX3 : Hid (X = (2, 0, zr)) := HX2.out.trans (if_neg (fun e => by simp at e))
            clear HX2
            go_wp2
            refine bodyPost_ret (v := valR (2, 0, zr)) (res3 rfl (fil_bk Z3.out zr) rfl rfl rfl) rfl ⟨by rw [HX3.out], fil_below L3.out (Nat.le_refl _) zr⟩
          · obtain ⟨u, hu⟩ : ∃ u, rok (wn yr s tt) = u := ⟨_, rfl⟩
            have HU := Lib.hid hu
            have HX3 : Hid (X = if u = true then (0, p + 10 + q, wn yr s tt) else (2, 0, zr)) := by
              show _ = _
              rw [HX2.out, hu]
              cases u <;> simp [hcl]
            clear hu HX2 hcl
            go_wp2_with fail
            refine (RO.out _ L3.out).mono ?_
            rw [show rok ⟨s, yr.ty, tt, yr.n, yr.host, yr.text⟩ = u from HU.out]
            rintro e w4 ⟨rfl, hl⟩
            have L4 := Lib.hid (L3.out.trans (hl.mono L3.out.size))
            have Z4 := Lib.hid (Z3.out.below hl Z3.out.lt)
            have X4 := Lib.hid (X3.out.below hl)
            clear hl L3 Z3 X3 z0 z1 z2 z3 z4 z5 f0 f1 f2 f3 f4 f5
            obtain ⟨z0, z1, z2, z3, z4, z5⟩ := bx_of Z4.out
            have f0 := Z4.out.free 0
            have f1 := Z4.out.free 1
            have f2 := Z4.out.free 2
            have f3 := Z4.out.free 3
            have f4 := Z4.out.free 4
            have f5 := Z4.out.free 5
            cases u
            · go_wp2
              refine bodyPost_ret (v := valR (2, 0, zr)) (res3 rfl (fil_bk Z4.out zr) rfl rfl rfl) rfl ⟨by rw [HX3.out]; rfl, fil_below L4.out (Nat.le_refl _) zr⟩
            · obtain ⟨x0, x1, x2, x3, x4, x5⟩ := X4.out
              have x0 : w4.cell? ⟨w2.heap.size, 0, none⟩ = some (.string s) := x0
              have x1 : w4.cell? ⟨w2.heap.size, 1, none⟩ = some (.int .i64 yr.ty) := x1
              have x2 : w4.cell? ⟨w2.heap.size, 2, none⟩ = some (.int .i64 tt) := x2
              have x3 : w4.cell? ⟨w2.heap.size, 3, none⟩ = some (.int .i64 yr.n) := x3
              have x4 : w4.cell? ⟨w2.heap.size, 4, none⟩ = some (.string yr.host) := x4
              have x5 : w4.cell? ⟨w2.heap.size, 5, none⟩ = some (.string yr.text) := x5
              go_wp2
              refine bodyPost_ret (v := valR (0, p + 10 + q, wn yr s tt)) (res3 rfl (fil_bk Z4.out (wn yr s tt)) rfl rfl rfl) rfl ⟨by rw [HX3.out]; rfl, fil_below L4.out (Nat.le_refl _) (wn yr s tt)⟩
        · have hcl2 : (cl != 1) = true := by simpa using hcl
          have HX3 : Hid (X = (2, 0, zr)) := HX2.out.trans (if_neg (fun e => hcl e.2.1))
          clear HX2 hcl
          go_wp2
          refine bodyPost_ret (v := valR (2, 0, zr)) (res3 rfl (fil_bk Z3.out zr) rfl rfl rfl) rfl ⟨by rw [HX3.out], fil_below L3.out (Nat.le_refl _) zr⟩
      · have HX2 := Lib.hid (HX.out.trans (if_pos hdc))
        have hc2 : ((dc : Int) != 0) = true := by simp; omega
        have L3 := Lib.hid (L2.out.alloc L2.out.size (.cells #[.string yr.name, .int .i64 yr.ty, .int .i64 yr.ttl, .int .i64 yr.n, .string yr.host, .string yr.text] 25))
        have Z3 := Lib.hid (Z2.out.alloc (.cells #[.string yr.name, .int .i64 yr.ty, .int .i64 yr.ttl, .int .i64 yr.n, .string yr.host, .string yr.text] 25))
        clear HX HM
        obtain ⟨z0, z1, z2, z3, z4, z5⟩ := bx_of Z3.out
        have f0 := Z3.out.free 0
        have f1 := Z3.out.free 1
        have f2 := Z3.out.free 2
        have f3 := Z3.out.free 3
        have f4 := Z3.out.free 4
        have f5 := Z3.out.free 5
        go_wp2
        refine bodyPost_ret (v := valR (dc, 0, zr)) (res3 rfl (fil_bk Z3.out zr) rfl rfl rfl) rfl ⟨by rw [HX2.out], fil_below L3.out (Nat.le_refl _) zr⟩
  · have HX := Lib.hid (gr_name hR hc)
    have hc2 : ((c0 : Int) != 0) = true := by simp; omega
    generalize gr l k = X at *
    generalize Jo L = s at *
    clear hs hl he hR
    go_enter Tryz.func14, Tryz.ntmps14
    go_wp2_with fail
    refine (GN.out _ L0.out).mono ?_
    rintro e w1 ⟨rfl, hl⟩
    have L1 := Lib.hid (L0.out.trans (hl.mono L0.out.size))
    have Z1 := Lib.hid (Z0.out.below hl Z0.out.lt)
    clear hl L0 Z0
    obtain ⟨z0, z1, z2, z3, z4, z5⟩ := bx_of Z1.out
    have f0 := Z1.out.free 0
    have f1 := Z1.out.free 1
    have f2 := Z1.out.free 2
    have f3 := Z1.out.free 3
    have f4 := Z1.out.free 4
    have f5 := Z1.out.free 5
    go_wp2
    refine bodyPost_ret (v := valR (c0, 0, zr)) (res3 rfl (fil_bk Z1.out zr) rfl rfl rfl) rfl ⟨by rw [HX.out], fil_below L1.out (Nat.le_refl _) zr⟩
end Go.Proofs.YtcpadkehalgddaaGreatDoor.GetRecI
