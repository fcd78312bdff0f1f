/- What the program's Above does at a valid name: a new slice with the name and all its ancestors up to and with the root. Conditions: the name is valid; the library's variable internal/bytealg.MaxLen holds an int. -/
import Derived.Test.YtkfibepejlgniaaGreatDoorAbvLaw
import Derived.Deep.AppendLies
namespace Go.Proofs.YtkfibepejlgniaaGreatDoor.AbvImpl
open Go.RowKit Go.Shelf Go.Proofs.YtkfibepejlgniaaGreatDoor.Mem Go.Proofs.YtkfibepejlgniaaGreatDoor.MemS Go.Proofs.YtkfibepejlgniaaGreatDoor.AppS Go.Proofs.YtkfibepejlgniaaGreatDoor.JoinSpec Go.Proofs.YtkfibepejlgniaaGreatDoor.Split Go.Proofs.YtkfibepejlgniaaGreatDoor.Labels Go.Proofs.YtkfibepejlgniaaGreatDoor.NameOk Go.Proofs.YtkfibepejlgniaaGreatDoor.AbvSpec Go.Proofs.YtkfibepejlgniaaGreatDoor.AbvIter Go.Proofs.YtkfibepejlgniaaGreatDoor.AbvLaw

attribute [local go_sem] Oper.semAt_some

/-- append of one new text onto a row of one's own inside a fence, with where the row lies behind it. -/
theorem append_in {F : Fence} {m : Nat} {P : Program} {w : World} {ops : Array Oper} {rest : List Oper} {o : Oper} {a : Act} {Q : Exit → Act → World → Prop} (hgd : o.guard = none) (s x : Operand) (t : TypeId)
    (ho : o.op = .call { callee := .builtin .append, args := #[s, x], argTypes := #[t, t] })
    (base : Nat) (e : TypeId) (i : TypeInfo) (z : Value) (ht : P.underlying t = some (.slice e)) (hi : P.info? e = some i) (hz : i.zero = some z)
    (hsize : i.size = 1) (hby : i.bytes = 16) (hzs : z.cells.size = 1)
    (g n cap : Nat) (l : List ByteArray) (hs : a.eval s = .slice (some ⟨g, 0, none⟩) n cap) (hown : w.ownsRow base e 1 (.slice (some ⟨g, 0, none⟩) n cap) n (l.map tv))
    (y : ByteArray) (hx : a.eval x = .slice (some ⟨w.heap.size, 0, none⟩) 1 1)
    (hn : n ≤ 800000000) (hbase : base ≤ w.heap.size)
    (h : ∀ g' cap' w', w'.ownsRow base e 1 (.slice (some ⟨g', 0, none⟩) (n + 1) cap') (n + 1) ((l ++ [y]).map tv) → (w.alloc (.cells #[.string y] e)).grownBy w' (some g) → (g = g' ∨ g' = w.heap.size + 1) → wpListIn F m P ops Q rest (a.put o.dst (.slice (some ⟨g', 0, none⟩) (n + 1) cap')) w') : wpListIn F m P ops Q (o :: rest) a (w.alloc (.cells #[.string y] e)) := by
  obtain ⟨g', cap', w', hrun, h1, h2, h3, _⟩ := run_append_lies (P := P) (w.alloc (.cells #[.string y] e)) t o.type base e i z 1 16 ht hi hz hsize hby hzs (by decide) _ n (l.map tv) (hown.alloc _) ⟨w.heap.size, 0, none⟩ 1 1 [.string y] rfl
    (fun j u hu => by
      have hj : j = 0 := by have := (List.getElem?_eq_some_iff.1 hu).1; simp at this; exact this
      subst hj
      have hb : Bk (w.alloc (.cells #[.string y] e)) w.heap.size e [.string y] := heap_alloc_new w _
      rw [Addr.add_lit, hb.cell]
      exact hu) (fun u hu => by simp at hu; subst hu; rfl) (by omega) (by unfold maxLen; omega) (by omega) (by simp; omega) (w.heap.size + 1) (by simp)
  have hfin := h g' cap' w' (by rw [List.map_append]; exact h1) h2 (by
    rcases h3 with h3 | h3
    · exact Or.inl (Option.some.inj h3)
    · exact Or.inr h3)
  refine wpListIn_plain hgd fun K hK => ?_
  unfold Oper.wpIn
  refine ⟨by simp [Oper.about, ho, resolve, Target.leads, Sem.run_pure], ?_⟩
  rw [Oper.semAt_plain F _ _ (by rw [ho]; intro c hc; cases hc)]
  simp [execOp, ho, resolve, invoke, builtin, hs, hx, hrun, Result.andThen]
  exact hK _ _ hfin

set_option maxHeartbeats 1000000 in
theorem upward (m : Nat) (s : ByteArray) (w : World) : CallsIn Fence.wide m Tryz.prog 164 #[.string s] w fun e w' => e = .returned (.func (.func 185) #[] #[.pointer (some ⟨w.heap.size, 0, none⟩)]) ∧ w' = w.alloc (.cells #[.string s] 9) := by
  refine callsIn_of_wp Tryz.func164 rfl trivial ?_ rfl
  simp only [Tryz.ntmps164, List.size_toArray, List.length_cons, List.length_nil, Nat.reduceAdd, Nat.reduceSub, Array.replicate_succ, Array.replicate_zero, List.push_toArray, List.append_toArray, List.nil_append, List.cons_append]
  gi_wp2
  go_ret
  exact ⟨rfl, rfl⟩

/-- The first i of the joined labels. -/
def aup (s : ByteArray) (i : Nat) : List ByteArray := (List.range i).map (u s)
theorem aup_step (s : ByteArray) (i : Nat) : aup s (i + 1) = aup s i ++ [u s i] := by
  unfold aup
  rw [List.range_succ, List.map_append]
  rfl
theorem aup_ab (s : ByteArray) (k : Nat) : aup s (k + 1) = ab s k := rfl
/-- What holds between two rounds: the slice in its box owns the first i of them. -/
def Iv (w : World) (s : ByteArray) (i : Nat) (W : World) : Prop :=
  ∃ g cap, Boxed W (w.heap.size + 1) 85 (.slice (some ⟨g, 0, none⟩) i cap) ∧ W.ownsRow w.heap.size 9 1 (.slice (some ⟨g, 0, none⟩) i cap) i ((aup s i).map tv) ∧ g ≠ w.heap.size + 1 + 1 ∧ (g < w.heap.size + 3 ∨ w.heap.size + 5 ≤ g) ∧ Below w.heap.size w W
theorem Iv.calm (w : World) (s : ByteArray) (i : Nat) : AbvLaw.Calm (w.heap.size + 1 + 1) (w.heap.size + 3) (Iv w s i) := by
  rintro W W' row ⟨g, cap, hb, ho, hg, hg2, hl⟩ hgr hrow
  refine ⟨g, cap, hb.kept hgr (fun e => ?_), ho.kept hgr (Or.inr (fun e => ?_)), hg, hg2, hl.grown hgr hl.size (fun k hk => ?_)⟩
  · have := hrow _ e.symm
    omega
  · have := hrow _ e.symm
    simp at this
    omega
  · have := hrow _ hk
    omega

set_option maxRecDepth 100000 in
set_option maxHeartbeats 4000000 in
theorem impl (s : ByteArray) (w : World) (he : Env w) (hnm : Nm s = true) : Calls Tryz.prog 131 #[.string s] w (GivesS w (ab s (Lab s).length)) := by
  obtain ⟨i0, hi, hz0, hz1, hz2⟩ := info_parts AppS.info
  have hp : s.size ≤ 50 ∧ (Lab s).length ≤ 6 ∧ okL (Lab s) = true := by
    rw [Nm, Bool.and_eq_true, Bool.and_eq_true] at hnm
    exact ⟨of_decide_eq_true hnm.1.2, of_decide_eq_true hnm.2, hnm.1.1⟩
  obtain ⟨h50, h6, hok⟩ := hp
  refine (callsIn_wide (n := 5)).1 ?_
  refine callsIn_of_wp_marks Tryz.func131 rfl trivial ?_ rfl
  simp only [Tryz.ntmps131, List.size_toArray, List.length_cons, List.length_nil, Nat.reduceAdd, Nat.reduceSub, Array.replicate_succ, Array.replicate_zero, List.push_toArray, List.append_toArray, List.nil_append, List.cons_append]
  gi_wp2
  refine ⟨trivial, (upward _ s _).mono ?_⟩
  rintro e w' ⟨rfl, rfl⟩
  gi_wp2
  have hb0 : Boxed (((w.alloc (.cells #[] 9)).alloc (.cells #[.slice (some ⟨w.heap.size, 0, none⟩) 0 0] 85)).alloc (.cells #[.string s] 9)) (w.heap.size + 1 + 1) 9 (.string s) := by
    have := Boxed.new ((w.alloc (.cells #[] 9)).alloc (.cells #[.slice (some ⟨w.heap.size, 0, none⟩) 0 0] 85)) 9 (.string s)
    rw [World.size_alloc, World.size_alloc] at this
    exact this
  have hv0 : Iv w s 0 (((w.alloc (.cells #[] 9)).alloc (.cells #[.slice (some ⟨w.heap.size, 0, none⟩) 0 0] 85)).alloc (.cells #[.string s] 9)) := by
    refine ⟨w.heap.size, 0, ?_, ((AppS.owns_new w).alloc _).alloc _, by omega, by omega, (((Below.refl w.heap.size w).alloc (Nat.le_refl _) _).alloc (by simp) _).alloc (by simp; omega) _⟩
    have := Boxed.new (w.alloc (.cells #[] 9)) 85 (.slice (some ⟨w.heap.size, 0, none⟩) 0 0)
    rw [World.size_alloc] at this
    exact this.alloc _
  have hsz : (((w.alloc (.cells #[] 9)).alloc (.cells #[.slice (some ⟨w.heap.size, 0, none⟩) 0 0] 85)).alloc (.cells #[.string s] 9)).heap.size = w.heap.size + 3 := by simp
  generalize (((w.alloc (.cells #[] 9)).alloc (.cells #[.slice (some ⟨w.heap.size, 0, none⟩) 0 0] 85)).alloc (.cells #[.string s] 9)) = W0 at *
  have HE := Lib.hid he
  clear he
  refine AbvLaw.range 5 (by omega) s hok (by omega) (w.heap.size + 1 + 1) (by omega) rfl rfl (Iv w s) (Iv w s ((Lab s).length + 1)) 0 (fun i => by rw [hsz]; exact Iv.calm w s i) (by rw [hsz]; exact Iv.calm w s _)
    (fun i W h => by obtain ⟨_, _, _, _, _, _, hl⟩ := h; exact HE.out.below hl) hv0 hb0
    (fun i => { tmps := #[.string s, undef, .slice none 0 0, .pointer (some ⟨w.heap.size + 1, 0, none⟩), .string (u s i), .slice (some ⟨w.heap.size, 0, none⟩) 0 0, .string s, .func (.func 185) #[] #[.pointer (some ⟨w.heap.size + 1 + 1, 0, none⟩)], .string (u s i), undef, undef, undef, undef, undef, undef, undef], defers := [] }) ?assign ?body ?stop
  case assign =>
    intro l i W K hK
    gi_wp2
    exact hK
  case body =>
    rintro l i W ⟨g, cap, hb, ho, hg, hg2, hl⟩ hle hD ⟨r, hL⟩
    rw [hsz] at hD hL ⊢
    have hDl : w.heap.size + 3 < W.heap.size := (Array.getElem?_eq_some_iff.1 hD).1
    have hLl : w.heap.size + 3 + 1 < W.heap.size := (Array.getElem?_eq_some_iff.1 hL).1
    have hc := hb.cell
    have fin : ∀ (g' cap' : Nat) (w1 : World), w1.ownsRow w.heap.size 9 1 (.slice (some ⟨g', 0, none⟩) (i + 1) cap') (i + 1) ((aup s i ++ [u s i]).map tv) → (W.alloc (.cells #[.string (u s i)] 9)).grownBy w1 (some g) → (g = g' ∨ g' = W.heap.size + 1) →
        Boxed w1 (w.heap.size + 1) 85 (.slice (some ⟨g, 0, none⟩) i cap) ∧ Iv w s (i + 1) (w1.setCell ⟨w.heap.size + 1, 0, none⟩ (.slice (some ⟨g', 0, none⟩) (i + 1) cap')) ∧ Kp (w.heap.size + 1 + 1) (w.heap.size + 3) W (w1.setCell ⟨w.heap.size + 1, 0, none⟩ (.slice (some ⟨g', 0, none⟩) (i + 1) cap')) := by
      intro g' cap' w1 hown hgrow hlie
      have hgw := (ho.lt g rfl).1
      have hne : some (w.heap.size + 1) ≠ some g := hb.not_row (by decide) ho
      have hb1 : Boxed w1 (w.heap.size + 1) 85 (.slice (some ⟨g, 0, none⟩) i cap) := (hb.alloc _).kept hgrow hne
      have hne2 : some (w.heap.size + 1) ≠ some g' := hb1.not_row (by decide) hown
      have keep : ∀ k, k < W.heap.size → k ≠ g → k ≠ w.heap.size + 1 → (w1.setCell ⟨w.heap.size + 1, 0, none⟩ (.slice (some ⟨g', 0, none⟩) (i + 1) cap')).heap[k]? = W.heap[k]? := fun k h1 h2 h3 =>
        ((Below.heap_setCell w1 _ _ k h3).trans (hgrow.block k (by simp; omega) (fun e => h2 (Option.some.inj e)))).trans (Below.heap_alloc W _ k h1)
      refine ⟨hb1, ⟨g', cap', hb1.set _, ?_, by omega, by omega, ?_⟩, keep _ (by omega) (fun e => hg e.symm) (by omega), keep _ (by omega) (by omega) (by omega), keep _ (by omega) (by omega) (by omega)⟩
      · rw [aup_step]
        exact hown.kept (grownBy_setCell' w1 (w.heap.size + 1) _) (Or.inr (fun e => hne2 e.symm))
      · exact (((hl.alloc hl.size _).grown hgrow (by have := hl.size; simp; omega) (fun q hq => by cases hq; exact hgw)).setCell (p := ⟨w.heap.size + 1, 0, none⟩) (by show w.heap.size ≤ w.heap.size + 1; omega) _)
    have FIN := Lib.hid fin
    have HO := Lib.hid ho
    have HLS := Lib.hid hl.size
    clear fin ho hb hl hD hL
    by_cases hlt : i < (Lab s).length
    · have hne := Labels.not_empty _ (u_ne hok hlt)
      gi_wp2_with (gi_at_builtin; refine append_in rfl (.tmp 9) (.tmp 11) 85 rfl w.heap.size 9 i0 (.string ⟨#[]⟩) Tryz.underlying85 hi hz0 hz1 hz2 rfl g i cap (aup s i) rfl HO.out (u s i) rfl ?c1 ?c2 ?_)
      case c1 => omega
      case c2 => exact HLS.out
      intro g' cap' w1 hown hgrow hlie
      obtain ⟨hb1, hiv, hkp⟩ := FIN.out g' cap' w1 (by rw [List.map_append]; exact hown) hgrow hlie
      have hc1 := hb1.cell
      have hf1 := hb1.frozen
      have IV := Lib.hid hiv
      have KP := Lib.hid hkp
      clear hown hgrow hlie hiv hkp
      gi_wp2
      exact ⟨hlt, IV.out, KP.out⟩
    · have hiN : i = (Lab s).length := by omega
      subst hiN
      have hne : (u s (Lab s).length).toList.isEmpty = true := by rw [u_end, ByteArray.toList_eq]; rfl
      gi_wp2_with (gi_at_builtin; refine append_in rfl (.tmp 9) (.tmp 11) 85 rfl w.heap.size 9 i0 (.string ⟨#[]⟩) Tryz.underlying85 hi hz0 hz1 hz2 rfl g (Lab s).length cap (aup s (Lab s).length) rfl HO.out (u s (Lab s).length) rfl ?c1 ?c2 ?_)
      case c1 => omega
      case c2 => exact HLS.out
      intro g' cap' w1 hown hgrow hlie
      obtain ⟨hb1, hiv, hkp⟩ := FIN.out g' cap' w1 (by rw [List.map_append]; exact hown) hgrow hlie
      have hc1 := hb1.cell
      have hf1 := hb1.frozen
      have IV := Lib.hid hiv
      have KP := Lib.hid hkp
      clear hown hgrow hlie hiv hkp
      gi_wp2
      exact ⟨rfl, IV.out, KP.out⟩
  case stop =>
    rintro W ⟨g, cap, hb, ho, hg, hg2, hl⟩ hD
    rw [hsz] at hD ⊢
    have hc := hb.cell
    gi_wp2
    refine ⟨by simp, .inl ⟨_, _, rfl, run_takeDeferred hD, ?_⟩⟩
    refine ⟨_, results_tmp rfl _ _ _, ?_⟩
    rw [← aup_ab]
    exact AppS.gives_of_owns (ownsRow_putObj ho _ hD rfl) (hl.grown (grownBy_putObj' W _ _) hl.size (fun k e => by cases e; omega))
end Go.Proofs.YtkfibepejlgniaaGreatDoor.AbvImpl
