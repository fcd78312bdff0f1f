/- What the model's Above does: a new slice with the text and, one after another, the joined labels behind its first, its second, and so on. Condition: at most 1048576 bytes. -/
import Derived.Test.YtkfibepejlgniaaGreatDoorUp
import Derived.Deep.AppendLies
namespace Go.Proofs.YtkfibepejlgniaaGreatDoor.AbvSpec
open Go.RowKit Go.Proofs.YtkfibepejlgniaaGreatDoor.Mem Go.Proofs.YtkfibepejlgniaaGreatDoor.MemS Go.Proofs.YtkfibepejlgniaaGreatDoor.AppS Go.Proofs.YtkfibepejlgniaaGreatDoor.JoinSpec Go.Proofs.YtkfibepejlgniaaGreatDoor.Split Go.Proofs.YtkfibepejlgniaaGreatDoor.JoinLab Go.Proofs.YtkfibepejlgniaaGreatDoor.Up

/-- The first k + 1 of the joined labels. A def, so that no step of a walk opens it. -/
def ab (s : ByteArray) (k : Nat) : List ByteArray := (List.range (k + 1)).map fun i => Jo ((Lab s).drop i)
theorem ab_len (s : ByteArray) (k : Nat) : (ab s k).length = k + 1 := by simp [ab]
theorem ab_zero (s : ByteArray) : ab s 0 = [s] := by simp [ab, jo_lab]
theorem ab_step (s : ByteArray) (k : Nat) : ab s (k + 1) = ab s k ++ [Jo ((Lab s).drop (k + 1))] := by
  unfold ab
  rw [List.range_succ, List.map_append]
  rfl
theorem ab_get (s : ByteArray) (k i : Nat) (h : i < (ab s k).length) : (ab s k)[i] = Jo ((Lab s).drop i) := by simp [ab]
/-- A block of texts, read as a slice over what is behind its first i. -/
theorem bk_from {w : World} {g n i : Nat} {t : TypeId} {L : List ByteArray} {r : List Value} (h : Bk w g t (L.map tv ++ r)) (hn : L.length = n) (_hi : i ≤ n) : Ss w w.heap.size (some ⟨g, i, none⟩) (n - i) (L.drop i) := by
  refine Ss.of g i rfl (by rw [List.length_drop, hn]) h.lt fun j hj => ?_
  have hj' : i + j < L.length := by rw [List.length_drop] at hj; omega
  rw [h.cell, List.getElem?_append_left (by simpa using hj'), tv_get L (i + j) hj', List.getElem_drop]

theorem owns_one (w : World) (s : ByteArray) : (w.alloc (.cells #[.string s] 9)).ownsRow w.heap.size 9 1 (.slice (some ⟨w.heap.size, 0, none⟩) 1 1) 1 ([s].map tv) :=
  ⟨rfl, .inr ⟨w.heap.size, 1, _, rfl, Nat.le_refl _, heap_alloc_new w _, Nat.le_refl _, by unfold maxLen; omega, rfl, rfl⟩⟩

/-- append of one new text onto a row of the call's own, with where the row lies behind it. -/
theorem append_lies {P : Program} {w : World} {ops : Array Oper} {rest : List Oper} {o : Oper} {a : Act} {Q : Exit → Act → World → Prop} (hgd : o.guard = none) (s x : Operand) (t : TypeId)
    (ho : o.op = .call { callee := .builtin .append, args := #[s, x], argTypes := #[t, t] })
    (base : Nat) (e : TypeId) (i : TypeInfo) (z : Value) (ht : P.underlying t = some (.slice e)) (hi : P.info? e = some i) (hz : i.zero = some z)
    (hsize : i.size = 1) (hby : i.bytes = 16) (hzs : z.cells.size = 1)
    (g n cap : Nat) (l : List ByteArray) (hs : a.eval s = .slice (some ⟨g, 0, none⟩) n cap) (hown : w.ownsRow base e 1 (.slice (some ⟨g, 0, none⟩) n cap) n (l.map tv))
    (y : ByteArray) (hx : a.eval x = .slice (some ⟨w.heap.size, 0, none⟩) 1 1)
    (hn : n ≤ 800000000) (hbase : base ≤ w.heap.size)
    (h : ∀ g' cap' w', w'.ownsRow base e 1 (.slice (some ⟨g', 0, none⟩) (n + 1) cap') (n + 1) ((l ++ [y]).map tv) → (w.alloc (.cells #[.string y] e)).grownBy w' (some g) → (g = g' ∨ g' = w.heap.size + 1) → wpList P ops Q rest (a.put o.dst (.slice (some ⟨g', 0, none⟩) (n + 1) cap')) w') : wpList P ops Q (o :: rest) a (w.alloc (.cells #[.string y] e)) := by
  refine wpList_append_lies (w.alloc (.cells #[.string y] e)) hgd s x t ho base e i z 1 16 ht hi hz hsize hby hzs (by decide) _ n (l.map tv) hs (hown.alloc _) ⟨w.heap.size, 0, none⟩ 1 1 [.string y] hx rfl
    (fun j u hu => ?_) (fun u hu => by simp at hu; subst hu; rfl) (by omega) (by unfold maxLen; omega) (by omega) (by simp; omega) (w.heap.size + 1) (by simp) (fun g' cap' w' h1 h2 h3 _ => ?_)
  · have hj : j = 0 := by have := (List.getElem?_eq_some_iff.1 hu).1; simp at this; exact this
    subst hj
    have hb : Bk (w.alloc (.cells #[.string y] e)) w.heap.size e [.string y] := heap_alloc_new w _
    rw [Addr.add_lit, hb.cell]
    exact hu
  · refine h g' cap' w' ?_ h2 ?_
    · rw [List.map_append]
      exact h1
    · rcases h3 with h3 | h3
      · exact Or.inl (Option.some.inj h3)
      · exact Or.inr h3

set_option maxRecDepth 100000 in
set_option maxHeartbeats 4000000 in
theorem spec (s : ByteArray) (w : World) (hs : s.size ≤ 1048576) : Calls Tryz.prog 136 #[.string s] w (GivesS w (ab s (Lab s).length)) := by
  obtain ⟨i0, hi, hz0, hz1, hz2⟩ := info_parts AppS.info
  have LA := Lib.hid (fun w => Labels.spec s w (by omega))
  have hl1 := lab_len s
  have hl2 := lab_sum s
  have HN : Hid ((Lab s).length ≤ 1048577) := by show _ ≤ _; omega
  have HM : Hid (((Lab s).map (·.size)).sum ≤ 1048576) := by show _ ≤ _; omega
  clear hl1 hl2
  go_enter Tryz.func136, Tryz.ntmps136
  go_wp2_with fail
  have O0 := Lib.hid (owns_one w s)
  have L0 := Lib.hid ((Below.refl w.heap.size w).alloc (Nat.le_refl _) (.cells #[.string s] 9))
  have HAB := Lib.hid (fun k => ab_step s k)
  refine (LA.out _).mono ?_
  rintro e w1 ⟨g, n, c, r, rfl, hm, hc, hg, hk, hl⟩
  have NL := Lib.hid hm
  have hn : n ≤ 1048577 := by have := HN.out; omega
  have K1 := Lib.hid hk
  have N1 : Hid (g ≠ w.heap.size) := fun e => by simp at hg; omega
  have O1 := Lib.hid (O0.out.kept (row := none) ⟨hl.os, hl.tape, hl.output, hl.size, fun k hk _ => hl.block k hk⟩ (Or.inr (by simp [Value.ownBlock])))
  have L1 := Lib.hid (L0.out.trans (hl.mono (by simp)))
  rw [← ab_zero s] at O1
  rw [hm]
  clear hm hg hk hl O0 L0
  go_wp2
  go_loopw [3, 5] (fun v i wr => ∃ (k g' cap : Nat), k ≤ n ∧ i = .int .i64 ((k : Int) + 1) ∧ v = .slice (some ⟨g', 0, none⟩) (k + 1) cap ∧ Hid (wr.ownsRow w.heap.size 9 1 (.slice (some ⟨g', 0, none⟩) (k + 1) cap) (k + 1) ((ab s k).map tv)) ∧ Hid (g ≠ g') ∧ Hid (Bk wr g 9 ((Lab s).map tv ++ r)) ∧ Hid (Below w.heap.size w wr)) (fun _ i _ => n + 1 - (intOf i).toNat)
  case atStart => exact ⟨0, w.heap.size, 1, Nat.zero_le _, rfl, rfl, O1.out, N1.out, K1.out, L1.out⟩
  case round =>
    clear O1 K1 L1
    obtain ⟨k, g', cap, hk, rfl, rfl, HO, HNE, HK, HB⟩ := hrel
    by_cases hlt : k < n
    · have JO : Hid (∀ A c, Ss wr wr.heap.size A (n - (k + 1)) ((Lab s).drop (k + 1)) → Calls Tryz.prog 169 #[.slice A (n - (k + 1)) c] wr fun e w' => e = .returned (.string (Jo ((Lab s).drop (k + 1)))) ∧ wr = w') := fun A c hS => JoinSpec.any A _ c _ wr wr.heap.size hS (by
        have h1 := HN.out
        have h2 := HM.out
        have h3 := drop_sum (Lab s) (k + 1)
        rw [List.length_drop]
        omega)
      have HST := Lib.hid (HAB.out k)
      have hkk : (k : Int) + 1 ≤ (n : Int) := by omega
      have hto : ((k : Int) + 1).toNat = k + 1 := by omega
      generalize hJ : Jo ((Lab s).drop (k + 1)) = J at *
      have fin : ∀ (g2 cap2 : Nat) (w2 : World), w2.ownsRow w.heap.size 9 1 (.slice (some ⟨g2, 0, none⟩) (k + 1 + 1) cap2) (k + 1 + 1) ((ab s k).map tv ++ [tv J]) → w2.ownsRow w.heap.size 9 1 (.slice (some ⟨g2, 0, none⟩) (k + 1 + 1) cap2) (k + 1 + 1) ((ab s (k + 1)).map tv) := fun g2 cap2 w2 h => by rw [HST.out, List.map_append]; exact h
      have FIN := Lib.hid fin
      clear fin hJ
      by_cases hck : c = k + 1
      · have hnk : n = k + 1 := by omega
        subst hnk hck
        have SS : Hid (∀ A, Ss wr wr.heap.size A (k + 1 - (k + 1)) ((Lab s).drop (k + 1))) := fun A => ⟨by rw [List.length_drop, NL.out], fun h => absurd h (by omega)⟩
        have h0 : k + 1 - (k + 1) = 0 := by omega
        rw [h0] at JO SS
        clear h0
        go_wp2_with fail
        refine (JO.out _ _ (SS.out _)).mono ?_
        rintro e w2 ⟨rfl, rfl⟩
        go_wp2_with (at_builtin; refine append_lies rfl (.tmp 16) (.tmp 21) 85 rfl w.heap.size 9 i0 (.string ⟨#[]⟩) Tryz.underlying85 hi hz0 hz1 hz2 rfl g' (k + 1) cap (ab s k) rfl HO.out J rfl ?c1 ?c2 ?_)
        case c1 => omega
        case c2 => exact HB.out.size
        intro g2 cap2 w2 hown hgrow hlie
        have N2 : Hid (g ≠ g2) := fun e => by have := HNE.out; have := HK.out.lt; omega
        have O2 := Lib.hid (FIN.out g2 cap2 w2 hown)
        have B2 := Lib.hid ((HB.out.alloc HB.out.size _).grown hgrow (by have := HB.out.size; simp; omega) (fun j hj => by cases hj; exact (HO.out.lt g' rfl).1))
        have K2 := Lib.hid ((HK.out.alloc _).grown hgrow (fun e => HNE.out (Option.some.inj e)))
        clear hown hgrow hlie
        go_wp2
        go_roundw
        case rel => exact ⟨k + 1, g2, cap2, by omega, by go_num, rfl, O2.out, N2.out, K2.out, B2.out⟩
        case measure => simp [intOf]; omega
      · have hck2 : ¬ c - (k + 1) = 0 := by omega
        have hck3 : (c - (k + 1) == 0) = false := by rw [beq_eq_false_iff_ne]; omega
        go_wp2_with fail
        refine (JO.out _ _ (bk_from HK.out NL.out (by omega))).mono ?_
        rintro e w2 ⟨rfl, rfl⟩
        go_wp2_with (at_builtin; refine append_lies rfl (.tmp 16) (.tmp 21) 85 rfl w.heap.size 9 i0 (.string ⟨#[]⟩) Tryz.underlying85 hi hz0 hz1 hz2 rfl g' (k + 1) cap (ab s k) rfl HO.out J rfl ?c1 ?c2 ?_)
        case c1 => omega
        case c2 => exact HB.out.size
        intro g2 cap2 w2 hown hgrow hlie
        have N2 : Hid (g ≠ g2) := fun e => by have := HNE.out; have := HK.out.lt; omega
        have O2 := Lib.hid (FIN.out g2 cap2 w2 hown)
        have B2 := Lib.hid ((HB.out.alloc HB.out.size _).grown hgrow (by have := HB.out.size; simp; omega) (fun j hj => by cases hj; exact (HO.out.lt g' rfl).1))
        have K2 := Lib.hid ((HK.out.alloc _).grown hgrow (fun e => HNE.out (Option.some.inj e)))
        clear hown hgrow hlie
        go_wp2
        go_roundw
        case rel => exact ⟨k + 1, g2, cap2, by omega, by go_num, rfl, O2.out, N2.out, K2.out, B2.out⟩
        case measure => simp [intOf]; omega
    · have hkn : k = n := by omega
      subst hkn
      have hkk : ¬ (k : Int) + 1 ≤ (k : Int) := by omega
      go_wp2
      go_ret
      rw [NL.out]
      exact AppS.gives_of_owns HO.out HB.out
end Go.Proofs.YtkfibepejlgniaaGreatDoor.AbvSpec
