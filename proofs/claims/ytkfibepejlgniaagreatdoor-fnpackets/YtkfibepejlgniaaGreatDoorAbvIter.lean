/- What the program's iterator over the ancestors of a valid name does (upward, a closure that keeps its place in a captured variable): it yields the joined labels behind the first, the second, and so on, till a round says no more. -/
import Derived.Test.YtkfibepejlgniaaGreatDoorUpImpl
import Derived.Test.YtkfibepejlgniaaGreatDoorAbvSpec
import Derived.Test.YtkfibepejlgniaaGreatDoorWireMath
import Derived.RangeFuncBox
import Derived.RangeFuncLeaves
import Derived.Shelf.Abstract
import Derived.WalkKit
import Derived.OwnWalkIn
import Derived.TacticsInMore
import Derived.LoopNIn
import Derived.LoopIn
import Derived.Maps.AppendAt
namespace Go.Proofs.YtkfibepejlgniaaGreatDoor.AbvIter
open Go.RowKit Go.Shelf Go.Proofs.YtkfibepejlgniaaGreatDoor.Mem Go.Proofs.YtkfibepejlgniaaGreatDoor.MemS Go.Proofs.YtkfibepejlgniaaGreatDoor.JoinSpec Go.Proofs.YtkfibepejlgniaaGreatDoor.Split Go.Proofs.YtkfibepejlgniaaGreatDoor.JoinLab Go.Proofs.YtkfibepejlgniaaGreatDoor.Label Go.Proofs.YtkfibepejlgniaaGreatDoor.Labels Go.Proofs.YtkfibepejlgniaaGreatDoor.NameOk Go.Proofs.YtkfibepejlgniaaGreatDoor.Up Go.Proofs.YtkfibepejlgniaaGreatDoor.WireMath

attribute [local go_sem] Oper.semAt_some

/-- The i-th ancestor. A def, so that no step of a walk opens it. -/
def u (s : ByteArray) (i : Nat) : ByteArray := Jo ((Lab s).drop i)
theorem u_zero (s : ByteArray) : u s 0 = s := by unfold u; rw [List.drop_zero, jo_lab]
theorem okL_drop {L : List ByteArray} (h : okL L = true) (i : Nat) : okL (L.drop i) = true := by
  rw [okL, List.all_eq_true] at h ⊢
  exact fun x hx => h x (List.mem_of_mem_drop hx)
theorem u_up {s : ByteArray} (h : okL (Lab s) = true) (i : Nat) : Ab (u s i) = u s (i + 1) := by
  unfold Ab u
  rw [lab_ok (okL_drop h i), List.drop_drop]
theorem u_end (s : ByteArray) : u s (Lab s).length = ⟨#[]⟩ := by
  unfold u
  rw [List.drop_length]
  rfl
theorem jo_less {x : ByteArray} {r : List ByteArray} (h : 0 < x.size) : (Jo r).size < (Jo (x :: r)).size := by
  have hz : x.data.toList.length = x.size := by simp
  rw [Jo_size, Jo_size]
  cases r with
  | nil =>
    have e : jo [x] = x.data.toList := by simp [jo, Lib.join_one]
    have e0 : jo [] = [] := by simp [jo, Lib.join_nil]
    rw [e, e0, hz]
    simpa using h
  | cons y r =>
    have e : jo (x :: y :: r) = x.data.toList ++ 46 :: jo (y :: r) := by
      rw [jo, List.map_cons, join_more _ _ (by simp)]
      rfl
    rw [e, List.length_append, List.length_cons]
    omega
theorem u_less {s : ByteArray} (h : okL (Lab s) = true) {i : Nat} (hi : i < (Lab s).length) : (u s (i + 1)).size < (u s i).size := by
  unfold u
  rw [List.drop_eq_getElem_cons hi]
  refine jo_less ?_
  have h1 := lok_ne (okL_mem h _ (List.getElem_mem hi))
  have hz : (Lab s)[i].data.toList.length = (Lab s)[i].size := by simp
  omega
theorem u_ne {s : ByteArray} (h : okL (Lab s) = true) {i : Nat} (hi : i < (Lab s).length) : (u s i).size ≠ 0 := by
  have := u_less h hi
  omega
theorem u_small {s : ByteArray} (h : okL (Lab s) = true) : ∀ i, i ≤ (Lab s).length → (u s i).size ≤ s.size
  | 0, _ => by rw [u_zero]; exact Nat.le_refl _
  | i + 1, hi => by
    have h1 := u_small h i (by omega)
    have h2 := u_less h (i := i) (by omega)
    omega
/-- The size of the text in a box. -/
def bx (w : World) (B : Nat) : Nat := match w.cell? ⟨B, 0, none⟩ with
  | some (.string t) => t.size
  | _ => 0
theorem bx_of {w : World} {B : Nat} {t : TypeId} {x : ByteArray} (h : Boxed w B t (.string x)) : bx w B = x.size := by
  unfold bx
  rw [h.cell]

set_option maxRecDepth 100000 in
set_option maxHeartbeats 1000000 in
theorem iter (m l Bs : Nat) (hm : 1 ≤ m) (s : ByteArray) (hok : okL (Lab s) = true) (hz : s.size ≤ 1048576) (J : Nat → World → Prop) (Jx : World → Prop)
    (hY : ∀ i W, J i W → i ≤ (Lab s).length → YieldAt Fence.wide (m - 1) Tryz.prog l #[.string (u s i)] W fun e W' =>
      (e = .returned (.bool true) ∧ i < (Lab s).length ∧ J (i + 1) W' ∧ W'.heap[Bs]? = W.heap[Bs]?) ∨ (e = .returned (.bool false) ∧ Jx W'))
    (hk : ∀ i W W' row, J i W → W.grownBy W' row → (∀ r, row = some r → r = Bs) → J i W') (henv : ∀ i W, J i W → Env W)
    (W : World) (h0 : J 0 W) (hb : Boxed W Bs 9 (.string s)) :
    CallsIn Fence.wide m Tryz.prog 185 #[.func (.yield l) #[] #[], .pointer (some ⟨Bs, 0, none⟩)] W fun e W' => (∃ v, e = .returned v) ∧ Jx W' := by
  refine callsIn_of_wp Tryz.func185 rfl trivial ?_ rfl
  simp only [Tryz.ntmps185, List.size_toArray, List.length_cons, List.length_nil, Nat.reduceAdd, Nat.reduceSub, Array.replicate_succ, Array.replicate_zero, List.push_toArray, List.append_toArray, List.nil_append, List.cons_append]
  gi_wp2
  gi_loopw [3] (fun _ wr => ∃ i : Nat, i ≤ (Lab s).length ∧ J i wr ∧ Boxed wr Bs 9 (.string (u s i))) (fun _ wr => bx wr Bs)
  case atStart => exact ⟨0, Nat.zero_le _, h0, by rw [u_zero]; exact hb⟩
  case round =>
    obtain ⟨i, hi, hJ, hB⟩ := hrel
    obtain ⟨fn, tmps, assign, body, hy, hR⟩ := hY i wr hJ hi
    have hc := hB.cell
    gi_wp2
    refine hR.mono ?_
    rintro e W3 (⟨rfl, hlt, hJ3, hB3⟩ | ⟨rfl, hx⟩)
    · have hB4 : Boxed W3 Bs 9 (.string (u s i)) := hB3.trans hB
      have hc3 := hB4.cell
      have hf3 := hB4.frozen
      have UP := Lib.hid (UpImpl.impl (u s i) W3 (henv _ _ hJ3) (by have := u_small hok i hi; omega))
      have HU := Lib.hid (u_up hok i)
      rw [HU.out] at UP
      have HLE := Lib.hid (u_less hok hlt)
      gi_wp2
      refine ⟨trivial, (callsIn_wide.2 UP.out).mono ?_⟩
      rintro e W5 ⟨rfl, hl5⟩
      have hB5 : Boxed W5 Bs 9 (.string (u s i)) := (hl5.block Bs hB4.lt).trans hB4
      have hc5 := hB5.cell
      have hf5 := hB5.frozen
      have J5 := hk _ _ _ none hJ3 ⟨hl5.os, hl5.tape, hl5.output, hl5.size, fun k hk _ => hl5.block k hk⟩ (fun r e => by cases e)
      have J6 := hk _ _ _ (some Bs) J5 (grownBy_setCell' W5 Bs (.string (u s (i + 1)))) (fun r e => by cases e; rfl)
      gi_wp2
      go_roundw
      case rel => exact ⟨i + 1, by omega, J6, hB5.set _⟩
      case measure => rw [bx_of (hB5.set (.string (u s (i + 1)))), bx_of hB]; exact HLE.out
    · gi_wp2
      go_end0
      exact ⟨⟨_, rfl⟩, hx⟩
end Go.Proofs.YtkfibepejlgniaaGreatDoor.AbvIter
