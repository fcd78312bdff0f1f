/- What ReplyTo does in the program and in the model: a reply with new slices of the same records. Condition: fewer than 400000001 records in each section. -/
import Derived.Test.YtmabbeefeipnaaaGreatDoorZokMath
import Derived.Test.YtmabbeefeipnaaaGreatDoorServesP2
import Derived.Test.YtmabbeefeipnaaaGreatDoorRows
import Derived.WalkKit
import Derived.Lib.Hide
import Derived.Test.YtmabbeefeipnaaaGreatDoorBoxR
import Derived.Test.YtmabbeefeipnaaaGreatDoorResR
import Derived.Test.YtmabbeefeipnaaaGreatDoorRecOk
import Derived.Test.YtmabbeefeipnaaaGreatDoorServesP1
import Derived.Test.YtmabbeefeipnaaaGreatDoorCpyR
import Derived.Laws.AppendOwnNone
import Derived.Deep.RegionHeld3
import Derived.Laws.Tables
/- Plain mathematics: what holds in a valid zone: where its apex, its cuts and its records lie. -/
namespace Go.Proofs.YtmabbeefeipnaaaGreatDoor.ZfMath
open Go.RowKit Go.Proofs.YtmabbeefeipnaaaGreatDoor.MemR Go.Proofs.YtmabbeefeipnaaaGreatDoor.SetMath Go.Proofs.YtmabbeefeipnaaaGreatDoor.NameMath Go.Proofs.YtmabbeefeipnaaaGreatDoor.Split Go.Proofs.YtmabbeefeipnaaaGreatDoor.ZoneMath Go.Proofs.YtmabbeefeipnaaaGreatDoor.ZokMath Go.Proofs.YtmabbeefeipnaaaGreatDoor.CutOfS

theorem un_trans {a b c : ByteArray} (h : Un a b = true) (k : Un b c = true) : Un a c = true :=
  (un_iff a c).2 (((un_iff b c).1 k).trans ((un_iff a b).1 h))

theorem un_anti {a b : ByteArray} (h : Un a b = true) (k : Un b a = true) : a = b := by
  have h1 := (un_iff a b).1 h
  have h2 := (un_iff b a).1 k
  exact lab_inj (h2.eq_of_length_le h1.length_le)

theorem cut_mem {s x : ByteArray} {l : List Rec} (h : x ∈ uq (cn s l)) : ∃ r ∈ l, r.name = x ∧ r.ty = 2 ∧ x ≠ s ∧ Un x s = true := by
  obtain ⟨r, hr, rfl⟩ := List.mem_map.1 (mem_uq.1 h)
  obtain ⟨h1, h2⟩ := List.mem_filter.1 hr
  have h3 : r.ty = 2 ∧ r.name ≠ s ∧ Un r.name s = true := Classical.byContradiction fun hn => by rw [isc_false hn] at h2; cases h2
  exact ⟨r, h1, rfl, h3⟩

theorem co_some {nm x : ByteArray} {L : List ByteArray} (h : co nm L = some x) : x ∈ L ∧ Un nm x = true :=
  ⟨List.mem_of_find?_eq_some h, List.find?_some h⟩

theorem cut_of {s nm x : ByteArray} {l : List Rec} (h : co nm (uq (cn s l)) = some x) : Un nm x = true ∧ x ≠ s ∧ Un x s = true ∧ Un nm s = true := by
  obtain ⟨h1, h2⟩ := co_some h
  obtain ⟨r, _, _, _, h3, h4⟩ := cut_mem h1
  exact ⟨h2, h3, h4, un_trans h2 h4⟩

theorem iz_none {s nm : ByteArray} {l : List Rec} (h : co nm (uq (cn s l)) = none) : iz s nm l = Un nm s := by
  unfold iz
  rw [h]
  simp

theorem iz_some {s nm x : ByteArray} {l : List Rec} (h : co nm (uq (cn s l)) = some x) : iz s nm l = false := by
  unfold iz
  rw [h]
  simp

theorem apex_in (s : ByteArray) (l : List Rec) : iz s s l = true := by
  cases h : co s (uq (cn s l)) with
  | none => rw [iz_none h]; exact un_self s
  | some x =>
    obtain ⟨h1, h2, h3, _⟩ := cut_of h
    exact absurd (un_anti h3 h1) h2

theorem cut_out {s x : ByteArray} {l : List Rec} (h : x ∈ uq (cn s l)) : iz s x l = false := by
  cases hc : co x (uq (cn s l)) with
  | none => exact absurd (List.find?_eq_none.1 hc x h) (by simp [un_self])
  | some y => exact iz_some hc

theorem cut_set {s x : ByteArray} {l : List Rec} (h : x ∈ uq (cn s l)) : 0 < (sf x 2 l).length := by
  obtain ⟨r, hr, hn, ht, _⟩ := cut_mem h
  exact List.length_pos_of_mem (List.mem_filter.2 ⟨hr, isk_true ⟨hn, ht⟩⟩)

theorem ex_self {r : Rec} {l : List Rec} (h : r ∈ l) : ex r.name l = true := by
  unfold ex
  exact List.any_eq_true.2 ⟨r, h, un_self _⟩

theorem ex_apex {s : ByteArray} {l : List Rec} (h : Zok s l) : ex s l = true := by
  have hm : ∃ r, r ∈ l := by
    have := h.2.2.1
    unfold n6 at this
    obtain ⟨r, hr⟩ := List.length_eq_one_iff.1 this
    exact ⟨r, (List.mem_filter.1 (by rw [hr]; exact List.mem_singleton.2 rfl : r ∈ l.filter (fun r => decide (r.ty = 6)))).1⟩
  obtain ⟨r, hr⟩ := hm
  obtain ⟨i, hi, rfl⟩ := mem_at0 hr
  unfold ex
  exact List.any_eq_true.2 ⟨_, hr, (h.2.1 i hi).1.2⟩

theorem rec_in {s : ByteArray} {l : List Rec} (h : Zok s l) {r : Rec} (hr : r ∈ l) : iz s r.name l = true ∨ r.ty = 2 ∨ r.ty = 1 := by
  obtain ⟨i, hi, rfl⟩ := mem_at0 hr
  have hp := h.2.1 i hi
  cases hc : co (at0 l i).name (uq (cn s l)) with
  | none => exact Or.inl (by rw [iz_none hc]; exact hp.1.2)
  | some c =>
    by_cases h1 : (at0 l i).ty = 1
    · exact Or.inr (Or.inr h1)
    · exact Or.inr (Or.inl (hp.2.2.2.2 c hc h1).2)

theorem start_apex {s : ByteArray} {l : List Rec} (h : Zok s l) : (st l).name = s := (zok_iff.1 h).2.2.2.1.1.1

end Go.Proofs.YtmabbeefeipnaaaGreatDoor.ZfMath

/- What TypeText and TypeOk do, in the program and in the model: the text of a type, empty for a number that is no type. No condition. -/
namespace Go.Proofs.YtmabbeefeipnaaaGreatDoor.Types
open Go.RowKit

/-- The text of a type. A def, so that no step of a walk opens it. -/
def tt (n : Int) : ByteArray := if n = 1 then ⟨#[97, 100, 100, 114]⟩ else if n = 2 then ⟨#[115, 101, 114, 118, 101, 114]⟩ else if n = 5 then ⟨#[97, 108, 105, 97, 115]⟩ else if n = 6 then ⟨#[115, 116, 97, 114, 116]⟩ else if n = 16 then ⟨#[116, 101, 120, 116]⟩ else ⟨#[]⟩
/-- Whether a number is a type. -/
def ty (n : Int) : Bool := decide (n = 1 ∨ n = 2 ∨ n = 5 ∨ n = 6 ∨ n = 16)
theorem tt_none {n : Int} (h1 : n ≠ 1) (h2 : n ≠ 2) (h3 : n ≠ 5) (h4 : n ≠ 6) (h5 : n ≠ 16) : tt n = ⟨#[]⟩ := by
  unfold tt
  rw [if_neg h1, if_neg h2, if_neg h3, if_neg h4, if_neg h5]
theorem ty_none {n : Int} (h1 : n ≠ 1) (h2 : n ≠ 2) (h3 : n ≠ 5) (h4 : n ≠ 6) (h5 : n ≠ 16) : ty n = false := decide_eq_false (by omega)

theorem impl_text (n : Int) (w : World) : Calls Tryz.prog 80 #[.int .i64 n] w fun e w' => e = .returned (.string (tt n)) ∧ w = w' := by
  by_cases h1 : n = 1
  · subst h1; go_enter Tryz.func80, Tryz.ntmps80; go_wp2; go_ret; exact ⟨rfl, rfl⟩
  by_cases h2 : n = 2
  · subst h2; go_enter Tryz.func80, Tryz.ntmps80; go_wp2; go_ret; exact ⟨rfl, rfl⟩
  by_cases h3 : n = 5
  · subst h3; go_enter Tryz.func80, Tryz.ntmps80; go_wp2; go_ret; exact ⟨rfl, rfl⟩
  by_cases h4 : n = 6
  · subst h4; go_enter Tryz.func80, Tryz.ntmps80; go_wp2; go_ret; exact ⟨rfl, rfl⟩
  by_cases h5 : n = 16
  · subst h5; go_enter Tryz.func80, Tryz.ntmps80; go_wp2; go_ret; exact ⟨rfl, rfl⟩
  have H := Lib.hid (tt_none h1 h2 h3 h4 h5)
  go_enter Tryz.func80, Tryz.ntmps80; go_wp2; go_ret; exact ⟨by rw [H.out]; rfl, rfl⟩

theorem impl_ok (n : Int) (w : World) : Calls Tryz.prog 66 #[.int .i64 n] w fun e w' => e = .returned (.bool (ty n)) ∧ w = w' := by
  have C := Lib.hid (impl_text n w)
  by_cases h : ty n = true
  · have hn : n = 1 ∨ n = 2 ∨ n = 5 ∨ n = 6 ∨ n = 16 := of_decide_eq_true h
    have hz : (tt n).toList.isEmpty = false := by
      have he : (tt n).data.toList ≠ [] := by rcases hn with rfl | rfl | rfl | rfl | rfl <;> simp [tt]
      rw [ByteArray.toList_eq]
      cases e : (tt n).data.toList with
      | nil => exact absurd e he
      | cons => rfl
    have hy : (!(tt n).toList.isEmpty) = true := by rw [hz]; rfl
    have H := Lib.hid h
    clear h hn
    go_enter Tryz.func66, Tryz.ntmps66
    go_wp2_with fail
    refine C.out.mono ?_
    rintro e w' ⟨rfl, rfl⟩
    go_wp2
    go_ret
    exact ⟨by rw [H.out]; rfl, rfl⟩
  · have h : ¬ (n = 1 ∨ n = 2 ∨ n = 5 ∨ n = 6 ∨ n = 16) := fun k => h (decide_eq_true k)
    have H := Lib.hid (ty_none (n := n) (by omega) (by omega) (by omega) (by omega) (by omega))
    have K := Lib.hid (tt_none (n := n) (by omega) (by omega) (by omega) (by omega) (by omega))
    clear h
    go_enter Tryz.func66, Tryz.ntmps66
    go_wp2_with fail
    refine C.out.mono ?_
    rw [K.out]
    rintro e w' ⟨rfl, rfl⟩
    go_wp2
    go_ret
    exact ⟨by rw [H.out]; rfl, rfl⟩

end Go.Proofs.YtmabbeefeipnaaaGreatDoor.Types

/- Plain facts on memory: messages, and what a message in a box of its own reads as. -/
namespace Go.Proofs.YtmabbeefeipnaaaGreatDoor.MemM
open Go.RowKit Go.Proofs.YtmabbeefeipnaaaGreatDoor.Mem Go.Proofs.YtmabbeefeipnaaaGreatDoor.MemR Go.Proofs.YtmabbeefeipnaaaGreatDoor.BoxR

/-- A message without its sections. -/
structure Hd where
  id : Int
  rp : Bool
  au : Bool
  ct : Bool
  wa : Bool
  ca : Bool
  code : Int
  qn : ByteArray
  qt : Int
/-- The cells that hold a message. -/
def mc (h : Hd) (x y z : Value) : List Value := [.int .i64 h.id, .bool h.rp, .bool h.au, .bool h.ct, .bool h.wa, .bool h.ca, .int .i64 h.code, .string h.qn, .int .i64 h.qt, x, y, z]
/-- The head with nothing in it. -/
def zh : Hd := ⟨0, false, false, false, false, false, 0, ⟨#[]⟩, 0⟩
/-- The message in a box of its own: its cells. -/
def Mx (w : World) (g : Nat) (h : Hd) (x y z : Value) : Prop :=
  w.cell? ⟨g, 0, none⟩ = some (.int .i64 h.id) ∧ w.cell? ⟨g, 1, none⟩ = some (.bool h.rp) ∧ w.cell? ⟨g, 2, none⟩ = some (.bool h.au) ∧ w.cell? ⟨g, 3, none⟩ = some (.bool h.ct) ∧ w.cell? ⟨g, 4, none⟩ = some (.bool h.wa) ∧ w.cell? ⟨g, 5, none⟩ = some (.bool h.ca) ∧ w.cell? ⟨g, 6, none⟩ = some (.int .i64 h.code) ∧ w.cell? ⟨g, 7, none⟩ = some (.string h.qn) ∧ w.cell? ⟨g, 8, none⟩ = some (.int .i64 h.qt) ∧ w.cell? ⟨g, 9, none⟩ = some (x) ∧ w.cell? ⟨g, 10, none⟩ = some (y) ∧ w.cell? ⟨g, 11, none⟩ = some (z)
section
variable {w w' : World} {g B : Nat} {t : TypeId} {h : Hd} {x y z : Value}
theorem mx_of (k : Bk w g t (mc h x y z)) : Mx w g h x y z := ⟨k.cell 0, k.cell 1, k.cell 2, k.cell 3, k.cell 4, k.cell 5, k.cell 6, k.cell 7, k.cell 8, k.cell 9, k.cell 10, k.cell 11⟩
theorem Mx.lt (k : Mx w g h x y z) : g < w.heap.size := World.block_lt_of_cell? _ _ k.1
theorem Mx.move (k : Mx w g h x y z) (e : ∀ j, w'.cell? ⟨g, j, none⟩ = w.cell? ⟨g, j, none⟩) : Mx w' g h x y z :=
  ⟨(e 0).trans k.1, (e 1).trans k.2.1, (e 2).trans k.2.2.1, (e 3).trans k.2.2.2.1, (e 4).trans k.2.2.2.2.1, (e 5).trans k.2.2.2.2.2.1, (e 6).trans k.2.2.2.2.2.2.1, (e 7).trans k.2.2.2.2.2.2.2.1, (e 8).trans k.2.2.2.2.2.2.2.2.1, (e 9).trans k.2.2.2.2.2.2.2.2.2.1, (e 10).trans k.2.2.2.2.2.2.2.2.2.2.1, (e 11).trans k.2.2.2.2.2.2.2.2.2.2.2⟩
theorem Mx.below (k : Mx w g h x y z) (hb : Below w.heap.size w w') : Mx w' g h x y z := k.move fun j => hb.cell (p := ⟨g, j, none⟩) k.lt
theorem mx_new (w : World) (t : TypeId) (h : Hd) (x y z : Value) : Mx (w.alloc (.cells #[.int .i64 h.id, .bool h.rp, .bool h.au, .bool h.ct, .bool h.wa, .bool h.ca, .int .i64 h.code, .string h.qn, .int .i64 h.qt, x, y, z] t)) w.heap.size h x y z :=
  mx_of (t := t) (heap_alloc_new w _)
theorem Mx.alloc (k : Mx w g h x y z) (o : Obj) : Mx (w.alloc o) g h x y z := k.below ((Below.refl _ _).alloc (Nat.le_refl _) _)
theorem Mx.grown {row : Option Nat} (k : Mx w g h x y z) (hb : w.grownBy w' row) (hg : some g ≠ row) : Mx w' g h x y z :=
  k.move fun _ => World.cell?_of_block (hb.block g k.lt hg)
theorem Mx.set1 (k : Mx w g h x y z) {p : Addr} (hp : g ≠ p.block) (u : Value) : Mx (w.setCell p u) g h x y z := k.move fun _ => World.cell?_of_block (Below.heap_setCell w p u g hp)
theorem Mx.set2 (k : Mx w g h x y z) {p q : Addr} (hp : g ≠ p.block) (hq : g ≠ q.block) (u v : Value) : Mx ((w.setCell p u).setCell q v) g h x y z := (k.set1 hp u).set1 hq v
theorem Mx.drawn (k : Mx w g h x y z) (d : Nat) (os : Array Obj) : Mx (Sort.grow (redrawn w d) os) g h x y z := k.below (below_regrown w d os)
end
/-- A question in a box of its own: its cells. -/
def Qx (w : World) (g : Nat) (s : ByteArray) (n : Int) : Prop := w.cell? ⟨g, 0, none⟩ = some (.string s) ∧ w.cell? ⟨g, 1, none⟩ = some (.int .i64 n)
section
variable {w w' : World} {g : Nat} {s : ByteArray} {n : Int}
theorem Qx.lt (k : Qx w g s n) : g < w.heap.size := World.block_lt_of_cell? _ _ k.1
theorem Qx.below (k : Qx w g s n) (hb : Below w.heap.size w w') : Qx w' g s n := ⟨(hb.cell (p := ⟨g, 0, none⟩) k.lt).trans k.1, (hb.cell (p := ⟨g, 1, none⟩) k.lt).trans k.2⟩
theorem qx_new (w : World) (t : TypeId) (s : ByteArray) (n : Int) : Qx (w.alloc (.cells #[.string s, .int .i64 n] t)) w.heap.size s n := by
  have b : Bk (w.alloc (.cells #[.string s, .int .i64 n] t)) w.heap.size t [.string s, .int .i64 n] := heap_alloc_new w _
  exact ⟨b.cell 0, b.cell 1⟩
end
/-- The call returned a message with the head h and three new slices that read as these records, and turned nothing that was there. -/
def GivesM (w : World) (h : Hd) (n1 n2 n3 : Nat) (l1 l2 l3 : List Rec) (e : Ending) (w' : World) : Prop :=
  ∃ g1 c1 r1 g2 c2 r2 g3 c3 r3, e = .returned (.agg #[.int .i64 h.id, .bool h.rp, .bool h.au, .bool h.ct, .bool h.wa, .bool h.ca, .int .i64 h.code, .string h.qn, .int .i64 h.qt, .slice (some ⟨g1, 0, none⟩) n1 c1, .slice (some ⟨g2, 0, none⟩) n2 c2, .slice (some ⟨g3, 0, none⟩) n3 c3]) ∧
    Bk w' g1 40 (fl l1 ++ r1) ∧ Bk w' g2 40 (fl l2 ++ r2) ∧ Bk w' g3 40 (fl l3 ++ r3) ∧ w.heap.size ≤ g1 ∧ g1 < g2 ∧ g2 < g3 ∧ Below w.heap.size w w'
/-- Nothing of w has been turned. A def, so that no step of a walk opens it. -/
def Sv (w w' : World) : Prop := Below w.heap.size w w'
section
variable {w0 w w' : World} {g k : Nat} {h j : Hd} {x y z a b c : Value}
/-- Two boxes with messages, kept through a call that turns nothing. -/
theorem kept2 (m : (Mx w g h x y z ∧ Mx w k j a b c) ∧ Sv w0 w) (hl : Below w.heap.size w w') : (Mx w' g h x y z ∧ Mx w' k j a b c) ∧ Sv w0 w' := ⟨⟨m.1.1.below hl, m.1.2.below hl⟩, m.2.trans (hl.mono m.2.size)⟩
theorem kept2_draw (m : (Mx w g h x y z ∧ Mx w k j a b c) ∧ Sv w0 w) : (Mx w.drew g h x y z ∧ Mx w.drew k j a b c) ∧ Sv w0 w.drew := kept2 m ((Below.refl _ _).drew)
end
end Go.Proofs.YtmabbeefeipnaaaGreatDoor.MemM

/- A message that a call gives back lies in a box of its own, made first and filled at the return: what the box reads as, and what the result is; and boxes made one behind the other. -/
namespace Go.Proofs.YtmabbeefeipnaaaGreatDoor.ResM
open Go.RowKit Go.Proofs.YtmabbeefeipnaaaGreatDoor.Mem Go.Proofs.YtmabbeefeipnaaaGreatDoor.MemR Go.Proofs.YtmabbeefeipnaaaGreatDoor.BoxR Go.Proofs.YtmabbeefeipnaaaGreatDoor.MemM Go.Proofs.YtmabbeefeipnaaaGreatDoor.ResR

/-- The box g filled with a message. -/
def filM (w : World) (g : Nat) (h : Hd) (x y z : Value) : World := ((((((((((((w.setCell ⟨g, 0, none⟩ (.int .i64 h.id)).setCell ⟨g, 1, none⟩ (.bool h.rp)).setCell ⟨g, 2, none⟩ (.bool h.au)).setCell ⟨g, 3, none⟩ (.bool h.ct)).setCell ⟨g, 4, none⟩ (.bool h.wa)).setCell ⟨g, 5, none⟩ (.bool h.ca)).setCell ⟨g, 6, none⟩ (.int .i64 h.code)).setCell ⟨g, 7, none⟩ (.string h.qn)).setCell ⟨g, 8, none⟩ (.int .i64 h.qt)).setCell ⟨g, 9, none⟩ (x)).setCell ⟨g, 10, none⟩ (y)).setCell ⟨g, 11, none⟩ (z))
section
variable {w w1 : World} {g B : Nat} {t : TypeId} {h h0 : Hd} {x y z x0 y0 z0 : Value} {a b : Obj} {cs : Array Value}
theorem at1 : Bk (w.alloc (.cells cs t)) w.heap.size t cs.toList := heap_alloc_new w _
theorem at2 : Bk ((w.alloc a).alloc (.cells cs t)) (w.heap.size + 1) t cs.toList := by
  have := heap_alloc_new (w.alloc a) (.cells cs t)
  rw [show (w.alloc a).heap.size = w.heap.size + 1 by simp] at this
  exact this
theorem at3 : Bk (((w.alloc a).alloc b).alloc (.cells cs t)) (w.heap.size + 1 + 1) t cs.toList := by
  have := heap_alloc_new ((w.alloc a).alloc b) (.cells cs t)
  rw [show ((w.alloc a).alloc b).heap.size = w.heap.size + 1 + 1 by simp] at this
  exact this
theorem filM_bk (k : Bk w g t (mc h0 x0 y0 z0)) (h : Hd) (x y z : Value) : Bk (filM w g h x y z) g t (mc h x y z) := ((((((((((((k.set 0 (.int .i64 h.id)).set 1 (.bool h.rp)).set 2 (.bool h.au)).set 3 (.bool h.ct)).set 4 (.bool h.wa)).set 5 (.bool h.ca)).set 6 (.int .i64 h.code)).set 7 (.string h.qn)).set 8 (.int .i64 h.qt)).set 9 (x)).set 10 (y)).set 11 (z))
theorem filM_below (k : Below B w w1) (hg : B ≤ g) (h : Hd) (x y z : Value) : Below B w (filM w1 g h x y z) := ((((((((((((k.setCell (p := ⟨g, 0, none⟩) hg (.int .i64 h.id)).setCell (p := ⟨g, 1, none⟩) hg (.bool h.rp)).setCell (p := ⟨g, 2, none⟩) hg (.bool h.au)).setCell (p := ⟨g, 3, none⟩) hg (.bool h.ct)).setCell (p := ⟨g, 4, none⟩) hg (.bool h.wa)).setCell (p := ⟨g, 5, none⟩) hg (.bool h.ca)).setCell (p := ⟨g, 6, none⟩) hg (.int .i64 h.code)).setCell (p := ⟨g, 7, none⟩) hg (.string h.qn)).setCell (p := ⟨g, 8, none⟩) hg (.int .i64 h.qt)).setCell (p := ⟨g, 9, none⟩) hg (x)).setCell (p := ⟨g, 10, none⟩) hg (y)).setCell (p := ⟨g, 11, none⟩) hg (z))
theorem filM_other {j : Nat} {u : TypeId} {cs : List Value} (k : Bk w j u cs) (hk : j ≠ g) (h : Hd) (x y z : Value) : Bk (filM w g h x y z) j u cs := ((((((((((((k.other (p := ⟨g, 0, none⟩) hk (.int .i64 h.id)).other (p := ⟨g, 1, none⟩) hk (.bool h.rp)).other (p := ⟨g, 2, none⟩) hk (.bool h.au)).other (p := ⟨g, 3, none⟩) hk (.bool h.ct)).other (p := ⟨g, 4, none⟩) hk (.bool h.wa)).other (p := ⟨g, 5, none⟩) hk (.bool h.ca)).other (p := ⟨g, 6, none⟩) hk (.int .i64 h.code)).other (p := ⟨g, 7, none⟩) hk (.string h.qn)).other (p := ⟨g, 8, none⟩) hk (.int .i64 h.qt)).other (p := ⟨g, 9, none⟩) hk (x)).other (p := ⟨g, 10, none⟩) hk (y)).other (p := ⟨g, 11, none⟩) hk (z))
end
theorem load_msg {w : World} {g : Nat} {t : TypeId} {h : Hd} {A1 A2 A3 : Option Addr} {n1 c1 n2 c2 n3 c3 : Nat} (k : Bk w g t (mc h (.slice A1 n1 c1) (.slice A2 n2 c2) (.slice A3 n3 c3))) :
    (loadVar 32 ⟨g, 0, none⟩).run Tryz.prog w = .ok (.agg #[.int .i64 h.id, .bool h.rp, .bool h.au, .bool h.ct, .bool h.wa, .bool h.ca, .int .i64 h.code, .string h.qn, .int .i64 h.qt, .slice A1 n1 c1, .slice A2 n2 c2, .slice A3 n3 c3]) w := by
  obtain ⟨c0, d1, d2, d3, c4, c5, c6, c7, c8, c9, c10, c11⟩ := mx_of k
  simp [go_sem, c0, d1, d2, d3, c4, c5, c6, c7, c8, c9, c10, c11]
theorem res1M {fn : Func} {p : Tmp} {w : World} {g : Nat} {t : TypeId} {h : Hd} {A1 A2 A3 : Option Addr} {n1 c1 n2 c2 n3 c3 : Nat} {tmps : Array Value} (hf : fn.results = #[.cell p 32])
    (k : Bk w g t (mc h (.slice A1 n1 c1) (.slice A2 n2 c2) (.slice A3 n3 c3))) (h4 : tmps.getD p undef = .pointer (some ⟨g, 0, none⟩)) :
    (results fn tmps).run Tryz.prog w = .ok (.agg #[.int .i64 h.id, .bool h.rp, .bool h.au, .bool h.ct, .bool h.wa, .bool h.ca, .int .i64 h.code, .string h.qn, .int .i64 h.qt, .slice A1 n1 c1, .slice A2 n2 c2, .slice A3 n3 c3]) w := by
  rw [results_cell hf, h4, as_addr]
  simp only [Result.andThen, load_msg k]
end Go.Proofs.YtmabbeefeipnaaaGreatDoor.ResM

/- What QuestOk and MsgOk do in the program and in the model: whether a question, a message is valid. Conditions: at most 400000000 bytes in each text, fewer than 400000001 records; for the program: the library's variable internal/bytealg.MaxLen holds an int. -/
namespace Go.Proofs.YtmabbeefeipnaaaGreatDoor.OkM
open Go.RowKit Go.Proofs.YtmabbeefeipnaaaGreatDoor.Mem Go.Proofs.YtmabbeefeipnaaaGreatDoor.MemR Go.Proofs.YtmabbeefeipnaaaGreatDoor.Labels Go.Proofs.YtmabbeefeipnaaaGreatDoor.NameOk Go.Proofs.YtmabbeefeipnaaaGreatDoor.TextR Go.Proofs.YtmabbeefeipnaaaGreatDoor.BoxR Go.Proofs.YtmabbeefeipnaaaGreatDoor.RecOk Go.Proofs.YtmabbeefeipnaaaGreatDoor.Types Go.Proofs.YtmabbeefeipnaaaGreatDoor.MemM Go.Proofs.YtmabbeefeipnaaaGreatDoor.ResM

/-- A valid question. A def, so that no step of a walk opens it. -/
def qok (s : ByteArray) (n : Int) : Bool := Nm s && ty n
/-- A valid section. -/
def rls (l : List Rec) : Bool := l.all rok && decide (l.length ≤ 8)
/-- A valid message. -/
def mok (h : Hd) (l1 l2 l3 : List Rec) : Bool := inn h.id 0 65535 && (inn h.code 0 15 && (qok h.qn h.qt && (rls l1 && (rls l2 && rls l3))))
/-- No text of the records is too long. -/
def Mods (l : List Rec) : Prop := ∀ r ∈ l, Mod r
theorem all_step {l : List Rec} {k : Nat} (h : k < l.length) (hk : (l.take k).all rok = true) (hx : rok l[k] = true) : (l.take (k + 1)).all rok = true := by
  rw [List.take_succ_eq_append_getElem h, List.all_append, hk]
  simp [hx]
theorem all_bad {l : List Rec} {k : Nat} (h : k < l.length) (hx : rok l[k] = false) : l.all rok = false := by
  rw [Bool.eq_false_iff]
  intro e
  rw [List.all_eq_true] at e
  have := e l[k] (List.getElem_mem h)
  rw [hx] at this
  cases this
theorem rls_bad {l : List Rec} (h : l.all rok = false) : rls l = false := by rw [rls, h]; rfl
theorem rls_long {l : List Rec} (h : ¬ l.length ≤ 8) : rls l = false := by rw [rls, decide_eq_false h, Bool.and_false]
theorem rls_good {l : List Rec} (h : l.all rok = true) (h8 : l.length ≤ 8) : rls l = true := by rw [rls, h, decide_eq_true h8]; rfl

set_option maxHeartbeats 2000000 in
theorem questI (s : ByteArray) (n : Int) (w : World) (he : Env w) (hs : s.size ≤ 400000000) : Calls Tryz.prog 37 #[.agg #[.string s, .int .i64 n]] w fun e w' => e = .returned (.bool (qok s n)) ∧ Below w.heap.size w w' := by
  have L0 := Lib.hid ((Below.refl w.heap.size w).alloc (Nat.le_refl _) (.cells #[.string s, .int .i64 n] 28))
  have B0 : Hid (Bk (w.alloc (.cells #[.string s, .int .i64 n] 28)) w.heap.size 28 [.string s, .int .i64 n]) := heap_alloc_new w _
  have HE := Lib.hid he
  clear he
  cases hb : Nm s
  · have HQ : Hid (qok s n = false) := by show _ = _; rw [qok, hb]; rfl
    have HB := Lib.hid hb
    clear hb
    go_enter Tryz.func37, Tryz.ntmps37
    go_wp2_with fail
    refine (NameOk.impl s _ (HE.out.below L0.out) hs).mono ?_
    rw [HB.out]
    rintro e w1 ⟨rfl, hl⟩
    have L1 := Lib.hid (L0.out.trans (hl.mono L0.out.size))
    clear hl L0 B0
    go_wp2
    go_ret
    exact ⟨by rw [HQ.out]; rfl, L1.out⟩
  · have HQ : Hid (qok s n = ty n) := by show _ = _; rw [qok, hb]; rfl
    have HB := Lib.hid hb
    clear hb
    go_enter Tryz.func37, Tryz.ntmps37
    go_wp2_with fail
    refine (NameOk.impl s _ (HE.out.below L0.out) hs).mono ?_
    rw [HB.out]
    rintro e w1 ⟨rfl, hl⟩
    have L1 := Lib.hid (L0.out.trans (hl.mono L0.out.size))
    have x1 : w1.cell? ⟨w.heap.size, 1, none⟩ = some (.int .i64 n) := (B0.out.below hl B0.out.lt).cell 1
    clear hl L0 B0
    go_wp2_with fail
    refine (impl_ok n _).mono ?_
    rintro e w2 ⟨rfl, rfl⟩
    go_wp2
    go_ret
    exact ⟨by rw [HQ.out]; rfl, L1.out⟩

set_option maxHeartbeats 4000000 in
theorem listI (A : Option Addr) (n c : Nat) (l : List Rec) (w : World) (he : Env w) (hs : Sr w w.heap.size A n l) (hn : n ≤ 400000000) (hm : Mods l) :
    Calls Tryz.prog 38 #[.slice A n c, .int .i64 8] w fun e w' => e = .returned (.bool (rls l)) ∧ Below w.heap.size w w' := by
  have HE := Lib.hid he
  have HS := Lib.hid hs
  have HM := Lib.hid hm
  clear hs hm he
  by_cases h8 : ¬ n ≤ 8
  · have h8' : (8 : Int) < (n : Int) := by omega
    have HN := Lib.hid (rls_long (l := l) (by rw [HS.out.1]; exact h8))
    go_enter Tryz.func38, Tryz.ntmps38
    go_wp2
    go_ret
    exact ⟨by rw [HN.out]; rfl, Below.refl _ _⟩
  have h8' : ¬ (8 : Int) < (n : Int) := by omega
  go_enter Tryz.func38, Tryz.ntmps38
  go_wp2
  go_loopw [13] (fun i wr => ∃ k : Nat, k ≤ n ∧ i = .int .i64 k ∧ Hid ((l.take k).all rok = true) ∧ Hid (Below w.heap.size w wr)) (fun i _ => n - (intOf i).toNat)
  case atStart => exact ⟨0, Nat.zero_le _, rfl, rfl, Below.refl _ _⟩
  case round =>
    obtain ⟨k, hk, rfl, HK, HL⟩ := hrel
    by_cases hlt : k < n
    · obtain ⟨b, off, rfl, hbB, hcs⟩ := HS.out.2 (by omega)
      have hkl : k < l.length := by rw [HS.out.1]; exact hlt
      obtain ⟨e0, e1, e2, e3, e4, e5⟩ := (hcs k hkl).below HL.out hbB
      have HR := Lib.hid (HM.out l[k] (List.getElem_mem hkl))
      clear hcs
      cases hb : rok l[k]
      · have HN := Lib.hid (rls_bad (all_bad hkl hb))
        have HB := Lib.hid hb
        clear hb
        generalize l[k] = r at *
        have LA := Lib.hid (HL.out.alloc HL.out.size (.cells #[.string r.name, .int .i64 r.ty, .int .i64 r.ttl, .int .i64 r.n, .string r.host, .string r.text] 40))
        go_wp2_with fail
        refine (RecOk.impl r _ (HE.out.below LA.out) HR.out).mono ?_
        rw [HB.out]
        rintro e w1 ⟨rfl, hl⟩
        have L1 := Lib.hid (LA.out.trans (hl.mono LA.out.size))
        clear hl e0 e1 e2 e3 e4 e5 HL LA
        go_wp2
        go_ret
        exact ⟨by rw [HN.out]; rfl, L1.out⟩
      · have HN := Lib.hid (all_step hkl HK.out hb)
        have HB := Lib.hid hb
        clear hb
        generalize l[k] = r at *
        have LA := Lib.hid (HL.out.alloc HL.out.size (.cells #[.string r.name, .int .i64 r.ty, .int .i64 r.ttl, .int .i64 r.n, .string r.host, .string r.text] 40))
        go_wp2_with fail
        refine (RecOk.impl r _ (HE.out.below LA.out) HR.out).mono ?_
        rw [HB.out]
        rintro e w1 ⟨rfl, hl⟩
        have L1 := Lib.hid (LA.out.trans (hl.mono LA.out.size))
        clear hl e0 e1 e2 e3 e4 e5 HL LA
        go_wp2
        go_roundw
        case rel => exact ⟨k + 1, by omega, by go_num, HN.out, L1.out⟩
        case measure => simp [intOf]; omega
    · have HN : Hid (rls l = true) := by
        have := HK.out
        rw [List.take_of_length_le (by rw [HS.out.1]; omega)] at this
        exact rls_good this (by rw [HS.out.1]; omega)
      go_wp2
      go_ret
      exact ⟨by rw [HN.out]; rfl, HL.out⟩

set_option maxHeartbeats 2000000 in
theorem rangeI (i1 i2 : Int) (b1 b2 b3 b4 b5 : Bool) (w : World) : Calls Tryz.prog 36 #[.agg #[.int .i64 i1, .bool b1, .bool b2, .bool b3, .bool b4, .bool b5, .int .i64 i2]] w fun e w' => e = .returned (.bool (inn i1 0 65535 && inn i2 0 15)) ∧ Below w.heap.size w w' := by
  have L0 := Lib.hid ((Below.refl w.heap.size w).alloc (Nat.le_refl _) (.cells #[.int .i64 i1, .bool b1, .bool b2, .bool b3, .bool b4, .bool b5, .int .i64 i2] 61))
  have HA := Lib.hid (upTo_any i1 65535)
  have HB := Lib.hid (upTo_any i2 15)
  generalize inn i1 0 65535 = u at *
  generalize inn i2 0 15 = v at *
  cases u
  · go_enter Tryz.func36, Tryz.ntmps36
    go_wp2_with fail
    refine (HA.out _).mono ?_
    rintro e w1 ⟨rfl, rfl⟩
    go_wp2
    go_ret
    exact ⟨rfl, L0.out⟩
  · go_enter Tryz.func36, Tryz.ntmps36
    go_wp2_with fail
    refine (HA.out _).mono ?_
    rintro e w1 ⟨rfl, rfl⟩
    go_wp2_with fail
    refine (HB.out _).mono ?_
    rintro e w1 ⟨rfl, rfl⟩
    go_wp2
    go_ret
    exact ⟨rfl, L0.out⟩

set_option maxHeartbeats 2000000 in
theorem ofI (h : Hd) (A1 A2 A3 : Option Addr) (n1 c1 n2 c2 n3 c3 : Nat) (w : World) : Calls Tryz.prog 35 #[.agg #[.int .i64 h.id, .bool h.rp, .bool h.au, .bool h.ct, .bool h.wa, .bool h.ca, .int .i64 h.code, .string h.qn, .int .i64 h.qt, .slice A1 n1 c1, .slice A2 n2 c2, .slice A3 n3 c3]] w fun e w' => e = .returned (.agg #[.int .i64 h.id, .bool h.rp, .bool h.au, .bool h.ct, .bool h.wa, .bool h.ca, .int .i64 h.code, .string h.qn, .int .i64 h.qt, .slice A1 n1 c1, .slice A2 n2 c2, .slice A3 n3 c3]) ∧ Below w.heap.size w w' := by
  go_enter Tryz.func35, Tryz.ntmps35
  go_wp2
  refine bodyPost_ret (v := .agg #[.int .i64 h.id, .bool h.rp, .bool h.au, .bool h.ct, .bool h.wa, .bool h.ca, .int .i64 h.code, .string h.qn, .int .i64 h.qt, .slice A1 n1 c1, .slice A2 n2 c2, .slice A3 n3 c3]) (by simp [results, Tryz.results35, go_sem]) rfl ⟨rfl, ?_⟩
  repeat (first | exact Below.refl _ _ | refine Below.setCell ?_ (by simp; try omega) _ | refine Below.alloc ?_ (by simp; try omega) _)

theorem at0 (A1 A2 A3 : Option Addr) (n1 c1 n2 c2 n3 c3 : Nat) (W : World) : Sem.run Tryz.prog (Instr.index 62 (.agg #[.slice A1 n1 c1, .slice A2 n2 c2, .slice A3 n3 c3]) (.int .i64 0)) W = .ok (.slice A1 n1 c1) W := by
  simp [Instr.index, go_sem]

theorem at1' (A1 A2 A3 : Option Addr) (n1 c1 n2 c2 n3 c3 : Nat) (W : World) : Sem.run Tryz.prog (Instr.index 62 (.agg #[.slice A1 n1 c1, .slice A2 n2 c2, .slice A3 n3 c3]) (.int .i64 1)) W = .ok (.slice A2 n2 c2) W := by
  simp [Instr.index, go_sem]

theorem at2' (A1 A2 A3 : Option Addr) (n1 c1 n2 c2 n3 c3 : Nat) (W : World) : Sem.run Tryz.prog (Instr.index 62 (.agg #[.slice A1 n1 c1, .slice A2 n2 c2, .slice A3 n3 c3]) (.int .i64 2)) W = .ok (.slice A3 n3 c3) W := by
  simp [Instr.index, go_sem]

set_option maxRecDepth 100000 in
set_option maxHeartbeats 8000000 in
theorem impl (h : Hd) (A1 : Option Addr) (n1 c1 : Nat) (l1 : List Rec) (A2 : Option Addr) (n2 c2 : Nat) (l2 : List Rec) (A3 : Option Addr) (n3 c3 : Nat) (l3 : List Rec) (w : World) (he : Env w) (hq : h.qn.size ≤ 400000000) (s1 : Sr w w.heap.size A1 n1 l1) (b1 : n1 ≤ 400000000) (m1 : Mods l1) (s2 : Sr w w.heap.size A2 n2 l2) (b2 : n2 ≤ 400000000) (m2 : Mods l2) (s3 : Sr w w.heap.size A3 n3 l3) (b3 : n3 ≤ 400000000) (m3 : Mods l3) : Calls Tryz.prog 13 #[.agg #[.int .i64 h.id, .bool h.rp, .bool h.au, .bool h.ct, .bool h.wa, .bool h.ca, .int .i64 h.code, .string h.qn, .int .i64 h.qt, .slice A1 n1 c1, .slice A2 n2 c2, .slice A3 n3 c3]] w fun e w' => e = .returned (.bool (mok h l1 l2 l3)) ∧ Below w.heap.size w w' := by
  have L0 := Lib.hid ((Below.refl w.heap.size w).alloc (Nat.le_refl _) (.cells #[.int .i64 h.id, .bool h.rp, .bool h.au, .bool h.ct, .bool h.wa, .bool h.ca, .int .i64 h.code, .string h.qn, .int .i64 h.qt, .slice A1 n1 c1, .slice A2 n2 c2, .slice A3 n3 c3] 32))
  have C1 := Lib.hid (fun W => rangeI h.id h.code h.rp h.au h.ct h.wa h.ca W)
  have C3 : Hid (∀ W : World, Below w.heap.size w W → Calls Tryz.prog 37 #[.agg #[.string h.qn, .int .i64 h.qt]] W fun e w' => e = .returned (.bool (qok h.qn h.qt)) ∧ Below W.heap.size W w') := fun W hW => questI h.qn h.qt W (he.below hW) hq
  have C4 : Hid (∀ W : World, Below w.heap.size w W → Calls Tryz.prog 38 #[.slice A1 n1 c1, .int .i64 8] W fun e w' => e = .returned (.bool (rls l1)) ∧ Below W.heap.size W w') := fun W hW => listI A1 n1 c1 l1 W (he.below hW) (s1.on hW) b1 m1
  have C5 : Hid (∀ W : World, Below w.heap.size w W → Calls Tryz.prog 38 #[.slice A2 n2 c2, .int .i64 8] W fun e w' => e = .returned (.bool (rls l2)) ∧ Below W.heap.size W w') := fun W hW => listI A2 n2 c2 l2 W (he.below hW) (s2.on hW) b2 m2
  have C6 : Hid (∀ W : World, Below w.heap.size w W → Calls Tryz.prog 38 #[.slice A3 n3 c3, .int .i64 8] W fun e w' => e = .returned (.bool (rls l3)) ∧ Below W.heap.size W w') := fun W hW => listI A3 n3 c3 l3 W (he.below hW) (s3.on hW) b3 m3
  have HM : Hid (mok h l1 l2 l3 = ((inn h.id 0 65535 && inn h.code 0 15) && (qok h.qn h.qt && (rls l1 && (rls l2 && rls l3))))) := by show _ = _; rw [mok, Bool.and_assoc]
  rw [HM.out]
  clear HM s1 s2 s3 m1 m2 m3 he
  generalize (inn h.id 0 65535 && inn h.code 0 15) = qa at *
  generalize qok h.qn h.qt = qc at *
  generalize rls l1 = qd at *
  generalize rls l2 = qe at *
  generalize rls l3 = qf at *
  cases qa
  · go_enter Tryz.func13, Tryz.ntmps13
    go_wp2_with fail
    refine (ofI h A1 A2 A3 n1 c1 n2 c2 n3 c3 _).mono ?_
    rintro e w1 ⟨rfl, hl⟩
    have L1 := Lib.hid ((L0.out.trans (hl.mono L0.out.size)).alloc (L0.out.trans (hl.mono L0.out.size)).size (.cells #[.int .i64 h.id, .bool h.rp, .bool h.au, .bool h.ct, .bool h.wa, .bool h.ca, .int .i64 h.code, .string h.qn, .int .i64 h.qt, .slice A1 n1 c1, .slice A2 n2 c2, .slice A3 n3 c3] 64))
    have X1 := Lib.hid (mx_new w1 64 h (.slice A1 n1 c1) (.slice A2 n2 c2) (.slice A3 n3 c3))
    clear hl L0
    go_wp2_with fail
    refine (C1.out _).mono ?_
    rintro e w2 ⟨rfl, hl⟩
    have L2 := Lib.hid (L1.out.trans (hl.mono L1.out.size))
    have X2 := Lib.hid (X1.out.below hl)
    clear hl L1 X1
    go_wp2
    go_ret
    exact ⟨rfl, L2.out⟩
  cases qc
  · go_enter Tryz.func13, Tryz.ntmps13
    go_wp2_with fail
    refine (ofI h A1 A2 A3 n1 c1 n2 c2 n3 c3 _).mono ?_
    rintro e w1 ⟨rfl, hl⟩
    have L1 := Lib.hid ((L0.out.trans (hl.mono L0.out.size)).alloc (L0.out.trans (hl.mono L0.out.size)).size (.cells #[.int .i64 h.id, .bool h.rp, .bool h.au, .bool h.ct, .bool h.wa, .bool h.ca, .int .i64 h.code, .string h.qn, .int .i64 h.qt, .slice A1 n1 c1, .slice A2 n2 c2, .slice A3 n3 c3] 64))
    have X1 := Lib.hid (mx_new w1 64 h (.slice A1 n1 c1) (.slice A2 n2 c2) (.slice A3 n3 c3))
    clear hl L0
    go_wp2_with fail
    refine (C1.out _).mono ?_
    rintro e w2 ⟨rfl, hl⟩
    have L2 := Lib.hid (L1.out.trans (hl.mono L1.out.size))
    have X2 := Lib.hid (X1.out.below hl)
    clear hl L1 X1
    obtain ⟨x0, x1, x2, x3, x4, x5, x6, x7, x8, x9, x10, x11⟩ := X2.out
    go_wp2_with fail
    refine (C3.out w2 L2.out).mono ?_
    rintro e w3 ⟨rfl, hl⟩
    have L3 := Lib.hid (L2.out.trans (hl.mono L2.out.size))
    have X3 := Lib.hid (X2.out.below hl)
    clear hl L2 X2 x0 x1 x2 x3 x4 x5 x6 x7 x8 x9 x10 x11
    go_wp2
    go_ret
    exact ⟨rfl, L3.out⟩
  go_enter Tryz.func13, Tryz.ntmps13
  go_wp2_with fail
  refine (ofI h A1 A2 A3 n1 c1 n2 c2 n3 c3 _).mono ?_
  rintro e w1 ⟨rfl, hl⟩
  have L1 := Lib.hid ((L0.out.trans (hl.mono L0.out.size)).alloc (L0.out.trans (hl.mono L0.out.size)).size (.cells #[.int .i64 h.id, .bool h.rp, .bool h.au, .bool h.ct, .bool h.wa, .bool h.ca, .int .i64 h.code, .string h.qn, .int .i64 h.qt, .slice A1 n1 c1, .slice A2 n2 c2, .slice A3 n3 c3] 64))
  have X1 := Lib.hid (mx_new w1 64 h (.slice A1 n1 c1) (.slice A2 n2 c2) (.slice A3 n3 c3))
  clear hl L0
  go_wp2_with fail
  refine (C1.out _).mono ?_
  rintro e w2 ⟨rfl, hl⟩
  have L2 := Lib.hid (L1.out.trans (hl.mono L1.out.size))
  have X2 := Lib.hid (X1.out.below hl)
  clear hl L1 X1
  obtain ⟨x0, x1, x2, x3, x4, x5, x6, x7, x8, x9, x10, x11⟩ := X2.out
  go_wp2_with fail
  refine (C3.out w2 L2.out).mono ?_
  rintro e w3 ⟨rfl, hl⟩
  have L3 := Lib.hid (L2.out.trans (hl.mono L2.out.size))
  have X3 := Lib.hid (X2.out.below hl)
  clear hl L2 X2 x0 x1 x2 x3 x4 x5 x6 x7 x8 x9 x10 x11
  obtain ⟨x0, x1, x2, x3, x4, x5, x6, x7, x8, x9, x10, x11⟩ := X3.out
  go_wp2
  clear x0 x1 x2 x3 x4 x5 x6 x7 x8 x9 x10 x11 X3
  go_loopw [20] (fun i wr => ∃ k : Nat, k ≤ 3 ∧ i = .int .i64 k ∧ Hid ((0 < k → qd = true) ∧ (1 < k → qe = true) ∧ (2 < k → qf = true)) ∧ Hid (Below w.heap.size w wr)) (fun i _ => 3 - (intOf i).toNat)
  case atStart => exact ⟨0, by omega, rfl, ⟨fun h => by omega, fun h => by omega, fun h => by omega⟩, L3.out⟩
  case round =>
    clear L3
    obtain ⟨k, hk, rfl, HK, HL⟩ := hrel
    have ix0 := at0 A1 A2 A3 n1 c1 n2 c2 n3 c3
    have ix1 := at1' A1 A2 A3 n1 c1 n2 c2 n3 c3
    have ix2 := at2' A1 A2 A3 n1 c1 n2 c2 n3 c3
    rcases k with _ | _ | _ | _ | k
    · cases qd
      · go_wp2_with fail
        refine (C4.out wr HL.out).mono ?_
        rintro e w4 ⟨rfl, hl⟩
        have L4 := Lib.hid (HL.out.trans (hl.mono HL.out.size))
        clear hl HL
        go_wp2
        go_ret
        exact ⟨by simp, L4.out⟩
      · go_wp2_with fail
        refine (C4.out wr HL.out).mono ?_
        rintro e w4 ⟨rfl, hl⟩
        have L4 := Lib.hid (HL.out.trans (hl.mono HL.out.size))
        clear hl HL
        go_wp2
        go_roundw
        case rel => exact ⟨1, by omega, by first | rfl | go_num, ⟨fun hh => (by first | rfl | trivial | (exfalso; omega) | exact HK.out.1 (by omega)), fun hh => (by first | rfl | trivial | (exfalso; omega) | exact HK.out.2.1 (by omega)), fun hh => (by first | rfl | trivial | (exfalso; omega) | exact HK.out.2.2 (by omega))⟩, L4.out⟩
        case measure => simp [intOf]
    · cases qe
      · go_wp2_with fail
        refine (C5.out wr HL.out).mono ?_
        rintro e w4 ⟨rfl, hl⟩
        have L4 := Lib.hid (HL.out.trans (hl.mono HL.out.size))
        clear hl HL
        go_wp2
        go_ret
        exact ⟨by simp, L4.out⟩
      · go_wp2_with fail
        refine (C5.out wr HL.out).mono ?_
        rintro e w4 ⟨rfl, hl⟩
        have L4 := Lib.hid (HL.out.trans (hl.mono HL.out.size))
        clear hl HL
        go_wp2
        go_roundw
        case rel => exact ⟨2, by omega, by first | rfl | go_num, ⟨fun hh => (by first | rfl | trivial | (exfalso; omega) | exact HK.out.1 (by omega)), fun hh => (by first | rfl | trivial | (exfalso; omega) | exact HK.out.2.1 (by omega)), fun hh => (by first | rfl | trivial | (exfalso; omega) | exact HK.out.2.2 (by omega))⟩, L4.out⟩
        case measure => simp [intOf]
    · cases qf
      · go_wp2_with fail
        refine (C6.out wr HL.out).mono ?_
        rintro e w4 ⟨rfl, hl⟩
        have L4 := Lib.hid (HL.out.trans (hl.mono HL.out.size))
        clear hl HL
        go_wp2
        go_ret
        exact ⟨by simp, L4.out⟩
      · go_wp2_with fail
        refine (C6.out wr HL.out).mono ?_
        rintro e w4 ⟨rfl, hl⟩
        have L4 := Lib.hid (HL.out.trans (hl.mono HL.out.size))
        clear hl HL
        go_wp2
        go_roundw
        case rel => exact ⟨3, by omega, by first | rfl | go_num, ⟨fun hh => (by first | rfl | trivial | (exfalso; omega) | exact HK.out.1 (by omega)), fun hh => (by first | rfl | trivial | (exfalso; omega) | exact HK.out.2.1 (by omega)), fun hh => (by first | rfl | trivial | (exfalso; omega) | exact HK.out.2.2 (by omega))⟩, L4.out⟩
        case measure => simp [intOf]
    · have HF : Hid (qd = true ∧ qe = true ∧ qf = true) := ⟨HK.out.1 (by omega), HK.out.2.1 (by omega), HK.out.2.2 (by omega)⟩
      go_wp2
      go_ret
      exact ⟨by rw [HF.out.1, HF.out.2.1, HF.out.2.2]; rfl, HL.out⟩
    · omega

end Go.Proofs.YtmabbeefeipnaaaGreatDoor.OkM

/- A content that a call gives back lies in a box of its own, made first and filled at the return: what the box reads as, and what the result is; a section, perhaps nil. -/
namespace Go.Proofs.YtmabbeefeipnaaaGreatDoor.ResC
open Go.RowKit Go.Proofs.YtmabbeefeipnaaaGreatDoor.Mem Go.Proofs.YtmabbeefeipnaaaGreatDoor.MemR Go.Proofs.YtmabbeefeipnaaaGreatDoor.ResR Go.Proofs.YtmabbeefeipnaaaGreatDoor.ServeMath Go.Proofs.YtmabbeefeipnaaaGreatDoor.Wt

/-- A content as cells. -/
def cc (d : Int) (a : Bool) (x y z : Value) : List Value := [.int .i64 d, .bool a, x, y, z]

/-- The box g filled with a content. -/
def filC (w : World) (g : Nat) (d : Int) (a : Bool) (x y z : Value) : World := ((((w.setCell ⟨g, 0, none⟩ (.int .i64 d)).setCell ⟨g, 1, none⟩ (.bool a)).setCell ⟨g, 2, none⟩ (x)).setCell ⟨g, 3, none⟩ (y)).setCell ⟨g, 4, none⟩ (z)

section
variable {w w1 : World} {g B : Nat} {t : TypeId} {d d0 : Int} {a a0 : Bool} {x y z x0 y0 z0 : Value}

theorem filC_bk (k : Bk w g t (cc d0 a0 x0 y0 z0)) (d : Int) (a : Bool) (x y z : Value) : Bk (filC w g d a x y z) g t (cc d a x y z) := (((((k.set 0 (.int .i64 d)).set 1 (.bool a)).set 2 (x)).set 3 (y)).set 4 (z))

theorem filC_below (k : Below B w w1) (hg : B ≤ g) (d : Int) (a : Bool) (x y z : Value) : Below B w (filC w1 g d a x y z) := (((((k.setCell (p := ⟨g, 0, none⟩) hg (.int .i64 d)).setCell (p := ⟨g, 1, none⟩) hg (.bool a)).setCell (p := ⟨g, 2, none⟩) hg (x)).setCell (p := ⟨g, 3, none⟩) hg (y)).setCell (p := ⟨g, 4, none⟩) hg (z))

theorem filC_other {j : Nat} {u : TypeId} {cs : List Value} (k : Bk w j u cs) (hk : j ≠ g) (d : Int) (a : Bool) (x y z : Value) : Bk (filC w g d a x y z) j u cs := (((((k.other (p := ⟨g, 0, none⟩) hk (.int .i64 d)).other (p := ⟨g, 1, none⟩) hk (.bool a)).other (p := ⟨g, 2, none⟩) hk (x)).other (p := ⟨g, 3, none⟩) hk (y)).other (p := ⟨g, 4, none⟩) hk (z))
end

theorem load_con {w : World} {g : Nat} {t : TypeId} {d : Int} {a : Bool} {A1 A2 A3 : Option Addr} {n1 c1 n2 c2 n3 c3 : Nat} (k : Bk w g t (cc d a (.slice A1 n1 c1) (.slice A2 n2 c2) (.slice A3 n3 c3))) :
    (loadVar 48 ⟨g, 0, none⟩).run Tryz.prog w = .ok (.agg #[.int .i64 d, .bool a, .slice A1 n1 c1, .slice A2 n2 c2, .slice A3 n3 c3]) w := by
  have e0 : w.cell? ⟨g, 0, none⟩ = some (.int .i64 d) := k.cell 0
  have e1 : w.cell? ⟨g, 1, none⟩ = some (.bool a) := k.cell 1
  have e2 : w.cell? ⟨g, 2, none⟩ = some (.slice A1 n1 c1) := k.cell 2
  have e3 : w.cell? ⟨g, 3, none⟩ = some (.slice A2 n2 c2) := k.cell 3
  have e4 : w.cell? ⟨g, 4, none⟩ = some (.slice A3 n3 c3) := k.cell 4
  simp [go_sem, e0, e1, e2, e3, e4]

theorem res1C {fn : Func} {p : Tmp} {w : World} {g : Nat} {t : TypeId} {d : Int} {a : Bool} {A1 A2 A3 : Option Addr} {n1 c1 n2 c2 n3 c3 : Nat} {tmps : Array Value} (hf : fn.results = #[.cell p 48])
    (k : Bk w g t (cc d a (.slice A1 n1 c1) (.slice A2 n2 c2) (.slice A3 n3 c3))) (h4 : tmps.getD p undef = .pointer (some ⟨g, 0, none⟩)) :
    (results fn tmps).run Tryz.prog w = .ok (.agg #[.int .i64 d, .bool a, .slice A1 n1 c1, .slice A2 n2 c2, .slice A3 n3 c3]) w := by
  rw [results_cell hf, h4, as_addr]
  simp only [Result.andThen, load_con k]

/-- A section: nil, or a new block that reads as the records (room behind them let in). -/
def Sec (B : Nat) (w : World) (A : Option Addr) (m c : Nat) (L : List Rec) : Prop :=
  (A = none ∧ m = 0 ∧ c = 0 ∧ L = []) ∨ ∃ g r, A = some ⟨g, 0, none⟩ ∧ L.length = m ∧ m ≤ c ∧ B ≤ g ∧ Bk w g 40 (fl L ++ r)

theorem Sec.nil {B : Nat} {w : World} : Sec B w none 0 0 [] := .inl ⟨rfl, rfl, rfl, rfl⟩

theorem Sec.below {B : Nat} {w w' : World} {A : Option Addr} {m c : Nat} {L : List Rec} (h : Sec B w A m c L) (hb : Below w.heap.size w w') : Sec B w' A m c L := by
  rcases h with h | ⟨g, r, h1, h2, h3, h4, h5⟩
  · exact .inl h
  · exact .inr ⟨g, r, h1, h2, h3, h4, h5.below hb h5.lt⟩

theorem Sec.low {B B' : Nat} {w : World} {A : Option Addr} {m c : Nat} {L : List Rec} (h : Sec B w A m c L) (hb : B' ≤ B) : Sec B' w A m c L := by
  rcases h with h | ⟨g, r, h1, h2, h3, h4, h5⟩
  · exact .inl h
  · exact .inr ⟨g, r, h1, h2, h3, Nat.le_trans hb h4, h5⟩

theorem Sec.fil {B : Nat} {w : World} {A : Option Addr} {m c : Nat} {L : List Rec} (h : Sec B w A m c L) {g : Nat} (hg : g < B) (d : Int) (a : Bool) (x y z : Value) : Sec B (filC w g d a x y z) A m c L := by
  rcases h with h | ⟨k, r, h1, h2, h3, h4, h5⟩
  · exact .inl h
  · exact .inr ⟨k, r, h1, h2, h3, h4, filC_other h5 (by omega) d a x y z⟩

theorem Sec.len {B : Nat} {w : World} {A : Option Addr} {m c : Nat} {L : List Rec} (h : Sec B w A m c L) : L.length = m := by
  rcases h with ⟨_, h, _, rfl⟩ | ⟨g, r, _, h2, _⟩
  · exact h.symm
  · exact h2

theorem Sec.cap {B : Nat} {w : World} {A : Option Addr} {m c : Nat} {L : List Rec} (h : Sec B w A m c L) : m ≤ c := by
  rcases h with ⟨_, h, h', _⟩ | ⟨g, r, _, _, h3, _⟩
  · omega
  · exact h3

theorem Sec.sr {B : Nat} {w : World} {A : Option Addr} {m c : Nat} {L : List Rec} (h : Sec B w A m c L) : Sr w w.heap.size A m L := by
  rcases h with ⟨rfl, rfl, _, rfl⟩ | ⟨g, r, rfl, h2, _, _, h5⟩
  · exact Sr.nil
  · exact bk_sr h5 h2

/-- The call returned a content with this code, flag and sections, and turned nothing that was there. -/
def GivesK (w : World) (d : Int) (a : Bool) (L1 L2 L3 : List Rec) (e : Ending) (w' : World) : Prop :=
  ∃ A1 m1 c1 A2 m2 c2 A3 m3 c3, e = .returned (.agg #[.int .i64 d, .bool a, .slice A1 m1 c1, .slice A2 m2 c2, .slice A3 m3 c3]) ∧ Sec w.heap.size w' A1 m1 c1 L1 ∧ Sec w.heap.size w' A2 m2 c2 L2 ∧ Sec w.heap.size w' A3 m3 c3 L3 ∧ Below w.heap.size w w'

end Go.Proofs.YtmabbeefeipnaaaGreatDoor.ResC

/- What l11First does in the model, and shortened and copyRecords in the program: the first eight records (copied by the model; of a nil slice too in the program). Condition: l11First, shortened: at most 1100000000000 records. -/
namespace Go.Proofs.YtmabbeefeipnaaaGreatDoor.ShoS
open Go.RowKit Go.Proofs.YtmabbeefeipnaaaGreatDoor.Mem Go.Proofs.YtmabbeefeipnaaaGreatDoor.MemR Go.Proofs.YtmabbeefeipnaaaGreatDoor.AppR Go.Proofs.YtmabbeefeipnaaaGreatDoor.CpyR Go.Proofs.YtmabbeefeipnaaaGreatDoor.Wt

/-- The lesser of a length and eight. -/
def m8 (m : Nat) : Nat := if m ≤ 8 then m else 8

theorem m8_le (m : Nat) : m8 m ≤ 8 ∧ m8 m ≤ m := by unfold m8; split <;> omega

theorem m8_len (L : List Rec) {m : Nat} (h : L.length = m) : (L.take 8).length = m8 m := by
  rw [List.length_take, h]
  unfold m8
  split <;> omega

theorem sr_take {w : World} {B m : Nat} {A : Option Addr} {L : List Rec} (h : Sr w B A m L) : Sr w B A (m8 m) (L.take 8) := by
  refine ⟨m8_len L h.1, fun hn => ?_⟩
  obtain ⟨b, off, hA, hb, hc⟩ := h.2 (Nat.lt_of_lt_of_le hn (m8_le m).2)
  refine ⟨b, off, hA, hb, fun j hj => ?_⟩
  rw [List.getElem_take]
  exact hc j (by rw [List.length_take] at hj; omega)

set_option maxHeartbeats 1000000 in
theorem leastI (m : Nat) (w : World) : Calls Tryz.prog 53 #[.int .i64 (m : Int), .int .i64 8] w fun e w' => e = .returned (.int .i64 ((m8 m : Nat) : Int)) ∧ w = w' := by
  by_cases h : m ≤ 8
  · rw [show m8 m = m from if_pos h]
    by_cases h8 : m = 8
    · subst h8
      go_enter Tryz.func53, Tryz.ntmps53
      go_wp2
      go_ret
      exact ⟨rfl, rfl⟩
    · have h1 : (m : Int) < 8 := by omega
      have h2 : ¬ (8 : Int) < (m : Int) := by omega
      go_enter Tryz.func53, Tryz.ntmps53
      go_wp2
      go_ret
      first | exact ⟨rfl, rfl⟩ | exact ⟨congrArg (fun x : Int => Ending.returned (Value.int .i64 x)) (show min (m : Int) 8 = (m : Int) by omega), rfl⟩
  · rw [show m8 m = 8 from if_neg h]
    have h1 : (8 : Int) < (m : Int) := by omega
    have h2 : ¬ (m : Int) < 8 := by omega
    go_enter Tryz.func53, Tryz.ntmps53
    go_wp2
    go_ret
    first | exact ⟨rfl, rfl⟩ | exact ⟨congrArg (fun x : Int => Ending.returned (Value.int .i64 x)) (show min (m : Int) 8 = ((8 : Nat) : Int) by omega), rfl⟩

set_option maxHeartbeats 1000000 in
theorem leastS (m : Nat) (w : World) : Calls Tryz.prog 60 #[.int .i64 (m : Int), .int .i64 8] w fun e w' => e = .returned (.int .i64 ((m8 m : Nat) : Int)) ∧ w = w' := by
  by_cases h : m ≤ 8
  · rw [show m8 m = m from if_pos h]
    have h2 : ¬ (8 : Int) < (m : Int) := by omega
    go_enter Tryz.func60, Tryz.ntmps60
    go_wp2
    go_ret
    exact ⟨rfl, rfl⟩
  · rw [show m8 m = 8 from if_neg h]
    have h1 : (8 : Int) < (m : Int) := by omega
    go_enter Tryz.func60, Tryz.ntmps60
    go_wp2
    go_ret
    exact ⟨rfl, rfl⟩

set_option maxHeartbeats 2000000 in
theorem shortened (A : Option Addr) (m c : Nat) (w : World) (hA : (A = none ∧ m = 0 ∧ c = 0) ∨ ∃ g, A = some ⟨g, 0, none⟩) (hmc : m ≤ c) (hm : m ≤ 1100000000000) :
    Calls Tryz.prog 21 #[.slice A m c] w fun e w' => e = .returned (.slice A (m8 m) c) ∧ w = w' := by
  have LE := Lib.hid (fun W => leastI m W)
  have h8 := m8_le m
  have h9 : m8 m ≤ c := by omega
  rcases hA with ⟨rfl, rfl, rfl⟩ | ⟨g, rfl⟩
  · rw [show m8 0 = 0 from rfl] at *
    go_enter Tryz.func21, Tryz.ntmps21
    go_wp2_with fail
    refine (LE.out _).mono ?_
    rintro e w1 ⟨rfl, rfl⟩
    go_wp2
    go_ret
    exact ⟨rfl, rfl⟩
  · generalize m8 m = k at *
    go_enter Tryz.func21, Tryz.ntmps21
    go_wp2_with fail
    refine (LE.out _).mono ?_
    rintro e w1 ⟨rfl, rfl⟩
    go_wp2
    go_ret
    exact ⟨rfl, rfl⟩

set_option maxHeartbeats 2000000 in
theorem first (g m c : Nat) (L : List Rec) (w : World) (hs : Sr w w.heap.size (some ⟨g, 0, none⟩) m L) (hmc : m ≤ c) :
    Calls Tryz.prog 31 #[.slice (some ⟨g, 0, none⟩) m c] w (GivesC w (m8 m) (L.take 8)) := by
  have LE := Lib.hid (fun W => leastS m W)
  have h8 := m8_le m
  have h9 : m8 m ≤ c := by omega
  have CP := Lib.hid (copyS g 0 (m8 m) c (L.take 8) w (sr_take hs) (by omega))
  clear hs
  generalize m8 m = k at *
  go_enter Tryz.func31, Tryz.ntmps31
  go_wp2_with fail
  refine (LE.out _).mono ?_
  rintro e w1 ⟨rfl, rfl⟩
  go_wp2_with fail
  refine CP.out.mono ?_
  rintro e w1 ⟨g1, c1, r1, rfl, h1, h2, h3, h4⟩
  have H := Lib.hid (And.intro h1 (And.intro h2 (And.intro h3 h4)))
  clear h1 h2 h3 h4
  go_wp2
  go_ret
  exact ⟨g1, c1, r1, rfl, H.out⟩

/-- copyRecords of a slice that may be nil. -/
theorem copyN (A : Option Addr) (n c : Nat) (l : List Rec) (w : World) (hA : (A = none ∧ n = 0 ∧ c = 0) ∨ ∃ g, A = some ⟨g, 0, none⟩) (hs : Sr w w.heap.size A n l) (hn : n ≤ 400000000) : Calls Tryz.prog 52 #[.slice A n c] w (GivesC w n l) := by
  rcases hA with ⟨rfl, rfl, rfl⟩ | ⟨g, rfl⟩
  · obtain rfl : l = [] := List.length_eq_zero_iff.1 hs.1
    have L0 := Lib.hid ((Below.refl w.heap.size w).alloc (Nat.le_refl _) (.cells #[] 40))
    have O0 := Lib.hid (owns_new w)
    have N0 : Hid (Bk (w.alloc (.cells #[] 40)) w.heap.size 40 (fl [] ++ [])) := heap_alloc_new w _
    obtain ⟨i0, hi, hz0, hz1, hz2⟩ := info_parts CopyR.info
    clear hs
    go_enter Tryz.func52, Tryz.ntmps52
    go_wp2_with (at_builtin; refine wpList_append_own_none rfl (.tmp 3) (.tmp 4) 24 rfl w.heap.size 40 i0 6 Tryz.underlying24 hi _ 0 [] rfl O0.out rfl ?_)
    go_wp2
    go_ret
    exact ⟨w.heap.size, 0, [], rfl, Nat.le_refl _, Nat.le_refl _, N0.out, L0.out⟩
  · exact copyI g 0 n c l w hs hn

end Go.Proofs.YtmabbeefeipnaaaGreatDoor.ShoS

/- What ReplyTo does in the program and in the model: a reply with new slices of the same records. Condition: fewer than 400000001 records in each section. -/
namespace Go.Proofs.YtmabbeefeipnaaaGreatDoor.RepM
open Go.RowKit Go.Proofs.YtmabbeefeipnaaaGreatDoor.Mem Go.Proofs.YtmabbeefeipnaaaGreatDoor.MemR Go.Proofs.YtmabbeefeipnaaaGreatDoor.BoxR Go.Proofs.YtmabbeefeipnaaaGreatDoor.MemM Go.Proofs.YtmabbeefeipnaaaGreatDoor.CpyR Go.Proofs.YtmabbeefeipnaaaGreatDoor.ResM

/-- The head of a reply. -/
def rph (h : Hd) (code : Int) (au : Bool) : Hd := ⟨h.id, true, au, false, h.wa, false, code, h.qn, h.qt⟩
/-- The box g holds a message. A def, so that no step of a walk opens it. -/
def RB (w : World) (g : Nat) : Prop := ∃ cs : List Value, cs.length = 12 ∧ Bk w g 32 cs
/-- What a cell of the box holds. -/
def cv (w : World) (g j : Nat) : Value := (w.cell? ⟨g, j, none⟩).getD undef
theorem RB.below {w w' : World} {g : Nat} (k : RB w g) (hb : Below w.heap.size w w') : RB w' g := by
  obtain ⟨cs, hc, k⟩ := k
  exact ⟨cs, hc, k.below hb k.lt⟩
theorem RB.cell {w : World} {g : Nat} (k : RB w g) (j : Nat) (hj : j < 12) : w.cell? ⟨g, j, none⟩ = some (cv w g j) := by
  obtain ⟨cs, hc, k⟩ := k
  unfold cv
  rw [k.cell, List.getElem?_eq_getElem (show j < cs.length by omega)]
  rfl
theorem RB.free {w : World} {g : Nat} (k : RB w g) (j : Nat) : w.frozen? ⟨g, j, none⟩ = false := by
  obtain ⟨cs, hc, k⟩ := k
  exact k.free j
theorem twelve {cs : List Value} (h : cs.length = 12) : ∃ a0 a1 a2 a3 a4 a5 a6 a7 a8 a9 a10 a11 : Value, cs = [a0, a1, a2, a3, a4, a5, a6, a7, a8, a9, a10, a11] := by
  match cs, h with
  | [a0, a1, a2, a3, a4, a5, a6, a7, a8, a9, a10, a11], _ => exact ⟨a0, a1, a2, a3, a4, a5, a6, a7, a8, a9, a10, a11, rfl⟩
theorem RB.fil {w : World} {g : Nat} (k : RB w g) (h : Hd) (x y z : Value) : Bk (filM w g h x y z) g 32 (mc h x y z) := by
  obtain ⟨cs, hc, k⟩ := k
  obtain ⟨a0, a1, a2, a3, a4, a5, a6, a7, a8, a9, a10, a11, rfl⟩ := twelve hc
  exact ((((((((((((k.set 0 (.int .i64 h.id)).set 1 (.bool h.rp)).set 2 (.bool h.au)).set 3 (.bool h.ct)).set 4 (.bool h.wa)).set 5 (.bool h.ca)).set 6 (.int .i64 h.code)).set 7 (.string h.qn)).set 8 (.int .i64 h.qt)).set 9 (x)).set 10 (y)).set 11 (z))
theorem keptR {w w1 w2 : World} {h : Hd} (k : (w1.cell? ⟨w.heap.size, 0, none⟩ = some (.int .i64 h.id) ∧ w1.cell? ⟨w.heap.size, 4, none⟩ = some (.bool h.wa) ∧ w1.cell? ⟨w.heap.size, 7, none⟩ = some (.string h.qn) ∧ w1.cell? ⟨w.heap.size, 8, none⟩ = some (.int .i64 h.qt)) ∧ RB w1 (w.heap.size + 1) ∧ Sv w w1) (hl : Below w1.heap.size w1 w2) : (w2.cell? ⟨w.heap.size, 0, none⟩ = some (.int .i64 h.id) ∧ w2.cell? ⟨w.heap.size, 4, none⟩ = some (.bool h.wa) ∧ w2.cell? ⟨w.heap.size, 7, none⟩ = some (.string h.qn) ∧ w2.cell? ⟨w.heap.size, 8, none⟩ = some (.int .i64 h.qt)) ∧ RB w2 (w.heap.size + 1) ∧ Sv w w2 := by
  have a : w.heap.size < w1.heap.size := World.block_lt_of_cell? _ _ k.1.1
  exact ⟨⟨(hl.cell (p := ⟨w.heap.size, 0, none⟩) a).trans k.1.1, (hl.cell (p := ⟨w.heap.size, 4, none⟩) a).trans k.1.2.1, (hl.cell (p := ⟨w.heap.size, 7, none⟩) a).trans k.1.2.2.1, (hl.cell (p := ⟨w.heap.size, 8, none⟩) a).trans k.1.2.2.2⟩, k.2.1.below hl, k.2.2.trans (hl.mono k.2.2.size)⟩
theorem keptR_draw {w w1 : World} {h : Hd} (k : (w1.cell? ⟨w.heap.size, 0, none⟩ = some (.int .i64 h.id) ∧ w1.cell? ⟨w.heap.size, 4, none⟩ = some (.bool h.wa) ∧ w1.cell? ⟨w.heap.size, 7, none⟩ = some (.string h.qn) ∧ w1.cell? ⟨w.heap.size, 8, none⟩ = some (.int .i64 h.qt)) ∧ RB w1 (w.heap.size + 1) ∧ Sv w w1) : (w1.drew.cell? ⟨w.heap.size, 0, none⟩ = some (.int .i64 h.id) ∧ w1.drew.cell? ⟨w.heap.size, 4, none⟩ = some (.bool h.wa) ∧ w1.drew.cell? ⟨w.heap.size, 7, none⟩ = some (.string h.qn) ∧ w1.drew.cell? ⟨w.heap.size, 8, none⟩ = some (.int .i64 h.qt)) ∧ RB w1.drew (w.heap.size + 1) ∧ Sv w w1.drew := keptR k ((Below.refl _ _).drew)
theorem RB.put {w : World} {g : Nat} (k : RB w g) (j : Nat) (v : Value) : RB (w.setCell ⟨g, j, none⟩ v) g := by
  obtain ⟨cs, hc, k⟩ := k
  exact ⟨cs.set j v, by rw [List.length_set]; exact hc, k.set j v⟩
theorem keptR_put {w w1 : World} {h : Hd} (k : (w1.cell? ⟨w.heap.size, 0, none⟩ = some (.int .i64 h.id) ∧ w1.cell? ⟨w.heap.size, 4, none⟩ = some (.bool h.wa) ∧ w1.cell? ⟨w.heap.size, 7, none⟩ = some (.string h.qn) ∧ w1.cell? ⟨w.heap.size, 8, none⟩ = some (.int .i64 h.qt)) ∧ RB w1 (w.heap.size + 1) ∧ Sv w w1) (j : Nat) (v : Value) : ((w1.setCell ⟨w.heap.size + 1, j, none⟩ v).cell? ⟨w.heap.size, 0, none⟩ = some (.int .i64 h.id) ∧ (w1.setCell ⟨w.heap.size + 1, j, none⟩ v).cell? ⟨w.heap.size, 4, none⟩ = some (.bool h.wa) ∧ (w1.setCell ⟨w.heap.size + 1, j, none⟩ v).cell? ⟨w.heap.size, 7, none⟩ = some (.string h.qn) ∧ (w1.setCell ⟨w.heap.size + 1, j, none⟩ v).cell? ⟨w.heap.size, 8, none⟩ = some (.int .i64 h.qt)) ∧ RB (w1.setCell ⟨w.heap.size + 1, j, none⟩ v) (w.heap.size + 1) ∧ Sv w (w1.setCell ⟨w.heap.size + 1, j, none⟩ v) := by
  have e : ∀ i, (w1.setCell ⟨w.heap.size + 1, j, none⟩ v).cell? ⟨w.heap.size, i, none⟩ = w1.cell? ⟨w.heap.size, i, none⟩ := fun i =>
    ((Below.refl (w.heap.size + 1) w1).setCell (p := ⟨w.heap.size + 1, j, none⟩) (Nat.le_refl _) v).cell (p := ⟨w.heap.size, i, none⟩) (Nat.lt_succ_self _)
  exact ⟨⟨(e 0).trans k.1.1, (e 4).trans k.1.2.1, (e 7).trans k.1.2.2.1, (e 8).trans k.1.2.2.2⟩, k.2.1.put j v, Below.setCell k.2.2 (p := ⟨w.heap.size + 1, j, none⟩) (Nat.le_succ _) v⟩
theorem keptR_fil {w w1 : World} {h : Hd} (k : (w1.cell? ⟨w.heap.size, 0, none⟩ = some (.int .i64 h.id) ∧ w1.cell? ⟨w.heap.size, 4, none⟩ = some (.bool h.wa) ∧ w1.cell? ⟨w.heap.size, 7, none⟩ = some (.string h.qn) ∧ w1.cell? ⟨w.heap.size, 8, none⟩ = some (.int .i64 h.qt)) ∧ RB w1 (w.heap.size + 1) ∧ Sv w w1) (v0 v1 v2 v3 v4 v5 v6 v7 v8 v9 v10 v11 : Value) : (((((((((((((w1.setCell ⟨w.heap.size + 1, 0, none⟩ v0).setCell ⟨w.heap.size + 1, 1, none⟩ v1).setCell ⟨w.heap.size + 1, 2, none⟩ v2).setCell ⟨w.heap.size + 1, 3, none⟩ v3).setCell ⟨w.heap.size + 1, 4, none⟩ v4).setCell ⟨w.heap.size + 1, 5, none⟩ v5).setCell ⟨w.heap.size + 1, 6, none⟩ v6).setCell ⟨w.heap.size + 1, 7, none⟩ v7).setCell ⟨w.heap.size + 1, 8, none⟩ v8).setCell ⟨w.heap.size + 1, 9, none⟩ v9).setCell ⟨w.heap.size + 1, 10, none⟩ v10).setCell ⟨w.heap.size + 1, 11, none⟩ v11).cell? ⟨w.heap.size, 0, none⟩ = some (.int .i64 h.id) ∧ ((((((((((((w1.setCell ⟨w.heap.size + 1, 0, none⟩ v0).setCell ⟨w.heap.size + 1, 1, none⟩ v1).setCell ⟨w.heap.size + 1, 2, none⟩ v2).setCell ⟨w.heap.size + 1, 3, none⟩ v3).setCell ⟨w.heap.size + 1, 4, none⟩ v4).setCell ⟨w.heap.size + 1, 5, none⟩ v5).setCell ⟨w.heap.size + 1, 6, none⟩ v6).setCell ⟨w.heap.size + 1, 7, none⟩ v7).setCell ⟨w.heap.size + 1, 8, none⟩ v8).setCell ⟨w.heap.size + 1, 9, none⟩ v9).setCell ⟨w.heap.size + 1, 10, none⟩ v10).setCell ⟨w.heap.size + 1, 11, none⟩ v11).cell? ⟨w.heap.size, 4, none⟩ = some (.bool h.wa) ∧ ((((((((((((w1.setCell ⟨w.heap.size + 1, 0, none⟩ v0).setCell ⟨w.heap.size + 1, 1, none⟩ v1).setCell ⟨w.heap.size + 1, 2, none⟩ v2).setCell ⟨w.heap.size + 1, 3, none⟩ v3).setCell ⟨w.heap.size + 1, 4, none⟩ v4).setCell ⟨w.heap.size + 1, 5, none⟩ v5).setCell ⟨w.heap.size + 1, 6, none⟩ v6).setCell ⟨w.heap.size + 1, 7, none⟩ v7).setCell ⟨w.heap.size + 1, 8, none⟩ v8).setCell ⟨w.heap.size + 1, 9, none⟩ v9).setCell ⟨w.heap.size + 1, 10, none⟩ v10).setCell ⟨w.heap.size + 1, 11, none⟩ v11).cell? ⟨w.heap.size, 7, none⟩ = some (.string h.qn) ∧ ((((((((((((w1.setCell ⟨w.heap.size + 1, 0, none⟩ v0).setCell ⟨w.heap.size + 1, 1, none⟩ v1).setCell ⟨w.heap.size + 1, 2, none⟩ v2).setCell ⟨w.heap.size + 1, 3, none⟩ v3).setCell ⟨w.heap.size + 1, 4, none⟩ v4).setCell ⟨w.heap.size + 1, 5, none⟩ v5).setCell ⟨w.heap.size + 1, 6, none⟩ v6).setCell ⟨w.heap.size + 1, 7, none⟩ v7).setCell ⟨w.heap.size + 1, 8, none⟩ v8).setCell ⟨w.heap.size + 1, 9, none⟩ v9).setCell ⟨w.heap.size + 1, 10, none⟩ v10).setCell ⟨w.heap.size + 1, 11, none⟩ v11).cell? ⟨w.heap.size, 8, none⟩ = some (.int .i64 h.qt)) ∧ RB ((((((((((((w1.setCell ⟨w.heap.size + 1, 0, none⟩ v0).setCell ⟨w.heap.size + 1, 1, none⟩ v1).setCell ⟨w.heap.size + 1, 2, none⟩ v2).setCell ⟨w.heap.size + 1, 3, none⟩ v3).setCell ⟨w.heap.size + 1, 4, none⟩ v4).setCell ⟨w.heap.size + 1, 5, none⟩ v5).setCell ⟨w.heap.size + 1, 6, none⟩ v6).setCell ⟨w.heap.size + 1, 7, none⟩ v7).setCell ⟨w.heap.size + 1, 8, none⟩ v8).setCell ⟨w.heap.size + 1, 9, none⟩ v9).setCell ⟨w.heap.size + 1, 10, none⟩ v10).setCell ⟨w.heap.size + 1, 11, none⟩ v11) (w.heap.size + 1) ∧ Sv w ((((((((((((w1.setCell ⟨w.heap.size + 1, 0, none⟩ v0).setCell ⟨w.heap.size + 1, 1, none⟩ v1).setCell ⟨w.heap.size + 1, 2, none⟩ v2).setCell ⟨w.heap.size + 1, 3, none⟩ v3).setCell ⟨w.heap.size + 1, 4, none⟩ v4).setCell ⟨w.heap.size + 1, 5, none⟩ v5).setCell ⟨w.heap.size + 1, 6, none⟩ v6).setCell ⟨w.heap.size + 1, 7, none⟩ v7).setCell ⟨w.heap.size + 1, 8, none⟩ v8).setCell ⟨w.heap.size + 1, 9, none⟩ v9).setCell ⟨w.heap.size + 1, 10, none⟩ v10).setCell ⟨w.heap.size + 1, 11, none⟩ v11) :=
  (keptR_put (keptR_put (keptR_put (keptR_put (keptR_put (keptR_put (keptR_put (keptR_put (keptR_put (keptR_put (keptR_put (keptR_put k 0 v0) 1 v1) 2 v2) 3 v3) 4 v4) 5 v5) 6 v6) 7 v7) 8 v8) 9 v9) 10 v10) 11 v11)

set_option maxRecDepth 100000 in
set_option maxHeartbeats 8000000 in
theorem impl (h : Hd) (A1 A2 A3 : Option Addr) (n1 c1 n2 c2 n3 c3 : Nat) (code : Int) (au : Bool) (b1 o1 m1 d1 : Nat) (l1 : List Rec) (b2 o2 m2 d2 : Nat) (l2 : List Rec) (b3 o3 m3 d3 : Nat) (l3 : List Rec) (w : World)
    (s1 : Sr w w.heap.size (some ⟨b1, o1, none⟩) m1 l1) (z1 : m1 ≤ 400000000) (s2 : Sr w w.heap.size (some ⟨b2, o2, none⟩) m2 l2) (z2 : m2 ≤ 400000000) (s3 : Sr w w.heap.size (some ⟨b3, o3, none⟩) m3 l3) (z3 : m3 ≤ 400000000) :
    Calls Tryz.prog 20 #[.agg #[.int .i64 h.id, .bool h.rp, .bool h.au, .bool h.ct, .bool h.wa, .bool h.ca, .int .i64 h.code, .string h.qn, .int .i64 h.qt, .slice A1 n1 c1, .slice A2 n2 c2, .slice A3 n3 c3], .int .i64 code, .bool au, .slice (some ⟨b1, o1, none⟩) m1 d1, .slice (some ⟨b2, o2, none⟩) m2 d2, .slice (some ⟨b3, o3, none⟩) m3 d3] w (GivesM w (rph h code au) m1 m2 m3 l1 l2 l3) := by
  have C1 : Hid (∀ W : World, ((W.cell? ⟨w.heap.size, 0, none⟩ = some (.int .i64 h.id) ∧ W.cell? ⟨w.heap.size, 4, none⟩ = some (.bool h.wa) ∧ W.cell? ⟨w.heap.size, 7, none⟩ = some (.string h.qn) ∧ W.cell? ⟨w.heap.size, 8, none⟩ = some (.int .i64 h.qt)) ∧ RB W (w.heap.size + 1) ∧ Sv w W) → Calls Tryz.prog 52 #[.slice (some ⟨b1, o1, none⟩) m1 d1] W (GivesC W m1 l1)) := fun W hW => copyI b1 o1 m1 d1 l1 W (s1.on hW.2.2) z1
  have C2 : Hid (∀ W : World, ((W.cell? ⟨w.heap.size, 0, none⟩ = some (.int .i64 h.id) ∧ W.cell? ⟨w.heap.size, 4, none⟩ = some (.bool h.wa) ∧ W.cell? ⟨w.heap.size, 7, none⟩ = some (.string h.qn) ∧ W.cell? ⟨w.heap.size, 8, none⟩ = some (.int .i64 h.qt)) ∧ RB W (w.heap.size + 1) ∧ Sv w W) → Calls Tryz.prog 52 #[.slice (some ⟨b2, o2, none⟩) m2 d2] W (GivesC W m2 l2)) := fun W hW => copyI b2 o2 m2 d2 l2 W (s2.on hW.2.2) z2
  have C3 : Hid (∀ W : World, ((W.cell? ⟨w.heap.size, 0, none⟩ = some (.int .i64 h.id) ∧ W.cell? ⟨w.heap.size, 4, none⟩ = some (.bool h.wa) ∧ W.cell? ⟨w.heap.size, 7, none⟩ = some (.string h.qn) ∧ W.cell? ⟨w.heap.size, 8, none⟩ = some (.int .i64 h.qt)) ∧ RB W (w.heap.size + 1) ∧ Sv w W) → Calls Tryz.prog 52 #[.slice (some ⟨b3, o3, none⟩) m3 d3] W (GivesC W m3 l3)) := fun W hW => copyI b3 o3 m3 d3 l3 W (s3.on hW.2.2) z3
  have X0 := Lib.hid ((mx_new w 32 h (.slice A1 n1 c1) (.slice A2 n2 c2) (.slice A3 n3 c3)).alloc (.cells #[.int .i64 0, .bool false, .bool false, .bool false, .bool false, .bool false, .int .i64 0, .string ⟨#[]⟩, .int .i64 0, .slice none 0 0, .slice none 0 0, .slice none 0 0] 32))
  have R0 := Lib.hid (at2 (w := w) (a := .cells #[.int .i64 h.id, .bool h.rp, .bool h.au, .bool h.ct, .bool h.wa, .bool h.ca, .int .i64 h.code, .string h.qn, .int .i64 h.qt, .slice A1 n1 c1, .slice A2 n2 c2, .slice A3 n3 c3] 32) (cs := #[.int .i64 0, .bool false, .bool false, .bool false, .bool false, .bool false, .int .i64 0, .string ⟨#[]⟩, .int .i64 0, .slice none 0 0, .slice none 0 0, .slice none 0 0]) (t := 32))
  have L0 := Lib.hid (((Below.refl w.heap.size w).alloc (Nat.le_refl _) (.cells #[.int .i64 h.id, .bool h.rp, .bool h.au, .bool h.ct, .bool h.wa, .bool h.ca, .int .i64 h.code, .string h.qn, .int .i64 h.qt, .slice A1 n1 c1, .slice A2 n2 c2, .slice A3 n3 c3] 32)).alloc (by simp) (.cells #[.int .i64 0, .bool false, .bool false, .bool false, .bool false, .bool false, .int .i64 0, .string ⟨#[]⟩, .int .i64 0, .slice none 0 0, .slice none 0 0, .slice none 0 0] 32))
  have S0 : (((w.alloc (.cells #[.int .i64 h.id, .bool h.rp, .bool h.au, .bool h.ct, .bool h.wa, .bool h.ca, .int .i64 h.code, .string h.qn, .int .i64 h.qt, .slice A1 n1 c1, .slice A2 n2 c2, .slice A3 n3 c3] 32)).alloc (.cells #[.int .i64 0, .bool false, .bool false, .bool false, .bool false, .bool false, .int .i64 0, .string ⟨#[]⟩, .int .i64 0, .slice none 0 0, .slice none 0 0, .slice none 0 0] 32)).cell? ⟨w.heap.size, 0, none⟩ = some (.int .i64 h.id) ∧ ((w.alloc (.cells #[.int .i64 h.id, .bool h.rp, .bool h.au, .bool h.ct, .bool h.wa, .bool h.ca, .int .i64 h.code, .string h.qn, .int .i64 h.qt, .slice A1 n1 c1, .slice A2 n2 c2, .slice A3 n3 c3] 32)).alloc (.cells #[.int .i64 0, .bool false, .bool false, .bool false, .bool false, .bool false, .int .i64 0, .string ⟨#[]⟩, .int .i64 0, .slice none 0 0, .slice none 0 0, .slice none 0 0] 32)).cell? ⟨w.heap.size, 4, none⟩ = some (.bool h.wa) ∧ ((w.alloc (.cells #[.int .i64 h.id, .bool h.rp, .bool h.au, .bool h.ct, .bool h.wa, .bool h.ca, .int .i64 h.code, .string h.qn, .int .i64 h.qt, .slice A1 n1 c1, .slice A2 n2 c2, .slice A3 n3 c3] 32)).alloc (.cells #[.int .i64 0, .bool false, .bool false, .bool false, .bool false, .bool false, .int .i64 0, .string ⟨#[]⟩, .int .i64 0, .slice none 0 0, .slice none 0 0, .slice none 0 0] 32)).cell? ⟨w.heap.size, 7, none⟩ = some (.string h.qn) ∧ ((w.alloc (.cells #[.int .i64 h.id, .bool h.rp, .bool h.au, .bool h.ct, .bool h.wa, .bool h.ca, .int .i64 h.code, .string h.qn, .int .i64 h.qt, .slice A1 n1 c1, .slice A2 n2 c2, .slice A3 n3 c3] 32)).alloc (.cells #[.int .i64 0, .bool false, .bool false, .bool false, .bool false, .bool false, .int .i64 0, .string ⟨#[]⟩, .int .i64 0, .slice none 0 0, .slice none 0 0, .slice none 0 0] 32)).cell? ⟨w.heap.size, 8, none⟩ = some (.int .i64 h.qt)) ∧ RB ((w.alloc (.cells #[.int .i64 h.id, .bool h.rp, .bool h.au, .bool h.ct, .bool h.wa, .bool h.ca, .int .i64 h.code, .string h.qn, .int .i64 h.qt, .slice A1 n1 c1, .slice A2 n2 c2, .slice A3 n3 c3] 32)).alloc (.cells #[.int .i64 0, .bool false, .bool false, .bool false, .bool false, .bool false, .int .i64 0, .string ⟨#[]⟩, .int .i64 0, .slice none 0 0, .slice none 0 0, .slice none 0 0] 32)) (w.heap.size + 1) ∧ Sv w ((w.alloc (.cells #[.int .i64 h.id, .bool h.rp, .bool h.au, .bool h.ct, .bool h.wa, .bool h.ca, .int .i64 h.code, .string h.qn, .int .i64 h.qt, .slice A1 n1 c1, .slice A2 n2 c2, .slice A3 n3 c3] 32)).alloc (.cells #[.int .i64 0, .bool false, .bool false, .bool false, .bool false, .bool false, .int .i64 0, .string ⟨#[]⟩, .int .i64 0, .slice none 0 0, .slice none 0 0, .slice none 0 0] 32)) :=
    ⟨⟨X0.out.1, X0.out.2.2.2.2.1, X0.out.2.2.2.2.2.2.2.1, X0.out.2.2.2.2.2.2.2.2.1⟩, ⟨_, rfl, R0.out⟩, L0.out⟩
  clear s1 s2 s3
  generalize hW0 : ((w.alloc (.cells #[.int .i64 h.id, .bool h.rp, .bool h.au, .bool h.ct, .bool h.wa, .bool h.ca, .int .i64 h.code, .string h.qn, .int .i64 h.qt, .slice A1 n1 c1, .slice A2 n2 c2, .slice A3 n3 c3] 32)).alloc (.cells #[.int .i64 0, .bool false, .bool false, .bool false, .bool false, .bool false, .int .i64 0, .string ⟨#[]⟩, .int .i64 0, .slice none 0 0, .slice none 0 0, .slice none 0 0] 32)) = W0 at S0 R0 X0 L0
  go_enter Tryz.func20, Tryz.ntmps20
  go_wp2
  go_region_held3 (fun w' => (w'.cell? ⟨w.heap.size, 0, none⟩ = some (.int .i64 h.id) ∧ w'.cell? ⟨w.heap.size, 4, none⟩ = some (.bool h.wa) ∧ w'.cell? ⟨w.heap.size, 7, none⟩ = some (.string h.qn) ∧ w'.cell? ⟨w.heap.size, 8, none⟩ = some (.int .i64 h.qt)) ∧ RB w' (w.heap.size + 1) ∧ Sv w w')
    (first | with_reducible exact keptR_fil (w1 := w13) (by assumption) _ _ _ _ _ _ _ _ _ _ _ _ | with_reducible exact S0 | with_reducible assumption | with_reducible exact keptR (by assumption) hl | with_reducible exact keptR_draw (by assumption) | fail)
    (first
      | (go_at_call 52; (with_reducible refine (C1.out _ (by assumption)).mono ?_); rintro e w11 ⟨g1, e1, r1, rfl, -, hg1, hb1, hl⟩; have y1 := hl)
      | (go_at_call 52; (with_reducible refine (C2.out _ (by assumption)).mono ?_); rintro e w12 ⟨g2, e2, r2, rfl, -, hg2, hb2, hl⟩; have y2 := hl)
      | (go_at_call 52; (with_reducible refine (C3.out _ (by assumption)).mono ?_); rintro e w13 ⟨g3, e3, r3, rfl, -, hg3, hb3, hl⟩; have y3 := hl; have HR := (keptR (h := h) (by assumption) hl).2.1; have p0 := HR.cell 0 (by decide); have f0 := HR.free 0; have p1 := HR.cell 1 (by decide); have f1 := HR.free 1; have p2 := HR.cell 2 (by decide); have f2 := HR.free 2; have p3 := HR.cell 3 (by decide); have f3 := HR.free 3; have p4 := HR.cell 4 (by decide); have f4 := HR.free 4; have p5 := HR.cell 5 (by decide); have f5 := HR.free 5; have p6 := HR.cell 6 (by decide); have f6 := HR.free 6; have p7 := HR.cell 7 (by decide); have f7 := HR.free 7; have p8 := HR.cell 8 (by decide); have f8 := HR.free 8; have p9 := HR.cell 9 (by decide); have f9 := HR.free 9; have p10 := HR.cell 10 (by decide); have f10 := HR.free 10; have p11 := HR.cell 11 (by decide); have f11 := HR.free 11; clear HR)
      | fail)
  rename_i hH
  have a0 : Below w.heap.size w W0.drew := L0.out.drew
  have a1 := a0.trans (y1.mono a0.size)
  have a2 := a1.trans (y2.mono a1.size)
  have a3 := a2.trans (y3.mono a2.size)
  have RA : Bk w13 (w.heap.size + 1) 32 (mc zh (.slice none 0 0) (.slice none 0 0) (.slice none 0 0)) := by
    have b0 : Bk W0.drew (w.heap.size + 1) 32 (mc zh (.slice none 0 0) (.slice none 0 0) (.slice none 0 0)) := R0.out
    have b1 := b0.below y1 b0.lt
    have b2 := b1.below y2 b1.lt
    exact b2.below y3 b2.lt
  have n1 : w.heap.size + 1 < g1 := Nat.lt_of_lt_of_le R0.out.lt hg1
  have n2 : g1 < g2 := Nat.lt_of_lt_of_le hb1.lt hg2
  have n3 : g2 < g3 := Nat.lt_of_lt_of_le hb2.lt hg3
  have B1 := hb1.below y2 hb1.lt
  have F := Lib.hid (filM_bk RA (rph h code au) (.slice (some ⟨g1, 0, none⟩) m1 e1) (.slice (some ⟨g2, 0, none⟩) m2 e2) (.slice (some ⟨g3, 0, none⟩) m3 e3))
  have E := Lib.hid (filM_below a3 (g := w.heap.size + 1) (by omega) (rph h code au) (.slice (some ⟨g1, 0, none⟩) m1 e1) (.slice (some ⟨g2, 0, none⟩) m2 e2) (.slice (some ⟨g3, 0, none⟩) m3 e3))
  have I1 := Lib.hid (filM_other (B1.below y3 B1.lt) (g := w.heap.size + 1) (by omega) (rph h code au) (.slice (some ⟨g1, 0, none⟩) m1 e1) (.slice (some ⟨g2, 0, none⟩) m2 e2) (.slice (some ⟨g3, 0, none⟩) m3 e3))
  have I2 := Lib.hid (filM_other (hb2.below y3 hb2.lt) (g := w.heap.size + 1) (by omega) (rph h code au) (.slice (some ⟨g1, 0, none⟩) m1 e1) (.slice (some ⟨g2, 0, none⟩) m2 e2) (.slice (some ⟨g3, 0, none⟩) m3 e3))
  have I3 := Lib.hid (filM_other hb3 (g := w.heap.size + 1) (by omega) (rph h code au) (.slice (some ⟨g1, 0, none⟩) m1 e1) (.slice (some ⟨g2, 0, none⟩) m2 e2) (.slice (some ⟨g3, 0, none⟩) m3 e3))
  clear hH S0 R0 X0 L0 C1 C2 C3 a0 a1 a2 a3 RA B1 hb1 hb2 hb3 hg1 hg2 hg3 y1 y2 y3 hl hW0 p0 f0 p1 f1 p2 f2 p3 f3 p4 f4 p5 f5 p6 f6 p7 f7 p8 f8 p9 f9 p10 f10 p11 f11
  go_wp2
  exact bodyPost_ret (v := .agg #[.int .i64 (rph h code au).id, .bool (rph h code au).rp, .bool (rph h code au).au, .bool (rph h code au).ct, .bool (rph h code au).wa, .bool (rph h code au).ca, .int .i64 (rph h code au).code, .string (rph h code au).qn, .int .i64 (rph h code au).qt, .slice (some ⟨g1, 0, none⟩) m1 e1, .slice (some ⟨g2, 0, none⟩) m2 e2, .slice (some ⟨g3, 0, none⟩) m3 e3]) (res1M rfl F.out rfl) rfl ⟨g1, e1, r1, g2, e2, r2, g3, e3, r3, rfl, I1.out, I2.out, I3.out, by omega, n2, n3, E.out⟩

set_option maxRecDepth 100000 in
set_option maxHeartbeats 8000000 in
theorem spec (h : Hd) (A1 A2 A3 : Option Addr) (n1 c1 n2 c2 n3 c3 : Nat) (code : Int) (au : Bool) (b1 o1 m1 d1 : Nat) (l1 : List Rec) (b2 o2 m2 d2 : Nat) (l2 : List Rec) (b3 o3 m3 d3 : Nat) (l3 : List Rec) (w : World)
    (s1 : Sr w w.heap.size (some ⟨b1, o1, none⟩) m1 l1) (z1 : m1 ≤ 400000000) (s2 : Sr w w.heap.size (some ⟨b2, o2, none⟩) m2 l2) (z2 : m2 ≤ 400000000) (s3 : Sr w w.heap.size (some ⟨b3, o3, none⟩) m3 l3) (z3 : m3 ≤ 400000000) :
    Calls Tryz.prog 30 #[.agg #[.int .i64 h.id, .bool h.rp, .bool h.au, .bool h.ct, .bool h.wa, .bool h.ca, .int .i64 h.code, .string h.qn, .int .i64 h.qt, .slice A1 n1 c1, .slice A2 n2 c2, .slice A3 n3 c3], .int .i64 code, .bool au, .slice (some ⟨b1, o1, none⟩) m1 d1, .slice (some ⟨b2, o2, none⟩) m2 d2, .slice (some ⟨b3, o3, none⟩) m3 d3] w (GivesM w (rph h code au) m1 m2 m3 l1 l2 l3) := by
  have C1 : Hid (∀ W : World, ((W.cell? ⟨w.heap.size, 0, none⟩ = some (.int .i64 h.id) ∧ W.cell? ⟨w.heap.size, 4, none⟩ = some (.bool h.wa) ∧ W.cell? ⟨w.heap.size, 7, none⟩ = some (.string h.qn) ∧ W.cell? ⟨w.heap.size, 8, none⟩ = some (.int .i64 h.qt)) ∧ RB W (w.heap.size + 1) ∧ Sv w W) → Calls Tryz.prog 59 #[.slice (some ⟨b1, o1, none⟩) m1 d1] W (GivesC W m1 l1)) := fun W hW => copyS b1 o1 m1 d1 l1 W (s1.on hW.2.2) z1
  have C2 : Hid (∀ W : World, ((W.cell? ⟨w.heap.size, 0, none⟩ = some (.int .i64 h.id) ∧ W.cell? ⟨w.heap.size, 4, none⟩ = some (.bool h.wa) ∧ W.cell? ⟨w.heap.size, 7, none⟩ = some (.string h.qn) ∧ W.cell? ⟨w.heap.size, 8, none⟩ = some (.int .i64 h.qt)) ∧ RB W (w.heap.size + 1) ∧ Sv w W) → Calls Tryz.prog 59 #[.slice (some ⟨b2, o2, none⟩) m2 d2] W (GivesC W m2 l2)) := fun W hW => copyS b2 o2 m2 d2 l2 W (s2.on hW.2.2) z2
  have C3 : Hid (∀ W : World, ((W.cell? ⟨w.heap.size, 0, none⟩ = some (.int .i64 h.id) ∧ W.cell? ⟨w.heap.size, 4, none⟩ = some (.bool h.wa) ∧ W.cell? ⟨w.heap.size, 7, none⟩ = some (.string h.qn) ∧ W.cell? ⟨w.heap.size, 8, none⟩ = some (.int .i64 h.qt)) ∧ RB W (w.heap.size + 1) ∧ Sv w W) → Calls Tryz.prog 59 #[.slice (some ⟨b3, o3, none⟩) m3 d3] W (GivesC W m3 l3)) := fun W hW => copyS b3 o3 m3 d3 l3 W (s3.on hW.2.2) z3
  have X0 := Lib.hid ((mx_new w 32 h (.slice A1 n1 c1) (.slice A2 n2 c2) (.slice A3 n3 c3)).alloc (.cells #[.int .i64 0, .bool false, .bool false, .bool false, .bool false, .bool false, .int .i64 0, .string ⟨#[]⟩, .int .i64 0, .slice none 0 0, .slice none 0 0, .slice none 0 0] 32))
  have R0 := Lib.hid (at2 (w := w) (a := .cells #[.int .i64 h.id, .bool h.rp, .bool h.au, .bool h.ct, .bool h.wa, .bool h.ca, .int .i64 h.code, .string h.qn, .int .i64 h.qt, .slice A1 n1 c1, .slice A2 n2 c2, .slice A3 n3 c3] 32) (cs := #[.int .i64 0, .bool false, .bool false, .bool false, .bool false, .bool false, .int .i64 0, .string ⟨#[]⟩, .int .i64 0, .slice none 0 0, .slice none 0 0, .slice none 0 0]) (t := 32))
  have L0 := Lib.hid (((Below.refl w.heap.size w).alloc (Nat.le_refl _) (.cells #[.int .i64 h.id, .bool h.rp, .bool h.au, .bool h.ct, .bool h.wa, .bool h.ca, .int .i64 h.code, .string h.qn, .int .i64 h.qt, .slice A1 n1 c1, .slice A2 n2 c2, .slice A3 n3 c3] 32)).alloc (by simp) (.cells #[.int .i64 0, .bool false, .bool false, .bool false, .bool false, .bool false, .int .i64 0, .string ⟨#[]⟩, .int .i64 0, .slice none 0 0, .slice none 0 0, .slice none 0 0] 32))
  have S0 : (((w.alloc (.cells #[.int .i64 h.id, .bool h.rp, .bool h.au, .bool h.ct, .bool h.wa, .bool h.ca, .int .i64 h.code, .string h.qn, .int .i64 h.qt, .slice A1 n1 c1, .slice A2 n2 c2, .slice A3 n3 c3] 32)).alloc (.cells #[.int .i64 0, .bool false, .bool false, .bool false, .bool false, .bool false, .int .i64 0, .string ⟨#[]⟩, .int .i64 0, .slice none 0 0, .slice none 0 0, .slice none 0 0] 32)).cell? ⟨w.heap.size, 0, none⟩ = some (.int .i64 h.id) ∧ ((w.alloc (.cells #[.int .i64 h.id, .bool h.rp, .bool h.au, .bool h.ct, .bool h.wa, .bool h.ca, .int .i64 h.code, .string h.qn, .int .i64 h.qt, .slice A1 n1 c1, .slice A2 n2 c2, .slice A3 n3 c3] 32)).alloc (.cells #[.int .i64 0, .bool false, .bool false, .bool false, .bool false, .bool false, .int .i64 0, .string ⟨#[]⟩, .int .i64 0, .slice none 0 0, .slice none 0 0, .slice none 0 0] 32)).cell? ⟨w.heap.size, 4, none⟩ = some (.bool h.wa) ∧ ((w.alloc (.cells #[.int .i64 h.id, .bool h.rp, .bool h.au, .bool h.ct, .bool h.wa, .bool h.ca, .int .i64 h.code, .string h.qn, .int .i64 h.qt, .slice A1 n1 c1, .slice A2 n2 c2, .slice A3 n3 c3] 32)).alloc (.cells #[.int .i64 0, .bool false, .bool false, .bool false, .bool false, .bool false, .int .i64 0, .string ⟨#[]⟩, .int .i64 0, .slice none 0 0, .slice none 0 0, .slice none 0 0] 32)).cell? ⟨w.heap.size, 7, none⟩ = some (.string h.qn) ∧ ((w.alloc (.cells #[.int .i64 h.id, .bool h.rp, .bool h.au, .bool h.ct, .bool h.wa, .bool h.ca, .int .i64 h.code, .string h.qn, .int .i64 h.qt, .slice A1 n1 c1, .slice A2 n2 c2, .slice A3 n3 c3] 32)).alloc (.cells #[.int .i64 0, .bool false, .bool false, .bool false, .bool false, .bool false, .int .i64 0, .string ⟨#[]⟩, .int .i64 0, .slice none 0 0, .slice none 0 0, .slice none 0 0] 32)).cell? ⟨w.heap.size, 8, none⟩ = some (.int .i64 h.qt)) ∧ RB ((w.alloc (.cells #[.int .i64 h.id, .bool h.rp, .bool h.au, .bool h.ct, .bool h.wa, .bool h.ca, .int .i64 h.code, .string h.qn, .int .i64 h.qt, .slice A1 n1 c1, .slice A2 n2 c2, .slice A3 n3 c3] 32)).alloc (.cells #[.int .i64 0, .bool false, .bool false, .bool false, .bool false, .bool false, .int .i64 0, .string ⟨#[]⟩, .int .i64 0, .slice none 0 0, .slice none 0 0, .slice none 0 0] 32)) (w.heap.size + 1) ∧ Sv w ((w.alloc (.cells #[.int .i64 h.id, .bool h.rp, .bool h.au, .bool h.ct, .bool h.wa, .bool h.ca, .int .i64 h.code, .string h.qn, .int .i64 h.qt, .slice A1 n1 c1, .slice A2 n2 c2, .slice A3 n3 c3] 32)).alloc (.cells #[.int .i64 0, .bool false, .bool false, .bool false, .bool false, .bool false, .int .i64 0, .string ⟨#[]⟩, .int .i64 0, .slice none 0 0, .slice none 0 0, .slice none 0 0] 32)) :=
    ⟨⟨X0.out.1, X0.out.2.2.2.2.1, X0.out.2.2.2.2.2.2.2.1, X0.out.2.2.2.2.2.2.2.2.1⟩, ⟨_, rfl, R0.out⟩, L0.out⟩
  clear s1 s2 s3
  generalize hW0 : ((w.alloc (.cells #[.int .i64 h.id, .bool h.rp, .bool h.au, .bool h.ct, .bool h.wa, .bool h.ca, .int .i64 h.code, .string h.qn, .int .i64 h.qt, .slice A1 n1 c1, .slice A2 n2 c2, .slice A3 n3 c3] 32)).alloc (.cells #[.int .i64 0, .bool false, .bool false, .bool false, .bool false, .bool false, .int .i64 0, .string ⟨#[]⟩, .int .i64 0, .slice none 0 0, .slice none 0 0, .slice none 0 0] 32)) = W0 at S0 R0 X0 L0
  go_enter Tryz.func30, Tryz.ntmps30
  go_wp2
  go_region_held3 (fun w' => (w'.cell? ⟨w.heap.size, 0, none⟩ = some (.int .i64 h.id) ∧ w'.cell? ⟨w.heap.size, 4, none⟩ = some (.bool h.wa) ∧ w'.cell? ⟨w.heap.size, 7, none⟩ = some (.string h.qn) ∧ w'.cell? ⟨w.heap.size, 8, none⟩ = some (.int .i64 h.qt)) ∧ RB w' (w.heap.size + 1) ∧ Sv w w')
    (first | with_reducible exact keptR_fil (w1 := w13) (by assumption) _ _ _ _ _ _ _ _ _ _ _ _ | with_reducible exact S0 | with_reducible assumption | with_reducible exact keptR (by assumption) hl | with_reducible exact keptR_draw (by assumption) | fail)
    (first
      | (go_at_call 59; (with_reducible refine (C1.out _ (by assumption)).mono ?_); rintro e w11 ⟨g1, e1, r1, rfl, -, hg1, hb1, hl⟩; have y1 := hl)
      | (go_at_call 59; (with_reducible refine (C2.out _ (by assumption)).mono ?_); rintro e w12 ⟨g2, e2, r2, rfl, -, hg2, hb2, hl⟩; have y2 := hl)
      | (go_at_call 59; (with_reducible refine (C3.out _ (by assumption)).mono ?_); rintro e w13 ⟨g3, e3, r3, rfl, -, hg3, hb3, hl⟩; have y3 := hl; have HR := (keptR (h := h) (by assumption) hl).2.1; have p0 := HR.cell 0 (by decide); have f0 := HR.free 0; have p1 := HR.cell 1 (by decide); have f1 := HR.free 1; have p2 := HR.cell 2 (by decide); have f2 := HR.free 2; have p3 := HR.cell 3 (by decide); have f3 := HR.free 3; have p4 := HR.cell 4 (by decide); have f4 := HR.free 4; have p5 := HR.cell 5 (by decide); have f5 := HR.free 5; have p6 := HR.cell 6 (by decide); have f6 := HR.free 6; have p7 := HR.cell 7 (by decide); have f7 := HR.free 7; have p8 := HR.cell 8 (by decide); have f8 := HR.free 8; have p9 := HR.cell 9 (by decide); have f9 := HR.free 9; have p10 := HR.cell 10 (by decide); have f10 := HR.free 10; have p11 := HR.cell 11 (by decide); have f11 := HR.free 11; clear HR)
      | fail)
  rename_i hH
  have a0 : Below w.heap.size w W0.drew := L0.out.drew
  have a1 := a0.trans (y1.mono a0.size)
  have a2 := a1.trans (y2.mono a1.size)
  have a3 := a2.trans (y3.mono a2.size)
  have RA : Bk w13 (w.heap.size + 1) 32 (mc zh (.slice none 0 0) (.slice none 0 0) (.slice none 0 0)) := by
    have b0 : Bk W0.drew (w.heap.size + 1) 32 (mc zh (.slice none 0 0) (.slice none 0 0) (.slice none 0 0)) := R0.out
    have b1 := b0.below y1 b0.lt
    have b2 := b1.below y2 b1.lt
    exact b2.below y3 b2.lt
  have n1 : w.heap.size + 1 < g1 := Nat.lt_of_lt_of_le R0.out.lt hg1
  have n2 : g1 < g2 := Nat.lt_of_lt_of_le hb1.lt hg2
  have n3 : g2 < g3 := Nat.lt_of_lt_of_le hb2.lt hg3
  have B1 := hb1.below y2 hb1.lt
  have F := Lib.hid (filM_bk RA (rph h code au) (.slice (some ⟨g1, 0, none⟩) m1 e1) (.slice (some ⟨g2, 0, none⟩) m2 e2) (.slice (some ⟨g3, 0, none⟩) m3 e3))
  have E := Lib.hid (filM_below a3 (g := w.heap.size + 1) (by omega) (rph h code au) (.slice (some ⟨g1, 0, none⟩) m1 e1) (.slice (some ⟨g2, 0, none⟩) m2 e2) (.slice (some ⟨g3, 0, none⟩) m3 e3))
  have I1 := Lib.hid (filM_other (B1.below y3 B1.lt) (g := w.heap.size + 1) (by omega) (rph h code au) (.slice (some ⟨g1, 0, none⟩) m1 e1) (.slice (some ⟨g2, 0, none⟩) m2 e2) (.slice (some ⟨g3, 0, none⟩) m3 e3))
  have I2 := Lib.hid (filM_other (hb2.below y3 hb2.lt) (g := w.heap.size + 1) (by omega) (rph h code au) (.slice (some ⟨g1, 0, none⟩) m1 e1) (.slice (some ⟨g2, 0, none⟩) m2 e2) (.slice (some ⟨g3, 0, none⟩) m3 e3))
  have I3 := Lib.hid (filM_other hb3 (g := w.heap.size + 1) (by omega) (rph h code au) (.slice (some ⟨g1, 0, none⟩) m1 e1) (.slice (some ⟨g2, 0, none⟩) m2 e2) (.slice (some ⟨g3, 0, none⟩) m3 e3))
  clear hH S0 R0 X0 L0 C1 C2 C3 a0 a1 a2 a3 RA B1 hb1 hb2 hb3 hg1 hg2 hg3 y1 y2 y3 hl hW0 p0 f0 p1 f1 p2 f2 p3 f3 p4 f4 p5 f5 p6 f6 p7 f7 p8 f8 p9 f9 p10 f10 p11 f11
  go_wp2
  exact bodyPost_ret (v := .agg #[.int .i64 (rph h code au).id, .bool (rph h code au).rp, .bool (rph h code au).au, .bool (rph h code au).ct, .bool (rph h code au).wa, .bool (rph h code au).ca, .int .i64 (rph h code au).code, .string (rph h code au).qn, .int .i64 (rph h code au).qt, .slice (some ⟨g1, 0, none⟩) m1 e1, .slice (some ⟨g2, 0, none⟩) m2 e2, .slice (some ⟨g3, 0, none⟩) m3 e3]) (res1M rfl F.out rfl) rfl ⟨g1, e1, r1, g2, e2, r2, g3, e3, r3, rfl, I1.out, I2.out, I3.out, by omega, n2, n3, E.out⟩

end Go.Proofs.YtmabbeefeipnaaaGreatDoor.RepM
