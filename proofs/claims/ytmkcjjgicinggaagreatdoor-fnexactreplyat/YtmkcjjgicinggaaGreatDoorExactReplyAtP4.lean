/- What SetOf does in the model: the records of a name and a type, in order. Condition: fewer than 400000001 records. -/
import Derived.Test.YtmkcjjgicinggaaGreatDoorExactReplyAtP1
import Derived.Test.YtmkcjjgicinggaaGreatDoorExactReplyAtP3
import Derived.Test.YtmkcjjgicinggaaGreatDoorResR
import Derived.Test.YtmkcjjgicinggaaGreatDoorExactReplyAtP2
import Derived.Deep.QuietTactic
import Derived.BigQuiet
import Derived.Test.YtmkcjjgicinggaaGreatDoorMemZ
/- What WithTtl does in the program and in the model: a new slice with the same records, their times to live all replaced. Condition: fewer than 400000001 records. -/
namespace Go.Proofs.YtmkcjjgicinggaaGreatDoor.Wt
open Go.RowKit Go.Proofs.YtmkcjjgicinggaaGreatDoor.Mem Go.Proofs.YtmkcjjgicinggaaGreatDoor.MemR Go.Proofs.YtmkcjjgicinggaaGreatDoor.SetMath Go.Proofs.YtmkcjjgicinggaaGreatDoor.CpyR

/-- The call returned a new slice that reads as the records l (room behind it let in), and turned nothing that was there. -/
def GivesL (w : World) (l : List Rec) (e : Ending) (w' : World) : Prop :=
  ∃ g m c r, e = .returned (.slice (some ⟨g, 0, none⟩) m c) ∧ l.length = m ∧ m ≤ c ∧ w.heap.size ≤ g ∧ Bk w' g 93 (fl l ++ r) ∧ Below w.heap.size w w'

theorem put_ttl (t : Int) (l : List Rec) (v : List Value) (k : Nat) (h : k < l.length) : (fl ((l.take k).map (wr t) ++ l.drop k) ++ v).set (k * 6 + 2) (.int .i64 t) = fl ((l.take (k + 1)).map (wr t) ++ l.drop (k + 1)) ++ v := by
  obtain ⟨h', e⟩ := wr_at t l k h
  rw [List.set_append_left _ _ (by rw [fl_len]; omega), fl_set _ k 2 (.int .i64 t) h' (by rw [e]; rfl) (by omega), e]
  have hp : put l[k] 2 (.int .i64 t) = wr t l[k] := rfl
  rw [hp, wr_set t l k h]

theorem below_set {w w' : World} {g j : Nat} (h : Below w.heap.size w w') (hg : w.heap.size ≤ g) (u : Value) : Below w.heap.size w (w'.setCell ⟨g, j, none⟩ u) := h.setCell hg u

set_option maxHeartbeats 2000000 in
theorem impl (t : Int) (b off n c : Nat) (l : List Rec) (w : World) (hs : Sr w w.heap.size (some ⟨b, off, none⟩) n l) (hn : n ≤ 400000000) : Calls Tryz.prog 216 #[.slice (some ⟨b, off, none⟩) n c, .int .i64 t] w (GivesL w (l.map (wr t))) := by
  have HN := Lib.hid hs.1
  have C := Lib.hid (copyI b off n c l w hs hn)
  clear hs
  go_enter Tryz.func216, Tryz.ntmps216
  go_wp2_with fail
  refine C.out.mono ?_
  rintro e w1 ⟨g, cp, r, rfl, hcap, hg, hb, hl⟩
  have B1 := Lib.hid hb
  have L1 := Lib.hid hl
  have G1 := Lib.hid hg
  clear hb hl hg C
  go_wp2
  go_loopw [11] (fun i wr' => ∃ k : Nat, k ≤ n ∧ i = .int .i64 k ∧ Hid (Bk wr' g 93 (fl ((l.take k).map (wr t) ++ l.drop k) ++ r)) ∧ Hid (Below w.heap.size w wr')) (fun i _ => n - (intOf i).toNat)
  case atStart => exact ⟨0, Nat.zero_le _, rfl, by simpa [Hid] using B1.out, L1.out⟩
  case round =>
    clear B1 L1
    obtain ⟨k, hk, rfl, HB, HL⟩ := hrel
    by_cases hlt : k < n
    · have hkl : k < l.length := by rw [HN.out]; exact hlt
      have HP := Lib.hid (put_ttl t l r k hkl)
      obtain ⟨h', e⟩ := wr_at t l k hkl
      have z2 := (bk_ce HB.out k h').2.2.1
      have f2 := HB.out.free (k * 6 + 2)
      clear e
      go_wp2
      go_roundw
      case rel =>
        refine ⟨k + 1, by omega, by go_num, ?_, ?_⟩
        · show Bk _ _ _ _
          rw [← HP.out]
          exact HB.out.set (k * 6 + 2) (.int .i64 t)
        · exact HL.out.setCell G1.out _
      case measure => simp [intOf]; omega
    · obtain rfl : n = k := by omega
      go_wp2
      go_ret
      refine ⟨g, n, cp, r, rfl, by rw [List.length_map, HN.out], hcap, G1.out, ?_, HL.out⟩
      have := HB.out
      rw [take_all HN.out, List.drop_eq_nil_of_le (by rw [HN.out]; exact Nat.le_refl _), List.append_nil] at this
      exact this
end Go.Proofs.YtmkcjjgicinggaaGreatDoor.Wt

/- A content that a call gives back lies in a box of its own, made first and filled at the return: what the box reads as, and what the result is; a section, perhaps nil. -/
namespace Go.Proofs.YtmkcjjgicinggaaGreatDoor.ResC
open Go.RowKit Go.Proofs.YtmkcjjgicinggaaGreatDoor.Mem Go.Proofs.YtmkcjjgicinggaaGreatDoor.MemR Go.Proofs.YtmkcjjgicinggaaGreatDoor.ResR Go.Proofs.YtmkcjjgicinggaaGreatDoor.ServeMath Go.Proofs.YtmkcjjgicinggaaGreatDoor.Wt

/-- A content as cells. -/
def cc (d : Int) (a : Bool) (x y z : Value) : List Value := [.int .i64 d, .bool a, x, y, z]

/-- The box g filled with a content. -/
def filC (w : World) (g : Nat) (d : Int) (a : Bool) (x y z : Value) : World := ((((w.setCell ⟨g, 0, none⟩ (.int .i64 d)).setCell ⟨g, 1, none⟩ (.bool a)).setCell ⟨g, 2, none⟩ (x)).setCell ⟨g, 3, none⟩ (y)).setCell ⟨g, 4, none⟩ (z)

section
variable {w w1 : World} {g B : Nat} {t : TypeId} {d d0 : Int} {a a0 : Bool} {x y z x0 y0 z0 : Value}

theorem filC_bk (k : Bk w g t (cc d0 a0 x0 y0 z0)) (d : Int) (a : Bool) (x y z : Value) : Bk (filC w g d a x y z) g t (cc d a x y z) := (((((k.set 0 (.int .i64 d)).set 1 (.bool a)).set 2 (x)).set 3 (y)).set 4 (z))

theorem filC_below (k : Below B w w1) (hg : B ≤ g) (d : Int) (a : Bool) (x y z : Value) : Below B w (filC w1 g d a x y z) := (((((k.setCell (p := ⟨g, 0, none⟩) hg (.int .i64 d)).setCell (p := ⟨g, 1, none⟩) hg (.bool a)).setCell (p := ⟨g, 2, none⟩) hg (x)).setCell (p := ⟨g, 3, none⟩) hg (y)).setCell (p := ⟨g, 4, none⟩) hg (z))

theorem filC_other {j : Nat} {u : TypeId} {cs : List Value} (k : Bk w j u cs) (hk : j ≠ g) (d : Int) (a : Bool) (x y z : Value) : Bk (filC w g d a x y z) j u cs := (((((k.other (p := ⟨g, 0, none⟩) hk (.int .i64 d)).other (p := ⟨g, 1, none⟩) hk (.bool a)).other (p := ⟨g, 2, none⟩) hk (x)).other (p := ⟨g, 3, none⟩) hk (y)).other (p := ⟨g, 4, none⟩) hk (z))
end

theorem load_con {w : World} {g : Nat} {t : TypeId} {d : Int} {a : Bool} {A1 A2 A3 : Option Addr} {n1 c1 n2 c2 n3 c3 : Nat} (k : Bk w g t (cc d a (.slice A1 n1 c1) (.slice A2 n2 c2) (.slice A3 n3 c3))) :
    (loadVar 148 ⟨g, 0, none⟩).run Tryz.prog w = .ok (.agg #[.int .i64 d, .bool a, .slice A1 n1 c1, .slice A2 n2 c2, .slice A3 n3 c3]) w := by
  have e0 : w.cell? ⟨g, 0, none⟩ = some (.int .i64 d) := k.cell 0
  have e1 : w.cell? ⟨g, 1, none⟩ = some (.bool a) := k.cell 1
  have e2 : w.cell? ⟨g, 2, none⟩ = some (.slice A1 n1 c1) := k.cell 2
  have e3 : w.cell? ⟨g, 3, none⟩ = some (.slice A2 n2 c2) := k.cell 3
  have e4 : w.cell? ⟨g, 4, none⟩ = some (.slice A3 n3 c3) := k.cell 4
  simp [go_sem, e0, e1, e2, e3, e4]

theorem res1C {fn : Func} {p : Tmp} {w : World} {g : Nat} {t : TypeId} {d : Int} {a : Bool} {A1 A2 A3 : Option Addr} {n1 c1 n2 c2 n3 c3 : Nat} {tmps : Array Value} (hf : fn.results = #[.cell p 148])
    (k : Bk w g t (cc d a (.slice A1 n1 c1) (.slice A2 n2 c2) (.slice A3 n3 c3))) (h4 : tmps.getD p undef = .pointer (some ⟨g, 0, none⟩)) :
    (results fn tmps).run Tryz.prog w = .ok (.agg #[.int .i64 d, .bool a, .slice A1 n1 c1, .slice A2 n2 c2, .slice A3 n3 c3]) w := by
  rw [results_cell hf, h4, as_addr]
  simp only [Result.andThen, load_con k]

/-- A section: nil, or a new block that reads as the records (room behind them let in). -/
def Sec (B : Nat) (w : World) (A : Option Addr) (m c : Nat) (L : List Rec) : Prop :=
  (A = none ∧ m = 0 ∧ c = 0 ∧ L = []) ∨ ∃ g r, A = some ⟨g, 0, none⟩ ∧ L.length = m ∧ m ≤ c ∧ B ≤ g ∧ Bk w g 93 (fl L ++ r)

theorem Sec.nil {B : Nat} {w : World} : Sec B w none 0 0 [] := .inl ⟨rfl, rfl, rfl, rfl⟩

theorem Sec.below {B : Nat} {w w' : World} {A : Option Addr} {m c : Nat} {L : List Rec} (h : Sec B w A m c L) (hb : Below w.heap.size w w') : Sec B w' A m c L := by
  rcases h with h | ⟨g, r, h1, h2, h3, h4, h5⟩
  · exact .inl h
  · exact .inr ⟨g, r, h1, h2, h3, h4, h5.below hb h5.lt⟩

theorem Sec.low {B B' : Nat} {w : World} {A : Option Addr} {m c : Nat} {L : List Rec} (h : Sec B w A m c L) (hb : B' ≤ B) : Sec B' w A m c L := by
  rcases h with h | ⟨g, r, h1, h2, h3, h4, h5⟩
  · exact .inl h
  · exact .inr ⟨g, r, h1, h2, h3, Nat.le_trans hb h4, h5⟩

theorem Sec.fil {B : Nat} {w : World} {A : Option Addr} {m c : Nat} {L : List Rec} (h : Sec B w A m c L) {g : Nat} (hg : g < B) (d : Int) (a : Bool) (x y z : Value) : Sec B (filC w g d a x y z) A m c L := by
  rcases h with h | ⟨k, r, h1, h2, h3, h4, h5⟩
  · exact .inl h
  · exact .inr ⟨k, r, h1, h2, h3, h4, filC_other h5 (by omega) d a x y z⟩

theorem Sec.len {B : Nat} {w : World} {A : Option Addr} {m c : Nat} {L : List Rec} (h : Sec B w A m c L) : L.length = m := by
  rcases h with ⟨_, h, _, rfl⟩ | ⟨g, r, _, h2, _⟩
  · exact h.symm
  · exact h2

theorem Sec.cap {B : Nat} {w : World} {A : Option Addr} {m c : Nat} {L : List Rec} (h : Sec B w A m c L) : m ≤ c := by
  rcases h with ⟨_, h, h', _⟩ | ⟨g, r, _, _, h3, _⟩
  · omega
  · exact h3

theorem Sec.sr {B : Nat} {w : World} {A : Option Addr} {m c : Nat} {L : List Rec} (h : Sec B w A m c L) : Sr w w.heap.size A m L := by
  rcases h with ⟨rfl, rfl, _, rfl⟩ | ⟨g, r, rfl, h2, _, _, h5⟩
  · exact Sr.nil
  · exact bk_sr h5 h2

/-- The call returned a content with this code, flag and sections, and turned nothing that was there. -/
def GivesK (w : World) (d : Int) (a : Bool) (L1 L2 L3 : List Rec) (e : Ending) (w' : World) : Prop :=
  ∃ A1 m1 c1 A2 m2 c2 A3 m3 c3, e = .returned (.agg #[.int .i64 d, .bool a, .slice A1 m1 c1, .slice A2 m2 c2, .slice A3 m3 c3]) ∧ Sec w.heap.size w' A1 m1 c1 L1 ∧ Sec w.heap.size w' A2 m2 c2 L2 ∧ Sec w.heap.size w' A3 m3 c3 L3 ∧ Below w.heap.size w w'

end Go.Proofs.YtmkcjjgicinggaaGreatDoor.ResC

/- What the model's Under does: it tells whether the labels of its second text end those of its first. Condition: at most 400000000 bytes each. -/
namespace Go.Proofs.YtmkcjjgicinggaaGreatDoor.Under
open Go.RowKit Go.Proofs.YtmkcjjgicinggaaGreatDoor.Mem Go.Proofs.YtmkcjjgicinggaaGreatDoor.MemS Go.Proofs.YtmkcjjgicinggaaGreatDoor.AppS Go.Proofs.YtmkcjjgicinggaaGreatDoor.Split Go.Proofs.YtmkcjjgicinggaaGreatDoor.NameMath

set_option maxHeartbeats 2000000 in
theorem spec (a b : ByteArray) (w : World) (ha : a.size ≤ 400000000) (hb : b.size ≤ 400000000) : Calls Tryz.prog 79 #[.string a, .string b] w fun e w' => e = .returned (.bool (Un a b)) ∧ Below w.heap.size w w' := by
  have SA := Lib.hid (fun w => Labels.spec a w ha)
  have SB := Lib.hid (fun w => Labels.spec b w hb)
  have hla := lab_len a
  have hlb := lab_len b
  have HU : Hid (Un a b = pfx (Lab b).reverse (Lab a).reverse) := rfl
  generalize Un a b = U at *
  generalize Lab a = X at *
  generalize Lab b = Y at *
  have HX : Hid (X.length ≤ 400000001) := by show _ ≤ _; omega
  have HY : Hid (Y.length ≤ 400000001) := by show _ ≤ _; omega
  clear hla hlb ha hb
  go_enter Tryz.func79, Tryz.ntmps79
  go_wp2_with fail
  refine (SA.out w).mono ?_
  rintro e w1 ⟨gx, n, cx, rx, rfl, hm, hcx, hg, hk, hl⟩
  have hn : n ≤ 400000001 := by have := HX.out; omega
  have NX := Lib.hid hm
  have X1 := Lib.hid hk
  have L1 := Lib.hid hl
  clear hm hg hk hl HX
  go_wp2_with fail
  refine (SB.out w1).mono ?_
  rintro e w2 ⟨gy, m, cy, ry, rfl, hm, hcy, hg, hk, hl⟩
  have hm' : m ≤ 400000001 := by have := HY.out; omega
  have NY := Lib.hid hm
  have Y2 := Lib.hid hk
  have X2 := Lib.hid (X1.out.below hl X1.out.lt)
  have L2 := Lib.hid (L1.out.trans (hl.mono L1.out.size))
  clear hm hg hk hl HY X1 L1
  by_cases hlen : n < m
  · have HF := Lib.hid (HU.out.trans (pfx_long (by rw [List.length_reverse, List.length_reverse, NX.out, NY.out]; exact hlen)))
    go_wp2
    go_ret
    rw [HF.out]
    exact ⟨rfl, L2.out⟩
  · have hlen' : ¬ (n : Int) < (m : Int) := by omega
    go_wp2
    go_loopw [7] (fun i wr => ∃ k : Nat, k ≤ m ∧ i = .int .i64 (k + 1) ∧ Hid (U = pfx (Y.reverse.drop k) (X.reverse.drop k)) ∧ Hid (Bk wr gx 9 (X.map tv ++ rx)) ∧ Hid (Bk wr gy 9 (Y.map tv ++ ry)) ∧ Hid (Below w.heap.size w wr)) (fun i _ => m + 1 - (intOf i).toNat)
    case atStart => exact ⟨0, Nat.zero_le _, rfl, HU.out, X2.out, Y2.out, L2.out⟩
    case round =>
      clear X2 Y2 L2 HU
      obtain ⟨k, hk, rfl, HU, XR, YR, LR⟩ := hrel
      by_cases hlt : k < m
      · obtain ⟨jx, hjx⟩ : ∃ j, j + k + 1 = n := ⟨n - k - 1, by omega⟩
        obtain ⟨jy, hjy⟩ : ∃ j, j + k + 1 = m := ⟨m - k - 1, by omega⟩
        have EX := rev_drop X jx k (by rw [NX.out]; exact hjx)
        have EY := rev_drop Y jy k (by rw [NY.out]; exact hjy)
        have hcx' : wr.cell? ⟨gx, jx, none⟩ = some (.string (X[jx]'(by rw [NX.out]; omega))) := by
          rw [XR.out.cell, List.getElem?_append_left (by rw [List.length_map, NX.out]; omega), tv_get]
        have hcy' : wr.cell? ⟨gy, jy, none⟩ = some (.string (Y[jy]'(by rw [NY.out]; omega))) := by
          rw [YR.out.cell, List.getElem?_append_left (by rw [List.length_map, NY.out]; omega), tv_get]
        have HR := HU.out
        rw [EX, EY, pfx] at HR
        clear EX EY
        generalize X[jx]'(by rw [NX.out]; omega) = p at *
        generalize Y[jy]'(by rw [NY.out]; omega) = q at *
        have HR' := Lib.hid HR
        clear HR HU
        have hsx : (n : Int) - ((k : Int) + 1) = (jx : Int) := by omega
        have hsy : (m : Int) - ((k : Int) + 1) = (jy : Int) := by omega
        cases hq : (p.data.toList == q.data.toList) with
        | true =>
          have HN : Hid (U = pfx (Y.reverse.drop (k + 1)) (X.reverse.drop (k + 1))) := by
            show _ = _
            rw [HR'.out, hq]
            rfl
          have hq2 : (!(p.toList == q.toList)) = false := by rw [ByteArray.toList_eq, ByteArray.toList_eq, hq]; rfl
          clear HR' hq
          go_wp2
          go_quiet (fail)
          go_wp2
          go_roundw
          case rel => exact ⟨k + 1, by omega, by go_num, HN.out, XR.out, YR.out, (LR.out.trans (drewN_below _ _ _) : Below w.heap.size w (wr.drewN nq))⟩
          case measure => simp [intOf]; omega
        | false =>
          have HN : Hid (U = false) := by
            show _ = _
            rw [HR'.out, hq]
            rfl
          have hq2 : (!(p.toList == q.toList)) = true := by rw [ByteArray.toList_eq, ByteArray.toList_eq, hq]; rfl
          clear HR' hq
          go_wp2
          go_quiet (fail)
          go_wp2
          go_ret
          rw [HN.out]
          exact ⟨rfl, LR.out.trans (drewN_below _ _ _)⟩
      · have HN : Hid (U = true) := by
          show _ = _
          rw [HU.out, rev_end Y k (by rw [NY.out]; omega)]
          rfl
        go_wp2
        go_ret
        rw [HN.out]
        exact ⟨rfl, LR.out⟩
end Go.Proofs.YtmkcjjgicinggaaGreatDoor.Under

/- Plain facts: whether an element is in a list. -/
namespace Go.Proofs.YtmkcjjgicinggaaGreatDoor.Isin
open Go.Proofs.YtmkcjjgicinggaaGreatDoor.SetMath

/-- Whether x is in the list. -/
noncomputable def isin {α : Type} (l : List α) (x : α) : Bool := @decide (x ∈ l) (Classical.propDecidable _)

theorem isin_true {α : Type} {l : List α} {x : α} (h : x ∈ l) : isin l x = true := @decide_eq_true _ (Classical.propDecidable _) h

theorem isin_false {α : Type} {l : List α} {x : α} (h : x ∉ l) : isin l x = false := @decide_eq_false _ (Classical.propDecidable _) h

theorem not_zero {α : Type} (l : List α) (x : α) : x ∉ l.take 0 := by simp

theorem isin_at {α : Type} (l : List α) (x : α) (k : Nat) (h : k < l.length) : l[k] = x → isin l x = true := fun e => isin_true (e ▸ List.getElem_mem h)

theorem not_next {α : Type} (l : List α) (x : α) (k : Nat) (h : k < l.length) : x ∉ l.take k → ¬ l[k] = x → x ∉ l.take (k + 1) := by
  intro h1 h2
  rw [List.take_succ_eq_append_getElem h, List.mem_append, List.mem_singleton]
  exact fun h3 => h3.elim h1 (fun e => h2 e.symm)

theorem bytes_ne {a b : ByteArray} (h : ¬ a = b) : (a.toList == b.toList) = false := by
  cases e : (a.toList == b.toList) with
  | false => rfl
  | true =>
    have := eq_of_beq e
    rw [ByteArray.toList_eq, ByteArray.toList_eq] at this
    exact absurd (by cases a; cases b; congr; exact Array.toList_inj.1 this) h

end Go.Proofs.YtmkcjjgicinggaaGreatDoor.Isin

/- What Hosts does in the model. Condition: fewer than 400000001 records. -/
namespace Go.Proofs.YtmkcjjgicinggaaGreatDoor.HostS
open Go.RowKit Go.Proofs.YtmkcjjgicinggaaGreatDoor.Mem Go.Proofs.YtmkcjjgicinggaaGreatDoor.MemR Go.Proofs.YtmkcjjgicinggaaGreatDoor.SetMath Go.Proofs.YtmkcjjgicinggaaGreatDoor.Isin Go.Proofs.YtmkcjjgicinggaaGreatDoor.MemS Go.Proofs.YtmkcjjgicinggaaGreatDoor.AppS

theorem grown_of_below {w w' : World} (h : Below w.heap.size w w') (r : Option Nat) : w.grownBy w' r := ⟨h.os, h.tape, h.output, h.size, fun k hk _ => h.block k hk⟩

set_option maxHeartbeats 1000000 in
theorem has (A : Option Addr) (n c : Nat) (l : List ByteArray) (x : ByteArray) (w : World) (hs : Ss w w.heap.size A n l) (hn : n ≤ 400000000) :
    Calls Tryz.prog 127 #[.slice A n c, .string x] w fun e w' => e = .returned (.bool (isin l x)) ∧ Below w.heap.size w w' := by
  have HS := Lib.hid hs
  clear hs
  go_enter Tryz.func127, Tryz.ntmps127
  go_wp2
  go_loopw [5] (fun i wr => ∃ k : Nat, k ≤ n ∧ i = .int .i64 k ∧ Hid (x ∉ l.take k) ∧ Hid (Below w.heap.size w wr)) (fun i _ => n - (intOf i).toNat)
  case atStart => exact ⟨0, Nat.zero_le _, rfl, not_zero l x, Below.refl _ _⟩
  case round =>
    obtain ⟨k, hk, rfl, HX, HL⟩ := hrel
    by_cases hlt : k < n
    · obtain ⟨b, off, rfl, hbB, hcs⟩ := HS.out.2 (by omega)
      have hkl : k < l.length := by rw [HS.out.1]; exact hlt
      have e0 : wr.cell? ⟨b, off + k, none⟩ = some (.string l[k]) := (HL.out.cell (p := ⟨b, off + k, none⟩) hbB).trans (hcs k hkl)
      clear hcs
      have HI := Lib.hid (isin_at l x k hkl)
      have HO := Lib.hid (not_next l x k hkl)
      generalize l[k] = y at *
      by_cases hne : y = x
      · have HT := Lib.hid (HI.out hne)
        subst hne
        have q1 : (y.toList == y.toList) = true := by simp
        have q2 : (y.data.toList == y.data.toList) = true := by simp
        go_wp2
        go_ret
        exact ⟨by rw [HT.out]; rfl, HL.out⟩
      · have HN := Lib.hid (HO.out HX.out hne)
        have q1 : (y.toList == x.toList) = false := bytes_ne hne
        have q2 : (y.data.toList == x.data.toList) = false := by rw [← ByteArray.toList_eq, ← ByteArray.toList_eq]; exact q1
        clear hne
        go_wp2
        go_roundw
        case rel => exact ⟨k + 1, by omega, by go_num, HN.out, HL.out⟩
        case measure => simp [intOf]; omega
    · obtain rfl : n = k := by omega
      have HF : Hid (isin l x = false) := isin_false (by rw [take_all HS.out.1] at HX; exact HX.out)
      go_wp2
      go_ret
      exact ⟨by rw [HF.out]; rfl, HL.out⟩

set_option maxHeartbeats 4000000 in
theorem spec (b0 o0 n c : Nat) (l : List Rec) (w : World) (hs : Sr w w.heap.size (some ⟨b0, o0, none⟩) n l) (hn : n ≤ 400000000) : Calls Tryz.prog 131 #[.slice (some ⟨b0, o0, none⟩) n c] w (GivesS w (uq (hl l))) := by
  obtain ⟨i0, hi, hz0, hz1, hz2⟩ := info_parts info
  have HS := Lib.hid hs
  clear hs
  have P0 := Lib.hid (owns_new w)
  have L0 := Lib.hid ((Below.refl w.heap.size w).alloc (Nat.le_refl _) (.cells #[] 9))
  go_enter Tryz.func131, Tryz.ntmps131
  go_wp2
  generalize w.alloc (.cells #[] 9) = w0 at *
  go_loopw [3, 4] (fun out i wr => ∃ k g m cap : Nat, k ≤ n ∧ m ≤ k ∧ i = .int .i64 k ∧ out = .slice (some ⟨g, 0, none⟩) m cap ∧ Hid (wr.ownsRow w.heap.size 9 1 (.slice (some ⟨g, 0, none⟩) m cap) m ((uq (hl (l.take k))).map tv)) ∧ Hid (Below w.heap.size w wr)) (fun _ i _ => n - (intOf i).toNat)
  case atStart => exact ⟨0, w.heap.size, 0, 0, Nat.zero_le _, Nat.le_refl _, rfl, rfl, P0.out, L0.out⟩
  case round =>
    clear P0 L0
    obtain ⟨k, g, m, cap, hk, hm, rfl, rfl, HO, HL⟩ := hrel
    by_cases hlt : k < n
    · obtain ⟨b, off, hA, hbB, hcs⟩ := HS.out.2 (by omega)
      obtain ⟨rfl, rfl⟩ : b0 = b ∧ o0 = off := by simp at hA; exact hA
      clear hA
      have hkl : k < l.length := by rw [HS.out.1]; exact hlt
      obtain ⟨e0, e1, e2, e3, e4, e5⟩ := (hcs k hkl).below HL.out hbB
      clear hcs
      have HT := Lib.hid (hl_take l k hkl)
      generalize l[k] = r at *
      by_cases hty : ¬ r.ty = 2
      · have HA := Lib.hid (show uq (hl (l.take (k + 1))) = uq (hl (l.take k)) from by rw [HT.out, if_neg hty, List.append_nil])
        have t0 : (r.ty == 2) = false := by simpa using hty
        clear hty
        go_wp2
        go_roundw
        case rel => exact ⟨k + 1, g, m, cap, by omega, by omega, by go_num, rfl, by rw [HA.out]; exact HO.out, HL.out⟩
        case measure => simp [intOf]; omega
      replace hty : r.ty = 2 := Classical.not_not.1 hty
      have HU := Lib.hid (show uq (hl (l.take (k + 1))) = add (uq (hl (l.take k))) r.host from by rw [HT.out, if_pos hty, uq_snoc])
      have t0 : (r.ty == 2) = true := by simpa using hty
      clear hty
      have HZ : Hid ((uq (hl (l.take k))).length = m) := show _ = _ by have := HO.out.1; simpa using this
      have SS : Hid (∀ W : World, W.ownsRow w.heap.size 9 1 (.slice (some ⟨g, 0, none⟩) m cap) m ((uq (hl (l.take k))).map tv) → Calls Tryz.prog 127 #[.slice (some ⟨g, 0, none⟩) m cap, .string r.host] W fun e w' => e = .returned (.bool (isin (uq (hl (l.take k))) (r.host))) ∧ Below W.heap.size W w') :=
        fun W O => has _ m cap (uq (hl (l.take k))) (r.host) W (show Ss W W.heap.size (some ⟨g, 0, none⟩) m (uq (hl (l.take k))) from by obtain ⟨r', hb, _, _⟩ := bk_of_owns O; exact bk_ssw hb HZ.out) (by omega)
      go_wp2_with fail
      refine (SS.out _ HO.out).mono ?_
      rintro e w1 ⟨rfl, hl⟩
      have O1 := Lib.hid (HO.out.kept (grown_of_below hl none) (Or.inr (fun e => by cases e)))
      have L1 := Lib.hid (HL.out.trans (hl.mono HL.out.size))
      have C1 := (show Ce w1 b0 (o0 + k * 6) r from ⟨(hl.cell (p := ⟨b0, o0 + k * 6, none⟩) (Nat.lt_of_lt_of_le hbB HL.out.size)).trans e0, (hl.cell (p := ⟨b0, o0 + k * 6 + 1, none⟩) (Nat.lt_of_lt_of_le hbB HL.out.size)).trans e1, (hl.cell (p := ⟨b0, o0 + k * 6 + 2, none⟩) (Nat.lt_of_lt_of_le hbB HL.out.size)).trans e2, (hl.cell (p := ⟨b0, o0 + k * 6 + 3, none⟩) (Nat.lt_of_lt_of_le hbB HL.out.size)).trans e3, (hl.cell (p := ⟨b0, o0 + k * 6 + 4, none⟩) (Nat.lt_of_lt_of_le hbB HL.out.size)).trans e4, (hl.cell (p := ⟨b0, o0 + k * 6 + 5, none⟩) (Nat.lt_of_lt_of_le hbB HL.out.size)).trans e5⟩)
      clear hl e0 e1 e2 e3 e4 e5 SS
      obtain ⟨e0, e1, e2, e3, e4, e5⟩ := C1
      by_cases hin : r.host ∈ uq (hl (l.take k))
      · have HA := Lib.hid (HU.out.trans (add_in hin))
        have HB := Lib.hid (isin_true hin)
        clear hin
        rw [HB.out]
        go_wp2
        go_roundw
        case rel => exact ⟨k + 1, g, m, cap, by omega, by omega, by go_num, rfl, by rw [HA.out]; exact O1.out, L1.out⟩
        case measure => simp [intOf]; omega
      · have HA := Lib.hid (HU.out.trans (add_out hin))
        have HB := Lib.hid (isin_false hin)
        clear hin
        rw [HB.out]
        go_wp2_with (at_builtin; refine append_one (w := w1) rfl (.tmp 28) (.tmp 34) 39 rfl w.heap.size 9 i0 _ Tryz.underlying39 hi hz0 hz1 hz2 rfl g m cap (uq (hl (l.take k))) rfl O1.out r.host rfl (by omega) (by have h1 := O1.out.lt g rfl; omega) ?_)
        intro g' cap' w3 hown hgrow
        have O3 := Lib.hid hown
        have L3 := Lib.hid ((L1.out.alloc L1.out.size (.cells #[.string r.host] 9)).grown hgrow (Nat.le_trans L1.out.size (by simp)) (fun j hj => by cases hj; have h1 := O1.out.lt g rfl; omega))
        clear hown hgrow
        go_wp2
        go_roundw
        case rel => exact ⟨k + 1, g', m + 1, cap', by omega, by omega, by go_num, rfl, by rw [HA.out, List.map_append]; exact O3.out, L3.out⟩
        case measure => simp [intOf]; omega
    · obtain rfl : n = k := by omega
      have HN := Lib.hid (take_all HS.out.1)
      go_wp2
      go_ret
      have ho := HO.out
      rw [HN.out] at ho
      exact gives_of_owns ho HL.out
end Go.Proofs.YtmkcjjgicinggaaGreatDoor.HostS

/- What CutsOf does in the model: the names of the cuts, each once. Condition: fewer than 400000001 records, no name of more than 400000000 bytes. -/
namespace Go.Proofs.YtmkcjjgicinggaaGreatDoor.CutsS
open Go.RowKit Go.Proofs.YtmkcjjgicinggaaGreatDoor.Mem Go.Proofs.YtmkcjjgicinggaaGreatDoor.MemR Go.Proofs.YtmkcjjgicinggaaGreatDoor.BoxR Go.Proofs.YtmkcjjgicinggaaGreatDoor.SetMath Go.Proofs.YtmkcjjgicinggaaGreatDoor.NameMath Go.Proofs.YtmkcjjgicinggaaGreatDoor.ZoneMath Go.Proofs.YtmkcjjgicinggaaGreatDoor.MemZ Go.Proofs.YtmkcjjgicinggaaGreatDoor.Isin Go.Proofs.YtmkcjjgicinggaaGreatDoor.MemS Go.Proofs.YtmkcjjgicinggaaGreatDoor.AppS Go.Proofs.YtmkcjjgicinggaaGreatDoor.HostS

set_option maxHeartbeats 8000000 in
theorem spec (s : ByteArray) (b0 o0 n c : Nat) (l : List Rec) (w : World) (hs : Sr w w.heap.size (some ⟨b0, o0, none⟩) n l) (hn : n ≤ 400000000) (hm : s.size ≤ 400000000) (hz : ∀ r ∈ l, r.name.size ≤ 400000000) :
    Calls Tryz.prog 77 #[.agg #[.string s, .slice (some ⟨b0, o0, none⟩) n c]] w (GivesS w (uq (cn s l))) := by
  obtain ⟨i0, hi, hz0, hz1, hz2⟩ := info_parts info
  have Z0 := Lib.hid ((zx_new w 37 s (.slice (some ⟨b0, o0, none⟩) n c)).alloc (.cells #[] 9))
  have L0 := Lib.hid (((Below.refl w.heap.size w).alloc (Nat.le_refl _) (.cells #[.string s, .slice (some ⟨b0, o0, none⟩) n c] 37)).alloc (by simp) (.cells #[] 9))
  have P0 := Lib.hid (owns_new (w.alloc (.cells #[.string s, .slice (some ⟨b0, o0, none⟩) n c] 37)))
  rw [show (w.alloc (.cells #[.string s, .slice (some ⟨b0, o0, none⟩) n c] 37)).heap.size = w.heap.size + 1 by simp] at P0
  have HS := Lib.hid hs
  have HZ := Lib.hid hz
  clear hs hz
  go_enter Tryz.func77, Tryz.ntmps77
  go_wp2
  generalize (w.alloc (.cells #[.string s, .slice (some ⟨b0, o0, none⟩) n c] 37)).alloc (.cells #[] 9) = w0 at *
  go_loopw [3, 4] (fun out i wr => ∃ k g m cap : Nat, k ≤ n ∧ m ≤ k ∧ i = .int .i64 k ∧ out = .slice (some ⟨g, 0, none⟩) m cap ∧ Hid (wr.ownsRow (w.heap.size + 1) 9 1 (.slice (some ⟨g, 0, none⟩) m cap) m ((uq (cn s (l.take k))).map tv)) ∧ Hid (Zx wr w.heap.size s (.slice (some ⟨b0, o0, none⟩) n c)) ∧ Hid (Below w.heap.size w wr)) (fun _ i _ => n - (intOf i).toNat)
  case atStart => exact ⟨0, w.heap.size + 1, 0, 0, Nat.zero_le _, Nat.le_refl _, rfl, rfl, P0.out, Z0.out, L0.out⟩
  case round =>
    clear Z0 L0 P0
    obtain ⟨k, g, m, cap, hk, hm', rfl, rfl, HO, HX, HL⟩ := hrel
    obtain ⟨z0, z1⟩ := HX.out
    have ltz := HX.out.lt
    by_cases hlt : k < n
    · obtain ⟨b, off, hA, hbB, hcs⟩ := HS.out.2 (by omega)
      obtain ⟨rfl, rfl⟩ : b0 = b ∧ o0 = off := by simp at hA; exact hA
      clear hA
      have hkl : k < l.length := by rw [HS.out.1]; exact hlt
      obtain ⟨e0, e1, e2, e3, e4, e5⟩ := (hcs k hkl).below HL.out hbB
      clear hcs
      have HT := Lib.hid (cn_take s l k hkl)
      have HM := Lib.hid (HZ.out _ (List.getElem_mem hkl))
      generalize l[k] = r at *
      have R0 := Lib.hid (bx_new wr 93 r)
      have O0 := Lib.hid (HO.out.alloc (.cells #[.string r.name, .int .i64 r.ty, .int .i64 r.ttl, .int .i64 r.n, .string r.host, .string r.text] 93))
      have X0 := Lib.hid (HX.out.alloc (.cells #[.string r.name, .int .i64 r.ty, .int .i64 r.ttl, .int .i64 r.n, .string r.host, .string r.text] 93))
      have L0 := Lib.hid (HL.out.alloc HL.out.size (.cells #[.string r.name, .int .i64 r.ty, .int .i64 r.ttl, .int .i64 r.n, .string r.host, .string r.text] 93))
      by_cases hty : ¬ r.ty = 2
      · have HA := Lib.hid (show uq (cn s (l.take (k + 1))) = uq (cn s (l.take k)) from by rw [HT.out, isc_false (fun h => hty h.1), if_neg (by decide), List.append_nil])
        have t0 : (r.ty == 2) = false := by simpa using hty
        clear hty
        go_wp2
        go_roundw
        case rel => exact ⟨k + 1, g, m, cap, by omega, by omega, by go_num, rfl, by rw [HA.out]; exact O0.out, X0.out, L0.out⟩
        case measure => simp [intOf]; omega
      replace hty : r.ty = 2 := Classical.not_not.1 hty
      have t0 : (r.ty == 2) = true := by simpa using hty
      by_cases hnm : r.name = s
      · have HA := Lib.hid (show uq (cn s (l.take (k + 1))) = uq (cn s (l.take k)) from by rw [HT.out, isc_false (fun h => h.2.1 hnm), if_neg (by decide), List.append_nil])
        have t1 : (r.name.toList == s.toList) = true := by rw [hnm]; simp
        have t2 : (r.name.data.toList == s.data.toList) = true := by rw [hnm]; simp
        clear hty hnm
        go_wp2
        go_roundw
        case rel => exact ⟨k + 1, g, m, cap, by omega, by omega, by go_num, rfl, by rw [HA.out]; exact O0.out, X0.out, L0.out⟩
        case measure => simp [intOf]; omega
      have t1 : (r.name.toList == s.toList) = false := bytes_ne hnm
      have t2 : (r.name.data.toList == s.data.toList) = false := by rw [← ByteArray.toList_eq, ← ByteArray.toList_eq]; exact t1
      have US := Lib.hid (fun W => Under.spec r.name s W HM.out hm)
      have HU : Hid (Un r.name s = true → uq (cn s (l.take (k + 1))) = add (uq (cn s (l.take k))) r.name) := fun hu => by rw [HT.out, isc_true ⟨hty, hnm, hu⟩, if_pos rfl, uq_snoc]
      have HV : Hid (Un r.name s = false → uq (cn s (l.take (k + 1))) = uq (cn s (l.take k))) := fun hu => by rw [HT.out, isc_false (fun h => by rw [hu] at h; exact absurd h.2.2 (by decide)), if_neg (by decide), List.append_nil]
      generalize Un r.name s = u at *
      clear hty hnm HT
      have HZ2 : Hid ((uq (cn s (l.take k))).length = m) := show _ = _ by have := HO.out.1; simpa using this
      have SS : Hid (∀ W : World, W.ownsRow (w.heap.size + 1) 9 1 (.slice (some ⟨g, 0, none⟩) m cap) m ((uq (cn s (l.take k))).map tv) → Calls Tryz.prog 127 #[.slice (some ⟨g, 0, none⟩) m cap, .string r.name] W fun e w' => e = .returned (.bool (isin (uq (cn s (l.take k))) (r.name))) ∧ Below W.heap.size W w') :=
        fun W O => has _ m cap (uq (cn s (l.take k))) (r.name) W (show Ss W W.heap.size (some ⟨g, 0, none⟩) m (uq (cn s (l.take k))) from by obtain ⟨r', hb, _, _⟩ := bk_of_owns O; exact bk_ssw hb HZ2.out) (by omega)
      go_wp2_with fail
      refine (US.out _).mono ?_
      rintro e w1 ⟨rfl, hl⟩
      have L1 := Lib.hid (L0.out.trans (hl.mono L0.out.size))
      have X1 := Lib.hid (X0.out.below hl)
      have R1 := Lib.hid (R0.out.below hl)
      have O1 := Lib.hid (O0.out.kept (grown_of_below hl none) (Or.inr (fun e => by cases e)))
      clear hl US z0 z1 e0 e1 e2 e3 e4 e5 L0 X0 R0 O0
      obtain ⟨z0, z1⟩ := X1.out
      obtain ⟨r0, r1, r2, r3, r4, r5⟩ := R1.out
      cases u with
      | false =>
        have HA := Lib.hid (HV.out rfl)
        go_wp2
        go_roundw
        case rel => exact ⟨k + 1, g, m, cap, by omega, by omega, by go_num, rfl, by rw [HA.out]; exact O1.out, X1.out, L1.out⟩
        case measure => simp [intOf]; omega
      | true =>
        have HB := Lib.hid (HU.out rfl)
        clear HU HV
        go_wp2_with fail
        refine (SS.out _ O1.out).mono ?_
        rintro e w2 ⟨rfl, hl⟩
        have L2 := Lib.hid (L1.out.trans (hl.mono L1.out.size))
        have X2 := Lib.hid (X1.out.below hl)
        have R2 := Lib.hid (R1.out.below hl)
        have O2 := Lib.hid (O1.out.kept (grown_of_below hl none) (Or.inr (fun e => by cases e)))
        clear hl SS z0 z1 r0 r1 r2 r3 r4 r5 L1 X1 R1 O1
        obtain ⟨z0, z1⟩ := X2.out
        obtain ⟨r0, r1, r2, r3, r4, r5⟩ := R2.out
        by_cases hin : r.name ∈ uq (cn s (l.take k))
        · have HA := Lib.hid (HB.out.trans (add_in hin))
          have HC := Lib.hid (isin_true hin)
          clear hin
          rw [HC.out]
          go_wp2
          go_roundw
          case rel => exact ⟨k + 1, g, m, cap, by omega, by omega, by go_num, rfl, by rw [HA.out]; exact O2.out, X2.out, L2.out⟩
          case measure => simp [intOf]; omega
        · have HA := Lib.hid (HB.out.trans (add_out hin))
          have HC := Lib.hid (isin_false hin)
          clear hin
          have gge : w.heap.size + 1 ≤ g := by obtain ⟨r', _, _, h⟩ := bk_of_owns O2.out; exact h
          rw [HC.out]
          go_wp2_with (at_builtin; refine append_one (w := w2) rfl (.tmp 43) (.tmp 46) 39 rfl (w.heap.size + 1) 9 i0 _ Tryz.underlying39 hi hz0 hz1 hz2 rfl g m cap (uq (cn s (l.take k))) rfl O2.out r.name rfl (by omega) (by have h1 := O2.out.lt g rfl; omega) ?_)
          intro g' cap' w3 hown hgrow
          have O3 := Lib.hid hown
          have X3 := Lib.hid ((X2.out.alloc (.cells #[.string r.name] 9)).grown hgrow (fun e => by have := Option.some.inj e; omega))
          have L3 := Lib.hid ((L2.out.alloc L2.out.size (.cells #[.string r.name] 9)).grown hgrow (Nat.le_trans L2.out.size (by simp)) (fun j hj => by cases hj; omega))
          clear hown hgrow
          go_wp2
          go_roundw
          case rel => exact ⟨k + 1, g', m + 1, cap', by omega, by omega, by go_num, rfl, by rw [HA.out, List.map_append]; exact O3.out, X3.out, L3.out⟩
          case measure => simp [intOf]; omega
    · obtain rfl : n = k := by omega
      have HN := Lib.hid (take_all HS.out.1)
      go_wp2
      go_ret
      have ho := HO.out
      rw [HN.out] at ho
      obtain ⟨r', hb, hc, hg⟩ := bk_of_owns ho
      exact ⟨g, m, cap, r', rfl, by have := ho.1; simpa using this, by rw [← hc, List.length_append]; have := ho.1; omega, by omega, hb, HL.out⟩
end Go.Proofs.YtmkcjjgicinggaaGreatDoor.CutsS

/- What CutOf and InZone do in the model. Condition: fewer than 400000001 records, no name of more than 400000000 bytes. -/
namespace Go.Proofs.YtmkcjjgicinggaaGreatDoor.CutOfS
open Go.RowKit Go.Proofs.YtmkcjjgicinggaaGreatDoor.Mem Go.Proofs.YtmkcjjgicinggaaGreatDoor.MemR Go.Proofs.YtmkcjjgicinggaaGreatDoor.BoxR Go.Proofs.YtmkcjjgicinggaaGreatDoor.SetMath Go.Proofs.YtmkcjjgicinggaaGreatDoor.NameMath Go.Proofs.YtmkcjjgicinggaaGreatDoor.ZoneMath Go.Proofs.YtmkcjjgicinggaaGreatDoor.MemZ Go.Proofs.YtmkcjjgicinggaaGreatDoor.MemS Go.Proofs.YtmkcjjgicinggaaGreatDoor.AppS

set_option maxHeartbeats 8000000 in
theorem spec (s nm : ByteArray) (b0 o0 n c : Nat) (l : List Rec) (w : World) (hs : Sr w w.heap.size (some ⟨b0, o0, none⟩) n l) (hn : n ≤ 400000000) (hm : s.size ≤ 400000000) (hq : nm.size ≤ 400000000) (hz : ∀ r ∈ l, r.name.size ≤ 400000000) :
    Calls Tryz.prog 183 #[.agg #[.string s, .slice (some ⟨b0, o0, none⟩) n c], .string nm] w fun e w' => e = .returned (cv (co nm (uq (cn s l)))) ∧ Below w.heap.size w w' := by
  have L0 := Lib.hid ((Below.refl w.heap.size w).alloc (Nat.le_refl _) (.cells #[.string s, .slice (some ⟨b0, o0, none⟩) n c] 37))
  have X0 := Lib.hid (zx_new w 37 s (.slice (some ⟨b0, o0, none⟩) n c))
  have CS := Lib.hid (fun W hW => CutsS.spec s b0 o0 n c l W hW hn hm hz)
  have S0 := Lib.hid (hs.on L0.out)
  have HLN : Hid ((uq (cn s l)).length ≤ 400000000) := by show _ ≤ _; have h1 := len_uq (cn s l); have h2 := cn_len s l; have := hs.1; omega
  have HZ : Hid (∀ x ∈ uq (cn s l), x.size ≤ 400000000) := fun x hx => by obtain ⟨r, hr, rfl⟩ := cn_mem (mem_uq.1 hx); exact hz r hr
  clear hs hz
  generalize uq (cn s l) = L at *
  obtain ⟨x0, x1⟩ := X0.out
  go_enter Tryz.func183, Tryz.ntmps183
  go_wp2_with fail
  refine (CS.out _ S0.out).mono ?_
  rintro e w1 ⟨g, m, cap, r', rfl, hlm, hmc, hg, hb, hl⟩
  have HM := Lib.hid hlm
  have hm' : m ≤ 400000000 := by have := HLN.out; omega
  have B1 := Lib.hid hb
  have L1 := Lib.hid (L0.out.trans (hl.mono L0.out.size))
  clear hlm hmc hg hb hl CS S0 X0 L0 x0 x1 HLN
  go_wp2
  go_loopw [7] (fun i wr => ∃ k : Nat, k ≤ m ∧ i = .int .i64 k ∧ Hid (co nm (L.take k) = none) ∧ Hid (Bk wr g 9 (L.map tv ++ r')) ∧ Hid (Below w.heap.size w wr)) (fun i _ => m - (intOf i).toNat)
  case atStart => exact ⟨0, Nat.zero_le _, rfl, rfl, B1.out, L1.out⟩
  case round =>
    clear B1 L1
    obtain ⟨k, hk, rfl, HE, HB, HL⟩ := hrel
    by_cases hlt : k < m
    · have hkl : k < L.length := by rw [HM.out]; exact hlt
      have e0 : wr.cell? ⟨g, k, none⟩ = some (.string L[k]) := by
        rw [HB.out.cell, List.getElem?_append_left (by rw [List.length_map]; exact hkl), tv_get]
      have HH := Lib.hid (fun e => co_hit nm L k hkl e HE.out)
      have HN := Lib.hid (fun e => co_next nm L k hkl e HE.out)
      have HY := Lib.hid (HZ.out _ (List.getElem_mem hkl))
      generalize L[k] = y at *
      have US := Lib.hid (fun W => Under.spec nm y W hq HY.out)
      generalize Un nm y = u at *
      go_wp2_with fail
      refine (US.out _).mono ?_
      rintro e w2 ⟨rfl, hl⟩
      have e1 : w2.cell? ⟨g, k, none⟩ = some (.string y) := (hl.cell (p := ⟨g, k, none⟩) HB.out.lt).trans e0
      have B2 := Lib.hid (HB.out.below hl HB.out.lt)
      have L2 := Lib.hid (HL.out.trans (hl.mono HL.out.size))
      clear hl US e0
      cases u with
      | true =>
        have HF := Lib.hid (HH.out rfl)
        clear HH HN
        go_wp2
        go_ret2
        exact ⟨congrArg (fun b => Ending.returned (cv b)) HF.out.symm, L2.out⟩
      | false =>
        have HF := Lib.hid (HN.out rfl)
        clear HH HN
        go_wp2
        go_roundw
        case rel => exact ⟨k + 1, by omega, by go_num, HF.out, B2.out, L2.out⟩
        case measure => simp [intOf]; omega
    · obtain rfl : m = k := by omega
      have HF : Hid (co nm L = none) := by rw [take_all HM.out] at HE; exact HE
      go_wp2
      go_ret2
      exact ⟨congrArg (fun b => Ending.returned (cv b)) HF.out.symm, HL.out⟩

/-- A name is in the zone. -/
noncomputable def iz (s nm : ByteArray) (l : List Rec) : Bool := Un nm s && !(co nm (uq (cn s l))).isSome

end Go.Proofs.YtmkcjjgicinggaaGreatDoor.CutOfS

/- What SetOf does in the model: the records of a name and a type, in order. Condition: fewer than 400000001 records. -/
namespace Go.Proofs.YtmkcjjgicinggaaGreatDoor.SetS
open Go.RowKit Go.Proofs.YtmkcjjgicinggaaGreatDoor.Mem Go.Proofs.YtmkcjjgicinggaaGreatDoor.MemR Go.Proofs.YtmkcjjgicinggaaGreatDoor.SetMath Go.Proofs.YtmkcjjgicinggaaGreatDoor.AppR Go.Proofs.YtmkcjjgicinggaaGreatDoor.Isin Go.Proofs.YtmkcjjgicinggaaGreatDoor.Wt

/-- append of one new record onto a row of the call's own, the new block's number as the walk spells it. -/
theorem append_at {w : World} {ops : Array Oper} {rest : List Oper} {o : Oper} {a : Act} {Q : Exit → Act → World → Prop} (hgd : o.guard = none) (s x : Operand)
    (ho : o.op = .call { callee := .builtin .append, args := #[s, x], argTypes := #[35, 35] })
    (base g n cap : Nat) (l : List Rec) (hs : a.eval s = .slice (some ⟨g, 0, none⟩) n cap) (hown : w.ownsRow base 93 6 (.slice (some ⟨g, 0, none⟩) n cap) n (fl l))
    (y : Rec) (p : Nat) (hp : w.heap.size = p) (hx : a.eval x = .slice (some ⟨p, 0, none⟩) 1 1) (hn : n ≤ 800000000) (hbase : base ≤ w.heap.size)
    (h : ∀ g' cap' w', w'.ownsRow base 93 6 (.slice (some ⟨g', 0, none⟩) (n + 1) cap') (n + 1) (fl (l ++ [y])) → (w.alloc (.cells #[.string y.name, .int .i64 y.ty, .int .i64 y.ttl, .int .i64 y.n, .string y.host, .string y.text] 93)).grownBy w' (some g) → wpList Tryz.prog ops Q rest (a.put o.dst (.slice (some ⟨g', 0, none⟩) (n + 1) cap')) w') : wpList Tryz.prog ops Q (o :: rest) a (w.alloc (.cells #[.string y.name, .int .i64 y.ty, .int .i64 y.ttl, .int .i64 y.n, .string y.host, .string y.text] 93)) := by
  subst hp
  have hb : Bk (w.alloc (.cells #[.string y.name, .int .i64 y.ty, .int .i64 y.ttl, .int .i64 y.n, .string y.host, .string y.text] 93)) w.heap.size 93 (fl [y]) := heap_alloc_new w _
  exact append_recs hgd s x ho base g n cap l hs (hown.alloc _) w.heap.size 0 1 1 _ [y] hx (bk_sr0 hb rfl) hn (by omega) (by simp; omega) h

set_option maxHeartbeats 4000000 in
theorem spec (s : ByteArray) (t : Int) (b0 o0 n c : Nat) (l : List Rec) (w : World) (hs : Sr w w.heap.size (some ⟨b0, o0, none⟩) n l) (hn : n ≤ 400000000) : Calls Tryz.prog 130 #[.slice (some ⟨b0, o0, none⟩) n c, .string s, .int .i64 t] w (GivesL w (sf s t l)) := by
  have HS := Lib.hid hs
  clear hs
  have P0 := Lib.hid (owns_new w)
  have L0 := Lib.hid ((Below.refl w.heap.size w).alloc (Nat.le_refl _) (.cells #[] 93))
  go_enter Tryz.func130, Tryz.ntmps130
  go_wp2
  generalize w.alloc (.cells #[] 93) = w0 at *
  go_loopw [7, 8] (fun out i wr => ∃ k g m cap : Nat, k ≤ n ∧ m ≤ k ∧ i = .int .i64 k ∧ out = .slice (some ⟨g, 0, none⟩) m cap ∧ Hid (wr.ownsRow w.heap.size 93 6 (.slice (some ⟨g, 0, none⟩) m cap) m (fl (sf s t (l.take k)))) ∧ Hid (Below w.heap.size w wr)) (fun _ i _ => n - (intOf i).toNat)
  case atStart => exact ⟨0, w.heap.size, 0, 0, Nat.zero_le _, Nat.le_refl _, rfl, rfl, P0.out, L0.out⟩
  case round =>
    clear P0 L0
    obtain ⟨k, g, m, cap, hk, hm, rfl, rfl, HO, HL⟩ := hrel
    by_cases hlt : k < n
    · obtain ⟨b, off, hA, hbB, hcs⟩ := HS.out.2 (by omega)
      obtain ⟨rfl, rfl⟩ : b0 = b ∧ o0 = off := by simp at hA; exact hA
      clear hA
      have hkl : k < l.length := by rw [HS.out.1]; exact hlt
      obtain ⟨e0, e1, e2, e3, e4, e5⟩ := (hcs k hkl).below HL.out hbB
      clear hcs
      have HT := Lib.hid (sf_take s t l k hkl)
      generalize l[k] = r at *
      by_cases hnm : ¬ r.name = s
      · have HA := Lib.hid (show sf s t (l.take (k + 1)) = sf s t (l.take k) from by rw [HT.out, isk_false (fun h => hnm h.1), if_neg (by decide), List.append_nil])
        have t1 : (r.name.toList == s.toList) = false := bytes_ne hnm
        have t2 : (r.name.data.toList == s.data.toList) = false := by rw [← ByteArray.toList_eq, ← ByteArray.toList_eq]; exact t1
        clear hnm
        go_wp2
        go_roundw
        case rel => exact ⟨k + 1, g, m, cap, by omega, by omega, by go_num, rfl, by rw [HA.out]; exact HO.out, HL.out⟩
        case measure => simp [intOf]; omega
      replace hnm : r.name = s := Classical.not_not.1 hnm
      have t1 : (r.name.toList == s.toList) = true := by rw [hnm]; simp
      have t2 : (r.name.data.toList == s.data.toList) = true := by rw [hnm]; simp
      by_cases hty : ¬ r.ty = t
      · have HA := Lib.hid (show sf s t (l.take (k + 1)) = sf s t (l.take k) from by rw [HT.out, isk_false (fun h => hty h.2), if_neg (by decide), List.append_nil])
        have t0 : (r.ty == t) = false := by simpa using hty
        clear hty hnm
        go_wp2
        go_roundw
        case rel => exact ⟨k + 1, g, m, cap, by omega, by omega, by go_num, rfl, by rw [HA.out]; exact HO.out, HL.out⟩
        case measure => simp [intOf]; omega
      replace hty : r.ty = t := Classical.not_not.1 hty
      have HA := Lib.hid (show sf s t (l.take (k + 1)) = sf s t (l.take k) ++ [r] from by rw [HT.out, isk_true ⟨hnm, hty⟩, if_pos rfl])
      have t0 : (r.ty == t) = true := by simpa using hty
      clear hty hnm
      go_wp2_with (at_builtin; refine append_at (w := wr) rfl (.tmp 32) (.tmp 37) rfl w.heap.size g m cap (sf s t (l.take k)) rfl HO.out r wr.heap.size rfl rfl (by omega) (by have h1 := HO.out.lt g rfl; omega) ?_)
      intro g' cap' w3 hown hgrow
      have O3 := Lib.hid hown
      have L3 := Lib.hid ((HL.out.alloc HL.out.size (.cells #[.string r.name, .int .i64 r.ty, .int .i64 r.ttl, .int .i64 r.n, .string r.host, .string r.text] 93)).grown hgrow (Nat.le_trans HL.out.size (by simp)) (fun j hj => by cases hj; have h1 := HO.out.lt g rfl; omega))
      clear hown hgrow
      go_wp2
      go_roundw
      case rel => exact ⟨k + 1, g', m + 1, cap', by omega, by omega, by go_num, rfl, by rw [HA.out]; exact O3.out, L3.out⟩
      case measure => simp [intOf]; omega
    · obtain rfl : n = k := by omega
      have HN := Lib.hid (take_all HS.out.1)
      go_wp2
      go_ret
      have ho := HO.out
      rw [HN.out] at ho
      obtain ⟨r', hb, _, hcap, hg⟩ := bk_of_owns6 ho
      have hz : (sf s t l).length = m := by have := ho.1; rw [fl_len] at this; omega
      exact ⟨g, m, cap, r', rfl, hz, hcap, hg, hb, HL.out⟩
end Go.Proofs.YtmkcjjgicinggaaGreatDoor.SetS
