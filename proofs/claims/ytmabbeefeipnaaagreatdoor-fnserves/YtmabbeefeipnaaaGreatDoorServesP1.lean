/- Maps that a call makes and only adds to: what the block of such a map holds, entry by entry in the order in which they came, and the laws on a look-up, a store and a range. Condition: the keys are of a kind that can be compared without a panic (KeyT). -/
import Derived.Test.YtmabbeefeipnaaaGreatDoorSetMath
import Derived.Test.YtmabbeefeipnaaaGreatDoorCpyR
import Derived.Test.YtmabbeefeipnaaaGreatDoorMemR
import Derived.Laws.StructEq
import Derived.Deep.QuietTactic
import Derived.BigQuiet
import Derived.Test.YtmabbeefeipnaaaGreatDoorZokMath
import Derived.Test.YtmabbeefeipnaaaGreatDoorMemZ
import Derived.Test.YtmabbeefeipnaaaGreatDoorLabSpec
import Derived.Test.YtmabbeefeipnaaaGreatDoorNameMath
import Derived.Test.YtmabbeefeipnaaaGreatDoorMem
import Derived.Maps.RangeRun
import Derived.Maps.OwnOps
import Derived.Deep.AppendLies
/- What WithTtl does in the program and in the model: a new slice with the same records, their times to live all replaced. Condition: fewer than 400000001 records. -/
namespace Go.Proofs.YtmabbeefeipnaaaGreatDoor.Wt
open Go.RowKit Go.Proofs.YtmabbeefeipnaaaGreatDoor.Mem Go.Proofs.YtmabbeefeipnaaaGreatDoor.MemR Go.Proofs.YtmabbeefeipnaaaGreatDoor.SetMath Go.Proofs.YtmabbeefeipnaaaGreatDoor.CpyR

/-- The call returned a new slice that reads as the records l (room behind it let in), and turned nothing that was there. -/
def GivesL (w : World) (l : List Rec) (e : Ending) (w' : World) : Prop :=
  ∃ g m c r, e = .returned (.slice (some ⟨g, 0, none⟩) m c) ∧ l.length = m ∧ m ≤ c ∧ w.heap.size ≤ g ∧ Bk w' g 40 (fl l ++ r) ∧ Below w.heap.size w w'

theorem put_ttl (t : Int) (l : List Rec) (v : List Value) (k : Nat) (h : k < l.length) : (fl ((l.take k).map (wr t) ++ l.drop k) ++ v).set (k * 6 + 2) (.int .i64 t) = fl ((l.take (k + 1)).map (wr t) ++ l.drop (k + 1)) ++ v := by
  obtain ⟨h', e⟩ := wr_at t l k h
  rw [List.set_append_left _ _ (by rw [fl_len]; omega), fl_set _ k 2 (.int .i64 t) h' (by rw [e]; rfl) (by omega), e]
  have hp : put l[k] 2 (.int .i64 t) = wr t l[k] := rfl
  rw [hp, wr_set t l k h]

theorem below_set {w w' : World} {g j : Nat} (h : Below w.heap.size w w') (hg : w.heap.size ≤ g) (u : Value) : Below w.heap.size w (w'.setCell ⟨g, j, none⟩ u) := h.setCell hg u

end Go.Proofs.YtmabbeefeipnaaaGreatDoor.Wt

/- Plain facts: whether an element is in a list. -/
namespace Go.Proofs.YtmabbeefeipnaaaGreatDoor.Isin
open Go.Proofs.YtmabbeefeipnaaaGreatDoor.SetMath

/-- Whether x is in the list. -/
noncomputable def isin {α : Type} (l : List α) (x : α) : Bool := @decide (x ∈ l) (Classical.propDecidable _)

theorem isin_true {α : Type} {l : List α} {x : α} (h : x ∈ l) : isin l x = true := @decide_eq_true _ (Classical.propDecidable _) h

theorem isin_false {α : Type} {l : List α} {x : α} (h : x ∉ l) : isin l x = false := @decide_eq_false _ (Classical.propDecidable _) h

theorem not_zero {α : Type} (l : List α) (x : α) : x ∉ l.take 0 := by simp

theorem isin_at {α : Type} (l : List α) (x : α) (k : Nat) (h : k < l.length) : l[k] = x → isin l x = true := fun e => isin_true (e ▸ List.getElem_mem h)

theorem not_next {α : Type} (l : List α) (x : α) (k : Nat) (h : k < l.length) : x ∉ l.take k → ¬ l[k] = x → x ∉ l.take (k + 1) := by
  intro h1 h2
  rw [List.take_succ_eq_append_getElem h, List.mem_append, List.mem_singleton]
  exact fun h3 => h3.elim h1 (fun e => h2 e.symm)

theorem bytes_ne {a b : ByteArray} (h : ¬ a = b) : (a.toList == b.toList) = false := by
  cases e : (a.toList == b.toList) with
  | false => rfl
  | true =>
    have := eq_of_beq e
    rw [ByteArray.toList_eq, ByteArray.toList_eq] at this
    exact absurd (by cases a; cases b; congr; exact Array.toList_inj.1 this) h

end Go.Proofs.YtmabbeefeipnaaaGreatDoor.Isin

/- What SetOf does in the model: the records of a name and a type, in order. Condition: fewer than 400000001 records. -/
namespace Go.Proofs.YtmabbeefeipnaaaGreatDoor.SetS
open Go.RowKit Go.Proofs.YtmabbeefeipnaaaGreatDoor.Mem Go.Proofs.YtmabbeefeipnaaaGreatDoor.MemR Go.Proofs.YtmabbeefeipnaaaGreatDoor.SetMath Go.Proofs.YtmabbeefeipnaaaGreatDoor.AppR Go.Proofs.YtmabbeefeipnaaaGreatDoor.Isin Go.Proofs.YtmabbeefeipnaaaGreatDoor.Wt

/-- append of one new record onto a row of the call's own, the new block's number as the walk spells it. -/
theorem append_at {w : World} {ops : Array Oper} {rest : List Oper} {o : Oper} {a : Act} {Q : Exit → Act → World → Prop} (hgd : o.guard = none) (s x : Operand)
    (ho : o.op = .call { callee := .builtin .append, args := #[s, x], argTypes := #[24, 24] })
    (base g n cap : Nat) (l : List Rec) (hs : a.eval s = .slice (some ⟨g, 0, none⟩) n cap) (hown : w.ownsRow base 40 6 (.slice (some ⟨g, 0, none⟩) n cap) n (fl l))
    (y : Rec) (p : Nat) (hp : w.heap.size = p) (hx : a.eval x = .slice (some ⟨p, 0, none⟩) 1 1) (hn : n ≤ 800000000) (hbase : base ≤ w.heap.size)
    (h : ∀ g' cap' w', w'.ownsRow base 40 6 (.slice (some ⟨g', 0, none⟩) (n + 1) cap') (n + 1) (fl (l ++ [y])) → (w.alloc (.cells #[.string y.name, .int .i64 y.ty, .int .i64 y.ttl, .int .i64 y.n, .string y.host, .string y.text] 40)).grownBy w' (some g) → wpList Tryz.prog ops Q rest (a.put o.dst (.slice (some ⟨g', 0, none⟩) (n + 1) cap')) w') : wpList Tryz.prog ops Q (o :: rest) a (w.alloc (.cells #[.string y.name, .int .i64 y.ty, .int .i64 y.ttl, .int .i64 y.n, .string y.host, .string y.text] 40)) := by
  subst hp
  have hb : Bk (w.alloc (.cells #[.string y.name, .int .i64 y.ty, .int .i64 y.ttl, .int .i64 y.n, .string y.host, .string y.text] 40)) w.heap.size 40 (fl [y]) := heap_alloc_new w _
  exact append_recs hgd s x ho base g n cap l hs (hown.alloc _) w.heap.size 0 1 1 _ [y] hx (bk_sr0 hb rfl) hn (by omega) (by simp; omega) h

set_option maxHeartbeats 4000000 in
theorem spec (s : ByteArray) (t : Int) (b0 o0 n c : Nat) (l : List Rec) (w : World) (hs : Sr w w.heap.size (some ⟨b0, o0, none⟩) n l) (hn : n ≤ 400000000) : Calls Tryz.prog 27 #[.slice (some ⟨b0, o0, none⟩) n c, .string s, .int .i64 t] w (GivesL w (sf s t l)) := by
  have HS := Lib.hid hs
  clear hs
  have P0 := Lib.hid (owns_new w)
  have L0 := Lib.hid ((Below.refl w.heap.size w).alloc (Nat.le_refl _) (.cells #[] 40))
  go_enter Tryz.func27, Tryz.ntmps27
  go_wp2
  generalize w.alloc (.cells #[] 40) = w0 at *
  go_loopw [7, 8] (fun out i wr => ∃ k g m cap : Nat, k ≤ n ∧ m ≤ k ∧ i = .int .i64 k ∧ out = .slice (some ⟨g, 0, none⟩) m cap ∧ Hid (wr.ownsRow w.heap.size 40 6 (.slice (some ⟨g, 0, none⟩) m cap) m (fl (sf s t (l.take k)))) ∧ Hid (Below w.heap.size w wr)) (fun _ i _ => n - (intOf i).toNat)
  case atStart => exact ⟨0, w.heap.size, 0, 0, Nat.zero_le _, Nat.le_refl _, rfl, rfl, P0.out, L0.out⟩
  case round =>
    clear P0 L0
    obtain ⟨k, g, m, cap, hk, hm, rfl, rfl, HO, HL⟩ := hrel
    by_cases hlt : k < n
    · obtain ⟨b, off, hA, hbB, hcs⟩ := HS.out.2 (by omega)
      obtain ⟨rfl, rfl⟩ : b0 = b ∧ o0 = off := by simp at hA; exact hA
      clear hA
      have hkl : k < l.length := by rw [HS.out.1]; exact hlt
      obtain ⟨e0, e1, e2, e3, e4, e5⟩ := (hcs k hkl).below HL.out hbB
      clear hcs
      have HT := Lib.hid (sf_take s t l k hkl)
      generalize l[k] = r at *
      by_cases hnm : ¬ r.name = s
      · have HA := Lib.hid (show sf s t (l.take (k + 1)) = sf s t (l.take k) from by rw [HT.out, isk_false (fun h => hnm h.1), if_neg (by decide), List.append_nil])
        have t1 : (r.name.toList == s.toList) = false := bytes_ne hnm
        have t2 : (r.name.data.toList == s.data.toList) = false := by rw [← ByteArray.toList_eq, ← ByteArray.toList_eq]; exact t1
        clear hnm
        go_wp2
        go_roundw
        case rel => exact ⟨k + 1, g, m, cap, by omega, by omega, by go_num, rfl, by rw [HA.out]; exact HO.out, HL.out⟩
        case measure => simp [intOf]; omega
      replace hnm : r.name = s := Classical.not_not.1 hnm
      have t1 : (r.name.toList == s.toList) = true := by rw [hnm]; simp
      have t2 : (r.name.data.toList == s.data.toList) = true := by rw [hnm]; simp
      by_cases hty : ¬ r.ty = t
      · have HA := Lib.hid (show sf s t (l.take (k + 1)) = sf s t (l.take k) from by rw [HT.out, isk_false (fun h => hty h.2), if_neg (by decide), List.append_nil])
        have t0 : (r.ty == t) = false := by simpa using hty
        clear hty hnm
        go_wp2
        go_roundw
        case rel => exact ⟨k + 1, g, m, cap, by omega, by omega, by go_num, rfl, by rw [HA.out]; exact HO.out, HL.out⟩
        case measure => simp [intOf]; omega
      replace hty : r.ty = t := Classical.not_not.1 hty
      have HA := Lib.hid (show sf s t (l.take (k + 1)) = sf s t (l.take k) ++ [r] from by rw [HT.out, isk_true ⟨hnm, hty⟩, if_pos rfl])
      have t0 : (r.ty == t) = true := by simpa using hty
      clear hty hnm
      go_wp2_with (at_builtin; refine append_at (w := wr) rfl (.tmp 32) (.tmp 37) rfl w.heap.size g m cap (sf s t (l.take k)) rfl HO.out r wr.heap.size rfl rfl (by omega) (by have h1 := HO.out.lt g rfl; omega) ?_)
      intro g' cap' w3 hown hgrow
      have O3 := Lib.hid hown
      have L3 := Lib.hid ((HL.out.alloc HL.out.size (.cells #[.string r.name, .int .i64 r.ty, .int .i64 r.ttl, .int .i64 r.n, .string r.host, .string r.text] 40)).grown hgrow (Nat.le_trans HL.out.size (by simp)) (fun j hj => by cases hj; have h1 := HO.out.lt g rfl; omega))
      clear hown hgrow
      go_wp2
      go_roundw
      case rel => exact ⟨k + 1, g', m + 1, cap', by omega, by omega, by go_num, rfl, by rw [HA.out]; exact O3.out, L3.out⟩
      case measure => simp [intOf]; omega
    · obtain rfl : n = k := by omega
      have HN := Lib.hid (take_all HS.out.1)
      go_wp2
      go_ret
      have ho := HO.out
      rw [HN.out] at ho
      obtain ⟨r', hb, _, hcap, hg⟩ := bk_of_owns6 ho
      have hz : (sf s t l).length = m := by have := ho.1; rw [fl_len] at this; omega
      exact ⟨g, m, cap, r', rfl, hz, hcap, hg, hb, HL.out⟩
end Go.Proofs.YtmabbeefeipnaaaGreatDoor.SetS

/- Two records that are the same, compared with == : true, and nothing is turned. -/
namespace Go.Proofs.YtmabbeefeipnaaaGreatDoor.EqlR
open Go.RowKit Go.Proofs.YtmabbeefeipnaaaGreatDoor.Mem Go.Proofs.YtmabbeefeipnaaaGreatDoor.MemR

theorem eql_same (r : Rec) (w : World) : Sem.run Tryz.prog (binOp .eql 40 (.agg #[.string r.name, .int .i64 r.ty, .int .i64 r.ttl, .int .i64 r.n, .string r.host, .string r.text]) (.agg #[.string r.name, .int .i64 r.ty, .int .i64 r.ttl, .int .i64 r.n, .string r.host, .string r.text])) w = .ok (.bool true) w := by
  have u3 := Tryz.underlying3
  have a3 := Tryz.isAgg3
  have z3 := Tryz.sizeOf3
  have u9 := Tryz.underlying9
  have a9 := Tryz.isAgg9
  have z9 := Tryz.sizeOf9
  have hS : Tryz.prog.underlying 40 = some (.struct (Tryz.prog.fieldsOf 40)) := by kernel_rfl
  have hp : Tryz.prog.stoodInHeld 40 = false := by kernel_rfl
  rw [run_eql_struct, show (10000 : Nat) = 9999 + 1 from rfl, run_equalIn_agg w 9999 40 _ _ hS hp]
  simp only [Program.fieldsOf, Tryz.underlying40]
  go_simp

theorem bytes_ne {a b : ByteArray} (h : a ≠ b) : (a.toList == b.toList) = false := by
  cases e : (a.toList == b.toList) with
  | false => rfl
  | true =>
    have := eq_of_beq e
    rw [ByteArray.toList_eq, ByteArray.toList_eq] at this
    exact absurd (by cases a; cases b; congr; exact Array.toList_inj.1 this) h
theorem eql_diff {r s : Rec} (h : r ≠ s) (w : World) : Sem.run Tryz.prog (binOp .eql 40 (.agg #[.string r.name, .int .i64 r.ty, .int .i64 r.ttl, .int .i64 r.n, .string r.host, .string r.text]) (.agg #[.string s.name, .int .i64 s.ty, .int .i64 s.ttl, .int .i64 s.n, .string s.host, .string s.text])) w = .ok (.bool false) w := by
  have u3 := Tryz.underlying3
  have a3 := Tryz.isAgg3
  have z3 := Tryz.sizeOf3
  have u9 := Tryz.underlying9
  have a9 := Tryz.isAgg9
  have z9 := Tryz.sizeOf9
  have hS : Tryz.prog.underlying 40 = some (.struct (Tryz.prog.fieldsOf 40)) := by kernel_rfl
  have hp : Tryz.prog.stoodInHeld 40 = false := by kernel_rfl
  rw [run_eql_struct, show (10000 : Nat) = 9999 + 1 from rfl, run_equalIn_agg w 9999 40 _ _ hS hp]
  simp only [Program.fieldsOf, Tryz.underlying40]
  obtain ⟨n1, t1, l1, m1, h1, x1⟩ := r
  obtain ⟨n2, t2, l2, m2, h2, x2⟩ := s
  simp only
  by_cases c0 : n1 = n2
  · subst c0
    by_cases c1 : t1 = t2
    · subst c1
      by_cases c2 : l1 = l2
      · subst c2
        by_cases c3 : m1 = m2
        · subst c3
          by_cases c4 : h1 = h2
          · subst c4
            by_cases c5 : x1 = x2
            · subst c5; exact absurd rfl h
            · have k := bytes_ne c5
              go_simp
          · have k := bytes_ne c4
            go_simp
        · go_simp
      · go_simp
    · go_simp
  · have k := bytes_ne c0
    go_simp

theorem grd : Tryz.prog.eqGuardType Tryz.prog.depth 40 = false := by kernel_rfl
end Go.Proofs.YtmabbeefeipnaaaGreatDoor.EqlR

/- What SameRecords does in the program and in the model: whether two lists of records are equal in all fields of all records. Condition: fewer than 400000001 records. -/
namespace Go.Proofs.YtmabbeefeipnaaaGreatDoor.SameR
open Go.RowKit Go.Proofs.YtmabbeefeipnaaaGreatDoor.Mem Go.Proofs.YtmabbeefeipnaaaGreatDoor.MemR

/-- Whether two lists of records are equal. A def, so that no step of a walk opens it. -/
noncomputable def sm (l m : List Rec) : Bool := @decide (l = m) (Classical.propDecidable _)
theorem sm_true {l m : List Rec} (h : l = m) : sm l m = true := @decide_eq_true _ (Classical.propDecidable _) h
theorem sm_false {l m : List Rec} (h : l ≠ m) : sm l m = false := @decide_eq_false _ (Classical.propDecidable _) h
theorem bytes_ne {a b : ByteArray} (h : a ≠ b) : (a.toList == b.toList) = false := by
  cases e : (a.toList == b.toList) with
  | false => rfl
  | true =>
    have := eq_of_beq e
    rw [ByteArray.toList_eq, ByteArray.toList_eq] at this
    exact absurd (by cases a; cases b; congr; exact Array.toList_inj.1 this) h
theorem neq_same (r : Rec) (w : World) : Sem.run Tryz.prog (binOp .neq 40 (.agg #[.string r.name, .int .i64 r.ty, .int .i64 r.ttl, .int .i64 r.n, .string r.host, .string r.text]) (.agg #[.string r.name, .int .i64 r.ty, .int .i64 r.ttl, .int .i64 r.n, .string r.host, .string r.text])) w = .ok (.bool false) w := by
  have u3 := Tryz.underlying3
  have a3 := Tryz.isAgg3
  have z3 := Tryz.sizeOf3
  have u9 := Tryz.underlying9
  have a9 := Tryz.isAgg9
  have z9 := Tryz.sizeOf9
  have hS : Tryz.prog.underlying 40 = some (.struct (Tryz.prog.fieldsOf 40)) := by kernel_rfl
  have hp : Tryz.prog.stoodInHeld 40 = false := by kernel_rfl
  rw [run_neq_struct, show (10000 : Nat) = 9999 + 1 from rfl, run_equalIn_agg w 9999 40 _ _ hS hp]
  simp only [Program.fieldsOf, Tryz.underlying40]
  go_simp

theorem neq_diff {r s : Rec} (h : r ≠ s) (w : World) : Sem.run Tryz.prog (binOp .neq 40 (.agg #[.string r.name, .int .i64 r.ty, .int .i64 r.ttl, .int .i64 r.n, .string r.host, .string r.text]) (.agg #[.string s.name, .int .i64 s.ty, .int .i64 s.ttl, .int .i64 s.n, .string s.host, .string s.text])) w = .ok (.bool true) w := by
  have u3 := Tryz.underlying3
  have a3 := Tryz.isAgg3
  have z3 := Tryz.sizeOf3
  have u9 := Tryz.underlying9
  have a9 := Tryz.isAgg9
  have z9 := Tryz.sizeOf9
  have hS : Tryz.prog.underlying 40 = some (.struct (Tryz.prog.fieldsOf 40)) := by kernel_rfl
  have hp : Tryz.prog.stoodInHeld 40 = false := by kernel_rfl
  rw [run_neq_struct, show (10000 : Nat) = 9999 + 1 from rfl, run_equalIn_agg w 9999 40 _ _ hS hp]
  simp only [Program.fieldsOf, Tryz.underlying40]
  obtain ⟨n1, t1, l1, m1, h1, x1⟩ := r
  obtain ⟨n2, t2, l2, m2, h2, x2⟩ := s
  simp only
  by_cases c0 : n1 = n2
  · subst c0
    by_cases c1 : t1 = t2
    · subst c1
      by_cases c2 : l1 = l2
      · subst c2
        by_cases c3 : m1 = m2
        · subst c3
          by_cases c4 : h1 = h2
          · subst c4
            by_cases c5 : x1 = x2
            · subst c5; exact absurd rfl h
            · have k := bytes_ne c5
              go_simp
          · have k := bytes_ne c4
            go_simp
        · go_simp
      · go_simp
    · go_simp
  · have k := bytes_ne c0
    go_simp

theorem grd : Tryz.prog.eqGuardType Tryz.prog.depth 40 = false := by kernel_rfl

theorem take_same {l m : List Rec} {k : Nat} (h : l.take k = m.take k) (h1 : k < l.length) (h2 : k < m.length) (e : l[k] = m[k]) : l.take (k + 1) = m.take (k + 1) := by
  rw [List.take_succ_eq_append_getElem h1, List.take_succ_eq_append_getElem h2, h, e]
theorem take_all {l m : List Rec} {n : Nat} (h : l.take n = m.take n) (h1 : l.length = n) (h2 : m.length = n) : l = m := by
  rwa [List.take_of_length_le (by omega), List.take_of_length_le (by omega)] at h
theorem at_diff {l m : List Rec} {k : Nat} (h1 : k < l.length) (h2 : k < m.length) (e : l[k] ≠ m[k]) : l ≠ m := fun h => by subst h; exact e rfl

set_option maxHeartbeats 1000000 in
theorem recs (A A' : Option Addr) (n c n' c' : Nat) (l m : List Rec) (w : World) (hs : Sr w w.heap.size A n l) (hs' : Sr w w.heap.size A' n' m) (hn : n ≤ 400000000) (hn' : n' ≤ 400000000) :
    Calls Tryz.prog 29 #[.slice A n c, .slice A' n' c'] w fun e w' => e = .returned (.bool (sm l m)) ∧ Below w.heap.size w w' := by
  have mixed : Tryz.prog.follows .mixedOrders = true := by kernel_rfl
  have hg := grd
  have HS := Lib.hid hs
  have HT := Lib.hid hs'
  clear hs hs'
  by_cases hnn : n = n'
  · obtain rfl := hnn
    have hd : ((n : Int) != (n : Int)) = false := by simp
    go_enter Tryz.func29, Tryz.ntmps29
    go_wp2
    go_loopw [5] (fun i wr => ∃ k : Nat, k ≤ n ∧ i = .int .i64 k ∧ Hid (∃ q, wr = w.drewN q) ∧ Hid (l.take k = m.take k)) (fun i _ => n - (intOf i).toNat)
    case atStart => exact ⟨0, Nat.zero_le _, rfl, ⟨0, rfl⟩, rfl⟩
    case round =>
      obtain ⟨k, hk, rfl, HW, HK⟩ := hrel
      obtain ⟨q, rfl⟩ := HW.out
      clear HW
      by_cases hlt : k < n
      · obtain ⟨b, off, rfl, hbB, hcs⟩ := HS.out.2 (by omega)
        obtain ⟨b', off', rfl, hbB', hcs'⟩ := HT.out.2 (by omega)
        have hkl : k < l.length := by rw [HS.out.1]; exact hlt
        have hkm : k < m.length := by rw [HT.out.1]; exact hlt
        obtain ⟨e0, e1, e2, e3, e4, e5⟩ := hcs k hkl
        obtain ⟨f0, f1, f2, f3, f4, f5⟩ := hcs' k hkm
        clear hcs hcs'
        by_cases hrs : l[k] = m[k]
        · have HN := Lib.hid (take_same HK.out hkl hkm hrs)
          rw [← hrs] at f0 f1 f2 f3 f4 f5
          clear hrs
          generalize l[k] = r at *
          have hq := neq_same r
          go_wp2
          go_quiet (fail)
          clear hq e0 e1 e2 e3 e4 e5 f0 f1 f2 f3 f4 f5
          go_wp2
          go_roundw
          case rel => exact ⟨k + 1, by omega, by go_num, ⟨_, rfl⟩, HN.out⟩
          case measure => simp [intOf]; omega
        · have HN := Lib.hid (sm_false (at_diff hkl hkm hrs))
          have hq := neq_diff hrs
          clear hrs
          generalize l[k] = r at *
          generalize m[k] = s at *
          go_wp2
          go_quiet (fail)
          clear hq e0 e1 e2 e3 e4 e5 f0 f1 f2 f3 f4 f5
          go_wp2
          go_ret
          exact ⟨by rw [HN.out]; rfl, (drewN_below w q _).trans (drewN_below _ _ _)⟩
      · obtain rfl : n = k := by omega
        have HN := Lib.hid (sm_true (take_all HK.out HS.out.1 HT.out.1))
        go_wp2
        go_ret
        exact ⟨by rw [HN.out]; rfl, drewN_below _ _ _⟩
  · have hd : ((n : Int) != (n' : Int)) = true := by rw [bne_iff_ne]; omega
    have HN := Lib.hid (sm_false (l := l) (m := m) (fun h => hnn (by rw [← HS.out.1, ← HT.out.1, h])))
    clear hnn
    go_enter Tryz.func29, Tryz.ntmps29
    go_wp2
    go_ret
    exact ⟨by rw [HN.out]; rfl, Below.refl _ _⟩

end Go.Proofs.YtmabbeefeipnaaaGreatDoor.SameR

/- What aliasesOk does in the program: no alias is at the apex, and no other record has an alias' name. Condition: fewer than 400000001 records. -/
namespace Go.Proofs.YtmabbeefeipnaaaGreatDoor.AliI
open Go.RowKit Go.Proofs.YtmabbeefeipnaaaGreatDoor.Mem Go.Proofs.YtmabbeefeipnaaaGreatDoor.MemR Go.Proofs.YtmabbeefeipnaaaGreatDoor.SetMath Go.Proofs.YtmabbeefeipnaaaGreatDoor.NameMath Go.Proofs.YtmabbeefeipnaaaGreatDoor.NameOk Go.Proofs.YtmabbeefeipnaaaGreatDoor.ZoneMath Go.Proofs.YtmabbeefeipnaaaGreatDoor.MemZ Go.Proofs.YtmabbeefeipnaaaGreatDoor.RecOk Go.Proofs.YtmabbeefeipnaaaGreatDoor.LessR Go.Proofs.YtmabbeefeipnaaaGreatDoor.ZokMath Go.Proofs.YtmabbeefeipnaaaGreatDoor.Labels Go.Proofs.YtmabbeefeipnaaaGreatDoor.BoxR

theorem text_ne {x y : ByteArray} (h : x ≠ y) : (x.toList == y.toList) = false := by
  rw [beq_eq_false_iff_ne, ByteArray.toList_eq, ByteArray.toList_eq]
  exact fun e => h (MemS.text_ext e)

theorem text_ne2 {x y : ByteArray} (h : x ≠ y) : (x.data.toList == y.data.toList) = false := by
  rw [beq_eq_false_iff_ne]
  exact fun e => h (MemS.text_ext e)

end Go.Proofs.YtmabbeefeipnaaaGreatDoor.AliI

/- What the model's Under does: it tells whether the labels of its second text end those of its first. Condition: at most 400000000 bytes each. -/
namespace Go.Proofs.YtmabbeefeipnaaaGreatDoor.Under
open Go.RowKit Go.Proofs.YtmabbeefeipnaaaGreatDoor.Mem Go.Proofs.YtmabbeefeipnaaaGreatDoor.MemS Go.Proofs.YtmabbeefeipnaaaGreatDoor.AppS Go.Proofs.YtmabbeefeipnaaaGreatDoor.Split Go.Proofs.YtmabbeefeipnaaaGreatDoor.NameMath

set_option maxHeartbeats 2000000 in
theorem spec (a b : ByteArray) (w : World) (ha : a.size ≤ 400000000) (hb : b.size ≤ 400000000) : Calls Tryz.prog 26 #[.string a, .string b] w fun e w' => e = .returned (.bool (Un a b)) ∧ Below w.heap.size w w' := by
  have SA := Lib.hid (fun w => Labels.spec a w ha)
  have SB := Lib.hid (fun w => Labels.spec b w hb)
  have hla := lab_len a
  have hlb := lab_len b
  have HU : Hid (Un a b = pfx (Lab b).reverse (Lab a).reverse) := rfl
  generalize Un a b = U at *
  generalize Lab a = X at *
  generalize Lab b = Y at *
  have HX : Hid (X.length ≤ 400000001) := by show _ ≤ _; omega
  have HY : Hid (Y.length ≤ 400000001) := by show _ ≤ _; omega
  clear hla hlb ha hb
  go_enter Tryz.func26, Tryz.ntmps26
  go_wp2_with fail
  refine (SA.out w).mono ?_
  rintro e w1 ⟨gx, n, cx, rx, rfl, hm, hcx, hg, hk, hl⟩
  have hn : n ≤ 400000001 := by have := HX.out; omega
  have NX := Lib.hid hm
  have X1 := Lib.hid hk
  have L1 := Lib.hid hl
  clear hm hg hk hl HX
  go_wp2_with fail
  refine (SB.out w1).mono ?_
  rintro e w2 ⟨gy, m, cy, ry, rfl, hm, hcy, hg, hk, hl⟩
  have hm' : m ≤ 400000001 := by have := HY.out; omega
  have NY := Lib.hid hm
  have Y2 := Lib.hid hk
  have X2 := Lib.hid (X1.out.below hl X1.out.lt)
  have L2 := Lib.hid (L1.out.trans (hl.mono L1.out.size))
  clear hm hg hk hl HY X1 L1
  by_cases hlen : n < m
  · have HF := Lib.hid (HU.out.trans (pfx_long (by rw [List.length_reverse, List.length_reverse, NX.out, NY.out]; exact hlen)))
    go_wp2
    go_ret
    rw [HF.out]
    exact ⟨rfl, L2.out⟩
  · have hlen' : ¬ (n : Int) < (m : Int) := by omega
    go_wp2
    go_loopw [7] (fun i wr => ∃ k : Nat, k ≤ m ∧ i = .int .i64 (k + 1) ∧ Hid (U = pfx (Y.reverse.drop k) (X.reverse.drop k)) ∧ Hid (Bk wr gx 9 (X.map tv ++ rx)) ∧ Hid (Bk wr gy 9 (Y.map tv ++ ry)) ∧ Hid (Below w.heap.size w wr)) (fun i _ => m + 1 - (intOf i).toNat)
    case atStart => exact ⟨0, Nat.zero_le _, rfl, HU.out, X2.out, Y2.out, L2.out⟩
    case round =>
      clear X2 Y2 L2 HU
      obtain ⟨k, hk, rfl, HU, XR, YR, LR⟩ := hrel
      by_cases hlt : k < m
      · obtain ⟨jx, hjx⟩ : ∃ j, j + k + 1 = n := ⟨n - k - 1, by omega⟩
        obtain ⟨jy, hjy⟩ : ∃ j, j + k + 1 = m := ⟨m - k - 1, by omega⟩
        have EX := rev_drop X jx k (by rw [NX.out]; exact hjx)
        have EY := rev_drop Y jy k (by rw [NY.out]; exact hjy)
        have hcx' : wr.cell? ⟨gx, jx, none⟩ = some (.string (X[jx]'(by rw [NX.out]; omega))) := by
          rw [XR.out.cell, List.getElem?_append_left (by rw [List.length_map, NX.out]; omega), tv_get]
        have hcy' : wr.cell? ⟨gy, jy, none⟩ = some (.string (Y[jy]'(by rw [NY.out]; omega))) := by
          rw [YR.out.cell, List.getElem?_append_left (by rw [List.length_map, NY.out]; omega), tv_get]
        have HR := HU.out
        rw [EX, EY, pfx] at HR
        clear EX EY
        generalize X[jx]'(by rw [NX.out]; omega) = p at *
        generalize Y[jy]'(by rw [NY.out]; omega) = q at *
        have HR' := Lib.hid HR
        clear HR HU
        have hsx : (n : Int) - ((k : Int) + 1) = (jx : Int) := by omega
        have hsy : (m : Int) - ((k : Int) + 1) = (jy : Int) := by omega
        cases hq : (p.data.toList == q.data.toList) with
        | true =>
          have HN : Hid (U = pfx (Y.reverse.drop (k + 1)) (X.reverse.drop (k + 1))) := by
            show _ = _
            rw [HR'.out, hq]
            rfl
          have hq2 : (!(p.toList == q.toList)) = false := by rw [ByteArray.toList_eq, ByteArray.toList_eq, hq]; rfl
          clear HR' hq
          go_wp2
          go_quiet (fail)
          go_wp2
          go_roundw
          case rel => exact ⟨k + 1, by omega, by go_num, HN.out, XR.out, YR.out, (LR.out.trans (drewN_below _ _ _) : Below w.heap.size w (wr.drewN nq))⟩
          case measure => simp [intOf]; omega
        | false =>
          have HN : Hid (U = false) := by
            show _ = _
            rw [HR'.out, hq]
            rfl
          have hq2 : (!(p.toList == q.toList)) = true := by rw [ByteArray.toList_eq, ByteArray.toList_eq, hq]; rfl
          clear HR' hq
          go_wp2
          go_quiet (fail)
          go_wp2
          go_ret
          rw [HN.out]
          exact ⟨rfl, LR.out.trans (drewN_below _ _ _)⟩
      · have HN : Hid (U = true) := by
          show _ = _
          rw [HU.out, rev_end Y k (by rw [NY.out]; omega)]
          rfl
        go_wp2
        go_ret
        rw [HN.out]
        exact ⟨rfl, LR.out⟩
end Go.Proofs.YtmabbeefeipnaaaGreatDoor.Under

/- Maps that a call makes and only adds to: what the block of such a map holds, entry by entry in the order in which they came, and the laws on a look-up, a store and a range. Condition: the keys are of a kind that can be compared without a panic (KeyT). -/
namespace Go.Proofs.YtmabbeefeipnaaaGreatDoor.MapK
open Go.RowKit Go.Proofs.YtmabbeefeipnaaaGreatDoor.Mem
open Go.ChangeMaps (setBlock heap_setBlock_same heap_setBlock_other)

/-- What the laws need of the values S as keys of type k. -/
structure KeyT (P : Program) (k : TypeId) (S : Value → Prop) : Prop where
  check : ∀ (w : World) (em : Bool) {v : Value}, S v → (Instr.checkKey em 10000 k v).run P w = .ok () w
  find : ∀ (w : World) {x : Value}, S x → ∀ es : List MapEntry, (∀ e ∈ es, S e.key) →
    ((Instr.findKey k x es).run P w = .ok none w ∧ ∀ e ∈ es, e.key ≠ x) ∨ ∃ j e, (Instr.findKey k x es).run P w = .ok (some (j, e.val)) w ∧ es[j]? = some e ∧ e.key = x
  stays : ∀ (w : World) {v : Value}, S v → (Instr.keyThatStays v v).run P w = .ok v w

theorem KeyT.of {P : Program} {k : TypeId} (K : Go.Maps.Keyed P k) {S : Value → Prop} (h : ∀ v, S v → ∃ l, keyOf P k v = some l) : KeyT P k S where
  check w em v hv := by obtain ⟨l, hl⟩ := h v hv; exact K.check w em hl
  find w x hx es hes := by obtain ⟨l, hl⟩ := h x hx; exact K.find w hl es (fun e he => h _ (hes e he))
  stays w v hv := by obtain ⟨l, hl⟩ := h v hv; exact K.stays w hl

/-- Keys of a struct's type: all that is wanted is whether two of them are equal. -/
theorem KeyT.struct {P : Program} {k : TypeId} {S : Value → Prop} (d : TypeDesc) (hd : P.underlying k = some d) (hn : ∀ x y : Value, S x → Instr.sameNow d x y = none)
    (check : ∀ (w : World) (em : Bool) {v : Value}, S v → (Instr.checkKey em 10000 k v).run P w = .ok () w)
    (same : ∀ (w : World) {x : Value}, S x → (Op.equal k x x).run P w = .ok true w)
    (diff : ∀ (w : World) {x y : Value}, S x → S y → x ≠ y → (Op.equal k x y).run P w = .ok false w)
    (stays : ∀ (w : World) {v : Value}, S v → (Instr.keyThatStays v v).run P w = .ok v w) : KeyT P k S where
  check := check
  stays := stays
  find := by
    have ask : ∀ (w : World) {x : Value}, S x → ∀ (es : List MapEntry) (i : Nat), (∀ e ∈ es, S e.key) →
        ((Instr.findAsking k x es i).run P w = .ok none w ∧ ∀ e ∈ es, e.key ≠ x) ∨ ∃ j e, (Instr.findAsking k x es i).run P w = .ok (some (i + j, e.val)) w ∧ es[j]? = some e ∧ e.key = x := by
      intro w x hx es
      induction es with
      | nil => intro i _; exact Or.inl ⟨rfl, fun e he => by cases he⟩
      | cons e es ih =>
        intro i hes
        have he := hes e (by simp)
        by_cases hq : e.key = x
        · right
          refine ⟨0, e, ?_, rfl, hq⟩
          have hrun := same w hx
          rw [Instr.findAsking, hq]
          simp only [Sem.run_bind, hrun, Result.andThen]
          rfl
        · have hrun := diff w hx he (fun h => hq h.symm)
          have e1 : (Instr.findAsking k x (e :: es) i).run P w = (Instr.findAsking k x es (i + 1)).run P w := by
            rw [Instr.findAsking]
            simp only [Sem.run_bind, hrun, Result.andThen]
            rfl
          rw [e1]
          rcases ih (i + 1) (fun e' he' => hes e' (by simp [he'])) with ⟨h1, h2⟩ | ⟨j, e', h1, h2, h3⟩
          · left
            refine ⟨h1, fun e' he' => ?_⟩
            rcases List.mem_cons.1 he' with rfl | he'
            · exact hq
            · exact h2 e' he'
          · right
            exact ⟨j + 1, e', by rw [h1, show i + 1 + j = i + (j + 1) by omega], by simpa using h2, h3⟩
    intro w x hx es hes
    have hu : (Instr.findKey k x es).run P w = (Instr.findAsking k x es).run P w := by
      simp only [Instr.findKey, Sem.run_bind, run_underlying hd, Result.andThen]
      cases es with
      | nil => rfl
      | cons e es =>
        have h0 : Instr.findNow d x (e :: es) 0 = none := by
          rw [Instr.findNow, hn x e.key hx]
        rw [h0]
    rw [hu]
    rcases ask w hx es 0 hes with h | ⟨j, e, h1, h2, h3⟩
    · exact Or.inl h
    · exact Or.inr ⟨j, e, by rw [h1, Nat.zero_add], h2, h3⟩

theorem own_mono {w : World} {base base' : Nat} {e : TypeId} {size : Nat} {v : Value} {n : Nat} {xs : List Value} (h : w.ownsRow base e size v n xs) (hb : base' ≤ base) : w.ownsRow base' e size v n xs :=
  ⟨h.1, h.2.imp id (fun ⟨g, cap, cur, a, b, r⟩ => ⟨g, cap, cur, a, Nat.le_trans hb b, r⟩)⟩

/-- Block b of w is a map with just these entries, in the order in which they came. -/
def Mp (w : World) (b : Nat) (l : List (Value × Value)) : Prop :=
  ∃ es clock, w.heap[b]? = some (.map es clock) ∧ es.toList.map (fun e => (e.key, e.val)) = l ∧ (∀ e ∈ es.toList, e.born < clock) ∧ (es.toList.map (·.born)).Nodup

section
variable {P : Program} {w w' : World} {b : Nat} {l : List (Value × Value)} {k e t : TypeId} {S : Value → Prop}

theorem Mp.lt (h : Mp w b l) : b < w.heap.size := by
  obtain ⟨es, clock, hb, _⟩ := h
  exact (Array.getElem?_eq_some_iff.1 hb).1

theorem Mp.kept (h : Mp w b l) (hk : w'.heap[b]? = w.heap[b]?) : Mp w' b l := by
  obtain ⟨es, clock, hb, h1⟩ := h
  exact ⟨es, clock, hk.trans hb, h1⟩

theorem Mp.grown {row : Option Nat} (h : Mp w b l) (hg : w.grownBy w' row) (hne : some b ≠ row) : Mp w' b l := h.kept (hg.block b h.lt hne)

theorem Mp.below {B : Nat} (h : Mp w b l) (hb : Below B w w') (hlt : b < B) : Mp w' b l := h.kept (hb.block b hlt)

theorem Mp.alloc (h : Mp w b l) (o : Obj) : Mp (w.alloc o) b l := h.grown (World.grownBy_alloc w o none) (by simp)

theorem Mp.drew (h : Mp w b l) : Mp w.drew b l := h

theorem Mp.drewN (h : Mp w b l) (q : Nat) : Mp (w.drewN q) b l := h

theorem Mp.set (h : Mp w b l) {p : Addr} (hp : b ≠ p.block) (u : Value) : Mp (w.setCell p u) b l := h.kept (Below.heap_setCell w p u b hp)

theorem Mp.made (w : World) : Mp (w.alloc (.map #[] 0)) w.heap.size [] := ⟨#[], 0, (MapKept.heap_alloc w _).1, rfl, by simp, by simp⟩

theorem mem_key {es : Array MapEntry} (h : es.toList.map (fun e => (e.key, e.val)) = l) (hS : ∀ p ∈ l, S p.1) : ∀ e ∈ es.toList, S e.key := fun e he =>
  hS (e.key, e.val) (h ▸ List.mem_map.2 ⟨e, he, rfl⟩)

/-- A look-up of a key that is not there. -/
theorem Mp.out (h : Mp w b l) (K : KeyT P k S) (ht : P.underlying t = some (.map k e)) {z : Value} (hz : (zeroValue e).run P w = .ok z w) (hS : ∀ p ∈ l, S p.1) {x : Value} (hx : S x) (hno : ∀ p ∈ l, p.1 ≠ x) (ok : Bool) :
    (Instr.lookup t (.map (some b)) x ok).run P w = .ok (if ok then .tuple #[z, .bool false] else z) w := by
  obtain ⟨es, clock, hb, hl, _⟩ := h
  rcases K.find w hx es.toList (mem_key hl hS) with ⟨hrun, _⟩ | ⟨j, e0, _, hj, hk⟩
  · simp [Instr.lookup, run_underlying ht, MapKept.run_getObj_map hb, K.check w es.isEmpty hx, hrun, hz, Result.andThen]
  · exact absurd hk (hno (e0.key, e0.val) (hl ▸ List.mem_map.2 ⟨e0, List.mem_of_getElem? hj, rfl⟩))

theorem nodup_inj {α : Type} {l : List α} (hd : l.Nodup) {i j : Nat} {a : α} (h1 : l[i]? = some a) (h2 : l[j]? = some a) : i = j := by
  obtain ⟨hi, e1⟩ := List.getElem?_eq_some_iff.1 h1
  obtain ⟨hj, e2⟩ := List.getElem?_eq_some_iff.1 h2
  have hp := List.pairwise_iff_getElem.1 hd
  rcases Nat.lt_trichotomy i j with h | h | h
  · exact absurd (e1.trans e2.symm) (hp i j hi hj h)
  · exact h
  · exact absurd (e2.trans e1.symm) (hp j i hj hi h)

theorem key_idx (hd : (l.map Prod.fst).Nodup) {x u v : Value} {i j : Nat} (h1 : l[i]? = some (x, u)) (h2 : l[j]? = some (x, v)) : i = j :=
  nodup_inj hd (a := x) (by rw [List.getElem?_map, h1]; rfl) (by rw [List.getElem?_map, h2]; rfl)

theorem key_one (hd : (l.map Prod.fst).Nodup) {x u v : Value} (h1 : (x, u) ∈ l) (h2 : (x, v) ∈ l) : u = v := by
  obtain ⟨i, e1⟩ := List.getElem?_of_mem h1
  obtain ⟨j, e2⟩ := List.getElem?_of_mem h2
  obtain rfl := key_idx hd e1 e2
  rw [e1] at e2
  cases e2
  rfl

/-- A look-up of a key that is there. -/
theorem Mp.in (h : Mp w b l) (K : KeyT P k S) (ht : P.underlying t = some (.map k e)) (hS : ∀ p ∈ l, S p.1) (hd : (l.map Prod.fst).Nodup) {x v : Value} (hx : S x) (hin : (x, v) ∈ l) (ok : Bool) :
    (Instr.lookup t (.map (some b)) x ok).run P w = .ok (if ok then .tuple #[v, .bool true] else v) w := by
  obtain ⟨es, clock, hb, hl, _⟩ := h
  rcases K.find w hx es.toList (mem_key hl hS) with ⟨_, hno⟩ | ⟨j, e0, hrun, hj, hk⟩
  · rw [← hl] at hin
    obtain ⟨e0, he, hq⟩ := List.mem_map.1 hin
    exact absurd (congrArg Prod.fst hq) (hno e0 he)
  · have hv : e0.val = v := key_one hd (x := x) (by rw [← hl, ← hk]; exact List.mem_map.2 ⟨e0, List.mem_of_getElem? hj, rfl⟩) hin
    simp [Instr.lookup, run_underlying ht, MapKept.run_getObj_map hb, K.check w es.isEmpty hx, hrun, hv, Result.andThen]

theorem grown_block {es : Array MapEntry} {c : Nat} (hb : w.heap[b]? = some (.map es c)) (o' : Obj) : w.grownBy (setBlock w b o') (some b) := by
  exact ⟨rfl, rfl, rfl, by simp [setBlock], fun i _ hi => heap_setBlock_other hb _ (fun e => hi (by rw [e]))⟩

/-- A store at a key that is not there. -/
theorem Mp.new (h : Mp w b l) (K : KeyT P k S) (ht : P.underlying t = some (.map k e)) (hS : ∀ p ∈ l, S p.1) {x : Value} (v : Value) (hx : S x) (hno : ∀ p ∈ l, p.1 ≠ x) :
    ∃ w', (Instr.mapUpdate t (.map (some b)) x v).run P w = .ok () w' ∧ Mp w' b (l ++ [(x, v)]) ∧ w.grownBy w' (some b) ∧ w'.heap.size = w.heap.size := by
  obtain ⟨es, clock, hb, hl, hborn, hnd⟩ := h
  rcases K.find w hx es.toList (mem_key hl hS) with ⟨hrun, _⟩ | ⟨j, e0, _, hj, hk⟩
  · refine ⟨setBlock w b (.map (es.push ⟨x, v, clock⟩) (clock + 1)), ?_, ⟨_, _, heap_setBlock_same hb _, ?_, ?_, ?_⟩, grown_block hb _, by simp [setBlock]⟩
    · simp [Instr.mapUpdate, run_underlying ht, MapKept.run_getObj_map hb, K.check w false hx, hrun, MapKept.run_setObj_map _ hb, Result.andThen, setBlock]
    · rw [Array.toList_push, List.map_append, hl]; rfl
    · intro e' he'
      rw [Array.toList_push, List.mem_append] at he'
      rcases he' with he' | he'
      · have := hborn e' he'; omega
      · obtain rfl := List.mem_singleton.1 he'; exact Nat.lt_succ_self _
    · rw [Array.toList_push, List.map_append, List.nodup_append]
      refine ⟨hnd, by simp, fun a ha c hc => ?_⟩
      obtain ⟨e', he', rfl⟩ := List.mem_map.1 ha
      have h1 := hborn e' he'
      simp at hc
      omega
  · exact absurd hk (hno (e0.key, e0.val) (hl ▸ List.mem_map.2 ⟨e0, List.mem_of_getElem? hj, rfl⟩))

/-- A store at a key that is there. -/
theorem Mp.old (h : Mp w b l) (K : KeyT P k S) (ht : P.underlying t = some (.map k e)) (hS : ∀ p ∈ l, S p.1) (hd : (l.map Prod.fst).Nodup) {x u : Value} (v : Value) (hx : S x) {j : Nat} (hin : l[j]? = some (x, u)) :
    ∃ w', (Instr.mapUpdate t (.map (some b)) x v).run P w = .ok () w' ∧ Mp w' b (l.set j (x, v)) ∧ w.grownBy w' (some b) ∧ w'.heap.size = w.heap.size := by
  obtain ⟨es, clock, hb, hl, hborn, hnd⟩ := h
  rcases K.find w hx es.toList (mem_key hl hS) with ⟨_, hno⟩ | ⟨i, e0, hrun, hi, hk⟩
  · have hm := List.mem_of_getElem? hin
    rw [← hl] at hm
    obtain ⟨e0, he, hq⟩ := List.mem_map.1 hm
    exact absurd (congrArg Prod.fst hq) (hno e0 he)
  · have hli : l[i]? = some (e0.key, e0.val) := by rw [← hl, List.getElem?_map, hi]; rfl
    rw [hk] at hli
    obtain rfl := key_idx hd hli hin
    have hget : es[i]? = some e0 := by rw [← Array.getElem?_toList]; exact hi
    refine ⟨setBlock w b (.map (es.modify i fun e => { e with key := x, val := v }) clock), ?_, ⟨_, _, heap_setBlock_same hb _, ?_, ?_, ?_⟩, grown_block hb _, by simp [setBlock]⟩
    · have hst := K.stays w hx
      have hck := K.check w false hx
      subst hk
      simp [Instr.mapUpdate, run_underlying ht, MapKept.run_getObj_map hb, hck, hrun, hget, hst, MapKept.run_setObj_map _ hb, Result.andThen, setBlock]
    · rw [Array.toList_modify, ← hl]
      refine List.ext_getElem? fun n => ?_
      rw [List.getElem?_map, List.getElem?_modify, List.getElem?_set]
      by_cases hn : i = n
      · subst hn
        have : i < es.toList.length := (List.getElem?_eq_some_iff.1 hi).1
        rw [Array.length_toList] at this
        simp [this]
      · simp [hn]
    · intro e' he'
      rw [Array.toList_modify] at he'
      obtain ⟨n, hn⟩ := List.getElem?_of_mem he'
      rw [List.getElem?_modify] at hn
      obtain ⟨e1, h1, rfl⟩ := Option.map_eq_some_iff.1 hn
      have := hborn e1 (List.mem_of_getElem? h1)
      split <;> exact this
    · have : (es.modify i fun e => { e with key := x, val := v }).toList.map (·.born) = es.toList.map (·.born) := by
        rw [Array.toList_modify]
        refine List.ext_getElem? fun n => ?_
        rw [List.getElem?_map, List.getElem?_map, List.getElem?_modify]
        cases es.toList[n]? <;> simp
        split <;> rfl
      rw [this]
      exact hnd

/-- 'm[k]' at the operation. -/
theorem wp_look {ops : Array Oper} {rest : List Oper} {o : Oper} {a : Act} {Q : Exit → Act → World → Prop}
    (hg : o.guard = none) (m x : Operand) (ok : Bool) (hop : o.op = Op.lookup t m x ok) (key r : Value) (hm : a.eval m = .map (some b)) (hx : a.eval x = key)
    (hrun : (Instr.lookup t (.map (some b)) key ok).run P w = .ok r w) (hK : wpList P ops Q rest (a.put o.dst r) w) : wpList P ops Q (o :: rest) a w := by
  refine wpList_plain hg fun K' hK' => ?_
  unfold Oper.wp
  simp [execOp, hop, hm, hx, hrun, Result.andThen]
  exact hK' _ _ hK

/-- 'm[k] = v' at the operation. -/
theorem wp_store {ops : Array Oper} {rest : List Oper} {o : Oper} {a : Act} {Q : Exit → Act → World → Prop}
    (hg : o.guard = none) (m x v : Operand) (hop : o.op = Op.mapUpdate t m x v) (key u : Value) (hm : a.eval m = .map (some b)) (hx : a.eval x = key) (hv : a.eval v = u)
    (l' : List (Value × Value)) (hrun : ∃ w', (Instr.mapUpdate t (.map (some b)) key u).run P w = .ok () w' ∧ Mp w' b l' ∧ w.grownBy w' (some b) ∧ w'.heap.size = w.heap.size)
    (hK : ∀ w', Mp w' b l' → w.grownBy w' (some b) → w'.heap.size = w.heap.size → wpList P ops Q rest (a.put o.dst undef) w') : wpList P ops Q (o :: rest) a w := by
  obtain ⟨w', h1, h2, h3, h4⟩ := hrun
  refine wpList_plain hg fun K' hK' => ?_
  unfold Oper.wp
  simp [execOp, hop, hm, hx, hv, h1, Result.andThen]
  exact hK' _ _ (hK w' h2 h3 h4)
end
end Go.Proofs.YtmabbeefeipnaaaGreatDoor.MapK
