/- What l10Uniq does in the model: the records in order, of alike ones one, and of one key one time to live; the row is the call's own. Condition: fewer than 400000001 records, of at most 400000000 bytes a text. -/
import Derived.Test.YtjgmocmaeadjdaaSetMath
import Derived.Test.YtjgmocmaeadjdaaWt
import Derived.Test.YtjgmocmaeadjdaaMemR
import Derived.Laws.StructEq
import Derived.Deep.QuietTactic
import Derived.BigQuiet
import Derived.Test.YtjgmocmaeadjdaaZokMath
import Derived.Test.YtjgmocmaeadjdaaMemZ
import Derived.Test.YtjgmocmaeadjdaaLabSpec
import Derived.Test.YtjgmocmaeadjdaaNameMath
import Derived.Test.YtjgmocmaeadjdaaMem
import Derived.Maps.RangeRun
import Derived.Maps.OwnOps
import Derived.Deep.AppendLies
import Derived.Test.YtjgmocmaeadjdaaSortZ
import Derived.Test.YtjgmocmaeadjdaaUqzMath
import Derived.IntWalk
import Derived.Deep.DeepCutAuto
/- Plain facts: whether an element is in a list. -/
namespace Go.Proofs.Ytjgmocmaeadjdaa.Isin
open Go.Proofs.Ytjgmocmaeadjdaa.SetMath

/-- Whether x is in the list. -/
noncomputable def isin {α : Type} (l : List α) (x : α) : Bool := @decide (x ∈ l) (Classical.propDecidable _)

theorem isin_true {α : Type} {l : List α} {x : α} (h : x ∈ l) : isin l x = true := @decide_eq_true _ (Classical.propDecidable _) h

theorem isin_false {α : Type} {l : List α} {x : α} (h : x ∉ l) : isin l x = false := @decide_eq_false _ (Classical.propDecidable _) h

theorem not_zero {α : Type} (l : List α) (x : α) : x ∉ l.take 0 := by simp

theorem isin_at {α : Type} (l : List α) (x : α) (k : Nat) (h : k < l.length) : l[k] = x → isin l x = true := fun e => isin_true (e ▸ List.getElem_mem h)

theorem not_next {α : Type} (l : List α) (x : α) (k : Nat) (h : k < l.length) : x ∉ l.take k → ¬ l[k] = x → x ∉ l.take (k + 1) := by
  intro h1 h2
  rw [List.take_succ_eq_append_getElem h, List.mem_append, List.mem_singleton]
  exact fun h3 => h3.elim h1 (fun e => h2 e.symm)

theorem bytes_ne {a b : ByteArray} (h : ¬ a = b) : (a.toList == b.toList) = false := by
  cases e : (a.toList == b.toList) with
  | false => rfl
  | true =>
    have := eq_of_beq e
    rw [ByteArray.toList_eq, ByteArray.toList_eq] at this
    exact absurd (by cases a; cases b; congr; exact Array.toList_inj.1 this) h

end Go.Proofs.Ytjgmocmaeadjdaa.Isin

/- What SetOf does in the model: the records of a name and a type, in order. Condition: fewer than 400000001 records. -/
namespace Go.Proofs.Ytjgmocmaeadjdaa.SetS
open Go.RowKit Go.Proofs.Ytjgmocmaeadjdaa.Mem Go.Proofs.Ytjgmocmaeadjdaa.MemR Go.Proofs.Ytjgmocmaeadjdaa.SetMath Go.Proofs.Ytjgmocmaeadjdaa.AppR Go.Proofs.Ytjgmocmaeadjdaa.Isin Go.Proofs.Ytjgmocmaeadjdaa.Wt

/-- append of one new record onto a row of the call's own, the new block's number as the walk spells it. -/
theorem append_at {w : World} {ops : Array Oper} {rest : List Oper} {o : Oper} {a : Act} {Q : Exit → Act → World → Prop} (hgd : o.guard = none) (s x : Operand)
    (ho : o.op = .call { callee := .builtin .append, args := #[s, x], argTypes := #[24, 24] })
    (base g n cap : Nat) (l : List Rec) (hs : a.eval s = .slice (some ⟨g, 0, none⟩) n cap) (hown : w.ownsRow base 56 6 (.slice (some ⟨g, 0, none⟩) n cap) n (fl l))
    (y : Rec) (p : Nat) (hp : w.heap.size = p) (hx : a.eval x = .slice (some ⟨p, 0, none⟩) 1 1) (hn : n ≤ 800000000) (hbase : base ≤ w.heap.size)
    (h : ∀ g' cap' w', w'.ownsRow base 56 6 (.slice (some ⟨g', 0, none⟩) (n + 1) cap') (n + 1) (fl (l ++ [y])) → (w.alloc (.cells #[.string y.name, .int .i64 y.ty, .int .i64 y.ttl, .int .i64 y.n, .string y.host, .string y.text] 56)).grownBy w' (some g) → wpList Try.prog ops Q rest (a.put o.dst (.slice (some ⟨g', 0, none⟩) (n + 1) cap')) w') : wpList Try.prog ops Q (o :: rest) a (w.alloc (.cells #[.string y.name, .int .i64 y.ty, .int .i64 y.ttl, .int .i64 y.n, .string y.host, .string y.text] 56)) := by
  subst hp
  have hb : Bk (w.alloc (.cells #[.string y.name, .int .i64 y.ty, .int .i64 y.ttl, .int .i64 y.n, .string y.host, .string y.text] 56)) w.heap.size 56 (fl [y]) := heap_alloc_new w _
  exact append_recs hgd s x ho base g n cap l hs (hown.alloc _) w.heap.size 0 1 1 _ [y] hx (bk_sr0 hb rfl) hn (by omega) (by simp; omega) h

set_option maxHeartbeats 4000000 in
theorem spec (s : ByteArray) (t : Int) (b0 o0 n c : Nat) (l : List Rec) (w : World) (hs : Sr w w.heap.size (some ⟨b0, o0, none⟩) n l) (hn : n ≤ 400000000) : Calls Try.prog 33 #[.slice (some ⟨b0, o0, none⟩) n c, .string s, .int .i64 t] w (GivesL w (sf s t l)) := by
  have HS := Lib.hid hs
  clear hs
  have P0 := Lib.hid (owns_new w)
  have L0 := Lib.hid ((Below.refl w.heap.size w).alloc (Nat.le_refl _) (.cells #[] 56))
  go_enter Try.func33, Try.ntmps33
  go_wp2
  generalize w.alloc (.cells #[] 56) = w0 at *
  go_loopw [7, 8] (fun out i wr => ∃ k g m cap : Nat, k ≤ n ∧ m ≤ k ∧ i = .int .i64 k ∧ out = .slice (some ⟨g, 0, none⟩) m cap ∧ Hid (wr.ownsRow w.heap.size 56 6 (.slice (some ⟨g, 0, none⟩) m cap) m (fl (sf s t (l.take k)))) ∧ Hid (Below w.heap.size w wr)) (fun _ i _ => n - (intOf i).toNat)
  case atStart => exact ⟨0, w.heap.size, 0, 0, Nat.zero_le _, Nat.le_refl _, rfl, rfl, P0.out, L0.out⟩
  case round =>
    clear P0 L0
    obtain ⟨k, g, m, cap, hk, hm, rfl, rfl, HO, HL⟩ := hrel
    by_cases hlt : k < n
    · obtain ⟨b, off, hA, hbB, hcs⟩ := HS.out.2 (by omega)
      obtain ⟨rfl, rfl⟩ : b0 = b ∧ o0 = off := by simp at hA; exact hA
      clear hA
      have hkl : k < l.length := by rw [HS.out.1]; exact hlt
      obtain ⟨e0, e1, e2, e3, e4, e5⟩ := (hcs k hkl).below HL.out hbB
      clear hcs
      have HT := Lib.hid (sf_take s t l k hkl)
      generalize l[k] = r at *
      by_cases hnm : ¬ r.name = s
      · have HA := Lib.hid (show sf s t (l.take (k + 1)) = sf s t (l.take k) from by rw [HT.out, isk_false (fun h => hnm h.1), if_neg (by decide), List.append_nil])
        have t1 : (r.name.toList == s.toList) = false := bytes_ne hnm
        have t2 : (r.name.data.toList == s.data.toList) = false := by rw [← ByteArray.toList_eq, ← ByteArray.toList_eq]; exact t1
        clear hnm
        go_wp2
        go_roundw
        case rel => exact ⟨k + 1, g, m, cap, by omega, by omega, by go_num, rfl, by rw [HA.out]; exact HO.out, HL.out⟩
        case measure => simp [intOf]; omega
      replace hnm : r.name = s := Classical.not_not.1 hnm
      have t1 : (r.name.toList == s.toList) = true := by rw [hnm]; simp
      have t2 : (r.name.data.toList == s.data.toList) = true := by rw [hnm]; simp
      by_cases hty : ¬ r.ty = t
      · have HA := Lib.hid (show sf s t (l.take (k + 1)) = sf s t (l.take k) from by rw [HT.out, isk_false (fun h => hty h.2), if_neg (by decide), List.append_nil])
        have t0 : (r.ty == t) = false := by simpa using hty
        clear hty hnm
        go_wp2
        go_roundw
        case rel => exact ⟨k + 1, g, m, cap, by omega, by omega, by go_num, rfl, by rw [HA.out]; exact HO.out, HL.out⟩
        case measure => simp [intOf]; omega
      replace hty : r.ty = t := Classical.not_not.1 hty
      have HA := Lib.hid (show sf s t (l.take (k + 1)) = sf s t (l.take k) ++ [r] from by rw [HT.out, isk_true ⟨hnm, hty⟩, if_pos rfl])
      have t0 : (r.ty == t) = true := by simpa using hty
      clear hty hnm
      go_wp2_with (at_builtin; refine append_at (w := wr) rfl (.tmp 32) (.tmp 37) rfl w.heap.size g m cap (sf s t (l.take k)) rfl HO.out r wr.heap.size rfl rfl (by omega) (by have h1 := HO.out.lt g rfl; omega) ?_)
      intro g' cap' w3 hown hgrow
      have O3 := Lib.hid hown
      have L3 := Lib.hid ((HL.out.alloc HL.out.size (.cells #[.string r.name, .int .i64 r.ty, .int .i64 r.ttl, .int .i64 r.n, .string r.host, .string r.text] 56)).grown hgrow (Nat.le_trans HL.out.size (by simp)) (fun j hj => by cases hj; have h1 := HO.out.lt g rfl; omega))
      clear hown hgrow
      go_wp2
      go_roundw
      case rel => exact ⟨k + 1, g', m + 1, cap', by omega, by omega, by go_num, rfl, by rw [HA.out]; exact O3.out, L3.out⟩
      case measure => simp [intOf]; omega
    · obtain rfl : n = k := by omega
      have HN := Lib.hid (take_all HS.out.1)
      go_wp2
      go_ret
      have ho := HO.out
      rw [HN.out] at ho
      obtain ⟨r', hb, _, hcap, hg⟩ := bk_of_owns6 ho
      have hz : (sf s t l).length = m := by have := ho.1; rw [fl_len] at this; omega
      exact ⟨g, m, cap, r', rfl, hz, hcap, hg, hb, HL.out⟩
end Go.Proofs.Ytjgmocmaeadjdaa.SetS

/- Two records that are the same, compared with == : true, and nothing is turned. -/
namespace Go.Proofs.Ytjgmocmaeadjdaa.EqlR
open Go.RowKit Go.Proofs.Ytjgmocmaeadjdaa.Mem Go.Proofs.Ytjgmocmaeadjdaa.MemR

theorem eql_same (r : Rec) (w : World) : Sem.run Try.prog (binOp .eql 56 (.agg #[.string r.name, .int .i64 r.ty, .int .i64 r.ttl, .int .i64 r.n, .string r.host, .string r.text]) (.agg #[.string r.name, .int .i64 r.ty, .int .i64 r.ttl, .int .i64 r.n, .string r.host, .string r.text])) w = .ok (.bool true) w := by
  have u3 := Try.underlying3
  have a3 := Try.isAgg3
  have z3 := Try.sizeOf3
  have u9 := Try.underlying9
  have a9 := Try.isAgg9
  have z9 := Try.sizeOf9
  have hS : Try.prog.underlying 56 = some (.struct (Try.prog.fieldsOf 56)) := by kernel_rfl
  have hp : Try.prog.stoodInHeld 56 = false := by kernel_rfl
  rw [run_eql_struct, show (10000 : Nat) = 9999 + 1 from rfl, run_equalIn_agg w 9999 56 _ _ hS hp]
  simp only [Program.fieldsOf, Try.underlying56]
  go_simp

theorem bytes_ne {a b : ByteArray} (h : a ≠ b) : (a.toList == b.toList) = false := by
  cases e : (a.toList == b.toList) with
  | false => rfl
  | true =>
    have := eq_of_beq e
    rw [ByteArray.toList_eq, ByteArray.toList_eq] at this
    exact absurd (by cases a; cases b; congr; exact Array.toList_inj.1 this) h
theorem eql_diff {r s : Rec} (h : r ≠ s) (w : World) : Sem.run Try.prog (binOp .eql 56 (.agg #[.string r.name, .int .i64 r.ty, .int .i64 r.ttl, .int .i64 r.n, .string r.host, .string r.text]) (.agg #[.string s.name, .int .i64 s.ty, .int .i64 s.ttl, .int .i64 s.n, .string s.host, .string s.text])) w = .ok (.bool false) w := by
  have u3 := Try.underlying3
  have a3 := Try.isAgg3
  have z3 := Try.sizeOf3
  have u9 := Try.underlying9
  have a9 := Try.isAgg9
  have z9 := Try.sizeOf9
  have hS : Try.prog.underlying 56 = some (.struct (Try.prog.fieldsOf 56)) := by kernel_rfl
  have hp : Try.prog.stoodInHeld 56 = false := by kernel_rfl
  rw [run_eql_struct, show (10000 : Nat) = 9999 + 1 from rfl, run_equalIn_agg w 9999 56 _ _ hS hp]
  simp only [Program.fieldsOf, Try.underlying56]
  obtain ⟨n1, t1, l1, m1, h1, x1⟩ := r
  obtain ⟨n2, t2, l2, m2, h2, x2⟩ := s
  simp only
  by_cases c0 : n1 = n2
  · subst c0
    by_cases c1 : t1 = t2
    · subst c1
      by_cases c2 : l1 = l2
      · subst c2
        by_cases c3 : m1 = m2
        · subst c3
          by_cases c4 : h1 = h2
          · subst c4
            by_cases c5 : x1 = x2
            · subst c5; exact absurd rfl h
            · have k := bytes_ne c5
              go_simp
          · have k := bytes_ne c4
            go_simp
        · go_simp
      · go_simp
    · go_simp
  · have k := bytes_ne c0
    go_simp

theorem grd : Try.prog.eqGuardType Try.prog.depth 56 = false := by kernel_rfl
end Go.Proofs.Ytjgmocmaeadjdaa.EqlR

/- What SameRecords does in the program and in the model: whether two lists of records are equal in all fields of all records. Condition: fewer than 400000001 records. -/
namespace Go.Proofs.Ytjgmocmaeadjdaa.SameR
open Go.RowKit Go.Proofs.Ytjgmocmaeadjdaa.Mem Go.Proofs.Ytjgmocmaeadjdaa.MemR

/-- Whether two lists of records are equal. A def, so that no step of a walk opens it. -/
noncomputable def sm (l m : List Rec) : Bool := @decide (l = m) (Classical.propDecidable _)
theorem sm_true {l m : List Rec} (h : l = m) : sm l m = true := @decide_eq_true _ (Classical.propDecidable _) h
theorem sm_false {l m : List Rec} (h : l ≠ m) : sm l m = false := @decide_eq_false _ (Classical.propDecidable _) h
theorem bytes_ne {a b : ByteArray} (h : a ≠ b) : (a.toList == b.toList) = false := by
  cases e : (a.toList == b.toList) with
  | false => rfl
  | true =>
    have := eq_of_beq e
    rw [ByteArray.toList_eq, ByteArray.toList_eq] at this
    exact absurd (by cases a; cases b; congr; exact Array.toList_inj.1 this) h
theorem neq_same (r : Rec) (w : World) : Sem.run Try.prog (binOp .neq 56 (.agg #[.string r.name, .int .i64 r.ty, .int .i64 r.ttl, .int .i64 r.n, .string r.host, .string r.text]) (.agg #[.string r.name, .int .i64 r.ty, .int .i64 r.ttl, .int .i64 r.n, .string r.host, .string r.text])) w = .ok (.bool false) w := by
  have u3 := Try.underlying3
  have a3 := Try.isAgg3
  have z3 := Try.sizeOf3
  have u9 := Try.underlying9
  have a9 := Try.isAgg9
  have z9 := Try.sizeOf9
  have hS : Try.prog.underlying 56 = some (.struct (Try.prog.fieldsOf 56)) := by kernel_rfl
  have hp : Try.prog.stoodInHeld 56 = false := by kernel_rfl
  rw [run_neq_struct, show (10000 : Nat) = 9999 + 1 from rfl, run_equalIn_agg w 9999 56 _ _ hS hp]
  simp only [Program.fieldsOf, Try.underlying56]
  go_simp

theorem neq_diff {r s : Rec} (h : r ≠ s) (w : World) : Sem.run Try.prog (binOp .neq 56 (.agg #[.string r.name, .int .i64 r.ty, .int .i64 r.ttl, .int .i64 r.n, .string r.host, .string r.text]) (.agg #[.string s.name, .int .i64 s.ty, .int .i64 s.ttl, .int .i64 s.n, .string s.host, .string s.text])) w = .ok (.bool true) w := by
  have u3 := Try.underlying3
  have a3 := Try.isAgg3
  have z3 := Try.sizeOf3
  have u9 := Try.underlying9
  have a9 := Try.isAgg9
  have z9 := Try.sizeOf9
  have hS : Try.prog.underlying 56 = some (.struct (Try.prog.fieldsOf 56)) := by kernel_rfl
  have hp : Try.prog.stoodInHeld 56 = false := by kernel_rfl
  rw [run_neq_struct, show (10000 : Nat) = 9999 + 1 from rfl, run_equalIn_agg w 9999 56 _ _ hS hp]
  simp only [Program.fieldsOf, Try.underlying56]
  obtain ⟨n1, t1, l1, m1, h1, x1⟩ := r
  obtain ⟨n2, t2, l2, m2, h2, x2⟩ := s
  simp only
  by_cases c0 : n1 = n2
  · subst c0
    by_cases c1 : t1 = t2
    · subst c1
      by_cases c2 : l1 = l2
      · subst c2
        by_cases c3 : m1 = m2
        · subst c3
          by_cases c4 : h1 = h2
          · subst c4
            by_cases c5 : x1 = x2
            · subst c5; exact absurd rfl h
            · have k := bytes_ne c5
              go_simp
          · have k := bytes_ne c4
            go_simp
        · go_simp
      · go_simp
    · go_simp
  · have k := bytes_ne c0
    go_simp

theorem grd : Try.prog.eqGuardType Try.prog.depth 56 = false := by kernel_rfl

theorem take_same {l m : List Rec} {k : Nat} (h : l.take k = m.take k) (h1 : k < l.length) (h2 : k < m.length) (e : l[k] = m[k]) : l.take (k + 1) = m.take (k + 1) := by
  rw [List.take_succ_eq_append_getElem h1, List.take_succ_eq_append_getElem h2, h, e]
theorem take_all {l m : List Rec} {n : Nat} (h : l.take n = m.take n) (h1 : l.length = n) (h2 : m.length = n) : l = m := by
  rwa [List.take_of_length_le (by omega), List.take_of_length_le (by omega)] at h
theorem at_diff {l m : List Rec} {k : Nat} (h1 : k < l.length) (h2 : k < m.length) (e : l[k] ≠ m[k]) : l ≠ m := fun h => by subst h; exact e rfl

set_option maxHeartbeats 1000000 in
theorem recs (A A' : Option Addr) (n c n' c' : Nat) (l m : List Rec) (w : World) (hs : Sr w w.heap.size A n l) (hs' : Sr w w.heap.size A' n' m) (hn : n ≤ 400000000) (hn' : n' ≤ 400000000) :
    Calls Try.prog 10 #[.slice A n c, .slice A' n' c'] w fun e w' => e = .returned (.bool (sm l m)) ∧ Below w.heap.size w w' := by
  have mixed : Try.prog.follows .mixedOrders = true := by kernel_rfl
  have hg := grd
  have HS := Lib.hid hs
  have HT := Lib.hid hs'
  clear hs hs'
  by_cases hnn : n = n'
  · obtain rfl := hnn
    have hd : ((n : Int) != (n : Int)) = false := by simp
    go_enter Try.func10, Try.ntmps10
    go_wp2
    go_loopw [5] (fun i wr => ∃ k : Nat, k ≤ n ∧ i = .int .i64 k ∧ Hid (∃ q, wr = w.drewN q) ∧ Hid (l.take k = m.take k)) (fun i _ => n - (intOf i).toNat)
    case atStart => exact ⟨0, Nat.zero_le _, rfl, ⟨0, rfl⟩, rfl⟩
    case round =>
      obtain ⟨k, hk, rfl, HW, HK⟩ := hrel
      obtain ⟨q, rfl⟩ := HW.out
      clear HW
      by_cases hlt : k < n
      · obtain ⟨b, off, rfl, hbB, hcs⟩ := HS.out.2 (by omega)
        obtain ⟨b', off', rfl, hbB', hcs'⟩ := HT.out.2 (by omega)
        have hkl : k < l.length := by rw [HS.out.1]; exact hlt
        have hkm : k < m.length := by rw [HT.out.1]; exact hlt
        obtain ⟨e0, e1, e2, e3, e4, e5⟩ := hcs k hkl
        obtain ⟨f0, f1, f2, f3, f4, f5⟩ := hcs' k hkm
        clear hcs hcs'
        by_cases hrs : l[k] = m[k]
        · have HN := Lib.hid (take_same HK.out hkl hkm hrs)
          rw [← hrs] at f0 f1 f2 f3 f4 f5
          clear hrs
          generalize l[k] = r at *
          have hq := neq_same r
          go_wp2
          go_quiet (fail)
          clear hq e0 e1 e2 e3 e4 e5 f0 f1 f2 f3 f4 f5
          go_wp2
          go_roundw
          case rel => exact ⟨k + 1, by omega, by go_num, ⟨_, rfl⟩, HN.out⟩
          case measure => simp [intOf]; omega
        · have HN := Lib.hid (sm_false (at_diff hkl hkm hrs))
          have hq := neq_diff hrs
          clear hrs
          generalize l[k] = r at *
          generalize m[k] = s at *
          go_wp2
          go_quiet (fail)
          clear hq e0 e1 e2 e3 e4 e5 f0 f1 f2 f3 f4 f5
          go_wp2
          go_ret
          exact ⟨by rw [HN.out]; rfl, (drewN_below w q _).trans (drewN_below _ _ _)⟩
      · obtain rfl : n = k := by omega
        have HN := Lib.hid (sm_true (take_all HK.out HS.out.1 HT.out.1))
        go_wp2
        go_ret
        exact ⟨by rw [HN.out]; rfl, drewN_below _ _ _⟩
  · have hd : ((n : Int) != (n' : Int)) = true := by rw [bne_iff_ne]; omega
    have HN := Lib.hid (sm_false (l := l) (m := m) (fun h => hnn (by rw [← HS.out.1, ← HT.out.1, h])))
    clear hnn
    go_enter Try.func10, Try.ntmps10
    go_wp2
    go_ret
    exact ⟨by rw [HN.out]; rfl, Below.refl _ _⟩

end Go.Proofs.Ytjgmocmaeadjdaa.SameR

/- What aliasesOk does in the program: no alias is at the apex, and no other record has an alias' name. Condition: fewer than 400000001 records. -/
namespace Go.Proofs.Ytjgmocmaeadjdaa.AliI
open Go.RowKit Go.Proofs.Ytjgmocmaeadjdaa.Mem Go.Proofs.Ytjgmocmaeadjdaa.MemR Go.Proofs.Ytjgmocmaeadjdaa.SetMath Go.Proofs.Ytjgmocmaeadjdaa.NameMath Go.Proofs.Ytjgmocmaeadjdaa.NameOk Go.Proofs.Ytjgmocmaeadjdaa.ZoneMath Go.Proofs.Ytjgmocmaeadjdaa.MemZ Go.Proofs.Ytjgmocmaeadjdaa.RecOk Go.Proofs.Ytjgmocmaeadjdaa.LessR Go.Proofs.Ytjgmocmaeadjdaa.ZokMath Go.Proofs.Ytjgmocmaeadjdaa.Labels Go.Proofs.Ytjgmocmaeadjdaa.BoxR

theorem text_ne {x y : ByteArray} (h : x ≠ y) : (x.toList == y.toList) = false := by
  rw [beq_eq_false_iff_ne, ByteArray.toList_eq, ByteArray.toList_eq]
  exact fun e => h (MemS.text_ext e)

theorem text_ne2 {x y : ByteArray} (h : x ≠ y) : (x.data.toList == y.data.toList) = false := by
  rw [beq_eq_false_iff_ne]
  exact fun e => h (MemS.text_ext e)

end Go.Proofs.Ytjgmocmaeadjdaa.AliI

/- What the model's Under does: it tells whether the labels of its second text end those of its first. Condition: at most 400000000 bytes each. -/
namespace Go.Proofs.Ytjgmocmaeadjdaa.Under
open Go.RowKit Go.Proofs.Ytjgmocmaeadjdaa.Mem Go.Proofs.Ytjgmocmaeadjdaa.MemS Go.Proofs.Ytjgmocmaeadjdaa.AppS Go.Proofs.Ytjgmocmaeadjdaa.Split Go.Proofs.Ytjgmocmaeadjdaa.NameMath

set_option maxHeartbeats 2000000 in
theorem spec (a b : ByteArray) (w : World) (ha : a.size ≤ 400000000) (hb : b.size ≤ 400000000) : Calls Try.prog 32 #[.string a, .string b] w fun e w' => e = .returned (.bool (Un a b)) ∧ Below w.heap.size w w' := by
  have SA := Lib.hid (fun w => Labels.spec a w ha)
  have SB := Lib.hid (fun w => Labels.spec b w hb)
  have hla := lab_len a
  have hlb := lab_len b
  have HU : Hid (Un a b = pfx (Lab b).reverse (Lab a).reverse) := rfl
  generalize Un a b = U at *
  generalize Lab a = X at *
  generalize Lab b = Y at *
  have HX : Hid (X.length ≤ 400000001) := by show _ ≤ _; omega
  have HY : Hid (Y.length ≤ 400000001) := by show _ ≤ _; omega
  clear hla hlb ha hb
  go_enter Try.func32, Try.ntmps32
  go_wp2_with fail
  refine (SA.out w).mono ?_
  rintro e w1 ⟨gx, n, cx, rx, rfl, hm, hcx, hg, hk, hl⟩
  have hn : n ≤ 400000001 := by have := HX.out; omega
  have NX := Lib.hid hm
  have X1 := Lib.hid hk
  have L1 := Lib.hid hl
  clear hm hg hk hl HX
  go_wp2_with fail
  refine (SB.out w1).mono ?_
  rintro e w2 ⟨gy, m, cy, ry, rfl, hm, hcy, hg, hk, hl⟩
  have hm' : m ≤ 400000001 := by have := HY.out; omega
  have NY := Lib.hid hm
  have Y2 := Lib.hid hk
  have X2 := Lib.hid (X1.out.below hl X1.out.lt)
  have L2 := Lib.hid (L1.out.trans (hl.mono L1.out.size))
  clear hm hg hk hl HY X1 L1
  by_cases hlen : n < m
  · have HF := Lib.hid (HU.out.trans (pfx_long (by rw [List.length_reverse, List.length_reverse, NX.out, NY.out]; exact hlen)))
    go_wp2
    go_ret
    rw [HF.out]
    exact ⟨rfl, L2.out⟩
  · have hlen' : ¬ (n : Int) < (m : Int) := by omega
    go_wp2
    go_loopw [7] (fun i wr => ∃ k : Nat, k ≤ m ∧ i = .int .i64 (k + 1) ∧ Hid (U = pfx (Y.reverse.drop k) (X.reverse.drop k)) ∧ Hid (Bk wr gx 9 (X.map tv ++ rx)) ∧ Hid (Bk wr gy 9 (Y.map tv ++ ry)) ∧ Hid (Below w.heap.size w wr)) (fun i _ => m + 1 - (intOf i).toNat)
    case atStart => exact ⟨0, Nat.zero_le _, rfl, HU.out, X2.out, Y2.out, L2.out⟩
    case round =>
      clear X2 Y2 L2 HU
      obtain ⟨k, hk, rfl, HU, XR, YR, LR⟩ := hrel
      by_cases hlt : k < m
      · obtain ⟨jx, hjx⟩ : ∃ j, j + k + 1 = n := ⟨n - k - 1, by omega⟩
        obtain ⟨jy, hjy⟩ : ∃ j, j + k + 1 = m := ⟨m - k - 1, by omega⟩
        have EX := rev_drop X jx k (by rw [NX.out]; exact hjx)
        have EY := rev_drop Y jy k (by rw [NY.out]; exact hjy)
        have hcx' : wr.cell? ⟨gx, jx, none⟩ = some (.string (X[jx]'(by rw [NX.out]; omega))) := by
          rw [XR.out.cell, List.getElem?_append_left (by rw [List.length_map, NX.out]; omega), tv_get]
        have hcy' : wr.cell? ⟨gy, jy, none⟩ = some (.string (Y[jy]'(by rw [NY.out]; omega))) := by
          rw [YR.out.cell, List.getElem?_append_left (by rw [List.length_map, NY.out]; omega), tv_get]
        have HR := HU.out
        rw [EX, EY, pfx] at HR
        clear EX EY
        generalize X[jx]'(by rw [NX.out]; omega) = p at *
        generalize Y[jy]'(by rw [NY.out]; omega) = q at *
        have HR' := Lib.hid HR
        clear HR HU
        have hsx : (n : Int) - ((k : Int) + 1) = (jx : Int) := by omega
        have hsy : (m : Int) - ((k : Int) + 1) = (jy : Int) := by omega
        cases hq : (p.data.toList == q.data.toList) with
        | true =>
          have HN : Hid (U = pfx (Y.reverse.drop (k + 1)) (X.reverse.drop (k + 1))) := by
            show _ = _
            rw [HR'.out, hq]
            rfl
          have hq2 : (!(p.toList == q.toList)) = false := by rw [ByteArray.toList_eq, ByteArray.toList_eq, hq]; rfl
          clear HR' hq
          go_wp2
          go_quiet (fail)
          go_wp2
          go_roundw
          case rel => exact ⟨k + 1, by omega, by go_num, HN.out, XR.out, YR.out, (LR.out.trans (drewN_below _ _ _) : Below w.heap.size w (wr.drewN nq))⟩
          case measure => simp [intOf]; omega
        | false =>
          have HN : Hid (U = false) := by
            show _ = _
            rw [HR'.out, hq]
            rfl
          have hq2 : (!(p.toList == q.toList)) = true := by rw [ByteArray.toList_eq, ByteArray.toList_eq, hq]; rfl
          clear HR' hq
          go_wp2
          go_quiet (fail)
          go_wp2
          go_ret
          rw [HN.out]
          exact ⟨rfl, LR.out.trans (drewN_below _ _ _)⟩
      · have HN : Hid (U = true) := by
          show _ = _
          rw [HU.out, rev_end Y k (by rw [NY.out]; omega)]
          rfl
        go_wp2
        go_ret
        rw [HN.out]
        exact ⟨rfl, LR.out⟩
end Go.Proofs.Ytjgmocmaeadjdaa.Under

/- Maps that a call makes and only adds to: what the block of such a map holds, entry by entry in the order in which they came, and the laws on a look-up, a store and a range. Condition: the keys are of a kind that can be compared without a panic (KeyT). -/
namespace Go.Proofs.Ytjgmocmaeadjdaa.MapK
open Go.RowKit Go.Proofs.Ytjgmocmaeadjdaa.Mem
open Go.ChangeMaps (setBlock heap_setBlock_same heap_setBlock_other)

/-- What the laws need of the values S as keys of type k. -/
structure KeyT (P : Program) (k : TypeId) (S : Value → Prop) : Prop where
  check : ∀ (w : World) (em : Bool) {v : Value}, S v → (Instr.checkKey em 10000 k v).run P w = .ok () w
  find : ∀ (w : World) {x : Value}, S x → ∀ es : List MapEntry, (∀ e ∈ es, S e.key) →
    ((Instr.findKey k x es).run P w = .ok none w ∧ ∀ e ∈ es, e.key ≠ x) ∨ ∃ j e, (Instr.findKey k x es).run P w = .ok (some (j, e.val)) w ∧ es[j]? = some e ∧ e.key = x
  stays : ∀ (w : World) {v : Value}, S v → (Instr.keyThatStays v v).run P w = .ok v w

theorem KeyT.of {P : Program} {k : TypeId} (K : Go.Maps.Keyed P k) {S : Value → Prop} (h : ∀ v, S v → ∃ l, keyOf P k v = some l) : KeyT P k S where
  check w em v hv := by obtain ⟨l, hl⟩ := h v hv; exact K.check w em hl
  find w x hx es hes := by obtain ⟨l, hl⟩ := h x hx; exact K.find w hl es (fun e he => h _ (hes e he))
  stays w v hv := by obtain ⟨l, hl⟩ := h v hv; exact K.stays w hl

/-- Keys of a struct's type: all that is wanted is whether two of them are equal. -/
theorem KeyT.struct {P : Program} {k : TypeId} {S : Value → Prop} (d : TypeDesc) (hd : P.underlying k = some d) (hn : ∀ x y : Value, S x → Instr.sameNow d x y = none)
    (check : ∀ (w : World) (em : Bool) {v : Value}, S v → (Instr.checkKey em 10000 k v).run P w = .ok () w)
    (same : ∀ (w : World) {x : Value}, S x → (Op.equal k x x).run P w = .ok true w)
    (diff : ∀ (w : World) {x y : Value}, S x → S y → x ≠ y → (Op.equal k x y).run P w = .ok false w)
    (stays : ∀ (w : World) {v : Value}, S v → (Instr.keyThatStays v v).run P w = .ok v w) : KeyT P k S where
  check := check
  stays := stays
  find := by
    have ask : ∀ (w : World) {x : Value}, S x → ∀ (es : List MapEntry) (i : Nat), (∀ e ∈ es, S e.key) →
        ((Instr.findAsking k x es i).run P w = .ok none w ∧ ∀ e ∈ es, e.key ≠ x) ∨ ∃ j e, (Instr.findAsking k x es i).run P w = .ok (some (i + j, e.val)) w ∧ es[j]? = some e ∧ e.key = x := by
      intro w x hx es
      induction es with
      | nil => intro i _; exact Or.inl ⟨rfl, fun e he => by cases he⟩
      | cons e es ih =>
        intro i hes
        have he := hes e (by simp)
        by_cases hq : e.key = x
        · right
          refine ⟨0, e, ?_, rfl, hq⟩
          have hrun := same w hx
          rw [Instr.findAsking, hq]
          simp only [Sem.run_bind, hrun, Result.andThen]
          rfl
        · have hrun := diff w hx he (fun h => hq h.symm)
          have e1 : (Instr.findAsking k x (e :: es) i).run P w = (Instr.findAsking k x es (i + 1)).run P w := by
            rw [Instr.findAsking]
            simp only [Sem.run_bind, hrun, Result.andThen]
            rfl
          rw [e1]
          rcases ih (i + 1) (fun e' he' => hes e' (by simp [he'])) with ⟨h1, h2⟩ | ⟨j, e', h1, h2, h3⟩
          · left
            refine ⟨h1, fun e' he' => ?_⟩
            rcases List.mem_cons.1 he' with rfl | he'
            · exact hq
            · exact h2 e' he'
          · right
            exact ⟨j + 1, e', by rw [h1, show i + 1 + j = i + (j + 1) by omega], by simpa using h2, h3⟩
    intro w x hx es hes
    have hu : (Instr.findKey k x es).run P w = (Instr.findAsking k x es).run P w := by
      simp only [Instr.findKey, Sem.run_bind, run_underlying hd, Result.andThen]
      cases es with
      | nil => rfl
      | cons e es =>
        have h0 : Instr.findNow d x (e :: es) 0 = none := by
          rw [Instr.findNow, hn x e.key hx]
        rw [h0]
    rw [hu]
    rcases ask w hx es 0 hes with h | ⟨j, e, h1, h2, h3⟩
    · exact Or.inl h
    · exact Or.inr ⟨j, e, by rw [h1, Nat.zero_add], h2, h3⟩

theorem own_mono {w : World} {base base' : Nat} {e : TypeId} {size : Nat} {v : Value} {n : Nat} {xs : List Value} (h : w.ownsRow base e size v n xs) (hb : base' ≤ base) : w.ownsRow base' e size v n xs :=
  ⟨h.1, h.2.imp id (fun ⟨g, cap, cur, a, b, r⟩ => ⟨g, cap, cur, a, Nat.le_trans hb b, r⟩)⟩

/-- Block b of w is a map with just these entries, in the order in which they came. -/
def Mp (w : World) (b : Nat) (l : List (Value × Value)) : Prop :=
  ∃ es clock, w.heap[b]? = some (.map es clock) ∧ es.toList.map (fun e => (e.key, e.val)) = l ∧ (∀ e ∈ es.toList, e.born < clock) ∧ (es.toList.map (·.born)).Nodup

section
variable {P : Program} {w w' : World} {b : Nat} {l : List (Value × Value)} {k e t : TypeId} {S : Value → Prop}

theorem Mp.lt (h : Mp w b l) : b < w.heap.size := by
  obtain ⟨es, clock, hb, _⟩ := h
  exact (Array.getElem?_eq_some_iff.1 hb).1

theorem Mp.kept (h : Mp w b l) (hk : w'.heap[b]? = w.heap[b]?) : Mp w' b l := by
  obtain ⟨es, clock, hb, h1⟩ := h
  exact ⟨es, clock, hk.trans hb, h1⟩

theorem Mp.grown {row : Option Nat} (h : Mp w b l) (hg : w.grownBy w' row) (hne : some b ≠ row) : Mp w' b l := h.kept (hg.block b h.lt hne)

theorem Mp.below {B : Nat} (h : Mp w b l) (hb : Below B w w') (hlt : b < B) : Mp w' b l := h.kept (hb.block b hlt)

theorem Mp.alloc (h : Mp w b l) (o : Obj) : Mp (w.alloc o) b l := h.grown (World.grownBy_alloc w o none) (by simp)

theorem Mp.drew (h : Mp w b l) : Mp w.drew b l := h

theorem Mp.drewN (h : Mp w b l) (q : Nat) : Mp (w.drewN q) b l := h

theorem Mp.set (h : Mp w b l) {p : Addr} (hp : b ≠ p.block) (u : Value) : Mp (w.setCell p u) b l := h.kept (Below.heap_setCell w p u b hp)

theorem Mp.made (w : World) : Mp (w.alloc (.map #[] 0)) w.heap.size [] := ⟨#[], 0, (MapKept.heap_alloc w _).1, rfl, by simp, by simp⟩

theorem mem_key {es : Array MapEntry} (h : es.toList.map (fun e => (e.key, e.val)) = l) (hS : ∀ p ∈ l, S p.1) : ∀ e ∈ es.toList, S e.key := fun e he =>
  hS (e.key, e.val) (h ▸ List.mem_map.2 ⟨e, he, rfl⟩)

/-- A look-up of a key that is not there. -/
theorem Mp.out (h : Mp w b l) (K : KeyT P k S) (ht : P.underlying t = some (.map k e)) {z : Value} (hz : (zeroValue e).run P w = .ok z w) (hS : ∀ p ∈ l, S p.1) {x : Value} (hx : S x) (hno : ∀ p ∈ l, p.1 ≠ x) (ok : Bool) :
    (Instr.lookup t (.map (some b)) x ok).run P w = .ok (if ok then .tuple #[z, .bool false] else z) w := by
  obtain ⟨es, clock, hb, hl, _⟩ := h
  rcases K.find w hx es.toList (mem_key hl hS) with ⟨hrun, _⟩ | ⟨j, e0, _, hj, hk⟩
  · simp [Instr.lookup, run_underlying ht, MapKept.run_getObj_map hb, K.check w es.isEmpty hx, hrun, hz, Result.andThen]
  · exact absurd hk (hno (e0.key, e0.val) (hl ▸ List.mem_map.2 ⟨e0, List.mem_of_getElem? hj, rfl⟩))

theorem nodup_inj {α : Type} {l : List α} (hd : l.Nodup) {i j : Nat} {a : α} (h1 : l[i]? = some a) (h2 : l[j]? = some a) : i = j := by
  obtain ⟨hi, e1⟩ := List.getElem?_eq_some_iff.1 h1
  obtain ⟨hj, e2⟩ := List.getElem?_eq_some_iff.1 h2
  have hp := List.pairwise_iff_getElem.1 hd
  rcases Nat.lt_trichotomy i j with h | h | h
  · exact absurd (e1.trans e2.symm) (hp i j hi hj h)
  · exact h
  · exact absurd (e2.trans e1.symm) (hp j i hj hi h)

theorem key_idx (hd : (l.map Prod.fst).Nodup) {x u v : Value} {i j : Nat} (h1 : l[i]? = some (x, u)) (h2 : l[j]? = some (x, v)) : i = j :=
  nodup_inj hd (a := x) (by rw [List.getElem?_map, h1]; rfl) (by rw [List.getElem?_map, h2]; rfl)

theorem key_one (hd : (l.map Prod.fst).Nodup) {x u v : Value} (h1 : (x, u) ∈ l) (h2 : (x, v) ∈ l) : u = v := by
  obtain ⟨i, e1⟩ := List.getElem?_of_mem h1
  obtain ⟨j, e2⟩ := List.getElem?_of_mem h2
  obtain rfl := key_idx hd e1 e2
  rw [e1] at e2
  cases e2
  rfl

/-- A look-up of a key that is there. -/
theorem Mp.in (h : Mp w b l) (K : KeyT P k S) (ht : P.underlying t = some (.map k e)) (hS : ∀ p ∈ l, S p.1) (hd : (l.map Prod.fst).Nodup) {x v : Value} (hx : S x) (hin : (x, v) ∈ l) (ok : Bool) :
    (Instr.lookup t (.map (some b)) x ok).run P w = .ok (if ok then .tuple #[v, .bool true] else v) w := by
  obtain ⟨es, clock, hb, hl, _⟩ := h
  rcases K.find w hx es.toList (mem_key hl hS) with ⟨_, hno⟩ | ⟨j, e0, hrun, hj, hk⟩
  · rw [← hl] at hin
    obtain ⟨e0, he, hq⟩ := List.mem_map.1 hin
    exact absurd (congrArg Prod.fst hq) (hno e0 he)
  · have hv : e0.val = v := key_one hd (x := x) (by rw [← hl, ← hk]; exact List.mem_map.2 ⟨e0, List.mem_of_getElem? hj, rfl⟩) hin
    simp [Instr.lookup, run_underlying ht, MapKept.run_getObj_map hb, K.check w es.isEmpty hx, hrun, hv, Result.andThen]

theorem grown_block {es : Array MapEntry} {c : Nat} (hb : w.heap[b]? = some (.map es c)) (o' : Obj) : w.grownBy (setBlock w b o') (some b) := by
  exact ⟨rfl, rfl, rfl, by simp [setBlock], fun i _ hi => heap_setBlock_other hb _ (fun e => hi (by rw [e]))⟩

/-- A store at a key that is not there. -/
theorem Mp.new (h : Mp w b l) (K : KeyT P k S) (ht : P.underlying t = some (.map k e)) (hS : ∀ p ∈ l, S p.1) {x : Value} (v : Value) (hx : S x) (hno : ∀ p ∈ l, p.1 ≠ x) :
    ∃ w', (Instr.mapUpdate t (.map (some b)) x v).run P w = .ok () w' ∧ Mp w' b (l ++ [(x, v)]) ∧ w.grownBy w' (some b) ∧ w'.heap.size = w.heap.size := by
  obtain ⟨es, clock, hb, hl, hborn, hnd⟩ := h
  rcases K.find w hx es.toList (mem_key hl hS) with ⟨hrun, _⟩ | ⟨j, e0, _, hj, hk⟩
  · refine ⟨setBlock w b (.map (es.push ⟨x, v, clock⟩) (clock + 1)), ?_, ⟨_, _, heap_setBlock_same hb _, ?_, ?_, ?_⟩, grown_block hb _, by simp [setBlock]⟩
    · simp [Instr.mapUpdate, run_underlying ht, MapKept.run_getObj_map hb, K.check w false hx, hrun, MapKept.run_setObj_map _ hb, Result.andThen, setBlock]
    · rw [Array.toList_push, List.map_append, hl]; rfl
    · intro e' he'
      rw [Array.toList_push, List.mem_append] at he'
      rcases he' with he' | he'
      · have := hborn e' he'; omega
      · obtain rfl := List.mem_singleton.1 he'; exact Nat.lt_succ_self _
    · rw [Array.toList_push, List.map_append, List.nodup_append]
      refine ⟨hnd, by simp, fun a ha c hc => ?_⟩
      obtain ⟨e', he', rfl⟩ := List.mem_map.1 ha
      have h1 := hborn e' he'
      simp at hc
      omega
  · exact absurd hk (hno (e0.key, e0.val) (hl ▸ List.mem_map.2 ⟨e0, List.mem_of_getElem? hj, rfl⟩))

/-- A store at a key that is there. -/
theorem Mp.old (h : Mp w b l) (K : KeyT P k S) (ht : P.underlying t = some (.map k e)) (hS : ∀ p ∈ l, S p.1) (hd : (l.map Prod.fst).Nodup) {x u : Value} (v : Value) (hx : S x) {j : Nat} (hin : l[j]? = some (x, u)) :
    ∃ w', (Instr.mapUpdate t (.map (some b)) x v).run P w = .ok () w' ∧ Mp w' b (l.set j (x, v)) ∧ w.grownBy w' (some b) ∧ w'.heap.size = w.heap.size := by
  obtain ⟨es, clock, hb, hl, hborn, hnd⟩ := h
  rcases K.find w hx es.toList (mem_key hl hS) with ⟨_, hno⟩ | ⟨i, e0, hrun, hi, hk⟩
  · have hm := List.mem_of_getElem? hin
    rw [← hl] at hm
    obtain ⟨e0, he, hq⟩ := List.mem_map.1 hm
    exact absurd (congrArg Prod.fst hq) (hno e0 he)
  · have hli : l[i]? = some (e0.key, e0.val) := by rw [← hl, List.getElem?_map, hi]; rfl
    rw [hk] at hli
    obtain rfl := key_idx hd hli hin
    have hget : es[i]? = some e0 := by rw [← Array.getElem?_toList]; exact hi
    refine ⟨setBlock w b (.map (es.modify i fun e => { e with key := x, val := v }) clock), ?_, ⟨_, _, heap_setBlock_same hb _, ?_, ?_, ?_⟩, grown_block hb _, by simp [setBlock]⟩
    · have hst := K.stays w hx
      have hck := K.check w false hx
      subst hk
      simp [Instr.mapUpdate, run_underlying ht, MapKept.run_getObj_map hb, hck, hrun, hget, hst, MapKept.run_setObj_map _ hb, Result.andThen, setBlock]
    · rw [Array.toList_modify, ← hl]
      refine List.ext_getElem? fun n => ?_
      rw [List.getElem?_map, List.getElem?_modify, List.getElem?_set]
      by_cases hn : i = n
      · subst hn
        have : i < es.toList.length := (List.getElem?_eq_some_iff.1 hi).1
        rw [Array.length_toList] at this
        simp [this]
      · simp [hn]
    · intro e' he'
      rw [Array.toList_modify] at he'
      obtain ⟨n, hn⟩ := List.getElem?_of_mem he'
      rw [List.getElem?_modify] at hn
      obtain ⟨e1, h1, rfl⟩ := Option.map_eq_some_iff.1 hn
      have := hborn e1 (List.mem_of_getElem? h1)
      split <;> exact this
    · have : (es.modify i fun e => { e with key := x, val := v }).toList.map (·.born) = es.toList.map (·.born) := by
        rw [Array.toList_modify]
        refine List.ext_getElem? fun n => ?_
        rw [List.getElem?_map, List.getElem?_map, List.getElem?_modify]
        cases es.toList[n]? <;> simp
        split <;> rfl
      rw [this]
      exact hnd

/-- 'm[k]' at the operation. -/
theorem wp_look {ops : Array Oper} {rest : List Oper} {o : Oper} {a : Act} {Q : Exit → Act → World → Prop}
    (hg : o.guard = none) (m x : Operand) (ok : Bool) (hop : o.op = Op.lookup t m x ok) (key r : Value) (hm : a.eval m = .map (some b)) (hx : a.eval x = key)
    (hrun : (Instr.lookup t (.map (some b)) key ok).run P w = .ok r w) (hK : wpList P ops Q rest (a.put o.dst r) w) : wpList P ops Q (o :: rest) a w := by
  refine wpList_plain hg fun K' hK' => ?_
  unfold Oper.wp
  simp [execOp, hop, hm, hx, hrun, Result.andThen]
  exact hK' _ _ hK

/-- 'm[k] = v' at the operation. -/
theorem wp_store {ops : Array Oper} {rest : List Oper} {o : Oper} {a : Act} {Q : Exit → Act → World → Prop}
    (hg : o.guard = none) (m x v : Operand) (hop : o.op = Op.mapUpdate t m x v) (key u : Value) (hm : a.eval m = .map (some b)) (hx : a.eval x = key) (hv : a.eval v = u)
    (l' : List (Value × Value)) (hrun : ∃ w', (Instr.mapUpdate t (.map (some b)) key u).run P w = .ok () w' ∧ Mp w' b l' ∧ w.grownBy w' (some b) ∧ w'.heap.size = w.heap.size)
    (hK : ∀ w', Mp w' b l' → w.grownBy w' (some b) → w'.heap.size = w.heap.size → wpList P ops Q rest (a.put o.dst undef) w') : wpList P ops Q (o :: rest) a w := by
  obtain ⟨w', h1, h2, h3, h4⟩ := hrun
  refine wpList_plain hg fun K' hK' => ?_
  unfold Oper.wp
  simp [execOp, hop, hm, hx, hv, h1, Result.andThen]
  exact hK' _ _ (hK w' h2 h3 h4)
end
end Go.Proofs.Ytjgmocmaeadjdaa.MapK

/- What l10Uniq does in the model: the records in order, of alike ones one, and of one key one time to live; the row is the call's own. Condition: fewer than 400000001 records, of at most 400000000 bytes a text. -/
namespace Go.Proofs.Ytjgmocmaeadjdaa.UniqZ
open Go.RowKit Go.Proofs.Ytjgmocmaeadjdaa.Mem Go.Proofs.Ytjgmocmaeadjdaa.MemR Go.Proofs.Ytjgmocmaeadjdaa.SetMath Go.Proofs.Ytjgmocmaeadjdaa.NameMath Go.Proofs.Ytjgmocmaeadjdaa.NameOk Go.Proofs.Ytjgmocmaeadjdaa.ZoneMath Go.Proofs.Ytjgmocmaeadjdaa.MemZ Go.Proofs.Ytjgmocmaeadjdaa.RecOk Go.Proofs.Ytjgmocmaeadjdaa.LessR Go.Proofs.Ytjgmocmaeadjdaa.ZokMath Go.Proofs.Ytjgmocmaeadjdaa.Labels Go.Proofs.Ytjgmocmaeadjdaa.BoxR Go.Proofs.Ytjgmocmaeadjdaa.AliI Go.Proofs.Ytjgmocmaeadjdaa.Under Go.Proofs.Ytjgmocmaeadjdaa.SrtMath Go.Proofs.Ytjgmocmaeadjdaa.UqzMath

/-- The call returned a row of its own with these records, and turned nothing that was there. -/
def GivesU (w : World) (l : List Rec) (e : Ending) (w' : World) : Prop :=
  ∃ S g m cap, Srt l S ∧ e = .returned (.slice (some ⟨g, 0, none⟩) m cap) ∧ (uqz S).length = m ∧ w'.ownsRow w.heap.size 56 6 (.slice (some ⟨g, 0, none⟩) m cap) m (fl (uqz S)) ∧ Below w.heap.size w w'

theorem own_set {w : World} {base gb gl n cap : Nat} {L : List Rec} (h : w.ownsRow base 56 6 (.slice (some ⟨gl, 0, none⟩) n cap) n (fl L)) (hb : gl ≠ gb) (j : Nat) (u : Value) : (w.setCell ⟨gb, j, none⟩ u).ownsRow base 56 6 (.slice (some ⟨gl, 0, none⟩) n cap) n (fl L) :=
  h.kept (row := some gb) ⟨rfl, rfl, rfl, by simp [World.setCell], fun k _ hne => Below.heap_setCell _ _ _ _ (fun e => hne (by simp [e]))⟩ (Or.inr (fun e => hb (Option.some.inj e)))

theorem last_at {U : List Rec} {q : Nat} (h : U.length = q + 1) (hq : q < U.length) : U.getLast? = some U[q] := by
  rw [List.getLast?_eq_getElem?, h, Nat.add_sub_cancel, List.getElem?_eq_getElem hq]

set_option maxRecDepth 100000 in
set_option maxHeartbeats 16000000 in
theorem spec (b0 o0 n c : Nat) (l : List Rec) (w : World) (hs : Sr w w.heap.size (some ⟨b0, o0, none⟩) n l) (hn : n ≤ 400000000) (hf : ∀ r ∈ l, Fine r) : Calls Try.prog 68 #[.slice (some ⟨b0, o0, none⟩) n c] w (GivesU w l) := by
  have SO := Lib.hid (SortZ.spec b0 o0 n c l w hs hn hf)
  have HLN := Lib.hid hs.1
  clear hs hf
  go_enter Try.func68, Try.ntmps68
  go_wp2_with fail
  refine SO.out.mono ?_
  rintro e w1 ⟨S, gs, cs, rs, hsrt, rfl, hcs, hgs, hb, hl⟩
  have SR := Lib.hid hsrt
  have HSL : Hid (S.length = n) := show _ = _ by rw [hsrt.length, HLN.out]
  have HS : Hid (Sr w1 w1.heap.size (some ⟨gs, 0, none⟩) n S) := bk_sr hb HSL.out
  have L0 := Lib.hid hl
  have P2 := Lib.hid (AppR.owns_new w1)
  have L2 := Lib.hid ((Below.refl w1.heap.size w1).alloc (Nat.le_refl _) (.cells #[] 56))
  clear hsrt hcs hgs hb hl SO
  go_wp2
  generalize w1.alloc (.cells #[] 56) = w2 at *
  go_loopw [4, 5] (fun out i wr => ∃ (k g m cap : Nat) (U : List Rec), k ≤ n ∧ m ≤ k ∧ i = .int .i64 k ∧ out = .slice (some ⟨g, 0, none⟩) m cap ∧ uqz (S.take k) = U ∧ Hid (wr.ownsRow w1.heap.size 56 6 (.slice (some ⟨g, 0, none⟩) m cap) m (fl U)) ∧ Hid (Below w1.heap.size w1 wr)) (fun _ i _ => n - (intOf i).toNat)
  case atStart => exact ⟨0, w1.heap.size, 0, 0, [], Nat.zero_le _, Nat.le_refl _, rfl, rfl, rfl, P2.out, L2.out⟩
  case round =>
    clear P2 L2
    obtain ⟨k, g, m, cap, U, hk, hm, rfl, rfl, hU, HO, HL⟩ := hrel
    have HU0 := Lib.hid hU
    clear hU
    have HUL : Hid (U.length = m) := show _ = _ by have := HO.out.1; rw [fl_len] at this; omega
    by_cases hlt : k < n
    · obtain ⟨b, off, hA, hbB, hcs⟩ := HS.out.2 (by omega)
      obtain ⟨rfl, rfl⟩ : gs = b ∧ 0 = off := by simp at hA; exact hA
      clear hA
      have hkl : k < S.length := by rw [HSL.out]; exact hlt
      obtain ⟨e0, e1, e2, e3, e4, e5⟩ : Ce wr gs (k * 6) S[k] := by have := (hcs k hkl).below HL.out hbB; rwa [Nat.zero_add] at this
      clear hcs
      have HT : Hid (uqz (S.take (k + 1)) = ust U S[k]) := show _ = _ by rw [uqz_take S k hkl, HU0.out]
      generalize S[k] = r at *
      by_cases hm0 : m = 0
      · have HU : Hid (uqz (S.take (k + 1)) = U ++ [r]) := show _ = _ by
          rw [HT.out, List.eq_nil_of_length_eq_zero (HUL.out.trans hm0), ust_nil]; rfl
        have d0 : decide ((0 : Int) < (m : Int)) = false := by simp; omega
        have d1 : decide (0 < m) = false := by simp; omega
        clear HT HU0 hm0
        go_wp2
        go_quiet (fail)
        have L9 : Hid (Below w1.heap.size w1 ((wr.alloc (.cells #[.string r.name, .int .i64 r.ty, .int .i64 r.ttl, .int .i64 r.n, .string r.host, .string r.text] 56)).drewN nq)) := (HL.out.alloc HL.out.size (.cells #[.string r.name, .int .i64 r.ty, .int .i64 r.ttl, .int .i64 r.n, .string r.host, .string r.text] 56)).trans (drewN_below _ _ _)
        have B9 : Hid (Bk ((wr.alloc (.cells #[.string r.name, .int .i64 r.ty, .int .i64 r.ttl, .int .i64 r.n, .string r.host, .string r.text] 56)).drewN nq) wr.heap.size 56 (rc r)) := heap_alloc_new wr _
        have O9 : Hid (((wr.alloc (.cells #[.string r.name, .int .i64 r.ty, .int .i64 r.ttl, .int .i64 r.n, .string r.host, .string r.text] 56)).drewN nq).ownsRow w1.heap.size 56 6 (.slice (some ⟨g, 0, none⟩) m cap) m (fl U)) := HO.out.alloc (.cells #[.string r.name, .int .i64 r.ty, .int .i64 r.ttl, .int .i64 r.n, .string r.host, .string r.text] 56)
        have N9 : Hid (g < wr.heap.size) := (HO.out.lt g rfl).2
        clear HL HO e0 e1 e2 e3 e4 e5
        generalize (wr.alloc (.cells #[.string r.name, .int .i64 r.ty, .int .i64 r.ttl, .int .i64 r.n, .string r.host, .string r.text] 56)).drewN nq = w9 at *
        generalize wr.heap.size = ga at *
        have b0 : w9.cell? ⟨ga, 0, none⟩ = some (.string r.name) := B9.out.cell 0
        have b1 : w9.cell? ⟨ga, 1, none⟩ = some (.int .i64 r.ty) := B9.out.cell 1
        have b2 : w9.cell? ⟨ga, 2, none⟩ = some (.int .i64 r.ttl) := B9.out.cell 2
        have b3 : w9.cell? ⟨ga, 3, none⟩ = some (.int .i64 r.n) := B9.out.cell 3
        have b4 : w9.cell? ⟨ga, 4, none⟩ = some (.string r.host) := B9.out.cell 4
        have b5 : w9.cell? ⟨ga, 5, none⟩ = some (.string r.text) := B9.out.cell 5
        go_wp2_with (at_builtin; refine SetS.append_at (w := w9) rfl (.tmp 61) (.tmp 63) rfl w1.heap.size g m cap U rfl O9.out r w9.heap.size rfl rfl (by omega) (by have h1 := O9.out.lt g rfl; omega) ?_)
        intro g7 cap7 w7 hown hgrow
        have O7 := Lib.hid hown
        have gge : w1.heap.size ≤ g := (O9.out.lt g rfl).1
        have L7 := Lib.hid ((L9.out.alloc L9.out.size (.cells #[.string r.name, .int .i64 r.ty, .int .i64 r.ttl, .int .i64 r.n, .string r.host, .string r.text] 56)).grown hgrow (Nat.le_trans L9.out.size (by simp)) (fun j hj => by cases hj; exact gge))
        clear hown hgrow b0 b1 b2 b3 b4 b5
        go_wp2
        go_roundw
        case rel => exact ⟨k + 1, g7, m + 1, cap7, _, by omega, by omega, by go_num, rfl, by rw [HU.out], O7.out, L7.out⟩
        case measure => simp [intOf]; omega
      obtain ⟨q, rfl⟩ : ∃ q, m = q + 1 := ⟨m - 1, by omega⟩
      have hql : q < U.length := by rw [HUL.out]; omega
      have HLAST := Lib.hid (last_at HUL.out hql)
      have HC : Hid (Ce wr g (q * 6) U[q]) := by
        obtain ⟨r', hb, _⟩ := bk_of_owns6 HO.out
        exact bk_ce hb q hql
      generalize U[q] = p at *
      have ltg : g < wr.heap.size := (HO.out.lt g rfl).2
      obtain ⟨p0, p1, p2, p3, p4, p5⟩ := HC.out
      have i1 : (0 : Int) < ((q + 1 : Nat) : Int) := by omega
      have i1' : (0 : Int) < (q : Int) + 1 := by omega
      have i2 : ((q + 1 : Nat) : Int) - 1 = (q : Int) := by omega
      have i2' : (q : Int) + 1 - 1 = (q : Int) := by omega
      have i3 : IntKind.i64.wrap (q : Int) = (q : Int) := IntWalk.i64_in _ (by omega)
      have i4 : (q : Int) < (q : Int) + 1 := by omega
      have i5 : (0 : Int) ≤ (q : Int) := by omega
      clear hm0
      by_cases hnm : p.name = r.name
      · have n1 : (p.name.toList == r.name.toList) = true := by rw [hnm]; simp
        have n2 : (p.name.data.toList == r.name.data.toList) = true := by rw [hnm]; simp
        by_cases hty : p.ty = r.ty
        · have t0 : (p.ty == r.ty) = true := by simpa using hty
          have C0 : Hid (Ce (wr.alloc (.cells #[.string r.name, .int .i64 r.ty, .int .i64 r.ttl, .int .i64 r.n, .string r.host, .string r.text] 56)) g (q * 6) p) := HC.out.below ((Below.refl wr.heap.size wr).alloc (Nat.le_refl _) (.cells #[.string r.name, .int .i64 r.ty, .int .i64 r.ttl, .int .i64 r.n, .string r.host, .string r.text] 56)) ltg
          go_wp2
          go_quiet (fail)
          have L9 : Hid (Below w1.heap.size w1 ((wr.alloc (.cells #[.string r.name, .int .i64 r.ty, .int .i64 r.ttl, .int .i64 r.n, .string r.host, .string r.text] 56)).drewN nq)) := (HL.out.alloc HL.out.size (.cells #[.string r.name, .int .i64 r.ty, .int .i64 r.ttl, .int .i64 r.n, .string r.host, .string r.text] 56)).trans (drewN_below _ _ _)
          have B9 : Hid (Bk ((wr.alloc (.cells #[.string r.name, .int .i64 r.ty, .int .i64 r.ttl, .int .i64 r.n, .string r.host, .string r.text] 56)).drewN nq) wr.heap.size 56 (rc r)) := heap_alloc_new wr _
          have O9 : Hid (((wr.alloc (.cells #[.string r.name, .int .i64 r.ty, .int .i64 r.ttl, .int .i64 r.n, .string r.host, .string r.text] 56)).drewN nq).ownsRow w1.heap.size 56 6 (.slice (some ⟨g, 0, none⟩) (q + 1) cap) (q + 1) (fl U)) := HO.out.alloc (.cells #[.string r.name, .int .i64 r.ty, .int .i64 r.ttl, .int .i64 r.n, .string r.host, .string r.text] 56)
          have N9 : Hid (g < wr.heap.size) := (HO.out.lt g rfl).2
          clear HL HO e0 e1 e2 e3 e4 e5
          have C0 : Hid (Ce ((wr.alloc (.cells #[.string r.name, .int .i64 r.ty, .int .i64 r.ttl, .int .i64 r.n, .string r.host, .string r.text] 56)).drewN nq) g (q * 6) p) := C0.out
          clear p0 p1 p2 p3 p4 p5
          generalize (wr.alloc (.cells #[.string r.name, .int .i64 r.ty, .int .i64 r.ttl, .int .i64 r.n, .string r.host, .string r.text] 56)).drewN nq = w9 at *
          generalize wr.heap.size = ga at *
          have C9 : Hid (Ce w9 g (q * 6) p) := C0.out
          obtain ⟨p0, p1, p2, p3, p4, p5⟩ := C9.out
          have f2 := B9.out.free 2
          have b2 : w9.cell? ⟨ga, 2, none⟩ = some (.int .i64 r.ttl) := B9.out.cell 2
          go_upto_region 10 with (fail)
          have NE : Hid (g ≠ ga) := Nat.ne_of_lt N9.out
          have B10 : Hid (Bk (w9.setCell ⟨ga, 2, none⟩ (.int .i64 p.ttl)) ga 56 (rc (SetMath.wr p.ttl r))) := B9.out.set 2 _
          have O10 := Lib.hid (own_set O9.out NE.out 2 (.int .i64 p.ttl))
          have L10 : Hid (Below w1.heap.size w1 (w9.setCell ⟨ga, 2, none⟩ (.int .i64 p.ttl))) := L9.out.setCell (p := ⟨ga, 2, none⟩) (Nat.le_trans (O9.out.lt g rfl).1 (Nat.le_of_lt N9.out)) _
          have C10 : Hid (Ce (w9.setCell ⟨ga, 2, none⟩ (.int .i64 p.ttl)) g (q * 6) p) := C9.out.move fun a ha => World.cell?_of_block (Below.heap_setCell _ _ _ _ (by rw [ha]; exact NE.out))
          clear p0 p1 p2 p3 p4 p5 f2 b2 B9 O9 L9 C9 C0
          generalize w9.setCell ⟨ga, 2, none⟩ (.int .i64 p.ttl) = w10 at *
          obtain ⟨p0, p1, p2, p3, p4, p5⟩ := C10.out
          have b0 : w10.cell? ⟨ga, 0, none⟩ = some (.string r.name) := B10.out.cell 0
          have b1 : w10.cell? ⟨ga, 1, none⟩ = some (.int .i64 r.ty) := B10.out.cell 1
          have b2 : w10.cell? ⟨ga, 2, none⟩ = some (.int .i64 p.ttl) := B10.out.cell 2
          have b3 : w10.cell? ⟨ga, 3, none⟩ = some (.int .i64 r.n) := B10.out.cell 3
          have b4 : w10.cell? ⟨ga, 4, none⟩ = some (.string r.host) := B10.out.cell 4
          have b5 : w10.cell? ⟨ga, 5, none⟩ = some (.string r.text) := B10.out.cell 5
          by_cases hpr : p = SetMath.wr p.ttl r
          · have HU : Hid (uqz (S.take (k + 1)) = U) := show _ = _ by rw [HT.out, ust_same HLAST.out ⟨hnm, hty⟩ hpr]
            have qe : ∀ w : World, Sem.run Try.prog (binOp .eql 56 (.agg #[.string p.name, .int .i64 p.ty, .int .i64 p.ttl, .int .i64 p.n, .string p.host, .string p.text]) (.agg #[.string r.name, .int .i64 r.ty, .int .i64 p.ttl, .int .i64 r.n, .string r.host, .string r.text])) w = .ok (.bool true) w := fun w => by
              have h := EqlR.eql_same p w
              have e : (.agg #[.string p.name, .int .i64 p.ty, .int .i64 p.ttl, .int .i64 p.n, .string p.host, .string p.text] : Value) = .agg #[.string r.name, .int .i64 r.ty, .int .i64 p.ttl, .int .i64 r.n, .string r.host, .string r.text] := by
                have := congrArg (fun x : Rec => (.agg #[.string x.name, .int .i64 x.ty, .int .i64 x.ttl, .int .i64 x.n, .string x.host, .string x.text] : Value)) hpr
                exact this
              exact (congrArg (fun v => Sem.run Try.prog (binOp .eql 56 (.agg #[.string p.name, .int .i64 p.ty, .int .i64 p.ttl, .int .i64 p.n, .string p.host, .string p.text]) v) w) e.symm).trans h
            clear HT HU0 hnm hty hpr
            go_quiet (fail)
            have O11 : Hid ((w10.drewN nq).ownsRow w1.heap.size 56 6 (.slice (some ⟨g, 0, none⟩) (q + 1) cap) (q + 1) (fl U)) := O10.out
            have L11 : Hid (Below w1.heap.size w1 (w10.drewN nq)) := L10.out.trans (drewN_below _ _ _)
            clear p0 p1 p2 p3 p4 p5 b0 b1 b2 b3 b4 b5 qe
            go_wp2
            go_roundw
            case rel => exact ⟨k + 1, g, q + 1, cap, U, by omega, by omega, by go_num, rfl, HU.out, O11.out, L11.out⟩
            case measure => simp [intOf]; omega
          · have HU : Hid (uqz (S.take (k + 1)) = U ++ [Rec.mk r.name r.ty p.ttl r.n r.host r.text]) := show _ = _ by rw [HT.out, ust_key HLAST.out ⟨hnm, hty⟩ hpr]; rfl
            have qe : ∀ w : World, Sem.run Try.prog (binOp .eql 56 (.agg #[.string p.name, .int .i64 p.ty, .int .i64 p.ttl, .int .i64 p.n, .string p.host, .string p.text]) (.agg #[.string r.name, .int .i64 r.ty, .int .i64 p.ttl, .int .i64 r.n, .string r.host, .string r.text])) w = .ok (.bool false) w := by
              have h := EqlR.eql_diff hpr
              simp only [SetMath.wr] at h
              exact h
            clear HT HU0 hnm hty hpr
            go_quiet (fail)
            have O11 : Hid ((w10.drewN nq).ownsRow w1.heap.size 56 6 (.slice (some ⟨g, 0, none⟩) (q + 1) cap) (q + 1) (fl U)) := O10.out
            have L11 : Hid (Below w1.heap.size w1 (w10.drewN nq)) := L10.out.trans (drewN_below _ _ _)
            have B11 : Hid (Bk (w10.drewN nq) ga 56 (rc (SetMath.wr p.ttl r))) := B10.out
            clear p0 p1 p2 p3 p4 p5 b0 b1 b2 b3 b4 b5 qe O10 L10 B10 C10
            generalize w10.drewN nq = w11 at *
            have b0 : w11.cell? ⟨ga, 0, none⟩ = some (.string r.name) := B11.out.cell 0
            have b1 : w11.cell? ⟨ga, 1, none⟩ = some (.int .i64 r.ty) := B11.out.cell 1
            have b2 : w11.cell? ⟨ga, 2, none⟩ = some (.int .i64 p.ttl) := B11.out.cell 2
            have b3 : w11.cell? ⟨ga, 3, none⟩ = some (.int .i64 r.n) := B11.out.cell 3
            have b4 : w11.cell? ⟨ga, 4, none⟩ = some (.string r.host) := B11.out.cell 4
            have b5 : w11.cell? ⟨ga, 5, none⟩ = some (.string r.text) := B11.out.cell 5
            go_wp2_with (at_builtin; refine SetS.append_at (w := w11) rfl (.tmp 61) (.tmp 63) rfl w1.heap.size g (q + 1) cap U rfl O11.out (Rec.mk r.name r.ty p.ttl r.n r.host r.text) w11.heap.size rfl rfl (by omega) (by have h1 := O11.out.lt g rfl; omega) ?_)
            intro g7 cap7 w7 hown hgrow
            have O7 := Lib.hid hown
            have gge : w1.heap.size ≤ g := (O11.out.lt g rfl).1
            have L7 := Lib.hid ((L11.out.alloc L11.out.size (.cells #[.string r.name, .int .i64 r.ty, .int .i64 p.ttl, .int .i64 r.n, .string r.host, .string r.text] 56)).grown hgrow (Nat.le_trans L11.out.size (by simp)) (fun j hj => by cases hj; exact gge))
            clear hown hgrow b0 b1 b2 b3 b4 b5
            go_wp2
            go_roundw
            case rel => exact ⟨k + 1, g7, q + 1 + 1, cap7, _, by omega, by omega, by go_num, rfl, by rw [HU.out], O7.out, L7.out⟩
            case measure => simp [intOf]; omega
        · have t0 : (p.ty == r.ty) = false := by simpa using hty
          have HU : Hid (uqz (S.take (k + 1)) = U ++ [r]) := show _ = _ by rw [HT.out, ust_other HLAST.out (fun h => hty h.2)]
          clear HT HU0 hnm hty HLAST
          go_wp2
          go_quiet (fail)
          have L9 : Hid (Below w1.heap.size w1 ((wr.alloc (.cells #[.string r.name, .int .i64 r.ty, .int .i64 r.ttl, .int .i64 r.n, .string r.host, .string r.text] 56)).drewN nq)) := (HL.out.alloc HL.out.size (.cells #[.string r.name, .int .i64 r.ty, .int .i64 r.ttl, .int .i64 r.n, .string r.host, .string r.text] 56)).trans (drewN_below _ _ _)
          have B9 : Hid (Bk ((wr.alloc (.cells #[.string r.name, .int .i64 r.ty, .int .i64 r.ttl, .int .i64 r.n, .string r.host, .string r.text] 56)).drewN nq) wr.heap.size 56 (rc r)) := heap_alloc_new wr _
          have O9 : Hid (((wr.alloc (.cells #[.string r.name, .int .i64 r.ty, .int .i64 r.ttl, .int .i64 r.n, .string r.host, .string r.text] 56)).drewN nq).ownsRow w1.heap.size 56 6 (.slice (some ⟨g, 0, none⟩) (q + 1) cap) (q + 1) (fl U)) := HO.out.alloc (.cells #[.string r.name, .int .i64 r.ty, .int .i64 r.ttl, .int .i64 r.n, .string r.host, .string r.text] 56)
          have N9 : Hid (g < wr.heap.size) := (HO.out.lt g rfl).2
          clear HL HO e0 e1 e2 e3 e4 e5
          generalize (wr.alloc (.cells #[.string r.name, .int .i64 r.ty, .int .i64 r.ttl, .int .i64 r.n, .string r.host, .string r.text] 56)).drewN nq = w9 at *
          generalize wr.heap.size = ga at *
          clear p0 p1 p2 p3 p4 p5
          have b0 : w9.cell? ⟨ga, 0, none⟩ = some (.string r.name) := B9.out.cell 0
          have b1 : w9.cell? ⟨ga, 1, none⟩ = some (.int .i64 r.ty) := B9.out.cell 1
          have b2 : w9.cell? ⟨ga, 2, none⟩ = some (.int .i64 r.ttl) := B9.out.cell 2
          have b3 : w9.cell? ⟨ga, 3, none⟩ = some (.int .i64 r.n) := B9.out.cell 3
          have b4 : w9.cell? ⟨ga, 4, none⟩ = some (.string r.host) := B9.out.cell 4
          have b5 : w9.cell? ⟨ga, 5, none⟩ = some (.string r.text) := B9.out.cell 5
          go_wp2_with (at_builtin; refine SetS.append_at (w := w9) rfl (.tmp 61) (.tmp 63) rfl w1.heap.size g (q + 1) cap U rfl O9.out r w9.heap.size rfl rfl (by omega) (by have h1 := O9.out.lt g rfl; omega) ?_)
          intro g7 cap7 w7 hown hgrow
          have O7 := Lib.hid hown
          have gge : w1.heap.size ≤ g := (O9.out.lt g rfl).1
          have L7 := Lib.hid ((L9.out.alloc L9.out.size (.cells #[.string r.name, .int .i64 r.ty, .int .i64 r.ttl, .int .i64 r.n, .string r.host, .string r.text] 56)).grown hgrow (Nat.le_trans L9.out.size (by simp)) (fun j hj => by cases hj; exact gge))
          clear hown hgrow b0 b1 b2 b3 b4 b5
          go_wp2
          go_roundw
          case rel => exact ⟨k + 1, g7, q + 1 + 1, cap7, _, by omega, by omega, by go_num, rfl, by rw [HU.out], O7.out, L7.out⟩
          case measure => simp [intOf]; omega
      · have n1 : (p.name.toList == r.name.toList) = false := text_ne hnm
        have n2 : (p.name.data.toList == r.name.data.toList) = false := text_ne2 hnm
        have HU : Hid (uqz (S.take (k + 1)) = U ++ [r]) := show _ = _ by rw [HT.out, ust_other HLAST.out (fun h => hnm h.1)]
        clear HT HU0 hnm HLAST
        go_wp2
        go_quiet (fail)
        have L9 : Hid (Below w1.heap.size w1 ((wr.alloc (.cells #[.string r.name, .int .i64 r.ty, .int .i64 r.ttl, .int .i64 r.n, .string r.host, .string r.text] 56)).drewN nq)) := (HL.out.alloc HL.out.size (.cells #[.string r.name, .int .i64 r.ty, .int .i64 r.ttl, .int .i64 r.n, .string r.host, .string r.text] 56)).trans (drewN_below _ _ _)
        have B9 : Hid (Bk ((wr.alloc (.cells #[.string r.name, .int .i64 r.ty, .int .i64 r.ttl, .int .i64 r.n, .string r.host, .string r.text] 56)).drewN nq) wr.heap.size 56 (rc r)) := heap_alloc_new wr _
        have O9 : Hid (((wr.alloc (.cells #[.string r.name, .int .i64 r.ty, .int .i64 r.ttl, .int .i64 r.n, .string r.host, .string r.text] 56)).drewN nq).ownsRow w1.heap.size 56 6 (.slice (some ⟨g, 0, none⟩) (q + 1) cap) (q + 1) (fl U)) := HO.out.alloc (.cells #[.string r.name, .int .i64 r.ty, .int .i64 r.ttl, .int .i64 r.n, .string r.host, .string r.text] 56)
        have N9 : Hid (g < wr.heap.size) := (HO.out.lt g rfl).2
        clear HL HO e0 e1 e2 e3 e4 e5
        generalize (wr.alloc (.cells #[.string r.name, .int .i64 r.ty, .int .i64 r.ttl, .int .i64 r.n, .string r.host, .string r.text] 56)).drewN nq = w9 at *
        generalize wr.heap.size = ga at *
        clear p0 p1 p2 p3 p4 p5
        have b0 : w9.cell? ⟨ga, 0, none⟩ = some (.string r.name) := B9.out.cell 0
        have b1 : w9.cell? ⟨ga, 1, none⟩ = some (.int .i64 r.ty) := B9.out.cell 1
        have b2 : w9.cell? ⟨ga, 2, none⟩ = some (.int .i64 r.ttl) := B9.out.cell 2
        have b3 : w9.cell? ⟨ga, 3, none⟩ = some (.int .i64 r.n) := B9.out.cell 3
        have b4 : w9.cell? ⟨ga, 4, none⟩ = some (.string r.host) := B9.out.cell 4
        have b5 : w9.cell? ⟨ga, 5, none⟩ = some (.string r.text) := B9.out.cell 5
        go_wp2_with (at_builtin; refine SetS.append_at (w := w9) rfl (.tmp 61) (.tmp 63) rfl w1.heap.size g (q + 1) cap U rfl O9.out r w9.heap.size rfl rfl (by omega) (by have h1 := O9.out.lt g rfl; omega) ?_)
        intro g7 cap7 w7 hown hgrow
        have O7 := Lib.hid hown
        have gge : w1.heap.size ≤ g := (O9.out.lt g rfl).1
        have L7 := Lib.hid ((L9.out.alloc L9.out.size (.cells #[.string r.name, .int .i64 r.ty, .int .i64 r.ttl, .int .i64 r.n, .string r.host, .string r.text] 56)).grown hgrow (Nat.le_trans L9.out.size (by simp)) (fun j hj => by cases hj; exact gge))
        clear hown hgrow b0 b1 b2 b3 b4 b5
        go_wp2
        go_roundw
        case rel => exact ⟨k + 1, g7, q + 1 + 1, cap7, _, by omega, by omega, by go_num, rfl, by rw [HU.out], O7.out, L7.out⟩
        case measure => simp [intOf]; omega
    · obtain rfl : n = k := by omega
      rw [take_all HSL.out] at HU0
      go_wp2
      go_ret
      have ho := HO.out
      rw [← HU0.out] at ho HUL
      exact ⟨S, g, m, cap, SR.out, rfl, HUL.out, MapK.own_mono ho L0.out.size, L0.out.trans (HL.out.mono L0.out.size)⟩

end Go.Proofs.Ytjgmocmaeadjdaa.UniqZ
