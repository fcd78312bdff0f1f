/- What the model's draw of a zone does: a zone of the records of ZoneL, in order, in a row of its own; nothing that was there is turned but the cursor. -/
import Derived.Test.YtkpcanigdppegaaDoorWt
import Derived.Test.YtkpcanigdppegaaDoorIsin
import Derived.Test.YtkpcanigdppegaaDoorMemR
import Derived.Laws.StructEq
import Derived.Deep.QuietTactic
import Derived.BigQuiet
import Derived.Test.YtkpcanigdppegaaDoorZokMath
import Derived.Test.YtkpcanigdppegaaDoorMemZ
import Derived.Test.YtkpcanigdppegaaDoorLabSpec
import Derived.Test.YtkpcanigdppegaaDoorNameMath
import Derived.Test.YtkpcanigdppegaaDoorMem
import Derived.Maps.RangeRun
import Derived.Maps.OwnOps
import Derived.Deep.AppendLies
import Derived.Test.YtkpcanigdppegaaDoorSortZ
import Derived.Test.YtkpcanigdppegaaDoorUqzMath
import Derived.IntWalk
import Derived.Test.YtkpcanigdppegaaDoorZoneV
import Derived.Test.YtkpcanigdppegaaDoorZoneH
import Derived.Test.YtkpcanigdppegaaDoorResZ
/- What SetOf does in the model: the records of a name and a type, in order. Condition: fewer than 400000001 records. -/
namespace Go.Proofs.YtkpcanigdppegaaDoor.SetS
open Go.RowKit Go.Proofs.YtkpcanigdppegaaDoor.Mem Go.Proofs.YtkpcanigdppegaaDoor.MemR Go.Proofs.YtkpcanigdppegaaDoor.SetMath Go.Proofs.YtkpcanigdppegaaDoor.AppR Go.Proofs.YtkpcanigdppegaaDoor.Isin Go.Proofs.YtkpcanigdppegaaDoor.Wt

/-- append of one new record onto a row of the call's own, the new block's number as the walk spells it. -/
theorem append_at {w : World} {ops : Array Oper} {rest : List Oper} {o : Oper} {a : Act} {Q : Exit → Act → World → Prop} (hgd : o.guard = none) (s x : Operand)
    (ho : o.op = .call { callee := .builtin .append, args := #[s, x], argTypes := #[24, 24] })
    (base g n cap : Nat) (l : List Rec) (hs : a.eval s = .slice (some ⟨g, 0, none⟩) n cap) (hown : w.ownsRow base 39 6 (.slice (some ⟨g, 0, none⟩) n cap) n (fl l))
    (y : Rec) (p : Nat) (hp : w.heap.size = p) (hx : a.eval x = .slice (some ⟨p, 0, none⟩) 1 1) (hn : n ≤ 800000000) (hbase : base ≤ w.heap.size)
    (h : ∀ g' cap' w', w'.ownsRow base 39 6 (.slice (some ⟨g', 0, none⟩) (n + 1) cap') (n + 1) (fl (l ++ [y])) → (w.alloc (.cells #[.string y.name, .int .i64 y.ty, .int .i64 y.ttl, .int .i64 y.n, .string y.host, .string y.text] 39)).grownBy w' (some g) → wpList Tryd.prog ops Q rest (a.put o.dst (.slice (some ⟨g', 0, none⟩) (n + 1) cap')) w') : wpList Tryd.prog ops Q (o :: rest) a (w.alloc (.cells #[.string y.name, .int .i64 y.ty, .int .i64 y.ttl, .int .i64 y.n, .string y.host, .string y.text] 39)) := by
  subst hp
  have hb : Bk (w.alloc (.cells #[.string y.name, .int .i64 y.ty, .int .i64 y.ttl, .int .i64 y.n, .string y.host, .string y.text] 39)) w.heap.size 39 (fl [y]) := heap_alloc_new w _
  exact append_recs hgd s x ho base g n cap l hs (hown.alloc _) w.heap.size 0 1 1 _ [y] hx (bk_sr0 hb rfl) hn (by omega) (by simp; omega) h

set_option maxHeartbeats 4000000 in
theorem spec (s : ByteArray) (t : Int) (b0 o0 n c : Nat) (l : List Rec) (w : World) (hs : Sr w w.heap.size (some ⟨b0, o0, none⟩) n l) (hn : n ≤ 400000000) : Calls Tryd.prog 54 #[.slice (some ⟨b0, o0, none⟩) n c, .string s, .int .i64 t] w (GivesL w (sf s t l)) := by
  have HS := Lib.hid hs
  clear hs
  have P0 := Lib.hid (owns_new w)
  have L0 := Lib.hid ((Below.refl w.heap.size w).alloc (Nat.le_refl _) (.cells #[] 39))
  go_enter Tryd.func54, Tryd.ntmps54
  go_wp2
  generalize w.alloc (.cells #[] 39) = w0 at *
  go_loopw [7, 8] (fun out i wr => ∃ k g m cap : Nat, k ≤ n ∧ m ≤ k ∧ i = .int .i64 k ∧ out = .slice (some ⟨g, 0, none⟩) m cap ∧ Hid (wr.ownsRow w.heap.size 39 6 (.slice (some ⟨g, 0, none⟩) m cap) m (fl (sf s t (l.take k)))) ∧ Hid (Below w.heap.size w wr)) (fun _ i _ => n - (intOf i).toNat)
  case atStart => exact ⟨0, w.heap.size, 0, 0, Nat.zero_le _, Nat.le_refl _, rfl, rfl, P0.out, L0.out⟩
  case round =>
    clear P0 L0
    obtain ⟨k, g, m, cap, hk, hm, rfl, rfl, HO, HL⟩ := hrel
    by_cases hlt : k < n
    · obtain ⟨b, off, hA, hbB, hcs⟩ := HS.out.2 (by omega)
      obtain ⟨rfl, rfl⟩ : b0 = b ∧ o0 = off := by simp at hA; exact hA
      clear hA
      have hkl : k < l.length := by rw [HS.out.1]; exact hlt
      obtain ⟨e0, e1, e2, e3, e4, e5⟩ := (hcs k hkl).below HL.out hbB
      clear hcs
      have HT := Lib.hid (sf_take s t l k hkl)
      generalize l[k] = r at *
      by_cases hnm : ¬ r.name = s
      · have HA := Lib.hid (show sf s t (l.take (k + 1)) = sf s t (l.take k) from by rw [HT.out, isk_false (fun h => hnm h.1), if_neg (by decide), List.append_nil])
        have t1 : (r.name.toList == s.toList) = false := bytes_ne hnm
        have t2 : (r.name.data.toList == s.data.toList) = false := by rw [← ByteArray.toList_eq, ← ByteArray.toList_eq]; exact t1
        clear hnm
        go_wp2
        go_roundw
        case rel => exact ⟨k + 1, g, m, cap, by omega, by omega, by go_num, rfl, by rw [HA.out]; exact HO.out, HL.out⟩
        case measure => simp [intOf]; omega
      replace hnm : r.name = s := Classical.not_not.1 hnm
      have t1 : (r.name.toList == s.toList) = true := by rw [hnm]; simp
      have t2 : (r.name.data.toList == s.data.toList) = true := by rw [hnm]; simp
      by_cases hty : ¬ r.ty = t
      · have HA := Lib.hid (show sf s t (l.take (k + 1)) = sf s t (l.take k) from by rw [HT.out, isk_false (fun h => hty h.2), if_neg (by decide), List.append_nil])
        have t0 : (r.ty == t) = false := by simpa using hty
        clear hty hnm
        go_wp2
        go_roundw
        case rel => exact ⟨k + 1, g, m, cap, by omega, by omega, by go_num, rfl, by rw [HA.out]; exact HO.out, HL.out⟩
        case measure => simp [intOf]; omega
      replace hty : r.ty = t := Classical.not_not.1 hty
      have HA := Lib.hid (show sf s t (l.take (k + 1)) = sf s t (l.take k) ++ [r] from by rw [HT.out, isk_true ⟨hnm, hty⟩, if_pos rfl])
      have t0 : (r.ty == t) = true := by simpa using hty
      clear hty hnm
      go_wp2_with (at_builtin; refine append_at (w := wr) rfl (.tmp 32) (.tmp 37) rfl w.heap.size g m cap (sf s t (l.take k)) rfl HO.out r wr.heap.size rfl rfl (by omega) (by have h1 := HO.out.lt g rfl; omega) ?_)
      intro g' cap' w3 hown hgrow
      have O3 := Lib.hid hown
      have L3 := Lib.hid ((HL.out.alloc HL.out.size (.cells #[.string r.name, .int .i64 r.ty, .int .i64 r.ttl, .int .i64 r.n, .string r.host, .string r.text] 39)).grown hgrow (Nat.le_trans HL.out.size (by simp)) (fun j hj => by cases hj; have h1 := HO.out.lt g rfl; omega))
      clear hown hgrow
      go_wp2
      go_roundw
      case rel => exact ⟨k + 1, g', m + 1, cap', by omega, by omega, by go_num, rfl, by rw [HA.out]; exact O3.out, L3.out⟩
      case measure => simp [intOf]; omega
    · obtain rfl : n = k := by omega
      have HN := Lib.hid (take_all HS.out.1)
      go_wp2
      go_ret
      have ho := HO.out
      rw [HN.out] at ho
      obtain ⟨r', hb, _, hcap, hg⟩ := bk_of_owns6 ho
      have hz : (sf s t l).length = m := by have := ho.1; rw [fl_len] at this; omega
      exact ⟨g, m, cap, r', rfl, hz, hcap, hg, hb, HL.out⟩
end Go.Proofs.YtkpcanigdppegaaDoor.SetS

/- Two records that are the same, compared with == : true, and nothing is turned. -/
namespace Go.Proofs.YtkpcanigdppegaaDoor.EqlR
open Go.RowKit Go.Proofs.YtkpcanigdppegaaDoor.Mem Go.Proofs.YtkpcanigdppegaaDoor.MemR

theorem eql_same (r : Rec) (w : World) : Sem.run Tryd.prog (binOp .eql 39 (.agg #[.string r.name, .int .i64 r.ty, .int .i64 r.ttl, .int .i64 r.n, .string r.host, .string r.text]) (.agg #[.string r.name, .int .i64 r.ty, .int .i64 r.ttl, .int .i64 r.n, .string r.host, .string r.text])) w = .ok (.bool true) w := by
  have u3 := Tryd.underlying3
  have a3 := Tryd.isAgg3
  have z3 := Tryd.sizeOf3
  have u9 := Tryd.underlying9
  have a9 := Tryd.isAgg9
  have z9 := Tryd.sizeOf9
  have hS : Tryd.prog.underlying 39 = some (.struct (Tryd.prog.fieldsOf 39)) := by kernel_rfl
  have hp : Tryd.prog.stoodInHeld 39 = false := by kernel_rfl
  rw [run_eql_struct, show (10000 : Nat) = 9999 + 1 from rfl, run_equalIn_agg w 9999 39 _ _ hS hp]
  simp only [Program.fieldsOf, Tryd.underlying39]
  go_simp

theorem bytes_ne {a b : ByteArray} (h : a ≠ b) : (a.toList == b.toList) = false := by
  cases e : (a.toList == b.toList) with
  | false => rfl
  | true =>
    have := eq_of_beq e
    rw [ByteArray.toList_eq, ByteArray.toList_eq] at this
    exact absurd (by cases a; cases b; congr; exact Array.toList_inj.1 this) h
theorem eql_diff {r s : Rec} (h : r ≠ s) (w : World) : Sem.run Tryd.prog (binOp .eql 39 (.agg #[.string r.name, .int .i64 r.ty, .int .i64 r.ttl, .int .i64 r.n, .string r.host, .string r.text]) (.agg #[.string s.name, .int .i64 s.ty, .int .i64 s.ttl, .int .i64 s.n, .string s.host, .string s.text])) w = .ok (.bool false) w := by
  have u3 := Tryd.underlying3
  have a3 := Tryd.isAgg3
  have z3 := Tryd.sizeOf3
  have u9 := Tryd.underlying9
  have a9 := Tryd.isAgg9
  have z9 := Tryd.sizeOf9
  have hS : Tryd.prog.underlying 39 = some (.struct (Tryd.prog.fieldsOf 39)) := by kernel_rfl
  have hp : Tryd.prog.stoodInHeld 39 = false := by kernel_rfl
  rw [run_eql_struct, show (10000 : Nat) = 9999 + 1 from rfl, run_equalIn_agg w 9999 39 _ _ hS hp]
  simp only [Program.fieldsOf, Tryd.underlying39]
  obtain ⟨n1, t1, l1, m1, h1, x1⟩ := r
  obtain ⟨n2, t2, l2, m2, h2, x2⟩ := s
  simp only
  by_cases c0 : n1 = n2
  · subst c0
    by_cases c1 : t1 = t2
    · subst c1
      by_cases c2 : l1 = l2
      · subst c2
        by_cases c3 : m1 = m2
        · subst c3
          by_cases c4 : h1 = h2
          · subst c4
            by_cases c5 : x1 = x2
            · subst c5; exact absurd rfl h
            · have k := bytes_ne c5
              go_simp
          · have k := bytes_ne c4
            go_simp
        · go_simp
      · go_simp
    · go_simp
  · have k := bytes_ne c0
    go_simp

theorem grd : Tryd.prog.eqGuardType Tryd.prog.depth 39 = false := by kernel_rfl
end Go.Proofs.YtkpcanigdppegaaDoor.EqlR

/- What SameRecords does in the program and in the model: whether two lists of records are equal in all fields of all records. Condition: fewer than 400000001 records. -/
namespace Go.Proofs.YtkpcanigdppegaaDoor.SameR
open Go.RowKit Go.Proofs.YtkpcanigdppegaaDoor.Mem Go.Proofs.YtkpcanigdppegaaDoor.MemR

/-- Whether two lists of records are equal. A def, so that no step of a walk opens it. -/
noncomputable def sm (l m : List Rec) : Bool := @decide (l = m) (Classical.propDecidable _)
theorem sm_true {l m : List Rec} (h : l = m) : sm l m = true := @decide_eq_true _ (Classical.propDecidable _) h
theorem sm_false {l m : List Rec} (h : l ≠ m) : sm l m = false := @decide_eq_false _ (Classical.propDecidable _) h
theorem bytes_ne {a b : ByteArray} (h : a ≠ b) : (a.toList == b.toList) = false := by
  cases e : (a.toList == b.toList) with
  | false => rfl
  | true =>
    have := eq_of_beq e
    rw [ByteArray.toList_eq, ByteArray.toList_eq] at this
    exact absurd (by cases a; cases b; congr; exact Array.toList_inj.1 this) h
theorem neq_same (r : Rec) (w : World) : Sem.run Tryd.prog (binOp .neq 39 (.agg #[.string r.name, .int .i64 r.ty, .int .i64 r.ttl, .int .i64 r.n, .string r.host, .string r.text]) (.agg #[.string r.name, .int .i64 r.ty, .int .i64 r.ttl, .int .i64 r.n, .string r.host, .string r.text])) w = .ok (.bool false) w := by
  have u3 := Tryd.underlying3
  have a3 := Tryd.isAgg3
  have z3 := Tryd.sizeOf3
  have u9 := Tryd.underlying9
  have a9 := Tryd.isAgg9
  have z9 := Tryd.sizeOf9
  have hS : Tryd.prog.underlying 39 = some (.struct (Tryd.prog.fieldsOf 39)) := by kernel_rfl
  have hp : Tryd.prog.stoodInHeld 39 = false := by kernel_rfl
  rw [run_neq_struct, show (10000 : Nat) = 9999 + 1 from rfl, run_equalIn_agg w 9999 39 _ _ hS hp]
  simp only [Program.fieldsOf, Tryd.underlying39]
  go_simp

theorem neq_diff {r s : Rec} (h : r ≠ s) (w : World) : Sem.run Tryd.prog (binOp .neq 39 (.agg #[.string r.name, .int .i64 r.ty, .int .i64 r.ttl, .int .i64 r.n, .string r.host, .string r.text]) (.agg #[.string s.name, .int .i64 s.ty, .int .i64 s.ttl, .int .i64 s.n, .string s.host, .string s.text])) w = .ok (.bool true) w := by
  have u3 := Tryd.underlying3
  have a3 := Tryd.isAgg3
  have z3 := Tryd.sizeOf3
  have u9 := Tryd.underlying9
  have a9 := Tryd.isAgg9
  have z9 := Tryd.sizeOf9
  have hS : Tryd.prog.underlying 39 = some (.struct (Tryd.prog.fieldsOf 39)) := by kernel_rfl
  have hp : Tryd.prog.stoodInHeld 39 = false := by kernel_rfl
  rw [run_neq_struct, show (10000 : Nat) = 9999 + 1 from rfl, run_equalIn_agg w 9999 39 _ _ hS hp]
  simp only [Program.fieldsOf, Tryd.underlying39]
  obtain ⟨n1, t1, l1, m1, h1, x1⟩ := r
  obtain ⟨n2, t2, l2, m2, h2, x2⟩ := s
  simp only
  by_cases c0 : n1 = n2
  · subst c0
    by_cases c1 : t1 = t2
    · subst c1
      by_cases c2 : l1 = l2
      · subst c2
        by_cases c3 : m1 = m2
        · subst c3
          by_cases c4 : h1 = h2
          · subst c4
            by_cases c5 : x1 = x2
            · subst c5; exact absurd rfl h
            · have k := bytes_ne c5
              go_simp
          · have k := bytes_ne c4
            go_simp
        · go_simp
      · go_simp
    · go_simp
  · have k := bytes_ne c0
    go_simp

theorem grd : Tryd.prog.eqGuardType Tryd.prog.depth 39 = false := by kernel_rfl

theorem take_same {l m : List Rec} {k : Nat} (h : l.take k = m.take k) (h1 : k < l.length) (h2 : k < m.length) (e : l[k] = m[k]) : l.take (k + 1) = m.take (k + 1) := by
  rw [List.take_succ_eq_append_getElem h1, List.take_succ_eq_append_getElem h2, h, e]
theorem take_all {l m : List Rec} {n : Nat} (h : l.take n = m.take n) (h1 : l.length = n) (h2 : m.length = n) : l = m := by
  rwa [List.take_of_length_le (by omega), List.take_of_length_le (by omega)] at h
theorem at_diff {l m : List Rec} {k : Nat} (h1 : k < l.length) (h2 : k < m.length) (e : l[k] ≠ m[k]) : l ≠ m := fun h => by subst h; exact e rfl

set_option maxHeartbeats 1000000 in
theorem recs (A A' : Option Addr) (n c n' c' : Nat) (l m : List Rec) (w : World) (hs : Sr w w.heap.size A n l) (hs' : Sr w w.heap.size A' n' m) (hn : n ≤ 400000000) (hn' : n' ≤ 400000000) :
    Calls Tryd.prog 24 #[.slice A n c, .slice A' n' c'] w fun e w' => e = .returned (.bool (sm l m)) ∧ Below w.heap.size w w' := by
  have mixed : Tryd.prog.follows .mixedOrders = true := by kernel_rfl
  have hg := grd
  have HS := Lib.hid hs
  have HT := Lib.hid hs'
  clear hs hs'
  by_cases hnn : n = n'
  · obtain rfl := hnn
    have hd : ((n : Int) != (n : Int)) = false := by simp
    go_enter Tryd.func24, Tryd.ntmps24
    go_wp2
    go_loopw [5] (fun i wr => ∃ k : Nat, k ≤ n ∧ i = .int .i64 k ∧ Hid (∃ q, wr = w.drewN q) ∧ Hid (l.take k = m.take k)) (fun i _ => n - (intOf i).toNat)
    case atStart => exact ⟨0, Nat.zero_le _, rfl, ⟨0, rfl⟩, rfl⟩
    case round =>
      obtain ⟨k, hk, rfl, HW, HK⟩ := hrel
      obtain ⟨q, rfl⟩ := HW.out
      clear HW
      by_cases hlt : k < n
      · obtain ⟨b, off, rfl, hbB, hcs⟩ := HS.out.2 (by omega)
        obtain ⟨b', off', rfl, hbB', hcs'⟩ := HT.out.2 (by omega)
        have hkl : k < l.length := by rw [HS.out.1]; exact hlt
        have hkm : k < m.length := by rw [HT.out.1]; exact hlt
        obtain ⟨e0, e1, e2, e3, e4, e5⟩ := hcs k hkl
        obtain ⟨f0, f1, f2, f3, f4, f5⟩ := hcs' k hkm
        clear hcs hcs'
        by_cases hrs : l[k] = m[k]
        · have HN := Lib.hid (take_same HK.out hkl hkm hrs)
          rw [← hrs] at f0 f1 f2 f3 f4 f5
          clear hrs
          generalize l[k] = r at *
          have hq := neq_same r
          go_wp2
          go_quiet (fail)
          clear hq e0 e1 e2 e3 e4 e5 f0 f1 f2 f3 f4 f5
          go_wp2
          go_roundw
          case rel => exact ⟨k + 1, by omega, by go_num, ⟨_, rfl⟩, HN.out⟩
          case measure => simp [intOf]; omega
        · have HN := Lib.hid (sm_false (at_diff hkl hkm hrs))
          have hq := neq_diff hrs
          clear hrs
          generalize l[k] = r at *
          generalize m[k] = s at *
          go_wp2
          go_quiet (fail)
          clear hq e0 e1 e2 e3 e4 e5 f0 f1 f2 f3 f4 f5
          go_wp2
          go_ret
          exact ⟨by rw [HN.out]; rfl, (drewN_below w q _).trans (drewN_below _ _ _)⟩
      · obtain rfl : n = k := by omega
        have HN := Lib.hid (sm_true (take_all HK.out HS.out.1 HT.out.1))
        go_wp2
        go_ret
        exact ⟨by rw [HN.out]; rfl, drewN_below _ _ _⟩
  · have hd : ((n : Int) != (n' : Int)) = true := by rw [bne_iff_ne]; omega
    have HN := Lib.hid (sm_false (l := l) (m := m) (fun h => hnn (by rw [← HS.out.1, ← HT.out.1, h])))
    clear hnn
    go_enter Tryd.func24, Tryd.ntmps24
    go_wp2
    go_ret
    exact ⟨by rw [HN.out]; rfl, Below.refl _ _⟩

end Go.Proofs.YtkpcanigdppegaaDoor.SameR

/- What aliasesOk does in the program: no alias is at the apex, and no other record has an alias' name. Condition: fewer than 400000001 records. -/
namespace Go.Proofs.YtkpcanigdppegaaDoor.AliI
open Go.RowKit Go.Proofs.YtkpcanigdppegaaDoor.Mem Go.Proofs.YtkpcanigdppegaaDoor.MemR Go.Proofs.YtkpcanigdppegaaDoor.SetMath Go.Proofs.YtkpcanigdppegaaDoor.NameMath Go.Proofs.YtkpcanigdppegaaDoor.NameOk Go.Proofs.YtkpcanigdppegaaDoor.ZoneMath Go.Proofs.YtkpcanigdppegaaDoor.MemZ Go.Proofs.YtkpcanigdppegaaDoor.RecOk Go.Proofs.YtkpcanigdppegaaDoor.LessR Go.Proofs.YtkpcanigdppegaaDoor.ZokMath Go.Proofs.YtkpcanigdppegaaDoor.Labels Go.Proofs.YtkpcanigdppegaaDoor.BoxR

theorem text_ne {x y : ByteArray} (h : x ≠ y) : (x.toList == y.toList) = false := by
  rw [beq_eq_false_iff_ne, ByteArray.toList_eq, ByteArray.toList_eq]
  exact fun e => h (MemS.text_ext e)

theorem text_ne2 {x y : ByteArray} (h : x ≠ y) : (x.data.toList == y.data.toList) = false := by
  rw [beq_eq_false_iff_ne]
  exact fun e => h (MemS.text_ext e)

set_option maxHeartbeats 8000000 in
theorem impl (s : ByteArray) (b0 o0 n c : Nat) (l : List Rec) (w : World) (hs : Sr w w.heap.size (some ⟨b0, o0, none⟩) n l) (hn : n ≤ 400000000) :
    Calls Tryd.prog 43 #[.agg #[.string s, .slice (some ⟨b0, o0, none⟩) n c]] w fun e w' => e = .returned (.bool (dec (Alln l.length (Pa s l)))) ∧ Below w.heap.size w w' := by
  have Z0 := Lib.hid (zx_new w 26 s (.slice (some ⟨b0, o0, none⟩) n c))
  have L0 := Lib.hid ((Below.refl w.heap.size w).alloc (Nat.le_refl _) (.cells #[.string s, .slice (some ⟨b0, o0, none⟩) n c] 26))
  have HS := Lib.hid hs
  clear hs
  go_enter Tryd.func43, Tryd.ntmps43
  go_wp2
  generalize w.alloc (.cells #[.string s, .slice (some ⟨b0, o0, none⟩) n c] 26) = w0 at *
  go_loopw [10] (fun i wr => ∃ k : Nat, k ≤ n ∧ i = .int .i64 k ∧ Hid (Alln k (Pa s l)) ∧ Hid (Zx wr w.heap.size s (.slice (some ⟨b0, o0, none⟩) n c)) ∧ Hid (Below w.heap.size w wr)) (fun i _ => n - (intOf i).toNat)
  case atStart => exact ⟨0, Nat.zero_le _, rfl, alln_zero, Z0.out, L0.out⟩
  case round =>
    clear Z0 L0
    obtain ⟨k, hk, rfl, HE, HX, HL⟩ := hrel
    by_cases hlt : k < n
    · obtain ⟨b, off, hA, hbB, hcs⟩ := HS.out.2 (by omega)
      obtain ⟨rfl, rfl⟩ : b0 = b ∧ o0 = off := by simp at hA; exact hA
      clear hA
      have hkl : k < l.length := by rw [HS.out.1]; exact hlt
      obtain ⟨e0, e1, e2, e3, e4, e5⟩ := (hcs k hkl).below HL.out hbB
      clear hcs
      obtain ⟨z0, z1⟩ := HX.out
      have ltz := HX.out.lt
      have HP : Hid (Pa s l k ↔ (l[k].ty = 5 → l[k].name ≠ s ∧ Alln l.length (Pn l l[k]))) := show _ ↔ _ by rw [Pa, at0_get hkl]
      generalize l[k] = a at *
      have W1 : Hid (Below w.heap.size w (wr.alloc (.cells #[.string a.name, .int .i64 a.ty, .int .i64 a.ttl, .int .i64 a.n, .string a.host, .string a.text] 39))) := HL.out.alloc HL.out.size _
      have X1 := Lib.hid (HX.out.alloc (.cells #[.string a.name, .int .i64 a.ty, .int .i64 a.ttl, .int .i64 a.n, .string a.host, .string a.text] 39))
      have A1 := Lib.hid (bx_new wr 39 a)
      by_cases hty : ¬ a.ty = 5
      · have HN := Lib.hid (alln_next HE.out (HP.out.2 (fun h => absurd h hty)))
        have t0 : (a.ty == 5) = false := by simpa using hty
        have t1 : (a.ty != 5) = true := by simpa using hty
        clear hty HP
        go_wp2
        go_roundw
        case rel => exact ⟨k + 1, by omega, by go_num, HN.out, X1.out, W1.out⟩
        case measure => simp [intOf]; omega
      replace hty : a.ty = 5 := Classical.not_not.1 hty
      have t0 : (a.ty == 5) = true := by simpa using hty
      have t1 : (a.ty != 5) = false := by simpa using hty
      by_cases hnm : a.name = s
      · have HF := Lib.hid (dec_false (alln_not hkl (fun h => (HP.out.1 h hty).1 hnm)))
        have n1 : (a.name.toList == s.toList) = true := by rw [hnm]; simp
        have n2 : (a.name.data.toList == s.data.toList) = true := by rw [hnm]; simp
        clear hty hnm HP
        go_wp2
        go_ret
        exact ⟨congrArg (fun b => Ending.returned (Value.bool b)) HF.out.symm, W1.out⟩
      have n1 : (a.name.toList == s.toList) = false := text_ne hnm
      have n2 : (a.name.data.toList == s.data.toList) = false := text_ne2 hnm
      have HG : Hid (Alln l.length (Pn l a) → Pa s l k) := fun h => HP.out.2 (fun _ => ⟨hnm, h⟩)
      have HB : Hid (∀ j, j < l.length → ¬ Pn l a j → dec (Alln l.length (Pa s l)) = false) := fun j hj h => dec_false (alln_not hkl (fun g => alln_not hj h (HP.out.1 g hty).2))
      clear hty hnm HP
      go_wp2
      generalize wr.alloc (.cells #[.string a.name, .int .i64 a.ty, .int .i64 a.ttl, .int .i64 a.n, .string a.host, .string a.text] 39) = w1 at *
      generalize wr.heap.size = ga at *
      clear z0 z1 e0 e1 e2 e3 e4 e5 t0 t1 n1 n2 ltz HX HL
      go_loopw [25] (fun i wr => ∃ j : Nat, j ≤ n ∧ i = .int .i64 j ∧ Hid (Alln j (Pn l a)) ∧ Hid (Zx wr w.heap.size s (.slice (some ⟨b0, o0, none⟩) n c)) ∧ Hid (Bx wr ga a) ∧ Hid (Below w.heap.size w wr)) (fun i _ => n - (intOf i).toNat)
      case atStart => exact ⟨0, Nat.zero_le _, rfl, alln_zero, X1.out, A1.out, W1.out⟩
      case round =>
        clear X1 A1 W1
        obtain ⟨j, hj, rfl, HQ, HX2, HA2, HL2⟩ := hrel
        by_cases hlt2 : j < n
        · obtain ⟨b, off, hA, hbB, hcs⟩ := HS.out.2 (by omega)
          obtain ⟨rfl, rfl⟩ : b0 = b ∧ o0 = off := by simp at hA; exact hA
          clear hA
          have hjl : j < l.length := by rw [HS.out.1]; exact hlt2
          obtain ⟨e0, e1, e2, e3, e4, e5⟩ := (hcs j hjl).below HL2.out hbB
          clear hcs
          obtain ⟨a0, a1, a2, a3, a4, a5⟩ := HA2.out
          have lta := HA2.out.lt
          have HP2 : Hid (Pn l a j ↔ ¬ (l[j].name = a.name ∧ l[j] ≠ a)) := show _ ↔ _ by rw [Pn, at0_get hjl]
          generalize l[j] = r at *
          have W3 : Hid (Below w.heap.size w (wr.alloc (.cells #[.string r.name, .int .i64 r.ty, .int .i64 r.ttl, .int .i64 r.n, .string r.host, .string r.text] 39))) := HL2.out.alloc HL2.out.size _
          have X3 := Lib.hid (HX2.out.alloc (.cells #[.string r.name, .int .i64 r.ty, .int .i64 r.ttl, .int .i64 r.n, .string r.host, .string r.text] 39))
          have A3 := Lib.hid (HA2.out.alloc (.cells #[.string r.name, .int .i64 r.ty, .int .i64 r.ttl, .int .i64 r.n, .string r.host, .string r.text] 39))
          by_cases hnn : ¬ r.name = a.name
          · have HN := Lib.hid (alln_next HQ.out (HP2.out.2 (fun h => hnn h.1)))
            have n1 : (r.name.toList == a.name.toList) = false := text_ne hnn
            have n2 : (r.name.data.toList == a.name.data.toList) = false := text_ne2 hnn
            clear hnn HP2
            go_wp2
            go_roundw
            case rel => exact ⟨j + 1, by omega, by go_num, HN.out, X3.out, A3.out, W3.out⟩
            case measure => simp [intOf]; omega
          replace hnn : r.name = a.name := Classical.not_not.1 hnn
          have n1 : (r.name.toList == a.name.toList) = true := by rw [hnn]; simp
          have n2 : (r.name.data.toList == a.name.data.toList) = true := by rw [hnn]; simp
          by_cases hra : r = a
          · have HN := Lib.hid (alln_next HQ.out (HP2.out.2 (fun h => h.2 hra)))
            have q := SameR.neq_same a
            clear HP2
            subst hra
            clear hnn
            go_wp2
            go_roundw
            case rel => exact ⟨j + 1, by omega, by go_num, HN.out, X3.out, A3.out, W3.out⟩
            case measure => simp [intOf]; omega
          · have HF := Lib.hid (HB.out j hjl (fun h => HP2.out.1 h ⟨hnn, hra⟩))
            have q := SameR.neq_diff hra
            clear HP2 hnn hra
            go_wp2
            go_ret
            exact ⟨congrArg (fun b => Ending.returned (Value.bool b)) HF.out.symm, W3.out⟩
        · obtain rfl : n = j := by omega
          have HN := Lib.hid (alln_next HE.out (HG.out (by rw [HS.out.1]; exact HQ.out)))
          go_wp2
          go_roundw
          case rel => exact ⟨k + 1, by omega, by go_num, HN.out, HX2.out, HL2.out⟩
          case measure => simp [intOf]; omega
    · obtain rfl : n = k := by omega
      have HF : Hid (dec (Alln l.length (Pa s l)) = true) := dec_true (by rw [HS.out.1]; exact HE.out)
      go_wp2
      go_ret
      exact ⟨congrArg (fun b => Ending.returned (Value.bool b)) HF.out.symm, HL.out⟩

end Go.Proofs.YtkpcanigdppegaaDoor.AliI

/- What the model's Under does: it tells whether the labels of its second text end those of its first. Condition: at most 400000000 bytes each. -/
namespace Go.Proofs.YtkpcanigdppegaaDoor.Under
open Go.RowKit Go.Proofs.YtkpcanigdppegaaDoor.Mem Go.Proofs.YtkpcanigdppegaaDoor.MemS Go.Proofs.YtkpcanigdppegaaDoor.AppS Go.Proofs.YtkpcanigdppegaaDoor.Split Go.Proofs.YtkpcanigdppegaaDoor.NameMath

set_option maxHeartbeats 2000000 in
theorem spec (a b : ByteArray) (w : World) (ha : a.size ≤ 400000000) (hb : b.size ≤ 400000000) : Calls Tryd.prog 49 #[.string a, .string b] w fun e w' => e = .returned (.bool (Un a b)) ∧ Below w.heap.size w w' := by
  have SA := Lib.hid (fun w => Labels.spec a w ha)
  have SB := Lib.hid (fun w => Labels.spec b w hb)
  have hla := lab_len a
  have hlb := lab_len b
  have HU : Hid (Un a b = pfx (Lab b).reverse (Lab a).reverse) := rfl
  generalize Un a b = U at *
  generalize Lab a = X at *
  generalize Lab b = Y at *
  have HX : Hid (X.length ≤ 400000001) := by show _ ≤ _; omega
  have HY : Hid (Y.length ≤ 400000001) := by show _ ≤ _; omega
  clear hla hlb ha hb
  go_enter Tryd.func49, Tryd.ntmps49
  go_wp2_with fail
  refine (SA.out w).mono ?_
  rintro e w1 ⟨gx, n, cx, rx, rfl, hm, hcx, hg, hk, hl⟩
  have hn : n ≤ 400000001 := by have := HX.out; omega
  have NX := Lib.hid hm
  have X1 := Lib.hid hk
  have L1 := Lib.hid hl
  clear hm hg hk hl HX
  go_wp2_with fail
  refine (SB.out w1).mono ?_
  rintro e w2 ⟨gy, m, cy, ry, rfl, hm, hcy, hg, hk, hl⟩
  have hm' : m ≤ 400000001 := by have := HY.out; omega
  have NY := Lib.hid hm
  have Y2 := Lib.hid hk
  have X2 := Lib.hid (X1.out.below hl X1.out.lt)
  have L2 := Lib.hid (L1.out.trans (hl.mono L1.out.size))
  clear hm hg hk hl HY X1 L1
  by_cases hlen : n < m
  · have HF := Lib.hid (HU.out.trans (pfx_long (by rw [List.length_reverse, List.length_reverse, NX.out, NY.out]; exact hlen)))
    go_wp2
    go_ret
    rw [HF.out]
    exact ⟨rfl, L2.out⟩
  · have hlen' : ¬ (n : Int) < (m : Int) := by omega
    go_wp2
    go_loopw [7] (fun i wr => ∃ k : Nat, k ≤ m ∧ i = .int .i64 (k + 1) ∧ Hid (U = pfx (Y.reverse.drop k) (X.reverse.drop k)) ∧ Hid (Bk wr gx 9 (X.map tv ++ rx)) ∧ Hid (Bk wr gy 9 (Y.map tv ++ ry)) ∧ Hid (Below w.heap.size w wr)) (fun i _ => m + 1 - (intOf i).toNat)
    case atStart => exact ⟨0, Nat.zero_le _, rfl, HU.out, X2.out, Y2.out, L2.out⟩
    case round =>
      clear X2 Y2 L2 HU
      obtain ⟨k, hk, rfl, HU, XR, YR, LR⟩ := hrel
      by_cases hlt : k < m
      · obtain ⟨jx, hjx⟩ : ∃ j, j + k + 1 = n := ⟨n - k - 1, by omega⟩
        obtain ⟨jy, hjy⟩ : ∃ j, j + k + 1 = m := ⟨m - k - 1, by omega⟩
        have EX := rev_drop X jx k (by rw [NX.out]; exact hjx)
        have EY := rev_drop Y jy k (by rw [NY.out]; exact hjy)
        have hcx' : wr.cell? ⟨gx, jx, none⟩ = some (.string (X[jx]'(by rw [NX.out]; omega))) := by
          rw [XR.out.cell, List.getElem?_append_left (by rw [List.length_map, NX.out]; omega), tv_get]
        have hcy' : wr.cell? ⟨gy, jy, none⟩ = some (.string (Y[jy]'(by rw [NY.out]; omega))) := by
          rw [YR.out.cell, List.getElem?_append_left (by rw [List.length_map, NY.out]; omega), tv_get]
        have HR := HU.out
        rw [EX, EY, pfx] at HR
        clear EX EY
        generalize X[jx]'(by rw [NX.out]; omega) = p at *
        generalize Y[jy]'(by rw [NY.out]; omega) = q at *
        have HR' := Lib.hid HR
        clear HR HU
        have hsx : (n : Int) - ((k : Int) + 1) = (jx : Int) := by omega
        have hsy : (m : Int) - ((k : Int) + 1) = (jy : Int) := by omega
        cases hq : (p.data.toList == q.data.toList) with
        | true =>
          have HN : Hid (U = pfx (Y.reverse.drop (k + 1)) (X.reverse.drop (k + 1))) := by
            show _ = _
            rw [HR'.out, hq]
            rfl
          have hq2 : (!(p.toList == q.toList)) = false := by rw [ByteArray.toList_eq, ByteArray.toList_eq, hq]; rfl
          clear HR' hq
          go_wp2
          go_quiet (fail)
          go_wp2
          go_roundw
          case rel => exact ⟨k + 1, by omega, by go_num, HN.out, XR.out, YR.out, (LR.out.trans (drewN_below _ _ _) : Below w.heap.size w (wr.drewN nq))⟩
          case measure => simp [intOf]; omega
        | false =>
          have HN : Hid (U = false) := by
            show _ = _
            rw [HR'.out, hq]
            rfl
          have hq2 : (!(p.toList == q.toList)) = true := by rw [ByteArray.toList_eq, ByteArray.toList_eq, hq]; rfl
          clear HR' hq
          go_wp2
          go_quiet (fail)
          go_wp2
          go_ret
          rw [HN.out]
          exact ⟨rfl, LR.out.trans (drewN_below _ _ _)⟩
      · have HN : Hid (U = true) := by
          show _ = _
          rw [HU.out, rev_end Y k (by rw [NY.out]; omega)]
          rfl
        go_wp2
        go_ret
        rw [HN.out]
        exact ⟨rfl, LR.out⟩
end Go.Proofs.YtkpcanigdppegaaDoor.Under

/- Maps that a call makes and only adds to: what the block of such a map holds, entry by entry in the order in which they came, and the laws on a look-up, a store and a range. Condition: the keys are of a kind that can be compared without a panic (KeyT). -/
namespace Go.Proofs.YtkpcanigdppegaaDoor.MapK
open Go.RowKit Go.Proofs.YtkpcanigdppegaaDoor.Mem
open Go.ChangeMaps (setBlock heap_setBlock_same heap_setBlock_other)

/-- What the laws need of the values S as keys of type k. -/
structure KeyT (P : Program) (k : TypeId) (S : Value → Prop) : Prop where
  check : ∀ (w : World) (em : Bool) {v : Value}, S v → (Instr.checkKey em 10000 k v).run P w = .ok () w
  find : ∀ (w : World) {x : Value}, S x → ∀ es : List MapEntry, (∀ e ∈ es, S e.key) →
    ((Instr.findKey k x es).run P w = .ok none w ∧ ∀ e ∈ es, e.key ≠ x) ∨ ∃ j e, (Instr.findKey k x es).run P w = .ok (some (j, e.val)) w ∧ es[j]? = some e ∧ e.key = x
  stays : ∀ (w : World) {v : Value}, S v → (Instr.keyThatStays v v).run P w = .ok v w

theorem KeyT.of {P : Program} {k : TypeId} (K : Go.Maps.Keyed P k) {S : Value → Prop} (h : ∀ v, S v → ∃ l, keyOf P k v = some l) : KeyT P k S where
  check w em v hv := by obtain ⟨l, hl⟩ := h v hv; exact K.check w em hl
  find w x hx es hes := by obtain ⟨l, hl⟩ := h x hx; exact K.find w hl es (fun e he => h _ (hes e he))
  stays w v hv := by obtain ⟨l, hl⟩ := h v hv; exact K.stays w hl

/-- Keys of a struct's type: all that is wanted is whether two of them are equal. -/
theorem KeyT.struct {P : Program} {k : TypeId} {S : Value → Prop} (d : TypeDesc) (hd : P.underlying k = some d) (hn : ∀ x y : Value, S x → Instr.sameNow d x y = none)
    (check : ∀ (w : World) (em : Bool) {v : Value}, S v → (Instr.checkKey em 10000 k v).run P w = .ok () w)
    (same : ∀ (w : World) {x : Value}, S x → (Op.equal k x x).run P w = .ok true w)
    (diff : ∀ (w : World) {x y : Value}, S x → S y → x ≠ y → (Op.equal k x y).run P w = .ok false w)
    (stays : ∀ (w : World) {v : Value}, S v → (Instr.keyThatStays v v).run P w = .ok v w) : KeyT P k S where
  check := check
  stays := stays
  find := by
    have ask : ∀ (w : World) {x : Value}, S x → ∀ (es : List MapEntry) (i : Nat), (∀ e ∈ es, S e.key) →
        ((Instr.findAsking k x es i).run P w = .ok none w ∧ ∀ e ∈ es, e.key ≠ x) ∨ ∃ j e, (Instr.findAsking k x es i).run P w = .ok (some (i + j, e.val)) w ∧ es[j]? = some e ∧ e.key = x := by
      intro w x hx es
      induction es with
      | nil => intro i _; exact Or.inl ⟨rfl, fun e he => by cases he⟩
      | cons e es ih =>
        intro i hes
        have he := hes e (by simp)
        by_cases hq : e.key = x
        · right
          refine ⟨0, e, ?_, rfl, hq⟩
          have hrun := same w hx
          rw [Instr.findAsking, hq]
          simp only [Sem.run_bind, hrun, Result.andThen]
          rfl
        · have hrun := diff w hx he (fun h => hq h.symm)
          have e1 : (Instr.findAsking k x (e :: es) i).run P w = (Instr.findAsking k x es (i + 1)).run P w := by
            rw [Instr.findAsking]
            simp only [Sem.run_bind, hrun, Result.andThen]
            rfl
          rw [e1]
          rcases ih (i + 1) (fun e' he' => hes e' (by simp [he'])) with ⟨h1, h2⟩ | ⟨j, e', h1, h2, h3⟩
          · left
            refine ⟨h1, fun e' he' => ?_⟩
            rcases List.mem_cons.1 he' with rfl | he'
            · exact hq
            · exact h2 e' he'
          · right
            exact ⟨j + 1, e', by rw [h1, show i + 1 + j = i + (j + 1) by omega], by simpa using h2, h3⟩
    intro w x hx es hes
    have hu : (Instr.findKey k x es).run P w = (Instr.findAsking k x es).run P w := by
      simp only [Instr.findKey, Sem.run_bind, run_underlying hd, Result.andThen]
      cases es with
      | nil => rfl
      | cons e es =>
        have h0 : Instr.findNow d x (e :: es) 0 = none := by
          rw [Instr.findNow, hn x e.key hx]
        rw [h0]
    rw [hu]
    rcases ask w hx es 0 hes with h | ⟨j, e, h1, h2, h3⟩
    · exact Or.inl h
    · exact Or.inr ⟨j, e, by rw [h1, Nat.zero_add], h2, h3⟩

theorem own_mono {w : World} {base base' : Nat} {e : TypeId} {size : Nat} {v : Value} {n : Nat} {xs : List Value} (h : w.ownsRow base e size v n xs) (hb : base' ≤ base) : w.ownsRow base' e size v n xs :=
  ⟨h.1, h.2.imp id (fun ⟨g, cap, cur, a, b, r⟩ => ⟨g, cap, cur, a, Nat.le_trans hb b, r⟩)⟩

/-- Block b of w is a map with just these entries, in the order in which they came. -/
def Mp (w : World) (b : Nat) (l : List (Value × Value)) : Prop :=
  ∃ es clock, w.heap[b]? = some (.map es clock) ∧ es.toList.map (fun e => (e.key, e.val)) = l ∧ (∀ e ∈ es.toList, e.born < clock) ∧ (es.toList.map (·.born)).Nodup

section
variable {P : Program} {w w' : World} {b : Nat} {l : List (Value × Value)} {k e t : TypeId} {S : Value → Prop}

theorem Mp.lt (h : Mp w b l) : b < w.heap.size := by
  obtain ⟨es, clock, hb, _⟩ := h
  exact (Array.getElem?_eq_some_iff.1 hb).1

theorem Mp.kept (h : Mp w b l) (hk : w'.heap[b]? = w.heap[b]?) : Mp w' b l := by
  obtain ⟨es, clock, hb, h1⟩ := h
  exact ⟨es, clock, hk.trans hb, h1⟩

theorem Mp.grown {row : Option Nat} (h : Mp w b l) (hg : w.grownBy w' row) (hne : some b ≠ row) : Mp w' b l := h.kept (hg.block b h.lt hne)

theorem Mp.below {B : Nat} (h : Mp w b l) (hb : Below B w w') (hlt : b < B) : Mp w' b l := h.kept (hb.block b hlt)

theorem Mp.alloc (h : Mp w b l) (o : Obj) : Mp (w.alloc o) b l := h.grown (World.grownBy_alloc w o none) (by simp)

theorem Mp.drew (h : Mp w b l) : Mp w.drew b l := h

theorem Mp.drewN (h : Mp w b l) (q : Nat) : Mp (w.drewN q) b l := h

theorem Mp.set (h : Mp w b l) {p : Addr} (hp : b ≠ p.block) (u : Value) : Mp (w.setCell p u) b l := h.kept (Below.heap_setCell w p u b hp)

theorem Mp.made (w : World) : Mp (w.alloc (.map #[] 0)) w.heap.size [] := ⟨#[], 0, (MapKept.heap_alloc w _).1, rfl, by simp, by simp⟩

theorem mem_key {es : Array MapEntry} (h : es.toList.map (fun e => (e.key, e.val)) = l) (hS : ∀ p ∈ l, S p.1) : ∀ e ∈ es.toList, S e.key := fun e he =>
  hS (e.key, e.val) (h ▸ List.mem_map.2 ⟨e, he, rfl⟩)

/-- A look-up of a key that is not there. -/
theorem Mp.out (h : Mp w b l) (K : KeyT P k S) (ht : P.underlying t = some (.map k e)) {z : Value} (hz : (zeroValue e).run P w = .ok z w) (hS : ∀ p ∈ l, S p.1) {x : Value} (hx : S x) (hno : ∀ p ∈ l, p.1 ≠ x) (ok : Bool) :
    (Instr.lookup t (.map (some b)) x ok).run P w = .ok (if ok then .tuple #[z, .bool false] else z) w := by
  obtain ⟨es, clock, hb, hl, _⟩ := h
  rcases K.find w hx es.toList (mem_key hl hS) with ⟨hrun, _⟩ | ⟨j, e0, _, hj, hk⟩
  · simp [Instr.lookup, run_underlying ht, MapKept.run_getObj_map hb, K.check w es.isEmpty hx, hrun, hz, Result.andThen]
  · exact absurd hk (hno (e0.key, e0.val) (hl ▸ List.mem_map.2 ⟨e0, List.mem_of_getElem? hj, rfl⟩))

theorem nodup_inj {α : Type} {l : List α} (hd : l.Nodup) {i j : Nat} {a : α} (h1 : l[i]? = some a) (h2 : l[j]? = some a) : i = j := by
  obtain ⟨hi, e1⟩ := List.getElem?_eq_some_iff.1 h1
  obtain ⟨hj, e2⟩ := List.getElem?_eq_some_iff.1 h2
  have hp := List.pairwise_iff_getElem.1 hd
  rcases Nat.lt_trichotomy i j with h | h | h
  · exact absurd (e1.trans e2.symm) (hp i j hi hj h)
  · exact h
  · exact absurd (e2.trans e1.symm) (hp j i hj hi h)

theorem key_idx (hd : (l.map Prod.fst).Nodup) {x u v : Value} {i j : Nat} (h1 : l[i]? = some (x, u)) (h2 : l[j]? = some (x, v)) : i = j :=
  nodup_inj hd (a := x) (by rw [List.getElem?_map, h1]; rfl) (by rw [List.getElem?_map, h2]; rfl)

theorem key_one (hd : (l.map Prod.fst).Nodup) {x u v : Value} (h1 : (x, u) ∈ l) (h2 : (x, v) ∈ l) : u = v := by
  obtain ⟨i, e1⟩ := List.getElem?_of_mem h1
  obtain ⟨j, e2⟩ := List.getElem?_of_mem h2
  obtain rfl := key_idx hd e1 e2
  rw [e1] at e2
  cases e2
  rfl

/-- A look-up of a key that is there. -/
theorem Mp.in (h : Mp w b l) (K : KeyT P k S) (ht : P.underlying t = some (.map k e)) (hS : ∀ p ∈ l, S p.1) (hd : (l.map Prod.fst).Nodup) {x v : Value} (hx : S x) (hin : (x, v) ∈ l) (ok : Bool) :
    (Instr.lookup t (.map (some b)) x ok).run P w = .ok (if ok then .tuple #[v, .bool true] else v) w := by
  obtain ⟨es, clock, hb, hl, _⟩ := h
  rcases K.find w hx es.toList (mem_key hl hS) with ⟨_, hno⟩ | ⟨j, e0, hrun, hj, hk⟩
  · rw [← hl] at hin
    obtain ⟨e0, he, hq⟩ := List.mem_map.1 hin
    exact absurd (congrArg Prod.fst hq) (hno e0 he)
  · have hv : e0.val = v := key_one hd (x := x) (by rw [← hl, ← hk]; exact List.mem_map.2 ⟨e0, List.mem_of_getElem? hj, rfl⟩) hin
    simp [Instr.lookup, run_underlying ht, MapKept.run_getObj_map hb, K.check w es.isEmpty hx, hrun, hv, Result.andThen]

theorem grown_block {es : Array MapEntry} {c : Nat} (hb : w.heap[b]? = some (.map es c)) (o' : Obj) : w.grownBy (setBlock w b o') (some b) := by
  exact ⟨rfl, rfl, rfl, by simp [setBlock], fun i _ hi => heap_setBlock_other hb _ (fun e => hi (by rw [e]))⟩

/-- A store at a key that is not there. -/
theorem Mp.new (h : Mp w b l) (K : KeyT P k S) (ht : P.underlying t = some (.map k e)) (hS : ∀ p ∈ l, S p.1) {x : Value} (v : Value) (hx : S x) (hno : ∀ p ∈ l, p.1 ≠ x) :
    ∃ w', (Instr.mapUpdate t (.map (some b)) x v).run P w = .ok () w' ∧ Mp w' b (l ++ [(x, v)]) ∧ w.grownBy w' (some b) ∧ w'.heap.size = w.heap.size := by
  obtain ⟨es, clock, hb, hl, hborn, hnd⟩ := h
  rcases K.find w hx es.toList (mem_key hl hS) with ⟨hrun, _⟩ | ⟨j, e0, _, hj, hk⟩
  · refine ⟨setBlock w b (.map (es.push ⟨x, v, clock⟩) (clock + 1)), ?_, ⟨_, _, heap_setBlock_same hb _, ?_, ?_, ?_⟩, grown_block hb _, by simp [setBlock]⟩
    · simp [Instr.mapUpdate, run_underlying ht, MapKept.run_getObj_map hb, K.check w false hx, hrun, MapKept.run_setObj_map _ hb, Result.andThen, setBlock]
    · rw [Array.toList_push, List.map_append, hl]; rfl
    · intro e' he'
      rw [Array.toList_push, List.mem_append] at he'
      rcases he' with he' | he'
      · have := hborn e' he'; omega
      · obtain rfl := List.mem_singleton.1 he'; exact Nat.lt_succ_self _
    · rw [Array.toList_push, List.map_append, List.nodup_append]
      refine ⟨hnd, by simp, fun a ha c hc => ?_⟩
      obtain ⟨e', he', rfl⟩ := List.mem_map.1 ha
      have h1 := hborn e' he'
      simp at hc
      omega
  · exact absurd hk (hno (e0.key, e0.val) (hl ▸ List.mem_map.2 ⟨e0, List.mem_of_getElem? hj, rfl⟩))

/-- A store at a key that is there. -/
theorem Mp.old (h : Mp w b l) (K : KeyT P k S) (ht : P.underlying t = some (.map k e)) (hS : ∀ p ∈ l, S p.1) (hd : (l.map Prod.fst).Nodup) {x u : Value} (v : Value) (hx : S x) {j : Nat} (hin : l[j]? = some (x, u)) :
    ∃ w', (Instr.mapUpdate t (.map (some b)) x v).run P w = .ok () w' ∧ Mp w' b (l.set j (x, v)) ∧ w.grownBy w' (some b) ∧ w'.heap.size = w.heap.size := by
  obtain ⟨es, clock, hb, hl, hborn, hnd⟩ := h
  rcases K.find w hx es.toList (mem_key hl hS) with ⟨_, hno⟩ | ⟨i, e0, hrun, hi, hk⟩
  · have hm := List.mem_of_getElem? hin
    rw [← hl] at hm
    obtain ⟨e0, he, hq⟩ := List.mem_map.1 hm
    exact absurd (congrArg Prod.fst hq) (hno e0 he)
  · have hli : l[i]? = some (e0.key, e0.val) := by rw [← hl, List.getElem?_map, hi]; rfl
    rw [hk] at hli
    obtain rfl := key_idx hd hli hin
    have hget : es[i]? = some e0 := by rw [← Array.getElem?_toList]; exact hi
    refine ⟨setBlock w b (.map (es.modify i fun e => { e with key := x, val := v }) clock), ?_, ⟨_, _, heap_setBlock_same hb _, ?_, ?_, ?_⟩, grown_block hb _, by simp [setBlock]⟩
    · have hst := K.stays w hx
      have hck := K.check w false hx
      subst hk
      simp [Instr.mapUpdate, run_underlying ht, MapKept.run_getObj_map hb, hck, hrun, hget, hst, MapKept.run_setObj_map _ hb, Result.andThen, setBlock]
    · rw [Array.toList_modify, ← hl]
      refine List.ext_getElem? fun n => ?_
      rw [List.getElem?_map, List.getElem?_modify, List.getElem?_set]
      by_cases hn : i = n
      · subst hn
        have : i < es.toList.length := (List.getElem?_eq_some_iff.1 hi).1
        rw [Array.length_toList] at this
        simp [this]
      · simp [hn]
    · intro e' he'
      rw [Array.toList_modify] at he'
      obtain ⟨n, hn⟩ := List.getElem?_of_mem he'
      rw [List.getElem?_modify] at hn
      obtain ⟨e1, h1, rfl⟩ := Option.map_eq_some_iff.1 hn
      have := hborn e1 (List.mem_of_getElem? h1)
      split <;> exact this
    · have : (es.modify i fun e => { e with key := x, val := v }).toList.map (·.born) = es.toList.map (·.born) := by
        rw [Array.toList_modify]
        refine List.ext_getElem? fun n => ?_
        rw [List.getElem?_map, List.getElem?_map, List.getElem?_modify]
        cases es.toList[n]? <;> simp
        split <;> rfl
      rw [this]
      exact hnd

/-- 'm[k]' at the operation. -/
theorem wp_look {ops : Array Oper} {rest : List Oper} {o : Oper} {a : Act} {Q : Exit → Act → World → Prop}
    (hg : o.guard = none) (m x : Operand) (ok : Bool) (hop : o.op = Op.lookup t m x ok) (key r : Value) (hm : a.eval m = .map (some b)) (hx : a.eval x = key)
    (hrun : (Instr.lookup t (.map (some b)) key ok).run P w = .ok r w) (hK : wpList P ops Q rest (a.put o.dst r) w) : wpList P ops Q (o :: rest) a w := by
  refine wpList_plain hg fun K' hK' => ?_
  unfold Oper.wp
  simp [execOp, hop, hm, hx, hrun, Result.andThen]
  exact hK' _ _ hK

/-- 'm[k] = v' at the operation. -/
theorem wp_store {ops : Array Oper} {rest : List Oper} {o : Oper} {a : Act} {Q : Exit → Act → World → Prop}
    (hg : o.guard = none) (m x v : Operand) (hop : o.op = Op.mapUpdate t m x v) (key u : Value) (hm : a.eval m = .map (some b)) (hx : a.eval x = key) (hv : a.eval v = u)
    (l' : List (Value × Value)) (hrun : ∃ w', (Instr.mapUpdate t (.map (some b)) key u).run P w = .ok () w' ∧ Mp w' b l' ∧ w.grownBy w' (some b) ∧ w'.heap.size = w.heap.size)
    (hK : ∀ w', Mp w' b l' → w.grownBy w' (some b) → w'.heap.size = w.heap.size → wpList P ops Q rest (a.put o.dst undef) w') : wpList P ops Q (o :: rest) a w := by
  obtain ⟨w', h1, h2, h3, h4⟩ := hrun
  refine wpList_plain hg fun K' hK' => ?_
  unfold Oper.wp
  simp [execOp, hop, hm, hx, hv, h1, Result.andThen]
  exact hK' _ _ (hK w' h2 h3 h4)
end
end Go.Proofs.YtkpcanigdppegaaDoor.MapK

/- What l10Uniq does in the model: the records in order, of alike ones one, and of one key one time to live; the row is the call's own. Condition: fewer than 400000001 records, of at most 400000000 bytes a text. -/
namespace Go.Proofs.YtkpcanigdppegaaDoor.UniqZ
open Go.RowKit Go.Proofs.YtkpcanigdppegaaDoor.Mem Go.Proofs.YtkpcanigdppegaaDoor.MemR Go.Proofs.YtkpcanigdppegaaDoor.SetMath Go.Proofs.YtkpcanigdppegaaDoor.NameMath Go.Proofs.YtkpcanigdppegaaDoor.NameOk Go.Proofs.YtkpcanigdppegaaDoor.ZoneMath Go.Proofs.YtkpcanigdppegaaDoor.MemZ Go.Proofs.YtkpcanigdppegaaDoor.RecOk Go.Proofs.YtkpcanigdppegaaDoor.LessR Go.Proofs.YtkpcanigdppegaaDoor.ZokMath Go.Proofs.YtkpcanigdppegaaDoor.Labels Go.Proofs.YtkpcanigdppegaaDoor.BoxR Go.Proofs.YtkpcanigdppegaaDoor.AliI Go.Proofs.YtkpcanigdppegaaDoor.Under Go.Proofs.YtkpcanigdppegaaDoor.SrtMath Go.Proofs.YtkpcanigdppegaaDoor.UqzMath

/-- The call returned a row of its own with these records, and turned nothing that was there. -/
def GivesU (w : World) (l : List Rec) (e : Ending) (w' : World) : Prop :=
  ∃ S g m cap, Srt l S ∧ e = .returned (.slice (some ⟨g, 0, none⟩) m cap) ∧ (uqz S).length = m ∧ w'.ownsRow w.heap.size 39 6 (.slice (some ⟨g, 0, none⟩) m cap) m (fl (uqz S)) ∧ Below w.heap.size w w'

theorem own_set {w : World} {base gb gl n cap : Nat} {L : List Rec} (h : w.ownsRow base 39 6 (.slice (some ⟨gl, 0, none⟩) n cap) n (fl L)) (hb : gl ≠ gb) (j : Nat) (u : Value) : (w.setCell ⟨gb, j, none⟩ u).ownsRow base 39 6 (.slice (some ⟨gl, 0, none⟩) n cap) n (fl L) :=
  h.kept (row := some gb) ⟨rfl, rfl, rfl, by simp [World.setCell], fun k _ hne => Below.heap_setCell _ _ _ _ (fun e => hne (by simp [e]))⟩ (Or.inr (fun e => hb (Option.some.inj e)))

theorem last_at {U : List Rec} {q : Nat} (h : U.length = q + 1) (hq : q < U.length) : U.getLast? = some U[q] := by
  rw [List.getLast?_eq_getElem?, h, Nat.add_sub_cancel, List.getElem?_eq_getElem hq]

set_option maxRecDepth 100000 in
set_option maxHeartbeats 16000000 in
theorem spec (b0 o0 n c : Nat) (l : List Rec) (w : World) (hs : Sr w w.heap.size (some ⟨b0, o0, none⟩) n l) (hn : n ≤ 400000000) (hf : ∀ r ∈ l, Fine r) : Calls Tryd.prog 63 #[.slice (some ⟨b0, o0, none⟩) n c] w (GivesU w l) := by
  have SO := Lib.hid (SortZ.spec b0 o0 n c l w hs hn hf)
  have HLN := Lib.hid hs.1
  clear hs hf
  go_enter Tryd.func63, Tryd.ntmps63
  go_wp2_with fail
  refine SO.out.mono ?_
  rintro e w1 ⟨S, gs, cs, rs, hsrt, rfl, hcs, hgs, hb, hl⟩
  have SR := Lib.hid hsrt
  have HSL : Hid (S.length = n) := show _ = _ by rw [hsrt.length, HLN.out]
  have HS : Hid (Sr w1 w1.heap.size (some ⟨gs, 0, none⟩) n S) := bk_sr hb HSL.out
  have L0 := Lib.hid hl
  have P2 := Lib.hid (AppR.owns_new w1)
  have L2 := Lib.hid ((Below.refl w1.heap.size w1).alloc (Nat.le_refl _) (.cells #[] 39))
  clear hsrt hcs hgs hb hl SO
  go_wp2
  generalize w1.alloc (.cells #[] 39) = w2 at *
  go_loopw [4, 5] (fun out i wr => ∃ (k g m cap : Nat) (U : List Rec), k ≤ n ∧ m ≤ k ∧ i = .int .i64 k ∧ out = .slice (some ⟨g, 0, none⟩) m cap ∧ uqz (S.take k) = U ∧ Hid (wr.ownsRow w1.heap.size 39 6 (.slice (some ⟨g, 0, none⟩) m cap) m (fl U)) ∧ Hid (Below w1.heap.size w1 wr)) (fun _ i _ => n - (intOf i).toNat)
  case atStart => exact ⟨0, w1.heap.size, 0, 0, [], Nat.zero_le _, Nat.le_refl _, rfl, rfl, rfl, P2.out, L2.out⟩
  case round =>
    clear P2 L2
    obtain ⟨k, g, m, cap, U, hk, hm, rfl, rfl, hU, HO, HL⟩ := hrel
    have HU0 := Lib.hid hU
    clear hU
    have HUL : Hid (U.length = m) := show _ = _ by have := HO.out.1; rw [fl_len] at this; omega
    by_cases hlt : k < n
    · obtain ⟨b, off, hA, hbB, hcs⟩ := HS.out.2 (by omega)
      obtain ⟨rfl, rfl⟩ : gs = b ∧ 0 = off := by simp at hA; exact hA
      clear hA
      have hkl : k < S.length := by rw [HSL.out]; exact hlt
      obtain ⟨e0, e1, e2, e3, e4, e5⟩ : Ce wr gs (k * 6) S[k] := by have := (hcs k hkl).below HL.out hbB; rwa [Nat.zero_add] at this
      clear hcs
      have HT : Hid (uqz (S.take (k + 1)) = ust U S[k]) := show _ = _ by rw [uqz_take S k hkl, HU0.out]
      generalize S[k] = r at *
      by_cases hm0 : m = 0
      · have HU : Hid (uqz (S.take (k + 1)) = U ++ [r]) := show _ = _ by
          rw [HT.out, List.eq_nil_of_length_eq_zero (HUL.out.trans hm0), ust_nil]; rfl
        have d0 : decide ((0 : Int) < (m : Int)) = false := by simp; omega
        have d1 : decide (0 < m) = false := by simp; omega
        clear HT HU0 hm0
        go_wp2
        go_quiet (fail)
        have L9 : Hid (Below w1.heap.size w1 ((wr.alloc (.cells #[.string r.name, .int .i64 r.ty, .int .i64 r.ttl, .int .i64 r.n, .string r.host, .string r.text] 39)).drewN nq)) := (HL.out.alloc HL.out.size (.cells #[.string r.name, .int .i64 r.ty, .int .i64 r.ttl, .int .i64 r.n, .string r.host, .string r.text] 39)).trans (drewN_below _ _ _)
        have B9 : Hid (Bk ((wr.alloc (.cells #[.string r.name, .int .i64 r.ty, .int .i64 r.ttl, .int .i64 r.n, .string r.host, .string r.text] 39)).drewN nq) wr.heap.size 39 (rc r)) := heap_alloc_new wr _
        have O9 : Hid (((wr.alloc (.cells #[.string r.name, .int .i64 r.ty, .int .i64 r.ttl, .int .i64 r.n, .string r.host, .string r.text] 39)).drewN nq).ownsRow w1.heap.size 39 6 (.slice (some ⟨g, 0, none⟩) m cap) m (fl U)) := HO.out.alloc (.cells #[.string r.name, .int .i64 r.ty, .int .i64 r.ttl, .int .i64 r.n, .string r.host, .string r.text] 39)
        have N9 : Hid (g < wr.heap.size) := (HO.out.lt g rfl).2
        clear HL HO e0 e1 e2 e3 e4 e5
        generalize (wr.alloc (.cells #[.string r.name, .int .i64 r.ty, .int .i64 r.ttl, .int .i64 r.n, .string r.host, .string r.text] 39)).drewN nq = w9 at *
        generalize wr.heap.size = ga at *
        have b0 : w9.cell? ⟨ga, 0, none⟩ = some (.string r.name) := B9.out.cell 0
        have b1 : w9.cell? ⟨ga, 1, none⟩ = some (.int .i64 r.ty) := B9.out.cell 1
        have b2 : w9.cell? ⟨ga, 2, none⟩ = some (.int .i64 r.ttl) := B9.out.cell 2
        have b3 : w9.cell? ⟨ga, 3, none⟩ = some (.int .i64 r.n) := B9.out.cell 3
        have b4 : w9.cell? ⟨ga, 4, none⟩ = some (.string r.host) := B9.out.cell 4
        have b5 : w9.cell? ⟨ga, 5, none⟩ = some (.string r.text) := B9.out.cell 5
        go_wp2_with (at_builtin; refine SetS.append_at (w := w9) rfl (.tmp 61) (.tmp 63) rfl w1.heap.size g m cap U rfl O9.out r w9.heap.size rfl rfl (by omega) (by have h1 := O9.out.lt g rfl; omega) ?_)
        intro g7 cap7 w7 hown hgrow
        have O7 := Lib.hid hown
        have gge : w1.heap.size ≤ g := (O9.out.lt g rfl).1
        have L7 := Lib.hid ((L9.out.alloc L9.out.size (.cells #[.string r.name, .int .i64 r.ty, .int .i64 r.ttl, .int .i64 r.n, .string r.host, .string r.text] 39)).grown hgrow (Nat.le_trans L9.out.size (by simp)) (fun j hj => by cases hj; exact gge))
        clear hown hgrow b0 b1 b2 b3 b4 b5
        go_wp2
        go_roundw
        case rel => exact ⟨k + 1, g7, m + 1, cap7, _, by omega, by omega, by go_num, rfl, by rw [HU.out], O7.out, L7.out⟩
        case measure => simp [intOf]; omega
      obtain ⟨q, rfl⟩ : ∃ q, m = q + 1 := ⟨m - 1, by omega⟩
      have hql : q < U.length := by rw [HUL.out]; omega
      have HLAST := Lib.hid (last_at HUL.out hql)
      have HC : Hid (Ce wr g (q * 6) U[q]) := by
        obtain ⟨r', hb, _⟩ := bk_of_owns6 HO.out
        exact bk_ce hb q hql
      generalize U[q] = p at *
      have ltg : g < wr.heap.size := (HO.out.lt g rfl).2
      obtain ⟨p0, p1, p2, p3, p4, p5⟩ := HC.out
      have i1 : (0 : Int) < ((q + 1 : Nat) : Int) := by omega
      have i1' : (0 : Int) < (q : Int) + 1 := by omega
      have i2 : ((q + 1 : Nat) : Int) - 1 = (q : Int) := by omega
      have i2' : (q : Int) + 1 - 1 = (q : Int) := by omega
      have i3 : IntKind.i64.wrap (q : Int) = (q : Int) := IntWalk.i64_in _ (by omega)
      have i4 : (q : Int) < (q : Int) + 1 := by omega
      have i5 : (0 : Int) ≤ (q : Int) := by omega
      clear hm0
      by_cases hnm : p.name = r.name
      · have n1 : (p.name.toList == r.name.toList) = true := by rw [hnm]; simp
        have n2 : (p.name.data.toList == r.name.data.toList) = true := by rw [hnm]; simp
        by_cases hty : p.ty = r.ty
        · have t0 : (p.ty == r.ty) = true := by simpa using hty
          have C0 : Hid (Ce (wr.alloc (.cells #[.string r.name, .int .i64 r.ty, .int .i64 r.ttl, .int .i64 r.n, .string r.host, .string r.text] 39)) g (q * 6) p) := HC.out.below ((Below.refl wr.heap.size wr).alloc (Nat.le_refl _) (.cells #[.string r.name, .int .i64 r.ty, .int .i64 r.ttl, .int .i64 r.n, .string r.host, .string r.text] 39)) ltg
          go_wp2
          go_quiet (fail)
          have L9 : Hid (Below w1.heap.size w1 ((wr.alloc (.cells #[.string r.name, .int .i64 r.ty, .int .i64 r.ttl, .int .i64 r.n, .string r.host, .string r.text] 39)).drewN nq)) := (HL.out.alloc HL.out.size (.cells #[.string r.name, .int .i64 r.ty, .int .i64 r.ttl, .int .i64 r.n, .string r.host, .string r.text] 39)).trans (drewN_below _ _ _)
          have B9 : Hid (Bk ((wr.alloc (.cells #[.string r.name, .int .i64 r.ty, .int .i64 r.ttl, .int .i64 r.n, .string r.host, .string r.text] 39)).drewN nq) wr.heap.size 39 (rc r)) := heap_alloc_new wr _
          have O9 : Hid (((wr.alloc (.cells #[.string r.name, .int .i64 r.ty, .int .i64 r.ttl, .int .i64 r.n, .string r.host, .string r.text] 39)).drewN nq).ownsRow w1.heap.size 39 6 (.slice (some ⟨g, 0, none⟩) (q + 1) cap) (q + 1) (fl U)) := HO.out.alloc (.cells #[.string r.name, .int .i64 r.ty, .int .i64 r.ttl, .int .i64 r.n, .string r.host, .string r.text] 39)
          have N9 : Hid (g < wr.heap.size) := (HO.out.lt g rfl).2
          clear HL HO e0 e1 e2 e3 e4 e5
          have C0 : Hid (Ce ((wr.alloc (.cells #[.string r.name, .int .i64 r.ty, .int .i64 r.ttl, .int .i64 r.n, .string r.host, .string r.text] 39)).drewN nq) g (q * 6) p) := C0.out
          clear p0 p1 p2 p3 p4 p5
          generalize (wr.alloc (.cells #[.string r.name, .int .i64 r.ty, .int .i64 r.ttl, .int .i64 r.n, .string r.host, .string r.text] 39)).drewN nq = w9 at *
          generalize wr.heap.size = ga at *
          have C9 : Hid (Ce w9 g (q * 6) p) := C0.out
          obtain ⟨p0, p1, p2, p3, p4, p5⟩ := C9.out
          have f2 := B9.out.free 2
          have b2 : w9.cell? ⟨ga, 2, none⟩ = some (.int .i64 r.ttl) := B9.out.cell 2
          go_upto_region 10 with (fail)
          have NE : Hid (g ≠ ga) := Nat.ne_of_lt N9.out
          have B10 : Hid (Bk (w9.setCell ⟨ga, 2, none⟩ (.int .i64 p.ttl)) ga 39 (rc (SetMath.wr p.ttl r))) := B9.out.set 2 _
          have O10 := Lib.hid (own_set O9.out NE.out 2 (.int .i64 p.ttl))
          have L10 : Hid (Below w1.heap.size w1 (w9.setCell ⟨ga, 2, none⟩ (.int .i64 p.ttl))) := L9.out.setCell (p := ⟨ga, 2, none⟩) (Nat.le_trans (O9.out.lt g rfl).1 (Nat.le_of_lt N9.out)) _
          have C10 : Hid (Ce (w9.setCell ⟨ga, 2, none⟩ (.int .i64 p.ttl)) g (q * 6) p) := C9.out.move fun a ha => World.cell?_of_block (Below.heap_setCell _ _ _ _ (by rw [ha]; exact NE.out))
          clear p0 p1 p2 p3 p4 p5 f2 b2 B9 O9 L9 C9 C0
          generalize w9.setCell ⟨ga, 2, none⟩ (.int .i64 p.ttl) = w10 at *
          obtain ⟨p0, p1, p2, p3, p4, p5⟩ := C10.out
          have b0 : w10.cell? ⟨ga, 0, none⟩ = some (.string r.name) := B10.out.cell 0
          have b1 : w10.cell? ⟨ga, 1, none⟩ = some (.int .i64 r.ty) := B10.out.cell 1
          have b2 : w10.cell? ⟨ga, 2, none⟩ = some (.int .i64 p.ttl) := B10.out.cell 2
          have b3 : w10.cell? ⟨ga, 3, none⟩ = some (.int .i64 r.n) := B10.out.cell 3
          have b4 : w10.cell? ⟨ga, 4, none⟩ = some (.string r.host) := B10.out.cell 4
          have b5 : w10.cell? ⟨ga, 5, none⟩ = some (.string r.text) := B10.out.cell 5
          by_cases hpr : p = SetMath.wr p.ttl r
          · have HU : Hid (uqz (S.take (k + 1)) = U) := show _ = _ by rw [HT.out, ust_same HLAST.out ⟨hnm, hty⟩ hpr]
            have qe : ∀ w : World, Sem.run Tryd.prog (binOp .eql 39 (.agg #[.string p.name, .int .i64 p.ty, .int .i64 p.ttl, .int .i64 p.n, .string p.host, .string p.text]) (.agg #[.string r.name, .int .i64 r.ty, .int .i64 p.ttl, .int .i64 r.n, .string r.host, .string r.text])) w = .ok (.bool true) w := fun w => by
              have h := EqlR.eql_same p w
              have e : (.agg #[.string p.name, .int .i64 p.ty, .int .i64 p.ttl, .int .i64 p.n, .string p.host, .string p.text] : Value) = .agg #[.string r.name, .int .i64 r.ty, .int .i64 p.ttl, .int .i64 r.n, .string r.host, .string r.text] := by
                have := congrArg (fun x : Rec => (.agg #[.string x.name, .int .i64 x.ty, .int .i64 x.ttl, .int .i64 x.n, .string x.host, .string x.text] : Value)) hpr
                exact this
              exact (congrArg (fun v => Sem.run Tryd.prog (binOp .eql 39 (.agg #[.string p.name, .int .i64 p.ty, .int .i64 p.ttl, .int .i64 p.n, .string p.host, .string p.text]) v) w) e.symm).trans h
            clear HT HU0 hnm hty hpr
            go_quiet (fail)
            have O11 : Hid ((w10.drewN nq).ownsRow w1.heap.size 39 6 (.slice (some ⟨g, 0, none⟩) (q + 1) cap) (q + 1) (fl U)) := O10.out
            have L11 : Hid (Below w1.heap.size w1 (w10.drewN nq)) := L10.out.trans (drewN_below _ _ _)
            clear p0 p1 p2 p3 p4 p5 b0 b1 b2 b3 b4 b5 qe
            go_wp2
            go_roundw
            case rel => exact ⟨k + 1, g, q + 1, cap, U, by omega, by omega, by go_num, rfl, HU.out, O11.out, L11.out⟩
            case measure => simp [intOf]; omega
          · have HU : Hid (uqz (S.take (k + 1)) = U ++ [Rec.mk r.name r.ty p.ttl r.n r.host r.text]) := show _ = _ by rw [HT.out, ust_key HLAST.out ⟨hnm, hty⟩ hpr]; rfl
            have qe : ∀ w : World, Sem.run Tryd.prog (binOp .eql 39 (.agg #[.string p.name, .int .i64 p.ty, .int .i64 p.ttl, .int .i64 p.n, .string p.host, .string p.text]) (.agg #[.string r.name, .int .i64 r.ty, .int .i64 p.ttl, .int .i64 r.n, .string r.host, .string r.text])) w = .ok (.bool false) w := by
              have h := EqlR.eql_diff hpr
              simp only [SetMath.wr] at h
              exact h
            clear HT HU0 hnm hty hpr
            go_quiet (fail)
            have O11 : Hid ((w10.drewN nq).ownsRow w1.heap.size 39 6 (.slice (some ⟨g, 0, none⟩) (q + 1) cap) (q + 1) (fl U)) := O10.out
            have L11 : Hid (Below w1.heap.size w1 (w10.drewN nq)) := L10.out.trans (drewN_below _ _ _)
            have B11 : Hid (Bk (w10.drewN nq) ga 39 (rc (SetMath.wr p.ttl r))) := B10.out
            clear p0 p1 p2 p3 p4 p5 b0 b1 b2 b3 b4 b5 qe O10 L10 B10 C10
            generalize w10.drewN nq = w11 at *
            have b0 : w11.cell? ⟨ga, 0, none⟩ = some (.string r.name) := B11.out.cell 0
            have b1 : w11.cell? ⟨ga, 1, none⟩ = some (.int .i64 r.ty) := B11.out.cell 1
            have b2 : w11.cell? ⟨ga, 2, none⟩ = some (.int .i64 p.ttl) := B11.out.cell 2
            have b3 : w11.cell? ⟨ga, 3, none⟩ = some (.int .i64 r.n) := B11.out.cell 3
            have b4 : w11.cell? ⟨ga, 4, none⟩ = some (.string r.host) := B11.out.cell 4
            have b5 : w11.cell? ⟨ga, 5, none⟩ = some (.string r.text) := B11.out.cell 5
            go_wp2_with (at_builtin; refine SetS.append_at (w := w11) rfl (.tmp 61) (.tmp 63) rfl w1.heap.size g (q + 1) cap U rfl O11.out (Rec.mk r.name r.ty p.ttl r.n r.host r.text) w11.heap.size rfl rfl (by omega) (by have h1 := O11.out.lt g rfl; omega) ?_)
            intro g7 cap7 w7 hown hgrow
            have O7 := Lib.hid hown
            have gge : w1.heap.size ≤ g := (O11.out.lt g rfl).1
            have L7 := Lib.hid ((L11.out.alloc L11.out.size (.cells #[.string r.name, .int .i64 r.ty, .int .i64 p.ttl, .int .i64 r.n, .string r.host, .string r.text] 39)).grown hgrow (Nat.le_trans L11.out.size (by simp)) (fun j hj => by cases hj; exact gge))
            clear hown hgrow b0 b1 b2 b3 b4 b5
            go_wp2
            go_roundw
            case rel => exact ⟨k + 1, g7, q + 1 + 1, cap7, _, by omega, by omega, by go_num, rfl, by rw [HU.out], O7.out, L7.out⟩
            case measure => simp [intOf]; omega
        · have t0 : (p.ty == r.ty) = false := by simpa using hty
          have HU : Hid (uqz (S.take (k + 1)) = U ++ [r]) := show _ = _ by rw [HT.out, ust_other HLAST.out (fun h => hty h.2)]
          clear HT HU0 hnm hty HLAST
          go_wp2
          go_quiet (fail)
          have L9 : Hid (Below w1.heap.size w1 ((wr.alloc (.cells #[.string r.name, .int .i64 r.ty, .int .i64 r.ttl, .int .i64 r.n, .string r.host, .string r.text] 39)).drewN nq)) := (HL.out.alloc HL.out.size (.cells #[.string r.name, .int .i64 r.ty, .int .i64 r.ttl, .int .i64 r.n, .string r.host, .string r.text] 39)).trans (drewN_below _ _ _)
          have B9 : Hid (Bk ((wr.alloc (.cells #[.string r.name, .int .i64 r.ty, .int .i64 r.ttl, .int .i64 r.n, .string r.host, .string r.text] 39)).drewN nq) wr.heap.size 39 (rc r)) := heap_alloc_new wr _
          have O9 : Hid (((wr.alloc (.cells #[.string r.name, .int .i64 r.ty, .int .i64 r.ttl, .int .i64 r.n, .string r.host, .string r.text] 39)).drewN nq).ownsRow w1.heap.size 39 6 (.slice (some ⟨g, 0, none⟩) (q + 1) cap) (q + 1) (fl U)) := HO.out.alloc (.cells #[.string r.name, .int .i64 r.ty, .int .i64 r.ttl, .int .i64 r.n, .string r.host, .string r.text] 39)
          have N9 : Hid (g < wr.heap.size) := (HO.out.lt g rfl).2
          clear HL HO e0 e1 e2 e3 e4 e5
          generalize (wr.alloc (.cells #[.string r.name, .int .i64 r.ty, .int .i64 r.ttl, .int .i64 r.n, .string r.host, .string r.text] 39)).drewN nq = w9 at *
          generalize wr.heap.size = ga at *
          clear p0 p1 p2 p3 p4 p5
          have b0 : w9.cell? ⟨ga, 0, none⟩ = some (.string r.name) := B9.out.cell 0
          have b1 : w9.cell? ⟨ga, 1, none⟩ = some (.int .i64 r.ty) := B9.out.cell 1
          have b2 : w9.cell? ⟨ga, 2, none⟩ = some (.int .i64 r.ttl) := B9.out.cell 2
          have b3 : w9.cell? ⟨ga, 3, none⟩ = some (.int .i64 r.n) := B9.out.cell 3
          have b4 : w9.cell? ⟨ga, 4, none⟩ = some (.string r.host) := B9.out.cell 4
          have b5 : w9.cell? ⟨ga, 5, none⟩ = some (.string r.text) := B9.out.cell 5
          go_wp2_with (at_builtin; refine SetS.append_at (w := w9) rfl (.tmp 61) (.tmp 63) rfl w1.heap.size g (q + 1) cap U rfl O9.out r w9.heap.size rfl rfl (by omega) (by have h1 := O9.out.lt g rfl; omega) ?_)
          intro g7 cap7 w7 hown hgrow
          have O7 := Lib.hid hown
          have gge : w1.heap.size ≤ g := (O9.out.lt g rfl).1
          have L7 := Lib.hid ((L9.out.alloc L9.out.size (.cells #[.string r.name, .int .i64 r.ty, .int .i64 r.ttl, .int .i64 r.n, .string r.host, .string r.text] 39)).grown hgrow (Nat.le_trans L9.out.size (by simp)) (fun j hj => by cases hj; exact gge))
          clear hown hgrow b0 b1 b2 b3 b4 b5
          go_wp2
          go_roundw
          case rel => exact ⟨k + 1, g7, q + 1 + 1, cap7, _, by omega, by omega, by go_num, rfl, by rw [HU.out], O7.out, L7.out⟩
          case measure => simp [intOf]; omega
      · have n1 : (p.name.toList == r.name.toList) = false := text_ne hnm
        have n2 : (p.name.data.toList == r.name.data.toList) = false := text_ne2 hnm
        have HU : Hid (uqz (S.take (k + 1)) = U ++ [r]) := show _ = _ by rw [HT.out, ust_other HLAST.out (fun h => hnm h.1)]
        clear HT HU0 hnm HLAST
        go_wp2
        go_quiet (fail)
        have L9 : Hid (Below w1.heap.size w1 ((wr.alloc (.cells #[.string r.name, .int .i64 r.ty, .int .i64 r.ttl, .int .i64 r.n, .string r.host, .string r.text] 39)).drewN nq)) := (HL.out.alloc HL.out.size (.cells #[.string r.name, .int .i64 r.ty, .int .i64 r.ttl, .int .i64 r.n, .string r.host, .string r.text] 39)).trans (drewN_below _ _ _)
        have B9 : Hid (Bk ((wr.alloc (.cells #[.string r.name, .int .i64 r.ty, .int .i64 r.ttl, .int .i64 r.n, .string r.host, .string r.text] 39)).drewN nq) wr.heap.size 39 (rc r)) := heap_alloc_new wr _
        have O9 : Hid (((wr.alloc (.cells #[.string r.name, .int .i64 r.ty, .int .i64 r.ttl, .int .i64 r.n, .string r.host, .string r.text] 39)).drewN nq).ownsRow w1.heap.size 39 6 (.slice (some ⟨g, 0, none⟩) (q + 1) cap) (q + 1) (fl U)) := HO.out.alloc (.cells #[.string r.name, .int .i64 r.ty, .int .i64 r.ttl, .int .i64 r.n, .string r.host, .string r.text] 39)
        have N9 : Hid (g < wr.heap.size) := (HO.out.lt g rfl).2
        clear HL HO e0 e1 e2 e3 e4 e5
        generalize (wr.alloc (.cells #[.string r.name, .int .i64 r.ty, .int .i64 r.ttl, .int .i64 r.n, .string r.host, .string r.text] 39)).drewN nq = w9 at *
        generalize wr.heap.size = ga at *
        clear p0 p1 p2 p3 p4 p5
        have b0 : w9.cell? ⟨ga, 0, none⟩ = some (.string r.name) := B9.out.cell 0
        have b1 : w9.cell? ⟨ga, 1, none⟩ = some (.int .i64 r.ty) := B9.out.cell 1
        have b2 : w9.cell? ⟨ga, 2, none⟩ = some (.int .i64 r.ttl) := B9.out.cell 2
        have b3 : w9.cell? ⟨ga, 3, none⟩ = some (.int .i64 r.n) := B9.out.cell 3
        have b4 : w9.cell? ⟨ga, 4, none⟩ = some (.string r.host) := B9.out.cell 4
        have b5 : w9.cell? ⟨ga, 5, none⟩ = some (.string r.text) := B9.out.cell 5
        go_wp2_with (at_builtin; refine SetS.append_at (w := w9) rfl (.tmp 61) (.tmp 63) rfl w1.heap.size g (q + 1) cap U rfl O9.out r w9.heap.size rfl rfl (by omega) (by have h1 := O9.out.lt g rfl; omega) ?_)
        intro g7 cap7 w7 hown hgrow
        have O7 := Lib.hid hown
        have gge : w1.heap.size ≤ g := (O9.out.lt g rfl).1
        have L7 := Lib.hid ((L9.out.alloc L9.out.size (.cells #[.string r.name, .int .i64 r.ty, .int .i64 r.ttl, .int .i64 r.n, .string r.host, .string r.text] 39)).grown hgrow (Nat.le_trans L9.out.size (by simp)) (fun j hj => by cases hj; exact gge))
        clear hown hgrow b0 b1 b2 b3 b4 b5
        go_wp2
        go_roundw
        case rel => exact ⟨k + 1, g7, q + 1 + 1, cap7, _, by omega, by omega, by go_num, rfl, by rw [HU.out], O7.out, L7.out⟩
        case measure => simp [intOf]; omega
    · obtain rfl : n = k := by omega
      rw [take_all HSL.out] at HU0
      go_wp2
      go_ret
      have ho := HO.out
      rw [← HU0.out] at ho HUL
      exact ⟨S, g, m, cap, SR.out, rfl, HUL.out, MapK.own_mono ho L0.out.size, L0.out.trans (HL.out.mono L0.out.size)⟩

end Go.Proofs.YtkpcanigdppegaaDoor.UniqZ

/- What the model's draw of a zone does: a zone of the records of ZoneL, in order, in a row of its own; nothing that was there is turned but the cursor. -/
namespace Go.Proofs.YtkpcanigdppegaaDoor.ZoneD
open Go.RowKit Go.Proofs.YtkpcanigdppegaaDoor.Mem Go.Proofs.YtkpcanigdppegaaDoor.MemR Go.Proofs.YtkpcanigdppegaaDoor.MemZ Go.Proofs.YtkpcanigdppegaaDoor.BoxR Go.Proofs.YtkpcanigdppegaaDoor.ResR Go.Proofs.YtkpcanigdppegaaDoor.ResZ Go.Proofs.YtkpcanigdppegaaDoor.Draw Go.Proofs.YtkpcanigdppegaaDoor.DrawL Go.Proofs.YtkpcanigdppegaaDoor.DrawR Go.Proofs.YtkpcanigdppegaaDoor.LessR Go.Proofs.YtkpcanigdppegaaDoor.SrtMath Go.Proofs.YtkpcanigdppegaaDoor.ZoneL Go.Proofs.YtkpcanigdppegaaDoor.ZoneV

/-- A zone that is drawn, in a row of its own behind the cursor; the cursor moved, nothing else turned. -/
def Zd (w : World) (g : Nat) (e : Ending) (w' : World) : Prop :=
  ∃ (t h : Int) (a b c : Bool) (gl m cap : Nat), (t, h) ∈ ts ∧ e = .returned (.agg #[.string ⟨#[99, 111, 109]⟩, .slice (some ⟨gl, 0, none⟩) m cap]) ∧ (zs t h a b c).length = m ∧ w'.ownsRow w.heap.size 39 6 (.slice (some ⟨gl, 0, none⟩) m cap) m (fl (zs t h a b c)) ∧ Cur w' g ∧ w.grownBy w' (some g)

def tl : List Int := [5, 60, 300]

theorem half {t : Int} (h : t ∈ tl) : ∃ x, (t, x) ∈ ts := by
  simp only [tl, List.mem_cons, List.not_mem_nil, or_false] at h
  rcases h with rfl | rfl | rfl
  · exact ⟨2, by simp [ts]⟩
  · exact ⟨30, by simp [ts]⟩
  · exact ⟨150, by simp [ts]⟩

theorem fine_all : ∀ p ∈ ts, ∀ a b c : Bool, ∀ r ∈ zb p.1 p.2 a b c, r.name.size ≤ 60 ∧ r.host.size ≤ 60 ∧ r.text.size ≤ 60 := by decide +kernel

theorem fine {t h : Int} (ht : (t, h) ∈ ts) (a b c : Bool) : ∀ r ∈ zb t h a b c, Fine r := fun r hr => by
  have := fine_all (t, h) ht a b c r hr
  exact ⟨by omega, by omega⟩

set_option maxRecDepth 100000 in
set_option maxHeartbeats 16000000 in
theorem zone_any (g : Nat) (w : World) (hc : Cur w g) : Calls Tryd.prog 34 #[.pointer (some ⟨g, 0, none⟩)] w (Zd w g) := by
  have GL := Lib.hid hc.lt
  have HC := Lib.hid hc
  clear hc
  have R0 : Hid (Bk (w.alloc (.cells #[.string ⟨#[]⟩, .slice none 0 0] 26)) w.heap.size 26 (zc ⟨#[]⟩ (.slice none 0 0))) := heap_alloc_new w _
  have G0 := Lib.hid (World.grownBy_alloc w (.cells #[.string ⟨#[]⟩, .slice none 0 0] 26) (some g))
  have C0 := Lib.hid (HC.out.alloc (.cells #[.string ⟨#[]⟩, .slice none 0 0] 26))
  have Z0 : Hid (w.heap.size < (w.alloc (.cells #[.string ⟨#[]⟩, .slice none 0 0] 26)).heap.size) := by show _ < _; simp
  clear HC
  go_enter Tryd.func34, Tryd.ntmps34
  go_upto_region 1 with (fail)
  generalize w.alloc (.cells #[.string ⟨#[]⟩, .slice none 0 0] 26) = w0 at *
  go_wp2_with fail
  refine (l1Int_any g w0.heap.size 3 tl _ (C0.out.alloc _) (bk_ints w0 tl _ rfl) (Nat.ne_of_gt C0.out.lt) rfl (by omega) (by omega)).mono ?_
  rintro e w1 ⟨t, rfl, ht, hc1, hg1⟩
  obtain ⟨h, hth⟩ := half ht
  have HT := Lib.hid hth
  have GA := Lib.hid (grown_trans (World.grownBy_alloc w0 _ (some g)) hg1)
  have C1 := Lib.hid hc1
  have G1 := Lib.hid (grown_trans G0.out GA.out)
  have R1 := Lib.hid (R0.out.grown GA.out (fun e => by have h1 := GL.out; have h2 : w.heap.size = g := Option.some.inj e; omega))
  have Z1 : Hid (w.heap.size < w1.heap.size) := Nat.lt_of_lt_of_le Z0.out GA.out.size
  clear ht hth hc1 hg1 GA C0 G0 R0 Z0
  go_wp2_with fail
  refine (ZoneH.l10Start ⟨#[99, 111, 109]⟩ t h (List.mem_cons_of_mem _ HT.out) w1).mono ?_
  rintro e w2 ⟨rfl, hl⟩
  have C2 := Lib.hid (cur_below C1.out hl)
  have G2 := Lib.hid (grown_below G1.out hl)
  have R2 := Lib.hid (R1.out.below hl R1.out.lt)
  have Z2 : Hid (w.heap.size < w2.heap.size) := Nat.lt_of_lt_of_le Z1.out hl.size
  clear hl C1 G1 R1 Z1
  go_wp2_with fail
  refine (ZoneH.l10Server ⟨#[99, 111, 109]⟩ ⟨#[110, 115, 46, 99, 111, 109]⟩ t w2).mono ?_
  rintro e w3 ⟨rfl, hl⟩
  have C3 := Lib.hid (cur_below C2.out hl)
  have G3 := Lib.hid (grown_below G2.out hl)
  have R3 := Lib.hid (R2.out.below hl R2.out.lt)
  have Z3 : Hid (w.heap.size < w3.heap.size) := Nat.lt_of_lt_of_le Z2.out hl.size
  clear hl C2 G2 R2 Z2
  go_wp2_with fail
  refine (ZoneH.l10Addr ⟨#[110, 115, 46, 99, 111, 109]⟩ 2 t w3).mono ?_
  rintro e w4 ⟨rfl, hl⟩
  have C4 := Lib.hid (cur_below C3.out hl)
  have G4 := Lib.hid (grown_below G3.out hl)
  have R4 := Lib.hid (R3.out.below hl R3.out.lt)
  have Z4 : Hid (w.heap.size < w4.heap.size) := Nat.lt_of_lt_of_le Z3.out hl.size
  clear hl C3 G3 R3 Z3
  have B5 : Hid (Bk (w4.alloc (.cells #[.string ⟨#[99, 111, 109]⟩, .int .i64 6, .int .i64 t, .int .i64 h, .string ⟨#[]⟩, .string ⟨#[]⟩, .string ⟨#[99, 111, 109]⟩, .int .i64 2, .int .i64 t, .int .i64 0, .string ⟨#[110, 115, 46, 99, 111, 109]⟩, .string ⟨#[]⟩, .string ⟨#[110, 115, 46, 99, 111, 109]⟩, .int .i64 1, .int .i64 t, .int .i64 2, .string ⟨#[]⟩, .string ⟨#[]⟩] 39)) w4.heap.size 39 (fl [(Rec.mk ⟨#[99, 111, 109]⟩ 6 t h ⟨#[]⟩ ⟨#[]⟩), (Rec.mk ⟨#[99, 111, 109]⟩ 2 t 0 ⟨#[110, 115, 46, 99, 111, 109]⟩ ⟨#[]⟩), (Rec.mk ⟨#[110, 115, 46, 99, 111, 109]⟩ 1 t 2 ⟨#[]⟩ ⟨#[]⟩)])) := heap_alloc_new w4 _
  have C5 := Lib.hid (C4.out.alloc (.cells #[.string ⟨#[99, 111, 109]⟩, .int .i64 6, .int .i64 t, .int .i64 h, .string ⟨#[]⟩, .string ⟨#[]⟩, .string ⟨#[99, 111, 109]⟩, .int .i64 2, .int .i64 t, .int .i64 0, .string ⟨#[110, 115, 46, 99, 111, 109]⟩, .string ⟨#[]⟩, .string ⟨#[110, 115, 46, 99, 111, 109]⟩, .int .i64 1, .int .i64 t, .int .i64 2, .string ⟨#[]⟩, .string ⟨#[]⟩] 39))
  have G5 := Lib.hid (grown_trans G4.out (World.grownBy_alloc w4 (.cells #[.string ⟨#[99, 111, 109]⟩, .int .i64 6, .int .i64 t, .int .i64 h, .string ⟨#[]⟩, .string ⟨#[]⟩, .string ⟨#[99, 111, 109]⟩, .int .i64 2, .int .i64 t, .int .i64 0, .string ⟨#[110, 115, 46, 99, 111, 109]⟩, .string ⟨#[]⟩, .string ⟨#[110, 115, 46, 99, 111, 109]⟩, .int .i64 1, .int .i64 t, .int .i64 2, .string ⟨#[]⟩, .string ⟨#[]⟩] 39) (some g)))
  have R5 := Lib.hid (R4.out.alloc (.cells #[.string ⟨#[99, 111, 109]⟩, .int .i64 6, .int .i64 t, .int .i64 h, .string ⟨#[]⟩, .string ⟨#[]⟩, .string ⟨#[99, 111, 109]⟩, .int .i64 2, .int .i64 t, .int .i64 0, .string ⟨#[110, 115, 46, 99, 111, 109]⟩, .string ⟨#[]⟩, .string ⟨#[110, 115, 46, 99, 111, 109]⟩, .int .i64 1, .int .i64 t, .int .i64 2, .string ⟨#[]⟩, .string ⟨#[]⟩] 39))
  have Z5 : Hid (w.heap.size < (w4.alloc (.cells #[.string ⟨#[99, 111, 109]⟩, .int .i64 6, .int .i64 t, .int .i64 h, .string ⟨#[]⟩, .string ⟨#[]⟩, .string ⟨#[99, 111, 109]⟩, .int .i64 2, .int .i64 t, .int .i64 0, .string ⟨#[110, 115, 46, 99, 111, 109]⟩, .string ⟨#[]⟩, .string ⟨#[110, 115, 46, 99, 111, 109]⟩, .int .i64 1, .int .i64 t, .int .i64 2, .string ⟨#[]⟩, .string ⟨#[]⟩] 39)).heap.size) := by show _ < _; have := Z4.out; simp; omega
  have O5 : Hid ((w4.alloc (.cells #[.string ⟨#[99, 111, 109]⟩, .int .i64 6, .int .i64 t, .int .i64 h, .string ⟨#[]⟩, .string ⟨#[]⟩, .string ⟨#[99, 111, 109]⟩, .int .i64 2, .int .i64 t, .int .i64 0, .string ⟨#[110, 115, 46, 99, 111, 109]⟩, .string ⟨#[]⟩, .string ⟨#[110, 115, 46, 99, 111, 109]⟩, .int .i64 1, .int .i64 t, .int .i64 2, .string ⟨#[]⟩, .string ⟨#[]⟩] 39)).ownsRow (w.heap.size + 1) 39 6 (.slice (some ⟨w4.heap.size, 0, none⟩) 3 3) 3 (fl (zb t h false false false))) := owns6 B5.out Z4.out rfl (by decide)
  clear C4 G4 R4 Z4 B5
  go_upto_region 3 with (fail)
  generalize w4.alloc (.cells #[.string ⟨#[99, 111, 109]⟩, .int .i64 6, .int .i64 t, .int .i64 h, .string ⟨#[]⟩, .string ⟨#[]⟩, .string ⟨#[99, 111, 109]⟩, .int .i64 2, .int .i64 t, .int .i64 0, .string ⟨#[110, 115, 46, 99, 111, 109]⟩, .string ⟨#[]⟩, .string ⟨#[110, 115, 46, 99, 111, 109]⟩, .int .i64 1, .int .i64 t, .int .i64 2, .string ⟨#[]⟩, .string ⟨#[]⟩] 39) = w5 at *
  generalize w4.heap.size = gl at *
  go_wp2_with fail
  refine (l1Once_any g 2 _ C5.out (by omega) (by omega)).mono ?_
  rintro e w6 ⟨bb, rfl, hc9, hg9⟩
  have C6 := Lib.hid hc9
  have G6 := Lib.hid (grown_trans G5.out hg9)
  have R6 := Lib.hid (R5.out.grown hg9 (fun e => by have h1 := GL.out; have h2 : w.heap.size = g := Option.some.inj e; omega))
  have O6 := Lib.hid (own_far O5.out hg9 (Nat.lt_succ_of_lt GL.out))
  have Z6 : Hid (w.heap.size < w6.heap.size) := Nat.lt_of_lt_of_le Z5.out hg9.size
  clear hc9 hg9 C5 G5 R5 O5 Z5
  cases bb with
  | true =>
    go_wp2_with fail
    refine (ZoneH.l10Server ⟨#[101, 120, 46, 99, 111, 109]⟩ ⟨#[110, 115, 46, 101, 120, 46, 99, 111, 109]⟩ t w6).mono ?_
    rintro e w7 ⟨rfl, hl⟩
    have C7 := Lib.hid (cur_below C6.out hl)
    have G7 := Lib.hid (grown_below G6.out hl)
    have R7 := Lib.hid (R6.out.below hl R6.out.lt)
    have Z7 : Hid (w.heap.size < w7.heap.size) := Nat.lt_of_lt_of_le Z6.out hl.size
    have O7 := Lib.hid (own_below O6.out hl)
    clear hl C6 G6 R6 Z6 O6
    go_wp2_with fail
    refine (ZoneH.l10Addr ⟨#[110, 115, 46, 101, 120, 46, 99, 111, 109]⟩ 3 t w7).mono ?_
    rintro e w8 ⟨rfl, hl⟩
    have C8 := Lib.hid (cur_below C7.out hl)
    have G8 := Lib.hid (grown_below G7.out hl)
    have R8 := Lib.hid (R7.out.below hl R7.out.lt)
    have Z8 : Hid (w.heap.size < w8.heap.size) := Nat.lt_of_lt_of_le Z7.out hl.size
    have O8 := Lib.hid (own_below O7.out hl)
    clear hl C7 G7 R7 Z7 O7
    have B9 : Hid (Bk (w8.alloc (.cells #[.string ⟨#[101, 120, 46, 99, 111, 109]⟩, .int .i64 2, .int .i64 t, .int .i64 0, .string ⟨#[110, 115, 46, 101, 120, 46, 99, 111, 109]⟩, .string ⟨#[]⟩, .string ⟨#[110, 115, 46, 101, 120, 46, 99, 111, 109]⟩, .int .i64 1, .int .i64 t, .int .i64 3, .string ⟨#[]⟩, .string ⟨#[]⟩] 39)) w8.heap.size 39 (fl [(Rec.mk ⟨#[101, 120, 46, 99, 111, 109]⟩ 2 t 0 ⟨#[110, 115, 46, 101, 120, 46, 99, 111, 109]⟩ ⟨#[]⟩), (Rec.mk ⟨#[110, 115, 46, 101, 120, 46, 99, 111, 109]⟩ 1 t 3 ⟨#[]⟩ ⟨#[]⟩)])) := heap_alloc_new w8 _
    have C9 := Lib.hid (C8.out.alloc (.cells #[.string ⟨#[101, 120, 46, 99, 111, 109]⟩, .int .i64 2, .int .i64 t, .int .i64 0, .string ⟨#[110, 115, 46, 101, 120, 46, 99, 111, 109]⟩, .string ⟨#[]⟩, .string ⟨#[110, 115, 46, 101, 120, 46, 99, 111, 109]⟩, .int .i64 1, .int .i64 t, .int .i64 3, .string ⟨#[]⟩, .string ⟨#[]⟩] 39))
    have G9 := Lib.hid (grown_trans G8.out (World.grownBy_alloc w8 (.cells #[.string ⟨#[101, 120, 46, 99, 111, 109]⟩, .int .i64 2, .int .i64 t, .int .i64 0, .string ⟨#[110, 115, 46, 101, 120, 46, 99, 111, 109]⟩, .string ⟨#[]⟩, .string ⟨#[110, 115, 46, 101, 120, 46, 99, 111, 109]⟩, .int .i64 1, .int .i64 t, .int .i64 3, .string ⟨#[]⟩, .string ⟨#[]⟩] 39) (some g)))
    have R9 := Lib.hid (R8.out.alloc (.cells #[.string ⟨#[101, 120, 46, 99, 111, 109]⟩, .int .i64 2, .int .i64 t, .int .i64 0, .string ⟨#[110, 115, 46, 101, 120, 46, 99, 111, 109]⟩, .string ⟨#[]⟩, .string ⟨#[110, 115, 46, 101, 120, 46, 99, 111, 109]⟩, .int .i64 1, .int .i64 t, .int .i64 3, .string ⟨#[]⟩, .string ⟨#[]⟩] 39))
    have Z9 : Hid (w.heap.size < (w8.alloc (.cells #[.string ⟨#[101, 120, 46, 99, 111, 109]⟩, .int .i64 2, .int .i64 t, .int .i64 0, .string ⟨#[110, 115, 46, 101, 120, 46, 99, 111, 109]⟩, .string ⟨#[]⟩, .string ⟨#[110, 115, 46, 101, 120, 46, 99, 111, 109]⟩, .int .i64 1, .int .i64 t, .int .i64 3, .string ⟨#[]⟩, .string ⟨#[]⟩] 39)).heap.size) := by show _ < _; have := Z8.out; simp; omega
    have O9 := Lib.hid (O8.out.alloc (.cells #[.string ⟨#[101, 120, 46, 99, 111, 109]⟩, .int .i64 2, .int .i64 t, .int .i64 0, .string ⟨#[110, 115, 46, 101, 120, 46, 99, 111, 109]⟩, .string ⟨#[]⟩, .string ⟨#[110, 115, 46, 101, 120, 46, 99, 111, 109]⟩, .int .i64 1, .int .i64 t, .int .i64 3, .string ⟨#[]⟩, .string ⟨#[]⟩] 39))
    have S9 : Hid (Sr (w8.alloc (.cells #[.string ⟨#[101, 120, 46, 99, 111, 109]⟩, .int .i64 2, .int .i64 t, .int .i64 0, .string ⟨#[110, 115, 46, 101, 120, 46, 99, 111, 109]⟩, .string ⟨#[]⟩, .string ⟨#[110, 115, 46, 101, 120, 46, 99, 111, 109]⟩, .int .i64 1, .int .i64 t, .int .i64 3, .string ⟨#[]⟩, .string ⟨#[]⟩] 39)) (w8.alloc (.cells #[.string ⟨#[101, 120, 46, 99, 111, 109]⟩, .int .i64 2, .int .i64 t, .int .i64 0, .string ⟨#[110, 115, 46, 101, 120, 46, 99, 111, 109]⟩, .string ⟨#[]⟩, .string ⟨#[110, 115, 46, 101, 120, 46, 99, 111, 109]⟩, .int .i64 1, .int .i64 t, .int .i64 3, .string ⟨#[]⟩, .string ⟨#[]⟩] 39)).heap.size (some ⟨w8.heap.size, 0, none⟩) 2 [(Rec.mk ⟨#[101, 120, 46, 99, 111, 109]⟩ 2 t 0 ⟨#[110, 115, 46, 101, 120, 46, 99, 111, 109]⟩ ⟨#[]⟩), (Rec.mk ⟨#[110, 115, 46, 101, 120, 46, 99, 111, 109]⟩ 1 t 3 ⟨#[]⟩ ⟨#[]⟩)]) := bk_sr0 B9.out rfl
    go_wp2_with (at_builtin; refine AppR.append_recs (w := w8.alloc (.cells #[.string ⟨#[101, 120, 46, 99, 111, 109]⟩, .int .i64 2, .int .i64 t, .int .i64 0, .string ⟨#[110, 115, 46, 101, 120, 46, 99, 111, 109]⟩, .string ⟨#[]⟩, .string ⟨#[110, 115, 46, 101, 120, 46, 99, 111, 109]⟩, .int .i64 1, .int .i64 t, .int .i64 3, .string ⟨#[]⟩, .string ⟨#[]⟩] 39)) rfl (.tmp 17) (.tmp 22) rfl (w.heap.size + 1) gl 3 3 (zb t h false false false) rfl O9.out w8.heap.size 0 2 2 _ [(Rec.mk ⟨#[101, 120, 46, 99, 111, 109]⟩ 2 t 0 ⟨#[110, 115, 46, 101, 120, 46, 99, 111, 109]⟩ ⟨#[]⟩), (Rec.mk ⟨#[110, 115, 46, 101, 120, 46, 99, 111, 109]⟩ 1 t 3 ⟨#[]⟩ ⟨#[]⟩)] rfl S9.out (by omega) (by omega) (by have := Z9.out; omega) ?_)
    intro gq10 cq10 w10 hown hgrow
    have O10 := Lib.hid hown
    have C10 := Lib.hid (cur_far C9.out O9.out hgrow (by have := GL.out; omega))
    have gge : w.heap.size + 1 ≤ gl := (O9.out.lt gl rfl).1
    have G10 := Lib.hid (grown_far G9.out hgrow (by omega))
    have R10 := Lib.hid (R9.out.grown hgrow (fun e => by have h2 : w.heap.size = gl := Option.some.inj e; omega))
    have Z10 : Hid (w.heap.size < w10.heap.size) := Nat.lt_of_lt_of_le Z9.out hgrow.size
    clear hown hgrow gge C9 G9 R9 Z9 O9 B9 S9 C8 G8 R8 Z8 O8
    have OE : Hid (w10.ownsRow (w.heap.size + 1) 39 6 (.slice (some ⟨gq10, 0, none⟩) 5 cq10) 5 (fl (zb t h true false false))) := O10.out
    clear O10
    have O10 := OE
    clear OE
    go_wp2_with fail
    refine (l1Once_any g 2 _ C10.out (by omega) (by omega)).mono ?_
    rintro e w11 ⟨bb, rfl, hc9, hg9⟩
    have C11 := Lib.hid hc9
    have G11 := Lib.hid (grown_trans G10.out hg9)
    have R11 := Lib.hid (R10.out.grown hg9 (fun e => by have h1 := GL.out; have h2 : w.heap.size = g := Option.some.inj e; omega))
    have O11 := Lib.hid (own_far O10.out hg9 (Nat.lt_succ_of_lt GL.out))
    have Z11 : Hid (w.heap.size < w11.heap.size) := Nat.lt_of_lt_of_le Z10.out hg9.size
    clear hc9 hg9 C10 G10 R10 O10 Z10
    cases bb with
    | true =>
      have B12 : Hid (Bk (w11.alloc (.cells #[.string ⟨#[119, 119, 119, 46, 99, 111, 109]⟩, .int .i64 5, .int .i64 9, .int .i64 0, .string ⟨#[97, 46, 111, 114, 103]⟩, .string ⟨#[]⟩] 39)) w11.heap.size 39 (fl [(Rec.mk ⟨#[119, 119, 119, 46, 99, 111, 109]⟩ 5 9 0 ⟨#[97, 46, 111, 114, 103]⟩ ⟨#[]⟩)])) := heap_alloc_new w11 _
      have C12 := Lib.hid (C11.out.alloc (.cells #[.string ⟨#[119, 119, 119, 46, 99, 111, 109]⟩, .int .i64 5, .int .i64 9, .int .i64 0, .string ⟨#[97, 46, 111, 114, 103]⟩, .string ⟨#[]⟩] 39))
      have G12 := Lib.hid (grown_trans G11.out (World.grownBy_alloc w11 (.cells #[.string ⟨#[119, 119, 119, 46, 99, 111, 109]⟩, .int .i64 5, .int .i64 9, .int .i64 0, .string ⟨#[97, 46, 111, 114, 103]⟩, .string ⟨#[]⟩] 39) (some g)))
      have R12 := Lib.hid (R11.out.alloc (.cells #[.string ⟨#[119, 119, 119, 46, 99, 111, 109]⟩, .int .i64 5, .int .i64 9, .int .i64 0, .string ⟨#[97, 46, 111, 114, 103]⟩, .string ⟨#[]⟩] 39))
      have Z12 : Hid (w.heap.size < (w11.alloc (.cells #[.string ⟨#[119, 119, 119, 46, 99, 111, 109]⟩, .int .i64 5, .int .i64 9, .int .i64 0, .string ⟨#[97, 46, 111, 114, 103]⟩, .string ⟨#[]⟩] 39)).heap.size) := by show _ < _; have := Z11.out; simp; omega
      have O12 := Lib.hid (O11.out.alloc (.cells #[.string ⟨#[119, 119, 119, 46, 99, 111, 109]⟩, .int .i64 5, .int .i64 9, .int .i64 0, .string ⟨#[97, 46, 111, 114, 103]⟩, .string ⟨#[]⟩] 39))
      have S12 : Hid (Sr (w11.alloc (.cells #[.string ⟨#[119, 119, 119, 46, 99, 111, 109]⟩, .int .i64 5, .int .i64 9, .int .i64 0, .string ⟨#[97, 46, 111, 114, 103]⟩, .string ⟨#[]⟩] 39)) (w11.alloc (.cells #[.string ⟨#[119, 119, 119, 46, 99, 111, 109]⟩, .int .i64 5, .int .i64 9, .int .i64 0, .string ⟨#[97, 46, 111, 114, 103]⟩, .string ⟨#[]⟩] 39)).heap.size (some ⟨w11.heap.size, 0, none⟩) 1 [(Rec.mk ⟨#[119, 119, 119, 46, 99, 111, 109]⟩ 5 9 0 ⟨#[97, 46, 111, 114, 103]⟩ ⟨#[]⟩)]) := bk_sr0 B12.out rfl
      go_wp2_with (at_builtin; refine AppR.append_recs (w := w11.alloc (.cells #[.string ⟨#[119, 119, 119, 46, 99, 111, 109]⟩, .int .i64 5, .int .i64 9, .int .i64 0, .string ⟨#[97, 46, 111, 114, 103]⟩, .string ⟨#[]⟩] 39)) rfl (.tmp 26) (.tmp 28) rfl (w.heap.size + 1) gq10 5 cq10 (zb t h true false false) rfl O12.out w11.heap.size 0 1 1 _ [(Rec.mk ⟨#[119, 119, 119, 46, 99, 111, 109]⟩ 5 9 0 ⟨#[97, 46, 111, 114, 103]⟩ ⟨#[]⟩)] rfl S12.out (by omega) (by omega) (by have := Z12.out; omega) ?_)
      intro gq13 cq13 w13 hown hgrow
      have O13 := Lib.hid hown
      have C13 := Lib.hid (cur_far C12.out O12.out hgrow (by have := GL.out; omega))
      have gge : w.heap.size + 1 ≤ gq10 := (O12.out.lt gq10 rfl).1
      have G13 := Lib.hid (grown_far G12.out hgrow (by omega))
      have R13 := Lib.hid (R12.out.grown hgrow (fun e => by have h2 : w.heap.size = gq10 := Option.some.inj e; omega))
      have Z13 : Hid (w.heap.size < w13.heap.size) := Nat.lt_of_lt_of_le Z12.out hgrow.size
      clear hown hgrow gge C12 G12 R12 Z12 O12 B12 S12 C11 G11 R11 Z11 O11
      have OE : Hid (w13.ownsRow (w.heap.size + 1) 39 6 (.slice (some ⟨gq13, 0, none⟩) 6 cq13) 6 (fl (zb t h true true false))) := O13.out
      clear O13
      have O13 := OE
      clear OE
      go_wp2_with fail
      refine (l1Once_any g 2 _ C13.out (by omega) (by omega)).mono ?_
      rintro e w14 ⟨bb, rfl, hc9, hg9⟩
      have C14 := Lib.hid hc9
      have G14 := Lib.hid (grown_trans G13.out hg9)
      have R14 := Lib.hid (R13.out.grown hg9 (fun e => by have h1 := GL.out; have h2 : w.heap.size = g := Option.some.inj e; omega))
      have O14 := Lib.hid (own_far O13.out hg9 (Nat.lt_succ_of_lt GL.out))
      have Z14 : Hid (w.heap.size < w14.heap.size) := Nat.lt_of_lt_of_le Z13.out hg9.size
      clear hc9 hg9 C13 G13 R13 O13 Z13
      cases bb with
      | true =>
        go_wp2_with fail
        refine (ZoneH.l10Addr ⟨#[98, 46, 97, 46, 99, 111, 109]⟩ 8 9 w14).mono ?_
        rintro e w15 ⟨rfl, hl⟩
        have C15 := Lib.hid (cur_below C14.out hl)
        have G15 := Lib.hid (grown_below G14.out hl)
        have R15 := Lib.hid (R14.out.below hl R14.out.lt)
        have Z15 : Hid (w.heap.size < w15.heap.size) := Nat.lt_of_lt_of_le Z14.out hl.size
        have O15 := Lib.hid (own_below O14.out hl)
        clear hl C14 G14 R14 Z14 O14
        have B16 : Hid (Bk (w15.alloc (.cells #[.string ⟨#[116, 46, 99, 111, 109]⟩, .int .i64 16, .int .i64 7, .int .i64 0, .string ⟨#[]⟩, .string ⟨#[104, 105]⟩, .string ⟨#[98, 46, 97, 46, 99, 111, 109]⟩, .int .i64 1, .int .i64 9, .int .i64 8, .string ⟨#[]⟩, .string ⟨#[]⟩] 39)) w15.heap.size 39 (fl [(Rec.mk ⟨#[116, 46, 99, 111, 109]⟩ 16 7 0 ⟨#[]⟩ ⟨#[104, 105]⟩), (Rec.mk ⟨#[98, 46, 97, 46, 99, 111, 109]⟩ 1 9 8 ⟨#[]⟩ ⟨#[]⟩)])) := heap_alloc_new w15 _
        have C16 := Lib.hid (C15.out.alloc (.cells #[.string ⟨#[116, 46, 99, 111, 109]⟩, .int .i64 16, .int .i64 7, .int .i64 0, .string ⟨#[]⟩, .string ⟨#[104, 105]⟩, .string ⟨#[98, 46, 97, 46, 99, 111, 109]⟩, .int .i64 1, .int .i64 9, .int .i64 8, .string ⟨#[]⟩, .string ⟨#[]⟩] 39))
        have G16 := Lib.hid (grown_trans G15.out (World.grownBy_alloc w15 (.cells #[.string ⟨#[116, 46, 99, 111, 109]⟩, .int .i64 16, .int .i64 7, .int .i64 0, .string ⟨#[]⟩, .string ⟨#[104, 105]⟩, .string ⟨#[98, 46, 97, 46, 99, 111, 109]⟩, .int .i64 1, .int .i64 9, .int .i64 8, .string ⟨#[]⟩, .string ⟨#[]⟩] 39) (some g)))
        have R16 := Lib.hid (R15.out.alloc (.cells #[.string ⟨#[116, 46, 99, 111, 109]⟩, .int .i64 16, .int .i64 7, .int .i64 0, .string ⟨#[]⟩, .string ⟨#[104, 105]⟩, .string ⟨#[98, 46, 97, 46, 99, 111, 109]⟩, .int .i64 1, .int .i64 9, .int .i64 8, .string ⟨#[]⟩, .string ⟨#[]⟩] 39))
        have Z16 : Hid (w.heap.size < (w15.alloc (.cells #[.string ⟨#[116, 46, 99, 111, 109]⟩, .int .i64 16, .int .i64 7, .int .i64 0, .string ⟨#[]⟩, .string ⟨#[104, 105]⟩, .string ⟨#[98, 46, 97, 46, 99, 111, 109]⟩, .int .i64 1, .int .i64 9, .int .i64 8, .string ⟨#[]⟩, .string ⟨#[]⟩] 39)).heap.size) := by show _ < _; have := Z15.out; simp; omega
        have O16 := Lib.hid (O15.out.alloc (.cells #[.string ⟨#[116, 46, 99, 111, 109]⟩, .int .i64 16, .int .i64 7, .int .i64 0, .string ⟨#[]⟩, .string ⟨#[104, 105]⟩, .string ⟨#[98, 46, 97, 46, 99, 111, 109]⟩, .int .i64 1, .int .i64 9, .int .i64 8, .string ⟨#[]⟩, .string ⟨#[]⟩] 39))
        have S16 : Hid (Sr (w15.alloc (.cells #[.string ⟨#[116, 46, 99, 111, 109]⟩, .int .i64 16, .int .i64 7, .int .i64 0, .string ⟨#[]⟩, .string ⟨#[104, 105]⟩, .string ⟨#[98, 46, 97, 46, 99, 111, 109]⟩, .int .i64 1, .int .i64 9, .int .i64 8, .string ⟨#[]⟩, .string ⟨#[]⟩] 39)) (w15.alloc (.cells #[.string ⟨#[116, 46, 99, 111, 109]⟩, .int .i64 16, .int .i64 7, .int .i64 0, .string ⟨#[]⟩, .string ⟨#[104, 105]⟩, .string ⟨#[98, 46, 97, 46, 99, 111, 109]⟩, .int .i64 1, .int .i64 9, .int .i64 8, .string ⟨#[]⟩, .string ⟨#[]⟩] 39)).heap.size (some ⟨w15.heap.size, 0, none⟩) 2 [(Rec.mk ⟨#[116, 46, 99, 111, 109]⟩ 16 7 0 ⟨#[]⟩ ⟨#[104, 105]⟩), (Rec.mk ⟨#[98, 46, 97, 46, 99, 111, 109]⟩ 1 9 8 ⟨#[]⟩ ⟨#[]⟩)]) := bk_sr0 B16.out rfl
        go_wp2_with (at_builtin; refine AppR.append_recs (w := w15.alloc (.cells #[.string ⟨#[116, 46, 99, 111, 109]⟩, .int .i64 16, .int .i64 7, .int .i64 0, .string ⟨#[]⟩, .string ⟨#[104, 105]⟩, .string ⟨#[98, 46, 97, 46, 99, 111, 109]⟩, .int .i64 1, .int .i64 9, .int .i64 8, .string ⟨#[]⟩, .string ⟨#[]⟩] 39)) rfl (.tmp 32) (.tmp 35) rfl (w.heap.size + 1) gq13 6 cq13 (zb t h true true false) rfl O16.out w15.heap.size 0 2 2 _ [(Rec.mk ⟨#[116, 46, 99, 111, 109]⟩ 16 7 0 ⟨#[]⟩ ⟨#[104, 105]⟩), (Rec.mk ⟨#[98, 46, 97, 46, 99, 111, 109]⟩ 1 9 8 ⟨#[]⟩ ⟨#[]⟩)] rfl S16.out (by omega) (by omega) (by have := Z16.out; omega) ?_)
        intro gq17 cq17 w17 hown hgrow
        have O17 := Lib.hid hown
        have C17 := Lib.hid (cur_far C16.out O16.out hgrow (by have := GL.out; omega))
        have gge : w.heap.size + 1 ≤ gq13 := (O16.out.lt gq13 rfl).1
        have G17 := Lib.hid (grown_far G16.out hgrow (by omega))
        have R17 := Lib.hid (R16.out.grown hgrow (fun e => by have h2 : w.heap.size = gq13 := Option.some.inj e; omega))
        have Z17 : Hid (w.heap.size < w17.heap.size) := Nat.lt_of_lt_of_le Z16.out hgrow.size
        clear hown hgrow gge C16 G16 R16 Z16 O16 B16 S16 C15 G15 R15 Z15 O15
        have OE : Hid (w17.ownsRow (w.heap.size + 1) 39 6 (.slice (some ⟨gq17, 0, none⟩) 8 cq17) 8 (fl (zb t h true true true))) := O17.out
        clear O17
        have O17 := OE
        clear OE
        have SL : Hid (Sr w17 w17.heap.size (some ⟨gq17, 0, none⟩) 8 (zb t h true true true)) := own_sr O17.out
        go_wp2_with fail
        refine (UniqZ.spec gq17 0 8 cq17 (zb t h true true true) w17 SL.out (by omega) (fine HT.out true true true)).mono ?_
        rintro e w18 ⟨S, gs, ms, cs, hsrt, rfl, hlm, hown, hl⟩
        have hS : S = zs t h true true true := hsrt.unique (srt HT.out true true true)
        subst hS
        rw [thin HT.out] at hlm hown
        have HM := Lib.hid hlm
        have O18 := Lib.hid hown
        have C18 := Lib.hid (cur_below C17.out hl)
        have G18 := Lib.hid (grown_below G17.out hl)
        have R18 := Lib.hid (R17.out.below hl R17.out.lt)
        have NG : Hid (gs ≠ w.heap.size) := show _ ≠ _ from fun e => by have h1 := (O18.out.lt gs rfl).1; have h2 := Z17.out; omega
        have BG : Hid (w.heap.size ≤ w17.heap.size) := Nat.le_of_lt Z17.out
        clear hsrt hlm hown hl SL O17 C17 G17 R17 Z17
        have r0 : w18.cell? ⟨w.heap.size, 0, none⟩ = some (.string ⟨#[]⟩) := R18.out.cell 0
        have r1 : w18.cell? ⟨w.heap.size, 1, none⟩ = some (.slice none 0 0) := R18.out.cell 1
        have q0 := R18.out.free 0
        have q1 := R18.out.free 1
        have F := Lib.hid (filZ_bk R18.out ⟨#[99, 111, 109]⟩ (.slice (some ⟨gs, 0, none⟩) ms cs))
        have OF := Lib.hid (own_filZ O18.out NG.out ⟨#[99, 111, 109]⟩ (.slice (some ⟨gs, 0, none⟩) ms cs))
        have CF := Lib.hid (cur_filZ C18.out GL.out ⟨#[99, 111, 109]⟩ (.slice (some ⟨gs, 0, none⟩) ms cs))
        have GF := Lib.hid (grown_filZ G18.out (Nat.le_refl _) ⟨#[99, 111, 109]⟩ (.slice (some ⟨gs, 0, none⟩) ms cs))
        go_wp2
        exact bodyPost_ret (v := .agg #[.string ⟨#[99, 111, 109]⟩, .slice (some ⟨gs, 0, none⟩) ms cs]) (resZ1 rfl F.out rfl) rfl ⟨t, h, true, true, true, gs, ms, cs, HT.out, rfl, HM.out, MapK.own_mono OF.out BG.out, CF.out, GF.out⟩
      | false =>

        have SL : Hid (Sr w14 w14.heap.size (some ⟨gq13, 0, none⟩) 6 (zb t h true true false)) := own_sr O14.out
        go_wp2_with fail
        refine (UniqZ.spec gq13 0 6 cq13 (zb t h true true false) w14 SL.out (by omega) (fine HT.out true true false)).mono ?_
        rintro e w19 ⟨S, gs, ms, cs, hsrt, rfl, hlm, hown, hl⟩
        have hS : S = zs t h true true false := hsrt.unique (srt HT.out true true false)
        subst hS
        rw [thin HT.out] at hlm hown
        have HM := Lib.hid hlm
        have O19 := Lib.hid hown
        have C19 := Lib.hid (cur_below C14.out hl)
        have G19 := Lib.hid (grown_below G14.out hl)
        have R19 := Lib.hid (R14.out.below hl R14.out.lt)
        have NG : Hid (gs ≠ w.heap.size) := show _ ≠ _ from fun e => by have h1 := (O19.out.lt gs rfl).1; have h2 := Z14.out; omega
        have BG : Hid (w.heap.size ≤ w14.heap.size) := Nat.le_of_lt Z14.out
        clear hsrt hlm hown hl SL O14 C14 G14 R14 Z14
        have r0 : w19.cell? ⟨w.heap.size, 0, none⟩ = some (.string ⟨#[]⟩) := R19.out.cell 0
        have r1 : w19.cell? ⟨w.heap.size, 1, none⟩ = some (.slice none 0 0) := R19.out.cell 1
        have q0 := R19.out.free 0
        have q1 := R19.out.free 1
        have F := Lib.hid (filZ_bk R19.out ⟨#[99, 111, 109]⟩ (.slice (some ⟨gs, 0, none⟩) ms cs))
        have OF := Lib.hid (own_filZ O19.out NG.out ⟨#[99, 111, 109]⟩ (.slice (some ⟨gs, 0, none⟩) ms cs))
        have CF := Lib.hid (cur_filZ C19.out GL.out ⟨#[99, 111, 109]⟩ (.slice (some ⟨gs, 0, none⟩) ms cs))
        have GF := Lib.hid (grown_filZ G19.out (Nat.le_refl _) ⟨#[99, 111, 109]⟩ (.slice (some ⟨gs, 0, none⟩) ms cs))
        go_wp2
        exact bodyPost_ret (v := .agg #[.string ⟨#[99, 111, 109]⟩, .slice (some ⟨gs, 0, none⟩) ms cs]) (resZ1 rfl F.out rfl) rfl ⟨t, h, true, true, false, gs, ms, cs, HT.out, rfl, HM.out, MapK.own_mono OF.out BG.out, CF.out, GF.out⟩
    | false =>

      go_wp2_with fail
      refine (l1Once_any g 2 _ C11.out (by omega) (by omega)).mono ?_
      rintro e w20 ⟨bb, rfl, hc9, hg9⟩
      have C20 := Lib.hid hc9
      have G20 := Lib.hid (grown_trans G11.out hg9)
      have R20 := Lib.hid (R11.out.grown hg9 (fun e => by have h1 := GL.out; have h2 : w.heap.size = g := Option.some.inj e; omega))
      have O20 := Lib.hid (own_far O11.out hg9 (Nat.lt_succ_of_lt GL.out))
      have Z20 : Hid (w.heap.size < w20.heap.size) := Nat.lt_of_lt_of_le Z11.out hg9.size
      clear hc9 hg9 C11 G11 R11 O11 Z11
      cases bb with
      | true =>
        go_wp2_with fail
        refine (ZoneH.l10Addr ⟨#[98, 46, 97, 46, 99, 111, 109]⟩ 8 9 w20).mono ?_
        rintro e w21 ⟨rfl, hl⟩
        have C21 := Lib.hid (cur_below C20.out hl)
        have G21 := Lib.hid (grown_below G20.out hl)
        have R21 := Lib.hid (R20.out.below hl R20.out.lt)
        have Z21 : Hid (w.heap.size < w21.heap.size) := Nat.lt_of_lt_of_le Z20.out hl.size
        have O21 := Lib.hid (own_below O20.out hl)
        clear hl C20 G20 R20 Z20 O20
        have B22 : Hid (Bk (w21.alloc (.cells #[.string ⟨#[116, 46, 99, 111, 109]⟩, .int .i64 16, .int .i64 7, .int .i64 0, .string ⟨#[]⟩, .string ⟨#[104, 105]⟩, .string ⟨#[98, 46, 97, 46, 99, 111, 109]⟩, .int .i64 1, .int .i64 9, .int .i64 8, .string ⟨#[]⟩, .string ⟨#[]⟩] 39)) w21.heap.size 39 (fl [(Rec.mk ⟨#[116, 46, 99, 111, 109]⟩ 16 7 0 ⟨#[]⟩ ⟨#[104, 105]⟩), (Rec.mk ⟨#[98, 46, 97, 46, 99, 111, 109]⟩ 1 9 8 ⟨#[]⟩ ⟨#[]⟩)])) := heap_alloc_new w21 _
        have C22 := Lib.hid (C21.out.alloc (.cells #[.string ⟨#[116, 46, 99, 111, 109]⟩, .int .i64 16, .int .i64 7, .int .i64 0, .string ⟨#[]⟩, .string ⟨#[104, 105]⟩, .string ⟨#[98, 46, 97, 46, 99, 111, 109]⟩, .int .i64 1, .int .i64 9, .int .i64 8, .string ⟨#[]⟩, .string ⟨#[]⟩] 39))
        have G22 := Lib.hid (grown_trans G21.out (World.grownBy_alloc w21 (.cells #[.string ⟨#[116, 46, 99, 111, 109]⟩, .int .i64 16, .int .i64 7, .int .i64 0, .string ⟨#[]⟩, .string ⟨#[104, 105]⟩, .string ⟨#[98, 46, 97, 46, 99, 111, 109]⟩, .int .i64 1, .int .i64 9, .int .i64 8, .string ⟨#[]⟩, .string ⟨#[]⟩] 39) (some g)))
        have R22 := Lib.hid (R21.out.alloc (.cells #[.string ⟨#[116, 46, 99, 111, 109]⟩, .int .i64 16, .int .i64 7, .int .i64 0, .string ⟨#[]⟩, .string ⟨#[104, 105]⟩, .string ⟨#[98, 46, 97, 46, 99, 111, 109]⟩, .int .i64 1, .int .i64 9, .int .i64 8, .string ⟨#[]⟩, .string ⟨#[]⟩] 39))
        have Z22 : Hid (w.heap.size < (w21.alloc (.cells #[.string ⟨#[116, 46, 99, 111, 109]⟩, .int .i64 16, .int .i64 7, .int .i64 0, .string ⟨#[]⟩, .string ⟨#[104, 105]⟩, .string ⟨#[98, 46, 97, 46, 99, 111, 109]⟩, .int .i64 1, .int .i64 9, .int .i64 8, .string ⟨#[]⟩, .string ⟨#[]⟩] 39)).heap.size) := by show _ < _; have := Z21.out; simp; omega
        have O22 := Lib.hid (O21.out.alloc (.cells #[.string ⟨#[116, 46, 99, 111, 109]⟩, .int .i64 16, .int .i64 7, .int .i64 0, .string ⟨#[]⟩, .string ⟨#[104, 105]⟩, .string ⟨#[98, 46, 97, 46, 99, 111, 109]⟩, .int .i64 1, .int .i64 9, .int .i64 8, .string ⟨#[]⟩, .string ⟨#[]⟩] 39))
        have S22 : Hid (Sr (w21.alloc (.cells #[.string ⟨#[116, 46, 99, 111, 109]⟩, .int .i64 16, .int .i64 7, .int .i64 0, .string ⟨#[]⟩, .string ⟨#[104, 105]⟩, .string ⟨#[98, 46, 97, 46, 99, 111, 109]⟩, .int .i64 1, .int .i64 9, .int .i64 8, .string ⟨#[]⟩, .string ⟨#[]⟩] 39)) (w21.alloc (.cells #[.string ⟨#[116, 46, 99, 111, 109]⟩, .int .i64 16, .int .i64 7, .int .i64 0, .string ⟨#[]⟩, .string ⟨#[104, 105]⟩, .string ⟨#[98, 46, 97, 46, 99, 111, 109]⟩, .int .i64 1, .int .i64 9, .int .i64 8, .string ⟨#[]⟩, .string ⟨#[]⟩] 39)).heap.size (some ⟨w21.heap.size, 0, none⟩) 2 [(Rec.mk ⟨#[116, 46, 99, 111, 109]⟩ 16 7 0 ⟨#[]⟩ ⟨#[104, 105]⟩), (Rec.mk ⟨#[98, 46, 97, 46, 99, 111, 109]⟩ 1 9 8 ⟨#[]⟩ ⟨#[]⟩)]) := bk_sr0 B22.out rfl
        go_wp2_with (at_builtin; refine AppR.append_recs (w := w21.alloc (.cells #[.string ⟨#[116, 46, 99, 111, 109]⟩, .int .i64 16, .int .i64 7, .int .i64 0, .string ⟨#[]⟩, .string ⟨#[104, 105]⟩, .string ⟨#[98, 46, 97, 46, 99, 111, 109]⟩, .int .i64 1, .int .i64 9, .int .i64 8, .string ⟨#[]⟩, .string ⟨#[]⟩] 39)) rfl (.tmp 32) (.tmp 35) rfl (w.heap.size + 1) gq10 5 cq10 (zb t h true false false) rfl O22.out w21.heap.size 0 2 2 _ [(Rec.mk ⟨#[116, 46, 99, 111, 109]⟩ 16 7 0 ⟨#[]⟩ ⟨#[104, 105]⟩), (Rec.mk ⟨#[98, 46, 97, 46, 99, 111, 109]⟩ 1 9 8 ⟨#[]⟩ ⟨#[]⟩)] rfl S22.out (by omega) (by omega) (by have := Z22.out; omega) ?_)
        intro gq23 cq23 w23 hown hgrow
        have O23 := Lib.hid hown
        have C23 := Lib.hid (cur_far C22.out O22.out hgrow (by have := GL.out; omega))
        have gge : w.heap.size + 1 ≤ gq10 := (O22.out.lt gq10 rfl).1
        have G23 := Lib.hid (grown_far G22.out hgrow (by omega))
        have R23 := Lib.hid (R22.out.grown hgrow (fun e => by have h2 : w.heap.size = gq10 := Option.some.inj e; omega))
        have Z23 : Hid (w.heap.size < w23.heap.size) := Nat.lt_of_lt_of_le Z22.out hgrow.size
        clear hown hgrow gge C22 G22 R22 Z22 O22 B22 S22 C21 G21 R21 Z21 O21
        have OE : Hid (w23.ownsRow (w.heap.size + 1) 39 6 (.slice (some ⟨gq23, 0, none⟩) 7 cq23) 7 (fl (zb t h true false true))) := O23.out
        clear O23
        have O23 := OE
        clear OE
        have SL : Hid (Sr w23 w23.heap.size (some ⟨gq23, 0, none⟩) 7 (zb t h true false true)) := own_sr O23.out
        go_wp2_with fail
        refine (UniqZ.spec gq23 0 7 cq23 (zb t h true false true) w23 SL.out (by omega) (fine HT.out true false true)).mono ?_
        rintro e w24 ⟨S, gs, ms, cs, hsrt, rfl, hlm, hown, hl⟩
        have hS : S = zs t h true false true := hsrt.unique (srt HT.out true false true)
        subst hS
        rw [thin HT.out] at hlm hown
        have HM := Lib.hid hlm
        have O24 := Lib.hid hown
        have C24 := Lib.hid (cur_below C23.out hl)
        have G24 := Lib.hid (grown_below G23.out hl)
        have R24 := Lib.hid (R23.out.below hl R23.out.lt)
        have NG : Hid (gs ≠ w.heap.size) := show _ ≠ _ from fun e => by have h1 := (O24.out.lt gs rfl).1; have h2 := Z23.out; omega
        have BG : Hid (w.heap.size ≤ w23.heap.size) := Nat.le_of_lt Z23.out
        clear hsrt hlm hown hl SL O23 C23 G23 R23 Z23
        have r0 : w24.cell? ⟨w.heap.size, 0, none⟩ = some (.string ⟨#[]⟩) := R24.out.cell 0
        have r1 : w24.cell? ⟨w.heap.size, 1, none⟩ = some (.slice none 0 0) := R24.out.cell 1
        have q0 := R24.out.free 0
        have q1 := R24.out.free 1
        have F := Lib.hid (filZ_bk R24.out ⟨#[99, 111, 109]⟩ (.slice (some ⟨gs, 0, none⟩) ms cs))
        have OF := Lib.hid (own_filZ O24.out NG.out ⟨#[99, 111, 109]⟩ (.slice (some ⟨gs, 0, none⟩) ms cs))
        have CF := Lib.hid (cur_filZ C24.out GL.out ⟨#[99, 111, 109]⟩ (.slice (some ⟨gs, 0, none⟩) ms cs))
        have GF := Lib.hid (grown_filZ G24.out (Nat.le_refl _) ⟨#[99, 111, 109]⟩ (.slice (some ⟨gs, 0, none⟩) ms cs))
        go_wp2
        exact bodyPost_ret (v := .agg #[.string ⟨#[99, 111, 109]⟩, .slice (some ⟨gs, 0, none⟩) ms cs]) (resZ1 rfl F.out rfl) rfl ⟨t, h, true, false, true, gs, ms, cs, HT.out, rfl, HM.out, MapK.own_mono OF.out BG.out, CF.out, GF.out⟩
      | false =>

        have SL : Hid (Sr w20 w20.heap.size (some ⟨gq10, 0, none⟩) 5 (zb t h true false false)) := own_sr O20.out
        go_wp2_with fail
        refine (UniqZ.spec gq10 0 5 cq10 (zb t h true false false) w20 SL.out (by omega) (fine HT.out true false false)).mono ?_
        rintro e w25 ⟨S, gs, ms, cs, hsrt, rfl, hlm, hown, hl⟩
        have hS : S = zs t h true false false := hsrt.unique (srt HT.out true false false)
        subst hS
        rw [thin HT.out] at hlm hown
        have HM := Lib.hid hlm
        have O25 := Lib.hid hown
        have C25 := Lib.hid (cur_below C20.out hl)
        have G25 := Lib.hid (grown_below G20.out hl)
        have R25 := Lib.hid (R20.out.below hl R20.out.lt)
        have NG : Hid (gs ≠ w.heap.size) := show _ ≠ _ from fun e => by have h1 := (O25.out.lt gs rfl).1; have h2 := Z20.out; omega
        have BG : Hid (w.heap.size ≤ w20.heap.size) := Nat.le_of_lt Z20.out
        clear hsrt hlm hown hl SL O20 C20 G20 R20 Z20
        have r0 : w25.cell? ⟨w.heap.size, 0, none⟩ = some (.string ⟨#[]⟩) := R25.out.cell 0
        have r1 : w25.cell? ⟨w.heap.size, 1, none⟩ = some (.slice none 0 0) := R25.out.cell 1
        have q0 := R25.out.free 0
        have q1 := R25.out.free 1
        have F := Lib.hid (filZ_bk R25.out ⟨#[99, 111, 109]⟩ (.slice (some ⟨gs, 0, none⟩) ms cs))
        have OF := Lib.hid (own_filZ O25.out NG.out ⟨#[99, 111, 109]⟩ (.slice (some ⟨gs, 0, none⟩) ms cs))
        have CF := Lib.hid (cur_filZ C25.out GL.out ⟨#[99, 111, 109]⟩ (.slice (some ⟨gs, 0, none⟩) ms cs))
        have GF := Lib.hid (grown_filZ G25.out (Nat.le_refl _) ⟨#[99, 111, 109]⟩ (.slice (some ⟨gs, 0, none⟩) ms cs))
        go_wp2
        exact bodyPost_ret (v := .agg #[.string ⟨#[99, 111, 109]⟩, .slice (some ⟨gs, 0, none⟩) ms cs]) (resZ1 rfl F.out rfl) rfl ⟨t, h, true, false, false, gs, ms, cs, HT.out, rfl, HM.out, MapK.own_mono OF.out BG.out, CF.out, GF.out⟩
  | false =>

    go_wp2_with fail
    refine (l1Once_any g 2 _ C6.out (by omega) (by omega)).mono ?_
    rintro e w26 ⟨bb, rfl, hc9, hg9⟩
    have C26 := Lib.hid hc9
    have G26 := Lib.hid (grown_trans G6.out hg9)
    have R26 := Lib.hid (R6.out.grown hg9 (fun e => by have h1 := GL.out; have h2 : w.heap.size = g := Option.some.inj e; omega))
    have O26 := Lib.hid (own_far O6.out hg9 (Nat.lt_succ_of_lt GL.out))
    have Z26 : Hid (w.heap.size < w26.heap.size) := Nat.lt_of_lt_of_le Z6.out hg9.size
    clear hc9 hg9 C6 G6 R6 O6 Z6
    cases bb with
    | true =>
      have B27 : Hid (Bk (w26.alloc (.cells #[.string ⟨#[119, 119, 119, 46, 99, 111, 109]⟩, .int .i64 5, .int .i64 9, .int .i64 0, .string ⟨#[97, 46, 111, 114, 103]⟩, .string ⟨#[]⟩] 39)) w26.heap.size 39 (fl [(Rec.mk ⟨#[119, 119, 119, 46, 99, 111, 109]⟩ 5 9 0 ⟨#[97, 46, 111, 114, 103]⟩ ⟨#[]⟩)])) := heap_alloc_new w26 _
      have C27 := Lib.hid (C26.out.alloc (.cells #[.string ⟨#[119, 119, 119, 46, 99, 111, 109]⟩, .int .i64 5, .int .i64 9, .int .i64 0, .string ⟨#[97, 46, 111, 114, 103]⟩, .string ⟨#[]⟩] 39))
      have G27 := Lib.hid (grown_trans G26.out (World.grownBy_alloc w26 (.cells #[.string ⟨#[119, 119, 119, 46, 99, 111, 109]⟩, .int .i64 5, .int .i64 9, .int .i64 0, .string ⟨#[97, 46, 111, 114, 103]⟩, .string ⟨#[]⟩] 39) (some g)))
      have R27 := Lib.hid (R26.out.alloc (.cells #[.string ⟨#[119, 119, 119, 46, 99, 111, 109]⟩, .int .i64 5, .int .i64 9, .int .i64 0, .string ⟨#[97, 46, 111, 114, 103]⟩, .string ⟨#[]⟩] 39))
      have Z27 : Hid (w.heap.size < (w26.alloc (.cells #[.string ⟨#[119, 119, 119, 46, 99, 111, 109]⟩, .int .i64 5, .int .i64 9, .int .i64 0, .string ⟨#[97, 46, 111, 114, 103]⟩, .string ⟨#[]⟩] 39)).heap.size) := by show _ < _; have := Z26.out; simp; omega
      have O27 := Lib.hid (O26.out.alloc (.cells #[.string ⟨#[119, 119, 119, 46, 99, 111, 109]⟩, .int .i64 5, .int .i64 9, .int .i64 0, .string ⟨#[97, 46, 111, 114, 103]⟩, .string ⟨#[]⟩] 39))
      have S27 : Hid (Sr (w26.alloc (.cells #[.string ⟨#[119, 119, 119, 46, 99, 111, 109]⟩, .int .i64 5, .int .i64 9, .int .i64 0, .string ⟨#[97, 46, 111, 114, 103]⟩, .string ⟨#[]⟩] 39)) (w26.alloc (.cells #[.string ⟨#[119, 119, 119, 46, 99, 111, 109]⟩, .int .i64 5, .int .i64 9, .int .i64 0, .string ⟨#[97, 46, 111, 114, 103]⟩, .string ⟨#[]⟩] 39)).heap.size (some ⟨w26.heap.size, 0, none⟩) 1 [(Rec.mk ⟨#[119, 119, 119, 46, 99, 111, 109]⟩ 5 9 0 ⟨#[97, 46, 111, 114, 103]⟩ ⟨#[]⟩)]) := bk_sr0 B27.out rfl
      go_wp2_with (at_builtin; refine AppR.append_recs (w := w26.alloc (.cells #[.string ⟨#[119, 119, 119, 46, 99, 111, 109]⟩, .int .i64 5, .int .i64 9, .int .i64 0, .string ⟨#[97, 46, 111, 114, 103]⟩, .string ⟨#[]⟩] 39)) rfl (.tmp 26) (.tmp 28) rfl (w.heap.size + 1) gl 3 3 (zb t h false false false) rfl O27.out w26.heap.size 0 1 1 _ [(Rec.mk ⟨#[119, 119, 119, 46, 99, 111, 109]⟩ 5 9 0 ⟨#[97, 46, 111, 114, 103]⟩ ⟨#[]⟩)] rfl S27.out (by omega) (by omega) (by have := Z27.out; omega) ?_)
      intro gq28 cq28 w28 hown hgrow
      have O28 := Lib.hid hown
      have C28 := Lib.hid (cur_far C27.out O27.out hgrow (by have := GL.out; omega))
      have gge : w.heap.size + 1 ≤ gl := (O27.out.lt gl rfl).1
      have G28 := Lib.hid (grown_far G27.out hgrow (by omega))
      have R28 := Lib.hid (R27.out.grown hgrow (fun e => by have h2 : w.heap.size = gl := Option.some.inj e; omega))
      have Z28 : Hid (w.heap.size < w28.heap.size) := Nat.lt_of_lt_of_le Z27.out hgrow.size
      clear hown hgrow gge C27 G27 R27 Z27 O27 B27 S27 C26 G26 R26 Z26 O26
      have OE : Hid (w28.ownsRow (w.heap.size + 1) 39 6 (.slice (some ⟨gq28, 0, none⟩) 4 cq28) 4 (fl (zb t h false true false))) := O28.out
      clear O28
      have O28 := OE
      clear OE
      go_wp2_with fail
      refine (l1Once_any g 2 _ C28.out (by omega) (by omega)).mono ?_
      rintro e w29 ⟨bb, rfl, hc9, hg9⟩
      have C29 := Lib.hid hc9
      have G29 := Lib.hid (grown_trans G28.out hg9)
      have R29 := Lib.hid (R28.out.grown hg9 (fun e => by have h1 := GL.out; have h2 : w.heap.size = g := Option.some.inj e; omega))
      have O29 := Lib.hid (own_far O28.out hg9 (Nat.lt_succ_of_lt GL.out))
      have Z29 : Hid (w.heap.size < w29.heap.size) := Nat.lt_of_lt_of_le Z28.out hg9.size
      clear hc9 hg9 C28 G28 R28 O28 Z28
      cases bb with
      | true =>
        go_wp2_with fail
        refine (ZoneH.l10Addr ⟨#[98, 46, 97, 46, 99, 111, 109]⟩ 8 9 w29).mono ?_
        rintro e w30 ⟨rfl, hl⟩
        have C30 := Lib.hid (cur_below C29.out hl)
        have G30 := Lib.hid (grown_below G29.out hl)
        have R30 := Lib.hid (R29.out.below hl R29.out.lt)
        have Z30 : Hid (w.heap.size < w30.heap.size) := Nat.lt_of_lt_of_le Z29.out hl.size
        have O30 := Lib.hid (own_below O29.out hl)
        clear hl C29 G29 R29 Z29 O29
        have B31 : Hid (Bk (w30.alloc (.cells #[.string ⟨#[116, 46, 99, 111, 109]⟩, .int .i64 16, .int .i64 7, .int .i64 0, .string ⟨#[]⟩, .string ⟨#[104, 105]⟩, .string ⟨#[98, 46, 97, 46, 99, 111, 109]⟩, .int .i64 1, .int .i64 9, .int .i64 8, .string ⟨#[]⟩, .string ⟨#[]⟩] 39)) w30.heap.size 39 (fl [(Rec.mk ⟨#[116, 46, 99, 111, 109]⟩ 16 7 0 ⟨#[]⟩ ⟨#[104, 105]⟩), (Rec.mk ⟨#[98, 46, 97, 46, 99, 111, 109]⟩ 1 9 8 ⟨#[]⟩ ⟨#[]⟩)])) := heap_alloc_new w30 _
        have C31 := Lib.hid (C30.out.alloc (.cells #[.string ⟨#[116, 46, 99, 111, 109]⟩, .int .i64 16, .int .i64 7, .int .i64 0, .string ⟨#[]⟩, .string ⟨#[104, 105]⟩, .string ⟨#[98, 46, 97, 46, 99, 111, 109]⟩, .int .i64 1, .int .i64 9, .int .i64 8, .string ⟨#[]⟩, .string ⟨#[]⟩] 39))
        have G31 := Lib.hid (grown_trans G30.out (World.grownBy_alloc w30 (.cells #[.string ⟨#[116, 46, 99, 111, 109]⟩, .int .i64 16, .int .i64 7, .int .i64 0, .string ⟨#[]⟩, .string ⟨#[104, 105]⟩, .string ⟨#[98, 46, 97, 46, 99, 111, 109]⟩, .int .i64 1, .int .i64 9, .int .i64 8, .string ⟨#[]⟩, .string ⟨#[]⟩] 39) (some g)))
        have R31 := Lib.hid (R30.out.alloc (.cells #[.string ⟨#[116, 46, 99, 111, 109]⟩, .int .i64 16, .int .i64 7, .int .i64 0, .string ⟨#[]⟩, .string ⟨#[104, 105]⟩, .string ⟨#[98, 46, 97, 46, 99, 111, 109]⟩, .int .i64 1, .int .i64 9, .int .i64 8, .string ⟨#[]⟩, .string ⟨#[]⟩] 39))
        have Z31 : Hid (w.heap.size < (w30.alloc (.cells #[.string ⟨#[116, 46, 99, 111, 109]⟩, .int .i64 16, .int .i64 7, .int .i64 0, .string ⟨#[]⟩, .string ⟨#[104, 105]⟩, .string ⟨#[98, 46, 97, 46, 99, 111, 109]⟩, .int .i64 1, .int .i64 9, .int .i64 8, .string ⟨#[]⟩, .string ⟨#[]⟩] 39)).heap.size) := by show _ < _; have := Z30.out; simp; omega
        have O31 := Lib.hid (O30.out.alloc (.cells #[.string ⟨#[116, 46, 99, 111, 109]⟩, .int .i64 16, .int .i64 7, .int .i64 0, .string ⟨#[]⟩, .string ⟨#[104, 105]⟩, .string ⟨#[98, 46, 97, 46, 99, 111, 109]⟩, .int .i64 1, .int .i64 9, .int .i64 8, .string ⟨#[]⟩, .string ⟨#[]⟩] 39))
        have S31 : Hid (Sr (w30.alloc (.cells #[.string ⟨#[116, 46, 99, 111, 109]⟩, .int .i64 16, .int .i64 7, .int .i64 0, .string ⟨#[]⟩, .string ⟨#[104, 105]⟩, .string ⟨#[98, 46, 97, 46, 99, 111, 109]⟩, .int .i64 1, .int .i64 9, .int .i64 8, .string ⟨#[]⟩, .string ⟨#[]⟩] 39)) (w30.alloc (.cells #[.string ⟨#[116, 46, 99, 111, 109]⟩, .int .i64 16, .int .i64 7, .int .i64 0, .string ⟨#[]⟩, .string ⟨#[104, 105]⟩, .string ⟨#[98, 46, 97, 46, 99, 111, 109]⟩, .int .i64 1, .int .i64 9, .int .i64 8, .string ⟨#[]⟩, .string ⟨#[]⟩] 39)).heap.size (some ⟨w30.heap.size, 0, none⟩) 2 [(Rec.mk ⟨#[116, 46, 99, 111, 109]⟩ 16 7 0 ⟨#[]⟩ ⟨#[104, 105]⟩), (Rec.mk ⟨#[98, 46, 97, 46, 99, 111, 109]⟩ 1 9 8 ⟨#[]⟩ ⟨#[]⟩)]) := bk_sr0 B31.out rfl
        go_wp2_with (at_builtin; refine AppR.append_recs (w := w30.alloc (.cells #[.string ⟨#[116, 46, 99, 111, 109]⟩, .int .i64 16, .int .i64 7, .int .i64 0, .string ⟨#[]⟩, .string ⟨#[104, 105]⟩, .string ⟨#[98, 46, 97, 46, 99, 111, 109]⟩, .int .i64 1, .int .i64 9, .int .i64 8, .string ⟨#[]⟩, .string ⟨#[]⟩] 39)) rfl (.tmp 32) (.tmp 35) rfl (w.heap.size + 1) gq28 4 cq28 (zb t h false true false) rfl O31.out w30.heap.size 0 2 2 _ [(Rec.mk ⟨#[116, 46, 99, 111, 109]⟩ 16 7 0 ⟨#[]⟩ ⟨#[104, 105]⟩), (Rec.mk ⟨#[98, 46, 97, 46, 99, 111, 109]⟩ 1 9 8 ⟨#[]⟩ ⟨#[]⟩)] rfl S31.out (by omega) (by omega) (by have := Z31.out; omega) ?_)
        intro gq32 cq32 w32 hown hgrow
        have O32 := Lib.hid hown
        have C32 := Lib.hid (cur_far C31.out O31.out hgrow (by have := GL.out; omega))
        have gge : w.heap.size + 1 ≤ gq28 := (O31.out.lt gq28 rfl).1
        have G32 := Lib.hid (grown_far G31.out hgrow (by omega))
        have R32 := Lib.hid (R31.out.grown hgrow (fun e => by have h2 : w.heap.size = gq28 := Option.some.inj e; omega))
        have Z32 : Hid (w.heap.size < w32.heap.size) := Nat.lt_of_lt_of_le Z31.out hgrow.size
        clear hown hgrow gge C31 G31 R31 Z31 O31 B31 S31 C30 G30 R30 Z30 O30
        have OE : Hid (w32.ownsRow (w.heap.size + 1) 39 6 (.slice (some ⟨gq32, 0, none⟩) 6 cq32) 6 (fl (zb t h false true true))) := O32.out
        clear O32
        have O32 := OE
        clear OE
        have SL : Hid (Sr w32 w32.heap.size (some ⟨gq32, 0, none⟩) 6 (zb t h false true true)) := own_sr O32.out
        go_wp2_with fail
        refine (UniqZ.spec gq32 0 6 cq32 (zb t h false true true) w32 SL.out (by omega) (fine HT.out false true true)).mono ?_
        rintro e w33 ⟨S, gs, ms, cs, hsrt, rfl, hlm, hown, hl⟩
        have hS : S = zs t h false true true := hsrt.unique (srt HT.out false true true)
        subst hS
        rw [thin HT.out] at hlm hown
        have HM := Lib.hid hlm
        have O33 := Lib.hid hown
        have C33 := Lib.hid (cur_below C32.out hl)
        have G33 := Lib.hid (grown_below G32.out hl)
        have R33 := Lib.hid (R32.out.below hl R32.out.lt)
        have NG : Hid (gs ≠ w.heap.size) := show _ ≠ _ from fun e => by have h1 := (O33.out.lt gs rfl).1; have h2 := Z32.out; omega
        have BG : Hid (w.heap.size ≤ w32.heap.size) := Nat.le_of_lt Z32.out
        clear hsrt hlm hown hl SL O32 C32 G32 R32 Z32
        have r0 : w33.cell? ⟨w.heap.size, 0, none⟩ = some (.string ⟨#[]⟩) := R33.out.cell 0
        have r1 : w33.cell? ⟨w.heap.size, 1, none⟩ = some (.slice none 0 0) := R33.out.cell 1
        have q0 := R33.out.free 0
        have q1 := R33.out.free 1
        have F := Lib.hid (filZ_bk R33.out ⟨#[99, 111, 109]⟩ (.slice (some ⟨gs, 0, none⟩) ms cs))
        have OF := Lib.hid (own_filZ O33.out NG.out ⟨#[99, 111, 109]⟩ (.slice (some ⟨gs, 0, none⟩) ms cs))
        have CF := Lib.hid (cur_filZ C33.out GL.out ⟨#[99, 111, 109]⟩ (.slice (some ⟨gs, 0, none⟩) ms cs))
        have GF := Lib.hid (grown_filZ G33.out (Nat.le_refl _) ⟨#[99, 111, 109]⟩ (.slice (some ⟨gs, 0, none⟩) ms cs))
        go_wp2
        exact bodyPost_ret (v := .agg #[.string ⟨#[99, 111, 109]⟩, .slice (some ⟨gs, 0, none⟩) ms cs]) (resZ1 rfl F.out rfl) rfl ⟨t, h, false, true, true, gs, ms, cs, HT.out, rfl, HM.out, MapK.own_mono OF.out BG.out, CF.out, GF.out⟩
      | false =>

        have SL : Hid (Sr w29 w29.heap.size (some ⟨gq28, 0, none⟩) 4 (zb t h false true false)) := own_sr O29.out
        go_wp2_with fail
        refine (UniqZ.spec gq28 0 4 cq28 (zb t h false true false) w29 SL.out (by omega) (fine HT.out false true false)).mono ?_
        rintro e w34 ⟨S, gs, ms, cs, hsrt, rfl, hlm, hown, hl⟩
        have hS : S = zs t h false true false := hsrt.unique (srt HT.out false true false)
        subst hS
        rw [thin HT.out] at hlm hown
        have HM := Lib.hid hlm
        have O34 := Lib.hid hown
        have C34 := Lib.hid (cur_below C29.out hl)
        have G34 := Lib.hid (grown_below G29.out hl)
        have R34 := Lib.hid (R29.out.below hl R29.out.lt)
        have NG : Hid (gs ≠ w.heap.size) := show _ ≠ _ from fun e => by have h1 := (O34.out.lt gs rfl).1; have h2 := Z29.out; omega
        have BG : Hid (w.heap.size ≤ w29.heap.size) := Nat.le_of_lt Z29.out
        clear hsrt hlm hown hl SL O29 C29 G29 R29 Z29
        have r0 : w34.cell? ⟨w.heap.size, 0, none⟩ = some (.string ⟨#[]⟩) := R34.out.cell 0
        have r1 : w34.cell? ⟨w.heap.size, 1, none⟩ = some (.slice none 0 0) := R34.out.cell 1
        have q0 := R34.out.free 0
        have q1 := R34.out.free 1
        have F := Lib.hid (filZ_bk R34.out ⟨#[99, 111, 109]⟩ (.slice (some ⟨gs, 0, none⟩) ms cs))
        have OF := Lib.hid (own_filZ O34.out NG.out ⟨#[99, 111, 109]⟩ (.slice (some ⟨gs, 0, none⟩) ms cs))
        have CF := Lib.hid (cur_filZ C34.out GL.out ⟨#[99, 111, 109]⟩ (.slice (some ⟨gs, 0, none⟩) ms cs))
        have GF := Lib.hid (grown_filZ G34.out (Nat.le_refl _) ⟨#[99, 111, 109]⟩ (.slice (some ⟨gs, 0, none⟩) ms cs))
        go_wp2
        exact bodyPost_ret (v := .agg #[.string ⟨#[99, 111, 109]⟩, .slice (some ⟨gs, 0, none⟩) ms cs]) (resZ1 rfl F.out rfl) rfl ⟨t, h, false, true, false, gs, ms, cs, HT.out, rfl, HM.out, MapK.own_mono OF.out BG.out, CF.out, GF.out⟩
    | false =>

      go_wp2_with fail
      refine (l1Once_any g 2 _ C26.out (by omega) (by omega)).mono ?_
      rintro e w35 ⟨bb, rfl, hc9, hg9⟩
      have C35 := Lib.hid hc9
      have G35 := Lib.hid (grown_trans G26.out hg9)
      have R35 := Lib.hid (R26.out.grown hg9 (fun e => by have h1 := GL.out; have h2 : w.heap.size = g := Option.some.inj e; omega))
      have O35 := Lib.hid (own_far O26.out hg9 (Nat.lt_succ_of_lt GL.out))
      have Z35 : Hid (w.heap.size < w35.heap.size) := Nat.lt_of_lt_of_le Z26.out hg9.size
      clear hc9 hg9 C26 G26 R26 O26 Z26
      cases bb with
      | true =>
        go_wp2_with fail
        refine (ZoneH.l10Addr ⟨#[98, 46, 97, 46, 99, 111, 109]⟩ 8 9 w35).mono ?_
        rintro e w36 ⟨rfl, hl⟩
        have C36 := Lib.hid (cur_below C35.out hl)
        have G36 := Lib.hid (grown_below G35.out hl)
        have R36 := Lib.hid (R35.out.below hl R35.out.lt)
        have Z36 : Hid (w.heap.size < w36.heap.size) := Nat.lt_of_lt_of_le Z35.out hl.size
        have O36 := Lib.hid (own_below O35.out hl)
        clear hl C35 G35 R35 Z35 O35
        have B37 : Hid (Bk (w36.alloc (.cells #[.string ⟨#[116, 46, 99, 111, 109]⟩, .int .i64 16, .int .i64 7, .int .i64 0, .string ⟨#[]⟩, .string ⟨#[104, 105]⟩, .string ⟨#[98, 46, 97, 46, 99, 111, 109]⟩, .int .i64 1, .int .i64 9, .int .i64 8, .string ⟨#[]⟩, .string ⟨#[]⟩] 39)) w36.heap.size 39 (fl [(Rec.mk ⟨#[116, 46, 99, 111, 109]⟩ 16 7 0 ⟨#[]⟩ ⟨#[104, 105]⟩), (Rec.mk ⟨#[98, 46, 97, 46, 99, 111, 109]⟩ 1 9 8 ⟨#[]⟩ ⟨#[]⟩)])) := heap_alloc_new w36 _
        have C37 := Lib.hid (C36.out.alloc (.cells #[.string ⟨#[116, 46, 99, 111, 109]⟩, .int .i64 16, .int .i64 7, .int .i64 0, .string ⟨#[]⟩, .string ⟨#[104, 105]⟩, .string ⟨#[98, 46, 97, 46, 99, 111, 109]⟩, .int .i64 1, .int .i64 9, .int .i64 8, .string ⟨#[]⟩, .string ⟨#[]⟩] 39))
        have G37 := Lib.hid (grown_trans G36.out (World.grownBy_alloc w36 (.cells #[.string ⟨#[116, 46, 99, 111, 109]⟩, .int .i64 16, .int .i64 7, .int .i64 0, .string ⟨#[]⟩, .string ⟨#[104, 105]⟩, .string ⟨#[98, 46, 97, 46, 99, 111, 109]⟩, .int .i64 1, .int .i64 9, .int .i64 8, .string ⟨#[]⟩, .string ⟨#[]⟩] 39) (some g)))
        have R37 := Lib.hid (R36.out.alloc (.cells #[.string ⟨#[116, 46, 99, 111, 109]⟩, .int .i64 16, .int .i64 7, .int .i64 0, .string ⟨#[]⟩, .string ⟨#[104, 105]⟩, .string ⟨#[98, 46, 97, 46, 99, 111, 109]⟩, .int .i64 1, .int .i64 9, .int .i64 8, .string ⟨#[]⟩, .string ⟨#[]⟩] 39))
        have Z37 : Hid (w.heap.size < (w36.alloc (.cells #[.string ⟨#[116, 46, 99, 111, 109]⟩, .int .i64 16, .int .i64 7, .int .i64 0, .string ⟨#[]⟩, .string ⟨#[104, 105]⟩, .string ⟨#[98, 46, 97, 46, 99, 111, 109]⟩, .int .i64 1, .int .i64 9, .int .i64 8, .string ⟨#[]⟩, .string ⟨#[]⟩] 39)).heap.size) := by show _ < _; have := Z36.out; simp; omega
        have O37 := Lib.hid (O36.out.alloc (.cells #[.string ⟨#[116, 46, 99, 111, 109]⟩, .int .i64 16, .int .i64 7, .int .i64 0, .string ⟨#[]⟩, .string ⟨#[104, 105]⟩, .string ⟨#[98, 46, 97, 46, 99, 111, 109]⟩, .int .i64 1, .int .i64 9, .int .i64 8, .string ⟨#[]⟩, .string ⟨#[]⟩] 39))
        have S37 : Hid (Sr (w36.alloc (.cells #[.string ⟨#[116, 46, 99, 111, 109]⟩, .int .i64 16, .int .i64 7, .int .i64 0, .string ⟨#[]⟩, .string ⟨#[104, 105]⟩, .string ⟨#[98, 46, 97, 46, 99, 111, 109]⟩, .int .i64 1, .int .i64 9, .int .i64 8, .string ⟨#[]⟩, .string ⟨#[]⟩] 39)) (w36.alloc (.cells #[.string ⟨#[116, 46, 99, 111, 109]⟩, .int .i64 16, .int .i64 7, .int .i64 0, .string ⟨#[]⟩, .string ⟨#[104, 105]⟩, .string ⟨#[98, 46, 97, 46, 99, 111, 109]⟩, .int .i64 1, .int .i64 9, .int .i64 8, .string ⟨#[]⟩, .string ⟨#[]⟩] 39)).heap.size (some ⟨w36.heap.size, 0, none⟩) 2 [(Rec.mk ⟨#[116, 46, 99, 111, 109]⟩ 16 7 0 ⟨#[]⟩ ⟨#[104, 105]⟩), (Rec.mk ⟨#[98, 46, 97, 46, 99, 111, 109]⟩ 1 9 8 ⟨#[]⟩ ⟨#[]⟩)]) := bk_sr0 B37.out rfl
        go_wp2_with (at_builtin; refine AppR.append_recs (w := w36.alloc (.cells #[.string ⟨#[116, 46, 99, 111, 109]⟩, .int .i64 16, .int .i64 7, .int .i64 0, .string ⟨#[]⟩, .string ⟨#[104, 105]⟩, .string ⟨#[98, 46, 97, 46, 99, 111, 109]⟩, .int .i64 1, .int .i64 9, .int .i64 8, .string ⟨#[]⟩, .string ⟨#[]⟩] 39)) rfl (.tmp 32) (.tmp 35) rfl (w.heap.size + 1) gl 3 3 (zb t h false false false) rfl O37.out w36.heap.size 0 2 2 _ [(Rec.mk ⟨#[116, 46, 99, 111, 109]⟩ 16 7 0 ⟨#[]⟩ ⟨#[104, 105]⟩), (Rec.mk ⟨#[98, 46, 97, 46, 99, 111, 109]⟩ 1 9 8 ⟨#[]⟩ ⟨#[]⟩)] rfl S37.out (by omega) (by omega) (by have := Z37.out; omega) ?_)
        intro gq38 cq38 w38 hown hgrow
        have O38 := Lib.hid hown
        have C38 := Lib.hid (cur_far C37.out O37.out hgrow (by have := GL.out; omega))
        have gge : w.heap.size + 1 ≤ gl := (O37.out.lt gl rfl).1
        have G38 := Lib.hid (grown_far G37.out hgrow (by omega))
        have R38 := Lib.hid (R37.out.grown hgrow (fun e => by have h2 : w.heap.size = gl := Option.some.inj e; omega))
        have Z38 : Hid (w.heap.size < w38.heap.size) := Nat.lt_of_lt_of_le Z37.out hgrow.size
        clear hown hgrow gge C37 G37 R37 Z37 O37 B37 S37 C36 G36 R36 Z36 O36
        have OE : Hid (w38.ownsRow (w.heap.size + 1) 39 6 (.slice (some ⟨gq38, 0, none⟩) 5 cq38) 5 (fl (zb t h false false true))) := O38.out
        clear O38
        have O38 := OE
        clear OE
        have SL : Hid (Sr w38 w38.heap.size (some ⟨gq38, 0, none⟩) 5 (zb t h false false true)) := own_sr O38.out
        go_wp2_with fail
        refine (UniqZ.spec gq38 0 5 cq38 (zb t h false false true) w38 SL.out (by omega) (fine HT.out false false true)).mono ?_
        rintro e w39 ⟨S, gs, ms, cs, hsrt, rfl, hlm, hown, hl⟩
        have hS : S = zs t h false false true := hsrt.unique (srt HT.out false false true)
        subst hS
        rw [thin HT.out] at hlm hown
        have HM := Lib.hid hlm
        have O39 := Lib.hid hown
        have C39 := Lib.hid (cur_below C38.out hl)
        have G39 := Lib.hid (grown_below G38.out hl)
        have R39 := Lib.hid (R38.out.below hl R38.out.lt)
        have NG : Hid (gs ≠ w.heap.size) := show _ ≠ _ from fun e => by have h1 := (O39.out.lt gs rfl).1; have h2 := Z38.out; omega
        have BG : Hid (w.heap.size ≤ w38.heap.size) := Nat.le_of_lt Z38.out
        clear hsrt hlm hown hl SL O38 C38 G38 R38 Z38
        have r0 : w39.cell? ⟨w.heap.size, 0, none⟩ = some (.string ⟨#[]⟩) := R39.out.cell 0
        have r1 : w39.cell? ⟨w.heap.size, 1, none⟩ = some (.slice none 0 0) := R39.out.cell 1
        have q0 := R39.out.free 0
        have q1 := R39.out.free 1
        have F := Lib.hid (filZ_bk R39.out ⟨#[99, 111, 109]⟩ (.slice (some ⟨gs, 0, none⟩) ms cs))
        have OF := Lib.hid (own_filZ O39.out NG.out ⟨#[99, 111, 109]⟩ (.slice (some ⟨gs, 0, none⟩) ms cs))
        have CF := Lib.hid (cur_filZ C39.out GL.out ⟨#[99, 111, 109]⟩ (.slice (some ⟨gs, 0, none⟩) ms cs))
        have GF := Lib.hid (grown_filZ G39.out (Nat.le_refl _) ⟨#[99, 111, 109]⟩ (.slice (some ⟨gs, 0, none⟩) ms cs))
        go_wp2
        exact bodyPost_ret (v := .agg #[.string ⟨#[99, 111, 109]⟩, .slice (some ⟨gs, 0, none⟩) ms cs]) (resZ1 rfl F.out rfl) rfl ⟨t, h, false, false, true, gs, ms, cs, HT.out, rfl, HM.out, MapK.own_mono OF.out BG.out, CF.out, GF.out⟩
      | false =>

        have SL : Hid (Sr w35 w35.heap.size (some ⟨gl, 0, none⟩) 3 (zb t h false false false)) := own_sr O35.out
        go_wp2_with fail
        refine (UniqZ.spec gl 0 3 3 (zb t h false false false) w35 SL.out (by omega) (fine HT.out false false false)).mono ?_
        rintro e w40 ⟨S, gs, ms, cs, hsrt, rfl, hlm, hown, hl⟩
        have hS : S = zs t h false false false := hsrt.unique (srt HT.out false false false)
        subst hS
        rw [thin HT.out] at hlm hown
        have HM := Lib.hid hlm
        have O40 := Lib.hid hown
        have C40 := Lib.hid (cur_below C35.out hl)
        have G40 := Lib.hid (grown_below G35.out hl)
        have R40 := Lib.hid (R35.out.below hl R35.out.lt)
        have NG : Hid (gs ≠ w.heap.size) := show _ ≠ _ from fun e => by have h1 := (O40.out.lt gs rfl).1; have h2 := Z35.out; omega
        have BG : Hid (w.heap.size ≤ w35.heap.size) := Nat.le_of_lt Z35.out
        clear hsrt hlm hown hl SL O35 C35 G35 R35 Z35
        have r0 : w40.cell? ⟨w.heap.size, 0, none⟩ = some (.string ⟨#[]⟩) := R40.out.cell 0
        have r1 : w40.cell? ⟨w.heap.size, 1, none⟩ = some (.slice none 0 0) := R40.out.cell 1
        have q0 := R40.out.free 0
        have q1 := R40.out.free 1
        have F := Lib.hid (filZ_bk R40.out ⟨#[99, 111, 109]⟩ (.slice (some ⟨gs, 0, none⟩) ms cs))
        have OF := Lib.hid (own_filZ O40.out NG.out ⟨#[99, 111, 109]⟩ (.slice (some ⟨gs, 0, none⟩) ms cs))
        have CF := Lib.hid (cur_filZ C40.out GL.out ⟨#[99, 111, 109]⟩ (.slice (some ⟨gs, 0, none⟩) ms cs))
        have GF := Lib.hid (grown_filZ G40.out (Nat.le_refl _) ⟨#[99, 111, 109]⟩ (.slice (some ⟨gs, 0, none⟩) ms cs))
        go_wp2
        exact bodyPost_ret (v := .agg #[.string ⟨#[99, 111, 109]⟩, .slice (some ⟨gs, 0, none⟩) ms cs]) (resZ1 rfl F.out rfl) rfl ⟨t, h, false, false, false, gs, ms, cs, HT.out, rfl, HM.out, MapK.own_mono OF.out BG.out, CF.out, GF.out⟩

end Go.Proofs.YtkpcanigdppegaaDoor.ZoneD
