/- What SameRecords does in the program and in the model: whether two lists of records are equal in all fields of all records. Condition: fewer than 400000001 records. -/
import Derived.Test.YtaahaepgabcebaaMemR
import Derived.Laws.StructEq
import Derived.Deep.QuietTactic
import Derived.BigQuiet
namespace Go.Proofs.Ytaahaepgabcebaa.SameR
open Go.RowKit Go.Proofs.Ytaahaepgabcebaa.Mem Go.Proofs.Ytaahaepgabcebaa.MemR

/-- Whether two lists of records are equal. A def, so that no step of a walk opens it. -/
noncomputable def sm (l m : List Rec) : Bool := @decide (l = m) (Classical.propDecidable _)
theorem sm_true {l m : List Rec} (h : l = m) : sm l m = true := @decide_eq_true _ (Classical.propDecidable _) h
theorem sm_false {l m : List Rec} (h : l ≠ m) : sm l m = false := @decide_eq_false _ (Classical.propDecidable _) h
theorem bytes_ne {a b : ByteArray} (h : a ≠ b) : (a.toList == b.toList) = false := by
  cases e : (a.toList == b.toList) with
  | false => rfl
  | true =>
    have := eq_of_beq e
    rw [ByteArray.toList_eq, ByteArray.toList_eq] at this
    exact absurd (by cases a; cases b; congr; exact Array.toList_inj.1 this) h
theorem neq_same (r : Rec) (w : World) : Sem.run Try.prog (binOp .neq 37 (.agg #[.string r.name, .int .i64 r.ty, .int .i64 r.ttl, .int .i64 r.n, .string r.host, .string r.text]) (.agg #[.string r.name, .int .i64 r.ty, .int .i64 r.ttl, .int .i64 r.n, .string r.host, .string r.text])) w = .ok (.bool false) w := by
  have u3 := Try.underlying3
  have a3 := Try.isAgg3
  have z3 := Try.sizeOf3
  have u9 := Try.underlying9
  have a9 := Try.isAgg9
  have z9 := Try.sizeOf9
  have hS : Try.prog.underlying 37 = some (.struct (Try.prog.fieldsOf 37)) := by kernel_rfl
  have hp : Try.prog.stoodInHeld 37 = false := by kernel_rfl
  rw [run_neq_struct, show (10000 : Nat) = 9999 + 1 from rfl, run_equalIn_agg w 9999 37 _ _ hS hp]
  simp only [Program.fieldsOf, Try.underlying37]
  go_simp

theorem neq_diff {r s : Rec} (h : r ≠ s) (w : World) : Sem.run Try.prog (binOp .neq 37 (.agg #[.string r.name, .int .i64 r.ty, .int .i64 r.ttl, .int .i64 r.n, .string r.host, .string r.text]) (.agg #[.string s.name, .int .i64 s.ty, .int .i64 s.ttl, .int .i64 s.n, .string s.host, .string s.text])) w = .ok (.bool true) w := by
  have u3 := Try.underlying3
  have a3 := Try.isAgg3
  have z3 := Try.sizeOf3
  have u9 := Try.underlying9
  have a9 := Try.isAgg9
  have z9 := Try.sizeOf9
  have hS : Try.prog.underlying 37 = some (.struct (Try.prog.fieldsOf 37)) := by kernel_rfl
  have hp : Try.prog.stoodInHeld 37 = false := by kernel_rfl
  rw [run_neq_struct, show (10000 : Nat) = 9999 + 1 from rfl, run_equalIn_agg w 9999 37 _ _ hS hp]
  simp only [Program.fieldsOf, Try.underlying37]
  obtain ⟨n1, t1, l1, m1, h1, x1⟩ := r
  obtain ⟨n2, t2, l2, m2, h2, x2⟩ := s
  simp only
  by_cases c0 : n1 = n2
  · subst c0
    by_cases c1 : t1 = t2
    · subst c1
      by_cases c2 : l1 = l2
      · subst c2
        by_cases c3 : m1 = m2
        · subst c3
          by_cases c4 : h1 = h2
          · subst c4
            by_cases c5 : x1 = x2
            · subst c5; exact absurd rfl h
            · have k := bytes_ne c5
              go_simp
          · have k := bytes_ne c4
            go_simp
        · go_simp
      · go_simp
    · go_simp
  · have k := bytes_ne c0
    go_simp

theorem grd : Try.prog.eqGuardType Try.prog.depth 37 = false := by kernel_rfl

theorem take_same {l m : List Rec} {k : Nat} (h : l.take k = m.take k) (h1 : k < l.length) (h2 : k < m.length) (e : l[k] = m[k]) : l.take (k + 1) = m.take (k + 1) := by
  rw [List.take_succ_eq_append_getElem h1, List.take_succ_eq_append_getElem h2, h, e]
theorem take_all {l m : List Rec} {n : Nat} (h : l.take n = m.take n) (h1 : l.length = n) (h2 : m.length = n) : l = m := by
  rwa [List.take_of_length_le (by omega), List.take_of_length_le (by omega)] at h
theorem at_diff {l m : List Rec} {k : Nat} (h1 : k < l.length) (h2 : k < m.length) (e : l[k] ≠ m[k]) : l ≠ m := fun h => by subst h; exact e rfl

set_option maxHeartbeats 1000000 in
theorem recs (A A' : Option Addr) (n c n' c' : Nat) (l m : List Rec) (w : World) (hs : Sr w w.heap.size A n l) (hs' : Sr w w.heap.size A' n' m) (hn : n ≤ 400000000) (hn' : n' ≤ 400000000) :
    Calls Try.prog 19 #[.slice A n c, .slice A' n' c'] w fun e w' => e = .returned (.bool (sm l m)) ∧ Below w.heap.size w w' := by
  have mixed : Try.prog.follows .mixedOrders = true := by kernel_rfl
  have hg := grd
  have HS := Lib.hid hs
  have HT := Lib.hid hs'
  clear hs hs'
  by_cases hnn : n = n'
  · obtain rfl := hnn
    have hd : ((n : Int) != (n : Int)) = false := by simp
    go_enter Try.func19, Try.ntmps19
    go_wp2
    go_loopw [5] (fun i wr => ∃ k : Nat, k ≤ n ∧ i = .int .i64 k ∧ Hid (∃ q, wr = w.drewN q) ∧ Hid (l.take k = m.take k)) (fun i _ => n - (intOf i).toNat)
    case atStart => exact ⟨0, Nat.zero_le _, rfl, ⟨0, rfl⟩, rfl⟩
    case round =>
      obtain ⟨k, hk, rfl, HW, HK⟩ := hrel
      obtain ⟨q, rfl⟩ := HW.out
      clear HW
      by_cases hlt : k < n
      · obtain ⟨b, off, rfl, hbB, hcs⟩ := HS.out.2 (by omega)
        obtain ⟨b', off', rfl, hbB', hcs'⟩ := HT.out.2 (by omega)
        have hkl : k < l.length := by rw [HS.out.1]; exact hlt
        have hkm : k < m.length := by rw [HT.out.1]; exact hlt
        obtain ⟨e0, e1, e2, e3, e4, e5⟩ := hcs k hkl
        obtain ⟨f0, f1, f2, f3, f4, f5⟩ := hcs' k hkm
        clear hcs hcs'
        by_cases hrs : l[k] = m[k]
        · have HN := Lib.hid (take_same HK.out hkl hkm hrs)
          rw [← hrs] at f0 f1 f2 f3 f4 f5
          clear hrs
          generalize l[k] = r at *
          have hq := neq_same r
          go_wp2
          go_quiet (fail)
          clear hq e0 e1 e2 e3 e4 e5 f0 f1 f2 f3 f4 f5
          go_wp2
          go_roundw
          case rel => exact ⟨k + 1, by omega, by go_num, ⟨_, rfl⟩, HN.out⟩
          case measure => simp [intOf]; omega
        · have HN := Lib.hid (sm_false (at_diff hkl hkm hrs))
          have hq := neq_diff hrs
          clear hrs
          generalize l[k] = r at *
          generalize m[k] = s at *
          go_wp2
          go_quiet (fail)
          clear hq e0 e1 e2 e3 e4 e5 f0 f1 f2 f3 f4 f5
          go_wp2
          go_ret
          exact ⟨by rw [HN.out]; rfl, (drewN_below w q _).trans (drewN_below _ _ _)⟩
      · obtain rfl : n = k := by omega
        have HN := Lib.hid (sm_true (take_all HK.out HS.out.1 HT.out.1))
        go_wp2
        go_ret
        exact ⟨by rw [HN.out]; rfl, drewN_below _ _ _⟩
  · have hd : ((n : Int) != (n' : Int)) = true := by rw [bne_iff_ne]; omega
    have HN := Lib.hid (sm_false (l := l) (m := m) (fun h => hnn (by rw [← HS.out.1, ← HT.out.1, h])))
    clear hnn
    go_enter Try.func19, Try.ntmps19
    go_wp2
    go_ret
    exact ⟨by rw [HN.out]; rfl, Below.refl _ _⟩

end Go.Proofs.Ytaahaepgabcebaa.SameR
