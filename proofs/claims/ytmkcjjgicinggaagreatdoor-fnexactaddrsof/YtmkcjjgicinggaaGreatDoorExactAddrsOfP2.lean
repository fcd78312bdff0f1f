/- A map of slices of records, one for each key: what it is, and that it is so again behind one more record. -/
import Derived.Test.YtmkcjjgicinggaaGreatDoorMemR
import Derived.Laws.StructEq
import Derived.Test.YtmkcjjgicinggaaGreatDoorExactAddrsOfP1
import Derived.WideKeyArgs2
import Derived.Test.YtmkcjjgicinggaaGreatDoorLabSpec
import Derived.Test.YtmkcjjgicinggaaGreatDoorNameMath
import Derived.Test.YtmkcjjgicinggaaGreatDoorShelf
import Derived.Test.YtmkcjjgicinggaaGreatDoorLess
import Derived.Test.YtmkcjjgicinggaaGreatDoorForMath
import Derived.Lib.QuietBelow
import Derived.Test.YtmkcjjgicinggaaGreatDoorCopyR
/- Two records that are the same, compared with == : true, and nothing is turned. -/
namespace Go.Proofs.YtmkcjjgicinggaaGreatDoor.EqlR
open Go.RowKit Go.Proofs.YtmkcjjgicinggaaGreatDoor.Mem Go.Proofs.YtmkcjjgicinggaaGreatDoor.MemR

theorem eql_same (r : Rec) (w : World) : Sem.run Tryz.prog (binOp .eql 93 (.agg #[.string r.name, .int .i64 r.ty, .int .i64 r.ttl, .int .i64 r.n, .string r.host, .string r.text]) (.agg #[.string r.name, .int .i64 r.ty, .int .i64 r.ttl, .int .i64 r.n, .string r.host, .string r.text])) w = .ok (.bool true) w := by
  have u3 := Tryz.underlying3
  have a3 := Tryz.isAgg3
  have z3 := Tryz.sizeOf3
  have u9 := Tryz.underlying9
  have a9 := Tryz.isAgg9
  have z9 := Tryz.sizeOf9
  have hS : Tryz.prog.underlying 93 = some (.struct (Tryz.prog.fieldsOf 93)) := by kernel_rfl
  have hp : Tryz.prog.stoodInHeld 93 = false := by kernel_rfl
  rw [run_eql_struct, show (10000 : Nat) = 9999 + 1 from rfl, run_equalIn_agg w 9999 93 _ _ hS hp]
  simp only [Program.fieldsOf, Tryz.underlying93]
  go_simp

theorem bytes_ne {a b : ByteArray} (h : a ≠ b) : (a.toList == b.toList) = false := by
  cases e : (a.toList == b.toList) with
  | false => rfl
  | true =>
    have := eq_of_beq e
    rw [ByteArray.toList_eq, ByteArray.toList_eq] at this
    exact absurd (by cases a; cases b; congr; exact Array.toList_inj.1 this) h
theorem eql_diff {r s : Rec} (h : r ≠ s) (w : World) : Sem.run Tryz.prog (binOp .eql 93 (.agg #[.string r.name, .int .i64 r.ty, .int .i64 r.ttl, .int .i64 r.n, .string r.host, .string r.text]) (.agg #[.string s.name, .int .i64 s.ty, .int .i64 s.ttl, .int .i64 s.n, .string s.host, .string s.text])) w = .ok (.bool false) w := by
  have u3 := Tryz.underlying3
  have a3 := Tryz.isAgg3
  have z3 := Tryz.sizeOf3
  have u9 := Tryz.underlying9
  have a9 := Tryz.isAgg9
  have z9 := Tryz.sizeOf9
  have hS : Tryz.prog.underlying 93 = some (.struct (Tryz.prog.fieldsOf 93)) := by kernel_rfl
  have hp : Tryz.prog.stoodInHeld 93 = false := by kernel_rfl
  rw [run_eql_struct, show (10000 : Nat) = 9999 + 1 from rfl, run_equalIn_agg w 9999 93 _ _ hS hp]
  simp only [Program.fieldsOf, Tryz.underlying93]
  obtain ⟨n1, t1, l1, m1, h1, x1⟩ := r
  obtain ⟨n2, t2, l2, m2, h2, x2⟩ := s
  simp only
  by_cases c0 : n1 = n2
  · subst c0
    by_cases c1 : t1 = t2
    · subst c1
      by_cases c2 : l1 = l2
      · subst c2
        by_cases c3 : m1 = m2
        · subst c3
          by_cases c4 : h1 = h2
          · subst c4
            by_cases c5 : x1 = x2
            · subst c5; exact absurd rfl h
            · have k := bytes_ne c5
              go_simp
          · have k := bytes_ne c4
            go_simp
        · go_simp
      · go_simp
    · go_simp
  · have k := bytes_ne c0
    go_simp

theorem grd : Tryz.prog.eqGuardType Tryz.prog.depth 93 = false := by kernel_rfl
end Go.Proofs.YtmkcjjgicinggaaGreatDoor.EqlR

/- The keys of the program's maps: texts, ints, questions, records: of which the laws on maps may be asked. -/
namespace Go.Proofs.YtmkcjjgicinggaaGreatDoor.KeyT
open Go.MapKept Go.RowKit Go.Proofs.YtmkcjjgicinggaaGreatDoor.Mem Go.Proofs.YtmkcjjgicinggaaGreatDoor.MemR Go.Proofs.YtmkcjjgicinggaaGreatDoor.SetMath Go.Proofs.YtmkcjjgicinggaaGreatDoor.MemQ Go.Proofs.YtmkcjjgicinggaaGreatDoor.MapK

/-- A text as a key. -/
def KS (v : Value) : Prop := ∃ s : ByteArray, v = .string s

/-- An int as a key. -/
def KI (v : Value) : Prop := ∃ x : Int, v = .int .i64 x

/-- A question as a key. -/
def KQ (v : Value) : Prop := ∃ q : Key, v = qv q

/-- A record as a key. -/
def KR (v : Value) : Prop := ∃ r : Rec, v = .agg #[.string r.name, .int .i64 r.ty, .int .i64 r.ttl, .int .i64 r.n, .string r.host, .string r.text]

/-- Keys that are compared at once. -/
theorem plain {P : Program} {k : TypeId} {S : Value → Prop} (d : TypeDesc) (hd : P.underlying k = some d) (h : ∀ v, S v → IsKey d v) : MapK.KeyT P k S where
  check w em v hv := run_checkKey hd (h v hv) em 9999
  stays w v hv := run_keyThatStays (h v hv)
  find w x hx es hes := by
    rcases findNow_spec (h x hx) es 0 (fun e he => h _ (hes e he)) with ⟨h1, h2⟩ | ⟨j, e, h1, h2, h3⟩
    · exact Or.inl ⟨run_findKey hd h1, h2⟩
    · exact Or.inr ⟨j, e, by rw [run_findKey hd h1, Nat.zero_add], h2, h3⟩

theorem strings : MapK.KeyT Tryz.prog 9 KS := plain .string Tryz.underlying9 (by rintro v ⟨s, rfl⟩; trivial)

theorem ints : MapK.KeyT Tryz.prog 3 KI := plain (.int .i64) Tryz.underlying3 (by rintro v ⟨s, rfl⟩; exact rfl)

theorem bytes_ne {a b : ByteArray} (h : a ≠ b) : (a.toList == b.toList) = false := by
  cases e : (a.toList == b.toList) with
  | false => rfl
  | true =>
    have := eq_of_beq e
    rw [ByteArray.toList_eq, ByteArray.toList_eq] at this
    exact absurd (by cases a; cases b; congr; exact Array.toList_inj.1 this) h

theorem quest_same (q : Key) (w : World) : Sem.run Tryz.prog (Op.equal 29 (qv q) (qv q)) w = .ok true w := by
  have u3 := Tryz.underlying3
  have a3 := Tryz.isAgg3
  have z3 := Tryz.sizeOf3
  have u9 := Tryz.underlying9
  have a9 := Tryz.isAgg9
  have z9 := Tryz.sizeOf9
  have hS : Tryz.prog.underlying 29 = some (.struct (Tryz.prog.fieldsOf 29)) := by kernel_rfl
  have hp : Tryz.prog.stoodInHeld 29 = false := by kernel_rfl
  unfold qv Op.equal Op.maxDepth
  rw [show (10000 : Nat) = 9999 + 1 from rfl, run_equalIn_agg w 9999 29 _ _ hS hp]
  simp only [Program.fieldsOf, Tryz.underlying29]
  go_simp

theorem quest_diff {q p : Key} (h : q ≠ p) (w : World) : Sem.run Tryz.prog (Op.equal 29 (qv q) (qv p)) w = .ok false w := by
  have u3 := Tryz.underlying3
  have a3 := Tryz.isAgg3
  have z3 := Tryz.sizeOf3
  have u9 := Tryz.underlying9
  have a9 := Tryz.isAgg9
  have z9 := Tryz.sizeOf9
  have hS : Tryz.prog.underlying 29 = some (.struct (Tryz.prog.fieldsOf 29)) := by kernel_rfl
  have hp : Tryz.prog.stoodInHeld 29 = false := by kernel_rfl
  unfold qv Op.equal Op.maxDepth
  rw [show (10000 : Nat) = 9999 + 1 from rfl, run_equalIn_agg w 9999 29 _ _ hS hp]
  simp only [Program.fieldsOf, Tryz.underlying29]
  obtain ⟨n1, t1⟩ := q
  obtain ⟨n2, t2⟩ := p
  simp only
  by_cases c0 : n1 = n2
  · subst c0
    by_cases c1 : t1 = t2
    · subst c1; exact absurd rfl h
    · go_simp
  · have k := bytes_ne c0
    go_simp

theorem rec_same (r : Rec) (w : World) : Sem.run Tryz.prog (Op.equal 93 (.agg #[.string r.name, .int .i64 r.ty, .int .i64 r.ttl, .int .i64 r.n, .string r.host, .string r.text]) (.agg #[.string r.name, .int .i64 r.ty, .int .i64 r.ttl, .int .i64 r.n, .string r.host, .string r.text])) w = .ok true w := by
  have h := EqlR.eql_same r w
  rw [run_eql_struct] at h
  unfold Op.equal Op.maxDepth
  revert h
  cases Sem.run Tryz.prog (Op.equalIn 10000 93 (.agg #[.string r.name, .int .i64 r.ty, .int .i64 r.ttl, .int .i64 r.n, .string r.host, .string r.text]) (.agg #[.string r.name, .int .i64 r.ty, .int .i64 r.ttl, .int .i64 r.n, .string r.host, .string r.text])) w with
  | ok b w' => intro h; simp [Result.andThen] at h; rw [h.1, h.2]
  | halt h w' => intro h; simp [Result.andThen] at h

theorem rec_diff {r s : Rec} (h : r ≠ s) (w : World) : Sem.run Tryz.prog (Op.equal 93 (.agg #[.string r.name, .int .i64 r.ty, .int .i64 r.ttl, .int .i64 r.n, .string r.host, .string r.text]) (.agg #[.string s.name, .int .i64 s.ty, .int .i64 s.ttl, .int .i64 s.n, .string s.host, .string s.text])) w = .ok false w := by
  have h := EqlR.eql_diff h w
  rw [run_eql_struct] at h
  unfold Op.equal Op.maxDepth
  revert h
  cases Sem.run Tryz.prog (Op.equalIn 10000 93 (.agg #[.string r.name, .int .i64 r.ty, .int .i64 r.ttl, .int .i64 r.n, .string r.host, .string r.text]) (.agg #[.string s.name, .int .i64 s.ty, .int .i64 s.ttl, .int .i64 s.n, .string s.host, .string s.text])) w with
  | ok b w' => intro h; simp [Result.andThen] at h; rw [h.1, h.2]
  | halt h w' => intro h; simp [Result.andThen] at h

theorem bits_self (s : ByteArray) (n : Nat) : Instr.sameBits n (.string s) (.string s) = true := sameBits_self (d := .string) (k := .string s) trivial n

theorem bits_int (x : Int) (n : Nat) : Instr.sameBits n (.int .i64 x) (.int .i64 x) = true := sameBits_self (d := .int .i64) (k := .int .i64 x) rfl n

theorem bits_agg (xs : List Value) (n : Nat) (h : ∀ x ∈ xs, Instr.sameBits n x x = true) : Instr.sameBits (n + 1) (.agg xs.toArray) (.agg xs.toArray) = true := by
  rw [Instr.sameBits]
  simp only [beq_self_eq_true, Bool.true_and]
  rw [List.all_eq_true]
  rintro ⟨x, y⟩ hxy
  have e : x = y ∧ x ∈ xs := by
    clear h
    induction xs with
    | nil => cases hxy
    | cons a xs ih =>
      rw [List.zip_cons_cons] at hxy
      rcases List.mem_cons.1 hxy with h1 | h1
      · cases h1; exact ⟨rfl, by simp⟩
      · obtain ⟨h2, h3⟩ := ih h1; exact ⟨h2, by simp [h3]⟩
  obtain ⟨rfl, hm⟩ := e
  exact h x hm

theorem stays_agg {P : Program} (xs : List Value) (w : World) (h : ∀ x ∈ xs, Instr.sameBits 9999 x x = true) : (Instr.keyThatStays (.agg xs.toArray) (.agg xs.toArray)).run P w = .ok (.agg xs.toArray) w := by
  have := bits_agg xs 9999 h
  simp only [Instr.keyThatStays, this, if_true]
  rfl

theorem check_string (w : World) (em : Bool) (s : ByteArray) (n : Nat) : (Instr.checkKey em (n + 1) 9 (.string s)).run Tryz.prog w = .ok () w := run_checkKey Tryz.underlying9 (k := .string s) trivial em n

theorem check_int (w : World) (em : Bool) (x : Int) (n : Nat) : (Instr.checkKey em (n + 1) 3 (.int .i64 x)).run Tryz.prog w = .ok () w := run_checkKey Tryz.underlying3 (k := .int .i64 x) rfl em n

set_option maxRecDepth 100000 in
theorem quest_check (w : World) (em : Bool) (q : Key) : (Instr.checkKey em 10000 29 (qv q)).run Tryz.prog w = .ok () w := by
  have k0 : (Instr.checkKey em 9999 9 (.string q.name)).run Tryz.prog w = .ok () w := check_string w em q.name 9998
  have k1 : (Instr.checkKey em 9999 3 (.int .i64 q.ty)).run Tryz.prog w = .ok () w := check_int w em q.ty 9998
  have u3 := Tryz.underlying3
  have a3 := Tryz.isAgg3
  have z3 := Tryz.sizeOf3
  have u9 := Tryz.underlying9
  have a9 := Tryz.isAgg9
  have z9 := Tryz.sizeOf9
  rw [show (10000 : Nat) = 9999 + 1 from rfl, Instr.checkKey]
  unfold qv
  simp only [Sem.run_bind, run_underlying Tryz.underlying29, Result.andThen]
  rw [← Array.forIn_toList]
  generalize 9999 = N at *
  go_simp

set_option maxRecDepth 100000 in
theorem rec_check (w : World) (em : Bool) (r : Rec) : (Instr.checkKey em 10000 93 (.agg #[.string r.name, .int .i64 r.ty, .int .i64 r.ttl, .int .i64 r.n, .string r.host, .string r.text])).run Tryz.prog w = .ok () w := by
  have k0 : (Instr.checkKey em 9999 9 (.string r.name)).run Tryz.prog w = .ok () w := check_string w em r.name 9998
  have k1 : (Instr.checkKey em 9999 3 (.int .i64 r.ty)).run Tryz.prog w = .ok () w := check_int w em r.ty 9998
  have k2 : (Instr.checkKey em 9999 3 (.int .i64 r.ttl)).run Tryz.prog w = .ok () w := check_int w em r.ttl 9998
  have k3 : (Instr.checkKey em 9999 3 (.int .i64 r.n)).run Tryz.prog w = .ok () w := check_int w em r.n 9998
  have k4 : (Instr.checkKey em 9999 9 (.string r.host)).run Tryz.prog w = .ok () w := check_string w em r.host 9998
  have k5 : (Instr.checkKey em 9999 9 (.string r.text)).run Tryz.prog w = .ok () w := check_string w em r.text 9998
  have u3 := Tryz.underlying3
  have a3 := Tryz.isAgg3
  have z3 := Tryz.sizeOf3
  have u9 := Tryz.underlying9
  have a9 := Tryz.isAgg9
  have z9 := Tryz.sizeOf9
  rw [show (10000 : Nat) = 9999 + 1 from rfl, Instr.checkKey]
  simp only [Sem.run_bind, run_underlying Tryz.underlying93, Result.andThen]
  rw [← Array.forIn_toList]
  generalize 9999 = N at *
  go_simp

theorem qv_ne {q p : Key} (h : qv q ≠ qv p) : q ≠ p := fun e => h (by rw [e])

theorem qv_inj {q p : Key} (h : qv q = qv p) : q = p := by
  obtain ⟨a, b⟩ := q
  obtain ⟨c, d⟩ := p
  simp [qv] at h
  rw [h.1, h.2]

theorem rv_inj {r s : Rec} (h : (.agg #[.string r.name, .int .i64 r.ty, .int .i64 r.ttl, .int .i64 r.n, .string r.host, .string r.text] : Value) = .agg #[.string s.name, .int .i64 s.ty, .int .i64 s.ttl, .int .i64 s.n, .string s.host, .string s.text]) : r = s := by
  obtain ⟨a, b, c, d, e, f⟩ := r
  obtain ⟨a', b', c', d', e', f'⟩ := s
  simp at h
  obtain ⟨rfl, rfl, rfl, rfl, rfl, rfl⟩ := h
  rfl

theorem quests : MapK.KeyT Tryz.prog 29 KQ := by
  refine KeyT.struct _ Tryz.underlying29 (fun _ _ _ => rfl) ?_ ?_ ?_ ?_
  · rintro w em v ⟨q, rfl⟩; exact quest_check w em q
  · rintro w x ⟨q, rfl⟩; exact quest_same q w
  · rintro w x y ⟨q, rfl⟩ ⟨p, rfl⟩ h; exact quest_diff (qv_ne h) w
  · rintro w v ⟨q, rfl⟩
    refine stays_agg [.string q.name, .int .i64 q.ty] w ?_
    simp only [List.mem_cons, List.not_mem_nil, or_false]
    rintro x (rfl | rfl)
    · exact bits_self _ _
    · exact bits_int _ _

theorem recs : MapK.KeyT Tryz.prog 93 KR := by
  refine KeyT.struct _ Tryz.underlying93 (fun _ _ _ => rfl) ?_ ?_ ?_ ?_
  · rintro w em v ⟨r, rfl⟩; exact rec_check w em r
  · rintro w x ⟨r, rfl⟩; exact rec_same r w
  · rintro w x y ⟨r, rfl⟩ ⟨s, rfl⟩ h; exact rec_diff (fun e => h (by rw [e])) w
  · rintro w v ⟨r, rfl⟩
    refine stays_agg [.string r.name, .int .i64 r.ty, .int .i64 r.ttl, .int .i64 r.n, .string r.host, .string r.text] w ?_
    simp only [List.mem_cons, List.not_mem_nil, or_false]
    rintro x (rfl | rfl | rfl | rfl | rfl | rfl) <;> first | exact bits_self _ _ | exact bits_int _ _
end Go.Proofs.YtmkcjjgicinggaaGreatDoor.KeyT

/- What the program's Under does, by the library's proved contract of strings.HasSuffix: it tells whether the labels of its second text end those of its first. Condition: at most 400000000 bytes each. -/
namespace Go.Proofs.YtmkcjjgicinggaaGreatDoor.UnderImpl
open Go.RowKit Go.Proofs.YtmkcjjgicinggaaGreatDoor.Mem Go.Proofs.YtmkcjjgicinggaaGreatDoor.MemS Go.Proofs.YtmkcjjgicinggaaGreatDoor.Split Go.Proofs.YtmkcjjgicinggaaGreatDoor.NameMath

theorem hasSuffix (s p : ByteArray) (w : World) (hs : s.size ≤ 400000000) : Calls Tryz.prog 58 #[.string s, .string p] w fun e w' => e = .returned (.bool (Lib.hasSuffix s.data.toList p.data.toList)) ∧ w' = w :=
  Go.Proofs.Any.strings_HasSuffix Tryz.lays100 s p w (by omega)

set_option maxHeartbeats 1000000 in
theorem impl (a b : ByteArray) (w : World) (ha : a.size ≤ 400000000) (hb : b.size ≤ 400000000) : Calls Tryz.prog 12 #[.string a, .string b] w fun e w' => e = .returned (.bool (Un a b)) ∧ w = w' := by
  by_cases h0 : b.size = 0
  · have HU := Lib.hid (un_root (a := a) h0)
    obtain rfl : b = ⟨#[]⟩ := text_ext (List.eq_nil_of_length_eq_zero (by simpa using h0))
    clear h0 hb
    go_enter Tryz.func12, Tryz.ntmps12
    go_wp2
    go_ret
    rw [HU.out]
    exact ⟨rfl, rfl⟩
  · have hne : b.toList.isEmpty = false := Labels.not_empty b h0
    by_cases h : a = b
    · subst h
      have HU := Lib.hid (un_self a)
      clear h0
      go_enter Tryz.func12, Tryz.ntmps12
      go_wp2
      go_ret
      rw [HU.out]
      exact ⟨rfl, rfl⟩
    · have HU : Hid (Un a b = Lib.hasSuffix a.data.toList ((⟨#[46]⟩ : ByteArray) ++ b).data.toList) := by
        show _ = _
        rw [un_else h0 h, text_add]
        rfl
      have hq : (a.toList == b.toList) = false := by
        rw [beq_eq_false_iff_ne, ByteArray.toList_eq, ByteArray.toList_eq]
        exact fun e => h (text_ext e)
      have hq2 : (a.data.toList == b.data.toList) = false := by
        rw [beq_eq_false_iff_ne]
        exact fun e => h (text_ext e)
      clear h0 h
      have HS := Lib.hid (fun p w => hasSuffix a p w ha)
      go_enter Tryz.func12, Tryz.ntmps12
      go_wp2_with fail
      refine (HS.out _ w).mono ?_
      rintro e w1 ⟨rfl, rfl⟩
      go_wp2
      go_ret
      rw [HU.out]
      exact ⟨rfl, rfl⟩
end Go.Proofs.YtmkcjjgicinggaaGreatDoor.UnderImpl

/- What lowest does: of the names that are keys of a map it finds the one with the most labels that a name is under, and gives its place. Conditions: fewer than 100000001 entries, at most 400000000 bytes in each name; the library's variable internal/bytealg.MaxLen holds an int. -/
namespace Go.Proofs.YtmkcjjgicinggaaGreatDoor.GsLow
open Go.RowKit Go.Sort Go.Proofs.YtmkcjjgicinggaaGreatDoor.Mem Go.Proofs.YtmkcjjgicinggaaGreatDoor.MemS Go.Proofs.YtmkcjjgicinggaaGreatDoor.MapK Go.Proofs.YtmkcjjgicinggaaGreatDoor.Labels Go.Proofs.YtmkcjjgicinggaaGreatDoor.GsDef Go.Proofs.YtmkcjjgicinggaaGreatDoor.GsKeys Go.Proofs.YtmkcjjgicinggaaGreatDoor.NameMath Go.Proofs.YtmkcjjgicinggaaGreatDoor.LessMath Go.Proofs.YtmkcjjgicinggaaGreatDoor.ForMath Go.Proofs.YtmkcjjgicinggaaGreatDoor.KeyT

/-- A text that is not too long. -/
def cut (s : ByteArray) : ByteArray := if s.size ≤ 400000000 then s else ⟨#[]⟩

theorem cut_size (s : ByteArray) : (cut s).size ≤ 400000000 := by
  unfold cut
  split
  · assumption
  · exact Nat.zero_le _

theorem cut_self {s : ByteArray} (h : s.size ≤ 400000000) : cut s = s := if_pos h

/-- How a name lies in a cell. -/
def ec (s : ByteArray) : Value := .string (cut s)

/-- Which of two names is less. -/
def lc (a b : ByteArray) : Bool := Ls (cut a) (cut b)

theorem swo : SWO lc where
  irrefl x := ls_irr _
  trans x y z h k := name_ord.tr _ _ _ h k
  ntrans x y z h k := by
    unfold lc at *
    cases e : Ls (cut x) (cut z) with
    | false => rfl
    | true =>
      by_cases hxy : cut x = cut y
      · rw [← hxy] at k; rw [k] at e; cases e
      · have h1 := ls_tot hxy h
        have h2 := name_ord.tr _ _ _ h1 e
        rw [k] at h2
        cases h2

set_option maxHeartbeats 4000000 in
set_option maxRecDepth 100000 in
theorem less (blk Bs n cap : Nat) (G : Nat → ByteArray) (W : World) (hE : Env W) (hb : W.cell? ⟨Bs, 0, none⟩ = some (.slice (some ⟨blk, 0, none⟩) n cap)) (hc : ∀ t, t < n → W.cell? ⟨blk, t, none⟩ = some (.string (G t))) (hG : ∀ t, (G t).size ≤ 400000000) (i j : Nat) (hi : i < n) (hj : j < n) :
    Calls Tryz.prog 111 #[.int .i64 i, .int .i64 j, .pointer (some ⟨Bs, 0, none⟩)] W fun e w' => e = .returned (.bool (Ls (G i) (G j))) ∧ Below W.heap.size W w' := by
  have mixed : Tryz.prog.follows .mixedOrders = true := by kernel_rfl
  have ci := hc i hi
  have cj := hc j hj
  have HC := Lib.hid (fun (W' : World) (h : Below W.heap.size W W') => Less.impl (G i) (G j) W' (hE.below h) (hG i) (hG j))
  clear hc hG hE
  generalize G i = x at *
  generalize G j = y at *
  go_enter Tryz.func111, Tryz.ntmps111
  go_wp2_with fail
  have x0 : ∀ d os, (Sort.grow (redrawn W d) os).cell? _ = some _ := cell_regrown hb
  have x1 : ∀ d os, (Sort.grow (redrawn W d) os).cell? _ = some _ := cell_regrown ci
  have x2 : ∀ d os, (Sort.grow (redrawn W d) os).cell? _ = some _ := cell_regrown cj
  refine wp_region_quiet_below (by assumption) (by kernel_rfl) ?_
  repeat (quiet_step (first | (go_at_call 112; exact Calls.regrown_of (HC.out _ (below_regrown _ _ _)))))
  refine wpQuiet_nil ?_
  intro w2 hw2
  have L2 := Lib.hid (show Below W.heap.size W w2 by obtain ⟨p, rfl⟩ := hw2; exact below_regrown _ _ _)
  clear hw2 x0 x1 x2
  go_wp2
  go_ret
  exact ⟨rfl, L2.out⟩

theorem Env.of_grown {w w' : World} {r : Option Nat} (h : Env w) (hg : w.grownBy w' r) (hn : some 0 ≠ r) : Env w' := by
  obtain ⟨m, hm⟩ := h
  exact ⟨m, hg.cell hm hn⟩

/-- What the loop has found among the first k. -/
def LwP (G : Nat → ByteArray) (k : Nat) (v : ByteArray → Int) (nm : ByteArray) (r : Int) : Prop :=
  (r = -1 ∧ ∀ i, i < k → Un nm (G i) = false) ∨ ∃ j, j < k ∧ Un nm (G j) = true ∧ r = v (G j) ∧ ∀ i, j < i → i < k → Un nm (G i) = false

section
variable {G : Nat → ByteArray} {k n : Nat} {v : ByteArray → Int} {nm : ByteArray} {r : Int} {K : List ByteArray}
theorem lwp_zero : LwP G 0 v nm (-1) := Or.inl ⟨rfl, fun _ h => absurd h (Nat.not_lt_zero _)⟩

theorem lwp_hit (h : Un nm (G k) = true) : LwP G (k + 1) v nm (v (G k)) := Or.inr ⟨k, Nat.lt_succ_self _, h, rfl, fun _ h1 h2 => by omega⟩

theorem lwp_skip (hp : LwP G k v nm r) (h : Un nm (G k) = false) : LwP G (k + 1) v nm r := by
  rcases hp with ⟨h1, h2⟩ | ⟨j, h1, h2, h3, h4⟩
  · exact Or.inl ⟨h1, fun i hi => by rcases Nat.lt_succ_iff_lt_or_eq.1 hi with h' | rfl; exact h2 i h'; exact h⟩
  · exact Or.inr ⟨j, by omega, h2, h3, fun i hi hk => by rcases Nat.lt_succ_iff_lt_or_eq.1 hk with h' | rfl; exact h4 i hi h'; exact h⟩

theorem lwp_end (hK : ∀ a, a ∈ K ↔ ∃ t, t < n ∧ G t = a) (hinj : ∀ i j, i < n → j < n → G i = G j → i = j) (hs : ∀ i j, i < j → j < n → Ls (G j) (G i) = false) (h : LwP G n v nm r) : Lw K v nm r := by
  rcases h with ⟨h1, h2⟩ | ⟨j, h1, h2, h3, h4⟩
  · refine Or.inl ⟨h1, fun a ha => ?_⟩
    obtain ⟨t, ht, rfl⟩ := (hK a).1 ha
    exact h2 t ht
  · refine Or.inr ⟨G j, (hK _).2 ⟨j, h1, rfl⟩, h2, h3, fun a ha hu => ?_⟩
    obtain ⟨t, ht, rfl⟩ := (hK a).1 ha
    rcases Nat.lt_trichotomy t j with hlt | rfl | hgt
    · have h5 := hs t j hlt h1
      have hne : G j ≠ G t := fun e => by have := hinj j t h1 ht e; omega
      exact Nat.le_of_lt (chain hu h2 (ls_tot hne h5))
    · exact Nat.le_refl _
    · rw [h4 t hgt ht] at hu
      cases hu
end

/-- The entries of a map from names to places. -/
def en (K : List ByteArray) (v : ByteArray → Int) : List (Value × Value) := K.map fun a => (.string a, .int .i64 (v a))

theorem en_key (K : List ByteArray) (v : ByteArray → Int) : ∀ p ∈ en K v, KS p.1 := by
  intro p hp
  obtain ⟨a, _, rfl⟩ := List.mem_map.1 hp
  exact ⟨a, rfl⟩

theorem en_nodup {K : List ByteArray} {v : ByteArray → Int} (h : K.Nodup) : ((en K v).map Prod.fst).Nodup := by
  unfold en
  rw [List.map_map]
  exact List.pairwise_map.2 (h.imp fun h e => h (by simpa using e))

theorem en_in {K : List ByteArray} {v : ByteArray → Int} {a : ByteArray} (h : a ∈ K) : (.string a, .int .i64 (v a)) ∈ en K v := List.mem_map.2 ⟨a, h, rfl⟩

theorem en_out {K : List ByteArray} {v : ByteArray → Int} {a : ByteArray} (h : a ∉ K) : ∀ p ∈ en K v, p.1 ≠ .string a := by
  intro p hp e
  obtain ⟨b, hb, rfl⟩ := List.mem_map.1 hp
  simp only [Value.string.injEq] at e
  exact h (e ▸ hb)

set_option maxHeartbeats 8000000 in
set_option maxRecDepth 100000 in
theorem low (nm : ByteArray) (b : Nat) (K : List ByteArray) (v : ByteArray → Int) (w : World) (he : Env w) (h : Mp w b (en K v)) (nd : K.Nodup) (hz : ∀ a ∈ K, a.size ≤ 400000000) (hl : K.length ≤ 100000000) (hnm : nm.size ≤ 400000000) :
    Calls Tryz.prog 50 #[.map (some b), .string nm] w fun e w' => ∃ r : Int, e = .returned (.int .i64 r) ∧ Lw K v nm r ∧ Below w.heap.size w w' := by
  have HKe := Lib.hid (keys (some b) w)
  have L1 : Hid (Below w.heap.size w (w.alloc (.cells #[.map (some b)] 84))) := (Below.refl _ _).alloc (Nat.le_refl _) _
  have M1 := Lib.hid (h.alloc (.cells #[.map (some b)] 84))
  have HCo := Lib.hid (collect (Bm := w.heap.size) (v := fun a => .int .i64 (v a)) M1.out nd hz hl (by simp))
  have HE := Lib.hid he
  have ND := Lib.hid nd
  have HZ := Lib.hid hz
  have EK := Lib.hid (en_key K v)
  have EN := Lib.hid (en_nodup (v := v) nd)
  have hbw := h.lt
  have HN := Lib.hid hnm
  clear h he nd hz hnm
  go_enter Tryz.func50, Tryz.ntmps50
  go_wp2_with fail
  refine HKe.out.mono ?_
  rintro e w1 ⟨rfl, rfl⟩
  go_wp2_with fail
  refine HCo.out.mono ?_
  rintro e w2 ⟨x, L, rfl, hperm, ⟨hrow, _⟩, hl2⟩
  have L2 := Lib.hid (L1.out.trans (hl2.mono L1.out.size))
  have M2 := Lib.hid (M1.out.below hl2 M1.out.lt)
  have hL : L.length ≤ 100000000 := by rw [hperm.length_eq]; exact hl
  have hlow : w.heap.size < w2.heap.size := Nat.lt_of_lt_of_le (by simp) hl2.size
  clear HKe HCo L1 M1
  rcases hrow.2 with ⟨rfl, h0⟩ | ⟨g, cap, cur, rfl, hg, hgg, hcap, _, hcs, htk⟩
  · obtain rfl : L = [] := List.eq_nil_of_length_eq_zero h0
    obtain rfl : K = [] := hperm.nil_eq.symm
    clear hperm hrow hl2 h0
    have C := Lib.hid (GsSlice.none_nil (.func 111) #[] #[.pointer (some ⟨w2.heap.size, 0, none⟩)])
    have B3 : Hid (Bk (w2.alloc (.cells #[.slice none 0 0] 39)) w2.heap.size 39 [.slice none 0 0]) := heap_alloc_new w2 _
    have L3 := Lib.hid (L2.out.alloc L2.out.size (.cells #[.slice none 0 0] 39))
    go_upto_region 2 with (fail)
    generalize w2.alloc (.cells #[.slice none 0 0] 39) = w3 at *
    have c0 : w3.cell? ⟨w2.heap.size, 0, none⟩ = some (.slice none 0 0) := B3.out.cell 0
    go_wp2_with fail
    refine (C.out w3).mono ?_
    rintro e w4 ⟨rfl, hl4⟩
    have L4 := Lib.hid (L3.out.trans (hl4.mono L3.out.size))
    have B5 := Lib.hid (B3.out.below hl4 B3.out.lt)
    clear hl4 c0 L3 B3 C
    have c0 : w4.cell? ⟨w2.heap.size, 0, none⟩ = some (.slice none 0 0) := B5.out.cell 0
    go_wp2
    go_loop [6, 18] (fun a i => a = .int .i64 (-1) ∧ i = .int .i64 0) (fun _ _ => 0)
    case atStart => exact ⟨rfl, rfl⟩
    case round =>
      obtain ⟨rfl, rfl⟩ := hrel
      go_wp2
      go_ret
      exact ⟨-1, rfl, Or.inl ⟨rfl, fun a ha => by cases ha⟩, L4.out⟩
  · obtain ⟨r, hb0, _, _⟩ := bk_of_owns hrow
    have HPm := Lib.hid hperm
    have hgw : w.heap.size + 1 ≤ g := by simpa using hg
    have hg2 : g < w2.heap.size := hb0.lt
    clear hrow hg hgg hcap hcs htk hperm hl2
    generalize hn : L.length = n at *
    have HLn := Lib.hid hn
    clear hn
    have B3 : Hid (Bk (w2.alloc (.cells #[.slice (some ⟨g, 0, none⟩) n cap] 39)) w2.heap.size 39 [.slice (some ⟨g, 0, none⟩) n cap]) := heap_alloc_new w2 _
    have R3 := Lib.hid (hb0.alloc (.cells #[.slice (some ⟨g, 0, none⟩) n cap] 39))
    have L3 := Lib.hid (L2.out.alloc L2.out.size (.cells #[.slice (some ⟨g, 0, none⟩) n cap] 39))
    have M3 := Lib.hid (M2.out.alloc (.cells #[.slice (some ⟨g, 0, none⟩) n cap] 39))
    clear hb0 L2 M2
    go_upto_region 2 with (fail)
    generalize w2.alloc (.cells #[.slice (some ⟨g, 0, none⟩) n cap] 39) = w3 at *
    have HE3 := Lib.hid ((show Env w3 from by obtain ⟨m, hm⟩ := HE.out; exact ⟨m, (L3.out.cell (p := ⟨0, 0, none⟩) (World.block_lt_of_cell? _ _ hm)).trans hm⟩))
    have NG : Hid (some w2.heap.size ≠ some g) := fun e => by have := Option.some.inj e; omega
    have hH : Holds ec w3 g 0 L.toArray := fun j hj => by
      have hj' : j < L.length := by simpa using hj
      have hm : L[j] ∈ K := HPm.out.subset (List.getElem_mem hj')
      refine ⟨?_, R3.out.free _⟩
      rw [Nat.zero_add, R3.out.cell, List.getElem?_append_left (by simpa using hj'), tv_get L j hj', getElem!_pos L.toArray j hj, List.getElem_toArray]
      unfold ec
      rw [cut_self (HZ.out _ hm)]
    have hLs : Lss Tryz.prog 111 #[.pointer (some ⟨w2.heap.size, 0, none⟩)] ec lc g 0 L.toArray.size w3 := fun W dk S hs i j hi hj => by
      have hs' : L.toArray.size = n := by simpa using HLn.out
      have hE' : Env W := Env.of_grown HE3.out S.1.1 (fun e => by have := Option.some.inj e; omega)
      have h := less g w2.heap.size n cap (fun t => cut dk[t]!) W hE' (S.1.1.cell (B3.out.cell 0) NG.out) (fun t ht => by have := (S.1.2 t (by omega)).1; rw [Nat.zero_add] at this; exact this) (fun t => cut_size _) i j (by omega) (by omega)
      exact h
    have hS := GsSlice.slice ec (fun _ => rfl) lc swo 111 #[.pointer (some ⟨w2.heap.size, 0, none⟩)] (enters_of Tryz.func111 (by kernel_rfl) rfl) g 0 cap L.toArray (by have := HLn.out; simp; omega) w3 hH R3.out.lt hLs
    rw [show L.toArray.size = n by simpa using HLn.out] at hS
    have C := Lib.hid hS
    clear hS hLs hH
    have c0 : w3.cell? ⟨w2.heap.size, 0, none⟩ = some (.slice (some ⟨g, 0, none⟩) n cap) := B3.out.cell 0
    go_wp2_with fail
    refine C.out.mono ?_
    rintro e w4 ⟨rfl, d', hpm, hso, hst⟩
    have hds : d'.size = n := by rw [hpm.1]; simpa using HLn.out
    have hpl : d'.toList.Perm L := by
      have := hpm.2.2
      rw [Array.extract_eq_self_of_le (by omega), Array.extract_eq_self_of_le (by have := HLn.out; simp; omega)] at this
      exact this
    have hcut : ∀ t, t < n → cut d'[t]! = d'[t]! ∧ d'[t]! ∈ K := fun t ht => by
      have hm : d'[t]! ∈ K := HPm.out.subset (hpl.subset (by rw [getElem!_pos d' t (by omega)]; simp))
      exact ⟨cut_self (HZ.out _ hm), hm⟩
    have hK : Hid (∀ a, a ∈ K ↔ ∃ t, t < n ∧ cut d'[t]! = a) := fun a => by
      constructor
      · intro ha
        have := (hpl.trans HPm.out).symm.subset ha
        obtain ⟨t, ht, e⟩ := List.getElem_of_mem this
        have ht' : t < d'.size := by simpa using ht
        refine ⟨t, by omega, ?_⟩
        rw [(hcut t (by omega)).1, getElem!_pos d' t ht']
        simpa using e
      · rintro ⟨t, ht, rfl⟩
        rw [(hcut t ht).1]
        exact (hcut t ht).2
    have hinj : Hid (∀ i j, i < n → j < n → cut d'[i]! = cut d'[j]! → i = j) := fun i j hi hj e => by
      rw [(hcut i hi).1, (hcut j hj).1, getElem!_pos d' i (by omega), getElem!_pos d' j (by omega)] at e
      have hnd : d'.toList.Nodup := (hpl.trans HPm.out).nodup_iff.2 ND.out
      exact nodup_inj hnd (a := d'[i]'(by omega)) (by simp [show i < d'.size by omega]) (by simp [show j < d'.size by omega, e])
    have hsorted : Hid (∀ i j, i < j → j < n → Ls (cut d'[j]!) (cut d'[i]!) = false) := fun i j hij hj => hso i j (Nat.zero_le _) hij hj
    have HC4 : Hid (∀ t, t < n → w4.cell? ⟨g, t, none⟩ = some (.string (cut d'[t]!))) := fun t ht => by
      have := (hst.1.2 t (by omega)).1
      rw [Nat.zero_add] at this
      exact this
    have B4 := Lib.hid (hst.1.1.cell (B3.out.cell 0) NG.out)
    have M4 := Lib.hid (M3.out.grown hst.1.1 (fun e => by have := Option.some.inj e; omega))
    have L4 := Lib.hid (L3.out.grown hst.1.1 L3.out.size (fun j hj => by cases hj; omega))
    have HIN : Hid (∀ t, t < n → cut d'[t]! ∈ K) := fun t ht => (hK.out _).2 ⟨t, ht, rfl⟩
    have HS1 : Hid (∀ t : Nat, (cut d'[t]!).size ≤ 400000000) := fun t => cut_size _
    clear hpm hso hst hds hpl hcut C c0 L3 M3 B3 R3 HE3
    obtain ⟨G, hG⟩ : ∃ G : Nat → ByteArray, ∀ t : Nat, cut d'[t]! = G t := ⟨fun t => cut d'[t]!, fun _ => rfl⟩
    simp only [hG] at hK hinj hsorted HC4 HIN HS1
    clear hG
    have c0 := B4.out
    go_wp2
    go_loop [6, 18] (fun a i => ∃ (k : Nat) (r : Int), k ≤ n ∧ i = .int .i64 k ∧ a = .int .i64 r ∧ Hid (LwP G k v nm r)) (fun _ i => n - (intOf i).toNat)
    case atStart => exact ⟨0, -1, Nat.zero_le _, rfl, rfl, lwp_zero⟩
    case round =>
      obtain ⟨k, r, hk, rfl, rfl, HLW⟩ := hrel
      by_cases hlt : k < n
      · have c1 := HC4.out k hlt
        have C := Lib.hid (UnderImpl.impl nm (G k) w4 HN.out (HS1.out k))
        cases hu : Un nm (G k) with
        | true =>
          rw [hu] at C
          have LK : Hid ((Instr.lookup 84 (.map (some b)) (.string (G k)) false).run Tryz.prog w4 = .ok (.int .i64 (v (G k))) w4) := M4.out.in KeyT.strings Tryz.underlying84 EK.out EN.out ⟨G k, rfl⟩ (en_in (HIN.out k hlt)) false
          have HLW2 := Lib.hid (lwp_hit (v := v) hu)
          clear hu
          generalize G k = a at *
          go_wp2_with fail
          refine C.out.mono ?_
          rintro e w5 ⟨rfl, rfl⟩
          go_wp2_with (at_lookup; refine wp_look rfl _ _ false rfl (.string a) (.int .i64 (v a)) rfl rfl LK.out ?_)
          go_roundw
          case rel => exact ⟨k + 1, v a, by omega, by go_num, rfl, HLW2.out⟩
          case measure => (simp [intOf] <;> omega)
        | false =>
          rw [hu] at C
          have HLW2 := Lib.hid (lwp_skip HLW.out hu)
          clear hu
          generalize G k = a at *
          go_wp2_with fail
          refine C.out.mono ?_
          rintro e w5 ⟨rfl, rfl⟩
          go_wp2
          go_roundw
          case rel => exact ⟨k + 1, r, by omega, by go_num, rfl, HLW2.out⟩
          case measure => (simp [intOf] <;> omega)
      · obtain rfl : n = k := by omega
        go_wp2
        go_ret
        exact ⟨r, rfl, lwp_end hK.out hinj.out hsorted.out HLW.out, L4.out⟩
end Go.Proofs.YtmkcjjgicinggaaGreatDoor.GsLow

/- What zonesByApex, zonesAt, ZoneOf and ZoneAt do in the program: a map from the apexes to their places; the zone of a name, of those served at an address. Conditions: fewer than 100000001 zones and posts, at most 400000000 bytes in each name; the library's variable internal/bytealg.MaxLen holds an int. -/
namespace Go.Proofs.YtmkcjjgicinggaaGreatDoor.ZonI
open Go.RowKit Go.Proofs.YtmkcjjgicinggaaGreatDoor.Mem Go.Proofs.YtmkcjjgicinggaaGreatDoor.MemR Go.Proofs.YtmkcjjgicinggaaGreatDoor.MemS Go.Proofs.YtmkcjjgicinggaaGreatDoor.MemZ Go.Proofs.YtmkcjjgicinggaaGreatDoor.MemF Go.Proofs.YtmkcjjgicinggaaGreatDoor.MapK Go.Proofs.YtmkcjjgicinggaaGreatDoor.Labels Go.Proofs.YtmkcjjgicinggaaGreatDoor.SetMath Go.Proofs.YtmkcjjgicinggaaGreatDoor.NameMath Go.Proofs.YtmkcjjgicinggaaGreatDoor.ForMath Go.Proofs.YtmkcjjgicinggaaGreatDoor.KeyT Go.Proofs.YtmkcjjgicinggaaGreatDoor.GsLow

/-- The place of an apex. -/
def pl (zs : List Zn) (a : ByteArray) : Int := (ix (aps zs) a : Nat)

theorem aps_len (zs : List Zn) : (aps zs).length = zs.length := List.length_map _

theorem aps_at (zs : List Zn) (k : Nat) (h : k < zs.length) (h' : k < (aps zs).length) : (aps zs)[k] = zs[k].apex := by simp [aps]

theorem zero (w : World) : (zeroValue 3).run Tryz.prog w = .ok (.int .i64 0) w := by kernel_rfl

theorem en_snoc (K : List ByteArray) (v : ByteArray → Int) (a : ByteArray) : en (K ++ [a]) v = en K v ++ [(.string a, .int .i64 (v a))] := by simp [en]

theorem en_at {K : List ByteArray} {v : ByteArray → Int} {j : Nat} {a : ByteArray} (h : K[j]? = some a) : (en K v)[j]? = some (.string a, .int .i64 (v a)) := by
  unfold en
  rw [List.getElem?_map, h]
  rfl

theorem uq_step (ap : List ByteArray) (k : Nat) (h : k < ap.length) (x : ByteArray) (hx : ap[k] = x) : (x ∈ uq (ap.take k) → uq (ap.take (k + 1)) = uq (ap.take k)) ∧ (x ∉ uq (ap.take k) → uq (ap.take (k + 1)) = uq (ap.take k) ++ [x] ∧ ix ap x = k) := by
  rw [uq_take ap k h, hx]
  refine ⟨fun hm => add_in hm, fun hm => ⟨add_out hm, ?_⟩⟩
  rw [← hx]
  exact ix_new h (by rw [hx]; exact fun e => hm (mem_uq.2 e))

set_option maxHeartbeats 8000000 in
set_option maxRecDepth 100000 in
theorem byApex (own : Prop) (A : Option Addr) (n c : Nat) (zs : List Zn) (P : Option Addr) (m d : Nat) (w : World) (hs : Rz own w w.heap.size A n zs) (hn : n ≤ 100000000) :
    Calls Tryz.prog 51 #[.agg #[.slice A n c, .slice P m d]] w fun e w' => ∃ b, e = .returned (.map (some b)) ∧ w.heap.size ≤ b ∧ Mp w' b (en (uq (aps zs)) (pl zs)) ∧ Below w.heap.size w w' := by
  have HS := Lib.hid hs
  have hmm := @run_makeMap Tryz.prog
  clear hs
  have X0 := Lib.hid ((fx_new w 27 (.slice A n c) (.slice P m d)).alloc (.map #[] 0))
  have L0 := Lib.hid (((Below.refl w.heap.size w).alloc (Nat.le_refl _) (.cells #[.slice A n c, .slice P m d] 27)).alloc (by simp) (.map #[] 0))
  have hz1 : (w.alloc (.cells #[.slice A n c, .slice P m d] 27)).heap.size = w.heap.size + 1 := by simp
  have M0 := Lib.hid (Mp.made (w.alloc (.cells #[.slice A n c, .slice P m d] 27)))
  rw [hz1] at M0
  clear hz1
  go_enter Tryz.func51, Tryz.ntmps51
  go_upto_region 2 with (fail)
  generalize (w.alloc (.cells #[.slice A n c, .slice P m d] 27)).alloc (.map #[] 0) = w1 at *
  obtain ⟨x0, x1⟩ := X0.out
  go_wp2
  go_loopw [12] (fun i wr => ∃ k : Nat, k ≤ n ∧ i = .int .i64 k ∧ Hid (Mp wr (w.heap.size + 1) (en (uq ((aps zs).take k)) (pl zs))) ∧ Hid (Below w.heap.size w wr)) (fun i _ => n - (intOf i).toNat)
  case atStart => exact ⟨0, Nat.zero_le _, rfl, M0.out, L0.out⟩
  case round =>
    clear M0 L0 X0 x0 x1
    obtain ⟨k, hk, rfl, HM, HL⟩ := hrel
    by_cases hlt : k < n
    · obtain ⟨b, off, rfl, hbB, hcs⟩ := HS.out.2 (by omega)
      have hkl : k < zs.length := by rw [HS.out.1]; exact hlt
      have hka : k < (aps zs).length := by rw [aps_len]; exact hkl
      obtain ⟨e0, A1, n1, c1, e1, _, _⟩ := (hcs k hkl).below HL.out hbB
      obtain ⟨u1, u2⟩ := uq_step (aps zs) k hka zs[k].apex (aps_at zs k hkl hka)
      have U1 := Lib.hid u1
      have U2 := Lib.hid u2
      clear hcs u1 u2
      generalize zs[k] = z at *
      have MA := Lib.hid (HM.out.alloc (.cells #[.string z.apex, .slice A1 n1 c1] 37))
      have LA := Lib.hid (HL.out.alloc HL.out.size (.cells #[.string z.apex, .slice A1 n1 c1] 37))
      have XB := Lib.hid (fx_new wr 37 (.string z.apex) (.slice A1 n1 c1))
      have EK := Lib.hid (en_key (uq ((aps zs).take k)) (pl zs))
      have EN := Lib.hid (en_nodup (v := pl zs) (nodup_uq ((aps zs).take k)))
      have KX : Hid (KS (.string z.apex)) := ⟨z.apex, rfl⟩
      clear HM HL
      go_upto_region 5 with (fail)
      generalize wr.alloc (.cells #[.string z.apex, .slice A1 n1 c1] 37) = w2 at *
      obtain ⟨b0, b1⟩ := XB.out
      by_cases hin : z.apex ∈ uq ((aps zs).take k)
      · have HU := Lib.hid (U1.out hin)
        have LK : Hid ((Instr.lookup 84 (.map (some (w.heap.size + 1))) (.string z.apex) true).run Tryz.prog w2 = .ok (.tuple #[.int .i64 (pl zs z.apex), .bool true]) w2) := MA.out.in KeyT.strings Tryz.underlying84 EK.out EN.out KX.out (en_in hin) true
        clear hin U1 U2
        go_wp2_with (at_lookup; refine wp_look rfl _ _ true rfl (.string z.apex) (.tuple #[.int .i64 (pl zs z.apex), .bool true]) rfl rfl LK.out ?_)
        go_roundw
        case rel => exact ⟨k + 1, by omega, by go_num, by rw [HU.out]; exact MA.out, LA.out⟩
        case measure => (simp [intOf] <;> omega)
      · have HU := Lib.hid (U2.out hin).1
        have HX := Lib.hid (U2.out hin).2
        have LK : Hid ((Instr.lookup 84 (.map (some (w.heap.size + 1))) (.string z.apex) true).run Tryz.prog w2 = .ok (.tuple #[.int .i64 0, .bool false]) w2) := MA.out.out KeyT.strings Tryz.underlying84 (zero _) EK.out KX.out (en_out hin) true
        have ST := Lib.hid (MA.out.new KeyT.strings Tryz.underlying84 EK.out (.int .i64 k) KX.out (en_out hin))
        clear hin U1 U2
        go_wp2_with (first | (at_lookup; refine wp_look rfl _ _ true rfl (.string z.apex) (.tuple #[.int .i64 0, .bool false]) rfl rfl LK.out ?_) | (at_mapUpdate; refine wp_store rfl _ _ _ rfl (.string z.apex) (.int .i64 k) rfl rfl rfl (en (uq ((aps zs).take k)) (pl zs) ++ [(.string z.apex, .int .i64 k)]) ST.out ?_))
        intro w3 m3 g3 s3
        have M3 := Lib.hid m3
        have L3 := Lib.hid (LA.out.grown g3 LA.out.size (fun j hj => by cases hj; omega))
        clear LK ST m3 g3 s3 MA LA b0 b1
        go_wp2
        go_roundw
        case rel =>
          refine ⟨k + 1, by omega, by go_num, ?_, L3.out⟩
          show Mp _ _ _
          rw [HU.out, en_snoc, show pl zs z.apex = (k : Int) by unfold pl; rw [HX.out]]
          exact M3.out
        case measure => (simp [intOf] <;> omega)
    · obtain rfl : n = k := by omega
      have HT := Lib.hid (take_all (n := n) (l := aps zs) (by rw [aps_len]; exact HS.out.1))
      go_wp2
      go_ret
      exact ⟨_, rfl, by omega, by have := HM.out; rw [HT.out] at this; exact this, HL.out⟩

theorem pl_all (zs : List Zn) {own : Prop} {w : World} {B n : Nat} {A : Option Addr} (h : Rz own w B A n zs) : (uq (aps zs)).length ≤ n := by
  have := len_uq (aps zs)
  rw [aps_len] at this
  rw [← h.1]
  exact this

theorem ap_mem {zs : List Zn} {a : ByteArray} (h : a ∈ aps zs) : ∃ z ∈ zs, z.apex = a := by
  obtain ⟨z, hz, e⟩ := List.mem_map.1 h
  exact ⟨z, hz, e⟩

set_option maxHeartbeats 4000000 in
set_option maxRecDepth 100000 in
/-- ZoneOf. -/
theorem zoneOf (own : Prop) (A : Option Addr) (n c : Nat) (zs : List Zn) (P : Option Addr) (m d : Nat) (nm : ByteArray) (w : World) (he : Env w) (hs : Rz own w w.heap.size A n zs) (hn : n ≤ 100000000) (hz : ∀ z ∈ zs, z.apex.size ≤ 400000000) (hnm : nm.size ≤ 400000000) :
    Calls Tryz.prog 10 #[.agg #[.slice A n c, .slice P m d], .string nm] w fun e w' => e = .returned (.int .i64 (zo nm (fun _ => true) (aps zs))) ∧ Below w.heap.size w w' := by
  have X0 := Lib.hid (fx_new w 27 (.slice A n c) (.slice P m d))
  have L0 := Lib.hid ((Below.refl w.heap.size w).alloc (Nat.le_refl _) (.cells #[.slice A n c, .slice P m d] 27))
  have C1 := Lib.hid (byApex own A n c zs P m d _ (hs.on L0.out) hn)
  have C2 := Lib.hid (fun b W hE h => low nm b (uq (aps zs)) (pl zs) W hE h (nodup_uq _) (fun a ha => by obtain ⟨z, hz', rfl⟩ := ap_mem (mem_uq.1 ha); exact hz z hz') (by have := pl_all zs hs; omega) hnm)
  have HE := Lib.hid he
  clear hs he hz
  obtain ⟨x0, x1⟩ := X0.out
  go_enter Tryz.func10, Tryz.ntmps10
  go_wp2_with fail
  refine C1.out.mono ?_
  rintro e w1 ⟨b, rfl, hb, hm, hl⟩
  have M1 := Lib.hid hm
  have L1 := Lib.hid (L0.out.trans (hl.mono L0.out.size))
  clear hm hl hb x0 x1 L0 X0
  go_wp2_with fail
  refine (C2.out b w1 (HE.out.below L1.out) M1.out).mono ?_
  rintro e w2 ⟨r, rfl, hr, hl⟩
  have HR := Lib.hid (lw_zo (nm := nm) (p := fun _ => true) (ap := aps zs) (fun a => by rw [mem_uq]; simp) hr)
  have L2 := Lib.hid (L1.out.trans (hl.mono L1.out.size))
  clear hr hl
  go_wp2
  go_ret
  exact ⟨by rw [HR.out]; rfl, L2.out⟩

theorem pk_step (ap : List ByteArray) (addr : Int) (ps : List Pst) (k : Nat) (h : k < ps.length) : (ps[k].apex ∈ ap ∧ ps[k].addr = addr → (ps[k].apex ∈ uq (pk ap addr (ps.take k)) → uq (pk ap addr (ps.take (k + 1))) = uq (pk ap addr (ps.take k))) ∧ (ps[k].apex ∉ uq (pk ap addr (ps.take k)) → uq (pk ap addr (ps.take (k + 1))) = uq (pk ap addr (ps.take k)) ++ [ps[k].apex])) ∧
    (¬ (ps[k].apex ∈ ap ∧ ps[k].addr = addr) → pk ap addr (ps.take (k + 1)) = pk ap addr (ps.take k)) := by
  refine ⟨fun hc => ⟨fun hm => ?_, fun hm => ?_⟩, fun hc => pk_out k h hc⟩
  · rw [pk_in k h hc, uq_snoc, add_in hm]
  · rw [pk_in k h hc, uq_snoc, add_out hm]

set_option maxHeartbeats 16000000 in
set_option maxRecDepth 100000 in
theorem at_ (own : Prop) (A : Option Addr) (n c : Nat) (zs : List Zn) (P : Option Addr) (m d : Nat) (ps : List Pst) (addr : Int) (w : World) (hs : Rz own w w.heap.size A n zs) (hp : Rp w w.heap.size P m ps) (hn : n ≤ 100000000) (hm : m ≤ 100000000) :
    Calls Tryz.prog 66 #[.agg #[.slice A n c, .slice P m d], .int .i64 addr] w fun e w' => ∃ b, e = .returned (.map (some b)) ∧ w.heap.size ≤ b ∧ Mp w' b (en (uq (pk (aps zs) addr ps)) (pl zs)) ∧ Below w.heap.size w w' := by
  have HP := Lib.hid hp
  have hmm := @run_makeMap Tryz.prog
  have X0 := Lib.hid (fx_new w 27 (.slice A n c) (.slice P m d))
  have L0 := Lib.hid ((Below.refl w.heap.size w).alloc (Nat.le_refl _) (.cells #[.slice A n c, .slice P m d] 27))
  have C1 := Lib.hid (byApex own A n c zs P m d _ (hs.on L0.out) hn)
  clear hs hp
  obtain ⟨x0, x1⟩ := X0.out
  go_enter Tryz.func66, Tryz.ntmps66
  go_wp2_with fail
  refine C1.out.mono ?_
  rintro e w1 ⟨b1, rfl, hb, hm1, hl⟩
  have hb1 : b1 < w1.heap.size := hm1.lt
  have M1 := Lib.hid (hm1.alloc (.map #[] 0))
  have L1 := Lib.hid ((L0.out.trans (hl.mono L0.out.size)).alloc (Nat.le_trans L0.out.size hl.size) (.map #[] 0))
  have X1 := Lib.hid ((X0.out.below hl).alloc (.map #[] 0))
  have N1 := Lib.hid (Mp.made w1)
  have hw1 : w.heap.size ≤ w1.heap.size := Nat.le_trans L0.out.size hl.size
  clear hm1 hl hb x0 x1 L0 X0 C1
  go_upto_region 2 with (fail)
  generalize hb2 : w1.heap.size = b2 at *
  generalize w1.alloc (.map #[] 0) = w2 at *
  obtain ⟨x0, x1⟩ := X1.out
  go_wp2
  go_loopw [17] (fun i wr => ∃ k : Nat, k ≤ m ∧ i = .int .i64 k ∧ Hid (Mp wr b1 (en (uq (aps zs)) (pl zs))) ∧ Hid (Mp wr b2 (en (uq (pk (aps zs) addr (ps.take k))) (pl zs))) ∧ Hid (Below w.heap.size w wr)) (fun i _ => m - (intOf i).toNat)
  case atStart => exact ⟨0, Nat.zero_le _, rfl, M1.out, N1.out, L1.out⟩
  case round =>
    clear M1 N1 L1 X1 x0 x1
    obtain ⟨k, hk, rfl, HM, HK, HL⟩ := hrel
    have EK1 := Lib.hid (en_key (uq (aps zs)) (pl zs))
    have EN1 := Lib.hid (en_nodup (v := pl zs) (nodup_uq (aps zs)))
    by_cases hlt : k < m
    · obtain ⟨b, off, rfl, hbB, hcs⟩ := HP.out.2 (by omega)
      have hkl : k < ps.length := by rw [HP.out.1]; exact hlt
      obtain ⟨e0, e1⟩ := (hcs k hkl).below HL.out hbB
      obtain ⟨u1, u2⟩ := pk_step (aps zs) addr ps k hkl
      have U1 := Lib.hid u1
      have U2 := Lib.hid u2
      clear hcs u1 u2
      generalize ps[k] = p at *
      have MA := Lib.hid (HM.out.alloc (.cells #[.int .i64 p.addr, .string p.apex] 103))
      have KA := Lib.hid (HK.out.alloc (.cells #[.int .i64 p.addr, .string p.apex] 103))
      have LA := Lib.hid (HL.out.alloc HL.out.size (.cells #[.int .i64 p.addr, .string p.apex] 103))
      have XB := Lib.hid (fx_new wr 103 (.int .i64 p.addr) (.string p.apex))
      have EK := Lib.hid (en_key (uq (pk (aps zs) addr (ps.take k))) (pl zs))
      have EN := Lib.hid (en_nodup (v := pl zs) (nodup_uq (pk (aps zs) addr (ps.take k))))
      have KX : Hid (KS (.string p.apex)) := ⟨p.apex, rfl⟩
      clear HM HL HK
      go_upto_region 5 with (fail)
      generalize wr.alloc (.cells #[.int .i64 p.addr, .string p.apex] 103) = w3 at *
      obtain ⟨y0, y1⟩ := XB.out
      by_cases hin : p.apex ∈ aps zs
      · have LK : Hid ((Instr.lookup 84 (.map (some b1)) (.string p.apex) true).run Tryz.prog w3 = .ok (.tuple #[.int .i64 (pl zs p.apex), .bool true]) w3) := MA.out.in KeyT.strings Tryz.underlying84 EK1.out EN1.out KX.out (en_in (mem_uq.2 hin)) true
        by_cases had : p.addr = addr
        · have hq : (p.addr == addr) = true := by simpa using had
          by_cases hin2 : p.apex ∈ uq (pk (aps zs) addr (ps.take k))
          · have HU := Lib.hid ((U1.out ⟨hin, had⟩).1 hin2)
            obtain ⟨j, hj⟩ := List.getElem?_of_mem hin2
            have ST := Lib.hid (KA.out.old KeyT.strings Tryz.underlying84 EK.out EN.out (.int .i64 (pl zs p.apex)) KX.out (en_at (v := pl zs) hj))
            have HSet : Hid ((en (uq (pk (aps zs) addr (ps.take k))) (pl zs)).set j (.string p.apex, .int .i64 (pl zs p.apex)) = en (uq (pk (aps zs) addr (ps.take k))) (pl zs)) := show _ = _ by
              obtain ⟨hl', he'⟩ := List.getElem?_eq_some_iff.1 (en_at (v := pl zs) hj)
              rw [← he', List.set_getElem_self]
            clear hin had hin2 U1 U2 hj
            go_wp2_with (first | (at_lookup; refine wp_look rfl _ _ true rfl (.string p.apex) (.tuple #[.int .i64 (pl zs p.apex), .bool true]) rfl rfl LK.out ?_) | (at_mapUpdate; refine wp_store rfl _ _ _ rfl (.string p.apex) (.int .i64 (pl zs p.apex)) rfl rfl rfl ((en (uq (pk (aps zs) addr (ps.take k))) (pl zs)).set j (.string p.apex, .int .i64 (pl zs p.apex))) ST.out ?_))
            intro w4 m4 g4 s4
            have K4 := Lib.hid (show Mp w4 b2 (en (uq (pk (aps zs) addr (ps.take k))) (pl zs)) from by rw [← HSet.out]; exact m4)
            have M4 := Lib.hid (MA.out.grown g4 (fun e => by have := Option.some.inj e; omega))
            have L4 := Lib.hid (LA.out.grown g4 LA.out.size (fun j hj => by cases hj; omega))
            clear LK ST m4 g4 s4 MA LA KA y0 y1
            go_wp2
            go_roundw
            case rel => exact ⟨k + 1, by omega, by go_num, M4.out, by rw [HU.out]; exact K4.out, L4.out⟩
            case measure => (simp [intOf] <;> omega)
          · have HU := Lib.hid ((U1.out ⟨hin, had⟩).2 hin2)
            have ST := Lib.hid (KA.out.new KeyT.strings Tryz.underlying84 EK.out (.int .i64 (pl zs p.apex)) KX.out (en_out hin2))
            clear hin had hin2 U1 U2
            go_wp2_with (first | (at_lookup; refine wp_look rfl _ _ true rfl (.string p.apex) (.tuple #[.int .i64 (pl zs p.apex), .bool true]) rfl rfl LK.out ?_) | (at_mapUpdate; refine wp_store rfl _ _ _ rfl (.string p.apex) (.int .i64 (pl zs p.apex)) rfl rfl rfl (en (uq (pk (aps zs) addr (ps.take k))) (pl zs) ++ [(.string p.apex, .int .i64 (pl zs p.apex))]) ST.out ?_))
            intro w4 m4 g4 s4
            have K4 := Lib.hid m4
            have M4 := Lib.hid (MA.out.grown g4 (fun e => by have := Option.some.inj e; omega))
            have L4 := Lib.hid (LA.out.grown g4 LA.out.size (fun j hj => by cases hj; omega))
            clear LK ST m4 g4 s4 MA LA KA y0 y1
            go_wp2
            go_roundw
            case rel => exact ⟨k + 1, by omega, by go_num, M4.out, by rw [HU.out, en_snoc]; exact K4.out, L4.out⟩
            case measure => (simp [intOf] <;> omega)
        · have hq : (p.addr == addr) = false := by simpa using had
          have HU := Lib.hid (U2.out (fun h => had h.2))
          clear hin had U1 U2
          go_wp2_with (at_lookup; refine wp_look rfl _ _ true rfl (.string p.apex) (.tuple #[.int .i64 (pl zs p.apex), .bool true]) rfl rfl LK.out ?_)
          go_roundw
          case rel => exact ⟨k + 1, by omega, by go_num, MA.out, by rw [HU.out]; exact KA.out, LA.out⟩
          case measure => (simp [intOf] <;> omega)
      · have LK : Hid ((Instr.lookup 84 (.map (some b1)) (.string p.apex) true).run Tryz.prog w3 = .ok (.tuple #[.int .i64 0, .bool false]) w3) := MA.out.out KeyT.strings Tryz.underlying84 (zero _) EK1.out KX.out (en_out (fun e => hin (mem_uq.1 e))) true
        have HU := Lib.hid (U2.out (fun h => hin h.1))
        clear hin U1 U2
        go_wp2_with (at_lookup; refine wp_look rfl _ _ true rfl (.string p.apex) (.tuple #[.int .i64 0, .bool false]) rfl rfl LK.out ?_)
        go_roundw
        case rel => exact ⟨k + 1, by omega, by go_num, MA.out, by rw [HU.out]; exact KA.out, LA.out⟩
        case measure => (simp [intOf] <;> omega)
    · obtain rfl : m = k := by omega
      have HT := Lib.hid (take_all (l := ps) HP.out.1)
      go_wp2
      go_ret
      exact ⟨_, rfl, by omega, by have := HK.out; rw [HT.out] at this; exact this, HL.out⟩

set_option maxHeartbeats 4000000 in
set_option maxRecDepth 100000 in
/-- ZoneAt. -/
theorem zoneAt (own : Prop) (A : Option Addr) (n c : Nat) (zs : List Zn) (P : Option Addr) (m d : Nat) (ps : List Pst) (addr : Int) (nm : ByteArray) (w : World) (he : Env w) (hs : Rz own w w.heap.size A n zs) (hp : Rp w w.heap.size P m ps) (hn : n ≤ 100000000) (hm : m ≤ 100000000) (hz : ∀ z ∈ zs, z.apex.size ≤ 400000000) (hnm : nm.size ≤ 400000000) :
    Calls Tryz.prog 19 #[.agg #[.slice A n c, .slice P m d], .int .i64 addr, .string nm] w fun e w' => e = .returned (.int .i64 (zo nm (psd addr ps) (aps zs))) ∧ Below w.heap.size w w' := by
  have X0 := Lib.hid (fx_new w 27 (.slice A n c) (.slice P m d))
  have L0 := Lib.hid ((Below.refl w.heap.size w).alloc (Nat.le_refl _) (.cells #[.slice A n c, .slice P m d] 27))
  have C1 := Lib.hid (at_ own A n c zs P m d ps addr _ (hs.on L0.out) (hp.on L0.out) hn hm)
  have hlen : (uq (pk (aps zs) addr ps)).length ≤ m := by
    have h1 := len_uq (pk (aps zs) addr ps)
    have h2 : (pk (aps zs) addr ps).length ≤ ps.length := by unfold pk; rw [List.length_map]; exact List.length_filter_le _ _
    rw [← hp.1]
    omega
  have C2 := Lib.hid (fun b W hE h => low nm b (uq (pk (aps zs) addr ps)) (pl zs) W hE h (nodup_uq _) (fun a ha => by obtain ⟨z, hz', rfl⟩ := ap_mem (pk_mem.1 (mem_uq.1 ha)).1; exact hz z hz') (by omega) hnm)
  have HE := Lib.hid he
  clear hs he hz hp
  obtain ⟨x0, x1⟩ := X0.out
  go_enter Tryz.func19, Tryz.ntmps19
  go_wp2_with fail
  refine C1.out.mono ?_
  rintro e w1 ⟨b, rfl, hb, hm1, hl⟩
  have M1 := Lib.hid hm1
  have L1 := Lib.hid (L0.out.trans (hl.mono L0.out.size))
  clear hm1 hl hb x0 x1 L0 X0
  go_wp2_with fail
  refine (C2.out b w1 (HE.out.below L1.out) M1.out).mono ?_
  rintro e w2 ⟨r, rfl, hr, hl⟩
  have HR := Lib.hid (lw_zo (nm := nm) (p := psd addr ps) (ap := aps zs) (fun a => by rw [mem_uq, pk_mem]) hr)
  have L2 := Lib.hid (L1.out.trans (hl.mono L1.out.size))
  clear hr hl
  go_wp2
  go_ret
  exact ⟨by rw [HR.out]; rfl, L2.out⟩
end Go.Proofs.YtmkcjjgicinggaaGreatDoor.ZonI

/- 'm[k] = append(m[k], x)' as the model has it: the entry is found or laid, with its stamp; then its value is stored at the stamp. -/
namespace Go.Proofs.YtmkcjjgicinggaaGreatDoor.MapE
open Go.RowKit Go.Proofs.YtmkcjjgicinggaaGreatDoor.Mem Go.Proofs.YtmkcjjgicinggaaGreatDoor.MapK
open Go.ChangeMaps (setBlock heap_setBlock_same heap_setBlock_other)

/-- As Mp; and the j-th entry bears the stamp st. -/
def Ms (w : World) (b : Nat) (l : List (Value × Value)) (j st : Nat) : Prop :=
  ∃ es clock, w.heap[b]? = some (.map es clock) ∧ es.toList.map (fun e => (e.key, e.val)) = l ∧ (∀ e ∈ es.toList, e.born < clock) ∧ (es.toList.map (·.born)).Nodup ∧ ∃ e, es.toList[j]? = some e ∧ e.born = st
section
variable {P : Program} {w w' : World} {b : Nat} {l : List (Value × Value)} {k e t : TypeId} {S : Value → Prop} {j st : Nat}

theorem Ms.lt (h : Ms w b l j st) : b < w.heap.size := by
  obtain ⟨es, clock, hb, _⟩ := h
  exact (Array.getElem?_eq_some_iff.1 hb).1

theorem Ms.kept (h : Ms w b l j st) (hk : w'.heap[b]? = w.heap[b]?) : Ms w' b l j st := by
  obtain ⟨es, clock, hb, h1⟩ := h
  exact ⟨es, clock, hk.trans hb, h1⟩

theorem Ms.grown {row : Option Nat} (h : Ms w b l j st) (hg : w.grownBy w' row) (hne : some b ≠ row) : Ms w' b l j st := h.kept (hg.block b h.lt hne)

theorem Ms.alloc (h : Ms w b l j st) (o : Obj) : Ms (w.alloc o) b l j st := h.grown (World.grownBy_alloc w o none) (by simp)

/-- The entry is not there: it is laid, with the zero value. -/
theorem entry_new (h : Mp w b l) (K : MapK.KeyT P k S) (ht : P.underlying t = some (.map k e)) {z : Value} (hz : (zeroValue e).run P w = .ok z w) (hS : ∀ p ∈ l, S p.1) {x : Value} (hx : S x) (hno : ∀ p ∈ l, p.1 ≠ x) :
    ∃ w' st, (Instr.mapEntry t (.map (some b)) x).run P w = .ok (.tuple #[z, .int .i64 (st : Nat)]) w' ∧ Ms w' b (l ++ [(x, z)]) l.length st ∧ w.grownBy w' (some b) ∧ w'.heap.size = w.heap.size := by
  obtain ⟨es, clock, hb, hl, hborn, hnd⟩ := h
  rcases K.find w hx es.toList (mem_key hl hS) with ⟨hrun, _⟩ | ⟨j, e0, _, hj, hk⟩
  · refine ⟨setBlock w b (.map (es.push ⟨x, z, clock⟩) (clock + 1)), clock, ?_, ⟨_, _, heap_setBlock_same hb _, ?_, ?_, ?_, ⟨x, z, clock⟩, ?_, rfl⟩, grown_block hb _, by simp [setBlock]⟩
    · simp [Instr.mapEntry, run_underlying ht, MapKept.run_getObj_map hb, K.check w false hx, hrun, hz, MapKept.run_setObj_map _ hb, Result.andThen, setBlock, goInt]
    · rw [Array.toList_push, List.map_append, hl]; rfl
    · intro e' he'
      rw [Array.toList_push, List.mem_append] at he'
      rcases he' with he' | he'
      · have := hborn e' he'; omega
      · obtain rfl := List.mem_singleton.1 he'; exact Nat.lt_succ_self _
    · rw [Array.toList_push, List.map_append, List.nodup_append]
      refine ⟨hnd, by simp, fun a ha c hc => ?_⟩
      obtain ⟨e', he', rfl⟩ := List.mem_map.1 ha
      have h1 := hborn e' he'
      simp at hc
      omega
    · rw [Array.toList_push, ← hl, List.length_map, List.getElem?_append_right (Nat.le_refl _), Nat.sub_self]
      rfl
  · exact absurd hk (hno (e0.key, e0.val) (hl ▸ List.mem_map.2 ⟨e0, List.mem_of_getElem? hj, rfl⟩))

/-- The entry is there. -/
theorem entry_old (h : Mp w b l) (K : MapK.KeyT P k S) (ht : P.underlying t = some (.map k e)) (hS : ∀ p ∈ l, S p.1) (hd : (l.map Prod.fst).Nodup) {x u : Value} (hx : S x) {j : Nat} (hin : l[j]? = some (x, u)) :
    ∃ w' st, (Instr.mapEntry t (.map (some b)) x).run P w = .ok (.tuple #[u, .int .i64 (st : Nat)]) w' ∧ Ms w' b l j st ∧ w.grownBy w' (some b) ∧ w'.heap.size = w.heap.size := by
  obtain ⟨es, clock, hb, hl, hborn, hnd⟩ := h
  rcases K.find w hx es.toList (mem_key hl hS) with ⟨_, hno⟩ | ⟨i, e0, hrun, hi, hk⟩
  · have hm := List.mem_of_getElem? hin
    rw [← hl] at hm
    obtain ⟨e0, he, hq⟩ := List.mem_map.1 hm
    exact absurd (congrArg Prod.fst hq) (hno e0 he)
  · have hli : l[i]? = some (e0.key, e0.val) := by rw [← hl, List.getElem?_map, hi]; rfl
    have hij : i = j := by
      rw [hk] at hli
      exact key_idx hd hli hin
    subst hij
    have hu : e0.val = u := by rw [hli] at hin; exact congrArg Prod.snd (Option.some.inj hin)
    have hget : es[i]? = some e0 := by rw [← Array.getElem?_toList]; exact hi
    have hmod : (es.modify i fun e => { e with key := x }) = es := by
      refine Array.toList_inj.1 ?_
      rw [Array.toList_modify]
      refine List.ext_getElem? fun n => ?_
      rw [List.getElem?_modify]
      by_cases hn : i = n
      · subst hn
        rw [hi]
        simp [← hk]
      · simp [hn]
    refine ⟨setBlock w b (.map (es.modify i fun e => { e with key := x }) clock), e0.born, ?_, ⟨es, clock, by rw [heap_setBlock_same hb _, hmod], hl, hborn, hnd, e0, hi, rfl⟩, grown_block hb _, by simp [setBlock]⟩
    have hst := K.stays w hx
    have hck := K.check w false hx
    subst hk
    subst hu
    simp [Instr.mapEntry, run_underlying ht, MapKept.run_getObj_map hb, hck, hrun, hget, hst, MapKept.run_setObj_map _ hb, Result.andThen, setBlock, goInt]

/-- The value is stored at the stamp. -/
theorem Ms.store (h : Ms w b l j st) (t : TypeId) {x u : Value} (hin : l[j]? = some (x, u)) (v : Value) :
    ∃ w', (Instr.entryStore t (.map (some b)) (.int .i64 (st : Nat)) v).run P w = .ok () w' ∧ Mp w' b (l.set j (x, v)) ∧ w.grownBy w' (some b) ∧ w'.heap.size = w.heap.size := by
  obtain ⟨es, clock, hb, hl, hborn, hnd, e0, hj, rfl⟩ := h
  have hx : e0.key = x := by
    rw [← hl, List.getElem?_map, hj] at hin
    exact congrArg Prod.fst (Option.some.inj hin)
  have hfind : es.findIdx? (fun e => (e.born : Int) == (e0.born : Int)) = some j := by
    obtain ⟨hlt, he⟩ := List.getElem?_eq_some_iff.1 hj
    rw [Array.findIdx?_eq_some_iff_getElem]
    refine ⟨by simpa using hlt, by rw [show es[j]'(by simpa using hlt) = e0 from he]; simp, fun i hi hp => ?_⟩
    have hil : i < es.toList.length := by omega
    have h1 : (es.toList.map (·.born))[i]? = some e0.born := by
      rw [List.getElem?_map, List.getElem?_eq_getElem hil]
      have h3 : es[i].born = e0.born := by simp at hp; omega
      have h4 : es.toList[i].born = e0.born := h3
      rw [Option.map_some, h4]
    have h2 : (es.toList.map (·.born))[j]? = some e0.born := by rw [List.getElem?_map, hj]; rfl
    have := nodup_inj hnd h1 h2
    omega
  refine ⟨setBlock w b (.map (es.modify j fun e => { e with val := v }) clock), ?_, ⟨_, _, heap_setBlock_same hb _, ?_, ?_, ?_⟩, grown_block hb _, by simp [setBlock]⟩
  · simp [Instr.entryStore, MapKept.run_getObj_map hb, asInt, asIntOf, hfind, MapKept.run_setObj_map _ hb, Result.andThen, setBlock]
  · rw [Array.toList_modify, ← hl]
    refine List.ext_getElem? fun n => ?_
    rw [List.getElem?_map, List.getElem?_modify, List.getElem?_set]
    by_cases hn : j = n
    · subst hn
      have : j < es.toList.length := (List.getElem?_eq_some_iff.1 hj).1
      rw [Array.length_toList] at this
      rw [hj]
      simp [this, hx]
    · simp [hn]
  · intro e' he'
    rw [Array.toList_modify] at he'
    obtain ⟨n, hn⟩ := List.getElem?_of_mem he'
    rw [List.getElem?_modify] at hn
    obtain ⟨e1, h1, rfl⟩ := Option.map_eq_some_iff.1 hn
    have := hborn e1 (List.mem_of_getElem? h1)
    split <;> exact this
  · have : (es.modify j fun e => { e with val := v }).toList.map (·.born) = es.toList.map (·.born) := by
      rw [Array.toList_modify]
      refine List.ext_getElem? fun n => ?_
      rw [List.getElem?_map, List.getElem?_map, List.getElem?_modify]
      cases es.toList[n]? <;> simp
      split <;> rfl
    rw [this]
    exact hnd

/-- The look-up of an entry at the operation. -/
theorem wp_entry {ops : Array Oper} {rest : List Oper} {o : Oper} {a : Act} {Q : Exit → Act → World → Prop}
    (hg : o.guard = none) (m x : Operand) (hop : o.op = Op.mapEntry t m x) (key u : Value) (hm : a.eval m = .map (some b)) (hx : a.eval x = key) (l' : List (Value × Value)) (j' : Nat)
    (hrun : ∃ w' st, (Instr.mapEntry t (.map (some b)) key).run P w = .ok (.tuple #[u, .int .i64 (st : Nat)]) w' ∧ Ms w' b l' j' st ∧ w.grownBy w' (some b) ∧ w'.heap.size = w.heap.size)
    (hK : ∀ w' (st : Nat), Ms w' b l' j' st → w.grownBy w' (some b) → w'.heap.size = w.heap.size → wpList P ops Q rest (a.put o.dst (.tuple #[u, .int .i64 (st : Nat)])) w') : wpList P ops Q (o :: rest) a w := by
  obtain ⟨w', s0, h1, h2, h3, h4⟩ := hrun
  refine wpList_plain hg fun K' hK' => ?_
  unfold Oper.wp
  simp [execOp, hop, hm, hx, h1, Result.andThen]
  exact hK' _ _ (hK w' s0 h2 h3 h4)

/-- The store at a stamp at the operation. -/
theorem wp_stamp {ops : Array Oper} {rest : List Oper} {o : Oper} {a : Act} {Q : Exit → Act → World → Prop}
    (hg : o.guard = none) (m s v : Operand) (hop : o.op = Op.entryStore t m s v) (u : Value) (hm : a.eval m = .map (some b)) (hs : a.eval s = .int .i64 (st : Nat)) (hv : a.eval v = u)
    (l' : List (Value × Value)) (hrun : ∃ w', (Instr.entryStore t (.map (some b)) (.int .i64 (st : Nat)) u).run P w = .ok () w' ∧ Mp w' b l' ∧ w.grownBy w' (some b) ∧ w'.heap.size = w.heap.size)
    (hK : ∀ w', Mp w' b l' → w.grownBy w' (some b) → w'.heap.size = w.heap.size → wpList P ops Q rest (a.put o.dst undef) w') : wpList P ops Q (o :: rest) a w := by
  obtain ⟨w', h1, h2, h3, h4⟩ := hrun
  refine wpList_plain hg fun K' hK' => ?_
  unfold Oper.wp
  simp [execOp, hop, hm, hs, hv, h1, Result.andThen]
  exact hK' _ _ (hK w' h2 h3 h4)
end
end Go.Proofs.YtmkcjjgicinggaaGreatDoor.MapE

/- A new slice of records that a call gives back, and laws on append of records. -/
namespace Go.Proofs.YtmkcjjgicinggaaGreatDoor.AppR
open Go.RowKit Go.Proofs.YtmkcjjgicinggaaGreatDoor.Mem Go.Proofs.YtmkcjjgicinggaaGreatDoor.MemR

theorem owns_new (w : World) : (w.alloc (.cells #[] 93)).ownsRow w.heap.size 93 6 (.slice (some ⟨w.heap.size, 0, none⟩) 0 0) 0 [] :=
  World.ownsRow_made w #[] 0 (Nat.le_refl _) (Nat.zero_le _) (by simp)
theorem one_fl (l : List Rec) : ∀ u ∈ fl l, u.oneCell' = true := by
  intro u hu
  obtain ⟨r, _, hr⟩ := List.mem_flatMap.1 hu
  simp [rc] at hr
  rcases hr with rfl | rfl | rfl | rfl | rfl | rfl <;> rfl
/-- The cells of a slice that reads as records, as the laws on append ask for them. -/
theorem cells_of {w : World} {B b off n : Nat} {l : List Rec} (hs : Sr w B (some ⟨b, off, none⟩) n l) : ∀ j u, (fl l)[j]? = some u → w.cell? ((⟨b, off, none⟩ : Addr).add j) = some u := by
  intro j u hu
  have hj : j < l.length * 6 := by
    have := (List.getElem?_eq_some_iff.1 hu).1
    rwa [fl_len] at this
  obtain ⟨b', off', hA, _, hc⟩ := hs.2 (by have := hs.1; omega)
  simp only [Option.some.injEq, Addr.mk.injEq, and_true] at hA
  obtain ⟨rfl, rfl⟩ := hA
  have hd : j / 6 < l.length := by omega
  have h6 : j % 6 < 6 := by omega
  have e : j = j / 6 * 6 + j % 6 := by omega
  have hg := fl_get l (j / 6) (j % 6) hd h6
  rw [← e, hu] at hg
  obtain ⟨c0, c1, c2, c3, c4, c5⟩ := hc (j / 6) hd
  rw [Addr.add_lit, show off + j = off + j / 6 * 6 + j % 6 by omega, hg]
  generalize j % 6 = c at h6 ⊢
  rcases c with _ | _ | _ | _ | _ | _ | c
  · exact c0
  · exact c1
  · exact c2
  · exact c3
  · exact c4
  · exact c5
  · omega
/-- append of a slice of records onto a row of the call's own. -/
theorem append_recs {w : World} {ops : Array Oper} {rest : List Oper} {o : Oper} {a : Act} {Q : Exit → Act → World → Prop} (hgd : o.guard = none) (s x : Operand)
    (ho : o.op = .call { callee := .builtin .append, args := #[s, x], argTypes := #[35, 35] })
    (base g n cap : Nat) (L : List Rec) (hs : a.eval s = .slice (some ⟨g, 0, none⟩) n cap) (hown : w.ownsRow base 93 6 (.slice (some ⟨g, 0, none⟩) n cap) n (fl L))
    (b off m c B : Nat) (l : List Rec) (hx : a.eval x = .slice (some ⟨b, off, none⟩) m c) (hl : Sr w B (some ⟨b, off, none⟩) m l)
    (hn : n ≤ 800000000) (hm : m ≤ 800000000) (hbase : base ≤ w.heap.size)
    (h : ∀ g' cap' w', w'.ownsRow base 93 6 (.slice (some ⟨g', 0, none⟩) (n + m) cap') (n + m) (fl (L ++ l)) → w.grownBy w' (some g) → wpList Tryz.prog ops Q rest (a.put o.dst (.slice (some ⟨g', 0, none⟩) (n + m) cap')) w') : wpList Tryz.prog ops Q (o :: rest) a w := by
  obtain ⟨i0, hi, hz0, hz1, hz2⟩ := info_parts CopyR.info
  exact wpList_append_own w hgd s x 35 ho base 93 i0 _ 6 72 Tryz.underlying35 hi hz0 hz1 hz2 rfl (by decide) _ n (fl L) hs hown ⟨b, off, none⟩ m c (fl l) hx (by rw [fl_len, hl.1]) (cells_of hl) (one_fl l) (by unfold maxLen; omega) (by omega) hbase
    (fun v' w' h1 h2 h3 => by
      rcases h1.2 with ⟨hv, _⟩ | ⟨g', cap', cur, hv, _⟩
      · have := (h3.1 hv).1
        cases this
      · subst hv
        exact h g' cap' w' (by rw [fl_append]; exact h1) h2)
end Go.Proofs.YtmkcjjgicinggaaGreatDoor.AppR

/- A map of slices of records, one for each key: what it is, and that it is so again behind one more record. -/
namespace Go.Proofs.YtmkcjjgicinggaaGreatDoor.GrpM
open Go.RowKit Go.Proofs.YtmkcjjgicinggaaGreatDoor.Mem Go.Proofs.YtmkcjjgicinggaaGreatDoor.MemR Go.Proofs.YtmkcjjgicinggaaGreatDoor.SetMath Go.Proofs.YtmkcjjgicinggaaGreatDoor.MemQ Go.Proofs.YtmkcjjgicinggaaGreatDoor.MapK Go.Proofs.YtmkcjjgicinggaaGreatDoor.MapE

/-- An entry: the key, the block of the slice, its length and its capacity. -/
structure Ge where
  q : Key
  g : Nat
  m : Nat
  cap : Nat

/-- Its slice. -/
def sv (e : Ge) : Value := .slice (some ⟨e.g, 0, none⟩) e.m e.cap

/-- The entries as the map holds them. -/
def ev (es : List Ge) : List (Value × Value) := es.map (fun e => (qv e.q, sv e))

/-- The records of a key. -/
noncomputable def sq (q : Key) (l : List Rec) : List Rec := sf q.name q.ty l

theorem sq_snoc (q : Key) (l : List Rec) (r : Rec) : sq q (l ++ [r]) = sq q l ++ (if isk q.name q.ty r = true then [r] else []) := by
  rw [sq, sf, List.filter_append, List.filter_cons, List.filter_nil]; rfl

theorem sq_same (l : List Rec) (r : Rec) : sq (ky r) (l ++ [r]) = sq (ky r) l ++ [r] := by
  rw [sq_snoc, show isk (ky r).name (ky r).ty r = true from isk_true ⟨rfl, rfl⟩, if_pos rfl]

theorem sq_other {q : Key} (l : List Rec) {r : Rec} (h : q ≠ ky r) : sq q (l ++ [r]) = sq q l := by
  rw [sq_snoc, isk_false (fun e => h (by obtain ⟨a, b⟩ := q; simp only at e; rw [ky, e.1, e.2])), if_neg (by decide), List.append_nil]

theorem sq_none {q : Key} {l : List Rec} (h : q ∉ kl l) : sq q l = [] := by
  refine List.filter_eq_nil_iff.2 (fun r hr hk => h ?_)
  refine List.mem_map.2 ⟨r, hr, ?_⟩
  obtain ⟨h1, h2⟩ := isk_iff.1 hk
  obtain ⟨a, b⟩ := q
  rw [ky, h1, h2]

theorem uq_kl (l : List Rec) (r : Rec) : uq (kl (l ++ [r])) = add (uq (kl l)) (ky r) := by
  rw [show kl (l ++ [r]) = kl l ++ [ky r] from by rw [kl, List.map_append]; rfl, uq_snoc]

/-- Block b is a map that holds, for each key of the records l, its records in a row of the call's own, from base on; no two in one row. -/
def Gr (w : World) (base b : Nat) (l : List Rec) : Prop := ∃ es : List Ge, Mp w b (ev es) ∧ es.map (·.q) = uq (kl l) ∧
  (∀ (i : Nat) (e : Ge), es[i]? = some e → w.ownsRow base 93 6 (sv e) e.m (fl (sq e.q l))) ∧ (∀ (i i' : Nat) (e e' : Ge), es[i]? = some e → es[i']? = some e' → i ≠ i' → e.g ≠ e'.g)

section
variable {w w' w2 w3 w4 : World} {base b g' cap' : Nat} {l : List Rec} {es : List Ge}

theorem ev_key (es : List Ge) : ∀ p ∈ ev es, ∃ q : Key, p.1 = qv q := by
  intro p hp
  obtain ⟨e, _, rfl⟩ := List.mem_map.1 hp
  exact ⟨_, rfl⟩

theorem qv_inj {q p : Key} (h : qv q = qv p) : q = p := by
  obtain ⟨a, b⟩ := q
  obtain ⟨c, d⟩ := p
  simp [qv] at h
  rw [h.1, h.2]

theorem ev_nodup : ∀ {es : List Ge}, (es.map (·.q)).Nodup → ((ev es).map Prod.fst).Nodup
  | [], _ => by simp [ev]
  | e :: es, h => by
    rw [List.map_cons] at h
    obtain ⟨h1, h2⟩ := List.nodup_cons.1 h
    show (qv e.q :: (ev es).map Prod.fst).Nodup
    refine List.nodup_cons.2 ⟨fun hm => ?_, ev_nodup h2⟩
    obtain ⟨p, hp, he⟩ := List.mem_map.1 hm
    obtain ⟨e', he', rfl⟩ := List.mem_map.1 hp
    exact h1 (List.mem_map.2 ⟨e', he', qv_inj he⟩)

theorem ev_out {q : Key} (h : q ∉ es.map (·.q)) : ∀ p ∈ ev es, p.1 ≠ qv q := by
  intro p hp e
  obtain ⟨e', he', rfl⟩ := List.mem_map.1 hp
  exact h (List.mem_map.2 ⟨e', he', qv_inj e⟩)

theorem ev_at {i : Nat} {e : Ge} (h : es[i]? = some e) : (ev es)[i]? = some (qv e.q, sv e) := by rw [ev, List.getElem?_map, h]; rfl

theorem own_kept {e : Ge} {xs : List Value} {row : Option Nat} (h : w.ownsRow base 93 6 (sv e) e.m xs) (hg : w.grownBy w' row) (hne : some e.g ≠ row) : w'.ownsRow base 93 6 (sv e) e.m xs := h.kept hg (Or.inr hne)

theorem own_lt {e : Ge} {xs : List Value} (h : w.ownsRow base 93 6 (sv e) e.m xs) : base ≤ e.g ∧ e.g < w.heap.size := h.lt e.g rfl

theorem own_m {e : Ge} (h : w.ownsRow base 93 6 (sv e) e.m (fl (sq e.q l))) : (sq e.q l).length = e.m := by have := h.1; rw [fl_len] at this; omega

/-- Nothing of the groups is turned by what turns other blocks. -/
theorem rows_kept {row : Option Nat} (h : ∀ (i : Nat) (e : Ge), es[i]? = some e → w.ownsRow base 93 6 (sv e) e.m (fl (sq e.q l))) (hg : w.grownBy w' row) (hne : ∀ g, base ≤ g → g < w.heap.size → some g ≠ row) :
    ∀ (i : Nat) (e : Ge), es[i]? = some e → w'.ownsRow base 93 6 (sv e) e.m (fl (sq e.q l)) := fun i e he => by
  have h1 := own_lt (h i e he)
  exact own_kept (h i e he) hg (hne _ h1.1 h1.2)

/-- One more record of a key that is there. -/
theorem gr_old (hq : es.map (·.q) = uq (kl l)) (ho : ∀ (i : Nat) (e : Ge), es[i]? = some e → w2.ownsRow base 93 6 (sv e) e.m (fl (sq e.q l))) (hd : ∀ (i i' : Nat) (e e' : Ge), es[i]? = some e → es[i']? = some e' → i ≠ i' → e.g ≠ e'.g)
    {j : Nat} {e : Ge} {r : Rec} (hj : es[j]? = some e) (hk : e.q = ky r) (hgr : w2.grownBy w3 (some e.g)) (hown : w3.ownsRow base 93 6 (.slice (some ⟨g', 0, none⟩) (e.m + 1) cap') (e.m + 1) (fl (sq e.q l) ++ fl [r])) (hl : e.g = g' ∨ g' = w2.heap.size)
    (hb : b < base) (h4 : w3.grownBy w4 (some b)) (hm : Mp w4 b ((ev es).set j (qv (ky r), .slice (some ⟨g', 0, none⟩) (e.m + 1) cap'))) : Gr w4 base b (l ++ [r]) := by
  have hnd : (es.map (·.q)).Nodup := hq ▸ nodup_uq _
  have hjl : j < es.length := (List.getElem?_eq_some_iff.1 hj).1
  have hin : ky r ∈ uq (kl l) := by rw [← hq, ← hk]; exact List.mem_map.2 ⟨e, List.mem_of_getElem? hj, rfl⟩
  have hother : ∀ (i : Nat) (e' : Ge), es[i]? = some e' → i ≠ j → e'.q ≠ ky r := fun i e' he' hne hqq => hne (nodup_inj hnd (a := ky r) (by rw [List.getElem?_map, he', Option.map_some, hqq]) (by rw [List.getElem?_map, hj, Option.map_some, hk]))
  have hg' : base ≤ g' := (hown.lt g' rfl).1
  refine ⟨es.set j ⟨ky r, g', e.m + 1, cap'⟩, ?_, ?_, ?_, ?_⟩
  · have : ev (es.set j ⟨ky r, g', e.m + 1, cap'⟩) = (ev es).set j (qv (ky r), .slice (some ⟨g', 0, none⟩) (e.m + 1) cap') := by rw [ev, List.map_set]; rfl
    rw [this]; exact hm
  · rw [List.map_set, uq_kl, add_in hin]
    show (es.map (·.q)).set j (ky r) = uq (kl l)
    rw [hq]
    refine List.ext_getElem? fun i => ?_
    rw [List.getElem?_set]
    by_cases hi : j = i
    · subst hi
      have h1 : j < (uq (kl l)).length := by rw [← hq, List.length_map]; exact hjl
      have h2 : (uq (kl l))[j]? = some (ky r) := by rw [← hq, List.getElem?_map, hj, Option.map_some, hk]
      rw [if_pos rfl, if_pos h1, h2]
    · rw [if_neg hi]
  · intro i e' he'
    rw [List.getElem?_set] at he'
    by_cases hi : j = i
    · subst hi
      simp [hjl] at he'
      subst he'
      have h5 : w4.ownsRow base 93 6 (.slice (some ⟨g', 0, none⟩) (e.m + 1) cap') (e.m + 1) (fl (sq e.q l) ++ fl [r]) := hown.kept h4 (Or.inr (fun h => by have h6 : g' = b := Option.some.inj h; omega))
      rw [hk, ← fl_append, ← sq_same] at h5
      exact h5
    · simp [hi] at he'
      have h5 := own_kept (ho i e' he') hgr (fun h => hd i j e' e he' hj (fun h => hi h.symm) (Option.some.inj h))
      have h7 := own_lt h5
      have h6 := own_kept h5 h4 (fun h => by have h8 : e'.g = b := Option.some.inj h; omega)
      rw [sq_other l (hother i e' he' (fun h => hi h.symm))]
      exact h6
  · intro i i' e1 e2 h1 h2 hne
    rw [List.getElem?_set] at h1 h2
    have aux : ∀ (i : Nat) (e' : Ge), es[i]? = some e' → i ≠ j → g' ≠ e'.g := fun i e' he' hi h => by
      rcases hl with hl | hl
      · exact hd j i e e' hj he' (fun h => hi h.symm) (hl.trans h)
      · have := own_lt (ho i e' he'); omega
    by_cases hi : j = i
    · subst hi
      simp [hjl] at h1
      subst h1
      simp [hne] at h2
      exact aux i' e2 h2 (fun h => hne h.symm)
    · simp [hi] at h1
      by_cases hi' : j = i'
      · subst hi'
        simp [hjl] at h2
        subst h2
        exact fun h => aux i e1 h1 (fun h => hi h.symm) h.symm
      · simp [hi'] at h2
        exact hd i i' e1 e2 h1 h2 hne

/-- One more record of a key that is not there. -/
theorem gr_new (hq : es.map (·.q) = uq (kl l)) (ho : ∀ (i : Nat) (e : Ge), es[i]? = some e → w2.ownsRow base 93 6 (sv e) e.m (fl (sq e.q l))) (hd : ∀ (i i' : Nat) (e e' : Ge), es[i]? = some e → es[i']? = some e' → i ≠ i' → e.g ≠ e'.g)
    {r : Rec} (hk : ky r ∉ uq (kl l)) (hgr : w2.grownBy w3 none) (hown : w3.ownsRow base 93 6 (.slice (some ⟨g', 0, none⟩) 1 cap') 1 (fl [r])) (hl : g' = w2.heap.size)
    (hb : b < base) (h4 : w3.grownBy w4 (some b)) (hm : Mp w4 b (ev es ++ [(qv (ky r), .slice (some ⟨g', 0, none⟩) 1 cap')])) : Gr w4 base b (l ++ [r]) := by
  have hother : ∀ (i : Nat) (e' : Ge), es[i]? = some e' → e'.q ≠ ky r := fun i e' he' hqq => hk (by rw [← hq, ← hqq]; exact List.mem_map.2 ⟨e', List.mem_of_getElem? he', rfl⟩)
  have hg' : base ≤ g' := (hown.lt g' rfl).1
  have hcase : ∀ (i : Nat) (e' : Ge), (es ++ [(⟨ky r, g', 1, cap'⟩ : Ge)])[i]? = some e' → (i < es.length ∧ es[i]? = some e') ∨ (i = es.length ∧ e' = ⟨ky r, g', 1, cap'⟩) := by
    intro i e' h
    by_cases hi : i < es.length
    · rw [List.getElem?_append_left hi] at h; exact Or.inl ⟨hi, h⟩
    · rw [List.getElem?_append_right (by omega)] at h
      have h0 : i - es.length = 0 := by
        have := (List.getElem?_eq_some_iff.1 h).1
        simpa using this
      rw [h0] at h
      exact Or.inr ⟨by omega, by simpa using h.symm⟩
  refine ⟨es ++ [⟨ky r, g', 1, cap'⟩], ?_, ?_, ?_, ?_⟩
  · have : ev (es ++ [⟨ky r, g', 1, cap'⟩]) = ev es ++ [(qv (ky r), .slice (some ⟨g', 0, none⟩) 1 cap')] := by rw [ev, List.map_append]; rfl
    rw [this]; exact hm
  · rw [List.map_append, uq_kl]
    show es.map (·.q) ++ [ky r] = add (uq (kl l)) (ky r)
    rw [add_out hk, hq]
  · intro i e' he'
    rcases hcase i e' he' with ⟨_, h⟩ | ⟨_, rfl⟩
    · have h5 := own_kept (ho i e' h) hgr (by simp)
      have h7 := own_lt h5
      have h6 := own_kept h5 h4 (fun h => by have h8 : e'.g = b := Option.some.inj h; omega)
      rw [sq_other l (hother i e' h)]
      exact h6
    · have h5 : w4.ownsRow base 93 6 (.slice (some ⟨g', 0, none⟩) 1 cap') 1 (fl [r]) := hown.kept h4 (Or.inr (fun h => by have h6 : g' = b := Option.some.inj h; omega))
      have h6 : sq (ky r) (l ++ [r]) = [r] := by rw [sq_same, sq_none (fun h => hk (mem_uq.2 h)), List.nil_append]
      show w4.ownsRow base 93 6 (.slice (some ⟨g', 0, none⟩) 1 cap') 1 (fl (sq (ky r) (l ++ [r])))
      rw [h6]
      exact h5
  · intro i i' e1 e2 h1 h2 hne
    rcases hcase i e1 h1 with ⟨hi, h1⟩ | ⟨hi, rfl⟩
    · rcases hcase i' e2 h2 with ⟨_, h2⟩ | ⟨_, rfl⟩
      · exact hd i i' e1 e2 h1 h2 hne
      · have := own_lt (ho i e1 h1)
        intro h
        have h8 : e1.g = g' := h
        omega
    · rcases hcase i' e2 h2 with ⟨_, h2⟩ | ⟨hi', rfl⟩
      · have := own_lt (ho i' e2 h2)
        intro h
        have h8 : g' = e2.g := h
        omega
      · omega
end
end Go.Proofs.YtmkcjjgicinggaaGreatDoor.GrpM
