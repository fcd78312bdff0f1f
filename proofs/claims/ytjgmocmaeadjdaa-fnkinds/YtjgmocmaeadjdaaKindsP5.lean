/- What CutsOf does in the program: the names of the cuts, each once. Condition: fewer than 400000001 records, no name of more than 400000000 bytes. -/
import Derived.Test.YtjgmocmaeadjdaaKindsP1
import Derived.Test.YtjgmocmaeadjdaaKindsP4
import Derived.WideKeyArgs2
import Derived.Laws.StructEq
import Derived.Test.YtjgmocmaeadjdaaWt
import Derived.Deep.DeepCutAuto
import Derived.Test.YtjgmocmaeadjdaaLabSpec
import Derived.Test.YtjgmocmaeadjdaaNameMath
import Derived.Test.YtjgmocmaeadjdaaShelf
import Derived.Test.YtjgmocmaeadjdaaAppS
import Derived.Test.YtjgmocmaeadjdaaZoneMath
import Derived.Test.YtjgmocmaeadjdaaMemZ
/- The keys of the program's maps: texts, ints, questions, records: of which the laws on maps may be asked. -/
namespace Go.Proofs.Ytjgmocmaeadjdaa.KeyT
open Go.MapKept Go.RowKit Go.Proofs.Ytjgmocmaeadjdaa.Mem Go.Proofs.Ytjgmocmaeadjdaa.MemR Go.Proofs.Ytjgmocmaeadjdaa.SetMath Go.Proofs.Ytjgmocmaeadjdaa.MemQ Go.Proofs.Ytjgmocmaeadjdaa.MapK

/-- A text as a key. -/
def KS (v : Value) : Prop := ∃ s : ByteArray, v = .string s

/-- An int as a key. -/
def KI (v : Value) : Prop := ∃ x : Int, v = .int .i64 x

/-- A question as a key. -/
def KQ (v : Value) : Prop := ∃ q : Key, v = qv q

/-- A record as a key. -/
def KR (v : Value) : Prop := ∃ r : Rec, v = .agg #[.string r.name, .int .i64 r.ty, .int .i64 r.ttl, .int .i64 r.n, .string r.host, .string r.text]

/-- Keys that are compared at once. -/
theorem plain {P : Program} {k : TypeId} {S : Value → Prop} (d : TypeDesc) (hd : P.underlying k = some d) (h : ∀ v, S v → IsKey d v) : MapK.KeyT P k S where
  check w em v hv := run_checkKey hd (h v hv) em 9999
  stays w v hv := run_keyThatStays (h v hv)
  find w x hx es hes := by
    rcases findNow_spec (h x hx) es 0 (fun e he => h _ (hes e he)) with ⟨h1, h2⟩ | ⟨j, e, h1, h2, h3⟩
    · exact Or.inl ⟨run_findKey hd h1, h2⟩
    · exact Or.inr ⟨j, e, by rw [run_findKey hd h1, Nat.zero_add], h2, h3⟩

theorem strings : MapK.KeyT Try.prog 9 KS := plain .string Try.underlying9 (by rintro v ⟨s, rfl⟩; trivial)

theorem ints : MapK.KeyT Try.prog 3 KI := plain (.int .i64) Try.underlying3 (by rintro v ⟨s, rfl⟩; exact rfl)

theorem bytes_ne {a b : ByteArray} (h : a ≠ b) : (a.toList == b.toList) = false := by
  cases e : (a.toList == b.toList) with
  | false => rfl
  | true =>
    have := eq_of_beq e
    rw [ByteArray.toList_eq, ByteArray.toList_eq] at this
    exact absurd (by cases a; cases b; congr; exact Array.toList_inj.1 this) h

theorem quest_same (q : Key) (w : World) : Sem.run Try.prog (Op.equal 28 (qv q) (qv q)) w = .ok true w := by
  have u3 := Try.underlying3
  have a3 := Try.isAgg3
  have z3 := Try.sizeOf3
  have u9 := Try.underlying9
  have a9 := Try.isAgg9
  have z9 := Try.sizeOf9
  have hS : Try.prog.underlying 28 = some (.struct (Try.prog.fieldsOf 28)) := by kernel_rfl
  have hp : Try.prog.stoodInHeld 28 = false := by kernel_rfl
  unfold qv Op.equal Op.maxDepth
  rw [show (10000 : Nat) = 9999 + 1 from rfl, run_equalIn_agg w 9999 28 _ _ hS hp]
  simp only [Program.fieldsOf, Try.underlying28]
  go_simp

theorem quest_diff {q p : Key} (h : q ≠ p) (w : World) : Sem.run Try.prog (Op.equal 28 (qv q) (qv p)) w = .ok false w := by
  have u3 := Try.underlying3
  have a3 := Try.isAgg3
  have z3 := Try.sizeOf3
  have u9 := Try.underlying9
  have a9 := Try.isAgg9
  have z9 := Try.sizeOf9
  have hS : Try.prog.underlying 28 = some (.struct (Try.prog.fieldsOf 28)) := by kernel_rfl
  have hp : Try.prog.stoodInHeld 28 = false := by kernel_rfl
  unfold qv Op.equal Op.maxDepth
  rw [show (10000 : Nat) = 9999 + 1 from rfl, run_equalIn_agg w 9999 28 _ _ hS hp]
  simp only [Program.fieldsOf, Try.underlying28]
  obtain ⟨n1, t1⟩ := q
  obtain ⟨n2, t2⟩ := p
  simp only
  by_cases c0 : n1 = n2
  · subst c0
    by_cases c1 : t1 = t2
    · subst c1; exact absurd rfl h
    · go_simp
  · have k := bytes_ne c0
    go_simp

theorem rec_same (r : Rec) (w : World) : Sem.run Try.prog (Op.equal 56 (.agg #[.string r.name, .int .i64 r.ty, .int .i64 r.ttl, .int .i64 r.n, .string r.host, .string r.text]) (.agg #[.string r.name, .int .i64 r.ty, .int .i64 r.ttl, .int .i64 r.n, .string r.host, .string r.text])) w = .ok true w := by
  have h := EqlR.eql_same r w
  rw [run_eql_struct] at h
  unfold Op.equal Op.maxDepth
  revert h
  cases Sem.run Try.prog (Op.equalIn 10000 56 (.agg #[.string r.name, .int .i64 r.ty, .int .i64 r.ttl, .int .i64 r.n, .string r.host, .string r.text]) (.agg #[.string r.name, .int .i64 r.ty, .int .i64 r.ttl, .int .i64 r.n, .string r.host, .string r.text])) w with
  | ok b w' => intro h; simp [Result.andThen] at h; rw [h.1, h.2]
  | halt h w' => intro h; simp [Result.andThen] at h

theorem rec_diff {r s : Rec} (h : r ≠ s) (w : World) : Sem.run Try.prog (Op.equal 56 (.agg #[.string r.name, .int .i64 r.ty, .int .i64 r.ttl, .int .i64 r.n, .string r.host, .string r.text]) (.agg #[.string s.name, .int .i64 s.ty, .int .i64 s.ttl, .int .i64 s.n, .string s.host, .string s.text])) w = .ok false w := by
  have h := EqlR.eql_diff h w
  rw [run_eql_struct] at h
  unfold Op.equal Op.maxDepth
  revert h
  cases Sem.run Try.prog (Op.equalIn 10000 56 (.agg #[.string r.name, .int .i64 r.ty, .int .i64 r.ttl, .int .i64 r.n, .string r.host, .string r.text]) (.agg #[.string s.name, .int .i64 s.ty, .int .i64 s.ttl, .int .i64 s.n, .string s.host, .string s.text])) w with
  | ok b w' => intro h; simp [Result.andThen] at h; rw [h.1, h.2]
  | halt h w' => intro h; simp [Result.andThen] at h

theorem bits_self (s : ByteArray) (n : Nat) : Instr.sameBits n (.string s) (.string s) = true := sameBits_self (d := .string) (k := .string s) trivial n

theorem bits_int (x : Int) (n : Nat) : Instr.sameBits n (.int .i64 x) (.int .i64 x) = true := sameBits_self (d := .int .i64) (k := .int .i64 x) rfl n

theorem bits_agg (xs : List Value) (n : Nat) (h : ∀ x ∈ xs, Instr.sameBits n x x = true) : Instr.sameBits (n + 1) (.agg xs.toArray) (.agg xs.toArray) = true := by
  rw [Instr.sameBits]
  simp only [beq_self_eq_true, Bool.true_and]
  rw [List.all_eq_true]
  rintro ⟨x, y⟩ hxy
  have e : x = y ∧ x ∈ xs := by
    clear h
    induction xs with
    | nil => cases hxy
    | cons a xs ih =>
      rw [List.zip_cons_cons] at hxy
      rcases List.mem_cons.1 hxy with h1 | h1
      · cases h1; exact ⟨rfl, by simp⟩
      · obtain ⟨h2, h3⟩ := ih h1; exact ⟨h2, by simp [h3]⟩
  obtain ⟨rfl, hm⟩ := e
  exact h x hm

theorem stays_agg {P : Program} (xs : List Value) (w : World) (h : ∀ x ∈ xs, Instr.sameBits 9999 x x = true) : (Instr.keyThatStays (.agg xs.toArray) (.agg xs.toArray)).run P w = .ok (.agg xs.toArray) w := by
  have := bits_agg xs 9999 h
  simp only [Instr.keyThatStays, this, if_true]
  rfl

theorem check_string (w : World) (em : Bool) (s : ByteArray) (n : Nat) : (Instr.checkKey em (n + 1) 9 (.string s)).run Try.prog w = .ok () w := run_checkKey Try.underlying9 (k := .string s) trivial em n

theorem check_int (w : World) (em : Bool) (x : Int) (n : Nat) : (Instr.checkKey em (n + 1) 3 (.int .i64 x)).run Try.prog w = .ok () w := run_checkKey Try.underlying3 (k := .int .i64 x) rfl em n

set_option maxRecDepth 100000 in
theorem quest_check (w : World) (em : Bool) (q : Key) : (Instr.checkKey em 10000 28 (qv q)).run Try.prog w = .ok () w := by
  have k0 : (Instr.checkKey em 9999 9 (.string q.name)).run Try.prog w = .ok () w := check_string w em q.name 9998
  have k1 : (Instr.checkKey em 9999 3 (.int .i64 q.ty)).run Try.prog w = .ok () w := check_int w em q.ty 9998
  have u3 := Try.underlying3
  have a3 := Try.isAgg3
  have z3 := Try.sizeOf3
  have u9 := Try.underlying9
  have a9 := Try.isAgg9
  have z9 := Try.sizeOf9
  rw [show (10000 : Nat) = 9999 + 1 from rfl, Instr.checkKey]
  unfold qv
  simp only [Sem.run_bind, run_underlying Try.underlying28, Result.andThen]
  rw [← Array.forIn_toList]
  generalize 9999 = N at *
  go_simp

set_option maxRecDepth 100000 in
theorem rec_check (w : World) (em : Bool) (r : Rec) : (Instr.checkKey em 10000 56 (.agg #[.string r.name, .int .i64 r.ty, .int .i64 r.ttl, .int .i64 r.n, .string r.host, .string r.text])).run Try.prog w = .ok () w := by
  have k0 : (Instr.checkKey em 9999 9 (.string r.name)).run Try.prog w = .ok () w := check_string w em r.name 9998
  have k1 : (Instr.checkKey em 9999 3 (.int .i64 r.ty)).run Try.prog w = .ok () w := check_int w em r.ty 9998
  have k2 : (Instr.checkKey em 9999 3 (.int .i64 r.ttl)).run Try.prog w = .ok () w := check_int w em r.ttl 9998
  have k3 : (Instr.checkKey em 9999 3 (.int .i64 r.n)).run Try.prog w = .ok () w := check_int w em r.n 9998
  have k4 : (Instr.checkKey em 9999 9 (.string r.host)).run Try.prog w = .ok () w := check_string w em r.host 9998
  have k5 : (Instr.checkKey em 9999 9 (.string r.text)).run Try.prog w = .ok () w := check_string w em r.text 9998
  have u3 := Try.underlying3
  have a3 := Try.isAgg3
  have z3 := Try.sizeOf3
  have u9 := Try.underlying9
  have a9 := Try.isAgg9
  have z9 := Try.sizeOf9
  rw [show (10000 : Nat) = 9999 + 1 from rfl, Instr.checkKey]
  simp only [Sem.run_bind, run_underlying Try.underlying56, Result.andThen]
  rw [← Array.forIn_toList]
  generalize 9999 = N at *
  go_simp

theorem qv_ne {q p : Key} (h : qv q ≠ qv p) : q ≠ p := fun e => h (by rw [e])

theorem qv_inj {q p : Key} (h : qv q = qv p) : q = p := by
  obtain ⟨a, b⟩ := q
  obtain ⟨c, d⟩ := p
  simp [qv] at h
  rw [h.1, h.2]

theorem rv_inj {r s : Rec} (h : (.agg #[.string r.name, .int .i64 r.ty, .int .i64 r.ttl, .int .i64 r.n, .string r.host, .string r.text] : Value) = .agg #[.string s.name, .int .i64 s.ty, .int .i64 s.ttl, .int .i64 s.n, .string s.host, .string s.text]) : r = s := by
  obtain ⟨a, b, c, d, e, f⟩ := r
  obtain ⟨a', b', c', d', e', f'⟩ := s
  simp at h
  obtain ⟨rfl, rfl, rfl, rfl, rfl, rfl⟩ := h
  rfl

theorem quests : MapK.KeyT Try.prog 28 KQ := by
  refine KeyT.struct _ Try.underlying28 (fun _ _ _ => rfl) ?_ ?_ ?_ ?_
  · rintro w em v ⟨q, rfl⟩; exact quest_check w em q
  · rintro w x ⟨q, rfl⟩; exact quest_same q w
  · rintro w x y ⟨q, rfl⟩ ⟨p, rfl⟩ h; exact quest_diff (qv_ne h) w
  · rintro w v ⟨q, rfl⟩
    refine stays_agg [.string q.name, .int .i64 q.ty] w ?_
    simp only [List.mem_cons, List.not_mem_nil, or_false]
    rintro x (rfl | rfl)
    · exact bits_self _ _
    · exact bits_int _ _

theorem recs : MapK.KeyT Try.prog 56 KR := by
  refine KeyT.struct _ Try.underlying56 (fun _ _ _ => rfl) ?_ ?_ ?_ ?_
  · rintro w em v ⟨r, rfl⟩; exact rec_check w em r
  · rintro w x ⟨r, rfl⟩; exact rec_same r w
  · rintro w x y ⟨r, rfl⟩ ⟨s, rfl⟩ h; exact rec_diff (fun e => h (by rw [e])) w
  · rintro w v ⟨r, rfl⟩
    refine stays_agg [.string r.name, .int .i64 r.ty, .int .i64 r.ttl, .int .i64 r.n, .string r.host, .string r.text] w ?_
    simp only [List.mem_cons, List.not_mem_nil, or_false]
    rintro x (rfl | rfl | rfl | rfl | rfl | rfl) <;> first | exact bits_self _ _ | exact bits_int _ _
end Go.Proofs.Ytjgmocmaeadjdaa.KeyT

/- What firstsOf does at questions: a new slice with the questions, each once, in the order of the first occurrences. Condition: fewer than 400000001 of them. -/
namespace Go.Proofs.Ytjgmocmaeadjdaa.FstQ
open Go.RowKit Go.Proofs.Ytjgmocmaeadjdaa.Mem Go.Proofs.Ytjgmocmaeadjdaa.SetMath Go.Proofs.Ytjgmocmaeadjdaa.MapK Go.Proofs.Ytjgmocmaeadjdaa.KeyT Go.Proofs.Ytjgmocmaeadjdaa.MemQ

/-- The entries of a set. -/
def en (l : List Key) : List (Value × Value) := l.map (fun x => (qv x, .bool true))

theorem en_key (l : List Key) : ∀ p ∈ en l, KQ p.1 := by
  intro p hp
  obtain ⟨x, _, rfl⟩ := List.mem_map.1 hp
  exact ⟨x, rfl⟩

theorem val_inj {x y : Key} (h : (qv x : Value) = qv y) : x = y := by exact qv_inj h

theorem en_out {l : List Key} {x : Key} (h : x ∉ l) : ∀ p ∈ en l, p.1 ≠ qv x := by
  intro p hp e
  obtain ⟨y, hy, rfl⟩ := List.mem_map.1 hp
  exact h (val_inj e ▸ hy)

theorem en_in {l : List Key} {x : Key} (h : x ∈ l) : (qv x, Value.bool true) ∈ en l := List.mem_map.2 ⟨x, h, rfl⟩

theorem en_nodup : ∀ {l : List Key}, l.Nodup → ((en l).map Prod.fst).Nodup
  | [], _ => by simp [en]
  | x :: l, h => by
    obtain ⟨h1, h2⟩ := List.nodup_cons.1 h
    show (qv x :: (en l).map Prod.fst).Nodup
    refine List.nodup_cons.2 ⟨fun hm => ?_, en_nodup h2⟩
    obtain ⟨p, hp, he⟩ := List.mem_map.1 hm
    exact en_out h1 p hp he

theorem en_snoc (l : List Key) (x : Key) : en (l ++ [x]) = en l ++ [(qv x, .bool true)] := by simp [en]

theorem zero (w : World) : (zeroValue 4).run Try.prog w = .ok (.bool false) w := by kernel_rfl

theorem made_own (w : World) : ((w.alloc (.map #[] 0)).alloc (.cells #[] 28)).ownsRow (w.heap.size + 1) 28 2 (.slice (some ⟨w.heap.size + 1, 0, none⟩) 0 0) 0 [] := by
  have e : (w.alloc (.map #[] 0)).heap.size = w.heap.size + 1 := by simp
  have := owns_new (w.alloc (.map #[] 0))
  rwa [e] at this

end Go.Proofs.Ytjgmocmaeadjdaa.FstQ

/- What keyOf and KeysOf do in the program: the name and the type of a record; the keys of all records, each once. Condition: fewer than 400000001 records. -/
namespace Go.Proofs.Ytjgmocmaeadjdaa.KeyI
open Go.RowKit Go.Proofs.Ytjgmocmaeadjdaa.Mem Go.Proofs.Ytjgmocmaeadjdaa.MemR Go.Proofs.Ytjgmocmaeadjdaa.SetMath Go.Proofs.Ytjgmocmaeadjdaa.MemQ

set_option maxHeartbeats 1000000 in
theorem keyOf (r : Rec) (w : World) : Calls Try.prog 49 #[.agg #[.string r.name, .int .i64 r.ty, .int .i64 r.ttl, .int .i64 r.n, .string r.host, .string r.text]] w fun e w' => e = .returned (.agg #[.string r.name, .int .i64 r.ty]) ∧ Below w.heap.size w w' := by
  go_enter Try.func49, Try.ntmps49
  go_wp2
  refine bodyPost_ret (v := .agg #[.string r.name, .int .i64 r.ty]) (by simp [results, Try.results49, go_sem]) rfl ⟨rfl, ?_⟩
  repeat (first | exact Below.refl _ _ | refine Below.setCell ?_ (by simp; try omega) _ | refine Below.alloc ?_ (by simp; try omega) _)

end Go.Proofs.Ytjgmocmaeadjdaa.KeyI

/- What setsOf and SetOf do in the program: a map of slices, one for each name and type; the records of a name and a type, in order. Condition: fewer than 100000001 records. -/
namespace Go.Proofs.Ytjgmocmaeadjdaa.SetI
open Go.RowKit Go.Proofs.Ytjgmocmaeadjdaa.Mem Go.Proofs.Ytjgmocmaeadjdaa.MemR Go.Proofs.Ytjgmocmaeadjdaa.SetMath Go.Proofs.Ytjgmocmaeadjdaa.MemQ Go.Proofs.Ytjgmocmaeadjdaa.MapK Go.Proofs.Ytjgmocmaeadjdaa.MapE Go.Proofs.Ytjgmocmaeadjdaa.GrpM Go.Proofs.Ytjgmocmaeadjdaa.AppR Go.Proofs.Ytjgmocmaeadjdaa.Wt

/-- The call returned a map of groups, and turned nothing that was there. -/
def GivesG (w : World) (l : List Rec) (e : Ending) (w' : World) : Prop :=
  ∃ b, e = .returned (.map (some b)) ∧ w.heap.size ≤ b ∧ Gr w' (w.heap.size + 1) b l ∧ Below w.heap.size w w'

theorem zero (w : World) : (zeroValue 24).run Try.prog w = .ok (.slice none 0 0) w := by kernel_rfl

theorem gr_zero {w : World} {base b : Nat} {l : List Rec} (h : Mp w b []) : Gr w base b (l.take 0) :=
  ⟨[], h, rfl, fun i e he => by simp at he, fun i i' e e' he => by simp at he⟩

set_option maxHeartbeats 2000000 in
/-- copyRecords of nil. -/
theorem copyNil (w : World) : Calls Try.prog 61 #[.slice none 0 0] w (CpyR.GivesC w 0 []) := by
  have L0 := Lib.hid ((Below.refl w.heap.size w).alloc (Nat.le_refl _) (.cells #[] 56))
  have O0 := Lib.hid (AppR.owns_new w)
  go_enter Try.func61, Try.ntmps61
  obtain ⟨i0, hi, hz0, hz1, hz2⟩ := info_parts CopyR.info
  go_wp2_with (at_builtin; refine wpList_append_own_none rfl (.tmp 3) (.tmp 4) 24 rfl w.heap.size 56 i0 6 Try.underlying24 hi hz1 _ 0 [] rfl O0.out rfl ?_)
  go_wp2
  go_ret
  obtain ⟨r, hb, _, _, hg⟩ := bk_of_owns6 O0.out
  exact ⟨w.heap.size, 0, r, rfl, Nat.le_refl _, hg, hb, L0.out⟩

set_option maxRecDepth 100000 in
set_option maxHeartbeats 4000000 in
theorem sets (b0 o0 n c : Nat) (l : List Rec) (w : World) (hs : Sr w w.heap.size (some ⟨b0, o0, none⟩) n l) (hn : n ≤ 100000000) : Calls Try.prog 27 #[.slice (some ⟨b0, o0, none⟩) n c] w (GivesG w l) := by
  have HS := Lib.hid hs
  clear hs
  have hmm := @run_makeMap Try.prog
  obtain ⟨i0, hi, hz0, hz1, hz2⟩ := info_parts CopyR.info
  have P0 := Lib.hid (gr_zero (base := w.heap.size + 1) (l := l) (Mp.made w))
  have L0 := Lib.hid ((Below.refl w.heap.size w).alloc (Nat.le_refl _) (.map #[] 0))
  go_enter Try.func27, Try.ntmps27
  go_wp2
  generalize w.alloc (.map #[] 0) = w0 at *
  go_loopw [10] (fun i wr => ∃ k : Nat, k ≤ n ∧ i = .int .i64 k ∧ Hid (Gr wr (w.heap.size + 1) w.heap.size (l.take k)) ∧ Hid (Below w.heap.size w wr)) (fun i _ => n - (intOf i).toNat)
  case atStart => exact ⟨0, Nat.zero_le _, rfl, P0.out, L0.out⟩
  case round =>
    clear P0 L0
    obtain ⟨k, hk, rfl, HO, HL⟩ := hrel
    by_cases hlt : k < n
    · obtain ⟨b, off, hA, hbB, hcs⟩ := HS.out.2 (by omega)
      obtain ⟨rfl, rfl⟩ : b0 = b ∧ o0 = off := by simp at hA; exact hA
      clear hA
      have hkl : k < l.length := by rw [HS.out.1]; exact hlt
      obtain ⟨e0, e1, e2, e3, e4, e5⟩ := (hcs k hkl).below HL.out hbB
      clear hcs
      have HT := Lib.hid (List.take_succ_eq_append_getElem hkl)
      have HTL : Hid ((l.take k).length = k) := show _ = _ by simp; omega
      generalize l[k] = r at *
      obtain ⟨es, hm, hq, ho, hd⟩ := HO.out
      clear HO
      have HM := Lib.hid hm
      have HQ := Lib.hid hq
      have HR := Lib.hid ho
      have HD := Lib.hid hd
      clear hm hq ho hd
      have B1 : Hid (Bk (wr.alloc (.cells #[.string r.name, .int .i64 r.ty, .int .i64 r.ttl, .int .i64 r.n, .string r.host, .string r.text] 56)) wr.heap.size 56 (rc r)) := heap_alloc_new wr _
      have hgB : w.heap.size ≤ wr.heap.size := HL.out.size
      go_wp2_with fail
      refine (KeyI.keyOf r _).mono ?_
      rintro e w1 ⟨rfl, hl⟩
      have hlA : Below wr.heap.size wr w1 := ((Below.refl wr.heap.size wr).alloc (Nat.le_refl _) _).trans (hl.mono (by simp))
      have M1 := Lib.hid ((HM.out.below hlA HM.out.lt).alloc (.cells #[.string r.name, .int .i64 r.ty] 28))
      have R1 := Lib.hid (rows_kept HR.out (row := none) (w' := w1.alloc (.cells #[.string r.name, .int .i64 r.ty] 28)) (World.grownBy.trans ⟨hlA.os, hlA.tape, hlA.output, hlA.size, fun k hk _ => hlA.block k hk⟩ (World.grownBy_alloc w1 _ none)) (by simp))
      have L1 := Lib.hid ((HL.out.trans (hlA.mono HL.out.size)).alloc (Nat.le_trans HL.out.size hlA.size) (.cells #[.string r.name, .int .i64 r.ty] 28))
      have X1 := Lib.hid ((B1.out.below hl (by simp)).alloc (.cells #[.string r.name, .int .i64 r.ty] 28))
      have Y1 : Hid (Bk (w1.alloc (.cells #[.string r.name, .int .i64 r.ty] 28)) w1.heap.size 28 [.string r.name, .int .i64 r.ty]) := heap_alloc_new w1 _
      clear hl hlA HM HR HL B1 e0 e1 e2 e3 e4 e5
      go_upto_region 6 with (fail)
      generalize w1.alloc (.cells #[.string r.name, .int .i64 r.ty] 28) = w2 at *
      generalize w1.heap.size = gk at *
      have x0 := Y1.out.cell 0
      have x1 := Y1.out.cell 1
      have y0 : w2.cell? ⟨wr.heap.size, 0, none⟩ = some (.string r.name) := X1.out.cell 0
      have y1 : w2.cell? ⟨wr.heap.size, 1, none⟩ = some (.int .i64 r.ty) := X1.out.cell 1
      have y2 : w2.cell? ⟨wr.heap.size, 2, none⟩ = some (.int .i64 r.ttl) := X1.out.cell 2
      have y3 : w2.cell? ⟨wr.heap.size, 3, none⟩ = some (.int .i64 r.n) := X1.out.cell 3
      have y4 : w2.cell? ⟨wr.heap.size, 4, none⟩ = some (.string r.host) := X1.out.cell 4
      have y5 : w2.cell? ⟨wr.heap.size, 5, none⟩ = some (.string r.text) := X1.out.cell 5
      have KT := KeyT.quests
      have M3 := Lib.hid (M1.out.alloc (.cells #[.string r.name, .int .i64 r.ty, .int .i64 r.ttl, .int .i64 r.n, .string r.host, .string r.text] 56))
      have R3 := Lib.hid (rows_kept R1.out (World.grownBy_alloc w2 (.cells #[.string r.name, .int .i64 r.ty, .int .i64 r.ttl, .int .i64 r.n, .string r.host, .string r.text] 56) none) (by simp))
      have L3 := Lib.hid (L1.out.alloc L1.out.size (.cells #[.string r.name, .int .i64 r.ty, .int .i64 r.ttl, .int .i64 r.n, .string r.host, .string r.text] 56))
      have N3 : Hid (Bk (w2.alloc (.cells #[.string r.name, .int .i64 r.ty, .int .i64 r.ttl, .int .i64 r.n, .string r.host, .string r.text] 56)) w2.heap.size 56 (fl [r])) := heap_alloc_new w2 _
      have HB : Hid (w.heap.size < w2.heap.size) := M1.out.lt
      have HS' := Lib.hid (ev_key es)
      have HND := Lib.hid (ev_nodup (es := es) (by rw [HQ.out]; exact nodup_uq _))
      have HX : Hid (KeyT.KQ (qv (ky r))) := ⟨ky r, rfl⟩
      clear M1 R1 L1 X1 Y1 hgB
      by_cases hin : ky r ∈ uq (kl (l.take k))
      · obtain ⟨j, e, hj, hk'⟩ : ∃ (j : Nat) (e : Ge), es[j]? = some e ∧ e.q = ky r := by
          rw [← HQ.out] at hin
          obtain ⟨e, he, hq⟩ := List.mem_map.1 hin
          obtain ⟨j, hj⟩ := List.getElem?_of_mem he
          exact ⟨j, e, hj, hq⟩
        have HJ := Lib.hid hj
        have HK := Lib.hid hk'
        have hem : e.m ≤ k := by
          have h1 := own_m (R3.out j e hj)
          have h2 := sf_len_take e.q.name e.q.ty l k
          have h3 : (sq e.q (l.take k)).length ≤ k := h2
          omega
        have EN := Lib.hid (entry_old M3.out KT Try.underlying48 HS'.out HND.out HX.out (show (ev es)[j]? = some (qv (ky r), sv e) from by rw [← hk']; exact ev_at hj))
        clear hin hj hk'
        go_wp2_with (guard_target =~ wpList _ _ _ ({ dst := _, op := Op.mapEntry _ _ _, type := _, pos := _, after := _, guard := _ } :: _) _ _; refine wp_entry rfl (.tmp 16) (.tmp 17) rfl (qv (ky r)) (sv e) rfl rfl (ev es) j EN.out ?_)
        intro w4 st m4 g4 s4
        have M4 := Lib.hid m4
        have R4 := Lib.hid (rows_kept R3.out g4 (fun g hg _ h => by have h8 : g = w.heap.size := Option.some.inj h; omega))
        have L4 := Lib.hid (L3.out.grown g4 L3.out.size (fun j hj => by cases hj; exact Nat.le_refl _))
        have N4 := Lib.hid (N3.out.grown g4 (fun h => by have h8 : w2.heap.size = w.heap.size := Option.some.inj h; have := HB.out; omega))
        have S4 : Hid (w4.heap.size = w2.heap.size + 1) := s4
        clear m4 g4 s4 EN M3 R3 L3 N3 x0 x1 y0 y1 y2 y3 y4 y5
        go_wp2_with (at_builtin; refine wpList_append_lies w4 rfl (.tmp 18) (.tmp 20) 24 rfl (w.heap.size + 1) 56 i0 _ 6 72 Try.underlying24 hi hz0 hz1 hz2 rfl (by decide) (sv e) e.m (fl (sq e.q (l.take k))) rfl (R4.out j e HJ.out) ⟨w2.heap.size, 0, none⟩ 1 1 (fl [r]) rfl rfl (World.news_of_block N4.out) (one_fl [r]) (by decide) (by unfold maxLen; omega) (by omega) (by have h1 := HB.out; have h2 := S4.out; omega) w4.heap.size rfl ?_)
        intro g' cap' w5 hown hgrow hlies hlt5
        have O5 := Lib.hid hown
        have G5 : Hid (w4.grownBy w5 (some e.g)) := hgrow
        have LI : Hid (e.g = g' ∨ g' = w4.heap.size) := hlies.imp (fun h => Option.some.inj h) id
        have NB : Hid (some w.heap.size ≠ some e.g) := fun h => by
          have h8 : w.heap.size = e.g := Option.some.inj h
          have := own_lt (R4.out j e HJ.out)
          omega
        have ST := Lib.hid ((M4.out.grown G5.out NB.out).store (P := Try.prog) 48 (show (ev es)[j]? = some (qv e.q, sv e) from ev_at HJ.out) (.slice (some ⟨g', 0, none⟩) (e.m + 1) cap'))
        have L5 := Lib.hid (L4.out.grown G5.out L4.out.size (fun i hi => by cases hi; have := own_lt (R4.out j e HJ.out); omega))
        clear hown hgrow hlies hlt5 M4 N4 L4
        rw [HK.out] at ST
        go_wp2_with (guard_target =~ wpList _ _ _ ({ dst := _, op := Op.entryStore _ _ _ _, type := _, pos := _, after := _, guard := _ } :: _) _ _; refine wp_stamp rfl (.tmp 16) (.tmp 23) (.tmp 22) rfl (.slice (some ⟨g', 0, none⟩) (e.m + 1) cap') rfl rfl rfl ((ev es).set j (qv (ky r), .slice (some ⟨g', 0, none⟩) (e.m + 1) cap')) ST.out ?_)
        intro w6 m6 g6 s6
        have GG : Hid (Gr w6 (w.heap.size + 1) w.heap.size (l.take k ++ [r])) := gr_old HQ.out R4.out HD.out HJ.out HK.out G5.out O5.out LI.out (Nat.lt_succ_self _) g6 m6
        have L6 := Lib.hid (L5.out.grown g6 L5.out.size (fun j hj => by cases hj; exact Nat.le_refl _))
        clear m6 g6 s6 ST L5 O5 G5 LI NB R4
        go_wp2
        go_roundw
        case rel => exact ⟨k + 1, by omega, by go_num, by rw [HT.out]; exact GG.out, L6.out⟩
        case measure => simp [intOf]; omega
      · have HI := Lib.hid hin
        have HO' : Hid (∀ p ∈ ev es, p.1 ≠ qv (ky r)) := ev_out (by rw [HQ.out]; exact hin)
        have EN := Lib.hid (entry_new M3.out KT Try.underlying48 (zero _) HS'.out HX.out HO'.out)
        clear hin
        go_wp2_with (guard_target =~ wpList _ _ _ ({ dst := _, op := Op.mapEntry _ _ _, type := _, pos := _, after := _, guard := _ } :: _) _ _; refine wp_entry rfl (.tmp 16) (.tmp 17) rfl (qv (ky r)) (.slice none 0 0) rfl rfl (ev es ++ [(qv (ky r), .slice none 0 0)]) (ev es).length EN.out ?_)
        intro w4 st m4 g4 s4
        have M4 := Lib.hid m4
        have R4 := Lib.hid (rows_kept R3.out g4 (fun g hg _ h => by have h8 : g = w.heap.size := Option.some.inj h; omega))
        have L4 := Lib.hid (L3.out.grown g4 L3.out.size (fun j hj => by cases hj; exact Nat.le_refl _))
        have N4 := Lib.hid (N3.out.grown g4 (fun h => by have h8 : w2.heap.size = w.heap.size := Option.some.inj h; have := HB.out; omega))
        have S4 : Hid (w4.heap.size = w2.heap.size + 1) := s4
        clear m4 g4 s4 EN M3 R3 L3 N3 x0 x1 y0 y1 y2 y3 y4 y5
        go_wp2_with (at_builtin; refine wpList_append_lies w4 rfl (.tmp 18) (.tmp 20) 24 rfl (w.heap.size + 1) 56 i0 _ 6 72 Try.underlying24 hi hz0 hz1 hz2 rfl (by decide) (.slice none 0 0) 0 [] rfl (World.ownsRow_nil w4 _ _ _) ⟨w2.heap.size, 0, none⟩ 1 1 (fl [r]) rfl rfl (World.news_of_block N4.out) (one_fl [r]) (by decide) (by unfold maxLen; omega) (by omega) (by have h1 := HB.out; have h2 := S4.out; omega) w4.heap.size rfl ?_)
        intro g' cap' w5 hown hgrow hlies hlt5
        have O5 : Hid (w5.ownsRow (w.heap.size + 1) 56 6 (.slice (some ⟨g', 0, none⟩) 1 cap') 1 (fl [r])) := hown
        have G5 : Hid (w4.grownBy w5 none) := hgrow
        have LI : Hid (g' = w4.heap.size) := hlies.elim (fun h => by cases h) id
        have ST := Lib.hid ((M4.out.grown G5.out (by simp)).store (P := Try.prog) 48 (show (ev es ++ [(qv (ky r), Value.slice none 0 0)])[(ev es).length]? = some (qv (ky r), .slice none 0 0) from by rw [List.getElem?_append_right (Nat.le_refl _), Nat.sub_self]; rfl) (.slice (some ⟨g', 0, none⟩) 1 cap'))
        have L5 := Lib.hid (L4.out.grown G5.out L4.out.size (fun i hi => by cases hi))
        have EQ : Hid ((ev es ++ [(qv (ky r), Value.slice none 0 0)]).set (ev es).length (qv (ky r), Value.slice (some ⟨g', 0, none⟩) 1 cap') = ev es ++ [(qv (ky r), Value.slice (some ⟨g', 0, none⟩) 1 cap')]) := show _ = _ by
          rw [List.set_append_right _ _ (Nat.le_refl _), Nat.sub_self]; rfl
        clear hown hgrow hlies hlt5 M4 N4 L4
        rw [EQ.out] at ST
        go_wp2_with (guard_target =~ wpList _ _ _ ({ dst := _, op := Op.entryStore _ _ _ _, type := _, pos := _, after := _, guard := _ } :: _) _ _; refine wp_stamp rfl (.tmp 16) (.tmp 23) (.tmp 22) rfl (.slice (some ⟨g', 0, none⟩) 1 cap') rfl rfl rfl (ev es ++ [(qv (ky r), .slice (some ⟨g', 0, none⟩) 1 cap')]) ST.out ?_)
        intro w6 m6 g6 s6
        have GG : Hid (Gr w6 (w.heap.size + 1) w.heap.size (l.take k ++ [r])) := gr_new HQ.out R4.out HD.out HI.out G5.out O5.out LI.out (Nat.lt_succ_self _) g6 m6
        have L6 := Lib.hid (L5.out.grown g6 L5.out.size (fun j hj => by cases hj; exact Nat.le_refl _))
        clear m6 g6 s6 ST L5 O5 G5 LI EQ R4
        go_wp2
        go_roundw
        case rel => exact ⟨k + 1, by omega, by go_num, by rw [HT.out]; exact GG.out, L6.out⟩
        case measure => simp [intOf]; omega
    · obtain rfl : n = k := by omega
      have HN := Lib.hid (take_all HS.out.1)
      go_wp2
      go_ret
      exact ⟨w.heap.size, rfl, Nat.le_refl _, by have := HO.out; rw [HN.out] at this; exact this, HL.out⟩

set_option maxHeartbeats 4000000 in
theorem impl (s : ByteArray) (t : Int) (b0 o0 n c : Nat) (l : List Rec) (w : World) (hs : Sr w w.heap.size (some ⟨b0, o0, none⟩) n l) (hn : n ≤ 100000000) : Calls Try.prog 73 #[.slice (some ⟨b0, o0, none⟩) n c, .string s, .int .i64 t] w (GivesL w (sf s t l)) := by
  have SE := Lib.hid (sets b0 o0 n c l w hs hn)
  have HN := Lib.hid hs.1
  clear hs
  go_enter Try.func73, Try.ntmps73
  go_wp2_with fail
  refine SE.out.mono ?_
  rintro e w1 ⟨b, rfl, hb, ⟨es, hm, hq, ho, hd⟩, hl⟩
  have M1 := Lib.hid hm
  have HQ := Lib.hid hq
  have R1 := Lib.hid ho
  have L1 := Lib.hid hl
  have HS' := Lib.hid (ev_key es)
  have HND := Lib.hid (ev_nodup (es := es) (by rw [hq]; exact nodup_uq _))
  have HX : Hid (KeyT.KQ (qv ⟨s, t⟩)) := ⟨⟨s, t⟩, rfl⟩
  have KT := KeyT.quests
  clear hm hq ho hd hl SE hb
  by_cases hin : (⟨s, t⟩ : Key) ∈ uq (kl l)
  · obtain ⟨j, e, hj, hk'⟩ : ∃ (j : Nat) (e : Ge), es[j]? = some e ∧ e.q = ⟨s, t⟩ := by
      rw [← HQ.out] at hin
      obtain ⟨e, he, hq⟩ := List.mem_map.1 hin
      obtain ⟨j, hj⟩ := List.getElem?_of_mem he
      exact ⟨j, e, hj, hq⟩
    have OW := Lib.hid (R1.out j e hj)
    have HE : Hid (sq e.q l = sf s t l) := show _ = _ by rw [hk']; rfl
    have HM := Lib.hid (own_m OW.out)
    have hm : e.m ≤ n := by
      have h1 := HM.out
      have h2 := sf_len e.q.name e.q.ty l
      have h3 : (sq e.q l).length ≤ l.length := h2
      have := HN.out
      omega
    have LK : Hid ((Instr.lookup 48 (.map (some b)) (.agg #[.string s, .int .i64 t]) false).run Try.prog w1 = .ok (.slice (some ⟨e.g, 0, none⟩) e.m e.cap) w1) := M1.out.in KT Try.underlying48 HS'.out HND.out HX.out (show (qv ⟨s, t⟩, sv e) ∈ ev es from by rw [← hk']; exact List.mem_of_getElem? (ev_at hj)) false
    have SR : Hid (Sr w1 w1.heap.size (some ⟨e.g, 0, none⟩) e.m (sf s t l)) := by
      obtain ⟨r', hb, _⟩ := bk_of_owns6 OW.out
      rw [HE.out] at hb HM
      exact bk_sr hb HM.out
    clear hin hj hk'
    go_wp2_with (at_lookup; refine wp_look rfl _ _ false rfl (.agg #[.string s, .int .i64 t]) (.slice (some ⟨e.g, 0, none⟩) e.m e.cap) rfl rfl LK.out ?_)
    refine (CpyR.copyI e.g 0 e.m e.cap (sf s t l) w1 SR.out (by omega)).mono ?_
    rintro e' w2 ⟨g, cp, r, rfl, hcap, hg, hb, hl⟩
    have B2 := Lib.hid hb
    have G2 := Lib.hid (Nat.le_trans L1.out.size hg)
    have L2 := Lib.hid (L1.out.trans (hl.mono L1.out.size))
    have C2 := Lib.hid hcap
    have H2 : Hid ((sf s t l).length = e.m) := by rw [HE.out] at HM; exact HM
    clear hb hg hl hcap
    go_wp2
    go_ret
    exact ⟨g, e.m, cp, r, rfl, H2.out, C2.out, G2.out, B2.out, L2.out⟩
  · have HE : Hid (sf s t l = []) := sq_none (q := ⟨s, t⟩) (fun h => hin (mem_uq.2 h))
    have LK : Hid ((Instr.lookup 48 (.map (some b)) (.agg #[.string s, .int .i64 t]) false).run Try.prog w1 = .ok (.slice none 0 0) w1) := M1.out.out KT Try.underlying48 (zero _) HS'.out HX.out (ev_out (by rw [HQ.out]; exact hin)) false
    clear hin
    go_wp2_with (at_lookup; refine wp_look rfl _ _ false rfl (.agg #[.string s, .int .i64 t]) (.slice none 0 0) rfl rfl LK.out ?_)
    refine (copyNil w1).mono ?_
    rintro e' w2 ⟨g, cp, r, rfl, hcap, hg, hb, hl⟩
    have B2 := Lib.hid hb
    have G2 := Lib.hid (Nat.le_trans L1.out.size hg)
    have L2 := Lib.hid (L1.out.trans (hl.mono L1.out.size))
    have C2 := Lib.hid hcap
    clear hb hg hl hcap
    go_wp2
    go_ret
    rw [HE.out]
    exact ⟨g, 0, cp, r, rfl, rfl, C2.out, G2.out, B2.out, L2.out⟩
end Go.Proofs.Ytjgmocmaeadjdaa.SetI

/- What the program's Under does, by the library's proved contract of strings.HasSuffix: it tells whether the labels of its second text end those of its first. Condition: at most 400000000 bytes each. -/
namespace Go.Proofs.Ytjgmocmaeadjdaa.UnderImpl
open Go.RowKit Go.Proofs.Ytjgmocmaeadjdaa.Mem Go.Proofs.Ytjgmocmaeadjdaa.MemS Go.Proofs.Ytjgmocmaeadjdaa.Split Go.Proofs.Ytjgmocmaeadjdaa.NameMath

theorem hasSuffix (s p : ByteArray) (w : World) (hs : s.size ≤ 400000000) : Calls Try.prog 50 #[.string s, .string p] w fun e w' => e = .returned (.bool (Lib.hasSuffix s.data.toList p.data.toList)) ∧ w' = w :=
  Go.Proofs.Any.strings_HasSuffix Try.lays100 s p w (by omega)

set_option maxHeartbeats 1000000 in
theorem impl (a b : ByteArray) (w : World) (ha : a.size ≤ 400000000) (hb : b.size ≤ 400000000) : Calls Try.prog 28 #[.string a, .string b] w fun e w' => e = .returned (.bool (Un a b)) ∧ w = w' := by
  by_cases h0 : b.size = 0
  · have HU := Lib.hid (un_root (a := a) h0)
    obtain rfl : b = ⟨#[]⟩ := text_ext (List.eq_nil_of_length_eq_zero (by simpa using h0))
    clear h0 hb
    go_enter Try.func28, Try.ntmps28
    go_wp2
    go_ret
    rw [HU.out]
    exact ⟨rfl, rfl⟩
  · have hne : b.toList.isEmpty = false := Labels.not_empty b h0
    by_cases h : a = b
    · subst h
      have HU := Lib.hid (un_self a)
      clear h0
      go_enter Try.func28, Try.ntmps28
      go_wp2
      go_ret
      rw [HU.out]
      exact ⟨rfl, rfl⟩
    · have HU : Hid (Un a b = Lib.hasSuffix a.data.toList ((⟨#[46]⟩ : ByteArray) ++ b).data.toList) := by
        show _ = _
        rw [un_else h0 h, text_add]
        rfl
      have hq : (a.toList == b.toList) = false := by
        rw [beq_eq_false_iff_ne, ByteArray.toList_eq, ByteArray.toList_eq]
        exact fun e => h (text_ext e)
      have hq2 : (a.data.toList == b.data.toList) = false := by
        rw [beq_eq_false_iff_ne]
        exact fun e => h (text_ext e)
      clear h0 h
      have HS := Lib.hid (fun p w => hasSuffix a p w ha)
      go_enter Try.func28, Try.ntmps28
      go_wp2_with fail
      refine (HS.out _ w).mono ?_
      rintro e w1 ⟨rfl, rfl⟩
      go_wp2
      go_ret
      rw [HU.out]
      exact ⟨rfl, rfl⟩
end Go.Proofs.Ytjgmocmaeadjdaa.UnderImpl

/- What firstsOf does at texts: a new slice with the texts, each once, in the order of the first occurrences. Condition: fewer than 400000001 of them. -/
namespace Go.Proofs.Ytjgmocmaeadjdaa.FstS
open Go.RowKit Go.Proofs.Ytjgmocmaeadjdaa.Mem Go.Proofs.Ytjgmocmaeadjdaa.SetMath Go.Proofs.Ytjgmocmaeadjdaa.MapK Go.Proofs.Ytjgmocmaeadjdaa.KeyT Go.Proofs.Ytjgmocmaeadjdaa.MemS Go.Proofs.Ytjgmocmaeadjdaa.AppS

/-- The entries of a set. -/
def en (l : List ByteArray) : List (Value × Value) := l.map (fun x => (.string x, .bool true))

theorem en_key (l : List ByteArray) : ∀ p ∈ en l, KS p.1 := by
  intro p hp
  obtain ⟨x, _, rfl⟩ := List.mem_map.1 hp
  exact ⟨x, rfl⟩

theorem val_inj {x y : ByteArray} (h : (.string x : Value) = .string y) : x = y := by simpa using h

theorem en_out {l : List ByteArray} {x : ByteArray} (h : x ∉ l) : ∀ p ∈ en l, p.1 ≠ .string x := by
  intro p hp e
  obtain ⟨y, hy, rfl⟩ := List.mem_map.1 hp
  exact h (val_inj e ▸ hy)

theorem en_in {l : List ByteArray} {x : ByteArray} (h : x ∈ l) : (.string x, Value.bool true) ∈ en l := List.mem_map.2 ⟨x, h, rfl⟩

theorem en_nodup : ∀ {l : List ByteArray}, l.Nodup → ((en l).map Prod.fst).Nodup
  | [], _ => by simp [en]
  | x :: l, h => by
    obtain ⟨h1, h2⟩ := List.nodup_cons.1 h
    show (.string x :: (en l).map Prod.fst).Nodup
    refine List.nodup_cons.2 ⟨fun hm => ?_, en_nodup h2⟩
    obtain ⟨p, hp, he⟩ := List.mem_map.1 hm
    exact en_out h1 p hp he

theorem en_snoc (l : List ByteArray) (x : ByteArray) : en (l ++ [x]) = en l ++ [(.string x, .bool true)] := by simp [en]

theorem zero (w : World) : (zeroValue 4).run Try.prog w = .ok (.bool false) w := by kernel_rfl

theorem made_own (w : World) : ((w.alloc (.map #[] 0)).alloc (.cells #[] 9)).ownsRow (w.heap.size + 1) 9 1 (.slice (some ⟨w.heap.size + 1, 0, none⟩) 0 0) 0 [] := by
  have e : (w.alloc (.map #[] 0)).heap.size = w.heap.size + 1 := by simp
  have := owns_new (w.alloc (.map #[] 0))
  rwa [e] at this

set_option maxHeartbeats 4000000 in
theorem impl (A0 : Option Addr) (n c : Nat) (l : List ByteArray) (w : World) (hs : Ss w w.heap.size A0 n l) (hn : n ≤ 400000000) :
    Calls Try.prog 81 #[.slice A0 n c] w (GivesS w (uq l)) := by
  obtain ⟨i0, hi, hz0, hz1, hz2⟩ := info_parts info
  have HS := Lib.hid hs
  clear hs
  have hmm := @run_makeMap Try.prog
  have P0 := Lib.hid (made_own w)
  have M0 := Lib.hid ((Mp.made w).alloc (.cells #[] 9))
  have L0 := Lib.hid (((Below.refl w.heap.size w).alloc (Nat.le_refl _) (.map #[] 0)).alloc (by simp) (.cells #[] 9))
  go_enter Try.func81, Try.ntmps81
  go_wp2
  generalize (w.alloc (.map #[] 0)).alloc (.cells #[] 9) = w0 at *
  go_loopw [4, 11] (fun out i wr => ∃ k g m cap : Nat, k ≤ n ∧ m ≤ k ∧ i = .int .i64 k ∧ out = .slice (some ⟨g, 0, none⟩) m cap ∧ Hid (wr.ownsRow (w.heap.size + 1) 9 1 (.slice (some ⟨g, 0, none⟩) m cap) m ((uq (l.take k)).map tv)) ∧ Hid (Mp wr w.heap.size (en (uq (l.take k)))) ∧ Hid (Below w.heap.size w wr)) (fun _ i _ => n - (intOf i).toNat)
  case atStart => exact ⟨0, w.heap.size + 1, 0, 0, Nat.zero_le _, Nat.le_refl _, rfl, rfl, P0.out, M0.out, L0.out⟩
  case round =>
    clear P0 M0 L0
    obtain ⟨k, g, m, cap, hk, hm, rfl, rfl, HO, HM, HL⟩ := hrel
    by_cases hlt : k < n
    · obtain ⟨b, off, rfl, hbB, hcs⟩ := HS.out.2 (by omega)
      have hkl : k < l.length := by rw [HS.out.1]; exact hlt
      have HU := Lib.hid (uq_take l k hkl)
      have e0 : wr.cell? ⟨b, off + k, none⟩ = some (.string l[k]) := (HL.out.cell (p := ⟨b, off + k, none⟩) hbB).trans (hcs k hkl)
      clear hcs
      generalize l[k] = x at *
      have M1 := Lib.hid HM.out
      have O1 := Lib.hid HO.out
      have L1 := Lib.hid HL.out
      have HE := Lib.hid (en_key (uq (l.take k)))
      have HD := Lib.hid (en_nodup (nodup_uq (l.take k)))
      have HX : Hid (KS (.string x)) := ⟨x, rfl⟩
      by_cases hin : x ∈ uq (l.take k)
      · have HA := Lib.hid (HU.out.trans (add_in hin))
        have HI := Lib.hid (en_in hin)
        clear hin
        have LK : Hid ((Instr.lookup 90 (.map (some w.heap.size)) (.string x) false).run Try.prog wr = .ok (.bool true) wr) := M1.out.in KeyT.strings Try.underlying90 HE.out HD.out HX.out HI.out false
        go_wp2_with (at_lookup; refine wp_look rfl _ _ false rfl (.string x) (.bool true) rfl rfl LK.out ?_)
        go_roundw
        case rel => exact ⟨k + 1, g, m, cap, by omega, by omega, by go_num, rfl, by rw [HA.out]; exact O1.out, by rw [HA.out]; exact M1.out, L1.out⟩
        case measure => simp [intOf]; omega
      · have HA := Lib.hid (HU.out.trans (add_out hin))
        have HI := Lib.hid (en_out hin)
        clear hin
        have LK : Hid ((Instr.lookup 90 (.map (some w.heap.size)) (.string x) false).run Try.prog wr = .ok (.bool false) wr) := M1.out.out KeyT.strings Try.underlying90 (zero _) HE.out HX.out HI.out false
        have ST := Lib.hid (M1.out.new KeyT.strings Try.underlying90 HE.out (.bool true) HX.out HI.out)
        go_wp2_with (first | (at_lookup; refine wp_look rfl _ _ false rfl (.string x) (.bool false) rfl rfl LK.out ?_) | (at_mapUpdate; refine wp_store rfl _ _ _ rfl (.string x) (.bool true) rfl rfl rfl (en (uq (l.take k)) ++ [(.string x, .bool true)]) ST.out ?_))
        intro w2 m2 g2 s2
        clear LK ST
        have M2 := Lib.hid m2
        have O2 := Lib.hid (O1.out.kept g2 (Or.inr (fun e => by have h1 : w.heap.size + 1 ≤ g := (O1.out.lt g rfl).1; have h2 : g = w.heap.size := Option.some.inj e; omega)))
        have L2 := Lib.hid (L1.out.grown g2 L1.out.size (fun j hj => by cases hj; exact Nat.le_refl _))
        clear m2 g2 s2 M1 O1 L1
        go_wp2_with (at_builtin; refine append_one (w := w2) rfl (.tmp 21) (.tmp 23) 62 rfl (w.heap.size + 1) 9 i0 _ Try.underlying62 hi hz0 hz1 hz2 rfl g m cap (uq (l.take k)) rfl O2.out x rfl (by omega) (by have h1 := O2.out.lt g rfl; omega) ?_)
        intro g' cap' w3 hown hgrow
        have O3 := Lib.hid hown
        have NE := Lib.hid (show some w.heap.size ≠ some g from fun e => by have h1 := O2.out.lt g rfl; have h2 := Option.some.inj e; omega)
        have M3 := Lib.hid ((M2.out.alloc (.cells #[.string x] 9)).grown hgrow NE.out)
        have L3 := Lib.hid ((L2.out.alloc L2.out.size (.cells #[.string x] 9)).grown hgrow (Nat.le_trans L2.out.size (by simp)) (fun j hj => by cases hj; have h1 := O2.out.lt g rfl; omega))
        clear hown hgrow
        go_wp2
        go_roundw
        case rel => exact ⟨k + 1, g', m + 1, cap', by omega, by omega, by go_num, rfl, by rw [HA.out, List.map_append]; exact O3.out, by rw [HA.out, en_snoc]; exact M3.out, L3.out⟩
        case measure => simp [intOf]; omega
    · obtain rfl : n = k := by omega
      have HN := Lib.hid (take_all HS.out.1)
      go_wp2
      go_ret
      have ho := HO.out
      rw [HN.out] at ho
      exact gives_of_owns (own_mono ho (by omega)) HL.out
end Go.Proofs.Ytjgmocmaeadjdaa.FstS

/- What Hosts does in the program: the hosts of the records of servers, each once. Condition: fewer than 400000001 records. -/
namespace Go.Proofs.Ytjgmocmaeadjdaa.HostI
open Go.RowKit Go.Proofs.Ytjgmocmaeadjdaa.Mem Go.Proofs.Ytjgmocmaeadjdaa.MemR Go.Proofs.Ytjgmocmaeadjdaa.SetMath Go.Proofs.Ytjgmocmaeadjdaa.MemS Go.Proofs.Ytjgmocmaeadjdaa.AppS

/-- append of one new text onto a row of the call's own, the new block's number as the walk spells it. -/
theorem append_at {w : World} {ops : Array Oper} {rest : List Oper} {o : Oper} {a : Act} {Q : Exit → Act → World → Prop} (hgd : o.guard = none) (s x : Operand)
    (ho : o.op = .call { callee := .builtin .append, args := #[s, x], argTypes := #[62, 62] })
    (base g n cap : Nat) (l : List ByteArray) (hs : a.eval s = .slice (some ⟨g, 0, none⟩) n cap) (hown : w.ownsRow base 9 1 (.slice (some ⟨g, 0, none⟩) n cap) n (l.map tv))
    (y : ByteArray) (p : Nat) (hp : w.heap.size = p) (hx : a.eval x = .slice (some ⟨p, 0, none⟩) 1 1) (hn : n ≤ 800000000) (hbase : base ≤ w.heap.size)
    (h : ∀ g' cap' w', w'.ownsRow base 9 1 (.slice (some ⟨g', 0, none⟩) (n + 1) cap') (n + 1) ((l ++ [y]).map tv) → (w.alloc (.cells #[.string y] 9)).grownBy w' (some g) → wpList Try.prog ops Q rest (a.put o.dst (.slice (some ⟨g', 0, none⟩) (n + 1) cap')) w') : wpList Try.prog ops Q (o :: rest) a (w.alloc (.cells #[.string y] 9)) := by
  subst hp
  obtain ⟨i0, hi, hz0, hz1, hz2⟩ := info_parts info
  exact append_one (w := w) hgd s x 62 ho base 9 i0 _ Try.underlying62 hi hz0 hz1 hz2 rfl g n cap l hs hown y hx hn hbase h

set_option maxHeartbeats 4000000 in
theorem impl (b0 o0 n c : Nat) (l : List Rec) (w : World) (hs : Sr w w.heap.size (some ⟨b0, o0, none⟩) n l) (hn : n ≤ 400000000) : Calls Try.prog 75 #[.slice (some ⟨b0, o0, none⟩) n c] w (GivesS w (uq (hl l))) := by
  have HS := Lib.hid hs
  clear hs
  have P0 := Lib.hid (owns_new w)
  have L0 := Lib.hid ((Below.refl w.heap.size w).alloc (Nat.le_refl _) (.cells #[] 9))
  go_enter Try.func75, Try.ntmps75
  go_wp2
  generalize w.alloc (.cells #[] 9) = w0 at *
  go_loopw [3, 9] (fun out i wr => ∃ k g m cap : Nat, k ≤ n ∧ m ≤ k ∧ i = .int .i64 k ∧ out = .slice (some ⟨g, 0, none⟩) m cap ∧ Hid (wr.ownsRow w.heap.size 9 1 (.slice (some ⟨g, 0, none⟩) m cap) m ((hl (l.take k)).map tv)) ∧ Hid (Below w.heap.size w wr)) (fun _ i _ => n - (intOf i).toNat)
  case atStart => exact ⟨0, w.heap.size, 0, 0, Nat.zero_le _, Nat.le_refl _, rfl, rfl, P0.out, L0.out⟩
  case round =>
    clear P0 L0
    obtain ⟨k, g, m, cap, hk, hm, rfl, rfl, HO, HL⟩ := hrel
    by_cases hlt : k < n
    · obtain ⟨b, off, hA, hbB, hcs⟩ := HS.out.2 (by omega)
      obtain ⟨rfl, rfl⟩ : b0 = b ∧ o0 = off := by simp at hA; exact hA
      clear hA
      have hkl : k < l.length := by rw [HS.out.1]; exact hlt
      obtain ⟨e0, e1, e2, e3, e4, e5⟩ := (hcs k hkl).below HL.out hbB
      clear hcs
      have HT := Lib.hid (hl_take l k hkl)
      generalize l[k] = r at *
      have W1 : Hid (Below w.heap.size w (wr.alloc (.cells #[.string r.name, .int .i64 r.ty, .int .i64 r.ttl, .int .i64 r.n, .string r.host, .string r.text] 56))) := HL.out.alloc HL.out.size _
      have O1 := Lib.hid (HO.out.alloc (.cells #[.string r.name, .int .i64 r.ty, .int .i64 r.ttl, .int .i64 r.n, .string r.host, .string r.text] 56))
      by_cases hty : ¬ r.ty = 2
      · have HA := Lib.hid (show hl (l.take (k + 1)) = hl (l.take k) from by rw [HT.out, if_neg hty, List.append_nil])
        have t0 : (r.ty == 2) = false := by simpa using hty
        clear hty
        go_wp2
        go_roundw
        case rel => exact ⟨k + 1, g, m, cap, by omega, by omega, by go_num, rfl, by rw [HA.out]; exact O1.out, W1.out⟩
        case measure => simp [intOf]; omega
      replace hty : r.ty = 2 := Classical.not_not.1 hty
      have HA := Lib.hid (show hl (l.take (k + 1)) = hl (l.take k) ++ [r.host] from by rw [HT.out, if_pos hty])
      have t0 : (r.ty == 2) = true := by simpa using hty
      clear hty
      go_wp2_with (at_builtin; refine append_at (w := wr.alloc (.cells #[.string r.name, .int .i64 r.ty, .int .i64 r.ttl, .int .i64 r.n, .string r.host, .string r.text] 56)) rfl (.tmp 16) (.tmp 19) rfl w.heap.size g m cap (hl (l.take k)) rfl O1.out r.host (wr.heap.size + 1) (by simp) rfl (by omega) (by have h1 := O1.out.lt g rfl; omega) ?_)
      intro g' cap' w3 hown hgrow
      have O3 := Lib.hid hown
      have L3 := Lib.hid ((W1.out.alloc W1.out.size (.cells #[.string r.host] 9)).grown hgrow (Nat.le_trans W1.out.size (by simp)) (fun j hj => by cases hj; have h1 := O1.out.lt g rfl; omega))
      clear hown hgrow
      go_wp2
      go_roundw
      case rel => exact ⟨k + 1, g', m + 1, cap', by omega, by omega, by go_num, rfl, by rw [HA.out, List.map_append]; exact O3.out, L3.out⟩
      case measure => simp [intOf]; omega
    · obtain rfl : n = k := by omega
      have HN := Lib.hid (take_all HS.out.1)
      have HQ : Hid (Ss wr wr.heap.size (some ⟨g, 0, none⟩) m (hl l)) := by
        have ho := HO.out
        rw [HN.out] at ho
        have hz : (hl l).length = m := by have := ho.1; simpa using this
        obtain ⟨r', hb, _, _⟩ := bk_of_owns ho
        exact bk_ssw hb hz
      go_wp2_with fail
      refine (FstS.impl _ m cap (hl l) wr HQ.out (by omega)).mono ?_
      rintro e w1 ⟨g1, m1, c1, r1, rfl, hm1, hc1, hg1, hb1, hl1⟩
      have G1 := Lib.hid (Nat.le_trans HL.out.size hg1)
      have M1 := Lib.hid hm1
      have C1 := Lib.hid hc1
      have B1 := Lib.hid hb1
      have L1 := Lib.hid (HL.out.trans (hl1.mono HL.out.size))
      clear hm1 hc1 hg1 hb1 hl1
      go_wp2
      go_ret
      exact ⟨g1, m1, c1, r1, rfl, M1.out, C1.out, G1.out, B1.out, L1.out⟩
end Go.Proofs.Ytjgmocmaeadjdaa.HostI

/- What CutsOf does in the program: the names of the cuts, each once. Condition: fewer than 400000001 records, no name of more than 400000000 bytes. -/
namespace Go.Proofs.Ytjgmocmaeadjdaa.CutsOfI
open Go.RowKit Go.Proofs.Ytjgmocmaeadjdaa.Mem Go.Proofs.Ytjgmocmaeadjdaa.MemR Go.Proofs.Ytjgmocmaeadjdaa.SetMath Go.Proofs.Ytjgmocmaeadjdaa.NameMath Go.Proofs.Ytjgmocmaeadjdaa.ZoneMath Go.Proofs.Ytjgmocmaeadjdaa.MemZ Go.Proofs.Ytjgmocmaeadjdaa.MemS Go.Proofs.Ytjgmocmaeadjdaa.AppS Go.Proofs.Ytjgmocmaeadjdaa.HostI

theorem text_ne {x y : ByteArray} (h : x ≠ y) : (x.toList == y.toList) = false := by
  rw [beq_eq_false_iff_ne, ByteArray.toList_eq, ByteArray.toList_eq]
  exact fun e => h (text_ext e)

set_option maxHeartbeats 8000000 in
theorem impl (s : ByteArray) (b0 o0 n c : Nat) (l : List Rec) (w : World) (hs : Sr w w.heap.size (some ⟨b0, o0, none⟩) n l) (hn : n ≤ 400000000) (hm : s.size ≤ 400000000) (hz : ∀ r ∈ l, r.name.size ≤ 400000000) :
    Calls Try.prog 72 #[.agg #[.string s, .slice (some ⟨b0, o0, none⟩) n c]] w (GivesS w (uq (cn s l))) := by
  have Z0 := Lib.hid ((zx_new w 26 s (.slice (some ⟨b0, o0, none⟩) n c)).alloc (.cells #[] 9))
  have L0 := Lib.hid (((Below.refl w.heap.size w).alloc (Nat.le_refl _) (.cells #[.string s, .slice (some ⟨b0, o0, none⟩) n c] 26)).alloc (by simp) (.cells #[] 9))
  have P0 := Lib.hid (owns_new (w.alloc (.cells #[.string s, .slice (some ⟨b0, o0, none⟩) n c] 26)))
  rw [show (w.alloc (.cells #[.string s, .slice (some ⟨b0, o0, none⟩) n c] 26)).heap.size = w.heap.size + 1 by simp] at P0
  have HS := Lib.hid hs
  have HZ := Lib.hid hz
  clear hs hz
  go_enter Try.func72, Try.ntmps72
  go_wp2
  generalize (w.alloc (.cells #[.string s, .slice (some ⟨b0, o0, none⟩) n c] 26)).alloc (.cells #[] 9) = w0 at *
  go_loopw [3, 10] (fun out i wr => ∃ k g m cap : Nat, k ≤ n ∧ m ≤ k ∧ i = .int .i64 k ∧ out = .slice (some ⟨g, 0, none⟩) m cap ∧ Hid (wr.ownsRow (w.heap.size + 1) 9 1 (.slice (some ⟨g, 0, none⟩) m cap) m ((cn s (l.take k)).map tv)) ∧ Hid (Zx wr w.heap.size s (.slice (some ⟨b0, o0, none⟩) n c)) ∧ Hid (Below w.heap.size w wr)) (fun _ i _ => n - (intOf i).toNat)
  case atStart => exact ⟨0, w.heap.size + 1, 0, 0, Nat.zero_le _, Nat.le_refl _, rfl, rfl, P0.out, Z0.out, L0.out⟩
  case round =>
    clear P0 L0 Z0
    obtain ⟨k, g, m, cap, hk, hm', rfl, rfl, HO, HX, HL⟩ := hrel
    by_cases hlt : k < n
    · obtain ⟨b, off, hA, hbB, hcs⟩ := HS.out.2 (by omega)
      obtain ⟨rfl, rfl⟩ : b0 = b ∧ o0 = off := by simp at hA; exact hA
      clear hA
      have hkl : k < l.length := by rw [HS.out.1]; exact hlt
      obtain ⟨e0, e1, e2, e3, e4, e5⟩ := (hcs k hkl).below HL.out hbB
      clear hcs
      obtain ⟨z0, z1⟩ := HX.out
      have ltz := HX.out.lt
      have HT := Lib.hid (cn_take s l k hkl)
      have HM := Lib.hid (HZ.out _ (List.getElem_mem hkl))
      generalize l[k] = r at *
      have W1 : Hid (Below w.heap.size w (wr.alloc (.cells #[.string r.name, .int .i64 r.ty, .int .i64 r.ttl, .int .i64 r.n, .string r.host, .string r.text] 56))) := HL.out.alloc HL.out.size _
      have X1 := Lib.hid (HX.out.alloc (.cells #[.string r.name, .int .i64 r.ty, .int .i64 r.ttl, .int .i64 r.n, .string r.host, .string r.text] 56))
      have O1 := Lib.hid (HO.out.alloc (.cells #[.string r.name, .int .i64 r.ty, .int .i64 r.ttl, .int .i64 r.n, .string r.host, .string r.text] 56))
      by_cases hty : ¬ r.ty = 2
      · have HA := Lib.hid (show cn s (l.take (k + 1)) = cn s (l.take k) from by rw [HT.out, isc_false (fun h => hty h.1), if_neg (by decide), List.append_nil])
        have t0 : (r.ty == 2) = false := by simpa using hty
        clear hty
        go_wp2
        go_roundw
        case rel => exact ⟨k + 1, g, m, cap, by omega, by omega, by go_num, rfl, by rw [HA.out]; exact O1.out, X1.out, W1.out⟩
        case measure => simp [intOf]; omega
      replace hty : r.ty = 2 := Classical.not_not.1 hty
      have t0 : (r.ty == 2) = true := by simpa using hty
      by_cases hnm : r.name = s
      · have HA := Lib.hid (show cn s (l.take (k + 1)) = cn s (l.take k) from by rw [HT.out, isc_false (fun h => h.2.1 hnm), if_neg (by decide), List.append_nil])
        have t1 : (r.name.toList == s.toList) = true := by rw [hnm]; simp
        have t2 : (r.name.data.toList == s.data.toList) = true := by rw [hnm]; simp
        clear hty hnm
        go_wp2
        go_roundw
        case rel => exact ⟨k + 1, g, m, cap, by omega, by omega, by go_num, rfl, by rw [HA.out]; exact O1.out, X1.out, W1.out⟩
        case measure => simp [intOf]; omega
      have t1 : (r.name.toList == s.toList) = false := text_ne hnm
      have t2 : (r.name.data.toList == s.data.toList) = false := by rw [← ByteArray.toList_eq, ← ByteArray.toList_eq]; exact t1
      have US := Lib.hid (fun W => UnderImpl.impl r.name s W HM.out hm)
      have HU : Hid (Un r.name s = true → cn s (l.take (k + 1)) = cn s (l.take k) ++ [r.name]) := fun hu => by rw [HT.out, isc_true ⟨hty, hnm, hu⟩, if_pos rfl]
      have HV : Hid (Un r.name s = false → cn s (l.take (k + 1)) = cn s (l.take k)) := fun hu => by rw [HT.out, isc_false (fun h => by rw [hu] at h; exact absurd h.2.2 (by decide)), if_neg (by decide), List.append_nil]
      generalize Un r.name s = u at *
      clear hty hnm HT
      go_wp2_with fail
      refine (US.out _).mono ?_
      rintro e w1 ⟨rfl, rfl⟩
      clear US
      cases u with
      | false =>
        have HA := Lib.hid (HV.out rfl)
        clear HU HV
        go_wp2
        go_roundw
        case rel => exact ⟨k + 1, g, m, cap, by omega, by omega, by go_num, rfl, by rw [HA.out]; exact O1.out, X1.out, W1.out⟩
        case measure => simp [intOf]; omega
      | true =>
        have HA := Lib.hid (HU.out rfl)
        clear HU HV
        go_wp2_with (at_builtin; refine append_at (w := wr.alloc (.cells #[.string r.name, .int .i64 r.ty, .int .i64 r.ttl, .int .i64 r.n, .string r.host, .string r.text] 56)) rfl (.tmp 31) (.tmp 34) rfl (w.heap.size + 1) g m cap (cn s (l.take k)) rfl O1.out r.name (wr.heap.size + 1) (by simp) rfl (by omega) (by have h1 := O1.out.lt g rfl; omega) ?_)
        intro g' cap' w3 hown hgrow
        have O3 := Lib.hid hown
        have gge : w.heap.size + 1 ≤ g := (O1.out.lt g rfl).1
        have X3 := Lib.hid ((X1.out.alloc (.cells #[.string r.name] 9)).grown hgrow (fun e => by have := Option.some.inj e; omega))
        have L3 := Lib.hid ((W1.out.alloc W1.out.size (.cells #[.string r.name] 9)).grown hgrow (Nat.le_trans W1.out.size (by simp)) (fun j hj => by cases hj; omega))
        clear hown hgrow
        go_wp2
        go_roundw
        case rel => exact ⟨k + 1, g', m + 1, cap', by omega, by omega, by go_num, rfl, by rw [HA.out, List.map_append]; exact O3.out, X3.out, L3.out⟩
        case measure => simp [intOf]; omega
    · obtain rfl : n = k := by omega
      have HN := Lib.hid (take_all HS.out.1)
      have HQ : Hid (Ss wr wr.heap.size (some ⟨g, 0, none⟩) m (cn s l)) := by
        have ho := HO.out
        rw [HN.out] at ho
        have hz : (cn s l).length = m := by have := ho.1; simpa using this
        obtain ⟨r', hb, _, _⟩ := bk_of_owns ho
        exact bk_ssw hb hz
      go_wp2_with fail
      refine (FstS.impl _ m cap (cn s l) wr HQ.out (by omega)).mono ?_
      rintro e w1 ⟨g1, m1, c1, r1, rfl, hm1, hc1, hg1, hb1, hl1⟩
      have G1 := Lib.hid (Nat.le_trans HL.out.size hg1)
      have M1 := Lib.hid hm1
      have C1 := Lib.hid hc1
      have B1 := Lib.hid hb1
      have L1 := Lib.hid (HL.out.trans (hl1.mono HL.out.size))
      clear hm1 hc1 hg1 hb1 hl1
      go_wp2
      go_ret
      exact ⟨g1, m1, c1, r1, rfl, M1.out, C1.out, G1.out, B1.out, L1.out⟩

end Go.Proofs.Ytjgmocmaeadjdaa.CutsOfI
