/- What StartOf does in the model: the first record of the start's type, or a record with nothing in it. Condition: fewer than 400000001 records. -/
import Derived.Test.YtkpcanigdppegaaDoorZokMath
import Derived.Test.YtkpcanigdppegaaDoorMemZ
import Derived.Test.YtkpcanigdppegaaDoorZonesBentP2
import Derived.Test.YtkpcanigdppegaaDoorSetMath
import Derived.Deep.AppendLies
import Derived.Test.YtkpcanigdppegaaDoorZonesBentP1
import Derived.WideKeyArgs2
import Derived.Laws.StructEq
import Derived.Deep.DeepCutAuto
import Derived.IntWalk
import Derived.Test.YtkpcanigdppegaaDoorZoneMath
import Derived.Test.YtkpcanigdppegaaDoorResR
/- What allUnder does in the program: it tells whether every record's name is under the apex. Condition: fewer than 400000001 records, no name of more than 400000000 bytes. -/
namespace Go.Proofs.YtkpcanigdppegaaDoor.AllU
open Go.RowKit Go.Proofs.YtkpcanigdppegaaDoor.Mem Go.Proofs.YtkpcanigdppegaaDoor.MemR Go.Proofs.YtkpcanigdppegaaDoor.SetMath Go.Proofs.YtkpcanigdppegaaDoor.NameMath Go.Proofs.YtkpcanigdppegaaDoor.NameOk Go.Proofs.YtkpcanigdppegaaDoor.ZoneMath Go.Proofs.YtkpcanigdppegaaDoor.MemZ Go.Proofs.YtkpcanigdppegaaDoor.RecOk Go.Proofs.YtkpcanigdppegaaDoor.LessR Go.Proofs.YtkpcanigdppegaaDoor.ZokMath Go.Proofs.YtkpcanigdppegaaDoor.Labels

set_option maxHeartbeats 4000000 in
theorem impl (s : ByteArray) (b0 o0 n c : Nat) (l : List Rec) (w : World) (hs : Sr w w.heap.size (some ⟨b0, o0, none⟩) n l) (hn : n ≤ 400000000) (hm : s.size ≤ 400000000) (hz : ∀ r ∈ l, r.name.size ≤ 400000000) :
    Calls Tryd.prog 40 #[.slice (some ⟨b0, o0, none⟩) n c, .string s] w fun e w' => e = .returned (.bool (dec (Alln l.length (Pu s l)))) ∧ Below w.heap.size w w' := by
  have HS := Lib.hid hs
  have HZ := Lib.hid hz
  clear hs hz
  go_enter Tryd.func40, Tryd.ntmps40
  go_wp2
  go_loopw [9] (fun i wr => ∃ k : Nat, k ≤ n ∧ i = .int .i64 k ∧ Hid (Alln k (Pu s l)) ∧ Hid (Below w.heap.size w wr)) (fun i _ => n - (intOf i).toNat)
  case atStart => exact ⟨0, Nat.zero_le _, rfl, alln_zero, Below.refl _ _⟩
  case round =>
    obtain ⟨k, hk, rfl, HE, HL⟩ := hrel
    by_cases hlt : k < n
    · obtain ⟨b, off, hA, hbB, hcs⟩ := HS.out.2 (by omega)
      obtain ⟨rfl, rfl⟩ : b0 = b ∧ o0 = off := by simp at hA; exact hA
      clear hA
      have hkl : k < l.length := by rw [HS.out.1]; exact hlt
      obtain ⟨e0, e1, e2, e3, e4, e5⟩ := (hcs k hkl).below HL.out hbB
      clear hcs
      have HP : Hid (Pu s l k ↔ Un l[k].name s = true) := show _ ↔ _ by rw [Pu, at0_get hkl]
      have HM := Lib.hid (HZ.out _ (List.getElem_mem hkl))
      generalize l[k] = r at *
      have W1 : Hid (Below w.heap.size w (wr.alloc (.cells #[.string r.name, .int .i64 r.ty, .int .i64 r.ttl, .int .i64 r.n, .string r.host, .string r.text] 39))) := HL.out.alloc HL.out.size _
      have US := Lib.hid (fun W => UnderImpl.impl r.name s W HM.out hm)
      generalize Un r.name s = u at *
      go_wp2_with fail
      refine (US.out _).mono ?_
      rintro e w1 ⟨rfl, rfl⟩
      clear US e0 e1 e2 e3 e4 e5
      cases u with
      | false =>
        have HF := Lib.hid (dec_false (alln_not hkl (fun h => by have := HP.out.1 h; cases this)))
        clear HP
        go_wp2
        go_ret
        exact ⟨congrArg (fun b => Ending.returned (Value.bool b)) HF.out.symm, W1.out⟩
      | true =>
        have HN := Lib.hid (alln_next HE.out (HP.out.2 rfl))
        clear HP
        go_wp2
        go_roundw
        case rel => exact ⟨k + 1, by omega, by go_num, HN.out, W1.out⟩
        case measure => simp [intOf]; omega
    · obtain rfl : n = k := by omega
      have HF : Hid (dec (Alln l.length (Pu s l)) = true) := dec_true (by rw [HS.out.1]; exact HE.out)
      go_wp2
      go_ret
      exact ⟨congrArg (fun b => Ending.returned (Value.bool b)) HF.out.symm, HL.out⟩

end Go.Proofs.YtkpcanigdppegaaDoor.AllU

/- Plain facts on memory: questions, and what a slice of questions reads as; a new slice of questions that a call gives back; a law on append of one question. -/
namespace Go.Proofs.YtkpcanigdppegaaDoor.MemQ
open Go.RowKit Go.Proofs.YtkpcanigdppegaaDoor.Mem Go.Proofs.YtkpcanigdppegaaDoor.SetMath

/-- The cells that hold a question. -/
def qc (q : Key) : List Value := [.string q.name, .int .i64 q.ty]

/-- A question as a value. -/
def qv (q : Key) : Value := .agg #[.string q.name, .int .i64 q.ty]

/-- The cells that hold a list of questions. -/
def fq (l : List Key) : List Value := l.flatMap qc

theorem fq_cons (r : Key) (l : List Key) : fq (r :: l) = qc r ++ fq l := rfl

theorem fq_append (l m : List Key) : fq (l ++ m) = fq l ++ fq m := List.flatMap_append

theorem fq_len : ∀ l : List Key, (fq l).length = l.length * 2
  | [] => rfl
  | r :: l => by rw [fq_cons, List.length_append, fq_len l, List.length_cons, show (qc r).length = 2 from rfl]; omega

theorem fq_get : ∀ (l : List Key) (j c : Nat) (h : j < l.length), c < 2 → (fq l)[j * 2 + c]? = (qc l[j])[c]?
  | r :: l, 0, c, _, hc => by
    rw [fq_cons, Nat.zero_mul, Nat.zero_add, List.getElem?_append_left (by show c < 2; exact hc)]
    rfl
  | r :: l, j + 1, c, h, hc => by
    have e : (qc r).length = 2 := rfl
    rw [fq_cons, List.getElem?_append_right (by rw [e]; omega), e, show (j + 1) * 2 + c - 2 = j * 2 + c by omega, fq_get l j c (by simpa using h) hc]
    rfl

/-- Both cells set: the question there is another one. -/
theorem fq_put : ∀ (l : List Key) (k : Nat) (r : Key), k < l.length → ((fq l).set (k * 2) (.string r.name)).set (k * 2 + 1) (.int .i64 r.ty) = fq (l.set k r)
  | x :: l, 0, r, _ => rfl
  | x :: l, k + 1, r, h => by
    have e2 : (qc x).length = 2 := rfl
    have e : ∀ (Y : List Value) (c : Nat) (v : Value), (qc x ++ Y).set ((k + 1) * 2 + c) v = qc x ++ Y.set (k * 2 + c) v := fun Y c v => by
      rw [List.set_append_right _ _ (by rw [e2]; omega), e2, show (k + 1) * 2 + c - 2 = k * 2 + c by omega]
    have e0 : ∀ (Y : List Value) (v : Value), (qc x ++ Y).set ((k + 1) * 2) v = qc x ++ Y.set (k * 2) v := fun Y v => e Y 0 v
    rw [fq_cons, e0, e, fq_put l k r (by simpa using h)]
    rfl

/-- From offset o on, block b holds the question q. -/
def Cq (w : World) (b o : Nat) (q : Key) : Prop := w.cell? ⟨b, o, none⟩ = some (.string q.name) ∧ w.cell? ⟨b, o + 1, none⟩ = some (.int .i64 q.ty)

/-- The slice with address A and n elements reads, in w, as the questions l. -/
def Sq (w : World) (A : Option Addr) (n : Nat) (l : List Key) : Prop :=
  l.length = n ∧ (0 < n → ∃ b off, A = some ⟨b, off, none⟩ ∧ b < w.heap.size ∧ ∀ j (h : j < l.length), Cq w b (off + j * 2) l[j])
section
variable {w w' : World} {n g b o : Nat} {A : Option Addr} {l : List Key} {t : TypeId} {q : Key}

theorem Cq.below {B : Nat} (h : Cq w b o q) (hb : Below B w w') (hl : b < B) : Cq w' b o q := ⟨(hb.cell (p := ⟨b, o, none⟩) hl).trans h.1, (hb.cell (p := ⟨b, o + 1, none⟩) hl).trans h.2⟩

theorem Sq.nil : Sq w A 0 [] := ⟨rfl, fun h => absurd h (Nat.lt_irrefl _)⟩

theorem Sq.on (h : Sq w A n l) (hb : Below w.heap.size w w') : Sq w' A n l := by
  refine ⟨h.1, fun hn => ?_⟩
  obtain ⟨b, off, hA, hl, hc⟩ := h.2 hn
  exact ⟨b, off, hA, Nat.lt_of_lt_of_le hl hb.size, fun j hj => (hc j hj).below hb hl⟩

theorem bk_cq {v : List Value} (h : Bk w g t (fq l ++ v)) (j : Nat) (hj : j < l.length) : Cq w g (j * 2) l[j] := by
  have hc : ∀ c, c < 2 → w.cell? ⟨g, j * 2 + c, none⟩ = (qc l[j])[c]? := fun c hc => by
    rw [h.cell, List.getElem?_append_left (by rw [fq_len]; omega), fq_get l j c hj hc]
  exact ⟨hc 0 (by omega), hc 1 (by omega)⟩

/-- A block of questions with room behind, read as a slice over its head. -/
theorem bk_sq {v : List Value} (h : Bk w g t (fq l ++ v)) (hn : l.length = n) : Sq w (some ⟨g, 0, none⟩) n l :=
  ⟨hn, fun _ => ⟨g, 0, rfl, h.lt, fun j hj => by rw [Nat.zero_add]; exact bk_cq h j hj⟩⟩

/-- What the call owns as a row of questions is such a block. -/
theorem bk_of_owns2 {base cap : Nat} {xs : List Value} (h : w.ownsRow base t 2 (.slice (some ⟨g, 0, none⟩) n cap) n xs) : ∃ r, Bk w g t (xs ++ r) ∧ (xs ++ r).length = cap * 2 ∧ n ≤ cap ∧ base ≤ g := by
  rcases h.2 with ⟨h1, _⟩ | ⟨g', cap', cur, hv, hb, hh, hle, _, hs, ht⟩
  · cases h1
  · simp only [Value.slice.injEq, Option.some.injEq, Addr.mk.injEq, true_and, and_true] at hv
    obtain ⟨rfl, rfl⟩ := hv
    refine ⟨cur.toList.drop (n * 2), ?_, ?_, hle, hb⟩
    · unfold Bk; rw [hh, ← ht]; simp
    · rw [← ht]; simp; omega
end

theorem info : (Tryd.prog.info? 28).map (fun i => (i.zero, i.size, i.bytes)) = some (some (.agg #[.string ⟨#[]⟩, .int .i64 0]), 2, 24) := by kernel_rfl

/-- The call returned a new slice that reads as the questions l (room behind it let in), and turned nothing that was there. -/
def GivesQ (w : World) (l : List Key) (e : Ending) (w' : World) : Prop :=
  ∃ g m c r, e = .returned (.slice (some ⟨g, 0, none⟩) m c) ∧ l.length = m ∧ m ≤ c ∧ w.heap.size ≤ g ∧ Bk w' g 28 (fq l ++ r) ∧ Below w.heap.size w w'

theorem owns_new (w : World) : (w.alloc (.cells #[] 28)).ownsRow w.heap.size 28 2 (.slice (some ⟨w.heap.size, 0, none⟩) 0 0) 0 [] :=
  World.ownsRow_made w #[] 0 (Nat.le_refl _) (Nat.zero_le _) (by simp)

theorem one_fq (y : Key) : ∀ u ∈ [Value.string y.name, Value.int .i64 y.ty], u.oneCell' = true := by
  intro u hu
  simp only [List.mem_cons, List.not_mem_nil, or_false] at hu
  rcases hu with rfl | rfl <;> rfl

/-- What the call owns as a row of questions is a slice that GivesQ speaks of. -/
theorem gives_of_owns {w w' : World} {g n cap : Nat} {l : List Key} (h : w'.ownsRow w.heap.size 28 2 (.slice (some ⟨g, 0, none⟩) n cap) n (fq l)) (hb : Below w.heap.size w w') : GivesQ w l (.returned (.slice (some ⟨g, 0, none⟩) n cap)) w' := by
  have hl : l.length = n := by have := h.1; rw [fq_len] at this; omega
  obtain ⟨r, hk, hr, hcap, hg⟩ := bk_of_owns2 h
  exact ⟨g, n, cap, r, rfl, hl, hcap, hg, hk, hb⟩
end Go.Proofs.YtkpcanigdppegaaDoor.MemQ

/- The keys of the program's maps: texts, ints, questions, records: of which the laws on maps may be asked. -/
namespace Go.Proofs.YtkpcanigdppegaaDoor.KeyT
open Go.MapKept Go.RowKit Go.Proofs.YtkpcanigdppegaaDoor.Mem Go.Proofs.YtkpcanigdppegaaDoor.MemR Go.Proofs.YtkpcanigdppegaaDoor.SetMath Go.Proofs.YtkpcanigdppegaaDoor.MemQ Go.Proofs.YtkpcanigdppegaaDoor.MapK

/-- A text as a key. -/
def KS (v : Value) : Prop := ∃ s : ByteArray, v = .string s

/-- An int as a key. -/
def KI (v : Value) : Prop := ∃ x : Int, v = .int .i64 x

/-- A question as a key. -/
def KQ (v : Value) : Prop := ∃ q : Key, v = qv q

/-- A record as a key. -/
def KR (v : Value) : Prop := ∃ r : Rec, v = .agg #[.string r.name, .int .i64 r.ty, .int .i64 r.ttl, .int .i64 r.n, .string r.host, .string r.text]

/-- Keys that are compared at once. -/
theorem plain {P : Program} {k : TypeId} {S : Value → Prop} (d : TypeDesc) (hd : P.underlying k = some d) (h : ∀ v, S v → IsKey d v) : MapK.KeyT P k S where
  check w em v hv := run_checkKey hd (h v hv) em 9999
  stays w v hv := run_keyThatStays (h v hv)
  find w x hx es hes := by
    rcases findNow_spec (h x hx) es 0 (fun e he => h _ (hes e he)) with ⟨h1, h2⟩ | ⟨j, e, h1, h2, h3⟩
    · exact Or.inl ⟨run_findKey hd h1, h2⟩
    · exact Or.inr ⟨j, e, by rw [run_findKey hd h1, Nat.zero_add], h2, h3⟩

theorem strings : MapK.KeyT Tryd.prog 9 KS := plain .string Tryd.underlying9 (by rintro v ⟨s, rfl⟩; trivial)

theorem ints : MapK.KeyT Tryd.prog 3 KI := plain (.int .i64) Tryd.underlying3 (by rintro v ⟨s, rfl⟩; exact rfl)

theorem bytes_ne {a b : ByteArray} (h : a ≠ b) : (a.toList == b.toList) = false := by
  cases e : (a.toList == b.toList) with
  | false => rfl
  | true =>
    have := eq_of_beq e
    rw [ByteArray.toList_eq, ByteArray.toList_eq] at this
    exact absurd (by cases a; cases b; congr; exact Array.toList_inj.1 this) h

theorem quest_same (q : Key) (w : World) : Sem.run Tryd.prog (Op.equal 28 (qv q) (qv q)) w = .ok true w := by
  have u3 := Tryd.underlying3
  have a3 := Tryd.isAgg3
  have z3 := Tryd.sizeOf3
  have u9 := Tryd.underlying9
  have a9 := Tryd.isAgg9
  have z9 := Tryd.sizeOf9
  have hS : Tryd.prog.underlying 28 = some (.struct (Tryd.prog.fieldsOf 28)) := by kernel_rfl
  have hp : Tryd.prog.stoodInHeld 28 = false := by kernel_rfl
  unfold qv Op.equal Op.maxDepth
  rw [show (10000 : Nat) = 9999 + 1 from rfl, run_equalIn_agg w 9999 28 _ _ hS hp]
  simp only [Program.fieldsOf, Tryd.underlying28]
  go_simp

theorem quest_diff {q p : Key} (h : q ≠ p) (w : World) : Sem.run Tryd.prog (Op.equal 28 (qv q) (qv p)) w = .ok false w := by
  have u3 := Tryd.underlying3
  have a3 := Tryd.isAgg3
  have z3 := Tryd.sizeOf3
  have u9 := Tryd.underlying9
  have a9 := Tryd.isAgg9
  have z9 := Tryd.sizeOf9
  have hS : Tryd.prog.underlying 28 = some (.struct (Tryd.prog.fieldsOf 28)) := by kernel_rfl
  have hp : Tryd.prog.stoodInHeld 28 = false := by kernel_rfl
  unfold qv Op.equal Op.maxDepth
  rw [show (10000 : Nat) = 9999 + 1 from rfl, run_equalIn_agg w 9999 28 _ _ hS hp]
  simp only [Program.fieldsOf, Tryd.underlying28]
  obtain ⟨n1, t1⟩ := q
  obtain ⟨n2, t2⟩ := p
  simp only
  by_cases c0 : n1 = n2
  · subst c0
    by_cases c1 : t1 = t2
    · subst c1; exact absurd rfl h
    · go_simp
  · have k := bytes_ne c0
    go_simp

theorem rec_same (r : Rec) (w : World) : Sem.run Tryd.prog (Op.equal 39 (.agg #[.string r.name, .int .i64 r.ty, .int .i64 r.ttl, .int .i64 r.n, .string r.host, .string r.text]) (.agg #[.string r.name, .int .i64 r.ty, .int .i64 r.ttl, .int .i64 r.n, .string r.host, .string r.text])) w = .ok true w := by
  have h := EqlR.eql_same r w
  rw [run_eql_struct] at h
  unfold Op.equal Op.maxDepth
  revert h
  cases Sem.run Tryd.prog (Op.equalIn 10000 39 (.agg #[.string r.name, .int .i64 r.ty, .int .i64 r.ttl, .int .i64 r.n, .string r.host, .string r.text]) (.agg #[.string r.name, .int .i64 r.ty, .int .i64 r.ttl, .int .i64 r.n, .string r.host, .string r.text])) w with
  | ok b w' => intro h; simp [Result.andThen] at h; rw [h.1, h.2]
  | halt h w' => intro h; simp [Result.andThen] at h

theorem rec_diff {r s : Rec} (h : r ≠ s) (w : World) : Sem.run Tryd.prog (Op.equal 39 (.agg #[.string r.name, .int .i64 r.ty, .int .i64 r.ttl, .int .i64 r.n, .string r.host, .string r.text]) (.agg #[.string s.name, .int .i64 s.ty, .int .i64 s.ttl, .int .i64 s.n, .string s.host, .string s.text])) w = .ok false w := by
  have h := EqlR.eql_diff h w
  rw [run_eql_struct] at h
  unfold Op.equal Op.maxDepth
  revert h
  cases Sem.run Tryd.prog (Op.equalIn 10000 39 (.agg #[.string r.name, .int .i64 r.ty, .int .i64 r.ttl, .int .i64 r.n, .string r.host, .string r.text]) (.agg #[.string s.name, .int .i64 s.ty, .int .i64 s.ttl, .int .i64 s.n, .string s.host, .string s.text])) w with
  | ok b w' => intro h; simp [Result.andThen] at h; rw [h.1, h.2]
  | halt h w' => intro h; simp [Result.andThen] at h

theorem bits_self (s : ByteArray) (n : Nat) : Instr.sameBits n (.string s) (.string s) = true := sameBits_self (d := .string) (k := .string s) trivial n

theorem bits_int (x : Int) (n : Nat) : Instr.sameBits n (.int .i64 x) (.int .i64 x) = true := sameBits_self (d := .int .i64) (k := .int .i64 x) rfl n

theorem bits_agg (xs : List Value) (n : Nat) (h : ∀ x ∈ xs, Instr.sameBits n x x = true) : Instr.sameBits (n + 1) (.agg xs.toArray) (.agg xs.toArray) = true := by
  rw [Instr.sameBits]
  simp only [beq_self_eq_true, Bool.true_and]
  rw [List.all_eq_true]
  rintro ⟨x, y⟩ hxy
  have e : x = y ∧ x ∈ xs := by
    clear h
    induction xs with
    | nil => cases hxy
    | cons a xs ih =>
      rw [List.zip_cons_cons] at hxy
      rcases List.mem_cons.1 hxy with h1 | h1
      · cases h1; exact ⟨rfl, by simp⟩
      · obtain ⟨h2, h3⟩ := ih h1; exact ⟨h2, by simp [h3]⟩
  obtain ⟨rfl, hm⟩ := e
  exact h x hm

theorem stays_agg {P : Program} (xs : List Value) (w : World) (h : ∀ x ∈ xs, Instr.sameBits 9999 x x = true) : (Instr.keyThatStays (.agg xs.toArray) (.agg xs.toArray)).run P w = .ok (.agg xs.toArray) w := by
  have := bits_agg xs 9999 h
  simp only [Instr.keyThatStays, this, if_true]
  rfl

theorem check_string (w : World) (em : Bool) (s : ByteArray) (n : Nat) : (Instr.checkKey em (n + 1) 9 (.string s)).run Tryd.prog w = .ok () w := run_checkKey Tryd.underlying9 (k := .string s) trivial em n

theorem check_int (w : World) (em : Bool) (x : Int) (n : Nat) : (Instr.checkKey em (n + 1) 3 (.int .i64 x)).run Tryd.prog w = .ok () w := run_checkKey Tryd.underlying3 (k := .int .i64 x) rfl em n

set_option maxRecDepth 100000 in
theorem quest_check (w : World) (em : Bool) (q : Key) : (Instr.checkKey em 10000 28 (qv q)).run Tryd.prog w = .ok () w := by
  have k0 : (Instr.checkKey em 9999 9 (.string q.name)).run Tryd.prog w = .ok () w := check_string w em q.name 9998
  have k1 : (Instr.checkKey em 9999 3 (.int .i64 q.ty)).run Tryd.prog w = .ok () w := check_int w em q.ty 9998
  have u3 := Tryd.underlying3
  have a3 := Tryd.isAgg3
  have z3 := Tryd.sizeOf3
  have u9 := Tryd.underlying9
  have a9 := Tryd.isAgg9
  have z9 := Tryd.sizeOf9
  rw [show (10000 : Nat) = 9999 + 1 from rfl, Instr.checkKey]
  unfold qv
  simp only [Sem.run_bind, run_underlying Tryd.underlying28, Result.andThen]
  rw [← Array.forIn_toList]
  generalize 9999 = N at *
  go_simp

set_option maxRecDepth 100000 in
theorem rec_check (w : World) (em : Bool) (r : Rec) : (Instr.checkKey em 10000 39 (.agg #[.string r.name, .int .i64 r.ty, .int .i64 r.ttl, .int .i64 r.n, .string r.host, .string r.text])).run Tryd.prog w = .ok () w := by
  have k0 : (Instr.checkKey em 9999 9 (.string r.name)).run Tryd.prog w = .ok () w := check_string w em r.name 9998
  have k1 : (Instr.checkKey em 9999 3 (.int .i64 r.ty)).run Tryd.prog w = .ok () w := check_int w em r.ty 9998
  have k2 : (Instr.checkKey em 9999 3 (.int .i64 r.ttl)).run Tryd.prog w = .ok () w := check_int w em r.ttl 9998
  have k3 : (Instr.checkKey em 9999 3 (.int .i64 r.n)).run Tryd.prog w = .ok () w := check_int w em r.n 9998
  have k4 : (Instr.checkKey em 9999 9 (.string r.host)).run Tryd.prog w = .ok () w := check_string w em r.host 9998
  have k5 : (Instr.checkKey em 9999 9 (.string r.text)).run Tryd.prog w = .ok () w := check_string w em r.text 9998
  have u3 := Tryd.underlying3
  have a3 := Tryd.isAgg3
  have z3 := Tryd.sizeOf3
  have u9 := Tryd.underlying9
  have a9 := Tryd.isAgg9
  have z9 := Tryd.sizeOf9
  rw [show (10000 : Nat) = 9999 + 1 from rfl, Instr.checkKey]
  simp only [Sem.run_bind, run_underlying Tryd.underlying39, Result.andThen]
  rw [← Array.forIn_toList]
  generalize 9999 = N at *
  go_simp

theorem qv_ne {q p : Key} (h : qv q ≠ qv p) : q ≠ p := fun e => h (by rw [e])

theorem qv_inj {q p : Key} (h : qv q = qv p) : q = p := by
  obtain ⟨a, b⟩ := q
  obtain ⟨c, d⟩ := p
  simp [qv] at h
  rw [h.1, h.2]

theorem rv_inj {r s : Rec} (h : (.agg #[.string r.name, .int .i64 r.ty, .int .i64 r.ttl, .int .i64 r.n, .string r.host, .string r.text] : Value) = .agg #[.string s.name, .int .i64 s.ty, .int .i64 s.ttl, .int .i64 s.n, .string s.host, .string s.text]) : r = s := by
  obtain ⟨a, b, c, d, e, f⟩ := r
  obtain ⟨a', b', c', d', e', f'⟩ := s
  simp at h
  obtain ⟨rfl, rfl, rfl, rfl, rfl, rfl⟩ := h
  rfl

theorem quests : MapK.KeyT Tryd.prog 28 KQ := by
  refine KeyT.struct _ Tryd.underlying28 (fun _ _ _ => rfl) ?_ ?_ ?_ ?_
  · rintro w em v ⟨q, rfl⟩; exact quest_check w em q
  · rintro w x ⟨q, rfl⟩; exact quest_same q w
  · rintro w x y ⟨q, rfl⟩ ⟨p, rfl⟩ h; exact quest_diff (qv_ne h) w
  · rintro w v ⟨q, rfl⟩
    refine stays_agg [.string q.name, .int .i64 q.ty] w ?_
    simp only [List.mem_cons, List.not_mem_nil, or_false]
    rintro x (rfl | rfl)
    · exact bits_self _ _
    · exact bits_int _ _

theorem recs : MapK.KeyT Tryd.prog 39 KR := by
  refine KeyT.struct _ Tryd.underlying39 (fun _ _ _ => rfl) ?_ ?_ ?_ ?_
  · rintro w em v ⟨r, rfl⟩; exact rec_check w em r
  · rintro w x ⟨r, rfl⟩; exact rec_same r w
  · rintro w x y ⟨r, rfl⟩ ⟨s, rfl⟩ h; exact rec_diff (fun e => h (by rw [e])) w
  · rintro w v ⟨r, rfl⟩
    refine stays_agg [.string r.name, .int .i64 r.ty, .int .i64 r.ttl, .int .i64 r.n, .string r.host, .string r.text] w ?_
    simp only [List.mem_cons, List.not_mem_nil, or_false]
    rintro x (rfl | rfl | rfl | rfl | rfl | rfl) <;> first | exact bits_self _ _ | exact bits_int _ _
end Go.Proofs.YtkpcanigdppegaaDoor.KeyT

/- What firstsOf does at questions: a new slice with the questions, each once, in the order of the first occurrences. Condition: fewer than 400000001 of them. -/
namespace Go.Proofs.YtkpcanigdppegaaDoor.FstQ
open Go.RowKit Go.Proofs.YtkpcanigdppegaaDoor.Mem Go.Proofs.YtkpcanigdppegaaDoor.SetMath Go.Proofs.YtkpcanigdppegaaDoor.MapK Go.Proofs.YtkpcanigdppegaaDoor.KeyT Go.Proofs.YtkpcanigdppegaaDoor.MemQ

/-- The entries of a set. -/
def en (l : List Key) : List (Value × Value) := l.map (fun x => (qv x, .bool true))

theorem en_key (l : List Key) : ∀ p ∈ en l, KQ p.1 := by
  intro p hp
  obtain ⟨x, _, rfl⟩ := List.mem_map.1 hp
  exact ⟨x, rfl⟩

theorem val_inj {x y : Key} (h : (qv x : Value) = qv y) : x = y := by exact qv_inj h

theorem en_out {l : List Key} {x : Key} (h : x ∉ l) : ∀ p ∈ en l, p.1 ≠ qv x := by
  intro p hp e
  obtain ⟨y, hy, rfl⟩ := List.mem_map.1 hp
  exact h (val_inj e ▸ hy)

theorem en_in {l : List Key} {x : Key} (h : x ∈ l) : (qv x, Value.bool true) ∈ en l := List.mem_map.2 ⟨x, h, rfl⟩

theorem en_nodup : ∀ {l : List Key}, l.Nodup → ((en l).map Prod.fst).Nodup
  | [], _ => by simp [en]
  | x :: l, h => by
    obtain ⟨h1, h2⟩ := List.nodup_cons.1 h
    show (qv x :: (en l).map Prod.fst).Nodup
    refine List.nodup_cons.2 ⟨fun hm => ?_, en_nodup h2⟩
    obtain ⟨p, hp, he⟩ := List.mem_map.1 hm
    exact en_out h1 p hp he

theorem en_snoc (l : List Key) (x : Key) : en (l ++ [x]) = en l ++ [(qv x, .bool true)] := by simp [en]

theorem zero (w : World) : (zeroValue 4).run Tryd.prog w = .ok (.bool false) w := by kernel_rfl

theorem made_own (w : World) : ((w.alloc (.map #[] 0)).alloc (.cells #[] 28)).ownsRow (w.heap.size + 1) 28 2 (.slice (some ⟨w.heap.size + 1, 0, none⟩) 0 0) 0 [] := by
  have e : (w.alloc (.map #[] 0)).heap.size = w.heap.size + 1 := by simp
  have := owns_new (w.alloc (.map #[] 0))
  rwa [e] at this

end Go.Proofs.YtkpcanigdppegaaDoor.FstQ

/- What keyOf and KeysOf do in the program: the name and the type of a record; the keys of all records, each once. Condition: fewer than 400000001 records. -/
namespace Go.Proofs.YtkpcanigdppegaaDoor.KeyI
open Go.RowKit Go.Proofs.YtkpcanigdppegaaDoor.Mem Go.Proofs.YtkpcanigdppegaaDoor.MemR Go.Proofs.YtkpcanigdppegaaDoor.SetMath Go.Proofs.YtkpcanigdppegaaDoor.MemQ

set_option maxHeartbeats 1000000 in
theorem keyOf (r : Rec) (w : World) : Calls Tryd.prog 70 #[.agg #[.string r.name, .int .i64 r.ty, .int .i64 r.ttl, .int .i64 r.n, .string r.host, .string r.text]] w fun e w' => e = .returned (.agg #[.string r.name, .int .i64 r.ty]) ∧ Below w.heap.size w w' := by
  go_enter Tryd.func70, Tryd.ntmps70
  go_wp2
  refine bodyPost_ret (v := .agg #[.string r.name, .int .i64 r.ty]) (by simp [results, Tryd.results70, go_sem]) rfl ⟨rfl, ?_⟩
  repeat (first | exact Below.refl _ _ | refine Below.setCell ?_ (by simp; try omega) _ | refine Below.alloc ?_ (by simp; try omega) _)

end Go.Proofs.YtkpcanigdppegaaDoor.KeyI

/- Two keys of records compared with == and with != : what is answered, and nothing is turned. -/
namespace Go.Proofs.YtkpcanigdppegaaDoor.EqlQ
open Go.RowKit Go.Proofs.YtkpcanigdppegaaDoor.Mem Go.Proofs.YtkpcanigdppegaaDoor.MemR Go.Proofs.YtkpcanigdppegaaDoor.SetMath Go.Proofs.YtkpcanigdppegaaDoor.MemQ Go.Proofs.YtkpcanigdppegaaDoor.KeyT

theorem eql_same (s : ByteArray) (t : Int) (w : World) : Sem.run Tryd.prog (binOp .eql 28 (.agg #[.string s, .int .i64 t]) (.agg #[.string s, .int .i64 t])) w = .ok (.bool true) w := by
  have h := quest_same ⟨s, t⟩ w
  unfold qv Op.equal Op.maxDepth at h
  rw [run_eql_struct]
  simp only at h
  rw [h]
  rfl

theorem eql_diff {s s' : ByteArray} {t t' : Int} (e : ¬ (s = s' ∧ t = t')) (w : World) : Sem.run Tryd.prog (binOp .eql 28 (.agg #[.string s, .int .i64 t]) (.agg #[.string s', .int .i64 t'])) w = .ok (.bool false) w := by
  have h := quest_diff (q := ⟨s, t⟩) (p := ⟨s', t'⟩) (fun k => e (by injection k with h1 h2; exact ⟨h1, h2⟩)) w
  unfold qv Op.equal Op.maxDepth at h
  rw [run_eql_struct]
  simp only at h
  rw [h]
  rfl

theorem neq_same (s : ByteArray) (t : Int) (w : World) : Sem.run Tryd.prog (binOp .neq 28 (.agg #[.string s, .int .i64 t]) (.agg #[.string s, .int .i64 t])) w = .ok (.bool false) w := by
  have h := quest_same ⟨s, t⟩ w
  unfold qv Op.equal Op.maxDepth at h
  rw [run_neq_struct]
  simp only at h
  rw [h]
  rfl

theorem neq_diff {s s' : ByteArray} {t t' : Int} (e : ¬ (s = s' ∧ t = t')) (w : World) : Sem.run Tryd.prog (binOp .neq 28 (.agg #[.string s, .int .i64 t]) (.agg #[.string s', .int .i64 t'])) w = .ok (.bool true) w := by
  have h := quest_diff (q := ⟨s, t⟩) (p := ⟨s', t'⟩) (fun k => e (by injection k with h1 h2; exact ⟨h1, h2⟩)) w
  unfold qv Op.equal Op.maxDepth at h
  rw [run_neq_struct]
  simp only at h
  rw [h]
  rfl

end Go.Proofs.YtkpcanigdppegaaDoor.EqlQ

/- What inOrder does in the program: every record comes behind the one ahead of it, and neighbours of one key have one time to live. Condition: fewer than 400000001 records, of at most 400000000 bytes a text. -/
namespace Go.Proofs.YtkpcanigdppegaaDoor.OrdI
open Go.RowKit Go.Proofs.YtkpcanigdppegaaDoor.Mem Go.Proofs.YtkpcanigdppegaaDoor.MemR Go.Proofs.YtkpcanigdppegaaDoor.SetMath Go.Proofs.YtkpcanigdppegaaDoor.NameMath Go.Proofs.YtkpcanigdppegaaDoor.NameOk Go.Proofs.YtkpcanigdppegaaDoor.ZoneMath Go.Proofs.YtkpcanigdppegaaDoor.MemZ Go.Proofs.YtkpcanigdppegaaDoor.RecOk Go.Proofs.YtkpcanigdppegaaDoor.LessR Go.Proofs.YtkpcanigdppegaaDoor.ZokMath Go.Proofs.YtkpcanigdppegaaDoor.Labels Go.Proofs.YtkpcanigdppegaaDoor.BoxR

theorem bx_newE (w : World) (t : TypeId) (r : Rec) (g : Nat) (e : w.heap.size = g) : Bx (w.alloc (.cells #[.string r.name, .int .i64 r.ty, .int .i64 r.ttl, .int .i64 r.n, .string r.host, .string r.text] t)) g r := e ▸ bx_new w t r

theorem bx_drew {w : World} {g : Nat} {r : Rec} (h : Bx w g r) : Bx w.drew g r := h

set_option maxRecDepth 100000 in
set_option maxHeartbeats 8000000 in
theorem impl (b0 o0 n c : Nat) (l : List Rec) (w : World) (hs : Sr w w.heap.size (some ⟨b0, o0, none⟩) n l) (hn : n ≤ 400000000) (he : Env w) (hz : ∀ r ∈ l, Fine r) :
    Calls Tryd.prog 41 #[.slice (some ⟨b0, o0, none⟩) n c] w fun e w' => e = .returned (.bool (dec (Alln l.length (Po l)))) ∧ Below w.heap.size w w' := by
  have mixed : Tryd.prog.follows .mixedOrders = true := by kernel_rfl
  have HS := Lib.hid hs
  have HZ := Lib.hid hz
  have HV := Lib.hid he
  clear hs hz he
  go_enter Tryd.func41, Tryd.ntmps41
  go_wp2
  go_loopw [3] (fun i wr => ∃ j : Nat, i = .int .i64 ((j : Int) + 1) ∧ (j = 0 ∨ j + 1 ≤ n) ∧ Hid (Alln (j + 1) (Po l)) ∧ Hid (Below w.heap.size w wr)) (fun i _ => n + 1 - (intOf i).toNat)
  case atStart => exact ⟨0, rfl, Or.inl rfl, fun i hi => Or.inl (by omega), Below.refl _ _⟩
  case round =>
    obtain ⟨j, rfl, hj, HE, HL⟩ := hrel
    by_cases hlt : j + 1 < n
    · obtain ⟨b, off, hA, hbB, hcs⟩ := HS.out.2 (by omega)
      obtain ⟨rfl, rfl⟩ : b0 = b ∧ o0 = off := by simp at hA; exact hA
      clear hA
      have hj0 : j < l.length := by rw [HS.out.1]; omega
      have hj1 : j + 1 < l.length := by rw [HS.out.1]; exact hlt
      obtain ⟨p0, p1, p2, p3, p4, p5⟩ := (hcs j hj0).below HL.out hbB
      obtain ⟨e0, e1, e2, e3, e4, e5⟩ := (hcs (j + 1) hj1).below HL.out hbB
      clear hcs
      have HP : Hid (Po l (j + 1) ↔ (lr l[j] l[j + 1] = true ∧ ¬ (l[j].name = l[j + 1].name ∧ l[j].ty = l[j + 1].ty ∧ l[j].ttl ≠ l[j + 1].ttl))) := show _ ↔ _ by
        rw [Po, Nat.add_sub_cancel, at0_get hj0, at0_get hj1]
        exact ⟨fun h => h.elim (fun h => absurd h (by omega)) id, Or.inr⟩
      have F0 := Lib.hid (HZ.out _ (List.getElem_mem hj0))
      have F1 := Lib.hid (HZ.out _ (List.getElem_mem hj1))
      generalize l[j] = p at *
      generalize l[j + 1] = r at *
      have i1 : (j : Int) + 1 < (n : Int) := by omega
      have i2 : (j : Int) + 1 - 1 = (j : Int) := by omega
      have i3 : (j : Int) < (n : Int) := by omega
      have i4 : IntKind.i64.wrap (j : Int) = (j : Int) := IntWalk.i64_in _ (by omega)
      have i5 : IntKind.i64.wrap ((j : Int) + 1) = (j : Int) + 1 := IntWalk.i64_in _ (by omega)
      have ltb : b0 < wr.heap.size := Nat.lt_of_lt_of_le hbB HL.out.size
      go_wp2
      go_cut [4, 5] (fun a b wx => ∃ gx gy, a = .pointer (some ⟨gx, 0, none⟩) ∧ b = .pointer (some ⟨gy, 0, none⟩) ∧ Hid (Bx wx gx p) ∧ Hid (Bx wx gy r) ∧ Hid (Below w.heap.size w wx))
      case first =>
        go_region
        all_goals
          go_wp2_with fail
          go_meet
          case rel =>
            refine ⟨_, _, rfl, rfl, ?_, ?_, ?_⟩
            · show Bx _ _ _
              refine bx_drew ?_
              first | (refine bx_newE _ _ _ _ ?_; simp; done) | (refine Bx.alloc ?_ _; refine bx_newE _ _ _ _ ?_; simp; done)
            · show Bx _ _ _
              refine bx_drew ?_
              first | (refine bx_newE _ _ _ _ ?_; simp; done) | (refine Bx.alloc ?_ _; refine bx_newE _ _ _ _ ?_; simp; done)
            · show Below _ _ _
              exact ((HL.out.alloc HL.out.size _).alloc (Nat.le_trans HL.out.size (by simp)) _).drew
      case rest =>
        obtain ⟨gx, gy, rfl, rfl, X1, Y1, L1⟩ := hcut
        clear HL p0 p1 p2 p3 p4 p5 e0 e1 e2 e3 e4 e5 i1 i2 i3 i4 ltb
        have LC := Lib.hid (fun W (h : Below w.heap.size w W) => LessR.impl p r W (HV.out.below h) F0.out F1.out)
        obtain ⟨x0, x1, x2, x3, x4, x5⟩ := X1.out
        obtain ⟨y0, y1, y2, y3, y4, y5⟩ := Y1.out
        cases hlr : lr p r with
        | false =>
          have HF := Lib.hid (dec_false (alln_not hj1 (fun h => by have := (HP.out.1 h).1; rw [hlr] at this; cases this)))
          rw [hlr] at LC
          clear hlr HP
          go_wp2_with fail
          refine (LC.out _ L1.out).mono ?_
          rintro e w2 ⟨rfl, hl⟩
          have L2 := Lib.hid (L1.out.trans (hl.mono L1.out.size))
          clear hl LC x0 x1 x2 x3 x4 x5 y0 y1 y2 y3 y4 y5
          go_wp2
          go_ret
          exact ⟨congrArg (fun b => Ending.returned (Value.bool b)) HF.out.symm, L2.out⟩
        | true =>
          have HP2 : Hid (Po l (j + 1) ↔ ¬ (p.name = r.name ∧ p.ty = r.ty ∧ p.ttl ≠ r.ttl)) := ⟨fun h => (HP.out.1 h).2, fun h => HP.out.2 ⟨hlr, h⟩⟩
          rw [hlr] at LC
          clear hlr HP
          go_wp2_with fail
          refine (LC.out _ L1.out).mono ?_
          rintro e w2 ⟨rfl, hl⟩
          have L2 := Lib.hid (L1.out.trans (hl.mono L1.out.size))
          have X2 := Lib.hid (X1.out.below hl)
          have Y2 := Lib.hid (Y1.out.below hl)
          clear hl LC x0 x1 x2 x3 x4 x5 y0 y1 y2 y3 y4 y5 X1 Y1 L1
          go_upto_region 1 with (fail)
          have x0 : ∀ d os, (Sort.grow (redrawn w2 d) os).cell? _ = some _ := fun d os => (X2.out.drawn d os).1
          have x1 : ∀ d os, (Sort.grow (redrawn w2 d) os).cell? _ = some _ := fun d os => (X2.out.drawn d os).2.1
          have x2 : ∀ d os, (Sort.grow (redrawn w2 d) os).cell? _ = some _ := fun d os => (X2.out.drawn d os).2.2.1
          have x3 : ∀ d os, (Sort.grow (redrawn w2 d) os).cell? _ = some _ := fun d os => (X2.out.drawn d os).2.2.2.1
          have x4 : ∀ d os, (Sort.grow (redrawn w2 d) os).cell? _ = some _ := fun d os => (X2.out.drawn d os).2.2.2.2.1
          have x5 : ∀ d os, (Sort.grow (redrawn w2 d) os).cell? _ = some _ := fun d os => (X2.out.drawn d os).2.2.2.2.2
          have y0 : ∀ d os, (Sort.grow (redrawn w2 d) os).cell? _ = some _ := fun d os => (Y2.out.drawn d os).1
          have y1 : ∀ d os, (Sort.grow (redrawn w2 d) os).cell? _ = some _ := fun d os => (Y2.out.drawn d os).2.1
          have y2 : ∀ d os, (Sort.grow (redrawn w2 d) os).cell? _ = some _ := fun d os => (Y2.out.drawn d os).2.2.1
          have y3 : ∀ d os, (Sort.grow (redrawn w2 d) os).cell? _ = some _ := fun d os => (Y2.out.drawn d os).2.2.2.1
          have y4 : ∀ d os, (Sort.grow (redrawn w2 d) os).cell? _ = some _ := fun d os => (Y2.out.drawn d os).2.2.2.2.1
          have y5 : ∀ d os, (Sort.grow (redrawn w2 d) os).cell? _ = some _ := fun d os => (Y2.out.drawn d os).2.2.2.2.2
          have KP := Lib.hid (fun W (_ : Below w2.heap.size w2 W) => KeyI.keyOf p W)
          have KR := Lib.hid (fun W (_ : Below w2.heap.size w2 W) => KeyI.keyOf r W)
          by_cases hk : ¬ (p.name = r.name ∧ p.ty = r.ty)
          · have HN := Lib.hid (alln_next HE.out (HP2.out.2 (fun h => hk ⟨h.1, h.2.1⟩)))
            have q := EqlQ.eql_diff hk
            clear hk HP2
            go_wp2_with fail
            refine wp_region_quiet_below (by assumption) (by kernel_rfl) ?_
            repeat (quiet_step (first | (go_at_call 70; with_reducible exact in_class KP.out) | (go_at_call 70; with_reducible exact in_class KR.out)))
            refine wpQuiet_nil ?_
            intro w3 hw3
            have hl := of_class hw3
            have L3 := Lib.hid (L2.out.trans (hl.mono L2.out.size))
            clear hw3 hl x0 x1 x2 x3 x4 x5 y0 y1 y2 y3 y4 y5 q KP KR
            go_wp2
            go_roundw
            case rel => exact ⟨j + 1, by go_num, Or.inr (by omega), HN.out, L3.out⟩
            case measure => simp [intOf]; omega
          replace hk := Classical.not_not.1 hk
          have q : ∀ w : World, Sem.run Tryd.prog (binOp .eql 28 (.agg #[.string p.name, .int .i64 p.ty]) (.agg #[.string r.name, .int .i64 r.ty])) w = .ok (.bool true) w := fun w => by
            rw [hk.1, hk.2]
            exact EqlQ.eql_same r.name r.ty w
          by_cases ht : p.ttl = r.ttl
          · have HN := Lib.hid (alln_next HE.out (HP2.out.2 (fun h => h.2.2 ht)))
            have t0 : (p.ttl != r.ttl) = false := by simpa using ht
            clear hk HP2 ht
            go_wp2_with fail
            refine wp_region_quiet_below (by assumption) (by kernel_rfl) ?_
            repeat (quiet_step (first | (go_at_call 70; with_reducible exact in_class KP.out) | (go_at_call 70; with_reducible exact in_class KR.out)))
            refine wpQuiet_nil ?_
            intro w3 hw3
            have hl := of_class hw3
            have L3 := Lib.hid (L2.out.trans (hl.mono L2.out.size))
            clear hw3 hl x0 x1 x2 x3 x4 x5 y0 y1 y2 y3 y4 y5 q KP KR
            go_wp2
            go_roundw
            case rel => exact ⟨j + 1, by go_num, Or.inr (by omega), HN.out, L3.out⟩
            case measure => simp [intOf]; omega
          · have HF := Lib.hid (dec_false (alln_not hj1 (fun h => HP2.out.1 h ⟨hk.1, hk.2, ht⟩)))
            have t0 : (p.ttl != r.ttl) = true := by simpa using ht
            clear hk HP2 ht
            go_wp2_with fail
            refine wp_region_quiet_below (by assumption) (by kernel_rfl) ?_
            repeat (quiet_step (first | (go_at_call 70; with_reducible exact in_class KP.out) | (go_at_call 70; with_reducible exact in_class KR.out)))
            refine wpQuiet_nil ?_
            intro w3 hw3
            have hl := of_class hw3
            have L3 := Lib.hid (L2.out.trans (hl.mono L2.out.size))
            clear hw3 hl x0 x1 x2 x3 x4 x5 y0 y1 y2 y3 y4 y5 q KP KR
            go_wp2
            go_ret
            exact ⟨congrArg (fun b => Ending.returned (Value.bool b)) HF.out.symm, L3.out⟩
    · have HF : Hid (dec (Alln l.length (Po l)) = true) := dec_true (fun i hi => HE.out i (by rw [HS.out.1] at hi; omega))
      have i1 : ¬ (j : Int) + 1 < (n : Int) := by omega
      go_wp2
      go_ret
      exact ⟨congrArg (fun b => Ending.returned (Value.bool b)) HF.out.symm, HL.out⟩

end Go.Proofs.YtkpcanigdppegaaDoor.OrdI

/- What StartOf does in the model: the first record of the start's type, or a record with nothing in it. Condition: fewer than 400000001 records. -/
namespace Go.Proofs.YtkpcanigdppegaaDoor.StartS
open Go.RowKit Go.Proofs.YtkpcanigdppegaaDoor.Mem Go.Proofs.YtkpcanigdppegaaDoor.MemR Go.Proofs.YtkpcanigdppegaaDoor.SetMath Go.Proofs.YtkpcanigdppegaaDoor.ZoneMath Go.Proofs.YtkpcanigdppegaaDoor.MemZ Go.Proofs.YtkpcanigdppegaaDoor.ResR

theorem box2 {w : World} {a : Obj} {cs : Array Value} {t : TypeId} : Bk ((w.alloc a).alloc (.cells cs t)) (w.heap.size + 1) t cs.toList := by
  have := heap_alloc_new (w.alloc a) (.cells cs t)
  rw [show (w.alloc a).heap.size = w.heap.size + 1 by simp] at this
  exact this

set_option maxRecDepth 100000 in
set_option maxHeartbeats 8000000 in
theorem spec (s : ByteArray) (b0 o0 n c : Nat) (l : List Rec) (w : World) (hs : Sr w w.heap.size (some ⟨b0, o0, none⟩) n l) (hn : n ≤ 400000000) :
    Calls Tryd.prog 15 #[.agg #[.string s, .slice (some ⟨b0, o0, none⟩) n c]] w fun e w' => e = .returned (.agg #[.string ((st l)).name, .int .i64 ((st l)).ty, .int .i64 ((st l)).ttl, .int .i64 ((st l)).n, .string ((st l)).host, .string ((st l)).text]) ∧ Below w.heap.size w w' := by
  have Z0 := Lib.hid ((zx_new w 26 s (.slice (some ⟨b0, o0, none⟩) n c)).alloc (.cells #[.string ⟨#[]⟩, .int .i64 0, .int .i64 0, .int .i64 0, .string ⟨#[]⟩, .string ⟨#[]⟩] 39))
  have R0 := Lib.hid (box2 (w := w) (a := .cells #[.string s, .slice (some ⟨b0, o0, none⟩) n c] 26) (cs := #[.string ⟨#[]⟩, .int .i64 0, .int .i64 0, .int .i64 0, .string ⟨#[]⟩, .string ⟨#[]⟩]) (t := 39))
  have L0 := Lib.hid (((Below.refl w.heap.size w).alloc (Nat.le_refl _) (.cells #[.string s, .slice (some ⟨b0, o0, none⟩) n c] 26)).alloc (by simp) (.cells #[.string ⟨#[]⟩, .int .i64 0, .int .i64 0, .int .i64 0, .string ⟨#[]⟩, .string ⟨#[]⟩] 39))
  have HS := Lib.hid hs
  clear hs
  go_enter Tryd.func15, Tryd.ntmps15
  go_wp2
  generalize (w.alloc (.cells #[.string s, .slice (some ⟨b0, o0, none⟩) n c] 26)).alloc (.cells #[.string ⟨#[]⟩, .int .i64 0, .int .i64 0, .int .i64 0, .string ⟨#[]⟩, .string ⟨#[]⟩] 39) = w0 at *
  go_loopw [3] (fun i wr => ∃ k : Nat, k ≤ n ∧ i = .int .i64 k ∧ wr = w0 ∧ Hid (∀ r ∈ l.take k, r.ty ≠ 6)) (fun i _ => n - (intOf i).toNat)
  case atStart => exact ⟨0, Nat.zero_le _, rfl, rfl, fun r hr => by simp at hr⟩
  case round =>
    obtain ⟨k, hk, rfl, rfl, HE⟩ := hrel
    obtain ⟨z0, z1⟩ := Z0.out
    have r0 : wr.cell? ⟨w.heap.size + 1, 0, none⟩ = some (.string ⟨#[]⟩) := R0.out.cell 0
    have r1 : wr.cell? ⟨w.heap.size + 1, 1, none⟩ = some (.int .i64 0) := R0.out.cell 1
    have r2 : wr.cell? ⟨w.heap.size + 1, 2, none⟩ = some (.int .i64 0) := R0.out.cell 2
    have r3 : wr.cell? ⟨w.heap.size + 1, 3, none⟩ = some (.int .i64 0) := R0.out.cell 3
    have r4 : wr.cell? ⟨w.heap.size + 1, 4, none⟩ = some (.string ⟨#[]⟩) := R0.out.cell 4
    have r5 : wr.cell? ⟨w.heap.size + 1, 5, none⟩ = some (.string ⟨#[]⟩) := R0.out.cell 5
    have q0 := R0.out.free 0
    have q1 := R0.out.free 1
    have q2 := R0.out.free 2
    have q3 := R0.out.free 3
    have q4 := R0.out.free 4
    have q5 := R0.out.free 5
    by_cases hlt : k < n
    · obtain ⟨b, off, hA, hbB, hcs⟩ := HS.out.2 (by omega)
      obtain ⟨rfl, rfl⟩ : b0 = b ∧ o0 = off := by simp at hA; exact hA
      clear hA
      have hkl : k < l.length := by rw [HS.out.1]; exact hlt
      obtain ⟨e0, e1, e2, e3, e4, e5⟩ := (hcs k hkl).below L0.out hbB
      clear hcs
      have HH := Lib.hid (fun e => st_hit l k hkl e HE.out)
      have HN := Lib.hid (fun e => st_next l k hkl e HE.out)
      generalize l[k] = r at *
      by_cases hty : r.ty = 6
      · have HF := Lib.hid (HH.out hty)
        have t0 : (r.ty == 6) = true := by simpa using hty
        clear hty HH HN
        have F := Lib.hid (fil_bk (r0 := zr) R0.out r)
        have E := Lib.hid (fil_below L0.out (g := w.heap.size + 1) (by omega) r)
        go_wp2
        exact bodyPost_ret (v := .agg #[.string r.name, .int .i64 r.ty, .int .i64 r.ttl, .int .i64 r.n, .string r.host, .string r.text]) (res1 rfl F.out rfl) rfl ⟨by rw [HF.out], E.out⟩
      · have HF := Lib.hid (HN.out hty)
        have t0 : (r.ty == 6) = false := by simpa using hty
        clear hty HH HN
        go_wp2
        go_roundw
        case rel => exact ⟨k + 1, by omega, by go_num, trivial, HF.out⟩
        case measure => simp [intOf]; omega
    · obtain rfl : n = k := by omega
      have HF := Lib.hid (st_none l (by rw [take_all HS.out.1] at HE; exact HE.out))
      have F := Lib.hid (fil_bk (r0 := zr) R0.out zr)
      have E := Lib.hid (fil_below L0.out (g := w.heap.size + 1) (by omega) zr)
      go_wp2
      exact bodyPost_ret (v := .agg #[.string zr.name, .int .i64 zr.ty, .int .i64 zr.ttl, .int .i64 zr.n, .string zr.host, .string zr.text]) (res1 rfl F.out rfl) rfl ⟨by rw [HF.out], E.out⟩
end Go.Proofs.YtkpcanigdppegaaDoor.StartS
