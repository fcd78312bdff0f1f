/- What SameMsg does in the program and in the model: whether two messages are equal in all fields and all records. Condition: fewer than 400000001 records in each section. -/
import Derived.Test.YtlakegeabnjegaaGreatDoorNumSpec
import Derived.Test.YtlakegeabnjegaaGreatDoorShelfN
import Derived.Lib.LaidTab
import Derived.Stop.LaidErr
import Derived.Test.YtlakegeabnjegaaGreatDoorJoinSpec
import Derived.Test.YtlakegeabnjegaaGreatDoorShelf
import Derived.Test.YtlakegeabnjegaaGreatDoorRecOk
import Derived.Test.YtlakegeabnjegaaGreatDoorTypes
import Derived.Lib.ItoaLen
import Derived.Deep.RegionHeld3
import Derived.Test.YtlakegeabnjegaaGreatDoorOkM
import Derived.Test.YtlakegeabnjegaaGreatDoorMemR
import Derived.Laws.StructEq
import Derived.Deep.QuietTactic
import Derived.BigQuiet
import Derived.Test.YtlakegeabnjegaaGreatDoorResM
/- What NumText does in the program, by the library's proved contract of strconv.Itoa, where the table of powers of ten reads as its text lays it. -/
namespace Go.Proofs.YtlakegeabnjegaaGreatDoor.Num
open Go.RowKit Go.Proofs.YtlakegeabnjegaaGreatDoor.Mem

theorem gPow : Tryz.prog.globalNamed "internal/strconv.uint64pow10" = some 1 := by kernel_rfl
theorem gPowType : (Tryz.prog.globals[1]?).map (·.type) = some 112 := by kernel_rfl
theorem cellsPow : Tryz.prog.cellsOf 112 = 20 := by kernel_rfl
theorem cells64 : Tryz.prog.cellsOf 103 = 1 := by kernel_rfl

/-- The table of powers of ten reads as it should. -/
def Tab (w : World) : Prop := Lib.TabIs Tryz.prog w "internal/strconv.uint64pow10" .u64 Lib.pow10Tab
theorem Tab.lt {w : World} (h : Tab w) : 1 < w.heap.size := by
  have hc := Lib.TabIs.cell h gPow 0 (by rw [Lib.pow10Tab_length]; omega)
  exact World.block_lt_of_cell? _ _ hc
theorem Tab.below {w w' : World} (h : Tab w) (hb : Below w.heap.size w w') : Tab w' := var?_below hb gPow h.lt h

theorem grow_below (w : World) (k : Nat) (os : Array Obj) : Below w.heap.size w (Go.Sort.grow (w.drewN k) os) := by
  refine ⟨rfl, rfl, rfl, ?_, fun i hi => ?_⟩
  · show w.heap.size ≤ (w.heap ++ os).size
    simp
  · show (w.heap ++ os)[i]? = w.heap[i]?
    rw [Array.getElem?_append_left hi]

theorem bounds {n : Int} (h : (Lit.int .i64 n).wf = true) : -9223372036854775808 ≤ n ∧ n ≤ 9223372036854775807 := by
  have e1 : IntKind.i64.min = -9223372036854775808 := by decide
  have e2 : IntKind.i64.max = 9223372036854775807 := by decide
  simp [Lit.wf] at h
  omega

/-- A def, so that no step of a walk opens it. -/
def Txt (n : Int) : ByteArray := ⟨(Lib.itoa n).toArray⟩

theorem itoa (n : Int) (h : (Lit.int .i64 n).wf = true) (w : World) (ht : Tab w) :
    Calls Tryz.prog 64 #[.int .i64 n] w fun e w' => e = .returned (.string (Txt n)) ∧ Below w.heap.size w w' :=
  (Go.Proofs.Any.strconv_Itoa Tryz.laysM171 n (bounds h).1 (bounds h).2 w ht).mono fun _ _ ⟨he, k, os, hw⟩ => ⟨he, hw ▸ grow_below w k os⟩

set_option maxHeartbeats 400000 in
theorem impl (n : Int) (h : (Lit.int .i64 n).wf = true) (w : World) (ht : Tab w) :
    Calls Tryz.prog 38 #[.int .i64 n] w fun e w' => e = .returned (.string (Txt n)) ∧ Below w.heap.size w w' := by
  have HT := Lib.hid ht
  have HH := Lib.hid h
  clear ht h
  go_enter Tryz.func38, Tryz.ntmps38
  go_wp2_with fail
  refine (itoa n HH.out w HT.out).mono ?_
  rintro e w1 ⟨rfl, hl⟩
  have HL := Lib.hid hl
  clear hl
  go_wp2
  go_ret
  exact ⟨rfl, HL.out⟩

theorem spec (n : Int) (h : (Lit.int .i64 n).wf = true) (w : World) :
    Calls Tryz.prog 44 #[.int .i64 n] w fun e w' => e = .returned (.string (Txt n)) ∧ Below w.heap.size w w' :=
  NumSpec.any n (bounds h).1 (bounds h).2 w

end Go.Proofs.YtlakegeabnjegaaGreatDoor.Num

/- What the program's JoinLabels does, by the library's proved contract of strings.Join: it returns the texts with a dot between them. Condition: at most 4000000 texts and bytes together. -/
namespace Go.Proofs.YtlakegeabnjegaaGreatDoor.Join
open Go.RowKit Go.Proofs.YtlakegeabnjegaaGreatDoor.Mem Go.Proofs.YtlakegeabnjegaaGreatDoor.MemS Go.Proofs.YtlakegeabnjegaaGreatDoor.JoinSpec

theorem join (A : Option Addr) (n c : Nat) (l : List ByteArray) (w : World) (hs : Ss w w.heap.size A n l) (hnc : n ≤ c) (hn : l.length + (l.map (·.size)).sum ≤ 800000000) :
    Calls Tryz.prog 41 #[.slice A n c, .string ⟨#[46]⟩] w fun e w' => e = .returned (.string (Jo l)) ∧ Below w.heap.size w w' := by
  have hl := hs.1
  by_cases h0 : 0 < n
  · obtain ⟨b, off, rfl, hb, hcs⟩ := hs.2 h0
    subst hl
    have hz := jo_size l l.length (Nat.le_refl _)
    rw [List.take_length] at hz
    exact Go.Proofs.Any.strings_Join Tryz.lays156 Tryz.Builder_Extra_156 b off c l ⟨#[46]⟩ w (fun j x hx => by
      obtain ⟨hj, rfl⟩ := List.getElem?_eq_some_iff.1 hx
      exact hcs j hj) hb (by omega) hnc (by show (jo l).length ≤ _; omega)
  · obtain rfl : n = 0 := by omega
    obtain rfl : l = [] := List.eq_nil_of_length_eq_zero hl
    exact (Go.Proofs.Any.strings_Join_none Tryz.lays156 Tryz.Builder_Extra_156 A c ⟨#[46]⟩ w).mono fun e w' ⟨he, hw⟩ => ⟨he, hw ▸ Below.refl _ _⟩

end Go.Proofs.YtlakegeabnjegaaGreatDoor.Join

/- What RecordText does in the program and in the model: the words of a valid record, and the empty text for an invalid one. Conditions: at most 400000000 bytes in each text; for the program: the library's variable internal/bytealg.MaxLen holds an int, and its table of powers of ten reads as its text lays it. -/
namespace Go.Proofs.YtlakegeabnjegaaGreatDoor.RecText
open Go.RowKit Go.Proofs.YtlakegeabnjegaaGreatDoor.Mem Go.Proofs.YtlakegeabnjegaaGreatDoor.MemS Go.Proofs.YtlakegeabnjegaaGreatDoor.MemR Go.Proofs.YtlakegeabnjegaaGreatDoor.Labels Go.Proofs.YtlakegeabnjegaaGreatDoor.NameOk Go.Proofs.YtlakegeabnjegaaGreatDoor.TextR Go.Proofs.YtlakegeabnjegaaGreatDoor.BoxR Go.Proofs.YtlakegeabnjegaaGreatDoor.RecOk Go.Proofs.YtlakegeabnjegaaGreatDoor.Types Go.Proofs.YtlakegeabnjegaaGreatDoor.Num

/-- A name as it is written. -/
def dot (s : ByteArray) : ByteArray := if s.size = 0 then ⟨#[46]⟩ else s
/-- The data of a record as they are written. -/
def dtx (ty n : Int) (host text : ByteArray) : ByteArray :=
  if ty = 1 then Txt n else if ty = 2 ∨ ty = 5 then dot host else if ty = 6 then dot host ++ ⟨#[32]⟩ ++ Txt n else if ty = 16 then ⟨#[39]⟩ ++ text else ⟨#[]⟩
/-- What stands ahead of the data. -/
def pre (r : Rec) : ByteArray := dot r.name ++ ⟨#[32]⟩ ++ Txt r.ttl ++ ⟨#[32]⟩ ++ tt r.ty ++ ⟨#[32]⟩
/-- A record as it is written. A def, so that no step of a walk opens it. -/
def rtx (r : Rec) : ByteArray := if rok r = true then pre r ++ dtx r.ty r.n r.host r.text else ⟨#[]⟩
theorem dtx_1 (n : Int) (h t : ByteArray) : dtx 1 n h t = Txt n := rfl
theorem dtx_2 (n : Int) (h t : ByteArray) : dtx 2 n h t = dot h := rfl
theorem dtx_5 (n : Int) (h t : ByteArray) : dtx 5 n h t = dot h := rfl
theorem dtx_6 (n : Int) (h t : ByteArray) : dtx 6 n h t = dot h ++ ⟨#[32]⟩ ++ Txt n := rfl
theorem dtx_16 (n : Int) (h t : ByteArray) : dtx 16 n h t = ⟨#[39]⟩ ++ t := rfl
theorem add_assoc (a b c : ByteArray) : a ++ b ++ c = a ++ (b ++ c) := text_ext (by simp)

theorem add_size (a b : ByteArray) : (a ++ b).size = a.size + b.size := ByteArray.size_append
theorem dot_size (s : ByteArray) : (dot s).size ≤ s.size + 1 := by
  unfold dot
  by_cases h : s.size = 0
  · rw [if_pos h]; show 1 ≤ _; omega
  · rw [if_neg h]; omega
theorem txt_size {n : Int} (h0 : 0 ≤ n) (h1 : n ≤ 2147483647) : (Txt n).size ≤ 21 := by
  have := Lib.itoa_length_le n (by omega) (by omega)
  show (Lib.itoa n).toArray.size ≤ 21
  simpa using this
theorem tt_size (n : Int) : (tt n).size ≤ 6 := by
  unfold tt
  by_cases h1 : n = 1
  · rw [if_pos h1]; decide
  rw [if_neg h1]
  by_cases h2 : n = 2
  · rw [if_pos h2]; decide
  rw [if_neg h2]
  by_cases h3 : n = 5
  · rw [if_pos h3]; decide
  rw [if_neg h3]
  by_cases h4 : n = 6
  · rw [if_pos h4]; decide
  rw [if_neg h4]
  by_cases h5 : n = 16
  · rw [if_pos h5]; decide
  rw [if_neg h5]; decide
theorem cat (a b : ByteArray) (ha : a.size ≤ 800000000) (hb : b.size ≤ 800000000) (w : World) : (Op.stringOp .add a b).run Tryz.prog w = .ok (.string (a ++ b)) w := run_string_add_sum w a b (by omega)
theorem one_size (x : UInt8) : (ByteArray.mk #[x]).size = 1 := rfl

theorem dtx_size (ty n : Int) (h t : ByteArray) (hn : (Txt n).size ≤ 21) (hh : h.size ≤ 50) (ht : t.size ≤ 12) : (dtx ty n h t).size ≤ 100 := by
  have d := dot_size h
  unfold dtx
  by_cases h1 : ty = 1
  · rw [if_pos h1]; omega
  rw [if_neg h1]
  by_cases h2 : ty = 2 ∨ ty = 5
  · rw [if_pos h2]; omega
  rw [if_neg h2]
  by_cases h3 : ty = 6
  · rw [if_pos h3, add_size, add_size, one_size]; omega
  rw [if_neg h3]
  by_cases h4 : ty = 16
  · rw [if_pos h4, add_size, one_size]; omega
  rw [if_neg h4]; exact Nat.zero_le _

theorem wf_of {n : Int} (h0 : 0 ≤ n) (h1 : n ≤ 2147483647) : (Lit.int .i64 n).wf = true := by
  have e1 : IntKind.i64.min = -9223372036854775808 := by decide
  have e2 : IntKind.i64.max = 9223372036854775807 := by decide
  simp [Lit.wf]
  omega
theorem nm_size {s : ByteArray} (h : Nm s = true) : s.size ≤ 50 := by
  unfold Nm at h
  simp only [Bool.and_eq_true, decide_eq_true_eq] at h
  exact h.1.2
theorem inn_of {x a b : Int} (h : inn x a b = true) : a ≤ x ∧ x ≤ b := of_decide_eq_true h
theorem nul_of {n : Int} (h : nul n = true) : n = 0 := of_decide_eq_true h
/-- What a valid record keeps to. -/
theorem rok_of {r : Rec} (h : rok r = true) : (0 ≤ r.ttl ∧ r.ttl ≤ 100000) ∧ (0 ≤ r.n ∧ r.n ≤ 2147483647) ∧ r.name.size ≤ 50 ∧ r.host.size ≤ 50 ∧ r.text.size ≤ 12 ∧ (r.ty = 1 ∨ r.ty = 2 ∨ r.ty = 5 ∨ r.ty = 6 ∨ r.ty = 16) := by
  unfold rok dko at h
  rw [Bool.and_eq_true, Bool.and_eq_true] at h
  obtain ⟨h1, h2, h3⟩ := h
  have e1 := nm_size h1
  have e2 := inn_of h2
  by_cases c1 : r.ty = 1
  · rw [if_pos c1, Bool.and_eq_true, Bool.and_eq_true] at h3
    have e3 := inn_of h3.1
    have e4 : r.host.size = 0 := of_decide_eq_true h3.2.1
    have e5 : r.text.size = 0 := of_decide_eq_true h3.2.2
    exact ⟨e2, e3, e1, by omega, by omega, Or.inl c1⟩
  · rw [if_neg c1] at h3
    by_cases c2 : r.ty = 2 ∨ r.ty = 5
    · rw [if_pos c2, Bool.and_eq_true, Bool.and_eq_true] at h3
      have e3 := nul_of h3.2.1
      have e4 := nm_size h3.1
      have e5 : r.text.size = 0 := of_decide_eq_true h3.2.2
      exact ⟨e2, by omega, e1, by omega, by omega, by omega⟩
    · rw [if_neg c2] at h3
      by_cases c6 : r.ty = 6
      · rw [if_pos c6, Bool.and_eq_true, Bool.and_eq_true] at h3
        have e3 := inn_of h3.2.1
        have e4 := nm_size h3.1
        have e5 : r.text.size = 0 := of_decide_eq_true h3.2.2
        exact ⟨e2, by omega, e1, by omega, by omega, by omega⟩
      · rw [if_neg c6] at h3
        by_cases c16 : r.ty = 16
        · rw [if_pos c16, Bool.and_eq_true, Bool.and_eq_true] at h3
          have e3 := nul_of h3.2.1
          have e4 : r.host.size = 0 := of_decide_eq_true h3.2.2
          have e5 : r.text.size ≤ 12 := by
            have := h3.1
            unfold txo at this
            simp only [Bool.and_eq_true, decide_eq_true_eq] at this
            exact this.2
          exact ⟨e2, by omega, e1, by omega, e5, by omega⟩
        · rw [if_neg c16] at h3
          cases h3

theorem dot_impl (s : ByteArray) (w : World) : Calls Tryz.prog 39 #[.string s] w fun e w' => e = .returned (.string (dot s)) ∧ w = w' := by
  by_cases h : s.size = 0
  · have HD : Hid (dot s = ⟨#[46]⟩) := if_pos h
    have k := emp_true (decide_eq_true h)
    clear h
    go_enter Tryz.func39, Tryz.ntmps39
    go_wp2
    go_ret
    exact ⟨by rw [HD.out]; rfl, rfl⟩
  · have HD : Hid (dot s = s) := if_neg h
    have k := not_empty s h
    clear h
    go_enter Tryz.func39, Tryz.ntmps39
    go_wp2
    go_ret
    exact ⟨by rw [HD.out]; rfl, rfl⟩

theorem dot_spec (s : ByteArray) (w : World) : Calls Tryz.prog 45 #[.string s] w fun e w' => e = .returned (.string (dot s)) ∧ w = w' := by
  by_cases h : s.size = 0
  · have HD : Hid (dot s = ⟨#[46]⟩) := if_pos h
    have k := emp_true (decide_eq_true h)
    clear h
    go_enter Tryz.func45, Tryz.ntmps45
    go_wp2
    go_ret
    exact ⟨by rw [HD.out]; rfl, rfl⟩
  · have HD : Hid (dot s = s) := if_neg h
    have k := not_empty s h
    clear h
    go_enter Tryz.func45, Tryz.ntmps45
    go_wp2
    go_ret
    exact ⟨by rw [HD.out]; rfl, rfl⟩
theorem same_below {P : Program} {f : FuncId} {args : Array Value} {v : Value} {w : World} (h : Calls P f args w fun e w' => e = .returned v ∧ w = w') : Calls P f args w fun e w' => e = .returned v ∧ Below w.heap.size w w' :=
  h.mono fun _ _ ⟨he, hw⟩ => ⟨he, hw ▸ Below.refl _ _⟩

set_option maxHeartbeats 4000000 in
theorem data (r : Rec) (w : World) (ht : Tab w) (hz : r.host.size ≤ 50) (hx : r.text.size ≤ 12) (h0 : 0 ≤ r.n) (h1 : r.n ≤ 2147483647) (hy : r.ty = 1 ∨ r.ty = 2 ∨ r.ty = 5 ∨ r.ty = 6 ∨ r.ty = 16) : Calls Tryz.prog 81 #[.agg #[.string r.name, .int .i64 r.ty, .int .i64 r.ttl, .int .i64 r.n, .string r.host, .string r.text]] w fun e w' => e = .returned (.string (dtx r.ty r.n r.host r.text)) ∧ Below w.heap.size w w' := by
  have mixed : Tryz.prog.follows .mixedOrders = true := by kernel_rfl
  have HT := Lib.hid ht
  clear ht
  obtain ⟨name, ty, ttl, n, host, text⟩ := r
  simp only at h0 h1 hy hz hx ⊢
  have d1 := dot_size host
  have d2 := txt_size h0 h1
  have HW := Lib.hid (wf_of h0 h1)
  have L0 := Lib.hid ((Below.refl w.heap.size w).alloc (Nat.le_refl _) (.cells #[.string name, .int .i64 ty, .int .i64 ttl, .int .i64 n, .string host, .string text] 73))
  have X0 := Lib.hid (bx_new w 73 ⟨name, ty, ttl, n, host, text⟩)
  rcases hy with rfl | rfl | rfl | rfl | rfl
  · rw [dtx_1]
    go_enter Tryz.func81, Tryz.ntmps81
    go_wp2_with fail
    refine (Num.impl n HW.out _ (HT.out.below L0.out)).mono ?_
    rintro e w1 ⟨rfl, hl⟩
    have L1 := Lib.hid (L0.out.trans (hl.mono L0.out.size))
    clear hl L0
    go_wp2
    go_ret
    exact ⟨rfl, L1.out⟩
  · rw [dtx_2]
    go_enter Tryz.func81, Tryz.ntmps81
    go_wp2_with fail
    refine (dot_impl host _).mono ?_
    rintro e w1 ⟨rfl, rfl⟩
    go_wp2
    go_ret
    exact ⟨rfl, L0.out⟩
  · rw [dtx_5]
    go_enter Tryz.func81, Tryz.ntmps81
    go_wp2_with fail
    refine (dot_impl host _).mono ?_
    rintro e w1 ⟨rfl, rfl⟩
    go_wp2
    go_ret
    exact ⟨rfl, L0.out⟩
  · rw [dtx_6]
    go_enter Tryz.func81, Tryz.ntmps81
    go_wp2_with fail
    generalize w.alloc (.cells #[.string name, .int .i64 6, .int .i64 ttl, .int .i64 n, .string host, .string text] 73) = wb at *
    have k1 := cat (dot host) ⟨#[32]⟩ (by omega) (by rw [one_size]; omega)
    have k2 := cat (dot host ++ ⟨#[32]⟩) (Txt n) (by rw [add_size, one_size]; omega) (by omega)
    have CN := Lib.hid (fun W (h : Below wb.heap.size wb W) => Num.impl n HW.out W (HT.out.below (L0.out.trans (h.mono L0.out.size))))
    have x0 : ∀ d os, (Sort.grow (redrawn wb d) os).cell? _ = some _ := fun d os => (X0.out.drawn d os).1
    have x1 : ∀ d os, (Sort.grow (redrawn wb d) os).cell? _ = some _ := fun d os => (X0.out.drawn d os).2.1
    have x2 : ∀ d os, (Sort.grow (redrawn wb d) os).cell? _ = some _ := fun d os => (X0.out.drawn d os).2.2.1
    have x3 : ∀ d os, (Sort.grow (redrawn wb d) os).cell? _ = some _ := fun d os => (X0.out.drawn d os).2.2.2.1
    have x4 : ∀ d os, (Sort.grow (redrawn wb d) os).cell? _ = some _ := fun d os => (X0.out.drawn d os).2.2.2.2.1
    have x5 : ∀ d os, (Sort.grow (redrawn wb d) os).cell? _ = some _ := fun d os => (X0.out.drawn d os).2.2.2.2.2
    refine wp_region_quiet_below (by assumption) (by kernel_rfl) ?_
    repeat (quiet_step (first | (go_at_call 39; exact in_class (fun W _ => same_below (dot_impl host W))) | (go_at_call 38; exact in_class CN.out)))
    refine wpQuiet_nil ?_
    intro w3 hw3
    have hl := of_class hw3
    have L3 := Lib.hid (L0.out.trans (hl.mono L0.out.size))
    clear hl hw3 x0 x1 x2 x3 x4 x5 CN
    go_wp2
    go_ret
    exact ⟨rfl, L3.out⟩
  · rw [dtx_16]
    have k1 := cat ⟨#[39]⟩ text (by rw [one_size]; omega) (by omega)
    go_enter Tryz.func81, Tryz.ntmps81
    go_wp2
    go_ret
    exact ⟨rfl, L0.out⟩

set_option maxHeartbeats 4000000 in
theorem spec (r : Rec) (w : World) (hr : Mod r) : Calls Tryz.prog 69 #[.agg #[.string r.name, .int .i64 r.ty, .int .i64 r.ttl, .int .i64 r.n, .string r.host, .string r.text]] w fun e w' => e = .returned (.string (rtx r)) ∧ Below w.heap.size w w' := by
  have mixed : Tryz.prog.follows .mixedOrders = true := by kernel_rfl
  have HR := Lib.hid hr
  clear hr
  have L0 := Lib.hid ((Below.refl w.heap.size w).alloc (Nat.le_refl _) (.cells #[.string r.name, .int .i64 r.ty, .int .i64 r.ttl, .int .i64 r.n, .string r.host, .string r.text] 73))
  have X0 := Lib.hid (bx_new w 73 r)
  cases hk : rok r
  · have HV : Hid (rtx r = ⟨#[]⟩) := if_neg (by rw [hk]; simp)
    have HK := Lib.hid hk
    clear hk
    go_enter Tryz.func69, Tryz.ntmps69
    go_wp2_with fail
    refine (RecOk.spec r _ HR.out).mono ?_
    rw [HK.out]
    rintro e w1 ⟨rfl, hl⟩
    have L1 := Lib.hid (L0.out.trans (hl.mono L0.out.size))
    clear hl L0 X0
    go_wp2
    go_ret
    exact ⟨by rw [HV.out]; rfl, L1.out⟩
  · have HV : Hid (rtx r = pre r ++ dtx r.ty r.n r.host r.text) := if_pos hk
    obtain ⟨⟨q0, q1⟩, ⟨q2, q3⟩, z1, z2, z3, hy⟩ := rok_of hk
    have HK := Lib.hid hk
    clear hk
    have WT := Lib.hid (wf_of q0 (by omega))
    have WN := Lib.hid (wf_of q2 q3)
    have zt := txt_size q0 (by omega)
    have zn := txt_size q2 q3
    clear q0 q1 q2 q3
    go_enter Tryz.func69, Tryz.ntmps69
    go_wp2_with fail
    refine (RecOk.spec r _ HR.out).mono ?_
    rw [HK.out]
    rintro e w1 ⟨rfl, hl⟩
    have L1 := Lib.hid (L0.out.trans (hl.mono L0.out.size))
    have X1 := Lib.hid (X0.out.below hl)
    clear hl L0 X0
    have d1 := dot_size r.name
    have d2 := dot_size r.host
    have e1 := add_size (dot r.name) ⟨#[32]⟩
    have e2 := add_size (dot r.name ++ ⟨#[32]⟩) (Txt r.ttl)
    have e3 := add_size (dot r.name ++ ⟨#[32]⟩ ++ Txt r.ttl) ⟨#[32]⟩
    have e4 := add_size (dot r.name ++ ⟨#[32]⟩ ++ Txt r.ttl ++ ⟨#[32]⟩) (tt r.ty)
    have e5 := add_size (dot r.name ++ ⟨#[32]⟩ ++ Txt r.ttl ++ ⟨#[32]⟩ ++ tt r.ty) ⟨#[32]⟩
    have s1 := one_size 32
    have d3 := tt_size r.ty
    have k1 := cat (dot r.name) ⟨#[32]⟩ (by omega) (by omega)
    have k2 := cat (dot r.name ++ ⟨#[32]⟩) (Txt r.ttl) (by omega) (by omega)
    have k3 := cat (dot r.name ++ ⟨#[32]⟩ ++ Txt r.ttl) ⟨#[32]⟩ (by omega) (by omega)
    have k4 := cat (dot r.name ++ ⟨#[32]⟩ ++ Txt r.ttl ++ ⟨#[32]⟩) (tt r.ty) (by omega) (by omega)
    have k5 := cat (dot r.name ++ ⟨#[32]⟩ ++ Txt r.ttl ++ ⟨#[32]⟩ ++ tt r.ty) ⟨#[32]⟩ (by omega) (by omega)
    have HZ : Hid ((pre r).size ≤ 200) := by show (dot r.name ++ ⟨#[32]⟩ ++ Txt r.ttl ++ ⟨#[32]⟩ ++ tt r.ty ++ ⟨#[32]⟩).size ≤ 200; omega
    clear d1 d3 e1 e2 e3 e4 e5 s1 zt z1
    go_wp2_with fail
    have x0 : ∀ d os, (Sort.grow (redrawn w1 d) os).cell? _ = some _ := fun d os => (X1.out.drawn d os).1
    have x1 : ∀ d os, (Sort.grow (redrawn w1 d) os).cell? _ = some _ := fun d os => (X1.out.drawn d os).2.1
    have x2 : ∀ d os, (Sort.grow (redrawn w1 d) os).cell? _ = some _ := fun d os => (X1.out.drawn d os).2.2.1
    have x3 : ∀ d os, (Sort.grow (redrawn w1 d) os).cell? _ = some _ := fun d os => (X1.out.drawn d os).2.2.2.1
    have x4 : ∀ d os, (Sort.grow (redrawn w1 d) os).cell? _ = some _ := fun d os => (X1.out.drawn d os).2.2.2.2.1
    have x5 : ∀ d os, (Sort.grow (redrawn w1 d) os).cell? _ = some _ := fun d os => (X1.out.drawn d os).2.2.2.2.2
    refine wp_region_quiet_below (by assumption) (by kernel_rfl) ?_
    repeat (quiet_step (first | (go_at_call 45; exact in_class (fun W _ => same_below (dot_spec r.name W))) | (go_at_call 46; exact in_class (fun W _ => same_below (spec_text r.ty W))) | (go_at_call 44; exact in_class (fun W _ => Num.spec r.ttl WT.out W))))
    refine wpQuiet_nil ?_
    intro w2 hw2
    have hl := of_class hw2
    have L2 := Lib.hid (L1.out.trans (hl.mono L1.out.size))
    have X2 := Lib.hid (X1.out.below hl)
    clear hl hw2 x0 x1 x2 x3 x4 x5 L1 X1 k1 k2 k3 k4 k5
    have HP : Hid (dot r.name ++ ⟨#[32]⟩ ++ Txt r.ttl ++ ⟨#[32]⟩ ++ tt r.ty ++ ⟨#[32]⟩ = pre r) := rfl
    generalize dot r.name ++ ⟨#[32]⟩ ++ Txt r.ttl ++ ⟨#[32]⟩ ++ tt r.ty ++ ⟨#[32]⟩ = PR at *
    have hpz : PR.size ≤ 200 := by rw [HP.out]; exact HZ.out
    obtain ⟨x0, x1, x2, x3, x4, x5⟩ := X2.out
    obtain ⟨name, ty, ttl, n, host, text⟩ := r
    simp only at *
    rcases hy with rfl | rfl | rfl | rfl | rfl
    · have HD := Lib.hid (dtx_1 n host text)
      have k1 := cat PR (Txt n) (by omega) (by omega)
      go_wp2_with fail
      refine (Num.spec n WN.out w2).mono ?_
      rintro e w3 ⟨rfl, hl⟩
      have L3 := Lib.hid (L2.out.trans (hl.mono L2.out.size))
      clear hl
      go_wp2
      go_ret
      exact ⟨by rw [HV.out, HD.out, ← HP.out]; rfl, L3.out⟩
    · have HD := Lib.hid (dtx_2 n host text)
      have k1 := cat PR (dot host) (by omega) (by omega)
      go_wp2_with fail
      refine (dot_spec host w2).mono ?_
      rintro e w3 ⟨rfl, rfl⟩
      go_wp2
      go_ret
      exact ⟨by rw [HV.out, HD.out, ← HP.out]; rfl, L2.out⟩
    · have HD := Lib.hid (dtx_5 n host text)
      have k1 := cat PR (dot host) (by omega) (by omega)
      go_wp2_with fail
      refine (dot_spec host w2).mono ?_
      rintro e w3 ⟨rfl, rfl⟩
      go_wp2
      go_ret
      exact ⟨by rw [HV.out, HD.out, ← HP.out]; rfl, L2.out⟩
    · have HD := Lib.hid (dtx_6 n host text)
      have HA := Lib.hid ((add_assoc PR (dot host ++ ⟨#[32]⟩) (Txt n)).trans (by rw [] : PR ++ (dot host ++ ⟨#[32]⟩ ++ Txt n) = PR ++ (dot host ++ ⟨#[32]⟩ ++ Txt n)))
      have HA2 := Lib.hid (add_assoc PR (dot host) ⟨#[32]⟩)
      have e1 := add_size PR (dot host)
      have e2 := add_size (PR ++ dot host) ⟨#[32]⟩
      have s1 := one_size 32
      have k1 := cat PR (dot host) (by omega) (by omega)
      have k2 := cat (PR ++ dot host) ⟨#[32]⟩ (by omega) (by omega)
      have k3 := cat (PR ++ dot host ++ ⟨#[32]⟩) (Txt n) (by omega) (by omega)
      clear e1 e2 s1 x0 x1 x2 x3 x4 x5
      have x1 := X2.out.2.1
      go_wp2_with fail
      clear x1
      have x0 : ∀ d os, (Sort.grow (redrawn w2 d) os).cell? _ = some _ := fun d os => (X2.out.drawn d os).1
      have x1 : ∀ d os, (Sort.grow (redrawn w2 d) os).cell? _ = some _ := fun d os => (X2.out.drawn d os).2.1
      have x2 : ∀ d os, (Sort.grow (redrawn w2 d) os).cell? _ = some _ := fun d os => (X2.out.drawn d os).2.2.1
      have x3 : ∀ d os, (Sort.grow (redrawn w2 d) os).cell? _ = some _ := fun d os => (X2.out.drawn d os).2.2.2.1
      have x4 : ∀ d os, (Sort.grow (redrawn w2 d) os).cell? _ = some _ := fun d os => (X2.out.drawn d os).2.2.2.2.1
      have x5 : ∀ d os, (Sort.grow (redrawn w2 d) os).cell? _ = some _ := fun d os => (X2.out.drawn d os).2.2.2.2.2
      refine wp_region_quiet_below (by assumption) (by kernel_rfl) ?_
      repeat (quiet_step (first | (go_at_call 45; exact in_class (fun W _ => same_below (dot_spec host W))) | (go_at_call 44; exact in_class (fun W _ => Num.spec n WN.out W))))
      refine wpQuiet_nil ?_
      intro w3 hw3
      have hl := of_class hw3
      have L3 := Lib.hid (L2.out.trans (hl.mono L2.out.size))
      clear hl hw3 x0 x1 x2 x3 x4 x5
      go_wp2
      go_ret
      exact ⟨by rw [HV.out, HD.out, ← HP.out, ← HA.out, ← HA2.out]; rfl, L3.out⟩
    · have HD := Lib.hid (dtx_16 n host text)
      have HA := Lib.hid (add_assoc PR ⟨#[39]⟩ text)
      have e1 := add_size PR ⟨#[39]⟩
      have s1 := one_size 39
      have k1 := cat PR ⟨#[39]⟩ (by omega) (by omega)
      have k2 := cat (PR ++ ⟨#[39]⟩) text (by omega) (by omega)
      clear e1 s1
      go_wp2
      go_ret
      exact ⟨by rw [HV.out, HD.out, ← HP.out, ← HA.out]; rfl, L2.out⟩

end Go.Proofs.YtlakegeabnjegaaGreatDoor.RecText

/- What the program's RecordText does. -/
namespace Go.Proofs.YtlakegeabnjegaaGreatDoor.RecTextI
open Go.RowKit Go.Proofs.YtlakegeabnjegaaGreatDoor.Mem Go.Proofs.YtlakegeabnjegaaGreatDoor.MemS Go.Proofs.YtlakegeabnjegaaGreatDoor.MemR Go.Proofs.YtlakegeabnjegaaGreatDoor.Labels Go.Proofs.YtlakegeabnjegaaGreatDoor.NameOk Go.Proofs.YtlakegeabnjegaaGreatDoor.TextR Go.Proofs.YtlakegeabnjegaaGreatDoor.BoxR Go.Proofs.YtlakegeabnjegaaGreatDoor.RecOk Go.Proofs.YtlakegeabnjegaaGreatDoor.Types Go.Proofs.YtlakegeabnjegaaGreatDoor.Num Go.Proofs.YtlakegeabnjegaaGreatDoor.RecText

/-- Nothing of w has been turned. A def, so that no step of a walk opens it. -/
def Sv (w w' : World) : Prop := Below w.heap.size w w'
/-- What is kept through the region: the box of the record, and that nothing of w has been turned. -/
theorem kept {w w1 w2 : World} {g : Nat} {r : Rec} (h : (w1.cell? ⟨g, 0, none⟩ = some (.string r.name) ∧ w1.cell? ⟨g, 1, none⟩ = some (.int .i64 r.ty) ∧ w1.cell? ⟨g, 2, none⟩ = some (.int .i64 r.ttl) ∧ w1.cell? ⟨g, 3, none⟩ = some (.int .i64 r.n) ∧ w1.cell? ⟨g, 4, none⟩ = some (.string r.host) ∧ w1.cell? ⟨g, 5, none⟩ = some (.string r.text)) ∧ Sv w w1) (hl : Below w1.heap.size w1 w2) : (w2.cell? ⟨g, 0, none⟩ = some (.string r.name) ∧ w2.cell? ⟨g, 1, none⟩ = some (.int .i64 r.ty) ∧ w2.cell? ⟨g, 2, none⟩ = some (.int .i64 r.ttl) ∧ w2.cell? ⟨g, 3, none⟩ = some (.int .i64 r.n) ∧ w2.cell? ⟨g, 4, none⟩ = some (.string r.host) ∧ w2.cell? ⟨g, 5, none⟩ = some (.string r.text)) ∧ Sv w w2 :=
  ⟨(show Bx w2 g r from (show Bx w1 g r from h.1).below hl), (show Below w.heap.size w w1 from h.2).trans (hl.mono (show Below w.heap.size w w1 from h.2).size)⟩
theorem kept_draw {w w1 : World} {g : Nat} {r : Rec} (h : (w1.cell? ⟨g, 0, none⟩ = some (.string r.name) ∧ w1.cell? ⟨g, 1, none⟩ = some (.int .i64 r.ty) ∧ w1.cell? ⟨g, 2, none⟩ = some (.int .i64 r.ttl) ∧ w1.cell? ⟨g, 3, none⟩ = some (.int .i64 r.n) ∧ w1.cell? ⟨g, 4, none⟩ = some (.string r.host) ∧ w1.cell? ⟨g, 5, none⟩ = some (.string r.text)) ∧ Sv w w1) : (w1.drew.cell? ⟨g, 0, none⟩ = some (.string r.name) ∧ w1.drew.cell? ⟨g, 1, none⟩ = some (.int .i64 r.ty) ∧ w1.drew.cell? ⟨g, 2, none⟩ = some (.int .i64 r.ttl) ∧ w1.drew.cell? ⟨g, 3, none⟩ = some (.int .i64 r.n) ∧ w1.drew.cell? ⟨g, 4, none⟩ = some (.string r.host) ∧ w1.drew.cell? ⟨g, 5, none⟩ = some (.string r.text)) ∧ Sv w w1.drew := kept h ((Below.refl _ _).drew)
theorem kept_alloc {w w1 : World} {g : Nat} {r : Rec} (h : (w1.cell? ⟨g, 0, none⟩ = some (.string r.name) ∧ w1.cell? ⟨g, 1, none⟩ = some (.int .i64 r.ty) ∧ w1.cell? ⟨g, 2, none⟩ = some (.int .i64 r.ttl) ∧ w1.cell? ⟨g, 3, none⟩ = some (.int .i64 r.n) ∧ w1.cell? ⟨g, 4, none⟩ = some (.string r.host) ∧ w1.cell? ⟨g, 5, none⟩ = some (.string r.text)) ∧ Sv w w1) (o : Obj) : ((w1.alloc o).cell? ⟨g, 0, none⟩ = some (.string r.name) ∧ (w1.alloc o).cell? ⟨g, 1, none⟩ = some (.int .i64 r.ty) ∧ (w1.alloc o).cell? ⟨g, 2, none⟩ = some (.int .i64 r.ttl) ∧ (w1.alloc o).cell? ⟨g, 3, none⟩ = some (.int .i64 r.n) ∧ (w1.alloc o).cell? ⟨g, 4, none⟩ = some (.string r.host) ∧ (w1.alloc o).cell? ⟨g, 5, none⟩ = some (.string r.text)) ∧ Sv w (w1.alloc o) := kept h ((Below.refl _ _).alloc (Nat.le_refl _) _)

theorem join4 (a b c d : ByteArray) : Lib.join ([a, b, c, d].map (·.data.toList)) [32] = (a ++ ⟨#[32]⟩ ++ b ++ ⟨#[32]⟩ ++ c ++ ⟨#[32]⟩ ++ d).data.toList := by
  simp [Lib.join, List.intercalate]

/-- strings.Join of four words with a blank between them. -/
theorem words (W : World) (g : Nat) (a b c d : ByteArray) (hb : Bk W g 9 [.string a, .string b, .string c, .string d]) (ha : a.size ≤ 1000) (hb' : b.size ≤ 1000) (hc : c.size ≤ 1000) (hd : d.size ≤ 1000) :
    Calls Tryz.prog 41 #[.slice (some ⟨g, 0, none⟩) 4 4, .string ⟨#[32]⟩] W fun e w' => e = .returned (.string (a ++ ⟨#[32]⟩ ++ b ++ ⟨#[32]⟩ ++ c ++ ⟨#[32]⟩ ++ d)) ∧ Below W.heap.size W w' := by
  have hs := bk_ssw0 (l := [a, b, c, d]) (n := 4) hb rfl
  obtain ⟨b', off, hA, hlt, hcs⟩ := hs.2 (by omega)
  simp only [Option.some.injEq, Addr.mk.injEq, and_true] at hA
  obtain ⟨rfl, rfl⟩ := hA
  have e : (⟨(Lib.join ([a, b, c, d].map (·.data.toList)) [32]).toArray⟩ : ByteArray) = a ++ ⟨#[32]⟩ ++ b ++ ⟨#[32]⟩ ++ c ++ ⟨#[32]⟩ ++ d := text_ext (by rw [← join4])
  rw [← e]
  refine Go.Proofs.Any.strings_Join Tryz.lays156 Tryz.Builder_Extra_156 g 0 4 [a, b, c, d] ⟨#[32]⟩ W (fun j x hx => by
    obtain ⟨hj, rfl⟩ := List.getElem?_eq_some_iff.1 hx
    exact hcs j hj) hlt (by simp) (by simp) ?_
  show (Lib.join ([a, b, c, d].map (·.data.toList)) [32]).length ≤ _
  rw [join4]
  have z : ∀ x : ByteArray, x.data.toList.length = x.size := fun x => by simp
  rw [z, add_size, add_size, add_size, add_size, add_size, add_size, one_size]
  omega

set_option maxHeartbeats 4000000 in
theorem impl (r : Rec) (w : World) (he : Env w) (ht : Tab w) (hr : Mod r) : Calls Tryz.prog 68 #[.agg #[.string r.name, .int .i64 r.ty, .int .i64 r.ttl, .int .i64 r.n, .string r.host, .string r.text]] w fun e w' => e = .returned (.string (rtx r)) ∧ Below w.heap.size w w' := by
  have HE := Lib.hid he
  have HT := Lib.hid ht
  have HR := Lib.hid hr
  clear hr he ht
  have L0 := Lib.hid ((Below.refl w.heap.size w).alloc (Nat.le_refl _) (.cells #[.string r.name, .int .i64 r.ty, .int .i64 r.ttl, .int .i64 r.n, .string r.host, .string r.text] 73))
  have X0 := Lib.hid (bx_new w 73 r)
  cases hk : rok r
  · have HV : Hid (rtx r = ⟨#[]⟩) := if_neg (by rw [hk]; simp)
    have HK := Lib.hid hk
    clear hk
    go_enter Tryz.func68, Tryz.ntmps68
    go_wp2_with fail
    refine (RecOk.impl r _ (HE.out.below L0.out) HR.out).mono ?_
    rw [HK.out]
    rintro e w1 ⟨rfl, hl⟩
    have L1 := Lib.hid (L0.out.trans (hl.mono L0.out.size))
    clear hl L0 X0
    go_wp2
    go_ret
    exact ⟨by rw [HV.out]; rfl, L1.out⟩
  · have HV : Hid (rtx r = pre r ++ dtx r.ty r.n r.host r.text) := if_pos hk
    obtain ⟨⟨q0, q1⟩, ⟨q2, q3⟩, z1, z2, z3, hy⟩ := rok_of hk
    have HK := Lib.hid hk
    clear hk
    have WT := Lib.hid (wf_of q0 (by omega))
    have HY := Lib.hid hy
    have zt := txt_size q0 (by omega)
    have zn := txt_size q2 q3
    have QN : Hid (0 ≤ r.n ∧ r.n ≤ 2147483647) := ⟨q2, q3⟩
    have ZZ : Hid (r.host.size ≤ 50 ∧ r.text.size ≤ 12) := ⟨z2, z3⟩
    clear q0 q1 q2 q3 hy z2 z3
    go_enter Tryz.func68, Tryz.ntmps68
    go_wp2_with fail
    refine (RecOk.impl r _ (HE.out.below L0.out) HR.out).mono ?_
    rw [HK.out]
    rintro e w1 ⟨rfl, hl⟩
    have L1 := Lib.hid (L0.out.trans (hl.mono L0.out.size))
    have X1 := Lib.hid (X0.out.below hl)
    clear hl L0 X0
    go_wp2_with fail
    have DI := Lib.hid (fun W (h : Sv w W) => RecText.data r W (HT.out.below h) ZZ.out.1 ZZ.out.2 QN.out.1 QN.out.2 HY.out)
    have NI := Lib.hid (fun W (h : Sv w W) => Num.impl r.ttl WT.out W (HT.out.below h))
    have S0 : (w1.cell? ⟨w.heap.size, 0, none⟩ = some (.string r.name) ∧ w1.cell? ⟨w.heap.size, 1, none⟩ = some (.int .i64 r.ty) ∧ w1.cell? ⟨w.heap.size, 2, none⟩ = some (.int .i64 r.ttl) ∧ w1.cell? ⟨w.heap.size, 3, none⟩ = some (.int .i64 r.n) ∧ w1.cell? ⟨w.heap.size, 4, none⟩ = some (.string r.host) ∧ w1.cell? ⟨w.heap.size, 5, none⟩ = some (.string r.text)) ∧ Sv w w1 := ⟨X1.out, L1.out⟩
    go_region_held3 (fun w' => (w'.cell? ⟨w.heap.size, 0, none⟩ = some (.string r.name) ∧ w'.cell? ⟨w.heap.size, 1, none⟩ = some (.int .i64 r.ty) ∧ w'.cell? ⟨w.heap.size, 2, none⟩ = some (.int .i64 r.ttl) ∧ w'.cell? ⟨w.heap.size, 3, none⟩ = some (.int .i64 r.n) ∧ w'.cell? ⟨w.heap.size, 4, none⟩ = some (.string r.host) ∧ w'.cell? ⟨w.heap.size, 5, none⟩ = some (.string r.text)) ∧ Sv w w')
      (first | exact S0 | assumption | exact kept (by assumption) hl | exact kept_alloc (by assumption) _ | exact kept_draw (by assumption))
      (first
        | (go_at_call 39; refine (dot_impl r.name _).mono ?_; rintro e w11 ⟨rfl, rfl⟩)
        | (go_at_call 40; refine (impl_text r.ty _).mono ?_; rintro e w12 ⟨rfl, rfl⟩)
        | (go_at_call 38; refine (NI.out _ (And.right (by assumption))).mono ?_; rintro e w13 ⟨rfl, hl⟩)
        | (go_at_call 81; refine (DI.out _ (And.right (by assumption))).mono ?_; rintro e w14 ⟨rfl, hl⟩))
    rename_i hH
    have L2 := Lib.hid (show Below w.heap.size w _ from hH.2)
    have d1 := dot_size r.name
    have d3 := tt_size r.ty
    have d4 := dtx_size r.ty r.n r.host r.text zn ZZ.out.1 ZZ.out.2
    have HF : Hid (dot r.name ++ ⟨#[32]⟩ ++ Txt r.ttl ++ ⟨#[32]⟩ ++ tt r.ty ++ ⟨#[32]⟩ ++ dtx r.ty r.n r.host r.text = rtx r) := HV.out.symm
    have B2 := Lib.hid (show Bk (w14.alloc (.cells #[.string (dot r.name), .string (Txt r.ttl), .string (tt r.ty), .string (dtx r.ty r.n r.host r.text)] 9)) w14.heap.size 9 [.string (dot r.name), .string (Txt r.ttl), .string (tt r.ty), .string (dtx r.ty r.n r.host r.text)] from heap_alloc_new _ _)
    clear S0 hH
    generalize w14.alloc (.cells #[.string (dot r.name), .string (Txt r.ttl), .string (tt r.ty), .string (dtx r.ty r.n r.host r.text)] 9) = wq at *
    go_wp2_with fail
    refine (words wq w14.heap.size _ _ _ _ B2.out (by omega) (by omega) (by omega) (by omega)).mono ?_
    rw [HF.out]
    rintro e w15 ⟨rfl, hl⟩
    have L3 := Lib.hid (L2.out.trans (hl.mono L2.out.size))
    clear hl
    go_wp2
    go_ret
    exact ⟨rfl, L3.out⟩

end Go.Proofs.YtlakegeabnjegaaGreatDoor.RecTextI

/- What MsgText does in the program and in the model: the words of a valid message, and the empty text for an invalid one. Conditions: at most 400000000 bytes in each text, fewer than 400000001 records; for the program: the library's variable internal/bytealg.MaxLen holds an int, and its table of powers of ten reads as its text lays it. -/
namespace Go.Proofs.YtlakegeabnjegaaGreatDoor.TxtM
open Go.RowKit Go.Proofs.YtlakegeabnjegaaGreatDoor.Mem Go.Proofs.YtlakegeabnjegaaGreatDoor.MemS Go.Proofs.YtlakegeabnjegaaGreatDoor.MemR Go.Proofs.YtlakegeabnjegaaGreatDoor.Labels Go.Proofs.YtlakegeabnjegaaGreatDoor.NameOk Go.Proofs.YtlakegeabnjegaaGreatDoor.TextR Go.Proofs.YtlakegeabnjegaaGreatDoor.BoxR Go.Proofs.YtlakegeabnjegaaGreatDoor.RecOk Go.Proofs.YtlakegeabnjegaaGreatDoor.Types Go.Proofs.YtlakegeabnjegaaGreatDoor.Num Go.Proofs.YtlakegeabnjegaaGreatDoor.RecText Go.Proofs.YtlakegeabnjegaaGreatDoor.MemM Go.Proofs.YtlakegeabnjegaaGreatDoor.ResM Go.Proofs.YtlakegeabnjegaaGreatDoor.OkM

/-- The first word with its blank. -/
def kw : Bool → ByteArray
  | false => ⟨#[97, 115, 107, 32]⟩
  | true => ⟨#[114, 101, 112, 108, 121, 32]⟩
/-- The first word. -/
def kd : Bool → ByteArray
  | false => ⟨#[97, 115, 107]⟩
  | true => ⟨#[114, 101, 112, 108, 121]⟩
theorem kd_kw (b : Bool) : kd b ++ ⟨#[32]⟩ = kw b := by cases b <;> rfl
theorem kw_size (b : Bool) : (kw b).size ≤ 6 := by cases b <;> decide
theorem kd_size (b : Bool) : (kd b).size ≤ 5 := by cases b <;> decide
/-- A text with the word of a flag behind it. -/
def fa (H : ByteArray) : Bool → ByteArray
  | false => H
  | true => H ++ ⟨#[32, 97, 117, 116, 104]⟩
def fc (H : ByteArray) : Bool → ByteArray
  | false => H
  | true => H ++ ⟨#[32, 99, 117, 116]⟩
/-- The head of a message as it is written. -/
def hx (rp : Bool) (id code : Int) (qn : ByteArray) (qt : Int) : ByteArray := kw rp ++ Txt id ++ ⟨#[32]⟩ ++ Txt code ++ ⟨#[32]⟩ ++ dot qn ++ ⟨#[32]⟩ ++ tt qt
/-- The flags as the program writes them. -/
def fg (au ct : Bool) : ByteArray := fc (fa ⟨#[]⟩ au) ct
theorem fg_size (au ct : Bool) : (fg au ct).size ≤ 9 := by cases au <;> cases ct <;> decide
theorem emp_add (a : ByteArray) : a ++ ⟨#[]⟩ = a := text_ext (by simp)
theorem add_emp (a : ByteArray) : (⟨#[]⟩ : ByteArray) ++ a = a := text_ext (by simp)
theorem fg_add (H : ByteArray) (au ct : Bool) : H ++ fg au ct = fc (fa H au) ct := by
  cases au <;> cases ct
  · exact emp_add H
  · show H ++ (⟨#[]⟩ ++ ⟨#[32, 99, 117, 116]⟩) = H ++ ⟨#[32, 99, 117, 116]⟩; rw [add_emp]
  · show H ++ (⟨#[]⟩ ++ ⟨#[32, 97, 117, 116, 104]⟩) = H ++ ⟨#[32, 97, 117, 116, 104]⟩; rw [add_emp]
  · show H ++ (⟨#[]⟩ ++ ⟨#[32, 97, 117, 116, 104]⟩ ++ ⟨#[32, 99, 117, 116]⟩) = H ++ ⟨#[32, 97, 117, 116, 104]⟩ ++ ⟨#[32, 99, 117, 116]⟩; rw [add_emp, add_assoc]
theorem fc_size (H : ByteArray) (b : Bool) : (fc H b).size ≤ H.size + 4 := by
  cases b
  · exact Nat.le_add_right _ _
  · show (H ++ _).size ≤ _; rw [add_size]; exact Nat.le_refl _
theorem fa_size (H : ByteArray) (b : Bool) : (fa H b).size ≤ H.size + 5 := by
  cases b
  · exact Nat.le_add_right _ _
  · show (H ++ _).size ≤ _; rw [add_size]; exact Nat.le_refl _
theorem hx_size (rp : Bool) (id code : Int) (qn : ByteArray) (qt : Int) (h1 : (Txt id).size ≤ 21) (h2 : (Txt code).size ≤ 21) (h3 : qn.size ≤ 50) : (hx rp id code qn qt).size ≤ 200 := by
  unfold hx
  have a := kw_size rp
  have b := dot_size qn
  have c := tt_size qt
  rw [add_size, add_size, add_size, add_size, add_size, add_size, add_size, one_size]
  omega
/-- The records as they are written. -/
def rts (l : List Rec) : ByteArray := l.foldl (fun a r => a ++ ⟨#[59, 32]⟩ ++ rtx r) ⟨#[]⟩
theorem rts_step {l : List Rec} {k : Nat} (h : k < l.length) : rts (l.take (k + 1)) = rts (l.take k) ++ ⟨#[59, 32]⟩ ++ rtx l[k] := by
  rw [rts, List.take_succ_eq_append_getElem h, List.foldl_append]
  rfl
theorem rtx_size {r : Rec} (h : rok r = true) : (rtx r).size ≤ 190 := by
  obtain ⟨⟨q0, q1⟩, ⟨q2, q3⟩, z1, z2, z3, _⟩ := rok_of h
  have zt := txt_size q0 (by omega)
  have zn := txt_size q2 q3
  have d1 := dot_size r.name
  have d3 := tt_size r.ty
  have d4 := dtx_size r.ty r.n r.host r.text zn z2 z3
  rw [rtx, if_pos h, pre, add_size, add_size, add_size, add_size, add_size, add_size, one_size]
  omega
theorem se_size : (⟨#[59, 32]⟩ : ByteArray).size = 2 := rfl
theorem rts_size {l : List Rec} (h : l.all rok = true) : ∀ k, (rts (l.take k)).size ≤ 200 * k
  | 0 => Nat.le_refl _
  | k + 1 => by
    have ih := rts_size h k
    by_cases hk : k < l.length
    · rw [rts_step hk, add_size, add_size, se_size]
      have := rtx_size (List.all_eq_true.1 h l[k] (List.getElem_mem hk))
      omega
    · rw [List.take_of_length_le (by omega)] at ih ⊢
      omega
theorem rts_full {l : List Rec} (h : rls l = true) : (rts l).size ≤ 1600 := by
  unfold rls at h
  rw [Bool.and_eq_true] at h
  have h8 : l.length ≤ 8 := of_decide_eq_true h.2
  have := rts_size h.1 l.length
  rw [List.take_length] at this
  omega
/-- A message as it is written. A def, so that no step of a walk opens it. -/
def mtx (h : Hd) (l1 l2 l3 : List Rec) : ByteArray := if mok h l1 l2 l3 = true then fc (fa (hx h.rp h.id h.code h.qn h.qt) h.au) h.ct ++ rts l1 ++ rts l2 ++ rts l3 else ⟨#[]⟩
theorem mok_of {h : Hd} {l1 l2 l3 : List Rec} (k : mok h l1 l2 l3 = true) : (0 ≤ h.id ∧ h.id ≤ 65535) ∧ (0 ≤ h.code ∧ h.code ≤ 15) ∧ h.qn.size ≤ 50 ∧ rls l1 = true ∧ rls l2 = true ∧ rls l3 = true := by
  unfold mok qok at k
  simp only [Bool.and_eq_true] at k
  exact ⟨inn_of k.1, inn_of k.2.1, nm_size k.2.2.1.1, k.2.2.2.1, k.2.2.2.2.1, k.2.2.2.2.2⟩
theorem mod_of {l : List Rec} (h : rls l = true) {k : Nat} (hk : k < l.length) : Mod l[k] ∧ (rtx l[k]).size ≤ 190 := by
  unfold rls at h
  rw [Bool.and_eq_true] at h
  have hr := List.all_eq_true.1 h.1 l[k] (List.getElem_mem hk)
  obtain ⟨_, _, z1, z2, z3, _⟩ := rok_of hr
  exact ⟨⟨by omega, by omega, by omega⟩, rtx_size hr⟩
theorem rls_len {l : List Rec} (h : rls l = true) : l.length ≤ 8 ∧ l.all rok = true := by
  unfold rls at h
  rw [Bool.and_eq_true] at h
  exact ⟨of_decide_eq_true h.2, h.1⟩

set_option maxHeartbeats 4000000 in
theorem textsS (A : Option Addr) (n c : Nat) (l : List Rec) (w : World) (hs : Sr w w.heap.size A n l) (hg : rls l = true) :
    Calls Tryz.prog 47 #[.slice A n c] w fun e w' => e = .returned (.string (rts l)) ∧ Below w.heap.size w w' := by
  have HS := Lib.hid hs
  have HG := Lib.hid hg
  have hn : n ≤ 8 := by have := (rls_len hg).1; rw [hs.1] at this; exact this
  clear hs hg
  go_enter Tryz.func47, Tryz.ntmps47
  go_wp2
  go_loopw [3, 4] (fun s i wr => ∃ (k : Nat) (t : ByteArray), k ≤ n ∧ i = .int .i64 k ∧ s = .string t ∧ Hid (t = rts (l.take k)) ∧ t.size ≤ 200 * k ∧ Hid (Below w.heap.size w wr)) (fun _ i _ => n - (intOf i).toNat)
  case atStart => exact ⟨0, _, Nat.zero_le _, rfl, rfl, rfl, Nat.le_refl _, Below.refl _ _⟩
  case round =>
    obtain ⟨k, t, hk, rfl, rfl, HT, hts, HL⟩ := hrel
    by_cases hlt : k < n
    · obtain ⟨b, off, rfl, hbB, hcs⟩ := HS.out.2 (by omega)
      have hkl : k < l.length := by rw [HS.out.1]; exact hlt
      obtain ⟨e0, e1, e2, e3, e4, e5⟩ := (hcs k hkl).below HL.out hbB
      obtain ⟨hmd, hz⟩ := mod_of HG.out hkl
      have HR := Lib.hid hmd
      have HN := Lib.hid (rts_step hkl)
      clear hcs hmd
      generalize l[k] = r at *
      have a1 := add_size t ⟨#[59, 32]⟩
      have a2 := add_size (t ++ ⟨#[59, 32]⟩) (rtx r)
      have a3 := se_size
      have k1 := cat t ⟨#[59, 32]⟩ (by omega) (by omega)
      have k2 := cat (t ++ ⟨#[59, 32]⟩) (rtx r) (by omega) (by omega)
      have hz2 : (t ++ ⟨#[59, 32]⟩ ++ rtx r).size ≤ 200 * (k + 1) := by omega
      clear a1 a2 a3
      go_wp2_with fail
      refine (RecText.spec r wr HR.out).mono ?_
      rintro e w1 ⟨rfl, hl⟩
      have L1 := Lib.hid (HL.out.trans (hl.mono HL.out.size))
      clear hl e0 e1 e2 e3 e4 e5 HL
      go_wp2
      go_roundw
      case rel => exact ⟨k + 1, _, by omega, by go_num, rfl, by show _ = _; rw [HN.out, HT.out], hz2, L1.out⟩
      case measure => simp [intOf]; omega
    · have HA : Hid (t = rts l) := by
        have := HT.out
        rwa [List.take_of_length_le (by rw [HS.out.1]; omega)] at this
      go_wp2
      go_ret
      exact ⟨by rw [← HA.out]; rfl, HL.out⟩

set_option maxHeartbeats 4000000 in
theorem textsI (A : Option Addr) (n c : Nat) (l : List Rec) (w : World) (he : Env w) (ht : Tab w) (hs : Sr w w.heap.size A n l) (hg : rls l = true) :
    Calls Tryz.prog 43 #[.slice A n c] w fun e w' => e = .returned (.string (rts l)) ∧ Below w.heap.size w w' := by
  have HE := Lib.hid he
  have HTB := Lib.hid ht
  have HS := Lib.hid hs
  have HG := Lib.hid hg
  have hn : n ≤ 8 := by have := (rls_len hg).1; rw [hs.1] at this; exact this
  clear hs hg he ht
  go_enter Tryz.func43, Tryz.ntmps43
  go_wp2
  go_loopw [3, 8] (fun s i wr => ∃ (k : Nat) (t : ByteArray), k ≤ n ∧ i = .int .i64 k ∧ s = .string t ∧ Hid (t = rts (l.take k)) ∧ t.size ≤ 200 * k ∧ Hid (Below w.heap.size w wr)) (fun _ i _ => n - (intOf i).toNat)
  case atStart => exact ⟨0, _, Nat.zero_le _, rfl, rfl, rfl, Nat.le_refl _, Below.refl _ _⟩
  case round =>
    obtain ⟨k, t, hk, rfl, rfl, HT, hts, HL⟩ := hrel
    by_cases hlt : k < n
    · obtain ⟨b, off, rfl, hbB, hcs⟩ := HS.out.2 (by omega)
      have hkl : k < l.length := by rw [HS.out.1]; exact hlt
      obtain ⟨e0, e1, e2, e3, e4, e5⟩ := (hcs k hkl).below HL.out hbB
      obtain ⟨hmd, hz⟩ := mod_of HG.out hkl
      have HR := Lib.hid hmd
      have HN := Lib.hid (rts_step hkl)
      clear hcs hmd
      generalize l[k] = r at *
      have a1 := add_size ⟨#[59, 32]⟩ (rtx r)
      have a2 := add_size t (⟨#[59, 32]⟩ ++ rtx r)
      have a3 := se_size
      have k1 := cat ⟨#[59, 32]⟩ (rtx r) (by omega) (by omega)
      have k2 := cat t (⟨#[59, 32]⟩ ++ rtx r) (by omega) (by omega)
      have hz2 : (t ++ (⟨#[59, 32]⟩ ++ rtx r)).size ≤ 200 * (k + 1) := by omega
      clear a1 a2 a3
      have LA := Lib.hid (HL.out.alloc HL.out.size (.cells #[.string r.name, .int .i64 r.ty, .int .i64 r.ttl, .int .i64 r.n, .string r.host, .string r.text] 73))
      go_wp2_with fail
      refine (RecTextI.impl r _ (HE.out.below LA.out) (HTB.out.below LA.out) HR.out).mono ?_
      rintro e w1 ⟨rfl, hl⟩
      have L1 := Lib.hid (LA.out.trans (hl.mono LA.out.size))
      clear hl e0 e1 e2 e3 e4 e5 HL LA
      go_wp2
      go_roundw
      case rel => exact ⟨k + 1, _, by omega, by go_num, rfl, by show _ = _; rw [HN.out, HT.out, add_assoc], hz2, L1.out⟩
      case measure => simp [intOf]; omega
    · have HA : Hid (t = rts l) := by
        have := HT.out
        rwa [List.take_of_length_le (by rw [HS.out.1]; omega)] at this
      go_wp2
      go_ret
      exact ⟨by rw [← HA.out]; rfl, HL.out⟩

set_option maxHeartbeats 1000000 in
theorem kindI (id code : Int) (rp au ct wa ca : Bool) (w : World) : Calls Tryz.prog 37 #[.agg #[.int .i64 id, .bool rp, .bool au, .bool ct, .bool wa, .bool ca, .int .i64 code]] w fun e w' => e = .returned (.string (kd rp)) ∧ Below w.heap.size w w' := by
  have L0 := Lib.hid ((Below.refl w.heap.size w).alloc (Nat.le_refl _) (.cells #[.int .i64 id, .bool rp, .bool au, .bool ct, .bool wa, .bool ca, .int .i64 code] 51))
  cases rp <;> (go_enter Tryz.func37, Tryz.ntmps37; go_wp2; go_ret; exact ⟨rfl, L0.out⟩)

set_option maxHeartbeats 1000000 in
theorem flagI (id code : Int) (rp au ct wa ca : Bool) (w : World) : Calls Tryz.prog 42 #[.agg #[.int .i64 id, .bool rp, .bool au, .bool ct, .bool wa, .bool ca, .int .i64 code]] w fun e w' => e = .returned (.string (fg au ct)) ∧ Below w.heap.size w w' := by
  have L0 := Lib.hid ((Below.refl w.heap.size w).alloc (Nat.le_refl _) (.cells #[.int .i64 id, .bool rp, .bool au, .bool ct, .bool wa, .bool ca, .int .i64 code] 51))
  have k1 := cat ⟨#[]⟩ ⟨#[32, 97, 117, 116, 104]⟩ (by decide) (by decide)
  have k2 := cat ⟨#[]⟩ ⟨#[32, 99, 117, 116]⟩ (by decide) (by decide)
  have k3 := cat (⟨#[]⟩ ++ ⟨#[32, 97, 117, 116, 104]⟩) ⟨#[32, 99, 117, 116]⟩ (by decide) (by decide)
  cases au <;> cases ct <;> (go_enter Tryz.func42, Tryz.ntmps42; go_wp2; go_ret; exact ⟨rfl, L0.out⟩)

set_option maxRecDepth 100000 in
set_option maxHeartbeats 4000000 in
theorem spec_bad (id code : Int) (rp au ct wa ca : Bool) (qn : ByteArray) (qt : Int) (A1 : Option Addr) (n1 c1 : Nat) (l1 : List Rec) (A2 : Option Addr) (n2 c2 : Nat) (l2 : List Rec) (A3 : Option Addr) (n3 c3 : Nat) (l3 : List Rec) (w : World) (hq : qn.size ≤ 400000000) (s1 : Sr w w.heap.size A1 n1 l1) (b1 : n1 ≤ 400000000) (m1 : Mods l1) (s2 : Sr w w.heap.size A2 n2 l2) (b2 : n2 ≤ 400000000) (m2 : Mods l2) (s3 : Sr w w.heap.size A3 n3 l3) (b3 : n3 ≤ 400000000) (m3 : Mods l3) (hk : mok ⟨id, rp, au, ct, wa, ca, code, qn, qt⟩ l1 l2 l3 = false) : Calls Tryz.prog 17 #[.agg #[.int .i64 id, .bool rp, .bool au, .bool ct, .bool wa, .bool ca, .int .i64 code, .string qn, .int .i64 qt, .slice A1 n1 c1, .slice A2 n2 c2, .slice A3 n3 c3]] w fun e w' => e = .returned (.string ⟨#[]⟩) ∧ Below w.heap.size w w' := by
  have L0 := Lib.hid ((Below.refl w.heap.size w).alloc (Nat.le_refl _) (.cells #[.int .i64 id, .bool rp, .bool au, .bool ct, .bool wa, .bool ca, .int .i64 code, .string qn, .int .i64 qt, .slice A1 n1 c1, .slice A2 n2 c2, .slice A3 n3 c3] 28))
  have CM : Hid (∀ W : World, Below w.heap.size w W → Calls Tryz.prog 15 #[.agg #[.int .i64 id, .bool rp, .bool au, .bool ct, .bool wa, .bool ca, .int .i64 code, .string qn, .int .i64 qt, .slice A1 n1 c1, .slice A2 n2 c2, .slice A3 n3 c3]] W fun e w' => e = .returned (.bool false) ∧ Below W.heap.size W w') := fun W hW => hk ▸ OkM.spec ⟨id, rp, au, ct, wa, ca, code, qn, qt⟩ A1 n1 c1 l1 A2 n2 c2 l2 A3 n3 c3 l3 W hq (s1.on hW) b1 m1 (s2.on hW) b2 m2 (s3.on hW) b3 m3
  clear s1 s2 s3 m1 m2 m3 hk
  go_enter Tryz.func17, Tryz.ntmps17
  go_wp2_with fail
  refine (CM.out _ L0.out).mono ?_
  rintro e w1 ⟨rfl, hl⟩
  have L1 := Lib.hid (L0.out.trans (hl.mono L0.out.size))
  clear hl L0
  go_wp2
  go_ret
  exact ⟨rfl, L1.out⟩

set_option maxRecDepth 100000 in
set_option maxHeartbeats 4000000 in
theorem impl_bad (id code : Int) (rp au ct wa ca : Bool) (qn : ByteArray) (qt : Int) (A1 : Option Addr) (n1 c1 : Nat) (l1 : List Rec) (A2 : Option Addr) (n2 c2 : Nat) (l2 : List Rec) (A3 : Option Addr) (n3 c3 : Nat) (l3 : List Rec) (w : World) (he : Env w) (_ht : Tab w) (hq : qn.size ≤ 400000000) (s1 : Sr w w.heap.size A1 n1 l1) (b1 : n1 ≤ 400000000) (m1 : Mods l1) (s2 : Sr w w.heap.size A2 n2 l2) (b2 : n2 ≤ 400000000) (m2 : Mods l2) (s3 : Sr w w.heap.size A3 n3 l3) (b3 : n3 ≤ 400000000) (m3 : Mods l3) (hk : mok ⟨id, rp, au, ct, wa, ca, code, qn, qt⟩ l1 l2 l3 = false) : Calls Tryz.prog 16 #[.agg #[.int .i64 id, .bool rp, .bool au, .bool ct, .bool wa, .bool ca, .int .i64 code, .string qn, .int .i64 qt, .slice A1 n1 c1, .slice A2 n2 c2, .slice A3 n3 c3]] w fun e w' => e = .returned (.string ⟨#[]⟩) ∧ Below w.heap.size w w' := by
  have L0 := Lib.hid ((Below.refl w.heap.size w).alloc (Nat.le_refl _) (.cells #[.int .i64 id, .bool rp, .bool au, .bool ct, .bool wa, .bool ca, .int .i64 code, .string qn, .int .i64 qt, .slice A1 n1 c1, .slice A2 n2 c2, .slice A3 n3 c3] 28))
  have CM : Hid (∀ W : World, Below w.heap.size w W → Calls Tryz.prog 14 #[.agg #[.int .i64 id, .bool rp, .bool au, .bool ct, .bool wa, .bool ca, .int .i64 code, .string qn, .int .i64 qt, .slice A1 n1 c1, .slice A2 n2 c2, .slice A3 n3 c3]] W fun e w' => e = .returned (.bool false) ∧ Below W.heap.size W w') := fun W hW => hk ▸ OkM.impl ⟨id, rp, au, ct, wa, ca, code, qn, qt⟩ A1 n1 c1 l1 A2 n2 c2 l2 A3 n3 c3 l3 W (he.below hW) hq (s1.on hW) b1 m1 (s2.on hW) b2 m2 (s3.on hW) b3 m3
  clear s1 s2 s3 m1 m2 m3 hk he
  go_enter Tryz.func16, Tryz.ntmps16
  go_wp2_with fail
  refine (CM.out _ L0.out).mono ?_
  rintro e w1 ⟨rfl, hl⟩
  have L1 := Lib.hid (L0.out.trans (hl.mono L0.out.size))
  clear hl L0
  go_wp2
  go_ret
  exact ⟨rfl, L1.out⟩

set_option maxRecDepth 100000 in
set_option maxHeartbeats 16000000 in
theorem spec_good (id code : Int) (rp au ct wa ca : Bool) (qn : ByteArray) (qt : Int) (A1 : Option Addr) (n1 c1 : Nat) (l1 : List Rec) (A2 : Option Addr) (n2 c2 : Nat) (l2 : List Rec) (A3 : Option Addr) (n3 c3 : Nat) (l3 : List Rec) (w : World) (hq : qn.size ≤ 400000000) (s1 : Sr w w.heap.size A1 n1 l1) (b1 : n1 ≤ 400000000) (m1 : Mods l1) (s2 : Sr w w.heap.size A2 n2 l2) (b2 : n2 ≤ 400000000) (m2 : Mods l2) (s3 : Sr w w.heap.size A3 n3 l3) (b3 : n3 ≤ 400000000) (m3 : Mods l3) (hk : mok ⟨id, rp, au, ct, wa, ca, code, qn, qt⟩ l1 l2 l3 = true) : Calls Tryz.prog 17 #[.agg #[.int .i64 id, .bool rp, .bool au, .bool ct, .bool wa, .bool ca, .int .i64 code, .string qn, .int .i64 qt, .slice A1 n1 c1, .slice A2 n2 c2, .slice A3 n3 c3]] w fun e w' => e = .returned (.string (fc (fa (hx rp id code qn qt) au) ct ++ rts l1 ++ rts l2 ++ rts l3)) ∧ Below w.heap.size w w' := by
  have mixed : Tryz.prog.follows .mixedOrders = true := by kernel_rfl
  obtain ⟨⟨i0, i1⟩, ⟨j0, j1⟩, qz, r1, r2, r3⟩ := mok_of hk
  dsimp only at i0 i1 j0 j1 qz
  have L0 := Lib.hid ((Below.refl w.heap.size w).alloc (Nat.le_refl _) (.cells #[.int .i64 id, .bool rp, .bool au, .bool ct, .bool wa, .bool ca, .int .i64 code, .string qn, .int .i64 qt, .slice A1 n1 c1, .slice A2 n2 c2, .slice A3 n3 c3] 28))
  have X0 : Hid (Mx (w.alloc (.cells #[.int .i64 id, .bool rp, .bool au, .bool ct, .bool wa, .bool ca, .int .i64 code, .string qn, .int .i64 qt, .slice A1 n1 c1, .slice A2 n2 c2, .slice A3 n3 c3] 28)) w.heap.size ⟨id, rp, au, ct, wa, ca, code, qn, qt⟩ (.slice A1 n1 c1) (.slice A2 n2 c2) (.slice A3 n3 c3)) := mx_new w 28 ⟨id, rp, au, ct, wa, ca, code, qn, qt⟩ (.slice A1 n1 c1) (.slice A2 n2 c2) (.slice A3 n3 c3)
  have CM : Hid (∀ W : World, Below w.heap.size w W → Calls Tryz.prog 15 #[.agg #[.int .i64 id, .bool rp, .bool au, .bool ct, .bool wa, .bool ca, .int .i64 code, .string qn, .int .i64 qt, .slice A1 n1 c1, .slice A2 n2 c2, .slice A3 n3 c3]] W fun e w' => e = .returned (.bool true) ∧ Below W.heap.size W w') := fun W hW => hk ▸ OkM.spec ⟨id, rp, au, ct, wa, ca, code, qn, qt⟩ A1 n1 c1 l1 A2 n2 c2 l2 A3 n3 c3 l3 W hq (s1.on hW) b1 m1 (s2.on hW) b2 m2 (s3.on hW) b3 m3
  have WI := Lib.hid (wf_of i0 (by omega))
  have WC := Lib.hid (wf_of j0 (by omega))
  have T1 : Hid (∀ W : World, Below w.heap.size w W → Calls Tryz.prog 47 #[.slice A1 n1 c1] W fun e w' => e = .returned (.string (rts l1)) ∧ Below W.heap.size W w') := fun W hW => textsS A1 n1 c1 l1 W (s1.on hW) r1
  have z1 := rts_full r1
  have T2 : Hid (∀ W : World, Below w.heap.size w W → Calls Tryz.prog 47 #[.slice A2 n2 c2] W fun e w' => e = .returned (.string (rts l2)) ∧ Below W.heap.size W w') := fun W hW => textsS A2 n2 c2 l2 W (s2.on hW) r2
  have z2 := rts_full r2
  have T3 : Hid (∀ W : World, Below w.heap.size w W → Calls Tryz.prog 47 #[.slice A3 n3 c3] W fun e w' => e = .returned (.string (rts l3)) ∧ Below W.heap.size W w') := fun W hW => textsS A3 n3 c3 l3 W (s3.on hW) r3
  have z3 := rts_full r3
  have zi := txt_size i0 (by omega)
  have zc := txt_size j0 (by omega)
  have zh := hx_size rp id code qn qt zi zc qz
  have HX : Hid (kw rp ++ Txt id ++ ⟨#[32]⟩ ++ Txt code ++ ⟨#[32]⟩ ++ dot qn ++ ⟨#[32]⟩ ++ tt qt = hx rp id code qn qt) := rfl
  have zq := dot_size qn
  have zt := tt_size qt
  have zw := kw_size rp
  have s1' := one_size 32
  have a0 := add_size (kw rp) (Txt id)
  have k0 := cat (kw rp) (Txt id) (by omega) (by omega)
  have a1 := add_size (kw rp ++ Txt id) (⟨#[32]⟩)
  have k1 := cat (kw rp ++ Txt id) (⟨#[32]⟩) (by omega) (by omega)
  have a2 := add_size (kw rp ++ Txt id ++ ⟨#[32]⟩) (Txt code)
  have k2 := cat (kw rp ++ Txt id ++ ⟨#[32]⟩) (Txt code) (by omega) (by omega)
  have a3 := add_size (kw rp ++ Txt id ++ ⟨#[32]⟩ ++ Txt code) (⟨#[32]⟩)
  have k3 := cat (kw rp ++ Txt id ++ ⟨#[32]⟩ ++ Txt code) (⟨#[32]⟩) (by omega) (by omega)
  have a4 := add_size (kw rp ++ Txt id ++ ⟨#[32]⟩ ++ Txt code ++ ⟨#[32]⟩) (dot qn)
  have k4 := cat (kw rp ++ Txt id ++ ⟨#[32]⟩ ++ Txt code ++ ⟨#[32]⟩) (dot qn) (by omega) (by omega)
  have a5 := add_size (kw rp ++ Txt id ++ ⟨#[32]⟩ ++ Txt code ++ ⟨#[32]⟩ ++ dot qn) (⟨#[32]⟩)
  have k5 := cat (kw rp ++ Txt id ++ ⟨#[32]⟩ ++ Txt code ++ ⟨#[32]⟩ ++ dot qn) (⟨#[32]⟩) (by omega) (by omega)
  have a6 := add_size (kw rp ++ Txt id ++ ⟨#[32]⟩ ++ Txt code ++ ⟨#[32]⟩ ++ dot qn ++ ⟨#[32]⟩) (tt qt)
  have k6 := cat (kw rp ++ Txt id ++ ⟨#[32]⟩ ++ Txt code ++ ⟨#[32]⟩ ++ dot qn ++ ⟨#[32]⟩) (tt qt) (by omega) (by omega)
  clear a0 a1 a2 a3 a4 a5 a6 s1 s2 s3 m1 m2 m3 hk r1 r2 r3 i0 i1 j0 j1 s1' zi zc zq zt zw
  generalize rts l1 = R1 at *
  generalize rts l2 = R2 at *
  generalize rts l3 = R3 at *
  cases rp
  · have KW : Hid (kw false = ⟨#[97, 115, 107, 32]⟩) := rfl
    rw [KW.out] at HX k0 k1 k2 k3 k4 k5 k6
    generalize hx false id code qn qt = H at *
    clear KW
    go_enter Tryz.func17, Tryz.ntmps17
    go_wp2_with fail
    refine (CM.out _ L0.out).mono ?_
    rintro e w1 ⟨rfl, hl⟩
    have L1 := Lib.hid (L0.out.trans (hl.mono L0.out.size))
    have X1 := Lib.hid (X0.out.below hl)
    clear hl L0 X0
    obtain ⟨x0, x1, x2, x3, x4, x5, x6, x7, x8, x9, x10, x11⟩ := X1.out
    go_wp2
    clear x0 x1 x2 x3 x4 x5 x6 x7 x8 x9 x10 x11
    have x0 : ∀ d os, (Sort.grow (redrawn w1 d) os).cell? _ = some _ := fun d os => (X1.out.drawn d os).1
    have x1 : ∀ d os, (Sort.grow (redrawn w1 d) os).cell? _ = some _ := fun d os => (X1.out.drawn d os).2.1
    have x2 : ∀ d os, (Sort.grow (redrawn w1 d) os).cell? _ = some _ := fun d os => (X1.out.drawn d os).2.2.1
    have x3 : ∀ d os, (Sort.grow (redrawn w1 d) os).cell? _ = some _ := fun d os => (X1.out.drawn d os).2.2.2.1
    have x4 : ∀ d os, (Sort.grow (redrawn w1 d) os).cell? _ = some _ := fun d os => (X1.out.drawn d os).2.2.2.2.1
    have x5 : ∀ d os, (Sort.grow (redrawn w1 d) os).cell? _ = some _ := fun d os => (X1.out.drawn d os).2.2.2.2.2.1
    have x6 : ∀ d os, (Sort.grow (redrawn w1 d) os).cell? _ = some _ := fun d os => (X1.out.drawn d os).2.2.2.2.2.2.1
    have x7 : ∀ d os, (Sort.grow (redrawn w1 d) os).cell? _ = some _ := fun d os => (X1.out.drawn d os).2.2.2.2.2.2.2.1
    have x8 : ∀ d os, (Sort.grow (redrawn w1 d) os).cell? _ = some _ := fun d os => (X1.out.drawn d os).2.2.2.2.2.2.2.2.1
    have x9 : ∀ d os, (Sort.grow (redrawn w1 d) os).cell? _ = some _ := fun d os => (X1.out.drawn d os).2.2.2.2.2.2.2.2.2.1
    have x10 : ∀ d os, (Sort.grow (redrawn w1 d) os).cell? _ = some _ := fun d os => (X1.out.drawn d os).2.2.2.2.2.2.2.2.2.2.1
    have x11 : ∀ d os, (Sort.grow (redrawn w1 d) os).cell? _ = some _ := fun d os => (X1.out.drawn d os).2.2.2.2.2.2.2.2.2.2.2
    refine wp_region_quiet_below (by assumption) (by kernel_rfl) ?_
    repeat (quiet_step (first | (go_at_call 45; exact in_class (fun W _ => same_below (dot_spec qn W))) | (go_at_call 46; exact in_class (fun W _ => same_below (spec_text qt W))) | (go_at_call 44; exact in_class (fun W _ => Num.spec _ (by first | exact WI.out | exact WC.out) W))))
    refine wpQuiet_nil ?_
    intro w2 hw2
    have hl := of_class hw2
    have L2 := Lib.hid (L1.out.trans (hl.mono L1.out.size))
    have X2 := Lib.hid (X1.out.below hl)
    clear hl hw2 x0 x1 x2 x3 x4 x5 x6 x7 x8 x9 x10 x11 L1 X1 k0 k1 k2 k3 k4 k5 k6
    rw [HX.out]
    have c1 := cat H ⟨#[32, 97, 117, 116, 104]⟩ (by omega) (by decide)
    have c2 := cat H ⟨#[32, 99, 117, 116]⟩ (by omega) (by decide)
    have d1 := add_size H ⟨#[32, 97, 117, 116, 104]⟩
    have d2 : (⟨#[32, 97, 117, 116, 104]⟩ : ByteArray).size = 5 := rfl
    have c3 := cat (H ++ ⟨#[32, 97, 117, 116, 104]⟩) ⟨#[32, 99, 117, 116]⟩ (by omega) (by decide)
    have HFS := Lib.hid (Nat.le_trans (fc_size (fa H au) ct) (Nat.add_le_add_right (fa_size H au) 4))
    clear d1 d2
    obtain ⟨x0, x1, x2, x3, x4, x5, x6, x7, x8, x9, x10, x11⟩ := X2.out
    have HF : Hid (∀ F, fc (fa H au) ct = F → F.size ≤ 209) := fun F e => by rw [← e]; have := HFS.out; omega
    cases au
    · cases ct
      · have fz : (H).size ≤ 209 := HF.out _ rfl
        have f1 := add_size (H) R1
        have f2 := add_size (H ++ R1) R2
        have k1 := cat (H) R1 (by omega) (by omega)
        have k2 := cat (H ++ R1) R2 (by omega) (by omega)
        have k3 := cat (H ++ R1 ++ R2) R3 (by omega) (by omega)
        clear f1 f2 fz
        go_wp2
        clear x0 x1 x2 x3 x4 x5 x6 x7 x8 x9 x10 x11 c1 c2 c3
        have x0 : ∀ d os, (Sort.grow (redrawn w2 d) os).cell? _ = some _ := fun d os => (X2.out.drawn d os).1
        have x1 : ∀ d os, (Sort.grow (redrawn w2 d) os).cell? _ = some _ := fun d os => (X2.out.drawn d os).2.1
        have x2 : ∀ d os, (Sort.grow (redrawn w2 d) os).cell? _ = some _ := fun d os => (X2.out.drawn d os).2.2.1
        have x3 : ∀ d os, (Sort.grow (redrawn w2 d) os).cell? _ = some _ := fun d os => (X2.out.drawn d os).2.2.2.1
        have x4 : ∀ d os, (Sort.grow (redrawn w2 d) os).cell? _ = some _ := fun d os => (X2.out.drawn d os).2.2.2.2.1
        have x5 : ∀ d os, (Sort.grow (redrawn w2 d) os).cell? _ = some _ := fun d os => (X2.out.drawn d os).2.2.2.2.2.1
        have x6 : ∀ d os, (Sort.grow (redrawn w2 d) os).cell? _ = some _ := fun d os => (X2.out.drawn d os).2.2.2.2.2.2.1
        have x7 : ∀ d os, (Sort.grow (redrawn w2 d) os).cell? _ = some _ := fun d os => (X2.out.drawn d os).2.2.2.2.2.2.2.1
        have x8 : ∀ d os, (Sort.grow (redrawn w2 d) os).cell? _ = some _ := fun d os => (X2.out.drawn d os).2.2.2.2.2.2.2.2.1
        have x9 : ∀ d os, (Sort.grow (redrawn w2 d) os).cell? _ = some _ := fun d os => (X2.out.drawn d os).2.2.2.2.2.2.2.2.2.1
        have x10 : ∀ d os, (Sort.grow (redrawn w2 d) os).cell? _ = some _ := fun d os => (X2.out.drawn d os).2.2.2.2.2.2.2.2.2.2.1
        have x11 : ∀ d os, (Sort.grow (redrawn w2 d) os).cell? _ = some _ := fun d os => (X2.out.drawn d os).2.2.2.2.2.2.2.2.2.2.2
        refine wp_region_quiet_below (by assumption) (by kernel_rfl) ?_
        repeat (quiet_step (first | (go_at_call 47; with_reducible exact in_class (fun W hW => T1.out W (L2.out.trans (hW.mono L2.out.size)))) | (go_at_call 47; with_reducible exact in_class (fun W hW => T2.out W (L2.out.trans (hW.mono L2.out.size)))) | (go_at_call 47; with_reducible exact in_class (fun W hW => T3.out W (L2.out.trans (hW.mono L2.out.size))))))
        refine wpQuiet_nil ?_
        intro w3 hw3
        have hl := of_class hw3
        have L3 := Lib.hid (L2.out.trans (hl.mono L2.out.size))
        clear hl hw3 x0 x1 x2 x3 x4 x5 x6 x7 x8 x9 x10 x11
        go_wp2
        go_ret
        exact ⟨rfl, L3.out⟩
      · have fz : (H ++ ⟨#[32, 99, 117, 116]⟩).size ≤ 209 := HF.out _ rfl
        have f1 := add_size (H ++ ⟨#[32, 99, 117, 116]⟩) R1
        have f2 := add_size (H ++ ⟨#[32, 99, 117, 116]⟩ ++ R1) R2
        have k1 := cat (H ++ ⟨#[32, 99, 117, 116]⟩) R1 (by omega) (by omega)
        have k2 := cat (H ++ ⟨#[32, 99, 117, 116]⟩ ++ R1) R2 (by omega) (by omega)
        have k3 := cat (H ++ ⟨#[32, 99, 117, 116]⟩ ++ R1 ++ R2) R3 (by omega) (by omega)
        clear f1 f2 fz
        go_wp2
        clear x0 x1 x2 x3 x4 x5 x6 x7 x8 x9 x10 x11 c1 c2 c3
        have x0 : ∀ d os, (Sort.grow (redrawn w2 d) os).cell? _ = some _ := fun d os => (X2.out.drawn d os).1
        have x1 : ∀ d os, (Sort.grow (redrawn w2 d) os).cell? _ = some _ := fun d os => (X2.out.drawn d os).2.1
        have x2 : ∀ d os, (Sort.grow (redrawn w2 d) os).cell? _ = some _ := fun d os => (X2.out.drawn d os).2.2.1
        have x3 : ∀ d os, (Sort.grow (redrawn w2 d) os).cell? _ = some _ := fun d os => (X2.out.drawn d os).2.2.2.1
        have x4 : ∀ d os, (Sort.grow (redrawn w2 d) os).cell? _ = some _ := fun d os => (X2.out.drawn d os).2.2.2.2.1
        have x5 : ∀ d os, (Sort.grow (redrawn w2 d) os).cell? _ = some _ := fun d os => (X2.out.drawn d os).2.2.2.2.2.1
        have x6 : ∀ d os, (Sort.grow (redrawn w2 d) os).cell? _ = some _ := fun d os => (X2.out.drawn d os).2.2.2.2.2.2.1
        have x7 : ∀ d os, (Sort.grow (redrawn w2 d) os).cell? _ = some _ := fun d os => (X2.out.drawn d os).2.2.2.2.2.2.2.1
        have x8 : ∀ d os, (Sort.grow (redrawn w2 d) os).cell? _ = some _ := fun d os => (X2.out.drawn d os).2.2.2.2.2.2.2.2.1
        have x9 : ∀ d os, (Sort.grow (redrawn w2 d) os).cell? _ = some _ := fun d os => (X2.out.drawn d os).2.2.2.2.2.2.2.2.2.1
        have x10 : ∀ d os, (Sort.grow (redrawn w2 d) os).cell? _ = some _ := fun d os => (X2.out.drawn d os).2.2.2.2.2.2.2.2.2.2.1
        have x11 : ∀ d os, (Sort.grow (redrawn w2 d) os).cell? _ = some _ := fun d os => (X2.out.drawn d os).2.2.2.2.2.2.2.2.2.2.2
        refine wp_region_quiet_below (by assumption) (by kernel_rfl) ?_
        repeat (quiet_step (first | (go_at_call 47; with_reducible exact in_class (fun W hW => T1.out W (L2.out.trans (hW.mono L2.out.size)))) | (go_at_call 47; with_reducible exact in_class (fun W hW => T2.out W (L2.out.trans (hW.mono L2.out.size)))) | (go_at_call 47; with_reducible exact in_class (fun W hW => T3.out W (L2.out.trans (hW.mono L2.out.size))))))
        refine wpQuiet_nil ?_
        intro w3 hw3
        have hl := of_class hw3
        have L3 := Lib.hid (L2.out.trans (hl.mono L2.out.size))
        clear hl hw3 x0 x1 x2 x3 x4 x5 x6 x7 x8 x9 x10 x11
        go_wp2
        go_ret
        exact ⟨rfl, L3.out⟩
    · cases ct
      · have fz : (H ++ ⟨#[32, 97, 117, 116, 104]⟩).size ≤ 209 := HF.out _ rfl
        have f1 := add_size (H ++ ⟨#[32, 97, 117, 116, 104]⟩) R1
        have f2 := add_size (H ++ ⟨#[32, 97, 117, 116, 104]⟩ ++ R1) R2
        have k1 := cat (H ++ ⟨#[32, 97, 117, 116, 104]⟩) R1 (by omega) (by omega)
        have k2 := cat (H ++ ⟨#[32, 97, 117, 116, 104]⟩ ++ R1) R2 (by omega) (by omega)
        have k3 := cat (H ++ ⟨#[32, 97, 117, 116, 104]⟩ ++ R1 ++ R2) R3 (by omega) (by omega)
        clear f1 f2 fz
        go_wp2
        clear x0 x1 x2 x3 x4 x5 x6 x7 x8 x9 x10 x11 c1 c2 c3
        have x0 : ∀ d os, (Sort.grow (redrawn w2 d) os).cell? _ = some _ := fun d os => (X2.out.drawn d os).1
        have x1 : ∀ d os, (Sort.grow (redrawn w2 d) os).cell? _ = some _ := fun d os => (X2.out.drawn d os).2.1
        have x2 : ∀ d os, (Sort.grow (redrawn w2 d) os).cell? _ = some _ := fun d os => (X2.out.drawn d os).2.2.1
        have x3 : ∀ d os, (Sort.grow (redrawn w2 d) os).cell? _ = some _ := fun d os => (X2.out.drawn d os).2.2.2.1
        have x4 : ∀ d os, (Sort.grow (redrawn w2 d) os).cell? _ = some _ := fun d os => (X2.out.drawn d os).2.2.2.2.1
        have x5 : ∀ d os, (Sort.grow (redrawn w2 d) os).cell? _ = some _ := fun d os => (X2.out.drawn d os).2.2.2.2.2.1
        have x6 : ∀ d os, (Sort.grow (redrawn w2 d) os).cell? _ = some _ := fun d os => (X2.out.drawn d os).2.2.2.2.2.2.1
        have x7 : ∀ d os, (Sort.grow (redrawn w2 d) os).cell? _ = some _ := fun d os => (X2.out.drawn d os).2.2.2.2.2.2.2.1
        have x8 : ∀ d os, (Sort.grow (redrawn w2 d) os).cell? _ = some _ := fun d os => (X2.out.drawn d os).2.2.2.2.2.2.2.2.1
        have x9 : ∀ d os, (Sort.grow (redrawn w2 d) os).cell? _ = some _ := fun d os => (X2.out.drawn d os).2.2.2.2.2.2.2.2.2.1
        have x10 : ∀ d os, (Sort.grow (redrawn w2 d) os).cell? _ = some _ := fun d os => (X2.out.drawn d os).2.2.2.2.2.2.2.2.2.2.1
        have x11 : ∀ d os, (Sort.grow (redrawn w2 d) os).cell? _ = some _ := fun d os => (X2.out.drawn d os).2.2.2.2.2.2.2.2.2.2.2
        refine wp_region_quiet_below (by assumption) (by kernel_rfl) ?_
        repeat (quiet_step (first | (go_at_call 47; with_reducible exact in_class (fun W hW => T1.out W (L2.out.trans (hW.mono L2.out.size)))) | (go_at_call 47; with_reducible exact in_class (fun W hW => T2.out W (L2.out.trans (hW.mono L2.out.size)))) | (go_at_call 47; with_reducible exact in_class (fun W hW => T3.out W (L2.out.trans (hW.mono L2.out.size))))))
        refine wpQuiet_nil ?_
        intro w3 hw3
        have hl := of_class hw3
        have L3 := Lib.hid (L2.out.trans (hl.mono L2.out.size))
        clear hl hw3 x0 x1 x2 x3 x4 x5 x6 x7 x8 x9 x10 x11
        go_wp2
        go_ret
        exact ⟨rfl, L3.out⟩
      · have fz : (H ++ ⟨#[32, 97, 117, 116, 104]⟩ ++ ⟨#[32, 99, 117, 116]⟩).size ≤ 209 := HF.out _ rfl
        have f1 := add_size (H ++ ⟨#[32, 97, 117, 116, 104]⟩ ++ ⟨#[32, 99, 117, 116]⟩) R1
        have f2 := add_size (H ++ ⟨#[32, 97, 117, 116, 104]⟩ ++ ⟨#[32, 99, 117, 116]⟩ ++ R1) R2
        have k1 := cat (H ++ ⟨#[32, 97, 117, 116, 104]⟩ ++ ⟨#[32, 99, 117, 116]⟩) R1 (by omega) (by omega)
        have k2 := cat (H ++ ⟨#[32, 97, 117, 116, 104]⟩ ++ ⟨#[32, 99, 117, 116]⟩ ++ R1) R2 (by omega) (by omega)
        have k3 := cat (H ++ ⟨#[32, 97, 117, 116, 104]⟩ ++ ⟨#[32, 99, 117, 116]⟩ ++ R1 ++ R2) R3 (by omega) (by omega)
        clear f1 f2 fz
        go_wp2
        clear x0 x1 x2 x3 x4 x5 x6 x7 x8 x9 x10 x11 c1 c2 c3
        have x0 : ∀ d os, (Sort.grow (redrawn w2 d) os).cell? _ = some _ := fun d os => (X2.out.drawn d os).1
        have x1 : ∀ d os, (Sort.grow (redrawn w2 d) os).cell? _ = some _ := fun d os => (X2.out.drawn d os).2.1
        have x2 : ∀ d os, (Sort.grow (redrawn w2 d) os).cell? _ = some _ := fun d os => (X2.out.drawn d os).2.2.1
        have x3 : ∀ d os, (Sort.grow (redrawn w2 d) os).cell? _ = some _ := fun d os => (X2.out.drawn d os).2.2.2.1
        have x4 : ∀ d os, (Sort.grow (redrawn w2 d) os).cell? _ = some _ := fun d os => (X2.out.drawn d os).2.2.2.2.1
        have x5 : ∀ d os, (Sort.grow (redrawn w2 d) os).cell? _ = some _ := fun d os => (X2.out.drawn d os).2.2.2.2.2.1
        have x6 : ∀ d os, (Sort.grow (redrawn w2 d) os).cell? _ = some _ := fun d os => (X2.out.drawn d os).2.2.2.2.2.2.1
        have x7 : ∀ d os, (Sort.grow (redrawn w2 d) os).cell? _ = some _ := fun d os => (X2.out.drawn d os).2.2.2.2.2.2.2.1
        have x8 : ∀ d os, (Sort.grow (redrawn w2 d) os).cell? _ = some _ := fun d os => (X2.out.drawn d os).2.2.2.2.2.2.2.2.1
        have x9 : ∀ d os, (Sort.grow (redrawn w2 d) os).cell? _ = some _ := fun d os => (X2.out.drawn d os).2.2.2.2.2.2.2.2.2.1
        have x10 : ∀ d os, (Sort.grow (redrawn w2 d) os).cell? _ = some _ := fun d os => (X2.out.drawn d os).2.2.2.2.2.2.2.2.2.2.1
        have x11 : ∀ d os, (Sort.grow (redrawn w2 d) os).cell? _ = some _ := fun d os => (X2.out.drawn d os).2.2.2.2.2.2.2.2.2.2.2
        refine wp_region_quiet_below (by assumption) (by kernel_rfl) ?_
        repeat (quiet_step (first | (go_at_call 47; with_reducible exact in_class (fun W hW => T1.out W (L2.out.trans (hW.mono L2.out.size)))) | (go_at_call 47; with_reducible exact in_class (fun W hW => T2.out W (L2.out.trans (hW.mono L2.out.size)))) | (go_at_call 47; with_reducible exact in_class (fun W hW => T3.out W (L2.out.trans (hW.mono L2.out.size))))))
        refine wpQuiet_nil ?_
        intro w3 hw3
        have hl := of_class hw3
        have L3 := Lib.hid (L2.out.trans (hl.mono L2.out.size))
        clear hl hw3 x0 x1 x2 x3 x4 x5 x6 x7 x8 x9 x10 x11
        go_wp2
        go_ret
        exact ⟨rfl, L3.out⟩
  · have KW : Hid (kw true = ⟨#[114, 101, 112, 108, 121, 32]⟩) := rfl
    rw [KW.out] at HX k0 k1 k2 k3 k4 k5 k6
    generalize hx true id code qn qt = H at *
    clear KW
    go_enter Tryz.func17, Tryz.ntmps17
    go_wp2_with fail
    refine (CM.out _ L0.out).mono ?_
    rintro e w1 ⟨rfl, hl⟩
    have L1 := Lib.hid (L0.out.trans (hl.mono L0.out.size))
    have X1 := Lib.hid (X0.out.below hl)
    clear hl L0 X0
    obtain ⟨x0, x1, x2, x3, x4, x5, x6, x7, x8, x9, x10, x11⟩ := X1.out
    go_wp2
    clear x0 x1 x2 x3 x4 x5 x6 x7 x8 x9 x10 x11
    have x0 : ∀ d os, (Sort.grow (redrawn w1 d) os).cell? _ = some _ := fun d os => (X1.out.drawn d os).1
    have x1 : ∀ d os, (Sort.grow (redrawn w1 d) os).cell? _ = some _ := fun d os => (X1.out.drawn d os).2.1
    have x2 : ∀ d os, (Sort.grow (redrawn w1 d) os).cell? _ = some _ := fun d os => (X1.out.drawn d os).2.2.1
    have x3 : ∀ d os, (Sort.grow (redrawn w1 d) os).cell? _ = some _ := fun d os => (X1.out.drawn d os).2.2.2.1
    have x4 : ∀ d os, (Sort.grow (redrawn w1 d) os).cell? _ = some _ := fun d os => (X1.out.drawn d os).2.2.2.2.1
    have x5 : ∀ d os, (Sort.grow (redrawn w1 d) os).cell? _ = some _ := fun d os => (X1.out.drawn d os).2.2.2.2.2.1
    have x6 : ∀ d os, (Sort.grow (redrawn w1 d) os).cell? _ = some _ := fun d os => (X1.out.drawn d os).2.2.2.2.2.2.1
    have x7 : ∀ d os, (Sort.grow (redrawn w1 d) os).cell? _ = some _ := fun d os => (X1.out.drawn d os).2.2.2.2.2.2.2.1
    have x8 : ∀ d os, (Sort.grow (redrawn w1 d) os).cell? _ = some _ := fun d os => (X1.out.drawn d os).2.2.2.2.2.2.2.2.1
    have x9 : ∀ d os, (Sort.grow (redrawn w1 d) os).cell? _ = some _ := fun d os => (X1.out.drawn d os).2.2.2.2.2.2.2.2.2.1
    have x10 : ∀ d os, (Sort.grow (redrawn w1 d) os).cell? _ = some _ := fun d os => (X1.out.drawn d os).2.2.2.2.2.2.2.2.2.2.1
    have x11 : ∀ d os, (Sort.grow (redrawn w1 d) os).cell? _ = some _ := fun d os => (X1.out.drawn d os).2.2.2.2.2.2.2.2.2.2.2
    refine wp_region_quiet_below (by assumption) (by kernel_rfl) ?_
    repeat (quiet_step (first | (go_at_call 45; exact in_class (fun W _ => same_below (dot_spec qn W))) | (go_at_call 46; exact in_class (fun W _ => same_below (spec_text qt W))) | (go_at_call 44; exact in_class (fun W _ => Num.spec _ (by first | exact WI.out | exact WC.out) W))))
    refine wpQuiet_nil ?_
    intro w2 hw2
    have hl := of_class hw2
    have L2 := Lib.hid (L1.out.trans (hl.mono L1.out.size))
    have X2 := Lib.hid (X1.out.below hl)
    clear hl hw2 x0 x1 x2 x3 x4 x5 x6 x7 x8 x9 x10 x11 L1 X1 k0 k1 k2 k3 k4 k5 k6
    rw [HX.out]
    have c1 := cat H ⟨#[32, 97, 117, 116, 104]⟩ (by omega) (by decide)
    have c2 := cat H ⟨#[32, 99, 117, 116]⟩ (by omega) (by decide)
    have d1 := add_size H ⟨#[32, 97, 117, 116, 104]⟩
    have d2 : (⟨#[32, 97, 117, 116, 104]⟩ : ByteArray).size = 5 := rfl
    have c3 := cat (H ++ ⟨#[32, 97, 117, 116, 104]⟩) ⟨#[32, 99, 117, 116]⟩ (by omega) (by decide)
    have HFS := Lib.hid (Nat.le_trans (fc_size (fa H au) ct) (Nat.add_le_add_right (fa_size H au) 4))
    clear d1 d2
    obtain ⟨x0, x1, x2, x3, x4, x5, x6, x7, x8, x9, x10, x11⟩ := X2.out
    have HF : Hid (∀ F, fc (fa H au) ct = F → F.size ≤ 209) := fun F e => by rw [← e]; have := HFS.out; omega
    cases au
    · cases ct
      · have fz : (H).size ≤ 209 := HF.out _ rfl
        have f1 := add_size (H) R1
        have f2 := add_size (H ++ R1) R2
        have k1 := cat (H) R1 (by omega) (by omega)
        have k2 := cat (H ++ R1) R2 (by omega) (by omega)
        have k3 := cat (H ++ R1 ++ R2) R3 (by omega) (by omega)
        clear f1 f2 fz
        go_wp2
        clear x0 x1 x2 x3 x4 x5 x6 x7 x8 x9 x10 x11 c1 c2 c3
        have x0 : ∀ d os, (Sort.grow (redrawn w2 d) os).cell? _ = some _ := fun d os => (X2.out.drawn d os).1
        have x1 : ∀ d os, (Sort.grow (redrawn w2 d) os).cell? _ = some _ := fun d os => (X2.out.drawn d os).2.1
        have x2 : ∀ d os, (Sort.grow (redrawn w2 d) os).cell? _ = some _ := fun d os => (X2.out.drawn d os).2.2.1
        have x3 : ∀ d os, (Sort.grow (redrawn w2 d) os).cell? _ = some _ := fun d os => (X2.out.drawn d os).2.2.2.1
        have x4 : ∀ d os, (Sort.grow (redrawn w2 d) os).cell? _ = some _ := fun d os => (X2.out.drawn d os).2.2.2.2.1
        have x5 : ∀ d os, (Sort.grow (redrawn w2 d) os).cell? _ = some _ := fun d os => (X2.out.drawn d os).2.2.2.2.2.1
        have x6 : ∀ d os, (Sort.grow (redrawn w2 d) os).cell? _ = some _ := fun d os => (X2.out.drawn d os).2.2.2.2.2.2.1
        have x7 : ∀ d os, (Sort.grow (redrawn w2 d) os).cell? _ = some _ := fun d os => (X2.out.drawn d os).2.2.2.2.2.2.2.1
        have x8 : ∀ d os, (Sort.grow (redrawn w2 d) os).cell? _ = some _ := fun d os => (X2.out.drawn d os).2.2.2.2.2.2.2.2.1
        have x9 : ∀ d os, (Sort.grow (redrawn w2 d) os).cell? _ = some _ := fun d os => (X2.out.drawn d os).2.2.2.2.2.2.2.2.2.1
        have x10 : ∀ d os, (Sort.grow (redrawn w2 d) os).cell? _ = some _ := fun d os => (X2.out.drawn d os).2.2.2.2.2.2.2.2.2.2.1
        have x11 : ∀ d os, (Sort.grow (redrawn w2 d) os).cell? _ = some _ := fun d os => (X2.out.drawn d os).2.2.2.2.2.2.2.2.2.2.2
        refine wp_region_quiet_below (by assumption) (by kernel_rfl) ?_
        repeat (quiet_step (first | (go_at_call 47; with_reducible exact in_class (fun W hW => T1.out W (L2.out.trans (hW.mono L2.out.size)))) | (go_at_call 47; with_reducible exact in_class (fun W hW => T2.out W (L2.out.trans (hW.mono L2.out.size)))) | (go_at_call 47; with_reducible exact in_class (fun W hW => T3.out W (L2.out.trans (hW.mono L2.out.size))))))
        refine wpQuiet_nil ?_
        intro w3 hw3
        have hl := of_class hw3
        have L3 := Lib.hid (L2.out.trans (hl.mono L2.out.size))
        clear hl hw3 x0 x1 x2 x3 x4 x5 x6 x7 x8 x9 x10 x11
        go_wp2
        go_ret
        exact ⟨rfl, L3.out⟩
      · have fz : (H ++ ⟨#[32, 99, 117, 116]⟩).size ≤ 209 := HF.out _ rfl
        have f1 := add_size (H ++ ⟨#[32, 99, 117, 116]⟩) R1
        have f2 := add_size (H ++ ⟨#[32, 99, 117, 116]⟩ ++ R1) R2
        have k1 := cat (H ++ ⟨#[32, 99, 117, 116]⟩) R1 (by omega) (by omega)
        have k2 := cat (H ++ ⟨#[32, 99, 117, 116]⟩ ++ R1) R2 (by omega) (by omega)
        have k3 := cat (H ++ ⟨#[32, 99, 117, 116]⟩ ++ R1 ++ R2) R3 (by omega) (by omega)
        clear f1 f2 fz
        go_wp2
        clear x0 x1 x2 x3 x4 x5 x6 x7 x8 x9 x10 x11 c1 c2 c3
        have x0 : ∀ d os, (Sort.grow (redrawn w2 d) os).cell? _ = some _ := fun d os => (X2.out.drawn d os).1
        have x1 : ∀ d os, (Sort.grow (redrawn w2 d) os).cell? _ = some _ := fun d os => (X2.out.drawn d os).2.1
        have x2 : ∀ d os, (Sort.grow (redrawn w2 d) os).cell? _ = some _ := fun d os => (X2.out.drawn d os).2.2.1
        have x3 : ∀ d os, (Sort.grow (redrawn w2 d) os).cell? _ = some _ := fun d os => (X2.out.drawn d os).2.2.2.1
        have x4 : ∀ d os, (Sort.grow (redrawn w2 d) os).cell? _ = some _ := fun d os => (X2.out.drawn d os).2.2.2.2.1
        have x5 : ∀ d os, (Sort.grow (redrawn w2 d) os).cell? _ = some _ := fun d os => (X2.out.drawn d os).2.2.2.2.2.1
        have x6 : ∀ d os, (Sort.grow (redrawn w2 d) os).cell? _ = some _ := fun d os => (X2.out.drawn d os).2.2.2.2.2.2.1
        have x7 : ∀ d os, (Sort.grow (redrawn w2 d) os).cell? _ = some _ := fun d os => (X2.out.drawn d os).2.2.2.2.2.2.2.1
        have x8 : ∀ d os, (Sort.grow (redrawn w2 d) os).cell? _ = some _ := fun d os => (X2.out.drawn d os).2.2.2.2.2.2.2.2.1
        have x9 : ∀ d os, (Sort.grow (redrawn w2 d) os).cell? _ = some _ := fun d os => (X2.out.drawn d os).2.2.2.2.2.2.2.2.2.1
        have x10 : ∀ d os, (Sort.grow (redrawn w2 d) os).cell? _ = some _ := fun d os => (X2.out.drawn d os).2.2.2.2.2.2.2.2.2.2.1
        have x11 : ∀ d os, (Sort.grow (redrawn w2 d) os).cell? _ = some _ := fun d os => (X2.out.drawn d os).2.2.2.2.2.2.2.2.2.2.2
        refine wp_region_quiet_below (by assumption) (by kernel_rfl) ?_
        repeat (quiet_step (first | (go_at_call 47; with_reducible exact in_class (fun W hW => T1.out W (L2.out.trans (hW.mono L2.out.size)))) | (go_at_call 47; with_reducible exact in_class (fun W hW => T2.out W (L2.out.trans (hW.mono L2.out.size)))) | (go_at_call 47; with_reducible exact in_class (fun W hW => T3.out W (L2.out.trans (hW.mono L2.out.size))))))
        refine wpQuiet_nil ?_
        intro w3 hw3
        have hl := of_class hw3
        have L3 := Lib.hid (L2.out.trans (hl.mono L2.out.size))
        clear hl hw3 x0 x1 x2 x3 x4 x5 x6 x7 x8 x9 x10 x11
        go_wp2
        go_ret
        exact ⟨rfl, L3.out⟩
    · cases ct
      · have fz : (H ++ ⟨#[32, 97, 117, 116, 104]⟩).size ≤ 209 := HF.out _ rfl
        have f1 := add_size (H ++ ⟨#[32, 97, 117, 116, 104]⟩) R1
        have f2 := add_size (H ++ ⟨#[32, 97, 117, 116, 104]⟩ ++ R1) R2
        have k1 := cat (H ++ ⟨#[32, 97, 117, 116, 104]⟩) R1 (by omega) (by omega)
        have k2 := cat (H ++ ⟨#[32, 97, 117, 116, 104]⟩ ++ R1) R2 (by omega) (by omega)
        have k3 := cat (H ++ ⟨#[32, 97, 117, 116, 104]⟩ ++ R1 ++ R2) R3 (by omega) (by omega)
        clear f1 f2 fz
        go_wp2
        clear x0 x1 x2 x3 x4 x5 x6 x7 x8 x9 x10 x11 c1 c2 c3
        have x0 : ∀ d os, (Sort.grow (redrawn w2 d) os).cell? _ = some _ := fun d os => (X2.out.drawn d os).1
        have x1 : ∀ d os, (Sort.grow (redrawn w2 d) os).cell? _ = some _ := fun d os => (X2.out.drawn d os).2.1
        have x2 : ∀ d os, (Sort.grow (redrawn w2 d) os).cell? _ = some _ := fun d os => (X2.out.drawn d os).2.2.1
        have x3 : ∀ d os, (Sort.grow (redrawn w2 d) os).cell? _ = some _ := fun d os => (X2.out.drawn d os).2.2.2.1
        have x4 : ∀ d os, (Sort.grow (redrawn w2 d) os).cell? _ = some _ := fun d os => (X2.out.drawn d os).2.2.2.2.1
        have x5 : ∀ d os, (Sort.grow (redrawn w2 d) os).cell? _ = some _ := fun d os => (X2.out.drawn d os).2.2.2.2.2.1
        have x6 : ∀ d os, (Sort.grow (redrawn w2 d) os).cell? _ = some _ := fun d os => (X2.out.drawn d os).2.2.2.2.2.2.1
        have x7 : ∀ d os, (Sort.grow (redrawn w2 d) os).cell? _ = some _ := fun d os => (X2.out.drawn d os).2.2.2.2.2.2.2.1
        have x8 : ∀ d os, (Sort.grow (redrawn w2 d) os).cell? _ = some _ := fun d os => (X2.out.drawn d os).2.2.2.2.2.2.2.2.1
        have x9 : ∀ d os, (Sort.grow (redrawn w2 d) os).cell? _ = some _ := fun d os => (X2.out.drawn d os).2.2.2.2.2.2.2.2.2.1
        have x10 : ∀ d os, (Sort.grow (redrawn w2 d) os).cell? _ = some _ := fun d os => (X2.out.drawn d os).2.2.2.2.2.2.2.2.2.2.1
        have x11 : ∀ d os, (Sort.grow (redrawn w2 d) os).cell? _ = some _ := fun d os => (X2.out.drawn d os).2.2.2.2.2.2.2.2.2.2.2
        refine wp_region_quiet_below (by assumption) (by kernel_rfl) ?_
        repeat (quiet_step (first | (go_at_call 47; with_reducible exact in_class (fun W hW => T1.out W (L2.out.trans (hW.mono L2.out.size)))) | (go_at_call 47; with_reducible exact in_class (fun W hW => T2.out W (L2.out.trans (hW.mono L2.out.size)))) | (go_at_call 47; with_reducible exact in_class (fun W hW => T3.out W (L2.out.trans (hW.mono L2.out.size))))))
        refine wpQuiet_nil ?_
        intro w3 hw3
        have hl := of_class hw3
        have L3 := Lib.hid (L2.out.trans (hl.mono L2.out.size))
        clear hl hw3 x0 x1 x2 x3 x4 x5 x6 x7 x8 x9 x10 x11
        go_wp2
        go_ret
        exact ⟨rfl, L3.out⟩
      · have fz : (H ++ ⟨#[32, 97, 117, 116, 104]⟩ ++ ⟨#[32, 99, 117, 116]⟩).size ≤ 209 := HF.out _ rfl
        have f1 := add_size (H ++ ⟨#[32, 97, 117, 116, 104]⟩ ++ ⟨#[32, 99, 117, 116]⟩) R1
        have f2 := add_size (H ++ ⟨#[32, 97, 117, 116, 104]⟩ ++ ⟨#[32, 99, 117, 116]⟩ ++ R1) R2
        have k1 := cat (H ++ ⟨#[32, 97, 117, 116, 104]⟩ ++ ⟨#[32, 99, 117, 116]⟩) R1 (by omega) (by omega)
        have k2 := cat (H ++ ⟨#[32, 97, 117, 116, 104]⟩ ++ ⟨#[32, 99, 117, 116]⟩ ++ R1) R2 (by omega) (by omega)
        have k3 := cat (H ++ ⟨#[32, 97, 117, 116, 104]⟩ ++ ⟨#[32, 99, 117, 116]⟩ ++ R1 ++ R2) R3 (by omega) (by omega)
        clear f1 f2 fz
        go_wp2
        clear x0 x1 x2 x3 x4 x5 x6 x7 x8 x9 x10 x11 c1 c2 c3
        have x0 : ∀ d os, (Sort.grow (redrawn w2 d) os).cell? _ = some _ := fun d os => (X2.out.drawn d os).1
        have x1 : ∀ d os, (Sort.grow (redrawn w2 d) os).cell? _ = some _ := fun d os => (X2.out.drawn d os).2.1
        have x2 : ∀ d os, (Sort.grow (redrawn w2 d) os).cell? _ = some _ := fun d os => (X2.out.drawn d os).2.2.1
        have x3 : ∀ d os, (Sort.grow (redrawn w2 d) os).cell? _ = some _ := fun d os => (X2.out.drawn d os).2.2.2.1
        have x4 : ∀ d os, (Sort.grow (redrawn w2 d) os).cell? _ = some _ := fun d os => (X2.out.drawn d os).2.2.2.2.1
        have x5 : ∀ d os, (Sort.grow (redrawn w2 d) os).cell? _ = some _ := fun d os => (X2.out.drawn d os).2.2.2.2.2.1
        have x6 : ∀ d os, (Sort.grow (redrawn w2 d) os).cell? _ = some _ := fun d os => (X2.out.drawn d os).2.2.2.2.2.2.1
        have x7 : ∀ d os, (Sort.grow (redrawn w2 d) os).cell? _ = some _ := fun d os => (X2.out.drawn d os).2.2.2.2.2.2.2.1
        have x8 : ∀ d os, (Sort.grow (redrawn w2 d) os).cell? _ = some _ := fun d os => (X2.out.drawn d os).2.2.2.2.2.2.2.2.1
        have x9 : ∀ d os, (Sort.grow (redrawn w2 d) os).cell? _ = some _ := fun d os => (X2.out.drawn d os).2.2.2.2.2.2.2.2.2.1
        have x10 : ∀ d os, (Sort.grow (redrawn w2 d) os).cell? _ = some _ := fun d os => (X2.out.drawn d os).2.2.2.2.2.2.2.2.2.2.1
        have x11 : ∀ d os, (Sort.grow (redrawn w2 d) os).cell? _ = some _ := fun d os => (X2.out.drawn d os).2.2.2.2.2.2.2.2.2.2.2
        refine wp_region_quiet_below (by assumption) (by kernel_rfl) ?_
        repeat (quiet_step (first | (go_at_call 47; with_reducible exact in_class (fun W hW => T1.out W (L2.out.trans (hW.mono L2.out.size)))) | (go_at_call 47; with_reducible exact in_class (fun W hW => T2.out W (L2.out.trans (hW.mono L2.out.size)))) | (go_at_call 47; with_reducible exact in_class (fun W hW => T3.out W (L2.out.trans (hW.mono L2.out.size))))))
        refine wpQuiet_nil ?_
        intro w3 hw3
        have hl := of_class hw3
        have L3 := Lib.hid (L2.out.trans (hl.mono L2.out.size))
        clear hl hw3 x0 x1 x2 x3 x4 x5 x6 x7 x8 x9 x10 x11
        go_wp2
        go_ret
        exact ⟨rfl, L3.out⟩

theorem spec (h : Hd) (A1 : Option Addr) (n1 c1 : Nat) (l1 : List Rec) (A2 : Option Addr) (n2 c2 : Nat) (l2 : List Rec) (A3 : Option Addr) (n3 c3 : Nat) (l3 : List Rec) (w : World) (hq : h.qn.size ≤ 400000000) (s1 : Sr w w.heap.size A1 n1 l1) (b1 : n1 ≤ 400000000) (m1 : Mods l1) (s2 : Sr w w.heap.size A2 n2 l2) (b2 : n2 ≤ 400000000) (m2 : Mods l2) (s3 : Sr w w.heap.size A3 n3 l3) (b3 : n3 ≤ 400000000) (m3 : Mods l3) : Calls Tryz.prog 17 #[.agg #[.int .i64 h.id, .bool h.rp, .bool h.au, .bool h.ct, .bool h.wa, .bool h.ca, .int .i64 h.code, .string h.qn, .int .i64 h.qt, .slice A1 n1 c1, .slice A2 n2 c2, .slice A3 n3 c3]] w fun e w' => e = .returned (.string (mtx h l1 l2 l3)) ∧ Below w.heap.size w w' := by
  cases hk : mok h l1 l2 l3
  · rw [show mtx h l1 l2 l3 = ⟨#[]⟩ from if_neg (by rw [hk]; simp)]
    exact spec_bad h.id h.code h.rp h.au h.ct h.wa h.ca h.qn h.qt A1 n1 c1 l1 A2 n2 c2 l2 A3 n3 c3 l3 w hq s1 b1 m1 s2 b2 m2 s3 b3 m3 hk
  · rw [show mtx h l1 l2 l3 = fc (fa (hx h.rp h.id h.code h.qn h.qt) h.au) h.ct ++ rts l1 ++ rts l2 ++ rts l3 from if_pos hk]
    exact spec_good h.id h.code h.rp h.au h.ct h.wa h.ca h.qn h.qt A1 n1 c1 l1 A2 n2 c2 l2 A3 n3 c3 l3 w hq s1 b1 m1 s2 b2 m2 s3 b3 m3 hk

theorem join5 (a b c d e : ByteArray) : Lib.join ([a, b, c, d, e].map (·.data.toList)) [32] = (a ++ ⟨#[32]⟩ ++ b ++ ⟨#[32]⟩ ++ c ++ ⟨#[32]⟩ ++ d ++ ⟨#[32]⟩ ++ e).data.toList := by
  simp [Lib.join, List.intercalate]

/-- strings.Join of five words with a blank between them. -/
theorem words (W : World) (g : Nat) (a b c d e : ByteArray) (hb : Bk W g 9 [.string a, .string b, .string c, .string d, .string e]) (ha : a.size ≤ 1000) (hb' : b.size ≤ 1000) (hc : c.size ≤ 1000) (hd : d.size ≤ 1000) (he : e.size ≤ 1000) :
    Calls Tryz.prog 41 #[.slice (some ⟨g, 0, none⟩) 5 5, .string ⟨#[32]⟩] W fun x w' => x = .returned (.string (a ++ ⟨#[32]⟩ ++ b ++ ⟨#[32]⟩ ++ c ++ ⟨#[32]⟩ ++ d ++ ⟨#[32]⟩ ++ e)) ∧ Below W.heap.size W w' := by
  have hs := bk_ssw0 (l := [a, b, c, d, e]) (n := 5) hb rfl
  obtain ⟨b', off, hA, hlt, hcs⟩ := hs.2 (by omega)
  simp only [Option.some.injEq, Addr.mk.injEq, and_true] at hA
  obtain ⟨rfl, rfl⟩ := hA
  have ee : (⟨(Lib.join ([a, b, c, d, e].map (·.data.toList)) [32]).toArray⟩ : ByteArray) = a ++ ⟨#[32]⟩ ++ b ++ ⟨#[32]⟩ ++ c ++ ⟨#[32]⟩ ++ d ++ ⟨#[32]⟩ ++ e := text_ext (by rw [← join5])
  rw [← ee]
  refine Go.Proofs.Any.strings_Join Tryz.lays156 Tryz.Builder_Extra_156 g 0 5 [a, b, c, d, e] ⟨#[32]⟩ W (fun j x hx => by
    obtain ⟨hj, rfl⟩ := List.getElem?_eq_some_iff.1 hx
    exact hcs j hj) hlt (by simp) (by simp) ?_
  show (Lib.join ([a, b, c, d, e].map (·.data.toList)) [32]).length ≤ _
  rw [join5]
  have z : ∀ x : ByteArray, x.data.toList.length = x.size := fun x => by simp
  rw [z, add_size, add_size, add_size, add_size, add_size, add_size, add_size, add_size, one_size]
  omega

/-- The loop over the sections: which text stands at which number. -/
def Lp (H R1 R2 R3 : ByteArray) (s i : Value) : Prop :=
  (i = .int .i64 0 ∧ s = .string H) ∨ (i = .int .i64 1 ∧ s = .string (H ++ R1)) ∨ (i = .int .i64 2 ∧ s = .string (H ++ R1 ++ R2)) ∨ (i = .int .i64 3 ∧ s = .string (H ++ R1 ++ R2 ++ R3))
theorem kept1 {w0 w w' : World} {g : Nat} {h : Hd} {x y z : Value} (m : Mx w g h x y z ∧ Sv w0 w) (hl : Below w.heap.size w w') : Mx w' g h x y z ∧ Sv w0 w' := ⟨m.1.below hl, m.2.trans (hl.mono m.2.size)⟩
theorem kept1_draw {w0 w : World} {g : Nat} {h : Hd} {x y z : Value} (m : Mx w g h x y z ∧ Sv w0 w) : Mx w.drew g h x y z ∧ Sv w0 w.drew := kept1 m ((Below.refl _ _).drew)
theorem kept1_alloc {w0 w : World} {g : Nat} {h : Hd} {x y z : Value} (m : Mx w g h x y z ∧ Sv w0 w) (a : Obj) : Mx (w.alloc a) g h x y z ∧ Sv w0 (w.alloc a) := kept1 m ((Below.refl _ _).alloc (Nat.le_refl _) _)

set_option maxRecDepth 100000 in
set_option maxHeartbeats 16000000 in
theorem impl_good (id code : Int) (rp au ct wa ca : Bool) (qn : ByteArray) (qt : Int) (A1 : Option Addr) (n1 c1 : Nat) (l1 : List Rec) (A2 : Option Addr) (n2 c2 : Nat) (l2 : List Rec) (A3 : Option Addr) (n3 c3 : Nat) (l3 : List Rec) (w : World) (he : Env w) (ht : Tab w) (hq : qn.size ≤ 400000000) (s1 : Sr w w.heap.size A1 n1 l1) (b1 : n1 ≤ 400000000) (m1 : Mods l1) (s2 : Sr w w.heap.size A2 n2 l2) (b2 : n2 ≤ 400000000) (m2 : Mods l2) (s3 : Sr w w.heap.size A3 n3 l3) (b3 : n3 ≤ 400000000) (m3 : Mods l3) (hk : mok ⟨id, rp, au, ct, wa, ca, code, qn, qt⟩ l1 l2 l3 = true) : Calls Tryz.prog 16 #[.agg #[.int .i64 id, .bool rp, .bool au, .bool ct, .bool wa, .bool ca, .int .i64 code, .string qn, .int .i64 qt, .slice A1 n1 c1, .slice A2 n2 c2, .slice A3 n3 c3]] w fun e w' => e = .returned (.string (fc (fa (hx rp id code qn qt) au) ct ++ rts l1 ++ rts l2 ++ rts l3)) ∧ Below w.heap.size w w' := by
  have mixed : Tryz.prog.follows .mixedOrders = true := by kernel_rfl
  obtain ⟨⟨i0, i1⟩, ⟨j0, j1⟩, qz, r1, r2, r3⟩ := mok_of hk
  dsimp only at i0 i1 j0 j1 qz
  have L0 := Lib.hid ((Below.refl w.heap.size w).alloc (Nat.le_refl _) (.cells #[.int .i64 id, .bool rp, .bool au, .bool ct, .bool wa, .bool ca, .int .i64 code, .string qn, .int .i64 qt, .slice A1 n1 c1, .slice A2 n2 c2, .slice A3 n3 c3] 28))
  have X0 : Hid (Mx (w.alloc (.cells #[.int .i64 id, .bool rp, .bool au, .bool ct, .bool wa, .bool ca, .int .i64 code, .string qn, .int .i64 qt, .slice A1 n1 c1, .slice A2 n2 c2, .slice A3 n3 c3] 28)) w.heap.size ⟨id, rp, au, ct, wa, ca, code, qn, qt⟩ (.slice A1 n1 c1) (.slice A2 n2 c2) (.slice A3 n3 c3)) := mx_new w 28 ⟨id, rp, au, ct, wa, ca, code, qn, qt⟩ (.slice A1 n1 c1) (.slice A2 n2 c2) (.slice A3 n3 c3)
  have CM : Hid (∀ W : World, Below w.heap.size w W → Calls Tryz.prog 14 #[.agg #[.int .i64 id, .bool rp, .bool au, .bool ct, .bool wa, .bool ca, .int .i64 code, .string qn, .int .i64 qt, .slice A1 n1 c1, .slice A2 n2 c2, .slice A3 n3 c3]] W fun e w' => e = .returned (.bool true) ∧ Below W.heap.size W w') := fun W hW => hk ▸ OkM.impl ⟨id, rp, au, ct, wa, ca, code, qn, qt⟩ A1 n1 c1 l1 A2 n2 c2 l2 A3 n3 c3 l3 W (he.below hW) hq (s1.on hW) b1 m1 (s2.on hW) b2 m2 (s3.on hW) b3 m3
  have OF : Hid (∀ W : World, Calls Tryz.prog 29 #[.agg #[.int .i64 id, .bool rp, .bool au, .bool ct, .bool wa, .bool ca, .int .i64 code, .string qn, .int .i64 qt, .slice A1 n1 c1, .slice A2 n2 c2, .slice A3 n3 c3]] W fun e w' => e = .returned (.agg #[.int .i64 id, .bool rp, .bool au, .bool ct, .bool wa, .bool ca, .int .i64 code, .string qn, .int .i64 qt, .slice A1 n1 c1, .slice A2 n2 c2, .slice A3 n3 c3]) ∧ Below W.heap.size W w') := fun W => ofI ⟨id, rp, au, ct, wa, ca, code, qn, qt⟩ A1 A2 A3 n1 c1 n2 c2 n3 c3 W
  have WI := wf_of i0 (by omega)
  have WC := wf_of j0 (by omega)
  have NI : Hid (∀ W : World, Sv w W → Calls Tryz.prog 38 #[.int .i64 id] W fun e w' => e = .returned (.string (Txt id)) ∧ Below W.heap.size W w') := fun W hW => Num.impl id WI W (ht.below hW)
  have NC : Hid (∀ W : World, Sv w W → Calls Tryz.prog 38 #[.int .i64 code] W fun e w' => e = .returned (.string (Txt code)) ∧ Below W.heap.size W w') := fun W hW => Num.impl code WC W (ht.below hW)
  have KI := Lib.hid (kindI id code rp au ct wa ca)
  have FI := Lib.hid (flagI id code rp au ct wa ca)
  have T1 : Hid (∀ W : World, Below w.heap.size w W → Calls Tryz.prog 43 #[.slice A1 n1 c1] W fun e w' => e = .returned (.string (rts l1)) ∧ Below W.heap.size W w') := fun W hW => textsI A1 n1 c1 l1 W (he.below hW) (ht.below hW) (s1.on hW) r1
  have z1 := rts_full r1
  have T2 : Hid (∀ W : World, Below w.heap.size w W → Calls Tryz.prog 43 #[.slice A2 n2 c2] W fun e w' => e = .returned (.string (rts l2)) ∧ Below W.heap.size W w') := fun W hW => textsI A2 n2 c2 l2 W (he.below hW) (ht.below hW) (s2.on hW) r2
  have z2 := rts_full r2
  have T3 : Hid (∀ W : World, Below w.heap.size w W → Calls Tryz.prog 43 #[.slice A3 n3 c3] W fun e w' => e = .returned (.string (rts l3)) ∧ Below W.heap.size W w') := fun W hW => textsI A3 n3 c3 l3 W (he.below hW) (ht.below hW) (s3.on hW) r3
  have z3 := rts_full r3
  have zi := txt_size i0 (by omega)
  have zc := txt_size j0 (by omega)
  have zh := hx_size rp id code qn qt zi zc qz
  have HX : Hid (kd rp ++ ⟨#[32]⟩ ++ Txt id ++ ⟨#[32]⟩ ++ Txt code ++ ⟨#[32]⟩ ++ dot qn ++ ⟨#[32]⟩ ++ tt qt = hx rp id code qn qt) := by show _ = _; rw [kd_kw]; rfl
  have HFG := Lib.hid (fg_add (hx rp id code qn qt) au ct)
  have zq := dot_size qn
  have zt := tt_size qt
  have zw := kd_size rp
  have zg := fg_size au ct
  clear s1 s2 s3 m1 m2 m3 hk r1 r2 r3 i0 i1 j0 j1 WI WC he ht
  generalize rts l1 = R1 at *
  generalize rts l2 = R2 at *
  generalize rts l3 = R3 at *
  generalize kd rp = KD at *
  generalize fg au ct = FG at *
  generalize Txt id = TI at *
  generalize Txt code = TC at *
  generalize hx rp id code qn qt = H at *
  go_enter Tryz.func16, Tryz.ntmps16
  go_wp2_with fail
  refine (CM.out _ L0.out).mono ?_
  rintro e w1 ⟨rfl, hl⟩
  have L1 := Lib.hid (L0.out.trans (hl.mono L0.out.size))
  have X1 := Lib.hid (X0.out.below hl)
  clear hl L0 X0
  obtain ⟨x0, x1, x2, x3, x4, x5, x6, x7, x8, x9, x10, x11⟩ := X1.out
  go_wp2_with fail
  refine (OF.out w1).mono ?_
  rintro e w2 ⟨rfl, hl⟩
  have L2' := L1.out.trans (hl.mono L1.out.size)
  have L2 := Lib.hid (L2'.alloc L2'.size (.cells #[.int .i64 id, .bool rp, .bool au, .bool ct, .bool wa, .bool ca, .int .i64 code, .string qn, .int .i64 qt, .slice A1 n1 c1, .slice A2 n2 c2, .slice A3 n3 c3] 54))
  have X2 : Hid (Mx (w2.alloc (.cells #[.int .i64 id, .bool rp, .bool au, .bool ct, .bool wa, .bool ca, .int .i64 code, .string qn, .int .i64 qt, .slice A1 n1 c1, .slice A2 n2 c2, .slice A3 n3 c3] 54)) w2.heap.size ⟨id, rp, au, ct, wa, ca, code, qn, qt⟩ (.slice A1 n1 c1) (.slice A2 n2 c2) (.slice A3 n3 c3)) := mx_new w2 54 ⟨id, rp, au, ct, wa, ca, code, qn, qt⟩ (.slice A1 n1 c1) (.slice A2 n2 c2) (.slice A3 n3 c3)
  clear hl L1 X1 L2' x0 x1 x2 x3 x4 x5 x6 x7 x8 x9 x10 x11
  go_wp2_with fail
  generalize w2.alloc (.cells #[.int .i64 id, .bool rp, .bool au, .bool ct, .bool wa, .bool ca, .int .i64 code, .string qn, .int .i64 qt, .slice A1 n1 c1, .slice A2 n2 c2, .slice A3 n3 c3] 54) = w3 at *
  generalize w2.heap.size = gm at *
  have S0 : (w3.cell? ⟨gm, 0, none⟩ = some (.int .i64 id) ∧ w3.cell? ⟨gm, 1, none⟩ = some (.bool rp) ∧ w3.cell? ⟨gm, 2, none⟩ = some (.bool au) ∧ w3.cell? ⟨gm, 3, none⟩ = some (.bool ct) ∧ w3.cell? ⟨gm, 4, none⟩ = some (.bool wa) ∧ w3.cell? ⟨gm, 5, none⟩ = some (.bool ca) ∧ w3.cell? ⟨gm, 6, none⟩ = some (.int .i64 code) ∧ w3.cell? ⟨gm, 7, none⟩ = some (.string qn) ∧ w3.cell? ⟨gm, 8, none⟩ = some (.int .i64 qt) ∧ w3.cell? ⟨gm, 9, none⟩ = some (.slice A1 n1 c1) ∧ w3.cell? ⟨gm, 10, none⟩ = some (.slice A2 n2 c2) ∧ w3.cell? ⟨gm, 11, none⟩ = some (.slice A3 n3 c3)) ∧ Sv w w3 := ⟨X2.out, L2.out⟩
  go_region_held3 (fun w' => (w'.cell? ⟨gm, 0, none⟩ = some (.int .i64 id) ∧ w'.cell? ⟨gm, 1, none⟩ = some (.bool rp) ∧ w'.cell? ⟨gm, 2, none⟩ = some (.bool au) ∧ w'.cell? ⟨gm, 3, none⟩ = some (.bool ct) ∧ w'.cell? ⟨gm, 4, none⟩ = some (.bool wa) ∧ w'.cell? ⟨gm, 5, none⟩ = some (.bool ca) ∧ w'.cell? ⟨gm, 6, none⟩ = some (.int .i64 code) ∧ w'.cell? ⟨gm, 7, none⟩ = some (.string qn) ∧ w'.cell? ⟨gm, 8, none⟩ = some (.int .i64 qt) ∧ w'.cell? ⟨gm, 9, none⟩ = some (.slice A1 n1 c1) ∧ w'.cell? ⟨gm, 10, none⟩ = some (.slice A2 n2 c2) ∧ w'.cell? ⟨gm, 11, none⟩ = some (.slice A3 n3 c3)) ∧ Sv w w')
    (first | with_reducible exact S0 | with_reducible assumption | exact kept1 (h := ⟨id, rp, au, ct, wa, ca, code, qn, qt⟩) (x := .slice A1 n1 c1) (y := .slice A2 n2 c2) (z := .slice A3 n3 c3) (by assumption) hl | exact kept1_alloc (h := ⟨id, rp, au, ct, wa, ca, code, qn, qt⟩) (x := .slice A1 n1 c1) (y := .slice A2 n2 c2) (z := .slice A3 n3 c3) (by assumption) _ | exact kept1_draw (h := ⟨id, rp, au, ct, wa, ca, code, qn, qt⟩) (x := .slice A1 n1 c1) (y := .slice A2 n2 c2) (z := .slice A3 n3 c3) (by assumption) | fail)
    (first
      | (go_at_call 37; (with_reducible refine (KI.out _).mono ?_); rintro e w10 ⟨rfl, hl⟩)
      | (go_at_call 38; (with_reducible refine (NI.out _ (And.right (by assumption))).mono ?_); rintro e w11 ⟨rfl, hl⟩)
      | (go_at_call 38; (with_reducible refine (NC.out _ (And.right (by assumption))).mono ?_); rintro e w12 ⟨rfl, hl⟩)
      | (go_at_call 39; (with_reducible refine (dot_impl qn _).mono ?_); rintro e w13 ⟨rfl, rfl⟩)
      | (go_at_call 40; (with_reducible refine (impl_text qt _).mono ?_); rintro e w14 ⟨rfl, rfl⟩)
      | fail)
  rename_i hH
  have X4 : Hid (Mx (w12.alloc (.cells #[.string KD, .string TI, .string TC, .string (dot qn), .string (tt qt)] 9)) gm ⟨id, rp, au, ct, wa, ca, code, qn, qt⟩ (.slice A1 n1 c1) (.slice A2 n2 c2) (.slice A3 n3 c3)) := hH.1
  have L4 : Hid (Below w.heap.size w (w12.alloc (.cells #[.string KD, .string TI, .string TC, .string (dot qn), .string (tt qt)] 9))) := hH.2
  have B4 := Lib.hid (show Bk (w12.alloc (.cells #[.string KD, .string TI, .string TC, .string (dot qn), .string (tt qt)] 9)) w12.heap.size 9 [.string KD, .string TI, .string TC, .string (dot qn), .string (tt qt)] from heap_alloc_new _ _)
  clear hH S0 X2 L2 hl
  generalize w12.alloc (.cells #[.string KD, .string TI, .string TC, .string (dot qn), .string (tt qt)] 9) = w5 at *
  generalize w12.heap.size = gw at *
  have WD : Hid (∀ W : World, Below w5.heap.size w5 W → Calls Tryz.prog 41 #[.slice (some ⟨gw, 0, none⟩) 5 5, .string ⟨#[32]⟩] W fun e w' => e = .returned (.string H) ∧ Below W.heap.size W w') := fun W hW => HX.out ▸ words W gw KD TI TC (dot qn) (tt qt) (B4.out.below hW B4.out.lt) (by omega) (by omega) (by omega) (by omega) (by omega)
  have c1 := cat H FG (by omega) (by omega)
  go_wp2
  have x0 : ∀ d os, (Sort.grow (redrawn w5 d) os).cell? _ = some _ := fun d os => (X4.out.drawn d os).1
  have x1 : ∀ d os, (Sort.grow (redrawn w5 d) os).cell? _ = some _ := fun d os => (X4.out.drawn d os).2.1
  have x2 : ∀ d os, (Sort.grow (redrawn w5 d) os).cell? _ = some _ := fun d os => (X4.out.drawn d os).2.2.1
  have x3 : ∀ d os, (Sort.grow (redrawn w5 d) os).cell? _ = some _ := fun d os => (X4.out.drawn d os).2.2.2.1
  have x4 : ∀ d os, (Sort.grow (redrawn w5 d) os).cell? _ = some _ := fun d os => (X4.out.drawn d os).2.2.2.2.1
  have x5 : ∀ d os, (Sort.grow (redrawn w5 d) os).cell? _ = some _ := fun d os => (X4.out.drawn d os).2.2.2.2.2.1
  have x6 : ∀ d os, (Sort.grow (redrawn w5 d) os).cell? _ = some _ := fun d os => (X4.out.drawn d os).2.2.2.2.2.2.1
  have x7 : ∀ d os, (Sort.grow (redrawn w5 d) os).cell? _ = some _ := fun d os => (X4.out.drawn d os).2.2.2.2.2.2.2.1
  have x8 : ∀ d os, (Sort.grow (redrawn w5 d) os).cell? _ = some _ := fun d os => (X4.out.drawn d os).2.2.2.2.2.2.2.2.1
  have x9 : ∀ d os, (Sort.grow (redrawn w5 d) os).cell? _ = some _ := fun d os => (X4.out.drawn d os).2.2.2.2.2.2.2.2.2.1
  have x10 : ∀ d os, (Sort.grow (redrawn w5 d) os).cell? _ = some _ := fun d os => (X4.out.drawn d os).2.2.2.2.2.2.2.2.2.2.1
  have x11 : ∀ d os, (Sort.grow (redrawn w5 d) os).cell? _ = some _ := fun d os => (X4.out.drawn d os).2.2.2.2.2.2.2.2.2.2.2
  refine wp_region_quiet_below (by assumption) (by kernel_rfl) ?_
  repeat (quiet_step (first | (go_at_call 41; with_reducible exact in_class (fun W hW => WD.out W hW)) | (go_at_call 42; with_reducible exact in_class (fun W _ => FI.out W))))
  refine wpQuiet_nil ?_
  intro w6 hw6
  have hl := of_class hw6
  have L6 := Lib.hid (L4.out.trans (hl.mono L4.out.size))
  have X6 := Lib.hid (X4.out.below hl)
  clear hl hw6 L4 X4 B4 c1 WD x0 x1 x2 x3 x4 x5 x6 x7 x8 x9 x10 x11
  have hz := add_size H FG
  generalize H ++ FG = F at *
  have fz : F.size ≤ 209 := by omega
  have f1 := add_size F R1
  have f2 := add_size (F ++ R1) R2
  have k1 := cat F R1 (by omega) (by omega)
  have k2 := cat (F ++ R1) R2 (by omega) (by omega)
  have k3 := cat (F ++ R1 ++ R2) R3 (by omega) (by omega)
  clear f1 f2 hz
  obtain ⟨x0, x1, x2, x3, x4, x5, x6, x7, x8, x9, x10, x11⟩ := X6.out
  go_wp2
  clear x0 x1 x2 x3 x4 x5 x6 x7 x8 x9 x10 x11 X6
  go_loopw [5, 41] (fun s i wr => Lp F R1 R2 R3 s i ∧ Hid (Below w.heap.size w wr)) (fun _ i _ => 3 - (intOf i).toNat)
  case atStart => exact ⟨Or.inl ⟨rfl, rfl⟩, L6.out⟩
  case round =>
    clear L6
    obtain ⟨HK, HL⟩ := hrel
    have ix0 := at0 A1 A2 A3 n1 c1 n2 c2 n3 c3
    have ix1 := at1' A1 A2 A3 n1 c1 n2 c2 n3 c3
    have ix2 := at2' A1 A2 A3 n1 c1 n2 c2 n3 c3
    rcases HK with ⟨rfl, rfl⟩ | ⟨rfl, rfl⟩ | ⟨rfl, rfl⟩ | ⟨rfl, rfl⟩
    · go_wp2_with fail
      refine (T1.out wr HL.out).mono ?_
      rintro e w7 ⟨rfl, hl⟩
      have L7 := Lib.hid (HL.out.trans (hl.mono HL.out.size))
      clear hl HL
      go_wp2
      go_roundw
      case rel => exact ⟨Or.inr (Or.inl ⟨by first | rfl | go_num, rfl⟩), L7.out⟩
      case measure => simp [intOf]
    · go_wp2_with fail
      refine (T2.out wr HL.out).mono ?_
      rintro e w7 ⟨rfl, hl⟩
      have L7 := Lib.hid (HL.out.trans (hl.mono HL.out.size))
      clear hl HL
      go_wp2
      go_roundw
      case rel => exact ⟨Or.inr (Or.inr (Or.inl ⟨by first | rfl | go_num, rfl⟩)), L7.out⟩
      case measure => simp [intOf]
    · go_wp2_with fail
      refine (T3.out wr HL.out).mono ?_
      rintro e w7 ⟨rfl, hl⟩
      have L7 := Lib.hid (HL.out.trans (hl.mono HL.out.size))
      clear hl HL
      go_wp2
      go_roundw
      case rel => exact ⟨Or.inr (Or.inr (Or.inr ⟨by first | rfl | go_num, rfl⟩)), L7.out⟩
      case measure => simp [intOf]
    · go_wp2
      go_ret
      exact ⟨by rw [← HFG.out]; rfl, HL.out⟩

theorem impl (h : Hd) (A1 : Option Addr) (n1 c1 : Nat) (l1 : List Rec) (A2 : Option Addr) (n2 c2 : Nat) (l2 : List Rec) (A3 : Option Addr) (n3 c3 : Nat) (l3 : List Rec) (w : World) (he : Env w) (ht : Tab w) (hq : h.qn.size ≤ 400000000) (s1 : Sr w w.heap.size A1 n1 l1) (b1 : n1 ≤ 400000000) (m1 : Mods l1) (s2 : Sr w w.heap.size A2 n2 l2) (b2 : n2 ≤ 400000000) (m2 : Mods l2) (s3 : Sr w w.heap.size A3 n3 l3) (b3 : n3 ≤ 400000000) (m3 : Mods l3) : Calls Tryz.prog 16 #[.agg #[.int .i64 h.id, .bool h.rp, .bool h.au, .bool h.ct, .bool h.wa, .bool h.ca, .int .i64 h.code, .string h.qn, .int .i64 h.qt, .slice A1 n1 c1, .slice A2 n2 c2, .slice A3 n3 c3]] w fun e w' => e = .returned (.string (mtx h l1 l2 l3)) ∧ Below w.heap.size w w' := by
  cases hk : mok h l1 l2 l3
  · rw [show mtx h l1 l2 l3 = ⟨#[]⟩ from if_neg (by rw [hk]; simp)]
    exact impl_bad h.id h.code h.rp h.au h.ct h.wa h.ca h.qn h.qt A1 n1 c1 l1 A2 n2 c2 l2 A3 n3 c3 l3 w he ht hq s1 b1 m1 s2 b2 m2 s3 b3 m3 hk
  · rw [show mtx h l1 l2 l3 = fc (fa (hx h.rp h.id h.code h.qn h.qt) h.au) h.ct ++ rts l1 ++ rts l2 ++ rts l3 from if_pos hk]
    exact impl_good h.id h.code h.rp h.au h.ct h.wa h.ca h.qn h.qt A1 n1 c1 l1 A2 n2 c2 l2 A3 n3 c3 l3 w he ht hq s1 b1 m1 s2 b2 m2 s3 b3 m3 hk

end Go.Proofs.YtlakegeabnjegaaGreatDoor.TxtM

/- What SameRecords does in the program and in the model: whether two lists of records are equal in all fields of all records. Condition: fewer than 400000001 records. -/
namespace Go.Proofs.YtlakegeabnjegaaGreatDoor.SameR
open Go.RowKit Go.Proofs.YtlakegeabnjegaaGreatDoor.Mem Go.Proofs.YtlakegeabnjegaaGreatDoor.MemR

/-- Whether two lists of records are equal. A def, so that no step of a walk opens it. -/
noncomputable def sm (l m : List Rec) : Bool := @decide (l = m) (Classical.propDecidable _)
theorem sm_true {l m : List Rec} (h : l = m) : sm l m = true := @decide_eq_true _ (Classical.propDecidable _) h
theorem sm_false {l m : List Rec} (h : l ≠ m) : sm l m = false := @decide_eq_false _ (Classical.propDecidable _) h
theorem bytes_ne {a b : ByteArray} (h : a ≠ b) : (a.toList == b.toList) = false := by
  cases e : (a.toList == b.toList) with
  | false => rfl
  | true =>
    have := eq_of_beq e
    rw [ByteArray.toList_eq, ByteArray.toList_eq] at this
    exact absurd (by cases a; cases b; congr; exact Array.toList_inj.1 this) h
theorem neq_same (r : Rec) (w : World) : Sem.run Tryz.prog (binOp .neq 73 (.agg #[.string r.name, .int .i64 r.ty, .int .i64 r.ttl, .int .i64 r.n, .string r.host, .string r.text]) (.agg #[.string r.name, .int .i64 r.ty, .int .i64 r.ttl, .int .i64 r.n, .string r.host, .string r.text])) w = .ok (.bool false) w := by
  have u3 := Tryz.underlying3
  have a3 := Tryz.isAgg3
  have z3 := Tryz.sizeOf3
  have u9 := Tryz.underlying9
  have a9 := Tryz.isAgg9
  have z9 := Tryz.sizeOf9
  have hS : Tryz.prog.underlying 73 = some (.struct (Tryz.prog.fieldsOf 73)) := by kernel_rfl
  have hp : Tryz.prog.stoodInHeld 73 = false := by kernel_rfl
  rw [run_neq_struct, show (10000 : Nat) = 9999 + 1 from rfl, run_equalIn_agg w 9999 73 _ _ hS hp]
  simp only [Program.fieldsOf, Tryz.underlying73]
  go_simp

theorem neq_diff {r s : Rec} (h : r ≠ s) (w : World) : Sem.run Tryz.prog (binOp .neq 73 (.agg #[.string r.name, .int .i64 r.ty, .int .i64 r.ttl, .int .i64 r.n, .string r.host, .string r.text]) (.agg #[.string s.name, .int .i64 s.ty, .int .i64 s.ttl, .int .i64 s.n, .string s.host, .string s.text])) w = .ok (.bool true) w := by
  have u3 := Tryz.underlying3
  have a3 := Tryz.isAgg3
  have z3 := Tryz.sizeOf3
  have u9 := Tryz.underlying9
  have a9 := Tryz.isAgg9
  have z9 := Tryz.sizeOf9
  have hS : Tryz.prog.underlying 73 = some (.struct (Tryz.prog.fieldsOf 73)) := by kernel_rfl
  have hp : Tryz.prog.stoodInHeld 73 = false := by kernel_rfl
  rw [run_neq_struct, show (10000 : Nat) = 9999 + 1 from rfl, run_equalIn_agg w 9999 73 _ _ hS hp]
  simp only [Program.fieldsOf, Tryz.underlying73]
  obtain ⟨n1, t1, l1, m1, h1, x1⟩ := r
  obtain ⟨n2, t2, l2, m2, h2, x2⟩ := s
  simp only
  by_cases c0 : n1 = n2
  · subst c0
    by_cases c1 : t1 = t2
    · subst c1
      by_cases c2 : l1 = l2
      · subst c2
        by_cases c3 : m1 = m2
        · subst c3
          by_cases c4 : h1 = h2
          · subst c4
            by_cases c5 : x1 = x2
            · subst c5; exact absurd rfl h
            · have k := bytes_ne c5
              go_simp
          · have k := bytes_ne c4
            go_simp
        · go_simp
      · go_simp
    · go_simp
  · have k := bytes_ne c0
    go_simp

theorem grd : Tryz.prog.eqGuardType Tryz.prog.depth 73 = false := by kernel_rfl

theorem take_same {l m : List Rec} {k : Nat} (h : l.take k = m.take k) (h1 : k < l.length) (h2 : k < m.length) (e : l[k] = m[k]) : l.take (k + 1) = m.take (k + 1) := by
  rw [List.take_succ_eq_append_getElem h1, List.take_succ_eq_append_getElem h2, h, e]
theorem take_all {l m : List Rec} {n : Nat} (h : l.take n = m.take n) (h1 : l.length = n) (h2 : m.length = n) : l = m := by
  rwa [List.take_of_length_le (by omega), List.take_of_length_le (by omega)] at h
theorem at_diff {l m : List Rec} {k : Nat} (h1 : k < l.length) (h2 : k < m.length) (e : l[k] ≠ m[k]) : l ≠ m := fun h => by subst h; exact e rfl

set_option maxHeartbeats 1000000 in
theorem recs (A A' : Option Addr) (n c n' c' : Nat) (l m : List Rec) (w : World) (hs : Sr w w.heap.size A n l) (hs' : Sr w w.heap.size A' n' m) (hn : n ≤ 400000000) (hn' : n' ≤ 400000000) :
    Calls Tryz.prog 27 #[.slice A n c, .slice A' n' c'] w fun e w' => e = .returned (.bool (sm l m)) ∧ Below w.heap.size w w' := by
  have mixed : Tryz.prog.follows .mixedOrders = true := by kernel_rfl
  have hg := grd
  have HS := Lib.hid hs
  have HT := Lib.hid hs'
  clear hs hs'
  by_cases hnn : n = n'
  · obtain rfl := hnn
    have hd : ((n : Int) != (n : Int)) = false := by simp
    go_enter Tryz.func27, Tryz.ntmps27
    go_wp2
    go_loopw [5] (fun i wr => ∃ k : Nat, k ≤ n ∧ i = .int .i64 k ∧ Hid (∃ q, wr = w.drewN q) ∧ Hid (l.take k = m.take k)) (fun i _ => n - (intOf i).toNat)
    case atStart => exact ⟨0, Nat.zero_le _, rfl, ⟨0, rfl⟩, rfl⟩
    case round =>
      obtain ⟨k, hk, rfl, HW, HK⟩ := hrel
      obtain ⟨q, rfl⟩ := HW.out
      clear HW
      by_cases hlt : k < n
      · obtain ⟨b, off, rfl, hbB, hcs⟩ := HS.out.2 (by omega)
        obtain ⟨b', off', rfl, hbB', hcs'⟩ := HT.out.2 (by omega)
        have hkl : k < l.length := by rw [HS.out.1]; exact hlt
        have hkm : k < m.length := by rw [HT.out.1]; exact hlt
        obtain ⟨e0, e1, e2, e3, e4, e5⟩ := hcs k hkl
        obtain ⟨f0, f1, f2, f3, f4, f5⟩ := hcs' k hkm
        clear hcs hcs'
        by_cases hrs : l[k] = m[k]
        · have HN := Lib.hid (take_same HK.out hkl hkm hrs)
          rw [← hrs] at f0 f1 f2 f3 f4 f5
          clear hrs
          generalize l[k] = r at *
          have hq := neq_same r
          go_wp2
          go_quiet (fail)
          clear hq e0 e1 e2 e3 e4 e5 f0 f1 f2 f3 f4 f5
          go_wp2
          go_roundw
          case rel => exact ⟨k + 1, by omega, by go_num, ⟨_, rfl⟩, HN.out⟩
          case measure => simp [intOf]; omega
        · have HN := Lib.hid (sm_false (at_diff hkl hkm hrs))
          have hq := neq_diff hrs
          clear hrs
          generalize l[k] = r at *
          generalize m[k] = s at *
          go_wp2
          go_quiet (fail)
          clear hq e0 e1 e2 e3 e4 e5 f0 f1 f2 f3 f4 f5
          go_wp2
          go_ret
          exact ⟨by rw [HN.out]; rfl, (drewN_below w q _).trans (drewN_below _ _ _)⟩
      · obtain rfl : n = k := by omega
        have HN := Lib.hid (sm_true (take_all HK.out HS.out.1 HT.out.1))
        go_wp2
        go_ret
        exact ⟨by rw [HN.out]; rfl, drewN_below _ _ _⟩
  · have hd : ((n : Int) != (n' : Int)) = true := by rw [bne_iff_ne]; omega
    have HN := Lib.hid (sm_false (l := l) (m := m) (fun h => hnn (by rw [← HS.out.1, ← HT.out.1, h])))
    clear hnn
    go_enter Tryz.func27, Tryz.ntmps27
    go_wp2
    go_ret
    exact ⟨by rw [HN.out]; rfl, Below.refl _ _⟩

set_option maxHeartbeats 1000000 in
theorem equal (A A' : Option Addr) (n c n' c' : Nat) (l m : List Rec) (w : World) (hs : Sr w w.heap.size A n l) (hs' : Sr w w.heap.size A' n' m) (hn : n ≤ 400000000) (hn' : n' ≤ 400000000) :
    Calls Tryz.prog 56 #[.slice A n c, .slice A' n' c'] w fun e w' => e = .returned (.bool (sm l m)) ∧ Below w.heap.size w w' := by
  have mixed : Tryz.prog.follows .mixedOrders = true := by kernel_rfl
  have hg := grd
  have HS := Lib.hid hs
  have HT := Lib.hid hs'
  clear hs hs'
  by_cases hnn : n = n'
  · obtain rfl := hnn
    have hd : ((n : Int) != (n : Int)) = false := by simp
    go_enter Tryz.func56, Tryz.ntmps56
    go_wp2
    go_loopw [13] (fun i wr => ∃ k : Nat, k ≤ n ∧ i = .int .i64 k ∧ Hid (∃ q, wr = w.drewN q) ∧ Hid (l.take k = m.take k)) (fun i _ => n - (intOf i).toNat)
    case atStart => exact ⟨0, Nat.zero_le _, rfl, ⟨0, rfl⟩, rfl⟩
    case round =>
      obtain ⟨k, hk, rfl, HW, HK⟩ := hrel
      obtain ⟨q, rfl⟩ := HW.out
      clear HW
      by_cases hlt : k < n
      · obtain ⟨b, off, rfl, hbB, hcs⟩ := HS.out.2 (by omega)
        obtain ⟨b', off', rfl, hbB', hcs'⟩ := HT.out.2 (by omega)
        have hkl : k < l.length := by rw [HS.out.1]; exact hlt
        have hkm : k < m.length := by rw [HT.out.1]; exact hlt
        obtain ⟨e0, e1, e2, e3, e4, e5⟩ := hcs k hkl
        obtain ⟨f0, f1, f2, f3, f4, f5⟩ := hcs' k hkm
        clear hcs hcs'
        by_cases hrs : l[k] = m[k]
        · have HN := Lib.hid (take_same HK.out hkl hkm hrs)
          rw [← hrs] at f0 f1 f2 f3 f4 f5
          clear hrs
          generalize l[k] = r at *
          have hq := neq_same r
          go_wp2
          go_quiet (fail)
          clear hq e0 e1 e2 e3 e4 e5 f0 f1 f2 f3 f4 f5
          go_wp2
          go_roundw
          case rel => exact ⟨k + 1, by omega, by go_num, ⟨_, rfl⟩, HN.out⟩
          case measure => simp [intOf]; omega
        · have HN := Lib.hid (sm_false (at_diff hkl hkm hrs))
          have hq := neq_diff hrs
          clear hrs
          generalize l[k] = r at *
          generalize m[k] = s at *
          go_wp2
          go_quiet (fail)
          clear hq e0 e1 e2 e3 e4 e5 f0 f1 f2 f3 f4 f5
          go_wp2
          go_ret
          exact ⟨by rw [HN.out]; rfl, (drewN_below w q _).trans (drewN_below _ _ _)⟩
      · obtain rfl : n = k := by omega
        have HN := Lib.hid (sm_true (take_all HK.out HS.out.1 HT.out.1))
        go_wp2
        go_ret
        exact ⟨by rw [HN.out]; rfl, drewN_below _ _ _⟩
  · have hd : ((n : Int) != (n' : Int)) = true := by rw [bne_iff_ne]; omega
    have HN := Lib.hid (sm_false (l := l) (m := m) (fun h => hnn (by rw [← HS.out.1, ← HT.out.1, h])))
    clear hnn
    go_enter Tryz.func56, Tryz.ntmps56
    go_wp2
    go_ret
    exact ⟨by rw [HN.out]; rfl, Below.refl _ _⟩

theorem impl (A A' : Option Addr) (n c n' c' : Nat) (l m : List Rec) (w : World) (hs : Sr w w.heap.size A n l) (hs' : Sr w w.heap.size A' n' m) (hn : n ≤ 400000000) (hn' : n' ≤ 400000000) :
    Calls Tryz.prog 30 #[.slice A n c, .slice A' n' c'] w fun e w' => e = .returned (.bool (sm l m)) ∧ Below w.heap.size w w' := by
  have E := Lib.hid (equal A A' n c n' c' l m w hs hs' hn hn')
  clear hs hs'
  go_enter Tryz.func30, Tryz.ntmps30
  go_wp2_with fail
  refine E.out.mono ?_
  rintro e w1 ⟨rfl, hl⟩
  have L := Lib.hid hl
  clear hl
  go_wp2
  go_ret
  exact ⟨rfl, L.out⟩

end Go.Proofs.YtlakegeabnjegaaGreatDoor.SameR

/- What the program's messageOf does: the same fields in another struct; and the sections of it by number. No condition. -/
namespace Go.Proofs.YtlakegeabnjegaaGreatDoor.OfM
open Go.RowKit Go.Proofs.YtlakegeabnjegaaGreatDoor.Mem Go.Proofs.YtlakegeabnjegaaGreatDoor.MemR Go.Proofs.YtlakegeabnjegaaGreatDoor.MemM Go.Proofs.YtlakegeabnjegaaGreatDoor.ResM

set_option maxHeartbeats 2000000 in
theorem ofI (h : Hd) (A1 A2 A3 : Option Addr) (n1 c1 n2 c2 n3 c3 : Nat) (w : World) : Calls Tryz.prog 29 #[.agg #[.int .i64 h.id, .bool h.rp, .bool h.au, .bool h.ct, .bool h.wa, .bool h.ca, .int .i64 h.code, .string h.qn, .int .i64 h.qt, .slice A1 n1 c1, .slice A2 n2 c2, .slice A3 n3 c3]] w fun e w' => e = .returned (.agg #[.int .i64 h.id, .bool h.rp, .bool h.au, .bool h.ct, .bool h.wa, .bool h.ca, .int .i64 h.code, .string h.qn, .int .i64 h.qt, .slice A1 n1 c1, .slice A2 n2 c2, .slice A3 n3 c3]) ∧ Below w.heap.size w w' := by
  go_enter Tryz.func29, Tryz.ntmps29
  go_wp2
  refine bodyPost_ret (v := .agg #[.int .i64 h.id, .bool h.rp, .bool h.au, .bool h.ct, .bool h.wa, .bool h.ca, .int .i64 h.code, .string h.qn, .int .i64 h.qt, .slice A1 n1 c1, .slice A2 n2 c2, .slice A3 n3 c3]) (by simp [results, Tryz.results29, go_sem]) rfl ⟨rfl, ?_⟩
  repeat (first | exact Below.refl _ _ | refine Below.setCell ?_ (by simp; try omega) _ | refine Below.alloc ?_ (by simp; try omega) _)

theorem at0 (A1 A2 A3 : Option Addr) (n1 c1 n2 c2 n3 c3 : Nat) (W : World) : Sem.run Tryz.prog (Instr.index 52 (.agg #[.slice A1 n1 c1, .slice A2 n2 c2, .slice A3 n3 c3]) (.int .i64 0)) W = .ok (.slice A1 n1 c1) W := by
  simp [Instr.index, go_sem]

theorem at1' (A1 A2 A3 : Option Addr) (n1 c1 n2 c2 n3 c3 : Nat) (W : World) : Sem.run Tryz.prog (Instr.index 52 (.agg #[.slice A1 n1 c1, .slice A2 n2 c2, .slice A3 n3 c3]) (.int .i64 1)) W = .ok (.slice A2 n2 c2) W := by
  simp [Instr.index, go_sem]

theorem at2' (A1 A2 A3 : Option Addr) (n1 c1 n2 c2 n3 c3 : Nat) (W : World) : Sem.run Tryz.prog (Instr.index 52 (.agg #[.slice A1 n1 c1, .slice A2 n2 c2, .slice A3 n3 c3]) (.int .i64 2)) W = .ok (.slice A3 n3 c3) W := by
  simp [Instr.index, go_sem]

end Go.Proofs.YtlakegeabnjegaaGreatDoor.OfM

/- What SameMsg does in the program and in the model: whether two messages are equal in all fields and all records. Condition: fewer than 400000001 records in each section. -/
namespace Go.Proofs.YtlakegeabnjegaaGreatDoor.SamM
open Go.RowKit Go.Proofs.YtlakegeabnjegaaGreatDoor.Mem Go.Proofs.YtlakegeabnjegaaGreatDoor.MemR Go.Proofs.YtlakegeabnjegaaGreatDoor.BoxR Go.Proofs.YtlakegeabnjegaaGreatDoor.MemM Go.Proofs.YtlakegeabnjegaaGreatDoor.ResM Go.Proofs.YtlakegeabnjegaaGreatDoor.SameR Go.Proofs.YtlakegeabnjegaaGreatDoor.OfM

/-- Whether two messages are equal but for the records, field by field. -/
def hid7 (h k : Hd) : Prop := h.id = k.id ∧ h.rp = k.rp ∧ h.au = k.au ∧ h.ct = k.ct ∧ h.wa = k.wa ∧ h.ca = k.ca ∧ h.code = k.code
noncomputable def hm (h k : Hd) : Bool := @decide (hid7 h k) (Classical.propDecidable _)
noncomputable def qm (h k : Hd) : Bool := @decide (h.qn = k.qn ∧ h.qt = k.qt) (Classical.propDecidable _)
/-- Whether two messages are the same. A def, so that no step of a walk opens it. -/
noncomputable def smm (h k : Hd) (l1 l2 l3 m1 m2 m3 : List Rec) : Bool := hm h k && (qm h k && (sm l1 m1 && (sm l2 m2 && sm l3 m3)))
theorem hm_true {h k : Hd} (e : hid7 h k) : hm h k = true := @decide_eq_true _ (Classical.propDecidable _) e
theorem hm_false {h k : Hd} (e : ¬ hid7 h k) : hm h k = false := @decide_eq_false _ (Classical.propDecidable _) e
theorem qm_true {h k : Hd} (e : h.qn = k.qn ∧ h.qt = k.qt) : qm h k = true := @decide_eq_true _ (Classical.propDecidable _) e
theorem qm_false {h k : Hd} (e : ¬ (h.qn = k.qn ∧ h.qt = k.qt)) : qm h k = false := @decide_eq_false _ (Classical.propDecidable _) e

theorem neqH_same (h : Hd) (w : World) : Sem.run Tryz.prog (binOp .neq 51 (.agg #[.int .i64 h.id, .bool h.rp, .bool h.au, .bool h.ct, .bool h.wa, .bool h.ca, .int .i64 h.code]) (.agg #[.int .i64 h.id, .bool h.rp, .bool h.au, .bool h.ct, .bool h.wa, .bool h.ca, .int .i64 h.code])) w = .ok (.bool false) w := by
  have u3 := Tryz.underlying3
  have a3 := Tryz.isAgg3
  have z3 := Tryz.sizeOf3
  have u4 := Tryz.underlying4
  have a4 := Tryz.isAgg4
  have z4 := Tryz.sizeOf4
  have hS : Tryz.prog.underlying 51 = some (.struct (Tryz.prog.fieldsOf 51)) := by kernel_rfl
  have hp : Tryz.prog.stoodInHeld 51 = false := by kernel_rfl
  rw [run_neq_struct, show (10000 : Nat) = 9999 + 1 from rfl, run_equalIn_agg w 9999 51 _ _ hS hp]
  simp only [Program.fieldsOf, Tryz.underlying51]
  go_simp

theorem neqH_diff {h k : Hd} (e : ¬ hid7 h k) (w : World) : Sem.run Tryz.prog (binOp .neq 51 (.agg #[.int .i64 h.id, .bool h.rp, .bool h.au, .bool h.ct, .bool h.wa, .bool h.ca, .int .i64 h.code]) (.agg #[.int .i64 k.id, .bool k.rp, .bool k.au, .bool k.ct, .bool k.wa, .bool k.ca, .int .i64 k.code])) w = .ok (.bool true) w := by
  have u3 := Tryz.underlying3
  have a3 := Tryz.isAgg3
  have z3 := Tryz.sizeOf3
  have u4 := Tryz.underlying4
  have a4 := Tryz.isAgg4
  have z4 := Tryz.sizeOf4
  have hS : Tryz.prog.underlying 51 = some (.struct (Tryz.prog.fieldsOf 51)) := by kernel_rfl
  have hp : Tryz.prog.stoodInHeld 51 = false := by kernel_rfl
  rw [run_neq_struct, show (10000 : Nat) = 9999 + 1 from rfl, run_equalIn_agg w 9999 51 _ _ hS hp]
  simp only [Program.fieldsOf, Tryz.underlying51]
  obtain ⟨i1, p1, q1, r1, s1, t1, d1, _, _⟩ := h
  obtain ⟨i2, p2, q2, r2, s2, t2, d2, _, _⟩ := k
  unfold hid7 at e
  simp only at e ⊢
  by_cases c0 : i1 = i2
  · subst c0
    by_cases c1 : p1 = p2
    · subst c1
      by_cases c2 : q1 = q2
      · subst c2
        by_cases c3 : r1 = r2
        · subst c3
          by_cases c4 : s1 = s2
          · subst c4
            by_cases c5 : t1 = t2
            · subst c5
              by_cases c6 : d1 = d2
              · exact absurd ⟨rfl, rfl, rfl, rfl, rfl, rfl, c6⟩ e
              · go_simp
            · have k := beq_eq_false_iff_ne.2 c5
              go_simp
          · have k := beq_eq_false_iff_ne.2 c4
            go_simp
        · have k := beq_eq_false_iff_ne.2 c3
          go_simp
      · have k := beq_eq_false_iff_ne.2 c2
        go_simp
    · have k := beq_eq_false_iff_ne.2 c1
      go_simp
  · go_simp

theorem neqQ_same (s : ByteArray) (n : Int) (w : World) : Sem.run Tryz.prog (binOp .neq 25 (.agg #[.string s, .int .i64 n]) (.agg #[.string s, .int .i64 n])) w = .ok (.bool false) w := by
  have u3 := Tryz.underlying3
  have a3 := Tryz.isAgg3
  have z3 := Tryz.sizeOf3
  have u9 := Tryz.underlying9
  have a9 := Tryz.isAgg9
  have z9 := Tryz.sizeOf9
  have hS : Tryz.prog.underlying 25 = some (.struct (Tryz.prog.fieldsOf 25)) := by kernel_rfl
  have hp : Tryz.prog.stoodInHeld 25 = false := by kernel_rfl
  rw [run_neq_struct, show (10000 : Nat) = 9999 + 1 from rfl, run_equalIn_agg w 9999 25 _ _ hS hp]
  simp only [Program.fieldsOf, Tryz.underlying25]
  go_simp

theorem neqQ_diff {s t : ByteArray} {n m : Int} (e : ¬ (s = t ∧ n = m)) (w : World) : Sem.run Tryz.prog (binOp .neq 25 (.agg #[.string s, .int .i64 n]) (.agg #[.string t, .int .i64 m])) w = .ok (.bool true) w := by
  have u3 := Tryz.underlying3
  have a3 := Tryz.isAgg3
  have z3 := Tryz.sizeOf3
  have u9 := Tryz.underlying9
  have a9 := Tryz.isAgg9
  have z9 := Tryz.sizeOf9
  have hS : Tryz.prog.underlying 25 = some (.struct (Tryz.prog.fieldsOf 25)) := by kernel_rfl
  have hp : Tryz.prog.stoodInHeld 25 = false := by kernel_rfl
  rw [run_neq_struct, show (10000 : Nat) = 9999 + 1 from rfl, run_equalIn_agg w 9999 25 _ _ hS hp]
  simp only [Program.fieldsOf, Tryz.underlying25]
  by_cases c0 : s = t
  · subst c0
    by_cases c1 : n = m
    · exact absurd ⟨rfl, c1⟩ e
    · go_simp
  · have k := bytes_ne c0
    go_simp

theorem eqlQ_same (s : ByteArray) (n : Int) (w : World) : Sem.run Tryz.prog (binOp .eql 25 (.agg #[.string s, .int .i64 n]) (.agg #[.string s, .int .i64 n])) w = .ok (.bool true) w := by
  have u3 := Tryz.underlying3
  have a3 := Tryz.isAgg3
  have z3 := Tryz.sizeOf3
  have u9 := Tryz.underlying9
  have a9 := Tryz.isAgg9
  have z9 := Tryz.sizeOf9
  have hS : Tryz.prog.underlying 25 = some (.struct (Tryz.prog.fieldsOf 25)) := by kernel_rfl
  have hp : Tryz.prog.stoodInHeld 25 = false := by kernel_rfl
  rw [run_eql_struct, show (10000 : Nat) = 9999 + 1 from rfl, run_equalIn_agg w 9999 25 _ _ hS hp]
  simp only [Program.fieldsOf, Tryz.underlying25]
  go_simp

theorem eqlQ_diff {s t : ByteArray} {n m : Int} (e : ¬ (s = t ∧ n = m)) (w : World) : Sem.run Tryz.prog (binOp .eql 25 (.agg #[.string s, .int .i64 n]) (.agg #[.string t, .int .i64 m])) w = .ok (.bool false) w := by
  have u3 := Tryz.underlying3
  have a3 := Tryz.isAgg3
  have z3 := Tryz.sizeOf3
  have u9 := Tryz.underlying9
  have a9 := Tryz.isAgg9
  have z9 := Tryz.sizeOf9
  have hS : Tryz.prog.underlying 25 = some (.struct (Tryz.prog.fieldsOf 25)) := by kernel_rfl
  have hp : Tryz.prog.stoodInHeld 25 = false := by kernel_rfl
  rw [run_eql_struct, show (10000 : Nat) = 9999 + 1 from rfl, run_equalIn_agg w 9999 25 _ _ hS hp]
  simp only [Program.fieldsOf, Tryz.underlying25]
  by_cases c0 : s = t
  · subst c0
    by_cases c1 : n = m
    · exact absurd ⟨rfl, c1⟩ e
    · go_simp
  · have k := bytes_ne c0
    go_simp

theorem grdH : Tryz.prog.eqGuardType Tryz.prog.depth 51 = false := by kernel_rfl
theorem grdQ : Tryz.prog.eqGuardType Tryz.prog.depth 25 = false := by kernel_rfl

theorem smm_h {h k : Hd} {l1 l2 l3 m1 m2 m3 : List Rec} (e : ¬ hid7 h k) : smm h k l1 l2 l3 m1 m2 m3 = false := by rw [smm, hm_false e]; rfl
theorem smm_q {h k : Hd} {l1 l2 l3 m1 m2 m3 : List Rec} (e : ¬ (h.qn = k.qn ∧ h.qt = k.qt)) : smm h k l1 l2 l3 m1 m2 m3 = false := by rw [smm, qm_false e, Bool.false_and, Bool.and_false]
theorem smm_r {h : Hd} {l1 l2 l3 m1 m2 m3 : List Rec} : smm h h l1 l2 l3 m1 m2 m3 = (sm l1 m1 && (sm l2 m2 && sm l3 m3)) := by rw [smm, hm_true ⟨rfl, rfl, rfl, rfl, rfl, rfl, rfl⟩, qm_true ⟨rfl, rfl⟩]; rfl
end Go.Proofs.YtlakegeabnjegaaGreatDoor.SamM
