/- What RecordText does in the program and in the model: the words of a valid record, and the empty text for an invalid one. Conditions: at most 400000000 bytes in each text; for the program: the library's variable internal/bytealg.MaxLen holds an int, and its table of powers of ten reads as its text lays it. -/
import Derived.Test.YtbjhkhmhmldjoaaDoorRecOk
import Derived.Test.YtbjhkhmhmldjoaaDoorTypes
import Derived.Test.YtbjhkhmhmldjoaaDoorNum
import Derived.Test.YtbjhkhmhmldjoaaDoorJoin
import Derived.Lib.ItoaLen
namespace Go.Proofs.YtbjhkhmhmldjoaaDoor.RecText
open Go.RowKit Go.Proofs.YtbjhkhmhmldjoaaDoor.Mem Go.Proofs.YtbjhkhmhmldjoaaDoor.MemS Go.Proofs.YtbjhkhmhmldjoaaDoor.MemR Go.Proofs.YtbjhkhmhmldjoaaDoor.Labels Go.Proofs.YtbjhkhmhmldjoaaDoor.NameOk Go.Proofs.YtbjhkhmhmldjoaaDoor.TextR Go.Proofs.YtbjhkhmhmldjoaaDoor.BoxR Go.Proofs.YtbjhkhmhmldjoaaDoor.RecOk Go.Proofs.YtbjhkhmhmldjoaaDoor.Types Go.Proofs.YtbjhkhmhmldjoaaDoor.Num

/-- A name as it is written. -/
def dot (s : ByteArray) : ByteArray := if s.size = 0 then ⟨#[46]⟩ else s
/-- The data of a record as they are written. -/
def dtx (ty n : Int) (host text : ByteArray) : ByteArray :=
  if ty = 1 then Txt n else if ty = 2 ∨ ty = 5 then dot host else if ty = 6 then dot host ++ ⟨#[32]⟩ ++ Txt n else if ty = 16 then ⟨#[39]⟩ ++ text else ⟨#[]⟩
/-- What stands ahead of the data. -/
def pre (r : Rec) : ByteArray := dot r.name ++ ⟨#[32]⟩ ++ Txt r.ttl ++ ⟨#[32]⟩ ++ tt r.ty ++ ⟨#[32]⟩
/-- A record as it is written. A def, so that no step of a walk opens it. -/
def rtx (r : Rec) : ByteArray := if rok r = true then pre r ++ dtx r.ty r.n r.host r.text else ⟨#[]⟩
theorem dtx_1 (n : Int) (h t : ByteArray) : dtx 1 n h t = Txt n := rfl
theorem dtx_2 (n : Int) (h t : ByteArray) : dtx 2 n h t = dot h := rfl
theorem dtx_5 (n : Int) (h t : ByteArray) : dtx 5 n h t = dot h := rfl
theorem dtx_6 (n : Int) (h t : ByteArray) : dtx 6 n h t = dot h ++ ⟨#[32]⟩ ++ Txt n := rfl
theorem dtx_16 (n : Int) (h t : ByteArray) : dtx 16 n h t = ⟨#[39]⟩ ++ t := rfl
theorem add_assoc (a b c : ByteArray) : a ++ b ++ c = a ++ (b ++ c) := text_ext (by simp)

theorem add_size (a b : ByteArray) : (a ++ b).size = a.size + b.size := ByteArray.size_append
theorem dot_size (s : ByteArray) : (dot s).size ≤ s.size + 1 := by
  unfold dot
  by_cases h : s.size = 0
  · rw [if_pos h]; show 1 ≤ _; omega
  · rw [if_neg h]; omega
theorem txt_size {n : Int} (h0 : 0 ≤ n) (h1 : n ≤ 2147483647) : (Txt n).size ≤ 21 := by
  have := Lib.itoa_length_le n (by omega) (by omega)
  show (Lib.itoa n).toArray.size ≤ 21
  simpa using this
theorem tt_size (n : Int) : (tt n).size ≤ 6 := by
  unfold tt
  by_cases h1 : n = 1
  · rw [if_pos h1]; decide
  rw [if_neg h1]
  by_cases h2 : n = 2
  · rw [if_pos h2]; decide
  rw [if_neg h2]
  by_cases h3 : n = 5
  · rw [if_pos h3]; decide
  rw [if_neg h3]
  by_cases h4 : n = 6
  · rw [if_pos h4]; decide
  rw [if_neg h4]
  by_cases h5 : n = 16
  · rw [if_pos h5]; decide
  rw [if_neg h5]; decide
theorem cat (a b : ByteArray) (ha : a.size ≤ 800000000) (hb : b.size ≤ 800000000) (w : World) : (Op.stringOp .add a b).run Tryd.prog w = .ok (.string (a ++ b)) w := run_string_add_sum w a b (by omega)
theorem one_size (x : UInt8) : (ByteArray.mk #[x]).size = 1 := rfl

theorem dtx_size (ty n : Int) (h t : ByteArray) (hn : (Txt n).size ≤ 21) (hh : h.size ≤ 50) (ht : t.size ≤ 12) : (dtx ty n h t).size ≤ 100 := by
  have d := dot_size h
  unfold dtx
  by_cases h1 : ty = 1
  · rw [if_pos h1]; omega
  rw [if_neg h1]
  by_cases h2 : ty = 2 ∨ ty = 5
  · rw [if_pos h2]; omega
  rw [if_neg h2]
  by_cases h3 : ty = 6
  · rw [if_pos h3, add_size, add_size, one_size]; omega
  rw [if_neg h3]
  by_cases h4 : ty = 16
  · rw [if_pos h4, add_size, one_size]; omega
  rw [if_neg h4]; exact Nat.zero_le _

theorem wf_of {n : Int} (h0 : 0 ≤ n) (h1 : n ≤ 2147483647) : (Lit.int .i64 n).wf = true := by
  have e1 : IntKind.i64.min = -9223372036854775808 := by decide
  have e2 : IntKind.i64.max = 9223372036854775807 := by decide
  simp [Lit.wf]
  omega
theorem nm_size {s : ByteArray} (h : Nm s = true) : s.size ≤ 50 := by
  unfold Nm at h
  simp only [Bool.and_eq_true, decide_eq_true_eq] at h
  exact h.1.2
theorem inn_of {x a b : Int} (h : inn x a b = true) : a ≤ x ∧ x ≤ b := of_decide_eq_true h
theorem nul_of {n : Int} (h : nul n = true) : n = 0 := of_decide_eq_true h
/-- What a valid record keeps to. -/
theorem rok_of {r : Rec} (h : rok r = true) : (0 ≤ r.ttl ∧ r.ttl ≤ 100000) ∧ (0 ≤ r.n ∧ r.n ≤ 2147483647) ∧ r.name.size ≤ 50 ∧ r.host.size ≤ 50 ∧ r.text.size ≤ 12 ∧ (r.ty = 1 ∨ r.ty = 2 ∨ r.ty = 5 ∨ r.ty = 6 ∨ r.ty = 16) := by
  unfold rok dko at h
  rw [Bool.and_eq_true, Bool.and_eq_true] at h
  obtain ⟨h1, h2, h3⟩ := h
  have e1 := nm_size h1
  have e2 := inn_of h2
  by_cases c1 : r.ty = 1
  · rw [if_pos c1, Bool.and_eq_true, Bool.and_eq_true] at h3
    have e3 := inn_of h3.1
    have e4 : r.host.size = 0 := of_decide_eq_true h3.2.1
    have e5 : r.text.size = 0 := of_decide_eq_true h3.2.2
    exact ⟨e2, e3, e1, by omega, by omega, Or.inl c1⟩
  · rw [if_neg c1] at h3
    by_cases c2 : r.ty = 2 ∨ r.ty = 5
    · rw [if_pos c2, Bool.and_eq_true, Bool.and_eq_true] at h3
      have e3 := nul_of h3.2.1
      have e4 := nm_size h3.1
      have e5 : r.text.size = 0 := of_decide_eq_true h3.2.2
      exact ⟨e2, by omega, e1, by omega, by omega, by omega⟩
    · rw [if_neg c2] at h3
      by_cases c6 : r.ty = 6
      · rw [if_pos c6, Bool.and_eq_true, Bool.and_eq_true] at h3
        have e3 := inn_of h3.2.1
        have e4 := nm_size h3.1
        have e5 : r.text.size = 0 := of_decide_eq_true h3.2.2
        exact ⟨e2, by omega, e1, by omega, by omega, by omega⟩
      · rw [if_neg c6] at h3
        by_cases c16 : r.ty = 16
        · rw [if_pos c16, Bool.and_eq_true, Bool.and_eq_true] at h3
          have e3 := nul_of h3.2.1
          have e4 : r.host.size = 0 := of_decide_eq_true h3.2.2
          have e5 : r.text.size ≤ 12 := by
            have := h3.1
            unfold txo at this
            simp only [Bool.and_eq_true, decide_eq_true_eq] at this
            exact this.2
          exact ⟨e2, by omega, e1, by omega, e5, by omega⟩
        · rw [if_neg c16] at h3
          cases h3

theorem dot_impl (s : ByteArray) (w : World) : Calls Tryd.prog 49 #[.string s] w fun e w' => e = .returned (.string (dot s)) ∧ w = w' := by
  by_cases h : s.size = 0
  · have HD : Hid (dot s = ⟨#[46]⟩) := if_pos h
    have k := emp_true (decide_eq_true h)
    clear h
    go_enter Tryd.func49, Tryd.ntmps49
    go_wp2
    go_ret
    exact ⟨by rw [HD.out]; rfl, rfl⟩
  · have HD : Hid (dot s = s) := if_neg h
    have k := not_empty s h
    clear h
    go_enter Tryd.func49, Tryd.ntmps49
    go_wp2
    go_ret
    exact ⟨by rw [HD.out]; rfl, rfl⟩

theorem dot_spec (s : ByteArray) (w : World) : Calls Tryd.prog 54 #[.string s] w fun e w' => e = .returned (.string (dot s)) ∧ w = w' := by
  by_cases h : s.size = 0
  · have HD : Hid (dot s = ⟨#[46]⟩) := if_pos h
    have k := emp_true (decide_eq_true h)
    clear h
    go_enter Tryd.func54, Tryd.ntmps54
    go_wp2
    go_ret
    exact ⟨by rw [HD.out]; rfl, rfl⟩
  · have HD : Hid (dot s = s) := if_neg h
    have k := not_empty s h
    clear h
    go_enter Tryd.func54, Tryd.ntmps54
    go_wp2
    go_ret
    exact ⟨by rw [HD.out]; rfl, rfl⟩
theorem same_below {P : Program} {f : FuncId} {args : Array Value} {v : Value} {w : World} (h : Calls P f args w fun e w' => e = .returned v ∧ w = w') : Calls P f args w fun e w' => e = .returned v ∧ Below w.heap.size w w' :=
  h.mono fun _ _ ⟨he, hw⟩ => ⟨he, hw ▸ Below.refl _ _⟩

set_option maxHeartbeats 4000000 in
theorem data (r : Rec) (w : World) (ht : Tab w) (hz : r.host.size ≤ 50) (hx : r.text.size ≤ 12) (h0 : 0 ≤ r.n) (h1 : r.n ≤ 2147483647) (hy : r.ty = 1 ∨ r.ty = 2 ∨ r.ty = 5 ∨ r.ty = 6 ∨ r.ty = 16) : Calls Tryd.prog 52 #[.agg #[.string r.name, .int .i64 r.ty, .int .i64 r.ttl, .int .i64 r.n, .string r.host, .string r.text]] w fun e w' => e = .returned (.string (dtx r.ty r.n r.host r.text)) ∧ Below w.heap.size w w' := by
  have mixed : Tryd.prog.follows .mixedOrders = true := by kernel_rfl
  have HT := Lib.hid ht
  clear ht
  obtain ⟨name, ty, ttl, n, host, text⟩ := r
  simp only at h0 h1 hy hz hx ⊢
  have d1 := dot_size host
  have d2 := txt_size h0 h1
  have HW := Lib.hid (wf_of h0 h1)
  have L0 := Lib.hid ((Below.refl w.heap.size w).alloc (Nat.le_refl _) (.cells #[.string name, .int .i64 ty, .int .i64 ttl, .int .i64 n, .string host, .string text] 25))
  have X0 := Lib.hid (bx_new w 25 ⟨name, ty, ttl, n, host, text⟩)
  rcases hy with rfl | rfl | rfl | rfl | rfl
  · rw [dtx_1]
    go_enter Tryd.func52, Tryd.ntmps52
    go_wp2_with fail
    refine (Num.impl n HW.out _ (HT.out.below L0.out)).mono ?_
    rintro e w1 ⟨rfl, hl⟩
    have L1 := Lib.hid (L0.out.trans (hl.mono L0.out.size))
    clear hl L0
    go_wp2
    go_ret
    exact ⟨rfl, L1.out⟩
  · rw [dtx_2]
    go_enter Tryd.func52, Tryd.ntmps52
    go_wp2_with fail
    refine (dot_impl host _).mono ?_
    rintro e w1 ⟨rfl, rfl⟩
    go_wp2
    go_ret
    exact ⟨rfl, L0.out⟩
  · rw [dtx_5]
    go_enter Tryd.func52, Tryd.ntmps52
    go_wp2_with fail
    refine (dot_impl host _).mono ?_
    rintro e w1 ⟨rfl, rfl⟩
    go_wp2
    go_ret
    exact ⟨rfl, L0.out⟩
  · rw [dtx_6]
    go_enter Tryd.func52, Tryd.ntmps52
    go_wp2_with fail
    generalize w.alloc (.cells #[.string name, .int .i64 6, .int .i64 ttl, .int .i64 n, .string host, .string text] 25) = wb at *
    have k1 := cat (dot host) ⟨#[32]⟩ (by omega) (by rw [one_size]; omega)
    have k2 := cat (dot host ++ ⟨#[32]⟩) (Txt n) (by rw [add_size, one_size]; omega) (by omega)
    have CN := Lib.hid (fun W (h : Below wb.heap.size wb W) => Num.impl n HW.out W (HT.out.below (L0.out.trans (h.mono L0.out.size))))
    have x0 : ∀ d os, (Sort.grow (redrawn wb d) os).cell? _ = some _ := fun d os => (X0.out.drawn d os).1
    have x1 : ∀ d os, (Sort.grow (redrawn wb d) os).cell? _ = some _ := fun d os => (X0.out.drawn d os).2.1
    have x2 : ∀ d os, (Sort.grow (redrawn wb d) os).cell? _ = some _ := fun d os => (X0.out.drawn d os).2.2.1
    have x3 : ∀ d os, (Sort.grow (redrawn wb d) os).cell? _ = some _ := fun d os => (X0.out.drawn d os).2.2.2.1
    have x4 : ∀ d os, (Sort.grow (redrawn wb d) os).cell? _ = some _ := fun d os => (X0.out.drawn d os).2.2.2.2.1
    have x5 : ∀ d os, (Sort.grow (redrawn wb d) os).cell? _ = some _ := fun d os => (X0.out.drawn d os).2.2.2.2.2
    refine wp_region_quiet_below (by assumption) (by kernel_rfl) ?_
    repeat (quiet_step (first | (go_at_call 49; exact in_class (fun W _ => same_below (dot_impl host W))) | (go_at_call 50; exact in_class CN.out)))
    refine wpQuiet_nil ?_
    intro w3 hw3
    have hl := of_class hw3
    have L3 := Lib.hid (L0.out.trans (hl.mono L0.out.size))
    clear hl hw3 x0 x1 x2 x3 x4 x5 CN
    go_wp2
    go_ret
    exact ⟨rfl, L3.out⟩
  · rw [dtx_16]
    have k1 := cat ⟨#[39]⟩ text (by rw [one_size]; omega) (by omega)
    go_enter Tryd.func52, Tryd.ntmps52
    go_wp2
    go_ret
    exact ⟨rfl, L0.out⟩

set_option maxHeartbeats 4000000 in
theorem spec (r : Rec) (w : World) (hr : Mod r) : Calls Tryd.prog 19 #[.agg #[.string r.name, .int .i64 r.ty, .int .i64 r.ttl, .int .i64 r.n, .string r.host, .string r.text]] w fun e w' => e = .returned (.string (rtx r)) ∧ Below w.heap.size w w' := by
  have mixed : Tryd.prog.follows .mixedOrders = true := by kernel_rfl
  have HR := Lib.hid hr
  clear hr
  have L0 := Lib.hid ((Below.refl w.heap.size w).alloc (Nat.le_refl _) (.cells #[.string r.name, .int .i64 r.ty, .int .i64 r.ttl, .int .i64 r.n, .string r.host, .string r.text] 25))
  have X0 := Lib.hid (bx_new w 25 r)
  cases hk : rok r
  · have HV : Hid (rtx r = ⟨#[]⟩) := if_neg (by rw [hk]; simp)
    have HK := Lib.hid hk
    clear hk
    go_enter Tryd.func19, Tryd.ntmps19
    go_wp2_with fail
    refine (RecOk.spec r _ HR.out).mono ?_
    rw [HK.out]
    rintro e w1 ⟨rfl, hl⟩
    have L1 := Lib.hid (L0.out.trans (hl.mono L0.out.size))
    clear hl L0 X0
    go_wp2
    go_ret
    exact ⟨by rw [HV.out]; rfl, L1.out⟩
  · have HV : Hid (rtx r = pre r ++ dtx r.ty r.n r.host r.text) := if_pos hk
    obtain ⟨⟨q0, q1⟩, ⟨q2, q3⟩, z1, z2, z3, hy⟩ := rok_of hk
    have HK := Lib.hid hk
    clear hk
    have WT := Lib.hid (wf_of q0 (by omega))
    have WN := Lib.hid (wf_of q2 q3)
    have zt := txt_size q0 (by omega)
    have zn := txt_size q2 q3
    clear q0 q1 q2 q3
    go_enter Tryd.func19, Tryd.ntmps19
    go_wp2_with fail
    refine (RecOk.spec r _ HR.out).mono ?_
    rw [HK.out]
    rintro e w1 ⟨rfl, hl⟩
    have L1 := Lib.hid (L0.out.trans (hl.mono L0.out.size))
    have X1 := Lib.hid (X0.out.below hl)
    clear hl L0 X0
    have d1 := dot_size r.name
    have d2 := dot_size r.host
    have e1 := add_size (dot r.name) ⟨#[32]⟩
    have e2 := add_size (dot r.name ++ ⟨#[32]⟩) (Txt r.ttl)
    have e3 := add_size (dot r.name ++ ⟨#[32]⟩ ++ Txt r.ttl) ⟨#[32]⟩
    have e4 := add_size (dot r.name ++ ⟨#[32]⟩ ++ Txt r.ttl ++ ⟨#[32]⟩) (tt r.ty)
    have e5 := add_size (dot r.name ++ ⟨#[32]⟩ ++ Txt r.ttl ++ ⟨#[32]⟩ ++ tt r.ty) ⟨#[32]⟩
    have s1 := one_size 32
    have d3 := tt_size r.ty
    have k1 := cat (dot r.name) ⟨#[32]⟩ (by omega) (by omega)
    have k2 := cat (dot r.name ++ ⟨#[32]⟩) (Txt r.ttl) (by omega) (by omega)
    have k3 := cat (dot r.name ++ ⟨#[32]⟩ ++ Txt r.ttl) ⟨#[32]⟩ (by omega) (by omega)
    have k4 := cat (dot r.name ++ ⟨#[32]⟩ ++ Txt r.ttl ++ ⟨#[32]⟩) (tt r.ty) (by omega) (by omega)
    have k5 := cat (dot r.name ++ ⟨#[32]⟩ ++ Txt r.ttl ++ ⟨#[32]⟩ ++ tt r.ty) ⟨#[32]⟩ (by omega) (by omega)
    have HZ : Hid ((pre r).size ≤ 200) := by show (dot r.name ++ ⟨#[32]⟩ ++ Txt r.ttl ++ ⟨#[32]⟩ ++ tt r.ty ++ ⟨#[32]⟩).size ≤ 200; omega
    clear d1 d3 e1 e2 e3 e4 e5 s1 zt z1
    go_wp2_with fail
    have x0 : ∀ d os, (Sort.grow (redrawn w1 d) os).cell? _ = some _ := fun d os => (X1.out.drawn d os).1
    have x1 : ∀ d os, (Sort.grow (redrawn w1 d) os).cell? _ = some _ := fun d os => (X1.out.drawn d os).2.1
    have x2 : ∀ d os, (Sort.grow (redrawn w1 d) os).cell? _ = some _ := fun d os => (X1.out.drawn d os).2.2.1
    have x3 : ∀ d os, (Sort.grow (redrawn w1 d) os).cell? _ = some _ := fun d os => (X1.out.drawn d os).2.2.2.1
    have x4 : ∀ d os, (Sort.grow (redrawn w1 d) os).cell? _ = some _ := fun d os => (X1.out.drawn d os).2.2.2.2.1
    have x5 : ∀ d os, (Sort.grow (redrawn w1 d) os).cell? _ = some _ := fun d os => (X1.out.drawn d os).2.2.2.2.2
    refine wp_region_quiet_below (by assumption) (by kernel_rfl) ?_
    repeat (quiet_step (first | (go_at_call 54; exact in_class (fun W _ => same_below (dot_spec r.name W))) | (go_at_call 56; exact in_class (fun W _ => same_below (spec_text r.ty W))) | (go_at_call 55; exact in_class (fun W _ => Num.spec r.ttl WT.out W))))
    refine wpQuiet_nil ?_
    intro w2 hw2
    have hl := of_class hw2
    have L2 := Lib.hid (L1.out.trans (hl.mono L1.out.size))
    have X2 := Lib.hid (X1.out.below hl)
    clear hl hw2 x0 x1 x2 x3 x4 x5 L1 X1 k1 k2 k3 k4 k5
    have HP : Hid (dot r.name ++ ⟨#[32]⟩ ++ Txt r.ttl ++ ⟨#[32]⟩ ++ tt r.ty ++ ⟨#[32]⟩ = pre r) := rfl
    generalize dot r.name ++ ⟨#[32]⟩ ++ Txt r.ttl ++ ⟨#[32]⟩ ++ tt r.ty ++ ⟨#[32]⟩ = PR at *
    have hpz : PR.size ≤ 200 := by rw [HP.out]; exact HZ.out
    obtain ⟨x0, x1, x2, x3, x4, x5⟩ := X2.out
    obtain ⟨name, ty, ttl, n, host, text⟩ := r
    simp only at *
    rcases hy with rfl | rfl | rfl | rfl | rfl
    · have HD := Lib.hid (dtx_1 n host text)
      have k1 := cat PR (Txt n) (by omega) (by omega)
      go_wp2_with fail
      refine (Num.spec n WN.out w2).mono ?_
      rintro e w3 ⟨rfl, hl⟩
      have L3 := Lib.hid (L2.out.trans (hl.mono L2.out.size))
      clear hl
      go_wp2
      go_ret
      exact ⟨by rw [HV.out, HD.out, ← HP.out]; rfl, L3.out⟩
    · have HD := Lib.hid (dtx_2 n host text)
      have k1 := cat PR (dot host) (by omega) (by omega)
      go_wp2_with fail
      refine (dot_spec host w2).mono ?_
      rintro e w3 ⟨rfl, rfl⟩
      go_wp2
      go_ret
      exact ⟨by rw [HV.out, HD.out, ← HP.out]; rfl, L2.out⟩
    · have HD := Lib.hid (dtx_5 n host text)
      have k1 := cat PR (dot host) (by omega) (by omega)
      go_wp2_with fail
      refine (dot_spec host w2).mono ?_
      rintro e w3 ⟨rfl, rfl⟩
      go_wp2
      go_ret
      exact ⟨by rw [HV.out, HD.out, ← HP.out]; rfl, L2.out⟩
    · have HD := Lib.hid (dtx_6 n host text)
      have HA := Lib.hid ((add_assoc PR (dot host ++ ⟨#[32]⟩) (Txt n)).trans (by rw [] : PR ++ (dot host ++ ⟨#[32]⟩ ++ Txt n) = PR ++ (dot host ++ ⟨#[32]⟩ ++ Txt n)))
      have HA2 := Lib.hid (add_assoc PR (dot host) ⟨#[32]⟩)
      have e1 := add_size PR (dot host)
      have e2 := add_size (PR ++ dot host) ⟨#[32]⟩
      have s1 := one_size 32
      have k1 := cat PR (dot host) (by omega) (by omega)
      have k2 := cat (PR ++ dot host) ⟨#[32]⟩ (by omega) (by omega)
      have k3 := cat (PR ++ dot host ++ ⟨#[32]⟩) (Txt n) (by omega) (by omega)
      clear e1 e2 s1 x0 x1 x2 x3 x4 x5
      have x1 := X2.out.2.1
      go_wp2_with fail
      clear x1
      have x0 : ∀ d os, (Sort.grow (redrawn w2 d) os).cell? _ = some _ := fun d os => (X2.out.drawn d os).1
      have x1 : ∀ d os, (Sort.grow (redrawn w2 d) os).cell? _ = some _ := fun d os => (X2.out.drawn d os).2.1
      have x2 : ∀ d os, (Sort.grow (redrawn w2 d) os).cell? _ = some _ := fun d os => (X2.out.drawn d os).2.2.1
      have x3 : ∀ d os, (Sort.grow (redrawn w2 d) os).cell? _ = some _ := fun d os => (X2.out.drawn d os).2.2.2.1
      have x4 : ∀ d os, (Sort.grow (redrawn w2 d) os).cell? _ = some _ := fun d os => (X2.out.drawn d os).2.2.2.2.1
      have x5 : ∀ d os, (Sort.grow (redrawn w2 d) os).cell? _ = some _ := fun d os => (X2.out.drawn d os).2.2.2.2.2
      refine wp_region_quiet_below (by assumption) (by kernel_rfl) ?_
      repeat (quiet_step (first | (go_at_call 54; exact in_class (fun W _ => same_below (dot_spec host W))) | (go_at_call 55; exact in_class (fun W _ => Num.spec n WN.out W))))
      refine wpQuiet_nil ?_
      intro w3 hw3
      have hl := of_class hw3
      have L3 := Lib.hid (L2.out.trans (hl.mono L2.out.size))
      clear hl hw3 x0 x1 x2 x3 x4 x5
      go_wp2
      go_ret
      exact ⟨by rw [HV.out, HD.out, ← HP.out, ← HA.out, ← HA2.out]; rfl, L3.out⟩
    · have HD := Lib.hid (dtx_16 n host text)
      have HA := Lib.hid (add_assoc PR ⟨#[39]⟩ text)
      have e1 := add_size PR ⟨#[39]⟩
      have s1 := one_size 39
      have k1 := cat PR ⟨#[39]⟩ (by omega) (by omega)
      have k2 := cat (PR ++ ⟨#[39]⟩) text (by omega) (by omega)
      clear e1 s1
      go_wp2
      go_ret
      exact ⟨by rw [HV.out, HD.out, ← HP.out, ← HA.out]; rfl, L2.out⟩

end Go.Proofs.YtbjhkhmhmldjoaaDoor.RecText
