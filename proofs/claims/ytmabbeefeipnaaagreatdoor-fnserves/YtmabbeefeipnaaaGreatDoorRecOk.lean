/- What RecordOk does in the program and in the model: whether a record is valid. Condition: at most 400000000 bytes in each text; for the program: the library's variable internal/bytealg.MaxLen holds an int. -/
import Derived.Test.YtmabbeefeipnaaaGreatDoorNameOk
import Derived.Test.YtmabbeefeipnaaaGreatDoorTextR
import Derived.Test.YtmabbeefeipnaaaGreatDoorBoxR
namespace Go.Proofs.YtmabbeefeipnaaaGreatDoor.RecOk
open Go.RowKit Go.Proofs.YtmabbeefeipnaaaGreatDoor.Mem Go.Proofs.YtmabbeefeipnaaaGreatDoor.MemR Go.Proofs.YtmabbeefeipnaaaGreatDoor.Labels Go.Proofs.YtmabbeefeipnaaaGreatDoor.NameOk Go.Proofs.YtmabbeefeipnaaaGreatDoor.TextR Go.Proofs.YtmabbeefeipnaaaGreatDoor.BoxR

/-- An empty text. -/
def emp (s : ByteArray) : Bool := decide (s.size = 0)
theorem emp_true {s : ByteArray} (h : emp s = true) : s.toList.isEmpty = true := by
  have h : s.size = 0 := of_decide_eq_true h
  rw [ByteArray.toList_eq]
  have hz : s.data.toList.length = s.size := by simp
  rw [h] at hz
  rw [List.eq_nil_of_length_eq_zero hz]; rfl
theorem emp_false {s : ByteArray} (h : emp s = false) : s.toList.isEmpty = false := not_empty s (of_decide_eq_false h)
/-- No number. -/
def nul (n : Int) : Bool := decide (n = 0)
theorem nul_true {n : Int} (h : nul n = true) : (n == 0) = true := beq_iff_eq.2 (of_decide_eq_true h)
theorem nul_false {n : Int} (h : nul n = false) : (n == 0) = false := beq_eq_false_iff_ne.2 (of_decide_eq_false h)
/-- Valid data of a record of this type. -/
def dko (ty n : Int) (host text : ByteArray) : Bool :=
  if ty = 1 then inn n 0 2147483647 && (emp host && emp text) else if ty = 2 ∨ ty = 5 then Nm host && (nul n && emp text) else
  if ty = 6 then Nm host && (inn n 0 100000 && emp text) else if ty = 16 then txo text && (nul n && emp host) else false
/-- A valid record. A def, so that no step of a walk opens it. -/
def rok (r : Rec) : Bool := Nm r.name && (inn r.ttl 0 100000 && dko r.ty r.n r.host r.text)
theorem dko_1 (n : Int) (h t : ByteArray) : dko 1 n h t = (inn n 0 2147483647 && (emp h && emp t)) := rfl
theorem dko_2 (n : Int) (h t : ByteArray) : dko 2 n h t = (Nm h && (nul n && emp t)) := rfl
theorem dko_5 (n : Int) (h t : ByteArray) : dko 5 n h t = (Nm h && (nul n && emp t)) := rfl
theorem dko_6 (n : Int) (h t : ByteArray) : dko 6 n h t = (Nm h && (inn n 0 100000 && emp t)) := rfl
theorem dko_16 (n : Int) (h t : ByteArray) : dko 16 n h t = (txo t && (nul n && emp h)) := rfl
theorem dko_none {ty : Int} (n : Int) (h t : ByteArray) (h1 : ty ≠ 1) (h2 : ty ≠ 2) (h5 : ty ≠ 5) (h6 : ty ≠ 6) (h16 : ty ≠ 16) : dko ty n h t = false := by
  unfold dko
  rw [if_neg h1, if_neg (by omega), if_neg h6, if_neg h16]
theorem lead (a b c : Bool) : (a && (b && c)) = (b && (a && c)) := by cases a <;> cases b <;> rfl
theorem last (a b c : Bool) : (a && (b && c)) = (b && (c && a)) := by cases a <;> cases b <;> cases c <;> rfl
/-- The texts of a record are not too long. -/
def Mod (r : Rec) : Prop := r.name.size ≤ 400000000 ∧ r.host.size ≤ 400000000 ∧ r.text.size ≤ 400000000

set_option maxHeartbeats 4000000 in
theorem data (r : Rec) (w : World) (he : Env w) (hr : Mod r) : Calls Tryz.prog 81 #[.agg #[.string r.name, .int .i64 r.ty, .int .i64 r.ttl, .int .i64 r.n, .string r.host, .string r.text]] w fun e w' => e = .returned (.bool (dko r.ty r.n r.host r.text)) ∧ Below w.heap.size w w' := by
  have HE := Lib.hid he
  clear he
  obtain ⟨name, ty, ttl, n, host, text⟩ := r
  obtain ⟨b1, b2, b3⟩ := hr
  simp only at b1 b2 b3 ⊢
  by_cases t1 : ty = 1
  · subst t1
    rw [dko_1]
    cases hc0 : inn n 0 2147483647
    · try simp only [Bool.false_and]
      have Hc0 := Lib.hid hc0
      clear hc0
      have L0 := Lib.hid ((Below.refl w.heap.size w).alloc (Nat.le_refl _) (.cells #[.string name, .int .i64 1, .int .i64 ttl, .int .i64 n, .string host, .string text] 40))
      have X0 := Lib.hid (bx_new w 40 ⟨name, 1, ttl, n, host, text⟩)
      go_enter Tryz.func81, Tryz.ntmps81
      go_wp2_with fail
      refine (upTo_any n 2147483647 _).mono ?_
      rw [Hc0.out]
      rintro e w' ⟨rfl, rfl⟩
      go_wp2
      go_ret
      exact ⟨rfl, L0.out⟩
    · try simp only [Bool.true_and]
      have Hc0 := Lib.hid hc0
      clear hc0
      cases hc1 : emp host
      · try simp only [Bool.false_and]
        have fc1 := emp_false hc1
        clear hc1
        have L0 := Lib.hid ((Below.refl w.heap.size w).alloc (Nat.le_refl _) (.cells #[.string name, .int .i64 1, .int .i64 ttl, .int .i64 n, .string host, .string text] 40))
        have X0 := Lib.hid (bx_new w 40 ⟨name, 1, ttl, n, host, text⟩)
        go_enter Tryz.func81, Tryz.ntmps81
        go_wp2_with fail
        refine (upTo_any n 2147483647 _).mono ?_
        rw [Hc0.out]
        rintro e w' ⟨rfl, rfl⟩
        go_wp2
        go_ret
        exact ⟨rfl, L0.out⟩
      · try simp only [Bool.true_and]
        have fc1 := emp_true hc1
        clear hc1
        cases hc2 : emp text
        · try simp only [Bool.false_and]
          have fc2 := emp_false hc2
          clear hc2
          have L0 := Lib.hid ((Below.refl w.heap.size w).alloc (Nat.le_refl _) (.cells #[.string name, .int .i64 1, .int .i64 ttl, .int .i64 n, .string host, .string text] 40))
          have X0 := Lib.hid (bx_new w 40 ⟨name, 1, ttl, n, host, text⟩)
          go_enter Tryz.func81, Tryz.ntmps81
          go_wp2_with fail
          refine (upTo_any n 2147483647 _).mono ?_
          rw [Hc0.out]
          rintro e w' ⟨rfl, rfl⟩
          go_wp2
          go_ret
          exact ⟨rfl, L0.out⟩
        · try simp only [Bool.true_and]
          have fc2 := emp_true hc2
          clear hc2
          have L0 := Lib.hid ((Below.refl w.heap.size w).alloc (Nat.le_refl _) (.cells #[.string name, .int .i64 1, .int .i64 ttl, .int .i64 n, .string host, .string text] 40))
          have X0 := Lib.hid (bx_new w 40 ⟨name, 1, ttl, n, host, text⟩)
          go_enter Tryz.func81, Tryz.ntmps81
          go_wp2_with fail
          refine (upTo_any n 2147483647 _).mono ?_
          rw [Hc0.out]
          rintro e w' ⟨rfl, rfl⟩
          go_wp2
          go_ret
          exact ⟨rfl, L0.out⟩
  by_cases t2 : ty = 2
  · subst t2
    rw [dko_2]
    cases hc3 : Nm host
    · try simp only [Bool.false_and]
      have Hc3 := Lib.hid hc3
      clear hc3
      have L0 := Lib.hid ((Below.refl w.heap.size w).alloc (Nat.le_refl _) (.cells #[.string name, .int .i64 2, .int .i64 ttl, .int .i64 n, .string host, .string text] 40))
      have X0 := Lib.hid (bx_new w 40 ⟨name, 2, ttl, n, host, text⟩)
      go_enter Tryz.func81, Tryz.ntmps81
      go_wp2_with fail
      refine (NameOk.impl host _ (HE.out.below L0.out) b2).mono ?_
      rw [Hc3.out]
      rintro e w1 ⟨rfl, hl⟩
      have L1 := Lib.hid (L0.out.trans (hl.mono L0.out.size))
      have X1 := Lib.hid (X0.out.below hl)
      clear hl L0 X0
      obtain ⟨x0, x1, x2, x3, x4, x5⟩ := X1.out
      go_wp2
      go_ret
      exact ⟨rfl, L1.out⟩
    · try simp only [Bool.true_and]
      have Hc3 := Lib.hid hc3
      clear hc3
      cases hc4 : nul n
      · try simp only [Bool.false_and]
        have fc4 := nul_false hc4
        clear hc4
        have L0 := Lib.hid ((Below.refl w.heap.size w).alloc (Nat.le_refl _) (.cells #[.string name, .int .i64 2, .int .i64 ttl, .int .i64 n, .string host, .string text] 40))
        have X0 := Lib.hid (bx_new w 40 ⟨name, 2, ttl, n, host, text⟩)
        go_enter Tryz.func81, Tryz.ntmps81
        go_wp2_with fail
        refine (NameOk.impl host _ (HE.out.below L0.out) b2).mono ?_
        rw [Hc3.out]
        rintro e w1 ⟨rfl, hl⟩
        have L1 := Lib.hid (L0.out.trans (hl.mono L0.out.size))
        have X1 := Lib.hid (X0.out.below hl)
        clear hl L0 X0
        obtain ⟨x0, x1, x2, x3, x4, x5⟩ := X1.out
        go_wp2
        go_ret
        exact ⟨rfl, L1.out⟩
      · try simp only [Bool.true_and]
        have fc4 := nul_true hc4
        clear hc4
        cases hc2 : emp text
        · try simp only [Bool.false_and]
          have fc2 := emp_false hc2
          clear hc2
          have L0 := Lib.hid ((Below.refl w.heap.size w).alloc (Nat.le_refl _) (.cells #[.string name, .int .i64 2, .int .i64 ttl, .int .i64 n, .string host, .string text] 40))
          have X0 := Lib.hid (bx_new w 40 ⟨name, 2, ttl, n, host, text⟩)
          go_enter Tryz.func81, Tryz.ntmps81
          go_wp2_with fail
          refine (NameOk.impl host _ (HE.out.below L0.out) b2).mono ?_
          rw [Hc3.out]
          rintro e w1 ⟨rfl, hl⟩
          have L1 := Lib.hid (L0.out.trans (hl.mono L0.out.size))
          have X1 := Lib.hid (X0.out.below hl)
          clear hl L0 X0
          obtain ⟨x0, x1, x2, x3, x4, x5⟩ := X1.out
          go_wp2
          go_ret
          exact ⟨rfl, L1.out⟩
        · try simp only [Bool.true_and]
          have fc2 := emp_true hc2
          clear hc2
          have L0 := Lib.hid ((Below.refl w.heap.size w).alloc (Nat.le_refl _) (.cells #[.string name, .int .i64 2, .int .i64 ttl, .int .i64 n, .string host, .string text] 40))
          have X0 := Lib.hid (bx_new w 40 ⟨name, 2, ttl, n, host, text⟩)
          go_enter Tryz.func81, Tryz.ntmps81
          go_wp2_with fail
          refine (NameOk.impl host _ (HE.out.below L0.out) b2).mono ?_
          rw [Hc3.out]
          rintro e w1 ⟨rfl, hl⟩
          have L1 := Lib.hid (L0.out.trans (hl.mono L0.out.size))
          have X1 := Lib.hid (X0.out.below hl)
          clear hl L0 X0
          obtain ⟨x0, x1, x2, x3, x4, x5⟩ := X1.out
          go_wp2
          go_ret
          exact ⟨rfl, L1.out⟩
  by_cases t5 : ty = 5
  · subst t5
    rw [dko_5]
    cases hc3 : Nm host
    · try simp only [Bool.false_and]
      have Hc3 := Lib.hid hc3
      clear hc3
      have L0 := Lib.hid ((Below.refl w.heap.size w).alloc (Nat.le_refl _) (.cells #[.string name, .int .i64 5, .int .i64 ttl, .int .i64 n, .string host, .string text] 40))
      have X0 := Lib.hid (bx_new w 40 ⟨name, 5, ttl, n, host, text⟩)
      go_enter Tryz.func81, Tryz.ntmps81
      go_wp2_with fail
      refine (NameOk.impl host _ (HE.out.below L0.out) b2).mono ?_
      rw [Hc3.out]
      rintro e w1 ⟨rfl, hl⟩
      have L1 := Lib.hid (L0.out.trans (hl.mono L0.out.size))
      have X1 := Lib.hid (X0.out.below hl)
      clear hl L0 X0
      obtain ⟨x0, x1, x2, x3, x4, x5⟩ := X1.out
      go_wp2
      go_ret
      exact ⟨rfl, L1.out⟩
    · try simp only [Bool.true_and]
      have Hc3 := Lib.hid hc3
      clear hc3
      cases hc4 : nul n
      · try simp only [Bool.false_and]
        have fc4 := nul_false hc4
        clear hc4
        have L0 := Lib.hid ((Below.refl w.heap.size w).alloc (Nat.le_refl _) (.cells #[.string name, .int .i64 5, .int .i64 ttl, .int .i64 n, .string host, .string text] 40))
        have X0 := Lib.hid (bx_new w 40 ⟨name, 5, ttl, n, host, text⟩)
        go_enter Tryz.func81, Tryz.ntmps81
        go_wp2_with fail
        refine (NameOk.impl host _ (HE.out.below L0.out) b2).mono ?_
        rw [Hc3.out]
        rintro e w1 ⟨rfl, hl⟩
        have L1 := Lib.hid (L0.out.trans (hl.mono L0.out.size))
        have X1 := Lib.hid (X0.out.below hl)
        clear hl L0 X0
        obtain ⟨x0, x1, x2, x3, x4, x5⟩ := X1.out
        go_wp2
        go_ret
        exact ⟨rfl, L1.out⟩
      · try simp only [Bool.true_and]
        have fc4 := nul_true hc4
        clear hc4
        cases hc2 : emp text
        · try simp only [Bool.false_and]
          have fc2 := emp_false hc2
          clear hc2
          have L0 := Lib.hid ((Below.refl w.heap.size w).alloc (Nat.le_refl _) (.cells #[.string name, .int .i64 5, .int .i64 ttl, .int .i64 n, .string host, .string text] 40))
          have X0 := Lib.hid (bx_new w 40 ⟨name, 5, ttl, n, host, text⟩)
          go_enter Tryz.func81, Tryz.ntmps81
          go_wp2_with fail
          refine (NameOk.impl host _ (HE.out.below L0.out) b2).mono ?_
          rw [Hc3.out]
          rintro e w1 ⟨rfl, hl⟩
          have L1 := Lib.hid (L0.out.trans (hl.mono L0.out.size))
          have X1 := Lib.hid (X0.out.below hl)
          clear hl L0 X0
          obtain ⟨x0, x1, x2, x3, x4, x5⟩ := X1.out
          go_wp2
          go_ret
          exact ⟨rfl, L1.out⟩
        · try simp only [Bool.true_and]
          have fc2 := emp_true hc2
          clear hc2
          have L0 := Lib.hid ((Below.refl w.heap.size w).alloc (Nat.le_refl _) (.cells #[.string name, .int .i64 5, .int .i64 ttl, .int .i64 n, .string host, .string text] 40))
          have X0 := Lib.hid (bx_new w 40 ⟨name, 5, ttl, n, host, text⟩)
          go_enter Tryz.func81, Tryz.ntmps81
          go_wp2_with fail
          refine (NameOk.impl host _ (HE.out.below L0.out) b2).mono ?_
          rw [Hc3.out]
          rintro e w1 ⟨rfl, hl⟩
          have L1 := Lib.hid (L0.out.trans (hl.mono L0.out.size))
          have X1 := Lib.hid (X0.out.below hl)
          clear hl L0 X0
          obtain ⟨x0, x1, x2, x3, x4, x5⟩ := X1.out
          go_wp2
          go_ret
          exact ⟨rfl, L1.out⟩
  by_cases t6 : ty = 6
  · subst t6
    rw [dko_6]
    cases hc3 : Nm host
    · try simp only [Bool.false_and]
      have Hc3 := Lib.hid hc3
      clear hc3
      have L0 := Lib.hid ((Below.refl w.heap.size w).alloc (Nat.le_refl _) (.cells #[.string name, .int .i64 6, .int .i64 ttl, .int .i64 n, .string host, .string text] 40))
      have X0 := Lib.hid (bx_new w 40 ⟨name, 6, ttl, n, host, text⟩)
      go_enter Tryz.func81, Tryz.ntmps81
      go_wp2_with fail
      refine (NameOk.impl host _ (HE.out.below L0.out) b2).mono ?_
      rw [Hc3.out]
      rintro e w1 ⟨rfl, hl⟩
      have L1 := Lib.hid (L0.out.trans (hl.mono L0.out.size))
      have X1 := Lib.hid (X0.out.below hl)
      clear hl L0 X0
      obtain ⟨x0, x1, x2, x3, x4, x5⟩ := X1.out
      go_wp2
      go_ret
      exact ⟨rfl, L1.out⟩
    · try simp only [Bool.true_and]
      have Hc3 := Lib.hid hc3
      clear hc3
      cases hc5 : inn n 0 100000
      · try simp only [Bool.false_and]
        have Hc5 := Lib.hid hc5
        clear hc5
        have L0 := Lib.hid ((Below.refl w.heap.size w).alloc (Nat.le_refl _) (.cells #[.string name, .int .i64 6, .int .i64 ttl, .int .i64 n, .string host, .string text] 40))
        have X0 := Lib.hid (bx_new w 40 ⟨name, 6, ttl, n, host, text⟩)
        go_enter Tryz.func81, Tryz.ntmps81
        go_wp2_with fail
        refine (NameOk.impl host _ (HE.out.below L0.out) b2).mono ?_
        rw [Hc3.out]
        rintro e w1 ⟨rfl, hl⟩
        have L1 := Lib.hid (L0.out.trans (hl.mono L0.out.size))
        have X1 := Lib.hid (X0.out.below hl)
        clear hl L0 X0
        obtain ⟨x0, x1, x2, x3, x4, x5⟩ := X1.out
        go_wp2_with fail
        refine (upTo_any n 100000 _).mono ?_
        rw [Hc5.out]
        rintro e w' ⟨rfl, rfl⟩
        go_wp2
        go_ret
        exact ⟨rfl, L1.out⟩
      · try simp only [Bool.true_and]
        have Hc5 := Lib.hid hc5
        clear hc5
        cases hc2 : emp text
        · try simp only [Bool.false_and]
          have fc2 := emp_false hc2
          clear hc2
          have L0 := Lib.hid ((Below.refl w.heap.size w).alloc (Nat.le_refl _) (.cells #[.string name, .int .i64 6, .int .i64 ttl, .int .i64 n, .string host, .string text] 40))
          have X0 := Lib.hid (bx_new w 40 ⟨name, 6, ttl, n, host, text⟩)
          go_enter Tryz.func81, Tryz.ntmps81
          go_wp2_with fail
          refine (NameOk.impl host _ (HE.out.below L0.out) b2).mono ?_
          rw [Hc3.out]
          rintro e w1 ⟨rfl, hl⟩
          have L1 := Lib.hid (L0.out.trans (hl.mono L0.out.size))
          have X1 := Lib.hid (X0.out.below hl)
          clear hl L0 X0
          obtain ⟨x0, x1, x2, x3, x4, x5⟩ := X1.out
          go_wp2_with fail
          refine (upTo_any n 100000 _).mono ?_
          rw [Hc5.out]
          rintro e w' ⟨rfl, rfl⟩
          go_wp2
          go_ret
          exact ⟨rfl, L1.out⟩
        · try simp only [Bool.true_and]
          have fc2 := emp_true hc2
          clear hc2
          have L0 := Lib.hid ((Below.refl w.heap.size w).alloc (Nat.le_refl _) (.cells #[.string name, .int .i64 6, .int .i64 ttl, .int .i64 n, .string host, .string text] 40))
          have X0 := Lib.hid (bx_new w 40 ⟨name, 6, ttl, n, host, text⟩)
          go_enter Tryz.func81, Tryz.ntmps81
          go_wp2_with fail
          refine (NameOk.impl host _ (HE.out.below L0.out) b2).mono ?_
          rw [Hc3.out]
          rintro e w1 ⟨rfl, hl⟩
          have L1 := Lib.hid (L0.out.trans (hl.mono L0.out.size))
          have X1 := Lib.hid (X0.out.below hl)
          clear hl L0 X0
          obtain ⟨x0, x1, x2, x3, x4, x5⟩ := X1.out
          go_wp2_with fail
          refine (upTo_any n 100000 _).mono ?_
          rw [Hc5.out]
          rintro e w' ⟨rfl, rfl⟩
          go_wp2
          go_ret
          exact ⟨rfl, L1.out⟩
  by_cases t16 : ty = 16
  · subst t16
    rw [dko_16]
    cases hc6 : txo text
    · try simp only [Bool.false_and]
      have Hc6 := Lib.hid hc6
      clear hc6
      have L0 := Lib.hid ((Below.refl w.heap.size w).alloc (Nat.le_refl _) (.cells #[.string name, .int .i64 16, .int .i64 ttl, .int .i64 n, .string host, .string text] 40))
      have X0 := Lib.hid (bx_new w 40 ⟨name, 16, ttl, n, host, text⟩)
      go_enter Tryz.func81, Tryz.ntmps81
      go_wp2_with fail
      refine (TextR.impl text _ (by omega)).mono ?_
      rw [Hc6.out]
      rintro e w1 ⟨rfl, hl⟩
      have L1 := Lib.hid (L0.out.trans (hl.mono L0.out.size))
      have X1 := Lib.hid (X0.out.below hl)
      clear hl L0 X0
      obtain ⟨x0, x1, x2, x3, x4, x5⟩ := X1.out
      go_wp2
      go_ret
      exact ⟨rfl, L1.out⟩
    · try simp only [Bool.true_and]
      have Hc6 := Lib.hid hc6
      clear hc6
      cases hc4 : nul n
      · try simp only [Bool.false_and]
        have fc4 := nul_false hc4
        clear hc4
        have L0 := Lib.hid ((Below.refl w.heap.size w).alloc (Nat.le_refl _) (.cells #[.string name, .int .i64 16, .int .i64 ttl, .int .i64 n, .string host, .string text] 40))
        have X0 := Lib.hid (bx_new w 40 ⟨name, 16, ttl, n, host, text⟩)
        go_enter Tryz.func81, Tryz.ntmps81
        go_wp2_with fail
        refine (TextR.impl text _ (by omega)).mono ?_
        rw [Hc6.out]
        rintro e w1 ⟨rfl, hl⟩
        have L1 := Lib.hid (L0.out.trans (hl.mono L0.out.size))
        have X1 := Lib.hid (X0.out.below hl)
        clear hl L0 X0
        obtain ⟨x0, x1, x2, x3, x4, x5⟩ := X1.out
        go_wp2
        go_ret
        exact ⟨rfl, L1.out⟩
      · try simp only [Bool.true_and]
        have fc4 := nul_true hc4
        clear hc4
        cases hc1 : emp host
        · try simp only [Bool.false_and]
          have fc1 := emp_false hc1
          clear hc1
          have L0 := Lib.hid ((Below.refl w.heap.size w).alloc (Nat.le_refl _) (.cells #[.string name, .int .i64 16, .int .i64 ttl, .int .i64 n, .string host, .string text] 40))
          have X0 := Lib.hid (bx_new w 40 ⟨name, 16, ttl, n, host, text⟩)
          go_enter Tryz.func81, Tryz.ntmps81
          go_wp2_with fail
          refine (TextR.impl text _ (by omega)).mono ?_
          rw [Hc6.out]
          rintro e w1 ⟨rfl, hl⟩
          have L1 := Lib.hid (L0.out.trans (hl.mono L0.out.size))
          have X1 := Lib.hid (X0.out.below hl)
          clear hl L0 X0
          obtain ⟨x0, x1, x2, x3, x4, x5⟩ := X1.out
          go_wp2
          go_ret
          exact ⟨rfl, L1.out⟩
        · try simp only [Bool.true_and]
          have fc1 := emp_true hc1
          clear hc1
          have L0 := Lib.hid ((Below.refl w.heap.size w).alloc (Nat.le_refl _) (.cells #[.string name, .int .i64 16, .int .i64 ttl, .int .i64 n, .string host, .string text] 40))
          have X0 := Lib.hid (bx_new w 40 ⟨name, 16, ttl, n, host, text⟩)
          go_enter Tryz.func81, Tryz.ntmps81
          go_wp2_with fail
          refine (TextR.impl text _ (by omega)).mono ?_
          rw [Hc6.out]
          rintro e w1 ⟨rfl, hl⟩
          have L1 := Lib.hid (L0.out.trans (hl.mono L0.out.size))
          have X1 := Lib.hid (X0.out.below hl)
          clear hl L0 X0
          obtain ⟨x0, x1, x2, x3, x4, x5⟩ := X1.out
          go_wp2
          go_ret
          exact ⟨rfl, L1.out⟩
  rw [dko_none n host text t1 t2 t5 t6 t16]
  have k1 : (ty == 1) = false := beq_eq_false_iff_ne.2 t1
  have k2 : (ty == 2) = false := beq_eq_false_iff_ne.2 t2
  have k5 : (ty == 5) = false := beq_eq_false_iff_ne.2 t5
  have k6 : (ty == 6) = false := beq_eq_false_iff_ne.2 t6
  have k16 : (ty == 16) = false := beq_eq_false_iff_ne.2 t16
  have L0 := Lib.hid ((Below.refl w.heap.size w).alloc (Nat.le_refl _) (.cells #[.string name, .int .i64 ty, .int .i64 ttl, .int .i64 n, .string host, .string text] 40))
  have X0 := Lib.hid (bx_new w 40 ⟨name, ty, ttl, n, host, text⟩)
  go_enter Tryz.func81, Tryz.ntmps81
  go_wp2
  go_ret
  exact ⟨rfl, L0.out⟩

set_option maxHeartbeats 4000000 in
theorem impl (r : Rec) (w : World) (he : Env w) (hr : Mod r) : Calls Tryz.prog 67 #[.agg #[.string r.name, .int .i64 r.ty, .int .i64 r.ttl, .int .i64 r.n, .string r.host, .string r.text]] w fun e w' => e = .returned (.bool (rok r)) ∧ Below w.heap.size w w' := by
  have HE := Lib.hid he
  clear he
  obtain ⟨name, ty, ttl, n, host, text⟩ := r
  obtain ⟨b1, b2, b3⟩ := hr
  simp only at b1 b2 b3 ⊢
  show Calls _ _ _ _ (fun e w' => e = .returned (.bool (Nm name && (inn ttl 0 100000 && dko ty n host text))) ∧ Below w.heap.size w w')
  cases hc7 : Nm name
  · try simp only [Bool.false_and]
    have Hc7 := Lib.hid hc7
    clear hc7
    have L0 := Lib.hid ((Below.refl w.heap.size w).alloc (Nat.le_refl _) (.cells #[.string name, .int .i64 ty, .int .i64 ttl, .int .i64 n, .string host, .string text] 40))
    have X0 := Lib.hid (bx_new w 40 ⟨name, ty, ttl, n, host, text⟩)
    go_enter Tryz.func67, Tryz.ntmps67
    go_wp2_with fail
    refine (NameOk.impl name _ (HE.out.below L0.out) b1).mono ?_
    rw [Hc7.out]
    rintro e w1 ⟨rfl, hl⟩
    have L1 := Lib.hid (L0.out.trans (hl.mono L0.out.size))
    have X1 := Lib.hid (X0.out.below hl)
    clear hl L0 X0
    obtain ⟨x0, x1, x2, x3, x4, x5⟩ := X1.out
    go_wp2
    go_ret
    exact ⟨rfl, L1.out⟩
  · try simp only [Bool.true_and]
    have Hc7 := Lib.hid hc7
    clear hc7
    cases hc8 : inn ttl 0 100000
    · try simp only [Bool.false_and]
      have Hc8 := Lib.hid hc8
      clear hc8
      have L0 := Lib.hid ((Below.refl w.heap.size w).alloc (Nat.le_refl _) (.cells #[.string name, .int .i64 ty, .int .i64 ttl, .int .i64 n, .string host, .string text] 40))
      have X0 := Lib.hid (bx_new w 40 ⟨name, ty, ttl, n, host, text⟩)
      go_enter Tryz.func67, Tryz.ntmps67
      go_wp2_with fail
      refine (NameOk.impl name _ (HE.out.below L0.out) b1).mono ?_
      rw [Hc7.out]
      rintro e w1 ⟨rfl, hl⟩
      have L1 := Lib.hid (L0.out.trans (hl.mono L0.out.size))
      have X1 := Lib.hid (X0.out.below hl)
      clear hl L0 X0
      obtain ⟨x0, x1, x2, x3, x4, x5⟩ := X1.out
      go_wp2_with fail
      refine (upTo_any ttl 100000 _).mono ?_
      rw [Hc8.out]
      rintro e w' ⟨rfl, rfl⟩
      go_wp2
      go_ret
      exact ⟨rfl, L1.out⟩
    · try simp only [Bool.true_and]
      have Hc8 := Lib.hid hc8
      clear hc8
      cases hc9 : dko ty n host text
      · try simp only [Bool.false_and]
        have Hc9 := Lib.hid hc9
        clear hc9
        have L0 := Lib.hid ((Below.refl w.heap.size w).alloc (Nat.le_refl _) (.cells #[.string name, .int .i64 ty, .int .i64 ttl, .int .i64 n, .string host, .string text] 40))
        have X0 := Lib.hid (bx_new w 40 ⟨name, ty, ttl, n, host, text⟩)
        go_enter Tryz.func67, Tryz.ntmps67
        go_wp2_with fail
        refine (NameOk.impl name _ (HE.out.below L0.out) b1).mono ?_
        rw [Hc7.out]
        rintro e w1 ⟨rfl, hl⟩
        have L1 := Lib.hid (L0.out.trans (hl.mono L0.out.size))
        have X1 := Lib.hid (X0.out.below hl)
        clear hl L0 X0
        obtain ⟨x0, x1, x2, x3, x4, x5⟩ := X1.out
        go_wp2_with fail
        refine (upTo_any ttl 100000 _).mono ?_
        rw [Hc8.out]
        rintro e w' ⟨rfl, rfl⟩
        go_wp2_with fail
        refine (data ⟨name, ty, ttl, n, host, text⟩ _ (HE.out.below L1.out) ⟨b1, b2, b3⟩).mono ?_
        rw [Hc9.out]
        rintro e w2 ⟨rfl, hl⟩
        have L2 := Lib.hid (L1.out.trans (hl.mono L1.out.size))
        have X2 := Lib.hid (X1.out.below hl)
        clear x0 x1 x2 x3 x4 x5
        clear hl L1 X1
        obtain ⟨x0, x1, x2, x3, x4, x5⟩ := X2.out
        go_wp2
        go_ret
        exact ⟨rfl, L2.out⟩
      · try simp only [Bool.true_and]
        have Hc9 := Lib.hid hc9
        clear hc9
        have L0 := Lib.hid ((Below.refl w.heap.size w).alloc (Nat.le_refl _) (.cells #[.string name, .int .i64 ty, .int .i64 ttl, .int .i64 n, .string host, .string text] 40))
        have X0 := Lib.hid (bx_new w 40 ⟨name, ty, ttl, n, host, text⟩)
        go_enter Tryz.func67, Tryz.ntmps67
        go_wp2_with fail
        refine (NameOk.impl name _ (HE.out.below L0.out) b1).mono ?_
        rw [Hc7.out]
        rintro e w1 ⟨rfl, hl⟩
        have L1 := Lib.hid (L0.out.trans (hl.mono L0.out.size))
        have X1 := Lib.hid (X0.out.below hl)
        clear hl L0 X0
        obtain ⟨x0, x1, x2, x3, x4, x5⟩ := X1.out
        go_wp2_with fail
        refine (upTo_any ttl 100000 _).mono ?_
        rw [Hc8.out]
        rintro e w' ⟨rfl, rfl⟩
        go_wp2_with fail
        refine (data ⟨name, ty, ttl, n, host, text⟩ _ (HE.out.below L1.out) ⟨b1, b2, b3⟩).mono ?_
        rw [Hc9.out]
        rintro e w2 ⟨rfl, hl⟩
        have L2 := Lib.hid (L1.out.trans (hl.mono L1.out.size))
        have X2 := Lib.hid (X1.out.below hl)
        clear x0 x1 x2 x3 x4 x5
        clear hl L1 X1
        obtain ⟨x0, x1, x2, x3, x4, x5⟩ := X2.out
        go_wp2
        go_ret
        exact ⟨rfl, L2.out⟩

end Go.Proofs.YtmabbeefeipnaaaGreatDoor.RecOk
