/- What ParseNum does, in the program (by the library's proved contract of strconv.Atoi) and in its model. -/
import Derived.Test.YtaladeifmaldeaaDoorNum
import Derived.Test.YtaladeifmaldeaaDoorDigits
namespace Go.Proofs.YtaladeifmaldeaaDoor.Parse
open Go.RowKit Go.Proofs.YtaladeifmaldeaaDoor.Mem Go.Proofs.YtaladeifmaldeaaDoor.Num Go.Proofs.YtaladeifmaldeaaDoor.Digits

theorem gSyn : Tryd.prog.globalNamed "strconv.ErrSyntax" = some 0 := by kernel_rfl
theorem gRan : Tryd.prog.globalNamed "strconv.ErrRange" = some 1 := by kernel_rfl

/-- The table reads as it should, and the two errors of the library are there. -/
structure Env (w : World) : Prop where
  tab : Tab w
  syn : ∃ tp p, w.var? Tryd.prog "strconv.ErrSyntax" = some #[.iface tp p]
  ran : ∃ tp p, w.var? Tryd.prog "strconv.ErrRange" = some #[.iface tp p]
theorem Env.below {w w' : World} (h : Env w) (hb : Below w.heap.size w w') : Env w' := by
  have hl := h.tab.lt
  obtain ⟨a, b, hs⟩ := h.syn
  obtain ⟨c, d, hr⟩ := h.ran
  exact ⟨h.tab.below hb, ⟨a, b, var?_below hb gSyn (by omega) hs⟩, ⟨c, d, var?_below hb gRan (by omega) hr⟩⟩

/-- The pair that ParseNum answers of the text l; nothing that was there is turned. -/
def Par (w : World) (l : List UInt8) (e : Ending) (w' : World) : Prop := ∃ (x : Int) (b : Bool), e = .returned (.tuple #[.int .i64 x, .bool b]) ∧ Digits.Good l x b ∧ Below w.heap.size w w'

/-- strconv.Atoi: a number and no error; or an error, and then no numeral in range stands there. -/
def Ato (w : World) (l : List UInt8) (e : Ending) (w' : World) : Prop :=
  (∃ v : Int, e = .returned (.tuple #[.int .i64 v, .nilIface]) ∧ Lib.atoiAll l = .ok v ∧ Below w.heap.size w w') ∨
  (∃ (v : Int) (N : Nat), e = .returned (.tuple #[.int .i64 v, .iface 51 (.pointer (some ⟨N, 0, none⟩))]) ∧ (∀ k : Int, 0 ≤ k → k ≤ 2147483647 → Lib.itoa k ≠ l) ∧ Below w.heap.size w w')
theorem atoi (s : ByteArray) (hs : s.size ≤ 281474976710656) (w : World) (he : Env w) : Calls Tryd.prog 18 #[.string s] w (Ato w s.data.toList) := by
  cases h : Lib.atoiAll s.data.toList with
  | ok v =>
    refine (Go.Proofs.Any.strconv_Atoi_ok Tryd.laysC172 s (by omega) v h w).mono fun e w' ⟨he, hw⟩ => Or.inl ⟨v, he, h, ?_⟩
    rcases hw with rfl | ⟨t, rfl⟩
    · exact Below.refl _ _
    · exact Lib.bytesWorld_below _ _ _
  | _ =>
    have hno : ∀ k : Int, 0 ≤ k → k ≤ 2147483647 → Lib.itoa k ≠ s.data.toList := fun k h0 h1 hk => by
      rw [← hk, atoi_itoa k h0 h1] at h
      cases h
    first
      | (obtain ⟨tp, p, hv⟩ := he.syn
         exact (Go.Proofs.Any.strconv_Atoi_syntax_var Tryd.laysC172 s hs h tp p w hv).mono fun e w' ⟨N, he, _, _, hb⟩ => Or.inr ⟨_, N, he, hno, hb⟩)
      | (obtain ⟨tp, p, hv⟩ := he.ran
         exact (Go.Proofs.Any.strconv_Atoi_range_var Tryd.laysC172 s hs h tp p w hv).mono fun e w' ⟨N, he, _, _, hb⟩ => Or.inr ⟨_, N, he, hno, hb⟩)

theorem fits_range (v : Int) (h0 : 0 ≤ v) (h1 : v ≤ 2147483647) : (Lit.int .i64 v).wf = true := by
  have e1 : IntKind.i64.min = -9223372036854775808 := by decide
  have e2 : IntKind.i64.max = 9223372036854775807 := by decide
  simp [Lit.wf]
  omega

theorem toList_data (b : ByteArray) : b.toList = b.data.toList := ByteArray.toList_eq b
theorem txt_eq {v : Int} {s : ByteArray} (h : Lib.itoa v = s.data.toList) : (Txt v).toList = s.toList := by
  rw [toList_data, toList_data, ← h]
  rfl
theorem txt_of {v : Int} {s : ByteArray} (h : (Txt v).toList = s.toList) : Lib.itoa v = s.data.toList := by
  rw [toList_data, toList_data] at h
  exact h

set_option maxHeartbeats 1000000 in
theorem impl (s : ByteArray) (hs : s.size ≤ 281474976710656) (w : World) (he : Env w) : Calls Tryd.prog 9 #[.string s] w (Par w s.data.toList) := by
  have HE := Lib.hid he
  clear he
  go_enter Tryd.func9, Tryd.ntmps9
  go_wp2_with fail
  refine (atoi s hs w HE.out).mono ?_
  rintro e w1 (⟨v, rfl, hv, hl⟩ | ⟨v, N, rfl, hno, hl⟩)
  · have HV := Lib.hid hv
    have HL := Lib.hid hl
    clear hv hl
    by_cases h0 : 0 ≤ v
    · by_cases h1 : v ≤ 2147483647
      · go_wp2_with fail
        refine (Num.impl v (fits_range v h0 h1) w1 (HE.out.tab.below HL.out)).mono ?_
        rintro e w2 ⟨rfl, hl2⟩
        have HL2 := Lib.hid (HL.out.trans (hl2.mono HL.out.size))
        clear hl2 HL
        by_cases hc : Lib.itoa v = s.data.toList
        · have hd : ((Txt v).toList == s.toList) = true := by rw [beq_iff_eq]; exact txt_eq hc
          have HC := Lib.hid hc
          clear hc
          go_wp2
          go_ret2
          exact ⟨v, true, rfl, Or.inl ⟨rfl, h0, h1, HC.out⟩, HL2.out⟩
        · have hd : ((Txt v).toList == s.toList) = false := by rw [beq_eq_false_iff_ne]; exact fun e => hc (txt_of e)
          have HC := Lib.hid hc
          clear hc
          go_wp2
          go_ret2
          refine ⟨0, false, rfl, Or.inr ⟨rfl, rfl, fun k k0 k1 hk => ?_⟩, HL2.out⟩
          have := HV.out
          rw [← hk, atoi_itoa k k0 k1] at this
          injection this with this
          subst this
          exact HC.out hk
      · go_wp2
        go_ret2
        refine ⟨0, false, rfl, Or.inr ⟨rfl, rfl, fun k k0 k1 hk => ?_⟩, HL.out⟩
        have := HV.out
        rw [← hk, atoi_itoa k k0 k1] at this
        injection this with this
        omega
    · go_wp2
      go_ret2
      refine ⟨0, false, rfl, Or.inr ⟨rfl, rfl, fun k k0 k1 hk => ?_⟩, HL.out⟩
      have := HV.out
      rw [← hk, atoi_itoa k k0 k1] at this
      injection this with this
      omega
  · have HN := Lib.hid hno
    have HL := Lib.hid hl
    clear hno hl
    go_wp2
    go_ret2
    exact ⟨0, false, rfl, Or.inr ⟨rfl, rfl, HN.out⟩, HL.out⟩

theorem l1In_yes (a b c : Int) (w : World) (h1 : b ≤ a) (h2 : a ≤ c) : Calls Tryd.prog 20 #[.int .i64 a, .int .i64 b, .int .i64 c] w fun e w' => e = .returned (.bool true) ∧ w = w' := by
  go_enter Tryd.func20, Tryd.ntmps20
  go_wp2
  go_ret
  exact ⟨rfl, rfl⟩
theorem l1In_no (a b c : Int) (w : World) (h : ¬ (b ≤ a ∧ a ≤ c)) : Calls Tryd.prog 20 #[.int .i64 a, .int .i64 b, .int .i64 c] w fun e w' => e = .returned (.bool false) ∧ w = w' := by
  rcases (show a < b ∨ (b ≤ a ∧ c < a) by omega) with h1 | ⟨h1, h2⟩
  · clear h
    go_enter Tryd.func20, Tryd.ntmps20
    go_wp2
    go_ret
    exact ⟨rfl, rfl⟩
  · clear h
    have hd : decide (a ≤ c) = false := by simp; omega
    go_enter Tryd.func20, Tryd.ntmps20
    go_wp2
    go_ret
    exact ⟨rfl, rfl⟩

/-- A text that is too long, or empty, or bears a byte that is no digit, is no numeral in range. -/
theorem no_len (l : List UInt8) (h : ¬ (1 ≤ l.length ∧ l.length ≤ 10)) : ∀ k : Int, 0 ≤ k → k ≤ 2147483647 → Lib.itoa k ≠ l := by
  rintro k h0 h1 rfl
  exact h (itoa_shape k h0 h1).1
theorem no_digit (l : List UInt8) (j : Nat) (hj : j < l.length) (h : ¬ IsD l[j]) : ∀ k : Int, 0 ≤ k → k ≤ 2147483647 → Lib.itoa k ≠ l := by
  rintro k h0 h1 rfl
  exact h ((itoa_shape k h0 h1).2.1 _ (List.getElem_mem hj))
theorem no_val (l : List UInt8) (h : ∀ k : Int, 0 ≤ k → k ≤ 2147483647 → (val 0 l : Int) = k → Lib.itoa k ≠ l) : ∀ k : Int, 0 ≤ k → k ≤ 2147483647 → Lib.itoa k ≠ l := by
  rintro k h0 h1 rfl
  exact h k h0 h1 (itoa_shape k h0 h1).2.2 rfl

theorem val_take (l : List UInt8) (j : Nat) (h : j < l.length) : val 0 (l.take (j + 1)) = val 0 (l.take j) * 10 + (l[j].toNat - 48) := by
  rw [List.take_succ_eq_append_getElem h, val_snoc]
theorem val_bound (l : List UInt8) (acc m : Nat) (ha : acc < 10 ^ m) (h : ∀ c ∈ l, IsD c) : val acc l < 10 ^ (m + l.length) := by
  induction l generalizing acc m with
  | nil => exact ha
  | cons c r ih =>
    have hc := h c (List.mem_cons_self ..)
    unfold IsD at hc
    have := ih (acc * 10 + (c.toNat - 48)) (m + 1) (by rw [Nat.pow_succ]; omega) (fun x hx => h x (List.mem_cons_of_mem _ hx))
    rw [List.length_cons, show m + (r.length + 1) = m + 1 + r.length by omega]
    exact this

set_option maxHeartbeats 1000000 in
theorem spec (s : ByteArray) (hs : s.size ≤ 281474976710656) (w : World) : Calls Tryd.prog 11 #[.string s] w (Par w s.data.toList) := by
  have HZ : Hid (s.data.toList.length = s.size) := Array.length_toList
  by_cases hl : 1 ≤ s.size ∧ s.size ≤ 10
  · obtain ⟨hl1, hl2⟩ := hl
    go_enter Tryd.func11, Tryd.ntmps11
    go_wp2_with fail
    refine (l1In_yes _ 1 10 w (by omega) (by omega)).mono ?_
    rintro e w' ⟨rfl, rfl⟩
    go_wp2
    go_loop [2, 3, 4, 5] (fun r0 r1 nn i => ∃ j : Nat, j ≤ s.size ∧ i = .int .i64 j ∧ r0 = .int .i64 0 ∧ r1 = .bool false ∧ nn = .int .i64 (val 0 (s.data.toList.take j) : Int) ∧ Hid (∀ c ∈ s.data.toList.take j, IsD c)) (fun _ _ _ i => s.size - (intOf i).toNat)
    case atStart => exact ⟨0, Nat.zero_le _, rfl, rfl, rfl, rfl, fun c hc => by simp at hc⟩
    case round =>
      obtain ⟨j, hj, rfl, rfl, rfl, rfl, HD⟩ := hrel
      have hb : val 0 (s.data.toList.take j) < 10 ^ 10 := by
        have h1 := val_bound (s.data.toList.take j) 0 0 (by omega) HD.out
        have h2 : (s.data.toList.take j).length ≤ 10 := by rw [List.length_take, HZ.out]; omega
        exact Nat.lt_of_lt_of_le h1 (Nat.pow_le_pow_right (by omega) (by omega))
      have hb' : val 0 (s.data.toList.take j) < 10000000000 := hb
      clear hb
      by_cases hlt : j < s.size
      · have hby : ((s[j]'hlt).toNat : Int) < 256 := by have := (s[j]'hlt).toNat_lt; omega
        have HX : Hid (s.data.toList[j]'(by rw [HZ.out]; exact hlt) = s[j]'hlt) := rfl
        by_cases hdg : 48 ≤ (s[j]'hlt).toNat ∧ (s[j]'hlt).toNat ≤ 57
        · obtain ⟨hd1, hd2⟩ := hdg
          have hd1' : (48 : Int) ≤ ((s[j]'hlt).toNat : Int) := by omega
          go_wp2_with fail
          refine (l1In_yes _ 48 57 w (by omega) (by omega)).mono ?_
          rintro e w' ⟨rfl, rfl⟩
          go_wp2
          go_round
          case rel =>
            refine ⟨j + 1, by omega, by go_num, rfl, rfl, ?_, ?_⟩
            · have hv := val_take s.data.toList j (by rw [HZ.out]; exact hlt)
              rw [HX.out] at hv
              rw [hv]
              go_num
            · show ∀ c ∈ _, _
              rw [List.take_succ_eq_append_getElem (by rw [HZ.out]; exact hlt), HX.out]
              intro c hc
              rcases List.mem_append.1 hc with hc | hc
              · exact HD.out c hc
              · rw [List.mem_singleton.1 hc]; exact ⟨hd1, hd2⟩
          case measure => simp [intOf]; omega
        · go_wp2_with fail
          refine (l1In_no _ 48 57 w (by omega)).mono ?_
          rintro e w' ⟨rfl, rfl⟩
          have HDG := Lib.hid hdg
          clear hdg
          go_wp2
          go_ret2
          refine ⟨0, false, rfl, Or.inr ⟨rfl, rfl, no_digit _ j (by rw [HZ.out]; exact hlt) ?_⟩, Below.refl _ _⟩
          rw [HX.out]
          exact HDG.out
      · have hjs : j = s.size := by omega
        have HT : Hid (s.data.toList.take j = s.data.toList) := List.take_of_length_le (by rw [HZ.out]; omega)
        rw [HT.out] at hb'
        rw [HT.out]
        clear HD
        generalize hvv : val 0 s.data.toList = v at *
        have HV := Lib.hid hvv
        clear hvv
        by_cases hM : (v : Int) ≤ 2147483647
        · go_wp2_with fail
          refine (Num.spec (v : Int) (fits_range v (by omega) hM) w).mono ?_
          rintro e w2 ⟨rfl, hl2⟩
          have HL2 := Lib.hid hl2
          clear hl2
          by_cases hc : Lib.itoa (v : Int) = s.data.toList
          · have hd : ((Txt (v : Int)).toList == s.toList) = true := by rw [beq_iff_eq]; exact txt_eq hc
            have HC := Lib.hid hc
            clear hc
            go_wp2
            go_ret2
            exact ⟨v, true, rfl, Or.inl ⟨rfl, by omega, hM, HC.out⟩, HL2.out⟩
          · have hd : ((Txt (v : Int)).toList == s.toList) = false := by rw [beq_eq_false_iff_ne]; exact fun e => hc (txt_of e)
            have HC := Lib.hid hc
            clear hc
            go_wp2
            go_ret2
            refine ⟨0, false, rfl, Or.inr ⟨rfl, rfl, no_val _ fun k _ _ hk => ?_⟩, HL2.out⟩
            rw [← hk, HV.out]
            exact HC.out
        · go_wp2
          go_ret2
          refine ⟨0, false, rfl, Or.inr ⟨rfl, rfl, no_val _ fun k _ k1 hk => ?_⟩, Below.refl _ _⟩
          rw [HV.out] at hk
          omega
  · go_enter Tryd.func11, Tryd.ntmps11
    go_wp2_with fail
    refine (l1In_no _ 1 10 w (by omega)).mono ?_
    rintro e w' ⟨rfl, rfl⟩
    go_wp2
    go_ret2
    exact ⟨0, false, rfl, Or.inr ⟨rfl, rfl, no_len _ (by rw [HZ.out]; exact hl)⟩, Below.refl _ _⟩
end Go.Proofs.YtaladeifmaldeaaDoor.Parse
