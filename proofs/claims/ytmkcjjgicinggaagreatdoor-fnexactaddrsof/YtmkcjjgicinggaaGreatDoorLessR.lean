/- What LessRecord does in the program and in the model, and compareRecords in the program: the order of records by name, type, number, host, text and time to live. Condition: at most 400000000 bytes in each name and host; for the program: the library's variable internal/bytealg.MaxLen holds an int. -/
import Derived.Test.YtmkcjjgicinggaaGreatDoorLess
import Derived.Test.YtmkcjjgicinggaaGreatDoorMemR
namespace Go.Proofs.YtmkcjjgicinggaaGreatDoor.LessR
open Go.RowKit Go.Proofs.YtmkcjjgicinggaaGreatDoor.Mem Go.Proofs.YtmkcjjgicinggaaGreatDoor.MemS Go.Proofs.YtmkcjjgicinggaaGreatDoor.MemR Go.Proofs.YtmkcjjgicinggaaGreatDoor.Labels Go.Proofs.YtmkcjjgicinggaaGreatDoor.NameMath
open Go.Op (bytesLess)

/-- Which of two records is less. A def, so that no step of a walk opens it. -/
def lr (a b : Rec) : Bool :=
  if a.name.data.toList ≠ b.name.data.toList then Ls a.name b.name else if a.ty ≠ b.ty then decide (a.ty < b.ty) else if a.n ≠ b.n then decide (a.n < b.n) else
  if a.host.data.toList ≠ b.host.data.toList then Ls a.host b.host else if a.text.data.toList ≠ b.text.data.toList then bytesLess a.text.data.toList b.text.data.toList else decide (a.ttl < b.ttl)
/-- The names of a record are not too long. -/
def Fine (r : Rec) : Prop := r.name.size ≤ 400000000 ∧ r.host.size ≤ 400000000

theorem ne_list {p q : ByteArray} (h : p ≠ q) : p.data.toList ≠ q.data.toList := fun e => h (text_ext e)
theorem bq (p q : ByteArray) (h : p ≠ q) : (p.toList == q.toList) = false ∧ (p.data.toList == q.data.toList) = false ∧ (!(p.toList == q.toList)) = true ∧ (!(p.data.toList == q.data.toList)) = true := by
  have e : (p.data.toList == q.data.toList) = false := beq_eq_false_iff_ne.2 (ne_list h)
  refine ⟨by rw [ByteArray.toList_eq, ByteArray.toList_eq]; exact e, e, by rw [ByteArray.toList_eq, ByteArray.toList_eq, e]; rfl, by rw [e]; rfl⟩

section
variable {n1 n2 h1 h2 x1 x2 : ByteArray} {t1 t2 l1 l2 m1 m2 : Int}
theorem lr_name (h : n1 ≠ n2) : lr ⟨n1, t1, l1, m1, h1, x1⟩ ⟨n2, t2, l2, m2, h2, x2⟩ = Ls n1 n2 := if_pos (ne_list h)
theorem lr_ty (h : t1 ≠ t2) : lr ⟨n1, t1, l1, m1, h1, x1⟩ ⟨n1, t2, l2, m2, h2, x2⟩ = decide (t1 < t2) := (if_neg (fun h => h rfl)).trans (if_pos h)
theorem lr_n (h : m1 ≠ m2) : lr ⟨n1, t1, l1, m1, h1, x1⟩ ⟨n1, t1, l2, m2, h2, x2⟩ = decide (m1 < m2) := (if_neg (fun h => h rfl)).trans ((if_neg (fun h => h rfl)).trans (if_pos h))
theorem lr_host (h : h1 ≠ h2) : lr ⟨n1, t1, l1, m1, h1, x1⟩ ⟨n1, t1, l2, m1, h2, x2⟩ = Ls h1 h2 := (if_neg (fun h => h rfl)).trans ((if_neg (fun h => h rfl)).trans ((if_neg (fun h => h rfl)).trans (if_pos (ne_list h))))
theorem lr_text (h : x1 ≠ x2) : lr ⟨n1, t1, l1, m1, h1, x1⟩ ⟨n1, t1, l2, m1, h1, x2⟩ = bytesLess x1.data.toList x2.data.toList :=
  (if_neg (fun h => h rfl)).trans ((if_neg (fun h => h rfl)).trans ((if_neg (fun h => h rfl)).trans ((if_neg (fun h => h rfl)).trans (if_pos (ne_list h)))))
theorem lr_ttl : lr ⟨n1, t1, l1, m1, h1, x1⟩ ⟨n1, t1, l2, m1, h1, x1⟩ = decide (l1 < l2) :=
  (if_neg (fun h => h rfl)).trans ((if_neg (fun h => h rfl)).trans ((if_neg (fun h => h rfl)).trans ((if_neg (fun h => h rfl)).trans (if_neg (fun h => h rfl)))))
end

theorem boxed (w : World) (o p : Obj) : Below w.heap.size w ((w.alloc o).alloc p) := ((Below.refl _ _).alloc (Nat.le_refl _) _).alloc (by simp) _

set_option maxHeartbeats 4000000 in
theorem spec (a b : Rec) (w : World) (ha : Fine a) (hb : Fine b) : Calls Tryz.prog 182 #[.agg #[.string a.name, .int .i64 a.ty, .int .i64 a.ttl, .int .i64 a.n, .string a.host, .string a.text], .agg #[.string b.name, .int .i64 b.ty, .int .i64 b.ttl, .int .i64 b.n, .string b.host, .string b.text]] w fun e w' => e = .returned (.bool (lr a b)) ∧ Below w.heap.size w w' := by
  obtain ⟨n1, t1, l1, m1, h1, x1⟩ := a
  obtain ⟨n2, t2, l2, m2, h2, x2⟩ := b
  obtain ⟨a1, a2⟩ := ha
  obtain ⟨b1, b2⟩ := hb
  simp only at a1 a2 b1 b2 ⊢
  by_cases c0 : n1 = n2
  · subst c0
    by_cases c1 : t1 = t2
    · subst c1
      by_cases c2 : m1 = m2
      · subst c2
        by_cases c3 : h1 = h2
        · subst c3
          by_cases c4 : x1 = x2
          · subst c4
            rw [lr_ttl]
            go_enter Tryz.func182, Tryz.ntmps182
            go_wp2
            all_goals go_ret
            exact ⟨rfl, boxed _ _ _⟩
          · rw [lr_text c4]
            obtain ⟨k1, k2, k3, k4⟩ := bq _ _ c4
            clear c4
            go_enter Tryz.func182, Tryz.ntmps182
            go_wp2
            all_goals go_ret
            exact ⟨by simp [ByteArray.toList_eq], boxed _ _ _⟩
        · rw [lr_host c3]
          obtain ⟨k1, k2, k3, k4⟩ := bq _ _ c3
          clear c3
          go_enter Tryz.func182, Tryz.ntmps182
          go_wp2_with fail
          refine (Less.spec h1 h2 _ a2 b2).mono ?_
          rintro e w1 ⟨rfl, hl⟩
          have L := Lib.hid ((boxed _ _ _).trans (hl.mono (boxed _ _ _).size))
          clear hl k1 k2 k3 k4
          go_wp2
          go_ret
          exact ⟨rfl, L.out⟩
      · rw [lr_n c2]
        have k1 : (m1 == m2) = false := beq_eq_false_iff_ne.2 c2
        have k2 : (m1 != m2) = true := by rw [bne_iff_ne]; exact c2
        clear c2
        go_enter Tryz.func182, Tryz.ntmps182
        go_wp2
        all_goals go_ret
        exact ⟨rfl, boxed _ _ _⟩
    · rw [lr_ty c1]
      have k1 : (t1 == t2) = false := beq_eq_false_iff_ne.2 c1
      have k2 : (t1 != t2) = true := by rw [bne_iff_ne]; exact c1
      clear c1
      go_enter Tryz.func182, Tryz.ntmps182
      go_wp2
      all_goals go_ret
      exact ⟨rfl, boxed _ _ _⟩
  · rw [lr_name c0]
    obtain ⟨k1, k2, k3, k4⟩ := bq _ _ c0
    clear c0
    go_enter Tryz.func182, Tryz.ntmps182
    go_wp2_with fail
    refine (Less.spec n1 n2 _ a1 b1).mono ?_
    rintro e w1 ⟨rfl, hl⟩
    have L := Lib.hid ((boxed _ _ _).trans (hl.mono (boxed _ _ _).size))
    clear hl k1 k2 k3 k4
    go_wp2
    go_ret
    exact ⟨rfl, L.out⟩

set_option maxHeartbeats 4000000 in
theorem impl (a b : Rec) (w : World) (he : Env w) (ha : Fine a) (hb : Fine b) : Calls Tryz.prog 213 #[.agg #[.string a.name, .int .i64 a.ty, .int .i64 a.ttl, .int .i64 a.n, .string a.host, .string a.text], .agg #[.string b.name, .int .i64 b.ty, .int .i64 b.ttl, .int .i64 b.n, .string b.host, .string b.text]] w fun e w' => e = .returned (.bool (lr a b)) ∧ Below w.heap.size w w' := by
  have HE := Lib.hid he
  clear he
  obtain ⟨n1, t1, l1, m1, h1, x1⟩ := a
  obtain ⟨n2, t2, l2, m2, h2, x2⟩ := b
  obtain ⟨a1, a2⟩ := ha
  obtain ⟨b1, b2⟩ := hb
  simp only at a1 a2 b1 b2 ⊢
  by_cases c0 : n1 = n2
  · subst c0
    by_cases c1 : t1 = t2
    · subst c1
      by_cases c2 : m1 = m2
      · subst c2
        by_cases c3 : h1 = h2
        · subst c3
          by_cases c4 : x1 = x2
          · subst c4
            rw [lr_ttl]
            go_enter Tryz.func213, Tryz.ntmps213
            go_wp2
            all_goals go_ret
            exact ⟨rfl, boxed _ _ _⟩
          · rw [lr_text c4]
            obtain ⟨k1, k2, k3, k4⟩ := bq _ _ c4
            clear c4
            go_enter Tryz.func213, Tryz.ntmps213
            go_wp2
            all_goals go_ret
            exact ⟨by simp [ByteArray.toList_eq], boxed _ _ _⟩
        · rw [lr_host c3]
          obtain ⟨k1, k2, k3, k4⟩ := bq _ _ c3
          clear c3
          go_enter Tryz.func213, Tryz.ntmps213
          go_wp2_with fail
          refine (Less.impl h1 h2 _ (HE.out.below (boxed _ _ _)) a2 b2).mono ?_
          rintro e w1 ⟨rfl, hl⟩
          have L := Lib.hid ((boxed _ _ _).trans (hl.mono (boxed _ _ _).size))
          clear hl k1 k2 k3 k4
          go_wp2
          go_ret
          exact ⟨rfl, L.out⟩
      · rw [lr_n c2]
        have k1 : (m1 == m2) = false := beq_eq_false_iff_ne.2 c2
        have k2 : (m1 != m2) = true := by rw [bne_iff_ne]; exact c2
        clear c2
        go_enter Tryz.func213, Tryz.ntmps213
        go_wp2
        all_goals go_ret
        exact ⟨rfl, boxed _ _ _⟩
    · rw [lr_ty c1]
      have k1 : (t1 == t2) = false := beq_eq_false_iff_ne.2 c1
      have k2 : (t1 != t2) = true := by rw [bne_iff_ne]; exact c1
      clear c1
      go_enter Tryz.func213, Tryz.ntmps213
      go_wp2
      all_goals go_ret
      exact ⟨rfl, boxed _ _ _⟩
  · rw [lr_name c0]
    obtain ⟨k1, k2, k3, k4⟩ := bq _ _ c0
    clear c0
    go_enter Tryz.func213, Tryz.ntmps213
    go_wp2_with fail
    refine (Less.impl n1 n2 _ (HE.out.below (boxed _ _ _)) a1 b1).mono ?_
    rintro e w1 ⟨rfl, hl⟩
    have L := Lib.hid ((boxed _ _ _).trans (hl.mono (boxed _ _ _).size))
    clear hl k1 k2 k3 k4
    go_wp2
    go_ret
    exact ⟨rfl, L.out⟩

end Go.Proofs.YtmkcjjgicinggaaGreatDoor.LessR
