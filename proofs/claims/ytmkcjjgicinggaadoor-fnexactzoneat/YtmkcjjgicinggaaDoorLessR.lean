/- What LessRecord does in the program and in the model, and compareRecords in the program: the order of records by name, type, number, host, text and time to live. Condition: at most 400000000 bytes in each name and host; for the program: the library's variable internal/bytealg.MaxLen holds an int. -/
import Derived.Test.YtmkcjjgicinggaaDoorLess
import Derived.Test.YtmkcjjgicinggaaDoorMemR
namespace Go.Proofs.YtmkcjjgicinggaaDoor.LessR
open Go.RowKit Go.Proofs.YtmkcjjgicinggaaDoor.Mem Go.Proofs.YtmkcjjgicinggaaDoor.MemS Go.Proofs.YtmkcjjgicinggaaDoor.MemR Go.Proofs.YtmkcjjgicinggaaDoor.Labels Go.Proofs.YtmkcjjgicinggaaDoor.NameMath
open Go.Op (bytesLess)

/-- Which of two records is less. A def, so that no step of a walk opens it. -/
def lr (a b : Rec) : Bool :=
  if a.name.data.toList ≠ b.name.data.toList then Ls a.name b.name else if a.ty ≠ b.ty then decide (a.ty < b.ty) else if a.n ≠ b.n then decide (a.n < b.n) else
  if a.host.data.toList ≠ b.host.data.toList then Ls a.host b.host else if a.text.data.toList ≠ b.text.data.toList then bytesLess a.text.data.toList b.text.data.toList else decide (a.ttl < b.ttl)
/-- The names of a record are not too long. -/
def Fine (r : Rec) : Prop := r.name.size ≤ 400000000 ∧ r.host.size ≤ 400000000

theorem ne_list {p q : ByteArray} (h : p ≠ q) : p.data.toList ≠ q.data.toList := fun e => h (text_ext e)
theorem bq (p q : ByteArray) (h : p ≠ q) : (p.toList == q.toList) = false ∧ (p.data.toList == q.data.toList) = false ∧ (!(p.toList == q.toList)) = true ∧ (!(p.data.toList == q.data.toList)) = true := by
  have e : (p.data.toList == q.data.toList) = false := beq_eq_false_iff_ne.2 (ne_list h)
  refine ⟨by rw [ByteArray.toList_eq, ByteArray.toList_eq]; exact e, e, by rw [ByteArray.toList_eq, ByteArray.toList_eq, e]; rfl, by rw [e]; rfl⟩

section
variable {n1 n2 h1 h2 x1 x2 : ByteArray} {t1 t2 l1 l2 m1 m2 : Int}
theorem lr_name (h : n1 ≠ n2) : lr ⟨n1, t1, l1, m1, h1, x1⟩ ⟨n2, t2, l2, m2, h2, x2⟩ = Ls n1 n2 := if_pos (ne_list h)
theorem lr_ty (h : t1 ≠ t2) : lr ⟨n1, t1, l1, m1, h1, x1⟩ ⟨n1, t2, l2, m2, h2, x2⟩ = decide (t1 < t2) := (if_neg (fun h => h rfl)).trans (if_pos h)
theorem lr_n (h : m1 ≠ m2) : lr ⟨n1, t1, l1, m1, h1, x1⟩ ⟨n1, t1, l2, m2, h2, x2⟩ = decide (m1 < m2) := (if_neg (fun h => h rfl)).trans ((if_neg (fun h => h rfl)).trans (if_pos h))
theorem lr_host (h : h1 ≠ h2) : lr ⟨n1, t1, l1, m1, h1, x1⟩ ⟨n1, t1, l2, m1, h2, x2⟩ = Ls h1 h2 := (if_neg (fun h => h rfl)).trans ((if_neg (fun h => h rfl)).trans ((if_neg (fun h => h rfl)).trans (if_pos (ne_list h))))
theorem lr_text (h : x1 ≠ x2) : lr ⟨n1, t1, l1, m1, h1, x1⟩ ⟨n1, t1, l2, m1, h1, x2⟩ = bytesLess x1.data.toList x2.data.toList :=
  (if_neg (fun h => h rfl)).trans ((if_neg (fun h => h rfl)).trans ((if_neg (fun h => h rfl)).trans ((if_neg (fun h => h rfl)).trans (if_pos (ne_list h)))))
theorem lr_ttl : lr ⟨n1, t1, l1, m1, h1, x1⟩ ⟨n1, t1, l2, m1, h1, x1⟩ = decide (l1 < l2) :=
  (if_neg (fun h => h rfl)).trans ((if_neg (fun h => h rfl)).trans ((if_neg (fun h => h rfl)).trans ((if_neg (fun h => h rfl)).trans (if_neg (fun h => h rfl)))))
end

theorem boxed (w : World) (o p : Obj) : Below w.heap.size w ((w.alloc o).alloc p) := ((Below.refl _ _).alloc (Nat.le_refl _) _).alloc (by simp) _

end Go.Proofs.YtmkcjjgicinggaaDoor.LessR
