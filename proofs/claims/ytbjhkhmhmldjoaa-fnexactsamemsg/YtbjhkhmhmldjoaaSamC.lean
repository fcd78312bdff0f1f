/- Some ways of SameMsg. -/
import Derived.Test.YtbjhkhmhmldjoaaSamM
namespace Go.Proofs.Ytbjhkhmhmldjoaa.SamC
open Go.RowKit Go.Proofs.Ytbjhkhmhmldjoaa.Mem Go.Proofs.Ytbjhkhmhmldjoaa.MemR Go.Proofs.Ytbjhkhmhmldjoaa.BoxR Go.Proofs.Ytbjhkhmhmldjoaa.MemM Go.Proofs.Ytbjhkhmhmldjoaa.ResM Go.Proofs.Ytbjhkhmhmldjoaa.SameR Go.Proofs.Ytbjhkhmhmldjoaa.SamM

set_option maxRecDepth 100000 in
set_option maxHeartbeats 4000000 in
theorem sp_f6 (ia : Int) (pa : Bool) (qa : Bool) (ra : Bool) (sa : Bool) (ta : Bool) (da : Int) (nma : ByteArray) (tya : Int) (db : Int) (nmb : ByteArray) (tyb : Int) (A1 A1' : Option Addr) (n1 n1' c1 c1' : Nat) (A2 A2' : Option Addr) (n2 n2' c2 c2' : Nat) (A3 A3' : Option Addr) (n3 n3' c3 c3' : Nat) (w : World) (c : ¬ da = db) : Calls Try.prog 8 #[.agg #[.int .i64 ia, .bool pa, .bool qa, .bool ra, .bool sa, .bool ta, .int .i64 da, .string nma, .int .i64 tya, .slice A1 n1 c1, .slice A2 n2 c2, .slice A3 n3 c3], .agg #[.int .i64 ia, .bool pa, .bool qa, .bool ra, .bool sa, .bool ta, .int .i64 db, .string nmb, .int .i64 tyb, .slice A1' n1' c1', .slice A2' n2' c2', .slice A3' n3' c3']] w fun e w' => e = .returned (.bool false) ∧ Below w.heap.size w w' := by
  have kk := beq_eq_false_iff_ne.2 c
  go_enter Try.func8, Try.ntmps8
  go_wp2
  go_ret
  exact ⟨rfl, ((Below.refl _ _).alloc (Nat.le_refl _) _).alloc (by simp) _⟩

set_option maxRecDepth 100000 in
set_option maxHeartbeats 4000000 in
theorem sp_f7 (ia : Int) (pa : Bool) (qa : Bool) (ra : Bool) (sa : Bool) (ta : Bool) (da : Int) (nma : ByteArray) (tya : Int) (nmb : ByteArray) (tyb : Int) (A1 A1' : Option Addr) (n1 n1' c1 c1' : Nat) (A2 A2' : Option Addr) (n2 n2' c2 c2' : Nat) (A3 A3' : Option Addr) (n3 n3' c3 c3' : Nat) (w : World) (c : ¬ (nma = nmb ∧ tya = tyb)) : Calls Try.prog 8 #[.agg #[.int .i64 ia, .bool pa, .bool qa, .bool ra, .bool sa, .bool ta, .int .i64 da, .string nma, .int .i64 tya, .slice A1 n1 c1, .slice A2 n2 c2, .slice A3 n3 c3], .agg #[.int .i64 ia, .bool pa, .bool qa, .bool ra, .bool sa, .bool ta, .int .i64 da, .string nmb, .int .i64 tyb, .slice A1' n1' c1', .slice A2' n2' c2', .slice A3' n3' c3']] w fun e w' => e = .returned (.bool false) ∧ Below w.heap.size w w' := by
  have kk := eqlQ_diff c
  have hg := grdQ
  clear c
  go_enter Try.func8, Try.ntmps8
  go_wp2
  go_ret
  exact ⟨rfl, ((Below.refl _ _).alloc (Nat.le_refl _) _).alloc (by simp) _⟩

end Go.Proofs.Ytbjhkhmhmldjoaa.SamC
