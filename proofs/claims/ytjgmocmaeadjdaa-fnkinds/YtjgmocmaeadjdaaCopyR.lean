/- What the law's own helpers toRecord and toRecordS do: the same record; a new slice with the same records. Condition: fewer than 400000001 records. -/
import Derived.Test.YtjgmocmaeadjdaaMemR
namespace Go.Proofs.Ytjgmocmaeadjdaa.CopyR
open Go.RowKit Go.Proofs.Ytjgmocmaeadjdaa.Mem Go.Proofs.Ytjgmocmaeadjdaa.MemR

theorem info : (Try.prog.info? 56).map (fun i => (i.zero, i.size, i.bytes)) = some (some (.agg #[.string ⟨#[]⟩, .int .i64 0, .int .i64 0, .int .i64 0, .string ⟨#[]⟩, .string ⟨#[]⟩]), 6, 72) := by kernel_rfl

theorem step_list (l : List Rec) (k n : Nat) (hn : l.length = n) (hk : k < n) (h : k < l.length) : (l.take k ++ List.replicate (n - k) zr).set k l[k] = l.take (k + 1) ++ List.replicate (n - (k + 1)) zr := by
  rw [List.set_append_right _ _ (by simp; omega)]
  have h1 : k - (l.take k).length = 0 := by simp; omega
  rw [h1, show n - k = (n - (k + 1)) + 1 by omega, List.replicate_succ, List.set_cons_zero, List.take_succ_eq_append_getElem h, List.append_assoc]
  rfl

end Go.Proofs.Ytjgmocmaeadjdaa.CopyR
