/- What the law's own helper toByteS does: it returns a new slice with the same bytes and turns nothing that was there. Condition: fewer than 400000001 bytes. -/
import Derived.Test.YtlakegeabnjegaaGreatDoorMem
namespace Go.Proofs.YtlakegeabnjegaaGreatDoor.Copy
open Go.RowKit Go.Proofs.YtlakegeabnjegaaGreatDoor.Mem

theorem info : (Tryz.prog.info? 5).map (fun i => (i.zero, i.size, i.bytes)) = some (some (.int .u8 0), 1, 1) := by kernel_rfl

theorem made (n : Nat) : (madeCells #[Value.int .u8 0] n).toList = List.replicate n (Value.int .u8 0) := by
  simp only [madeCells, Array.toList_map, Array.toList_range]
  rw [List.eq_replicate_iff]
  refine ⟨by simp, fun b hb => ?_⟩
  obtain ⟨x, _, rfl⟩ := List.mem_map.1 hb
  simp [Nat.mod_one]

theorem step_list (l : List UInt8) (k n : Nat) (hn : l.length = n) (hk : k < n) :
    ((l.take k).map bv ++ List.replicate (n - k) (Value.int .u8 0)).set k (Value.int .u8 ((l[k]'(by omega)).toNat : Int)) = (l.take (k + 1)).map bv ++ List.replicate (n - (k + 1)) (Value.int .u8 0) := by
  rw [List.set_append_right _ _ (by simp; omega)]
  have h1 : k - ((l.take k).map bv).length = 0 := by simp; omega
  rw [h1, show n - k = (n - (k + 1)) + 1 by omega, List.replicate_succ, List.set_cons_zero, List.take_succ_eq_append_getElem (by omega), List.map_append, List.append_assoc]
  rfl

theorem at_list (l : List UInt8) (k n : Nat) (hn : l.length = n) (hk : k < n) : ((l.take k).map bv ++ List.replicate (n - k) (Value.int .u8 0))[k]? = some (Value.int .u8 0) := by
  rw [List.getElem?_append_right (by simp; omega)]
  have h1 : k - ((l.take k).map bv).length = 0 := by simp; omega
  rw [h1, show n - k = (n - (k + 1)) + 1 by omega, List.replicate_succ]
  rfl

end Go.Proofs.YtlakegeabnjegaaGreatDoor.Copy
