/- What the program's part does: the bytes at an offset, cut out with their capacity, and whether they are there. -/
import Derived.Test.YtkfibepejlgniaaGet
namespace Go.Proofs.Ytkfibepejlgniaa.PartI
open Go.RowKit Go.Proofs.Ytkfibepejlgniaa.Mem Go.Proofs.Ytkfibepejlgniaa.Get

theorem sl_sub {w : World} {B b off n : Nat} {l : List UInt8} (hs : Sl w B (some ⟨b, off, none⟩) n l) (k m : Nat) (h : k + m ≤ n) (hm : 0 < m) : Sl w B (some ⟨b, off + k, none⟩) m ((l.drop k).take m) := by
  have hl := hs.1
  obtain ⟨b', off', e, hb, hc⟩ := hs.2 (by omega)
  simp only [Option.some.injEq, Addr.mk.injEq, and_true] at e
  obtain ⟨rfl, rfl⟩ := e
  refine Sl.of b (off + k) rfl (by rw [List.length_take, List.length_drop]; omega) hb fun j hj => ?_
  rw [List.length_take, List.length_drop] at hj
  have := hc (k + j) (by omega)
  rw [List.getElem_take, List.getElem_drop, Nat.add_assoc]
  exact this
theorem sub2 (l : List UInt8) (k m j : Nat) (h : j + 2 ≤ m) : be ((((l.drop k).take m).drop j).take 2) = be ((l.drop (k + j)).take 2) := by
  rw [List.drop_take, List.take_take, List.drop_drop, Nat.min_eq_left (by omega)]

set_option maxHeartbeats 1000000 in
theorem part_no (A : Option Addr) (n c m : Nat) (k : Int) (w : World) (hn : n ≤ 400000000) (hm : m ≤ 400000000) (hk : (n : Int) - (m : Int) < k) :
    Calls Try.prog 31 #[.slice A n c, .int .i64 k, .int .i64 (m : Int)] w fun e w' => e = .returned (.tuple #[.slice none 0 0, .bool false]) ∧ w = w' := by
  go_enter Try.func31, Try.ntmps31
  go_wp2
  go_ret2
  exact ⟨rfl, rfl⟩

set_option maxHeartbeats 1000000 in
theorem part_yes (b off n c k m : Nat) (w : World) (hnc : n ≤ c) (hn : n ≤ 400000000) (hk : k + m ≤ n) (hm : ¬ m = 0) :
    Calls Try.prog 31 #[.slice (some ⟨b, off, none⟩) n c, .int .i64 (k : Int), .int .i64 (m : Int)] w fun e w' => e = .returned (.tuple #[.slice (some ⟨b, off + k, none⟩) m m, .bool true]) ∧ w = w' := by
  have h1 : ¬ (n : Int) - (m : Int) < (k : Int) := by omega
  go_enter Try.func31, Try.ntmps31
  go_wp2
  go_ret2
  exact ⟨rfl, rfl⟩
end Go.Proofs.Ytkfibepejlgniaa.PartI
