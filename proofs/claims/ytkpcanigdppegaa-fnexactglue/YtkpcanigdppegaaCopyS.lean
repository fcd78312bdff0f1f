/- What the law's own helpers toStringS, eqStringS and szStringS do: a new slice with the same texts; true at slices that read the same; a number that is not negative only where there are few texts and bytes. Condition: fewer than 400000001 texts. -/
import Derived.Test.YtkpcanigdppegaaMemS
import Derived.Deep.QuietTactic
import Derived.BigQuiet
namespace Go.Proofs.Ytkpcanigdppegaa.CopyS
open Go.RowKit Go.Proofs.Ytkpcanigdppegaa.Mem Go.Proofs.Ytkpcanigdppegaa.MemS

theorem info : (Try.prog.info? 9).map (fun i => (i.zero, i.size, i.bytes)) = some (some (.string ⟨#[]⟩), 1, 16) := by kernel_rfl

theorem made (n : Nat) (v : Value) : (madeCells #[v] n).toList = List.replicate n v := by
  simp only [madeCells, Array.toList_map, Array.toList_range]
  rw [List.eq_replicate_iff]
  refine ⟨by simp, fun b hb => ?_⟩
  obtain ⟨x, _, rfl⟩ := List.mem_map.1 hb
  simp [Nat.mod_one]

theorem step_list (l : List ByteArray) (v : Value) (k n : Nat) (hn : l.length = n) (hk : k < n) :
    ((l.take k).map tv ++ List.replicate (n - k) v).set k (Value.string (l[k]'(by omega))) = (l.take (k + 1)).map tv ++ List.replicate (n - (k + 1)) v := by
  rw [List.set_append_right _ _ (by simp; omega)]
  have h1 : k - ((l.take k).map tv).length = 0 := by simp; omega
  rw [h1, show n - k = (n - (k + 1)) + 1 by omega, List.replicate_succ, List.set_cons_zero, List.take_succ_eq_append_getElem (by omega), List.map_append, List.append_assoc]
  rfl

theorem at_list (l : List ByteArray) (v : Value) (k n : Nat) (hn : l.length = n) (hk : k < n) : ((l.take k).map tv ++ List.replicate (n - k) v)[k]? = some v := by
  rw [List.getElem?_append_right (by simp; omega)]
  have h1 : k - ((l.take k).map tv).length = 0 := by simp; omega
  rw [h1, show n - k = (n - (k + 1)) + 1 by omega, List.replicate_succ]
  rfl

set_option maxHeartbeats 400000 in
theorem toStringS_any (A : Option Addr) (n c : Nat) (l : List ByteArray) (w : World) (hs : Ss w w.heap.size A n l) (hn : n ≤ 400000000) :
    Calls Try.prog 23 #[.slice A n c] w fun e w' => e = .returned (.slice (some ⟨w.heap.size, 0, none⟩) n n) ∧ Bk w' w.heap.size 9 (l.map tv) ∧ Below w.heap.size w w' := by
  obtain ⟨i0, hi, hz0, hz1, hz2⟩ := info_parts info
  have hlen := hs.1
  have HL := Lib.hid hlen
  clear hlen
  go_enter Try.func23, Try.ntmps23
  go_wp2_with (at_make; refine wpList_make_full _ rfl _ _ 40 rfl w.heap.size 9 i0 (.string ⟨#[]⟩) 1 Try.underlying40 hi hz0 hz1 .i64 .i64 _ _ n rfl rfl ?c0 ?c1 ?c2 ?c3 ?c4 ?_)
  case c0 => rfl
  case c1 => rfl
  case c2 => rw [hz2]; omega
  case c3 => unfold maxLen; omega
  case c4 => exact Nat.le_refl _
  intro w1 hown hgrow
  obtain ⟨r, hb0, hlen0, _⟩ := bk_of_owns hown
  rw [made] at hb0 hlen0
  have hr : r = [] := by
    have : (List.replicate n (Value.string ⟨#[]⟩)).length + r.length = n := by rw [← List.length_append]; exact hlen0
    simp at this; exact this
  subst hr
  have hbel : Below w.heap.size w w1 := (Below.refl _ _).grown hgrow (Nat.le_refl _) (fun k hk => by cases hk)
  have HB0 := Lib.hid hb0
  clear hb0 hown hgrow hlen0
  go_wp2
  go_loopw [4] (fun i wr => ∃ k : Nat, k ≤ n ∧ i = .int .i64 k ∧ Hid (Bk wr w.heap.size 9 ((l.take k).map tv ++ List.replicate (n - k) (Value.string ⟨#[]⟩))) ∧ Below w.heap.size w wr) (fun i _ => n - (intOf i).toNat)
  case atStart => exact ⟨0, Nat.zero_le _, rfl, by simpa [Hid] using HB0.out, hbel⟩
  case round =>
    obtain ⟨k, hk, rfl, HB, hbl⟩ := hrel
    clear hbel HB0
    by_cases hlt : k < n
    · obtain ⟨b, off, rfl, hbB, hcs⟩ := hs.2 (by omega)
      have hkl : k < l.length := by rw [HL.out]; exact hlt
      have hx : wr.cell? ⟨b, off + k, none⟩ = some (.string l[k]) := (hbl.cell (p := ⟨b, off + k, none⟩) hbB).trans (hcs k hkl)
      have hy : wr.cell? ⟨w.heap.size, k, none⟩ = some (.string ⟨#[]⟩) := by rw [HB.out.cell]; exact at_list l _ k n HL.out hlt
      have hf : wr.frozen? ⟨w.heap.size, k, none⟩ = false := HB.out.free k
      clear hcs hs
      go_wp2
      go_roundw
      case rel => exact ⟨k + 1, by omega, by go_num, by have := HB.out.set k (.string l[k]); rw [step_list l _ k n HL.out hlt] at this; exact this, hbl.setCell (Nat.le_refl _) _⟩
      case measure => simp [intOf]; omega
    · have hkn : k = n := by omega
      subst hkn
      go_wp2
      go_ret
      refine ⟨rfl, ?_, hbl⟩
      have := HB.out
      rw [List.take_of_length_le (by rw [HL.out]; omega)] at this
      simpa using this
end Go.Proofs.Ytkpcanigdppegaa.CopyS
