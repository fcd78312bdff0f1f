/- What Fold does in the program and in the model: it returns the text with its large letters made small, byte by byte, and turns nothing that was there. Condition: at most 2^47 bytes. -/
import Derived.Test.YtjgmocmaeadjdaaLabel
import Derived.Laws.IdiomStrings
namespace Go.Proofs.Ytjgmocmaeadjdaa.Fold
open Go.RowKit Go.Proofs.Ytjgmocmaeadjdaa.Mem Go.Proofs.Ytjgmocmaeadjdaa.Label

/-- A large letter made small. -/
def fo (x : UInt8) : UInt8 := if 65 ≤ (x.toNat : Int) ∧ (x.toNat : Int) ≤ 90 then UInt8.ofNat (x.toNat + 32) else x
/-- The text folded. A def, so that no step of a walk opens it. -/
def Fo (s : ByteArray) : ByteArray := ⟨(s.data.toList.map fo).toArray⟩
theorem Fo_list (s : ByteArray) : (Fo s).data.toList = s.data.toList.map fo := by simp [Fo]
theorem Fo_size (s : ByteArray) : (Fo s).size = s.size := by
  show (s.data.toList.map fo).toArray.size = s.data.size
  simp

/-- Folded up to k. -/
def mid (l : List UInt8) (k : Nat) : List UInt8 := (l.take k).map fo ++ l.drop k
theorem mid_len (l : List UInt8) (k : Nat) : (mid l k).length = l.length := by simp [mid]; omega
theorem mid_zero (l : List UInt8) : mid l 0 = l := by simp [mid]
theorem mid_full (l : List UInt8) (k : Nat) (h : l.length ≤ k) : mid l k = l.map fo := by simp [mid, List.take_of_length_le h, List.drop_eq_nil_of_le h]
theorem mid_get (l : List UInt8) (k : Nat) (h : k < l.length) : (mid l k)[k]'(by rw [mid_len]; exact h) = l[k] := by
  unfold mid
  rw [List.getElem_append_right (by simp; omega)]
  simp [Nat.min_eq_left (Nat.le_of_lt h)]
theorem mid_set (l : List UInt8) (k : Nat) (h : k < l.length) : (mid l k).set k (fo l[k]) = mid l (k + 1) := by
  unfold mid
  rw [List.set_append_right _ _ (by simp; omega)]
  have e : k - ((l.take k).map fo).length = 0 := by simp; omega
  rw [e, List.drop_eq_getElem_cons h, List.set_cons_zero, List.take_succ_eq_append_getElem h, List.map_append, List.append_assoc]
  rfl
theorem mid_same (l : List UInt8) (k : Nat) (h : k < l.length) (e : fo l[k] = l[k]) : mid l (k + 1) = mid l k := by
  rw [← mid_set l k h, e]
  apply List.ext_getElem
  · simp
  · intro i h1 h2
    by_cases hi : k = i
    · subst hi; simp [mid_get l k h]
    · simp [hi]

theorem fo_in (x : UInt8) (h : 65 ≤ (x.toNat : Int) ∧ (x.toNat : Int) ≤ 90) : ((fo x).toNat : Int) = (x.toNat : Int) + 32 := by
  rw [fo, if_pos h, UInt8.toNat_ofNat_of_lt' (by simp [UInt8.size]; omega)]; omega
theorem fo_out (x : UInt8) (h : ¬ (65 ≤ (x.toNat : Int) ∧ (x.toNat : Int) ≤ 90)) : fo x = x := by rw [fo, if_neg h]

/-- Block g of w is these bytes and the room r behind them; it bears the mark of a conversion behind its last cell. -/
def Mk (w : World) (g : Nat) (l : List UInt8) (r : List Value) : Prop := w.heap[g]? = some (.cells (l.map bv ++ r).toArray 5 ((l.map bv ++ r).length, (l.map bv ++ r).length + 1))
section
variable {w w' : World} {g k : Nat} {l : List UInt8} {r : List Value}
theorem Mk.cell (h : Mk w g l r) (j : Nat) (hj : j < l.length) : w.cell? ⟨g, j, none⟩ = some (.int .u8 (l[j].toNat : Int)) := by
  rw [cell_of_row w g j _ _ _ h, List.getElem?_toArray, List.getElem?_append_left (by simpa using hj)]
  simp [bv, hj]
theorem Mk.free (h : Mk w g l r) (j : Nat) (hj : j < l.length) : w.frozen? ⟨g, j, none⟩ = false := by
  unfold Mk at h
  simp [World.frozen?, h]
  omega
theorem Mk.set (h : Mk w g l r) (j : Nat) (hj : j < l.length) (x : UInt8) : Mk (w.setCell ⟨g, j, none⟩ (.int .u8 (x.toNat : Int))) g (l.set j x) r := by
  unfold Mk at h ⊢
  have e : (l.set j x).map bv ++ r = (l.map bv ++ r).set j (.int .u8 (x.toNat : Int)) := by
    rw [List.set_append_left _ _ (by simpa using hj), List.map_set]; rfl
  rw [e]
  simp [World.setCell, Array.getElem?_modify, h]
theorem conv (s : ByteArray) (w : World) : ∃ C W1 r, (convert 9 22 (.string s)).run Try.prog w = .ok (.slice (some ⟨w.heap.size, 0, none⟩) s.size C) W1 ∧ Mk W1 w.heap.size s.data.toList r ∧ Below w.heap.size w W1 := by
  refine ⟨_, _, List.replicate (grownCap w s.size 0 5 - s.size) (.int .u8 0), run_bytes_of_string w 9 22 5 s Try.underlying9 Try.underlying22 Try.underlying5, ?_, ?_⟩
  · have e : bytesRow s (grownCap w s.size 0 5) = (s.data.toList.map bv ++ List.replicate (grownCap w s.size 0 5 - s.size) (Value.int .u8 0)).toArray := by
      apply Array.toList_inj.1
      simp [bytesRow]
      exact fun _ _ => rfl
    unfold Mk
    rw [e]
    show (w.heap.push _)[w.heap.size]? = _
    simp
  · exact ((Below.refl _ w).drew).alloc (Nat.le_refl _) _
theorem back (h : Mk w g l r) (n cap : Nat) (hn : l.length = n) : (convert 22 9 (.slice (some ⟨g, 0, none⟩) n cap)).run Try.prog w = .ok (.string ⟨l.toArray⟩) w := by
  subst hn
  exact run_convert_bytes_back w 22 9 5 ⟨g, 0, none⟩ cap l Try.underlying22 Try.underlying5 Try.underlying9 (fun j hj => by rw [Addr.add_lit, Nat.zero_add]; exact h.cell j hj)
end

end Go.Proofs.Ytjgmocmaeadjdaa.Fold
