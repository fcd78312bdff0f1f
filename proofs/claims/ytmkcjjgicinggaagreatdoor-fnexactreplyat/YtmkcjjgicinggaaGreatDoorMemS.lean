/- Plain facts on memory: what a slice of texts reads as. -/
import Derived.Test.YtmkcjjgicinggaaGreatDoorMem
namespace Go.Proofs.YtmkcjjgicinggaaGreatDoor.MemS
open Go.RowKit Go.Proofs.YtmkcjjgicinggaaGreatDoor.Mem

theorem text_ext {a b : ByteArray} (h : a.data.toList = b.data.toList) : a = b := by
  cases a; cases b; congr; exact Array.toList_inj.1 h
theorem text_add (a b : ByteArray) : (a ++ b).data.toList = a.data.toList ++ b.data.toList := by simp [ByteArray.data_append]
theorem le_sum : ∀ (l : List Nat) (x : Nat), x ∈ l → x ≤ l.sum
  | y :: l, x, h => by
    rw [List.sum_cons]
    rcases List.mem_cons.1 h with rfl | h
    · omega
    · have := le_sum l x h; omega
/-- A text as the cell that holds it. -/
def tv (x : ByteArray) : Value := .string x
theorem tv_get (l : List ByteArray) (j : Nat) (h : j < l.length) : (l.map tv)[j]? = some (.string l[j]) := by simp [tv, h]

/-- The slice with address A and n elements reads, in w, as the texts l, all of them in a block below B. -/
def Ss (w : World) (B : Nat) (A : Option Addr) (n : Nat) (l : List ByteArray) : Prop :=
  l.length = n ∧ (0 < n → ∃ b off, A = some ⟨b, off, none⟩ ∧ b < B ∧ ∀ j (h : j < l.length), w.cell? ⟨b, off + j, none⟩ = some (.string l[j]))

section
variable {w w' : World} {B B' n g : Nat} {A : Option Addr} {l : List ByteArray} {t : TypeId}
theorem Ss.len (h : Ss w B A n l) : l.length = n := h.1
theorem Ss.nil : Ss w B A 0 [] := ⟨rfl, fun h => absurd h (Nat.lt_irrefl _)⟩
theorem Ss.of (b off : Nat) (hA : A = some ⟨b, off, none⟩) (hn : l.length = n) (hb : b < B) (hc : ∀ j (h : j < l.length), w.cell? ⟨b, off + j, none⟩ = some (.string l[j])) : Ss w B A n l :=
  ⟨hn, fun _ => ⟨b, off, hA, hb, hc⟩⟩
theorem Ss.move (h : Ss w B A n l) (hk : ∀ p : Addr, p.block < B → w'.cell? p = w.cell? p) : Ss w' B A n l := by
  refine ⟨h.1, fun hn => ?_⟩
  obtain ⟨b, off, hA, hb, hc⟩ := h.2 hn
  exact ⟨b, off, hA, hb, fun j hj => (hk _ hb).trans (hc j hj)⟩
theorem Ss.below (h : Ss w B A n l) (hb : Below B w w') : Ss w' B A n l := h.move fun _ hp => hb.cell hp
theorem Ss.wider (h : Ss w B A n l) (hB : B ≤ B') : Ss w B' A n l := by
  refine ⟨h.1, fun hn => ?_⟩
  obtain ⟨b, off, hA, hb, hc⟩ := h.2 hn
  exact ⟨b, off, hA, Nat.lt_of_lt_of_le hb hB, hc⟩
/-- A block of texts with room behind, read as a slice over its head. -/
theorem bk_ss {r : List Value} (h : Bk w g t (l.map tv ++ r)) : Ss w (g + 1) (some ⟨g, 0, none⟩) l.length l := by
  refine Ss.of g 0 rfl rfl (Nat.lt_succ_self _) fun j hj => ?_
  rw [Nat.zero_add, h.cell j, List.getElem?_append_left (by simpa using hj), tv_get l j hj]
theorem bk_ss0 (h : Bk w g t (l.map tv)) : Ss w (g + 1) (some ⟨g, 0, none⟩) l.length l := bk_ss (r := []) (by rw [List.append_nil]; exact h)
/-- ... and all of it in this world's memory. -/
theorem bk_ssw {r : List Value} (h : Bk w g t (l.map tv ++ r)) (hn : l.length = n) : Ss w w.heap.size (some ⟨g, 0, none⟩) n l := hn ▸ ((bk_ss h).wider h.lt)
theorem bk_ssw0 (h : Bk w g t (l.map tv)) (hn : l.length = n) : Ss w w.heap.size (some ⟨g, 0, none⟩) n l := hn ▸ ((bk_ss0 h).wider h.lt)
end
end Go.Proofs.YtmkcjjgicinggaaGreatDoor.MemS
