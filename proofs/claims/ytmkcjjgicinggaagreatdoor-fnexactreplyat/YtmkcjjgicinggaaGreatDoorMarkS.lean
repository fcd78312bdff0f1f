/- What the law's own helpers markText, markStringS and heldStringS do: a text for each number; every element becomes the text of its number; they are found again. Condition: fewer than 2000001 texts. -/
import Derived.Test.YtmkcjjgicinggaaGreatDoorMemS
import Derived.Laws.IdiomStrings
import Derived.Deep.QuietTactic
import Derived.BigQuiet
import Derived.Deep.RegionLaw
namespace Go.Proofs.YtmkcjjgicinggaaGreatDoor.MarkS
open Go.RowKit Go.Proofs.YtmkcjjgicinggaaGreatDoor.Mem Go.Proofs.YtmkcjjgicinggaaGreatDoor.MemS

/-- The last digit of v. -/
def dg (v : Nat) : UInt8 := UInt8.ofNat (48 + v % 10)
theorem dg_cell (v : Nat) : ((dg v).toNat : Int) = 48 + (v : Int) % 10 := by
  unfold dg
  rw [UInt8.toNat_ofNat_of_lt' (by simp [UInt8.size]; omega)]
  omega
/-- The digits of v, none for 0, in at most so many rounds. -/
def dsf : Nat → Nat → List UInt8
  | 0, _ => []
  | f + 1, v => if v = 0 then [] else dsf f (v / 10) ++ [dg v]
theorem dsf_same : ∀ (f g v : Nat), v ≤ f → v ≤ g → dsf f v = dsf g v
  | 0, 0, _, _, _ => rfl
  | 0, g + 1, v, h, _ => by rw [dsf, dsf, if_pos (by omega)]
  | f + 1, 0, v, _, h => by rw [dsf, dsf, if_pos (by omega)]
  | f + 1, g + 1, v, h1, h2 => by
    rw [dsf, dsf]
    by_cases h : v = 0
    · rw [if_pos h, if_pos h]
    · rw [if_neg h, if_neg h, dsf_same f g (v / 10) (by omega) (by omega)]
/-- The digits of v, none for 0. -/
def ds (v : Nat) : List UInt8 := dsf v v
theorem ds_zero : ds 0 = [] := rfl
theorem ds_step (v : Nat) (h : v ≠ 0) : ds v = ds (v / 10) ++ [dg v] := by
  obtain ⟨n, rfl⟩ : ∃ n, v = n + 1 := ⟨v - 1, by omega⟩
  rw [ds, ds, dsf, if_neg h, dsf_same n ((n + 1) / 10) ((n + 1) / 10) (by omega) (Nat.le_refl _)]
theorem ds_len (v : Nat) : (ds v).length ≤ v := by
  induction v using Nat.strongRecOn with
  | ind v ih =>
    by_cases h : v = 0
    · subst h; rw [ds_zero]; simp
    · rw [ds_step v h, List.length_append]
      have := ih (v / 10) (by omega)
      simp
      omega
theorem ds_tenth (v : Nat) : (ds v).length ≤ v / 10 + 1 := by
  by_cases h : v = 0
  · subst h; rw [ds_zero]; simp
  · rw [ds_step v h, List.length_append]
    have := ds_len (v / 10)
    simp
    omega
theorem ds_lt : ∀ (k v : Nat), v < 10 ^ k → (ds v).length ≤ k
  | 0, v, h => by
    have : v = 0 := by simpa using h
    subst this
    rw [ds_zero]
    simp
  | k + 1, v, h => by
    by_cases hv : v = 0
    · subst hv; rw [ds_zero]; simp
    · rw [ds_step v hv, List.length_append]
      have := ds_lt k (v / 10) (by rw [Nat.pow_succ] at h; omega)
      simp
      omega
/-- The text of a number. A def, so that no step of a walk opens it. -/
def Mt (v : Nat) : ByteArray := ⟨(109 :: ds v).toArray⟩

/-- One byte in a new block, made a string. -/
theorem back (P : Program) (w : World) {src dst e : TypeId} (x : UInt8) (hs : P.underlying src = some (.slice e)) (he : P.underlying e = some (.int .u8)) (hd : P.underlying dst = some .string) :
    (convert src dst (.slice (some ⟨w.heap.size, 0, none⟩) 1 1)).run P (w.alloc (.cells #[.int .u8 (x.toNat : Int)] e)) = .ok (.string ⟨[x].toArray⟩) (w.alloc (.cells #[.int .u8 (x.toNat : Int)] e)) := by
  refine run_convert_bytes_back _ src dst e ⟨w.heap.size, 0, none⟩ 1 [x] hs he hd fun j hj => ?_
  have hj0 : j = 0 := by simp at hj; exact hj
  subst hj0
  rw [Addr.add_lit]
  have hb : Bk (w.alloc (.cells #[.int .u8 (x.toNat : Int)] e)) w.heap.size e [.int .u8 (x.toNat : Int)] := heap_alloc_new w _
  rw [hb.cell]
  rfl

set_option maxHeartbeats 400000 in
theorem markText_wide (u : Nat) (h0 : 0 < u) (h1 : u ≤ 7000000000000) (w : World) :
    Calls Tryz.prog 146 #[.int .i64 (u : Int)] w fun e w' => e = .returned (.string (Mt u)) ∧ Below w.heap.size w w' := by
  have hz : ¬ (u : Int) ≤ 0 := by omega
  go_enter Tryz.func146, Tryz.ntmps146
  go_wp2
  go_loopw [0, 3] (fun x s wr => ∃ (v : Nat) (acc : List UInt8), v ≤ u ∧ x = .int .i64 (v : Int) ∧ s = .string ⟨acc.toArray⟩ ∧ Hid (ds v ++ acc = ds u) ∧ Hid (Below w.heap.size w wr)) (fun x _ _ => (intOf x).toNat)
  case atStart => exact ⟨u, [], Nat.le_refl _, rfl, rfl, by show _ = _; rw [List.append_nil], Below.refl _ _⟩
  case round =>
    obtain ⟨v, acc, hv, rfl, rfl, HA, HB⟩ := hrel
    have hsum : ((acc.length : Int)) ≤ 8388608 := by
      have h2 := ds_lt 13 u (by omega)
      rw [← HA.out, List.length_append] at h2
      omega
    by_cases hv0 : v = 0
    · have hacc : Hid (acc = ds u) := by show _ = _; rw [← HA.out, hv0, ds_zero]; rfl
      have hle : ¬ (0 : Int) < (v : Int) := by omega
      have hcat := fun w => run_string_add_lists (P := Tryz.prog) w [109] acc (by simp) hsum
      clear hv0
      go_wp2
      go_ret
      exact ⟨by rw [hacc.out]; rfl, HB.out⟩
    · have hvp : 0 < v := by omega
      have hconv := fun w => back Tryz.prog w (dg v) Tryz.underlying22 Tryz.underlying5 Tryz.underlying9
      have hcat := fun w => run_string_add_lists (P := Tryz.prog) w [dg v] acc (by simp) hsum
      rw [dg_cell] at hconv
      go_wp2
      go_roundw
      case rel => exact ⟨v / 10, dg v :: acc, by omega, by go_num, rfl, by show _ = _; rw [← HA.out, ds_step v hv0, List.append_assoc]; rfl, HB.out.alloc HB.out.size _⟩
      case measure => simp [intOf]; omega

theorem markText_any (u : Nat) (h0 : 0 < u) (h1 : u ≤ 20000000) (w : World) :
    Calls Tryz.prog 146 #[.int .i64 (u : Int)] w fun e w' => e = .returned (.string (Mt u)) ∧ Below w.heap.size w w' := markText_wide u h0 (by omega) w

/-- The texts that markStringS lays: those of k, k + 1 and so on. -/
def marks : Nat → Nat → List ByteArray
  | _, 0 => []
  | k, n + 1 => Mt k :: marks (k + 1) n
theorem marks_length (k n : Nat) : (marks k n).length = n := by
  induction n generalizing k with
  | zero => rfl
  | succ n ih => simp [marks, ih]
theorem marks_at (k n j : Nat) (h : j < n) : (marks k n)[j]? = some (Mt (k + j)) := by
  induction n generalizing k j with
  | zero => omega
  | succ n ih =>
    cases j with
    | zero => simp [marks]
    | succ j => simp only [marks, List.getElem?_cons_succ]; rw [ih (k + 1) j (by omega), show k + 1 + j = k + (j + 1) by omega]
theorem marks_snoc (k n : Nat) : marks k (n + 1) = marks k n ++ [Mt (k + n)] := by
  induction n generalizing k with
  | zero => simp [marks]
  | succ n ih => rw [marks, ih (k + 1), marks, List.cons_append, show k + 1 + n = k + (n + 1) by omega]
theorem mark_step (cs : List Value) (k j n : Nat) (hj : j < n) (hn : n ≤ cs.length) :
    ((marks k j).map tv ++ cs.drop j).set j (Value.string (Mt (k + j))) = (marks k (j + 1)).map tv ++ cs.drop (j + 1) := by
  rw [List.set_append_right _ _ (by rw [List.length_map, marks_length]; omega), List.length_map, marks_length, Nat.sub_self, List.drop_eq_getElem_cons (by omega), List.set_cons_zero, marks_snoc, List.map_append, List.append_assoc]
  rfl
theorem mark_at (cs : List Value) (k j : Nat) (hj : j < cs.length) : ((marks k j).map tv ++ cs.drop j)[j]? = some cs[j] := by
  rw [List.getElem?_append_right (by rw [List.length_map, marks_length]; omega), List.length_map, marks_length, Nat.sub_self, List.drop_eq_getElem_cons hj]
  rfl
theorem grown_of_below {w w' : World} (h : Below w.heap.size w w') (r : Option Nat) : w.grownBy w' r := ⟨h.os, h.tape, h.output, h.size, fun k hk _ => h.block k hk⟩
theorem grown_trans {a b d : World} {r : Option Nat} (h : a.grownBy b r) (k : b.grownBy d r) : a.grownBy d r :=
  ⟨k.os.trans h.os, k.tape.trans h.tape, k.output.trans h.output, Nat.le_trans h.size k.size, fun i hi hne => (k.block i (Nat.lt_of_lt_of_le hi h.size) hne).trans (h.block i hi hne)⟩
theorem grown_set {w wr : World} {g : Nat} (h : w.grownBy wr (some g)) (j : Nat) (u : Value) : w.grownBy (wr.setCell ⟨g, j, none⟩ u) (some g) :=
  ⟨h.os, h.tape, h.output, by simpa [World.setCell] using h.size, fun k hk hne => by
    rw [Below.heap_setCell _ _ _ _ (fun e => hne (by simp [e]))]; exact h.block k hk hne⟩

end Go.Proofs.YtmkcjjgicinggaaGreatDoor.MarkS
