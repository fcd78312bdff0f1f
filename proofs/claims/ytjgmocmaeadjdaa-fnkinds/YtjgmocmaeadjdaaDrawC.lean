/- What the model's drawing functions do: whatever the code, they return numbers in their ranges and new slices of bytes, and write nothing but their own cursor. -/
import Derived.Test.YtjgmocmaeadjdaaMem
import Derived.Deep.QuietTactic
import Derived.BigQuiet
namespace Go.Proofs.Ytjgmocmaeadjdaa.Draw
open Go.RowKit Go.Proofs.Ytjgmocmaeadjdaa.Mem

/-- A cursor over bytes that lie below it. -/
def Cur (w : World) (g : Nat) : Prop :=
  ∃ (A : Option Addr) (n c : Nat) (l : List UInt8) (i : Nat) (h : Int), Bk w g 70 [.slice A n c, .int .i64 (i : Int), .int .i64 h] ∧ i ≤ n ∧ n ≤ 1048576 ∧ Sl w g A n l

/-- A number within bounds, the cursor moved, nothing else turned. -/
def Num (w : World) (g : Nat) (lo hi : Int) (e : Ending) (w' : World) : Prop :=
  ∃ x : Int, e = .returned (.int .i64 x) ∧ lo ≤ x ∧ x < hi ∧ Cur w' g ∧ w.grownBy w' (some g)

theorem grown_trans {a b d : World} {r : Option Nat} (h : a.grownBy b r) (k : b.grownBy d r) : a.grownBy d r :=
  ⟨k.os.trans h.os, k.tape.trans h.tape, k.output.trans h.output, Nat.le_trans h.size k.size, fun i hi hne => (k.block i (Nat.lt_of_lt_of_le hi h.size) hne).trans (h.block i hi hne)⟩
theorem grown_drewN {a b : World} {r : Option Nat} (h : a.grownBy b r) (k : Nat) : a.grownBy (b.drewN k) r := ⟨h.os, h.tape, h.output, h.size, h.block⟩
theorem grown_refl (a : World) (r : Option Nat) : a.grownBy a r := ⟨rfl, rfl, rfl, Nat.le_refl _, fun _ _ _ => rfl⟩
theorem grown_set {w wr : World} {g : Nat} (h : w.grownBy wr (some g)) (j : Nat) (u : Value) : w.grownBy (wr.setCell ⟨g, j, none⟩ u) (some g) :=
  ⟨h.os, h.tape, h.output, by simpa [World.setCell] using h.size, fun k hk hne => by
    rw [Below.heap_setCell _ _ _ _ (fun e => hne (by simp [e]))]; exact h.block k hk hne⟩

/-- A mask of eight bits leaves a byte, whatever stood there. -/
theorem mask8 (y : Int) : 0 ≤ bits .and .i64 y 255 ∧ bits .and .i64 y 255 < 256 := by
  have h : bits .and .i64 y 255 = IntKind.i64.wrap ((BitVec.ofInt 64 y &&& BitVec.ofInt 64 255).toNat : Int) := rfl
  rw [h, BitVec.toNat_and]
  have h2 : (BitVec.ofInt 64 y).toNat &&& (BitVec.ofInt 64 255).toNat ≤ 255 := Nat.le_trans Nat.and_le_right (by decide)
  rw [IntKind.wrap_i64]
  omega
theorem mask30 (y : Int) : 0 ≤ bits .and .i64 y 1073741823 ∧ bits .and .i64 y 1073741823 < 1073741824 := by
  have h : bits .and .i64 y 1073741823 = IntKind.i64.wrap ((BitVec.ofInt 64 y &&& BitVec.ofInt 64 1073741823).toNat : Int) := rfl
  rw [h, BitVec.toNat_and]
  have h2 : (BitVec.ofInt 64 y).toNat &&& (BitVec.ofInt 64 1073741823).toNat ≤ 1073741823 := Nat.le_trans Nat.and_le_right (by decide)
  rw [IntKind.wrap_i64]
  omega

/-- The cursor behind a store into it. -/
theorem set_h {w : World} {g i n c : Nat} {A : Option Addr} {h h2 : Int} {l : List UInt8} (hb : Bk w g 70 [.slice A n c, .int .i64 (i : Int), .int .i64 h]) (hs : Sl w g A n l) :
    Bk (w.setCell ⟨g, 2, none⟩ (.int .i64 h2)) g 70 [.slice A n c, .int .i64 (i : Int), .int .i64 h2] ∧ Sl (w.setCell ⟨g, 2, none⟩ (.int .i64 h2)) g A n l ∧ w.grownBy (w.setCell ⟨g, 2, none⟩ (.int .i64 h2)) (some g) :=
  ⟨hb.set 2 _, hs.move fun _ hp => World.cell?_of_block (Below.heap_setCell _ _ _ _ (Nat.ne_of_lt hp)), grown_set (grown_refl _ _) _ _⟩
theorem set_i {w : World} {g i j n c : Nat} {A : Option Addr} {h : Int} {l : List UInt8} (hb : Bk w g 70 [.slice A n c, .int .i64 (i : Int), .int .i64 h]) (hs : Sl w g A n l) :
    Bk (w.setCell ⟨g, 1, none⟩ (.int .i64 (j : Int))) g 70 [.slice A n c, .int .i64 (j : Int), .int .i64 h] ∧ Sl (w.setCell ⟨g, 1, none⟩ (.int .i64 (j : Int))) g A n l ∧ w.grownBy (w.setCell ⟨g, 1, none⟩ (.int .i64 (j : Int))) (some g) :=
  ⟨hb.set 1 _, hs.move fun _ hp => World.cell?_of_block (Below.heap_setCell _ _ _ _ (Nat.ne_of_lt hp)), grown_set (grown_refl _ _) _ _⟩

set_option maxHeartbeats 1000000 in
theorem l1Byte_any (g : Nat) (w : World) (hc : Cur w g) : Calls Try.prog 48 #[.pointer (some ⟨g, 0, none⟩)] w (Num w g 0 256) := by
  obtain ⟨A, n, c, l, i, h, hb, hi, hn, hs⟩ := hc
  have hx2 : w.cell? ⟨g, 2, none⟩ = some (.int .i64 h) := by rw [hb.cell]; rfl
  have hf2 : w.frozen? ⟨g, 2, none⟩ = false := hb.free 2
  have HH : Hid (∀ h2, _) := fun h2 => set_h (h2 := h2) hb hs
  clear hb hs
  go_enter Try.func48, Try.ntmps48
  go_wp2
  generalize wrap64 (wrap64 (h * 6364136223846793005) + 1442695040888963407) = h2
  generalize wrap64 (h * 6364136223846793005) = h3
  obtain ⟨hb, hs, hg⟩ := HH.out h2
  clear HH hx2 hf2
  generalize w.setCell ⟨g, 2, none⟩ (.int .i64 h2) = w2 at *
  have hx0 : w2.cell? ⟨g, 0, none⟩ = some (.slice A n c) := by rw [hb.cell]; rfl
  have hx1 : w2.cell? ⟨g, 1, none⟩ = some (.int .i64 (i : Int)) := by rw [hb.cell]; rfl
  have hx2 : w2.cell? ⟨g, 2, none⟩ = some (.int .i64 h2) := by rw [hb.cell]; rfl
  have hf1 : w2.frozen? ⟨g, 1, none⟩ = false := hb.free 1
  have HB := Lib.hid hb
  have HS := Lib.hid hs
  have HG := Lib.hid hg
  clear hb hs hg
  go_quiet (fail)
  have hX := mask8 (bits .xor .i64 (h2 / 8589934592) (h2 / 140737488355328))
  generalize bits .and .i64 (bits .xor .i64 (h2 / 8589934592) (h2 / 140737488355328)) 255 = X at *
  generalize bits .xor .i64 (h2 / 8589934592) (h2 / 140737488355328) = X1
  generalize h2 / 8589934592 = X2
  generalize h2 / 140737488355328 = X3
  obtain ⟨hX0, hX1⟩ := hX
  have hb : Bk (w2.drewN nq) g 70 [.slice A n c, .int .i64 (i : Int), .int .i64 h2] := HB.out
  have hs : Sl (w2.drewN nq) g A n l := HS.out
  have hg := grown_drewN HG.out nq
  clear HB HS HG hx0 hx1 hx2 hf1
  generalize w2.drewN nq = w3 at *
  have hx0 : w3.cell? ⟨g, 0, none⟩ = some (.slice A n c) := by rw [hb.cell]; rfl
  have hx1 : w3.cell? ⟨g, 1, none⟩ = some (.int .i64 (i : Int)) := by rw [hb.cell]; rfl
  have HB := Lib.hid hb
  have HS := Lib.hid hs
  have HG := Lib.hid hg
  clear hb hs hg
  by_cases hlt : i < n
  · go_wp2
    go_quiet (fail)
    go_wp2
    have hb : Bk (w3.drewN nq) g 70 [.slice A n c, .int .i64 (i : Int), .int .i64 h2] := HB.out
    have hs : Sl (w3.drewN nq) g A n l := HS.out
    have hg := grown_drewN HG.out nq
    clear HB HS HG hx0 hx1
    generalize w3.drewN nq = w4 at *
    obtain ⟨b, off, rfl, hbB, hcs⟩ := hs.2 (by omega)
    have hil : i < l.length := by have := hs.1; omega
    have hx0 : w4.cell? ⟨g, 0, none⟩ = some (.slice (some ⟨b, off, none⟩) n c) := by rw [hb.cell]; rfl
    have hx1 : w4.cell? ⟨g, 1, none⟩ = some (.int .i64 (i : Int)) := by rw [hb.cell]; rfl
    have hx3 : w4.cell? ⟨b, off + i, none⟩ = some (.int .u8 (l[i].toNat : Int)) := hcs i hil
    have hby := l[i].toNat_lt
    have HB := Lib.hid hb
    have HS := Lib.hid hs
    have HG := Lib.hid hg
    clear hb hs hg hcs
    go_quiet (fail)
    have hb : Bk (w4.drewN nq) g 70 [.slice (some ⟨b, off, none⟩) n c, .int .i64 (i : Int), .int .i64 h2] := HB.out
    have hs : Sl (w4.drewN nq) g (some ⟨b, off, none⟩) n l := HS.out
    have hg := grown_drewN HG.out nq
    clear HB HS HG hx0 hx1 hx3
    generalize w4.drewN nq = w5 at *
    have hx1 : w5.cell? ⟨g, 1, none⟩ = some (.int .i64 (i : Int)) := by rw [hb.cell]; rfl
    have hf1 : w5.frozen? ⟨g, 1, none⟩ = false := hb.free 1
    have hj : ((i + 1 : Nat) : Int) = (i : Int) + 1 := by omega
    have hh := set_i (j := i + 1) hb hs
    rw [hj] at hh
    have HH := Lib.hid hh
    have HJ := Lib.hid hj
    clear hj hh
    have HG := Lib.hid hg
    clear hb hs hg
    go_wp2
    go_ret
    refine ⟨_, rfl, (mask8 _).1, (mask8 _).2, ⟨_, n, c, l, i + 1, h2, ?_, hlt, hn, HH.out.2.1⟩, grown_trans HG.out HH.out.2.2⟩
    rw [HJ.out]
    exact HH.out.1
  · have hd : decide ((i : Int) < (n : Int)) = false := by simp; omega
    go_wp2
    go_quiet (fail)
    go_wp2
    go_ret
    exact ⟨X, rfl, hX0, hX1, ⟨A, n, c, l, i, h2, HB.out, hi, hn, HS.out⟩, grown_drewN HG.out _⟩

set_option maxHeartbeats 1000000 in
theorem l1Below_any (g : Nat) (k : Int) (w : World) (hc : Cur w g) (h0 : 0 < k) (h1 : k ≤ 100000) : Calls Try.prog 25 #[.pointer (some ⟨g, 0, none⟩), .int .i64 k] w (Num w g 0 k) := by
  have HC := Lib.hid hc
  clear hc
  by_cases hk : k ≤ 256
  · go_enter Try.func25, Try.ntmps25
    go_wp2_with fail
    refine (l1Byte_any g w HC.out).mono ?_
    rintro e w1 ⟨x, rfl, hx0, hx1, hc1, hg1⟩
    have HC1 := Lib.hid hc1
    have HG1 := Lib.hid hg1
    clear hc1 hg1
    go_wp2
    go_ret
    exact ⟨x % k, rfl, Int.emod_nonneg _ (by omega), Int.emod_lt_of_pos _ h0, HC1.out, HG1.out⟩
  · go_enter Try.func25, Try.ntmps25
    go_wp2_with fail
    refine (l1Byte_any g w HC.out).mono ?_
    rintro e w1 ⟨x, rfl, hx0, hx1, hc1, hg1⟩
    have HC1 := Lib.hid hc1
    have HG1 := Lib.hid hg1
    clear hc1 hg1
    go_wp2_with fail
    refine (l1Byte_any g w1 HC1.out).mono ?_
    rintro e w2 ⟨y, rfl, hy0, hy1, hc2, hg2⟩
    have HC2 := Lib.hid hc2
    have HG2 := Lib.hid (grown_trans HG1.out hg2)
    clear hc2 hg2 HC1 HG1
    go_wp2_with fail
    refine (l1Byte_any g w2 HC2.out).mono ?_
    rintro e w3 ⟨z, rfl, hz0, hz1, hc3, hg3⟩
    have HC3 := Lib.hid hc3
    have HG3 := Lib.hid (grown_trans HG2.out hg3)
    clear hc3 hg3 HC2 HG2
    go_wp2
    go_ret
    exact ⟨(x * 65536 + y * 256 + z) % k, rfl, Int.emod_nonneg _ (by omega), Int.emod_lt_of_pos _ h0, HC3.out, HG3.out⟩

theorem Cur.lt {w : World} {g : Nat} (h : Cur w g) : g < w.heap.size := by
  obtain ⟨_, _, _, _, _, _, hb, _⟩ := h
  exact hb.lt
/-- The cursor stays where it is while blocks above it are written or made. -/
theorem Cur.grown {w w' : World} {g : Nat} {row : Option Nat} (h : Cur w g) (hg : w.grownBy w' row) (hr : ∀ k, row = some k → g < k) : Cur w' g := by
  obtain ⟨A, n, c, l, i, x, hb, hi, hn, hs⟩ := h
  have hlt := hb.lt
  exact ⟨A, n, c, l, i, x, hb.grown hg (fun e => by have := hr g e.symm; omega), hi, hn, hs.move fun p hp => World.cell?_of_block (hg.block p.block (by omega) (fun e => by have := hr _ e.symm; omega))⟩
theorem Cur.alloc {w : World} {g : Nat} (h : Cur w g) (o : Obj) : Cur (w.alloc o) g := h.grown (World.grownBy_alloc w o none) (fun k hk => by cases hk)

def Boo (w : World) (g : Nat) (e : Ending) (w' : World) : Prop := ∃ b : Bool, e = .returned (.bool b) ∧ Cur w' g ∧ w.grownBy w' (some g)
def Val (w : World) (g : Nat) (P : Int → Prop) (e : Ending) (w' : World) : Prop := ∃ x : Int, e = .returned (.int .i64 x) ∧ P x ∧ Cur w' g ∧ w.grownBy w' (some g)
/-- Within what an int holds. -/
def Fits (x : Int) : Prop := (Lit.int .i64 x).wf = true
theorem fits_small (x : Int) (h0 : 0 ≤ x) (h1 : x < 4000000000) : Fits x := by
  have e1 : IntKind.i64.min = -9223372036854775808 := by decide
  have e2 : IntKind.i64.max = 9223372036854775807 := by decide
  simp [Fits, Lit.wf]
  omega

set_option maxHeartbeats 1000000 in
theorem l1Once_any (g : Nat) (k : Int) (w : World) (hc : Cur w g) (h0 : 0 < k) (h1 : k ≤ 100000) : Calls Try.prog 26 #[.pointer (some ⟨g, 0, none⟩), .int .i64 k] w (Boo w g) := by
  have HC := Lib.hid hc
  clear hc
  go_enter Try.func26, Try.ntmps26
  go_wp2_with fail
  refine (l1Below_any g k w HC.out h0 h1).mono ?_
  rintro e w1 ⟨x, rfl, hx0, hx1, hc1, hg1⟩
  have HC1 := Lib.hid hc1
  have HG1 := Lib.hid hg1
  clear hc1 hg1
  go_wp2
  go_ret
  exact ⟨_, rfl, HC1.out, HG1.out⟩

set_option maxHeartbeats 1000000 in
theorem l1Int_any (g gl m : Nat) (xs : List Int) (w : World) (hc : Cur w g) (hl : Bk w gl 3 (xs.map (Value.int .i64))) (hne : gl ≠ g) (hm : xs.length = m) (h0 : 0 < m) (h1 : m ≤ 100) :
    Calls Try.prog 70 #[.pointer (some ⟨g, 0, none⟩), .slice (some ⟨gl, 0, none⟩) m m] w (Val w g (· ∈ xs)) := by
  have HC := Lib.hid hc
  have HL := Lib.hid hl
  have HM := Lib.hid hm
  have HN := Lib.hid hne
  clear hc hl hm hne
  go_enter Try.func70, Try.ntmps70
  go_wp2_with fail
  refine (l1Below_any g m w HC.out (by omega) (by omega)).mono ?_
  rintro e w1 ⟨x, rfl, hx0, hx1, hc1, hg1⟩
  obtain ⟨j, rfl⟩ := Int.eq_ofNat_of_zero_le hx0
  have hj : j < xs.length := by rw [HM.out]; omega
  have hcell : w1.cell? ⟨gl, j, none⟩ = some (.int .i64 xs[j]) := by
    rw [(HL.out.grown hg1 (fun e => HN.out (Option.some.inj e))).cell, List.getElem?_map, List.getElem?_eq_getElem hj]
    rfl
  have HC1 := Lib.hid hc1
  have HG1 := Lib.hid hg1
  clear hc1 hg1
  go_wp2
  go_ret
  exact ⟨xs[j], rfl, List.getElem_mem hj, HC1.out, HG1.out⟩

/-- A literal list of ints is a new block. -/
theorem bk_ints (w : World) (xs : List Int) (cs : Array Value) (h : cs.toList = xs.map (Value.int .i64)) : Bk (w.alloc (.cells cs 3)) w.heap.size 3 (xs.map (Value.int .i64)) := by
  unfold Bk
  rw [heap_alloc_new, ← h]

theorem all_fit (l : List Int) (h : (l.all fun x => (Lit.int .i64 x).wf) = true) : ∀ x ∈ l, Fits x := fun x hx => List.all_eq_true.1 h x hx

set_option maxHeartbeats 1000000 in
set_option maxRecDepth 100000 in
/-- A new cursor, at the head of a new block. -/
theorem l1New_any (A : Option Addr) (n c : Nat) (l : List UInt8) (w : World) (hs : Sl w w.heap.size A n l) (hn : n ≤ 1048576) :
    Calls Try.prog 22 #[.slice A n c] w fun e w' => e = .returned (.pointer (some ⟨w.heap.size, 0, none⟩)) ∧ Cur w' w.heap.size ∧ w.grownBy w' none := by
  have HS := Lib.hid hs
  clear hs
  go_enter Try.func22, Try.ntmps22
  go_wp2
  go_loop [3, 4] (fun hh i => ∃ (k : Nat) (h : Int), k ≤ n ∧ i = .int .i64 k ∧ hh = .int .i64 h ∧ 0 ≤ h ∧ h < 2000000000) (fun _ i => n - (intOf i).toNat)
  case atStart => exact ⟨0, 160909 + (n : Int), Nat.zero_le _, rfl, rfl, by omega, by omega⟩
  case round =>
    obtain ⟨k, h, hk, rfl, rfl, h0, h1⟩ := hrel
    by_cases hlt : k < n
    · by_cases h4 : k < 4000
      · obtain ⟨b, off, rfl, hbB, hcs⟩ := HS.out.2 (by omega)
        have hkl : k < l.length := by rw [HS.out.1]; exact hlt
        have hx : w.cell? ⟨b, off + k, none⟩ = some (.int .u8 (l[k].toNat : Int)) := hcs k hkl
        have hby := l[k].toNat_lt
        clear hcs
        go_wp2
        go_round
        case rel => exact ⟨k + 1, _, by omega, by go_num, rfl, (mask30 _).1, by have := (mask30 (h * 137 + (l[k].toNat : Int) + 11)).2; omega⟩
        case measure => simp [intOf]; omega
      · go_wp2
        go_ret
        refine ⟨rfl, ⟨A, n, c, l, 0, h, ?_, Nat.zero_le _, hn, ?_⟩, World.grownBy_alloc _ _ _⟩
        · exact heap_alloc_new w _
        · exact HS.out.below ((Below.refl _ _).alloc (Nat.le_refl _) _)
    · go_wp2
      go_ret
      refine ⟨rfl, ⟨A, n, c, l, 0, h, ?_, Nat.zero_le _, hn, ?_⟩, World.grownBy_alloc _ _ _⟩
      · exact heap_alloc_new w _
      · exact HS.out.below ((Below.refl _ _).alloc (Nat.le_refl _) _)
end Go.Proofs.Ytjgmocmaeadjdaa.Draw
