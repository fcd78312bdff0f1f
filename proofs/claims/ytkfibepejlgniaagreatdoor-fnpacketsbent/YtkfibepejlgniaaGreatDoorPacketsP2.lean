/- What the model's draw DrawPutMsg does: a message of short texts and few records; nothing that was there is turned. -/
import Derived.Test.YtkfibepejlgniaaGreatDoorMem
import Derived.Deep.QuietTactic
import Derived.BigQuiet
import Derived.Test.YtkfibepejlgniaaGreatDoorUp
import Derived.Test.YtkfibepejlgniaaGreatDoorMemR
import Derived.Test.YtkfibepejlgniaaGreatDoorBoxR
import Derived.Test.YtkfibepejlgniaaGreatDoorPacketsP0
import Derived.Test.YtkfibepejlgniaaGreatDoorResR
import Derived.Test.YtkfibepejlgniaaGreatDoorResM
import Derived.Test.YtkfibepejlgniaaGreatDoorMemS
import Derived.Laws.IdiomStrings
import Derived.Deep.RegionLaw
import Derived.Test.YtkfibepejlgniaaGreatDoorApp
/- What the model's drawing functions do: whatever the code, they return numbers in their ranges and new slices of bytes, and write nothing but their own cursor. -/
namespace Go.Proofs.YtkfibepejlgniaaGreatDoor.Draw
open Go.RowKit Go.Proofs.YtkfibepejlgniaaGreatDoor.Mem

/-- A cursor over bytes that lie below it. -/
def Cur (w : World) (g : Nat) : Prop :=
  ∃ (A : Option Addr) (n c : Nat) (l : List UInt8) (i : Nat) (h : Int), Bk w g 114 [.slice A n c, .int .i64 (i : Int), .int .i64 h] ∧ i ≤ n ∧ n ≤ 1048576 ∧ Sl w g A n l

/-- A number within bounds, the cursor moved, nothing else turned. -/
def Num (w : World) (g : Nat) (lo hi : Int) (e : Ending) (w' : World) : Prop :=
  ∃ x : Int, e = .returned (.int .i64 x) ∧ lo ≤ x ∧ x < hi ∧ Cur w' g ∧ w.grownBy w' (some g)

theorem grown_trans {a b d : World} {r : Option Nat} (h : a.grownBy b r) (k : b.grownBy d r) : a.grownBy d r :=
  ⟨k.os.trans h.os, k.tape.trans h.tape, k.output.trans h.output, Nat.le_trans h.size k.size, fun i hi hne => (k.block i (Nat.lt_of_lt_of_le hi h.size) hne).trans (h.block i hi hne)⟩
theorem grown_drewN {a b : World} {r : Option Nat} (h : a.grownBy b r) (k : Nat) : a.grownBy (b.drewN k) r := ⟨h.os, h.tape, h.output, h.size, h.block⟩
theorem grown_refl (a : World) (r : Option Nat) : a.grownBy a r := ⟨rfl, rfl, rfl, Nat.le_refl _, fun _ _ _ => rfl⟩
theorem grown_set {w wr : World} {g : Nat} (h : w.grownBy wr (some g)) (j : Nat) (u : Value) : w.grownBy (wr.setCell ⟨g, j, none⟩ u) (some g) :=
  ⟨h.os, h.tape, h.output, by simpa [World.setCell] using h.size, fun k hk hne => by
    rw [Below.heap_setCell _ _ _ _ (fun e => hne (by simp [e]))]; exact h.block k hk hne⟩

/-- A mask of eight bits leaves a byte, whatever stood there. -/
theorem mask8 (y : Int) : 0 ≤ bits .and .i64 y 255 ∧ bits .and .i64 y 255 < 256 := by
  have h : bits .and .i64 y 255 = IntKind.i64.wrap ((BitVec.ofInt 64 y &&& BitVec.ofInt 64 255).toNat : Int) := rfl
  rw [h, BitVec.toNat_and]
  have h2 : (BitVec.ofInt 64 y).toNat &&& (BitVec.ofInt 64 255).toNat ≤ 255 := Nat.le_trans Nat.and_le_right (by decide)
  rw [IntKind.wrap_i64]
  omega
theorem mask30 (y : Int) : 0 ≤ bits .and .i64 y 1073741823 ∧ bits .and .i64 y 1073741823 < 1073741824 := by
  have h : bits .and .i64 y 1073741823 = IntKind.i64.wrap ((BitVec.ofInt 64 y &&& BitVec.ofInt 64 1073741823).toNat : Int) := rfl
  rw [h, BitVec.toNat_and]
  have h2 : (BitVec.ofInt 64 y).toNat &&& (BitVec.ofInt 64 1073741823).toNat ≤ 1073741823 := Nat.le_trans Nat.and_le_right (by decide)
  rw [IntKind.wrap_i64]
  omega

/-- The cursor behind a store into it. -/
theorem set_h {w : World} {g i n c : Nat} {A : Option Addr} {h h2 : Int} {l : List UInt8} (hb : Bk w g 114 [.slice A n c, .int .i64 (i : Int), .int .i64 h]) (hs : Sl w g A n l) :
    Bk (w.setCell ⟨g, 2, none⟩ (.int .i64 h2)) g 114 [.slice A n c, .int .i64 (i : Int), .int .i64 h2] ∧ Sl (w.setCell ⟨g, 2, none⟩ (.int .i64 h2)) g A n l ∧ w.grownBy (w.setCell ⟨g, 2, none⟩ (.int .i64 h2)) (some g) :=
  ⟨hb.set 2 _, hs.move fun _ hp => World.cell?_of_block (Below.heap_setCell _ _ _ _ (Nat.ne_of_lt hp)), grown_set (grown_refl _ _) _ _⟩
theorem set_i {w : World} {g i j n c : Nat} {A : Option Addr} {h : Int} {l : List UInt8} (hb : Bk w g 114 [.slice A n c, .int .i64 (i : Int), .int .i64 h]) (hs : Sl w g A n l) :
    Bk (w.setCell ⟨g, 1, none⟩ (.int .i64 (j : Int))) g 114 [.slice A n c, .int .i64 (j : Int), .int .i64 h] ∧ Sl (w.setCell ⟨g, 1, none⟩ (.int .i64 (j : Int))) g A n l ∧ w.grownBy (w.setCell ⟨g, 1, none⟩ (.int .i64 (j : Int))) (some g) :=
  ⟨hb.set 1 _, hs.move fun _ hp => World.cell?_of_block (Below.heap_setCell _ _ _ _ (Nat.ne_of_lt hp)), grown_set (grown_refl _ _) _ _⟩

set_option maxHeartbeats 1000000 in
theorem l1Byte_any (g : Nat) (w : World) (hc : Cur w g) : Calls Tryz.prog 113 #[.pointer (some ⟨g, 0, none⟩)] w (Num w g 0 256) := by
  obtain ⟨A, n, c, l, i, h, hb, hi, hn, hs⟩ := hc
  have hx2 : w.cell? ⟨g, 2, none⟩ = some (.int .i64 h) := by rw [hb.cell]; rfl
  have hf2 : w.frozen? ⟨g, 2, none⟩ = false := hb.free 2
  have HH : Hid (∀ h2, _) := fun h2 => set_h (h2 := h2) hb hs
  clear hb hs
  go_enter Tryz.func113, Tryz.ntmps113
  go_wp2
  generalize wrap64 (wrap64 (h * 6364136223846793005) + 1442695040888963407) = h2
  generalize wrap64 (h * 6364136223846793005) = h3
  obtain ⟨hb, hs, hg⟩ := HH.out h2
  clear HH hx2 hf2
  generalize w.setCell ⟨g, 2, none⟩ (.int .i64 h2) = w2 at *
  have hx0 : w2.cell? ⟨g, 0, none⟩ = some (.slice A n c) := by rw [hb.cell]; rfl
  have hx1 : w2.cell? ⟨g, 1, none⟩ = some (.int .i64 (i : Int)) := by rw [hb.cell]; rfl
  have hx2 : w2.cell? ⟨g, 2, none⟩ = some (.int .i64 h2) := by rw [hb.cell]; rfl
  have hf1 : w2.frozen? ⟨g, 1, none⟩ = false := hb.free 1
  have HB := Lib.hid hb
  have HS := Lib.hid hs
  have HG := Lib.hid hg
  clear hb hs hg
  go_quiet (fail)
  have hX := mask8 (bits .xor .i64 (h2 / 8589934592) (h2 / 140737488355328))
  generalize bits .and .i64 (bits .xor .i64 (h2 / 8589934592) (h2 / 140737488355328)) 255 = X at *
  generalize bits .xor .i64 (h2 / 8589934592) (h2 / 140737488355328) = X1
  generalize h2 / 8589934592 = X2
  generalize h2 / 140737488355328 = X3
  obtain ⟨hX0, hX1⟩ := hX
  have hb : Bk (w2.drewN nq) g 114 [.slice A n c, .int .i64 (i : Int), .int .i64 h2] := HB.out
  have hs : Sl (w2.drewN nq) g A n l := HS.out
  have hg := grown_drewN HG.out nq
  clear HB HS HG hx0 hx1 hx2 hf1
  generalize w2.drewN nq = w3 at *
  have hx0 : w3.cell? ⟨g, 0, none⟩ = some (.slice A n c) := by rw [hb.cell]; rfl
  have hx1 : w3.cell? ⟨g, 1, none⟩ = some (.int .i64 (i : Int)) := by rw [hb.cell]; rfl
  have HB := Lib.hid hb
  have HS := Lib.hid hs
  have HG := Lib.hid hg
  clear hb hs hg
  by_cases hlt : i < n
  · go_wp2
    go_quiet (fail)
    go_wp2
    have hb : Bk (w3.drewN nq) g 114 [.slice A n c, .int .i64 (i : Int), .int .i64 h2] := HB.out
    have hs : Sl (w3.drewN nq) g A n l := HS.out
    have hg := grown_drewN HG.out nq
    clear HB HS HG hx0 hx1
    generalize w3.drewN nq = w4 at *
    obtain ⟨b, off, rfl, hbB, hcs⟩ := hs.2 (by omega)
    have hil : i < l.length := by have := hs.1; omega
    have hx0 : w4.cell? ⟨g, 0, none⟩ = some (.slice (some ⟨b, off, none⟩) n c) := by rw [hb.cell]; rfl
    have hx1 : w4.cell? ⟨g, 1, none⟩ = some (.int .i64 (i : Int)) := by rw [hb.cell]; rfl
    have hx3 : w4.cell? ⟨b, off + i, none⟩ = some (.int .u8 (l[i].toNat : Int)) := hcs i hil
    have hby := l[i].toNat_lt
    have HB := Lib.hid hb
    have HS := Lib.hid hs
    have HG := Lib.hid hg
    clear hb hs hg hcs
    go_quiet (fail)
    have hb : Bk (w4.drewN nq) g 114 [.slice (some ⟨b, off, none⟩) n c, .int .i64 (i : Int), .int .i64 h2] := HB.out
    have hs : Sl (w4.drewN nq) g (some ⟨b, off, none⟩) n l := HS.out
    have hg := grown_drewN HG.out nq
    clear HB HS HG hx0 hx1 hx3
    generalize w4.drewN nq = w5 at *
    have hx1 : w5.cell? ⟨g, 1, none⟩ = some (.int .i64 (i : Int)) := by rw [hb.cell]; rfl
    have hf1 : w5.frozen? ⟨g, 1, none⟩ = false := hb.free 1
    have hj : ((i + 1 : Nat) : Int) = (i : Int) + 1 := by omega
    have hh := set_i (j := i + 1) hb hs
    rw [hj] at hh
    have HH := Lib.hid hh
    have HJ := Lib.hid hj
    clear hj hh
    have HG := Lib.hid hg
    clear hb hs hg
    go_wp2
    go_ret
    refine ⟨_, rfl, (mask8 _).1, (mask8 _).2, ⟨_, n, c, l, i + 1, h2, ?_, hlt, hn, HH.out.2.1⟩, grown_trans HG.out HH.out.2.2⟩
    rw [HJ.out]
    exact HH.out.1
  · have hd : decide ((i : Int) < (n : Int)) = false := by simp; omega
    go_wp2
    go_quiet (fail)
    go_wp2
    go_ret
    exact ⟨X, rfl, hX0, hX1, ⟨A, n, c, l, i, h2, HB.out, hi, hn, HS.out⟩, grown_drewN HG.out _⟩

set_option maxHeartbeats 1000000 in
theorem l1Below_any (g : Nat) (k : Int) (w : World) (hc : Cur w g) (h0 : 0 < k) (h1 : k ≤ 100000) : Calls Tryz.prog 57 #[.pointer (some ⟨g, 0, none⟩), .int .i64 k] w (Num w g 0 k) := by
  have HC := Lib.hid hc
  clear hc
  by_cases hk : k ≤ 256
  · go_enter Tryz.func57, Tryz.ntmps57
    go_wp2_with fail
    refine (l1Byte_any g w HC.out).mono ?_
    rintro e w1 ⟨x, rfl, hx0, hx1, hc1, hg1⟩
    have HC1 := Lib.hid hc1
    have HG1 := Lib.hid hg1
    clear hc1 hg1
    go_wp2
    go_ret
    exact ⟨x % k, rfl, Int.emod_nonneg _ (by omega), Int.emod_lt_of_pos _ h0, HC1.out, HG1.out⟩
  · go_enter Tryz.func57, Tryz.ntmps57
    go_wp2_with fail
    refine (l1Byte_any g w HC.out).mono ?_
    rintro e w1 ⟨x, rfl, hx0, hx1, hc1, hg1⟩
    have HC1 := Lib.hid hc1
    have HG1 := Lib.hid hg1
    clear hc1 hg1
    go_wp2_with fail
    refine (l1Byte_any g w1 HC1.out).mono ?_
    rintro e w2 ⟨y, rfl, hy0, hy1, hc2, hg2⟩
    have HC2 := Lib.hid hc2
    have HG2 := Lib.hid (grown_trans HG1.out hg2)
    clear hc2 hg2 HC1 HG1
    go_wp2_with fail
    refine (l1Byte_any g w2 HC2.out).mono ?_
    rintro e w3 ⟨z, rfl, hz0, hz1, hc3, hg3⟩
    have HC3 := Lib.hid hc3
    have HG3 := Lib.hid (grown_trans HG2.out hg3)
    clear hc3 hg3 HC2 HG2
    go_wp2
    go_ret
    exact ⟨(x * 65536 + y * 256 + z) % k, rfl, Int.emod_nonneg _ (by omega), Int.emod_lt_of_pos _ h0, HC3.out, HG3.out⟩

theorem Cur.lt {w : World} {g : Nat} (h : Cur w g) : g < w.heap.size := by
  obtain ⟨_, _, _, _, _, _, hb, _⟩ := h
  exact hb.lt
/-- The cursor stays where it is while blocks above it are written or made. -/
theorem Cur.grown {w w' : World} {g : Nat} {row : Option Nat} (h : Cur w g) (hg : w.grownBy w' row) (hr : ∀ k, row = some k → g < k) : Cur w' g := by
  obtain ⟨A, n, c, l, i, x, hb, hi, hn, hs⟩ := h
  have hlt := hb.lt
  exact ⟨A, n, c, l, i, x, hb.grown hg (fun e => by have := hr g e.symm; omega), hi, hn, hs.move fun p hp => World.cell?_of_block (hg.block p.block (by omega) (fun e => by have := hr _ e.symm; omega))⟩
theorem Cur.alloc {w : World} {g : Nat} (h : Cur w g) (o : Obj) : Cur (w.alloc o) g := h.grown (World.grownBy_alloc w o none) (fun k hk => by cases hk)

def Boo (w : World) (g : Nat) (e : Ending) (w' : World) : Prop := ∃ b : Bool, e = .returned (.bool b) ∧ Cur w' g ∧ w.grownBy w' (some g)
def Val (w : World) (g : Nat) (P : Int → Prop) (e : Ending) (w' : World) : Prop := ∃ x : Int, e = .returned (.int .i64 x) ∧ P x ∧ Cur w' g ∧ w.grownBy w' (some g)
/-- Within what an int holds. -/
def Fits (x : Int) : Prop := (Lit.int .i64 x).wf = true
theorem fits_small (x : Int) (h0 : 0 ≤ x) (h1 : x < 4000000000) : Fits x := by
  have e1 : IntKind.i64.min = -9223372036854775808 := by decide
  have e2 : IntKind.i64.max = 9223372036854775807 := by decide
  simp [Fits, Lit.wf]
  omega

set_option maxHeartbeats 1000000 in
theorem l1Once_any (g : Nat) (k : Int) (w : World) (hc : Cur w g) (h0 : 0 < k) (h1 : k ≤ 100000) : Calls Tryz.prog 58 #[.pointer (some ⟨g, 0, none⟩), .int .i64 k] w (Boo w g) := by
  have HC := Lib.hid hc
  clear hc
  go_enter Tryz.func58, Tryz.ntmps58
  go_wp2_with fail
  refine (l1Below_any g k w HC.out h0 h1).mono ?_
  rintro e w1 ⟨x, rfl, hx0, hx1, hc1, hg1⟩
  have HC1 := Lib.hid hc1
  have HG1 := Lib.hid hg1
  clear hc1 hg1
  go_wp2
  go_ret
  exact ⟨_, rfl, HC1.out, HG1.out⟩

set_option maxHeartbeats 1000000 in
theorem l1Int_any (g gl m : Nat) (xs : List Int) (w : World) (hc : Cur w g) (hl : Bk w gl 3 (xs.map (Value.int .i64))) (hne : gl ≠ g) (hm : xs.length = m) (h0 : 0 < m) (h1 : m ≤ 100) :
    Calls Tryz.prog 97 #[.pointer (some ⟨g, 0, none⟩), .slice (some ⟨gl, 0, none⟩) m m] w (Val w g (· ∈ xs)) := by
  have HC := Lib.hid hc
  have HL := Lib.hid hl
  have HM := Lib.hid hm
  have HN := Lib.hid hne
  clear hc hl hm hne
  go_enter Tryz.func97, Tryz.ntmps97
  go_wp2_with fail
  refine (l1Below_any g m w HC.out (by omega) (by omega)).mono ?_
  rintro e w1 ⟨x, rfl, hx0, hx1, hc1, hg1⟩
  obtain ⟨j, rfl⟩ := Int.eq_ofNat_of_zero_le hx0
  have hj : j < xs.length := by rw [HM.out]; omega
  have hcell : w1.cell? ⟨gl, j, none⟩ = some (.int .i64 xs[j]) := by
    rw [(HL.out.grown hg1 (fun e => HN.out (Option.some.inj e))).cell, List.getElem?_map, List.getElem?_eq_getElem hj]
    rfl
  have HC1 := Lib.hid hc1
  have HG1 := Lib.hid hg1
  clear hc1 hg1
  go_wp2
  go_ret
  exact ⟨xs[j], rfl, List.getElem_mem hj, HC1.out, HG1.out⟩

/-- A literal list of ints is a new block. -/
theorem bk_ints (w : World) (xs : List Int) (cs : Array Value) (h : cs.toList = xs.map (Value.int .i64)) : Bk (w.alloc (.cells cs 3)) w.heap.size 3 (xs.map (Value.int .i64)) := by
  unfold Bk
  rw [heap_alloc_new, ← h]

theorem all_fit (l : List Int) (h : (l.all fun x => (Lit.int .i64 x).wf) = true) : ∀ x ∈ l, Fits x := fun x hx => List.all_eq_true.1 h x hx

set_option maxHeartbeats 1000000 in
set_option maxRecDepth 100000 in
/-- A new cursor, at the head of a new block. -/
theorem l1New_any (A : Option Addr) (n c : Nat) (l : List UInt8) (w : World) (hs : Sl w w.heap.size A n l) (hn : n ≤ 1048576) :
    Calls Tryz.prog 54 #[.slice A n c] w fun e w' => e = .returned (.pointer (some ⟨w.heap.size, 0, none⟩)) ∧ Cur w' w.heap.size ∧ w.grownBy w' none := by
  have HS := Lib.hid hs
  clear hs
  go_enter Tryz.func54, Tryz.ntmps54
  go_wp2
  go_loop [3, 4] (fun hh i => ∃ (k : Nat) (h : Int), k ≤ n ∧ i = .int .i64 k ∧ hh = .int .i64 h ∧ 0 ≤ h ∧ h < 2000000000) (fun _ i => n - (intOf i).toNat)
  case atStart => exact ⟨0, 160909 + (n : Int), Nat.zero_le _, rfl, rfl, by omega, by omega⟩
  case round =>
    obtain ⟨k, h, hk, rfl, rfl, h0, h1⟩ := hrel
    by_cases hlt : k < n
    · by_cases h4 : k < 4000
      · obtain ⟨b, off, rfl, hbB, hcs⟩ := HS.out.2 (by omega)
        have hkl : k < l.length := by rw [HS.out.1]; exact hlt
        have hx : w.cell? ⟨b, off + k, none⟩ = some (.int .u8 (l[k].toNat : Int)) := hcs k hkl
        have hby := l[k].toNat_lt
        clear hcs
        go_wp2
        go_round
        case rel => exact ⟨k + 1, _, by omega, by go_num, rfl, (mask30 _).1, by have := (mask30 (h * 137 + (l[k].toNat : Int) + 11)).2; omega⟩
        case measure => simp [intOf]; omega
      · go_wp2
        go_ret
        refine ⟨rfl, ⟨A, n, c, l, 0, h, ?_, Nat.zero_le _, hn, ?_⟩, World.grownBy_alloc _ _ _⟩
        · exact heap_alloc_new w _
        · exact HS.out.below ((Below.refl _ _).alloc (Nat.le_refl _) _)
    · go_wp2
      go_ret
      refine ⟨rfl, ⟨A, n, c, l, 0, h, ?_, Nat.zero_le _, hn, ?_⟩, World.grownBy_alloc _ _ _⟩
      · exact heap_alloc_new w _
      · exact HS.out.below ((Below.refl _ _).alloc (Nat.le_refl _) _)
end Go.Proofs.YtkfibepejlgniaaGreatDoor.Draw

/- What the model's draw of a text out of a list does: it returns a text of the list, and writes nothing but its own cursor. -/
namespace Go.Proofs.YtkfibepejlgniaaGreatDoor.DrawS
open Go.RowKit Go.Proofs.YtkfibepejlgniaaGreatDoor.Mem Go.Proofs.YtkfibepejlgniaaGreatDoor.Draw

/-- A text with a property, the cursor moved, nothing else turned. -/
def Txt (w : World) (g : Nat) (P : ByteArray → Prop) (e : Ending) (w' : World) : Prop := ∃ x : ByteArray, e = .returned (.string x) ∧ P x ∧ Cur w' g ∧ w.grownBy w' (some g)
theorem Txt.weaken {w : World} {g : Nat} {P Q : ByteArray → Prop} {e : Ending} {w' : World} (h : Txt w g P e w') (k : ∀ x, P x → Q x) : Txt w g Q e w' := by
  obtain ⟨x, he, hx, hc, hg⟩ := h
  exact ⟨x, he, k x hx, hc, hg⟩

/-- A literal list of texts is a new block. -/
theorem bk_texts (w : World) (xs : List ByteArray) (cs : Array Value) (h : cs.toList = xs.map Value.string) : Bk (w.alloc (.cells cs 9)) w.heap.size 9 (xs.map Value.string) := by
  unfold Bk
  rw [heap_alloc_new, ← h]

set_option maxHeartbeats 1000000 in
theorem l1Str_any (g gl m : Nat) (xs : List ByteArray) (w : World) (hc : Cur w g) (hl : Bk w gl 9 (xs.map Value.string)) (hne : gl ≠ g) (hm : xs.length = m) (h0 : 0 < m) (h1 : m ≤ 100) :
    Calls Tryz.prog 153 #[.pointer (some ⟨g, 0, none⟩), .slice (some ⟨gl, 0, none⟩) m m] w (Txt w g (· ∈ xs)) := by
  have HC := Lib.hid hc
  have HL := Lib.hid hl
  have HM := Lib.hid hm
  have HN := Lib.hid hne
  clear hc hl hm hne
  go_enter Tryz.func153, Tryz.ntmps153
  go_wp2_with fail
  refine (l1Below_any g m w HC.out (by omega) (by omega)).mono ?_
  rintro e w1 ⟨x, rfl, hx0, hx1, hc1, hg1⟩
  obtain ⟨j, rfl⟩ := Int.eq_ofNat_of_zero_le hx0
  have hj : j < xs.length := by rw [HM.out]; omega
  have hcell : w1.cell? ⟨gl, j, none⟩ = some (.string xs[j]) := by
    rw [(HL.out.grown hg1 (fun e => HN.out (Option.some.inj e))).cell, List.getElem?_map, List.getElem?_eq_getElem hj]
    rfl
  have HC1 := Lib.hid hc1
  have HG1 := Lib.hid hg1
  clear hc1 hg1
  go_wp2
  go_ret
  exact ⟨xs[j], rfl, List.getElem_mem hj, HC1.out, HG1.out⟩
end Go.Proofs.YtkfibepejlgniaaGreatDoor.DrawS

/- What the model's draws of labels do: texts of at most 20 bytes; nothing that was there is turned but the cursor. -/
namespace Go.Proofs.YtkfibepejlgniaaGreatDoor.DrawL
open Go.RowKit Go.Proofs.YtkfibepejlgniaaGreatDoor.Mem Go.Proofs.YtkfibepejlgniaaGreatDoor.Draw Go.Proofs.YtkfibepejlgniaaGreatDoor.DrawS

/-- A short text. -/
def Short (x : ByteArray) : Prop := x.size ≤ 20
theorem all_short (l : List ByteArray) (h : (l.all fun x => decide (x.size ≤ 20)) = true) : ∀ x ∈ l, Short x := fun x hx => of_decide_eq_true (p := x.size ≤ 20) (List.all_eq_true.1 h x hx)
def labels : List ByteArray := [⟨#[97]⟩, ⟨#[98]⟩, ⟨#[99]⟩, ⟨#[119, 119, 119]⟩, ⟨#[110, 115]⟩, ⟨#[110, 115, 49]⟩, ⟨#[99, 111, 109]⟩, ⟨#[111, 114, 103]⟩, ⟨#[101, 120]⟩, ⟨#[116, 119, 101, 108, 118, 101, 98, 121, 116, 101, 115, 48]⟩, ⟨#[120, 45, 121]⟩, ⟨#[95, 116]⟩]
theorem labels_short : ∀ x ∈ labels, Short x := all_short _ (by decide)
def odds : List ByteArray := [⟨#[]⟩, ⟨#[65]⟩, ⟨#[87, 119, 119]⟩, ⟨#[116, 104, 105, 114, 116, 101, 101, 110, 98, 121, 116, 101, 115]⟩, ⟨#[97, 32, 98]⟩, ⟨#[97, 46, 98]⟩, ⟨#[0]⟩, ⟨#[123]⟩, ⟨#[64]⟩]
theorem odds_short : ∀ x ∈ odds, Short x := all_short _ (by decide)

end Go.Proofs.YtkfibepejlgniaaGreatDoor.DrawL

/- What the model's draws of names do: texts of at most 20 bytes; nothing that was there is turned but the cursor. -/
namespace Go.Proofs.YtkfibepejlgniaaGreatDoor.DrawN
open Go.RowKit Go.Proofs.YtkfibepejlgniaaGreatDoor.Mem Go.Proofs.YtkfibepejlgniaaGreatDoor.MemS Go.Proofs.YtkfibepejlgniaaGreatDoor.Draw Go.Proofs.YtkfibepejlgniaaGreatDoor.DrawS Go.Proofs.YtkfibepejlgniaaGreatDoor.DrawL Go.Proofs.YtkfibepejlgniaaGreatDoor.JoinSpec Go.Proofs.YtkfibepejlgniaaGreatDoor.Split Go.Proofs.YtkfibepejlgniaaGreatDoor.JoinLab Go.Proofs.YtkfibepejlgniaaGreatDoor.Up

theorem below_of_grown {w w' : World} (h : w.grownBy w' none) : Below w.heap.size w w' := ⟨h.os, h.tape, h.output, h.size, fun k hk => h.block k hk (fun e => by cases e)⟩
theorem below_more {w w1 w2 : World} {g : Nat} (h : Below w.heap.size w w1) (k : w1.grownBy w2 (some g)) (hg : w.heap.size ≤ g) : Below w.heap.size w w2 := h.grown k h.size (fun j hj => by cases hj; exact hg)
theorem jo_tail (L : List ByteArray) : (jo (L.drop 1)).length ≤ (jo L).length := by
  match L with
  | [] => simp
  | [x] => simp [jo, Lib.join_nil]
  | x :: y :: r =>
    have e : jo (x :: y :: r) = x.data.toList ++ 46 :: jo (y :: r) := by
      rw [jo, List.map_cons, join_more _ _ (by simp)]
      rfl
    rw [e, List.drop_succ_cons, List.drop_zero, List.length_append, List.length_cons]
    omega
theorem ab_short {s : ByteArray} (h : Short s) : Short (Ab s) := by
  have h1 := jo_tail (Lab s)
  have e : (jo (Lab s)).length = s.size := by rw [← Jo_size, jo_lab]
  have h2 : s.size ≤ 20 := h
  show (Jo _).size ≤ 20
  rw [Jo_size]
  omega

def names : List ByteArray := [⟨#[]⟩, ⟨#[99, 111, 109]⟩, ⟨#[101, 120, 46, 99, 111, 109]⟩, ⟨#[119, 119, 119, 46, 101, 120, 46, 99, 111, 109]⟩, ⟨#[110, 115, 46, 101, 120, 46, 99, 111, 109]⟩, ⟨#[111, 114, 103]⟩, ⟨#[97, 46, 111, 114, 103]⟩, ⟨#[98, 46, 97, 46, 111, 114, 103]⟩, ⟨#[110, 115, 49, 46, 111, 114, 103]⟩, ⟨#[120, 46, 121, 46, 122, 46, 101, 120, 46, 99, 111, 109]⟩]
theorem names_short : ∀ x ∈ names, Short x := all_short _ (by decide)

set_option maxHeartbeats 1000000 in
theorem l3Name_any (g : Nat) (w : World) (hc : Cur w g) : Calls Tryz.prog 114 #[.pointer (some ⟨g, 0, none⟩)] w (Txt w g Short) := by
  have HC := Lib.hid hc
  clear hc
  go_enter Tryz.func114, Tryz.ntmps114
  go_wp2_with fail
  refine (l1Str_any g w.heap.size 10 names _ (HC.out.alloc _) (bk_texts w names _ rfl) (Nat.ne_of_gt HC.out.lt) rfl (by omega) (by omega)).mono ?_
  rintro e w1 ⟨x, rfl, hx, hc1, hg1⟩
  have HX := Lib.hid (names_short x hx)
  have HC1 := Lib.hid hc1
  have HG1 := Lib.hid (grown_trans (World.grownBy_alloc w _ (some g)) hg1)
  clear hc1 hg1 hx
  go_wp2
  go_ret
  exact ⟨x, rfl, HX.out, HC1.out, HG1.out⟩

/-- A text of at most 60 bytes. -/
def Mid (x : ByteArray) : Prop := x.size ≤ 60
theorem all_mid (l : List ByteArray) (h : (l.all fun x => decide (x.size ≤ 60)) = true) : ∀ x ∈ l, Mid x := fun x hx => of_decide_eq_true (p := x.size ≤ 60) (List.all_eq_true.1 h x hx)
def oddNames : List ByteArray := [⟨#[46]⟩, ⟨#[97, 46]⟩, ⟨#[65, 46, 99, 111, 109]⟩, ⟨#[97, 46, 46, 98]⟩, ⟨#[97, 46, 98, 46, 99, 46, 100, 46, 101, 46, 102]⟩, ⟨#[97, 46, 98, 46, 99, 46, 100, 46, 101, 46, 102, 46, 103]⟩, ⟨#[116, 119, 101, 108, 118, 101, 98, 121, 116, 101, 115, 48, 46, 116, 119, 101, 108, 118, 101, 98, 121, 116, 101, 115, 48, 46, 116, 119, 101, 108, 118, 101, 98, 121, 116, 101, 115, 48, 46, 116, 119, 101, 108, 118, 101, 98, 121, 116, 101, 115, 48]⟩, ⟨#[116, 104, 105, 114, 116, 101, 101, 110, 98, 121, 116, 101, 115, 46, 97]⟩]
theorem oddNames_mid : ∀ x ∈ oddNames, Mid x := all_mid _ (by decide)

set_option maxHeartbeats 1000000 in
theorem l3Any_any (g : Nat) (w : World) (hc : Cur w g) : Calls Tryz.prog 110 #[.pointer (some ⟨g, 0, none⟩)] w (Txt w g Mid) := by
  have HC := Lib.hid hc
  clear hc
  go_enter Tryz.func110, Tryz.ntmps110
  go_wp2_with fail
  refine (l1Once_any g 5 w HC.out (by omega) (by omega)).mono ?_
  rintro e w1 ⟨b, rfl, hc1, hg1⟩
  have C1 := Lib.hid hc1
  have G1 := Lib.hid hg1
  clear hc1 hg1 HC
  cases b
  · go_wp2_with fail
    refine (l3Name_any g w1 C1.out).mono ?_
    rintro e w2 ⟨x, rfl, hx, hc2, hg2⟩
    have HX : Hid (Mid x) := by have h : x.size ≤ 20 := hx; show x.size ≤ 60; omega
    have C2 := Lib.hid hc2
    have G2 := Lib.hid (grown_trans G1.out hg2)
    clear hc2 hg2 hx
    go_wp2
    go_ret
    exact ⟨x, rfl, HX.out, C2.out, G2.out⟩
  · go_wp2_with fail
    refine (l1Str_any g w1.heap.size 8 oddNames _ (C1.out.alloc _) (bk_texts w1 oddNames _ rfl) (Nat.ne_of_gt C1.out.lt) rfl (by omega) (by omega)).mono ?_
    rintro e w2 ⟨x, rfl, hx, hc2, hg2⟩
    have HX := Lib.hid (oddNames_mid x hx)
    have C2 := Lib.hid hc2
    have G2 := Lib.hid (grown_trans (grown_trans G1.out (World.grownBy_alloc w1 _ (some g))) hg2)
    clear hc2 hg2 hx
    go_wp2
    go_ret
    exact ⟨x, rfl, HX.out, C2.out, G2.out⟩

/-- Two short texts; nothing that was there is turned. -/
def Two (w : World) (e : Ending) (w' : World) : Prop := ∃ x y : ByteArray, e = .returned (.tuple #[.string x, .string y]) ∧ Short x ∧ Short y ∧ Below w.heap.size w w'

end Go.Proofs.YtkfibepejlgniaaGreatDoor.DrawN

/- What the model's draws of records do: records whose texts have at most 60 bytes; nothing that was there is turned but the cursor. -/
namespace Go.Proofs.YtkfibepejlgniaaGreatDoor.DrawR
open Go.RowKit Go.Proofs.YtkfibepejlgniaaGreatDoor.Mem Go.Proofs.YtkfibepejlgniaaGreatDoor.MemS Go.Proofs.YtkfibepejlgniaaGreatDoor.MemR Go.Proofs.YtkfibepejlgniaaGreatDoor.BoxR Go.Proofs.YtkfibepejlgniaaGreatDoor.Draw Go.Proofs.YtkfibepejlgniaaGreatDoor.DrawS Go.Proofs.YtkfibepejlgniaaGreatDoor.DrawL Go.Proofs.YtkfibepejlgniaaGreatDoor.DrawN Go.Proofs.YtkfibepejlgniaaGreatDoor.AppR Go.Proofs.YtkfibepejlgniaaGreatDoor.ResR

/-- A record of short texts. -/
def Sml (r : Rec) : Prop := r.name.size ≤ 60 ∧ r.host.size ≤ 60 ∧ r.text.size ≤ 60
def Rcd (w : World) (g : Nat) (e : Ending) (w' : World) : Prop := ∃ r : Rec, e = .returned (.agg #[.string r.name, .int .i64 r.ty, .int .i64 r.ttl, .int .i64 r.n, .string r.host, .string r.text]) ∧ Sml r ∧ Cur w' g ∧ w.grownBy w' (some g)
theorem grown_new {w wr : World} {g gr : Nat} (h : w.grownBy wr (some g)) (hr : w.heap.size ≤ gr) (j : Nat) (u : Value) : w.grownBy (wr.setCell ⟨gr, j, none⟩ u) (some g) :=
  ⟨h.os, h.tape, h.output, by simpa [World.setCell] using h.size, fun k hk hne => by
    rw [Below.heap_setCell _ _ _ _ (fun e => by have : gr = k := by simpa using e.symm
                                                omega)]; exact h.block k hk hne⟩
theorem cur_new {w : World} {g gr : Nat} (h : Cur w g) (hr : g < gr) (j : Nat) (u : Value) : Cur (w.setCell ⟨gr, j, none⟩ u) g :=
  h.grown (grown_set (grown_refl _ _) j u) (fun k hk => by cases hk; exact hr)

def types : List Int := [1, 1, 1, 2, 2, 5, 6, 16]
def ttls : List Int := [0, 1, 5, 60, 300, 100000]

set_option maxHeartbeats 1000000 in
theorem l5Type_any (g : Nat) (w : World) (hc : Cur w g) : Calls Tryz.prog 115 #[.pointer (some ⟨g, 0, none⟩)] w (Val w g (· ∈ types)) := by
  have HC := Lib.hid hc
  clear hc
  go_enter Tryz.func115, Tryz.ntmps115
  go_wp2_with fail
  refine (l1Int_any g w.heap.size 8 types _ (HC.out.alloc _) (bk_ints w types _ rfl) (Nat.ne_of_gt HC.out.lt) rfl (by omega) (by omega)).mono ?_
  rintro e w1 ⟨x, rfl, hx, hc1, hg1⟩
  have HX := Lib.hid hx
  have HC1 := Lib.hid hc1
  have HG1 := Lib.hid (grown_trans (World.grownBy_alloc w _ (some g)) hg1)
  clear hc1 hg1 hx
  go_wp2
  go_ret
  exact ⟨x, rfl, HX.out, HC1.out, HG1.out⟩

theorem types_or {t : Int} (h : t ∈ types) : t = 1 ∨ t = 2 ∨ t = 5 ∨ t = 6 ∨ t = 16 := by
  simp [types] at h
  omega

/-- The cursor, a box of the call's own that holds r, and nothing else turned. -/
def Bo (w : World) (g gr : Nat) (r : Rec) (v : World) : Prop := g < gr ∧ w.heap.size ≤ gr ∧ Cur v g ∧ w.grownBy v (some g) ∧ Bk v gr 117 (rc r)
theorem Bo.start {w v : World} {g : Nat} (h : Cur v g) (k : w.grownBy v (some g)) (r : Rec) : Bo w g v.heap.size r (v.alloc (.cells #[.string r.name, .int .i64 r.ty, .int .i64 r.ttl, .int .i64 r.n, .string r.host, .string r.text] 117)) :=
  ⟨h.lt, k.size, h.alloc _, grown_trans k (World.grownBy_alloc v _ _), heap_alloc_new v _⟩
theorem Bo.step {w v v' : World} {g gr : Nat} {r : Rec} (h : Bo w g gr r v) (hc : Cur v' g) (hg : v.grownBy v' (some g)) : Bo w g gr r v' :=
  ⟨h.1, h.2.1, hc, grown_trans h.2.2.2.1 hg, h.2.2.2.2.grown hg (fun e => by have := h.1; have := Option.some.inj e; omega)⟩
theorem Bo.alloc {w v : World} {g gr : Nat} {r : Rec} (h : Bo w g gr r v) (o : Obj) : Bo w g gr r (v.alloc o) := h.step (h.2.2.1.alloc o) (World.grownBy_alloc v o _)
theorem Bo.set {w v : World} {g gr : Nat} {r : Rec} (h : Bo w g gr r v) (j : Nat) (u : Value) (r' : Rec) (e : (rc r).set j u = rc r') : Bo w g gr r' (v.setCell ⟨gr, j, none⟩ u) :=
  ⟨h.1, h.2.1, cur_new h.2.2.1 h.1 j u, grown_new h.2.2.2.1 h.2.1 j u, by rw [← e]; exact h.2.2.2.2.set j u⟩
theorem Bo.bx {w v : World} {g gr : Nat} {r : Rec} (h : Bo w g gr r v) : Bx v gr r := bx_of h.2.2.2.2

def serials : List Int := [0, 5, 60]
def texts : List ByteArray := [⟨#[]⟩, ⟨#[104, 105]⟩, ⟨#[116, 119, 101, 108, 118, 101, 98, 121, 116, 101, 115, 33]⟩]
theorem texts_short : ∀ x ∈ texts, Short x := all_short _ (by decide)
theorem short_mid {x : ByteArray} (h : Short x) : x.size ≤ 60 := Nat.le_trans h (by decide)

/-- As Bo, with the box of the result besides, made first and still empty. -/
def Bp (w : World) (g gr : Nat) (r : Rec) (v : World) : Prop := Bo w g gr r v ∧ w.heap.size < gr ∧ g < w.heap.size ∧ Bk v w.heap.size 117 (rc zr)
section
variable {w v v' : World} {g gr : Nat} {r : Rec}
theorem Bp.step (h : Bp w g gr r v) (hc : Cur v' g) (hg : v.grownBy v' (some g)) : Bp w g gr r v' :=
  ⟨h.1.step hc hg, h.2.1, h.2.2.1, h.2.2.2.grown hg (fun e => by have := h.2.2.1; have := Option.some.inj e; omega)⟩
theorem Bp.alloc (h : Bp w g gr r v) (o : Obj) : Bp w g gr r (v.alloc o) := ⟨h.1.alloc o, h.2.1, h.2.2.1, h.2.2.2.alloc o⟩
theorem Bp.set (h : Bp w g gr r v) (j : Nat) (u : Value) (r' : Rec) (e : (rc r).set j u = rc r') : Bp w g gr r' (v.setCell ⟨gr, j, none⟩ u) :=
  ⟨h.1.set j u r' e, h.2.1, h.2.2.1, h.2.2.2.other (p := ⟨gr, j, none⟩) (by have := h.2.1; show w.heap.size ≠ gr; omega) u⟩
theorem Bp.cur (h : Bp w g gr r v) : Cur v g := h.1.2.2.1
theorem Bp.start (hc : Cur v g) (k : w.grownBy v (some g)) (hg : g < w.heap.size) (hz : Bk v w.heap.size 117 (rc zr)) (r : Rec) : Bp w g v.heap.size r (v.alloc (.cells #[.string r.name, .int .i64 r.ty, .int .i64 r.ttl, .int .i64 r.n, .string r.host, .string r.text] 117)) :=
  ⟨Bo.start hc k r, hz.lt, hg, hz.alloc _⟩
theorem cur_fil (h : Cur v g) (hg : g < gr) (r : Rec) : Cur (fil v gr r) g :=
  cur_new (cur_new (cur_new (cur_new (cur_new (cur_new h hg 0 (.string r.name)) hg 1 (.int .i64 r.ty)) hg 2 (.int .i64 r.ttl)) hg 3 (.int .i64 r.n)) hg 4 (.string r.host)) hg 5 (.string r.text)
theorem grown_fil (h : w.grownBy v (some g)) (hr : w.heap.size ≤ gr) (r : Rec) : w.grownBy (fil v gr r) (some g) :=
  grown_new (grown_new (grown_new (grown_new (grown_new (grown_new h hr 0 (.string r.name)) hr 1 (.int .i64 r.ty)) hr 2 (.int .i64 r.ttl)) hr 3 (.int .i64 r.n)) hr 4 (.string r.host)) hr 5 (.string r.text)
theorem rcd_of (h : Bp w g gr r v) (hs : Sml r) : Rcd w g (.returned (.agg #[.string r.name, .int .i64 r.ty, .int .i64 r.ttl, .int .i64 r.n, .string r.host, .string r.text])) (fil v w.heap.size r) :=
  ⟨r, rfl, hs, cur_fil h.cur h.2.2.1 r, grown_fil h.1.2.2.2.1 (Nat.le_refl _) r⟩
end
theorem zero_box (w : World) : Bk (w.alloc (.cells #[.string ⟨#[]⟩, .int .i64 0, .int .i64 0, .int .i64 0, .string ⟨#[]⟩, .string ⟨#[]⟩] 117)) w.heap.size 117 (rc zr) := heap_alloc_new w _

set_option maxHeartbeats 4000000 in
set_option maxRecDepth 100000 in
theorem l5Draw_any (g : Nat) (w : World) (hc : Cur w g) : Calls Tryz.prog 112 #[.pointer (some ⟨g, 0, none⟩)] w (Rcd w g) := by
  have HC := Lib.hid hc
  have GL := Lib.hid hc.lt
  have Z0 := Lib.hid (zero_box w)
  clear hc
  go_enter Tryz.func112, Tryz.ntmps112
  go_wp2_with fail
  refine (l3Name_any g _ (HC.out.alloc _)).mono ?_
  rintro e w1 ⟨x, rfl, hx, hc1, hg1⟩
  have HX := Lib.hid hx
  have C1 := Lib.hid hc1
  have Z1 := Lib.hid (Z0.out.grown hg1 (fun e => by have := GL.out; have := Option.some.inj e; omega))
  have G1 := Lib.hid (grown_trans (World.grownBy_alloc w _ (some g)) hg1)
  clear hx hc1 hg1 HC Z0
  go_wp2_with fail
  refine (l5Type_any g w1 C1.out).mono ?_
  rintro e w2 ⟨t, rfl, ht, hc2, hg2⟩
  have HT := Lib.hid (types_or ht)
  have C2 := Lib.hid hc2
  have Z2 := Lib.hid (Z1.out.grown hg2 (fun e => by have := GL.out; have := Option.some.inj e; omega))
  have G2 := Lib.hid (grown_trans G1.out hg2)
  clear ht hc2 hg2 C1 G1 Z1
  go_wp2_with fail
  refine (l1Int_any g w2.heap.size 6 ttls _ (C2.out.alloc _) (bk_ints w2 ttls _ rfl) (Nat.ne_of_gt C2.out.lt) rfl (by omega) (by omega)).mono ?_
  rintro e w3 ⟨z, rfl, hz, hc3, hg3⟩
  have C3 := Lib.hid hc3
  have Z3 := Lib.hid ((Z2.out.alloc _).grown hg3 (fun e => by have := GL.out; have := Option.some.inj e; omega))
  have G3 := Lib.hid (grown_trans (grown_trans G2.out (World.grownBy_alloc w2 _ (some g))) hg3)
  clear hz hc3 hg3 C2 G2 Z2
  have B3 := fun t => Lib.hid (Bp.start C3.out G3.out GL.out Z3.out ⟨x, t, z, 0, ⟨#[]⟩, ⟨#[]⟩⟩)
  clear C3 G3 Z3
  have hx60 : Hid (x.size ≤ 60) := short_mid HX.out
  rcases HT.out with rfl | rfl | rfl | rfl | rfl
  · have B4 := B3 1
    clear B3
    go_wp2_with fail
    refine (l1Below_any g 9 _ B4.out.cur (by omega) (by omega)).mono ?_
    rintro e w4 ⟨y, rfl, hy0, hy1, hc4, hg4⟩
    have B5 := Lib.hid (B4.out.step hc4 hg4)
    clear hc4 hg4 B4
    generalize w3.heap.size = gr at *
    have B6 := Lib.hid (B5.out.set 3 (.int .i64 (1 + y)) ⟨x, 1, z, 1 + y, ⟨#[]⟩, ⟨#[]⟩⟩ rfl)
    obtain ⟨c0, c1, c2, c3, c4, c5⟩ := B5.out.1.bx
    have fc3 := B5.out.1.2.2.2.2.free 3
    obtain ⟨d0, d1, d2, d3, d4, d5⟩ := B6.out.1.bx
    obtain ⟨z0, z1, z2, z3, z4, z5⟩ := bx_of B6.out.2.2.2
    have fz0 := B6.out.2.2.2.free 0
    have fz1 := B6.out.2.2.2.free 1
    have fz2 := B6.out.2.2.2.free 2
    have fz3 := B6.out.2.2.2.free 3
    have fz4 := B6.out.2.2.2.free 4
    have fz5 := B6.out.2.2.2.free 5
    go_wp2
    exact bodyPost_ret (v := .agg #[.string ((Rec.mk x 1 z (1 + y) ⟨#[]⟩ ⟨#[]⟩)).name, .int .i64 ((Rec.mk x 1 z (1 + y) ⟨#[]⟩ ⟨#[]⟩)).ty, .int .i64 ((Rec.mk x 1 z (1 + y) ⟨#[]⟩ ⟨#[]⟩)).ttl, .int .i64 ((Rec.mk x 1 z (1 + y) ⟨#[]⟩ ⟨#[]⟩)).n, .string ((Rec.mk x 1 z (1 + y) ⟨#[]⟩ ⟨#[]⟩)).host, .string ((Rec.mk x 1 z (1 + y) ⟨#[]⟩ ⟨#[]⟩)).text]) (res1 rfl (fil_bk B6.out.2.2.2 (Rec.mk x 1 z (1 + y) ⟨#[]⟩ ⟨#[]⟩)) rfl) rfl (rcd_of (r := Rec.mk x 1 z (1 + y) ⟨#[]⟩ ⟨#[]⟩) B6.out ⟨hx60.out, Nat.zero_le _, Nat.zero_le _⟩)
  · have B4 := B3 2
    clear B3
    go_wp2_with fail
    refine (l3Name_any g _ B4.out.cur).mono ?_
    rintro e w4 ⟨y, rfl, hy, hc4, hg4⟩
    have HY := Lib.hid hy
    have B5 := Lib.hid (B4.out.step hc4 hg4)
    clear hy hc4 hg4 B4
    generalize w3.heap.size = gr at *
    have B6 := Lib.hid (B5.out.set 4 (.string y) ⟨x, 2, z, 0, y, ⟨#[]⟩⟩ rfl)
    obtain ⟨c0, c1, c2, c3, c4, c5⟩ := B5.out.1.bx
    have fc4 := B5.out.1.2.2.2.2.free 4
    obtain ⟨d0, d1, d2, d3, d4, d5⟩ := B6.out.1.bx
    obtain ⟨z0, z1, z2, z3, z4, z5⟩ := bx_of B6.out.2.2.2
    have fz0 := B6.out.2.2.2.free 0
    have fz1 := B6.out.2.2.2.free 1
    have fz2 := B6.out.2.2.2.free 2
    have fz3 := B6.out.2.2.2.free 3
    have fz4 := B6.out.2.2.2.free 4
    have fz5 := B6.out.2.2.2.free 5
    go_wp2
    exact bodyPost_ret (v := .agg #[.string ((Rec.mk x 2 z 0 y ⟨#[]⟩)).name, .int .i64 ((Rec.mk x 2 z 0 y ⟨#[]⟩)).ty, .int .i64 ((Rec.mk x 2 z 0 y ⟨#[]⟩)).ttl, .int .i64 ((Rec.mk x 2 z 0 y ⟨#[]⟩)).n, .string ((Rec.mk x 2 z 0 y ⟨#[]⟩)).host, .string ((Rec.mk x 2 z 0 y ⟨#[]⟩)).text]) (res1 rfl (fil_bk B6.out.2.2.2 (Rec.mk x 2 z 0 y ⟨#[]⟩)) rfl) rfl (rcd_of (r := Rec.mk x 2 z 0 y ⟨#[]⟩) B6.out ⟨hx60.out, short_mid HY.out, Nat.zero_le _⟩)
  · have B4 := B3 5
    clear B3
    go_wp2_with fail
    refine (l3Name_any g _ B4.out.cur).mono ?_
    rintro e w4 ⟨y, rfl, hy, hc4, hg4⟩
    have HY := Lib.hid hy
    have B5 := Lib.hid (B4.out.step hc4 hg4)
    clear hy hc4 hg4 B4
    generalize w3.heap.size = gr at *
    have B6 := Lib.hid (B5.out.set 4 (.string y) ⟨x, 5, z, 0, y, ⟨#[]⟩⟩ rfl)
    obtain ⟨c0, c1, c2, c3, c4, c5⟩ := B5.out.1.bx
    have fc4 := B5.out.1.2.2.2.2.free 4
    obtain ⟨d0, d1, d2, d3, d4, d5⟩ := B6.out.1.bx
    obtain ⟨z0, z1, z2, z3, z4, z5⟩ := bx_of B6.out.2.2.2
    have fz0 := B6.out.2.2.2.free 0
    have fz1 := B6.out.2.2.2.free 1
    have fz2 := B6.out.2.2.2.free 2
    have fz3 := B6.out.2.2.2.free 3
    have fz4 := B6.out.2.2.2.free 4
    have fz5 := B6.out.2.2.2.free 5
    go_wp2
    exact bodyPost_ret (v := .agg #[.string ((Rec.mk x 5 z 0 y ⟨#[]⟩)).name, .int .i64 ((Rec.mk x 5 z 0 y ⟨#[]⟩)).ty, .int .i64 ((Rec.mk x 5 z 0 y ⟨#[]⟩)).ttl, .int .i64 ((Rec.mk x 5 z 0 y ⟨#[]⟩)).n, .string ((Rec.mk x 5 z 0 y ⟨#[]⟩)).host, .string ((Rec.mk x 5 z 0 y ⟨#[]⟩)).text]) (res1 rfl (fil_bk B6.out.2.2.2 (Rec.mk x 5 z 0 y ⟨#[]⟩)) rfl) rfl (rcd_of (r := Rec.mk x 5 z 0 y ⟨#[]⟩) B6.out ⟨hx60.out, short_mid HY.out, Nat.zero_le _⟩)
  · have B4 := B3 6
    clear B3
    go_wp2_with fail
    refine (l3Name_any g _ B4.out.cur).mono ?_
    rintro e w4 ⟨y, rfl, hy, hc4, hg4⟩
    have HY := Lib.hid hy
    have B5 := Lib.hid (B4.out.step hc4 hg4)
    clear hy hc4 hg4 B4
    generalize w3.heap.size = gr at *
    have B6 := Lib.hid (B5.out.set 4 (.string y) ⟨x, 6, z, 0, y, ⟨#[]⟩⟩ rfl)
    obtain ⟨c0, c1, c2, c3, c4, c5⟩ := B5.out.1.bx
    have fc4 := B5.out.1.2.2.2.2.free 4
    have hsz : (w4.setCell ⟨gr, 4, none⟩ (.string y)).heap.size = w4.heap.size := by simp [World.setCell]
    have K := Lib.hid (l1Int_any g (w4.setCell ⟨gr, 4, none⟩ (.string y)).heap.size 3 serials _ (B6.out.cur.alloc _) (bk_ints (w4.setCell ⟨gr, 4, none⟩ (.string y)) serials _ rfl) (Nat.ne_of_gt B6.out.cur.lt) rfl (by omega) (by omega))
    rw [hsz] at K
    clear hsz
    go_wp2_with fail
    refine K.out.mono ?_
    rintro e w5 ⟨k, rfl, hk, hc5, hg5⟩
    have B7 := Lib.hid ((B6.out.alloc _).step hc5 hg5)
    clear hk hc5 hg5 B6 B5 K c0 c1 c2 c3 c4 c5 fc4
    have B8 := Lib.hid (B7.out.set 3 (.int .i64 k) ⟨x, 6, z, k, y, ⟨#[]⟩⟩ rfl)
    obtain ⟨c0, c1, c2, c3, c4, c5⟩ := B7.out.1.bx
    have fc3 := B7.out.1.2.2.2.2.free 3
    obtain ⟨d0, d1, d2, d3, d4, d5⟩ := B8.out.1.bx
    obtain ⟨z0, z1, z2, z3, z4, z5⟩ := bx_of B8.out.2.2.2
    have fz0 := B8.out.2.2.2.free 0
    have fz1 := B8.out.2.2.2.free 1
    have fz2 := B8.out.2.2.2.free 2
    have fz3 := B8.out.2.2.2.free 3
    have fz4 := B8.out.2.2.2.free 4
    have fz5 := B8.out.2.2.2.free 5
    go_wp2
    exact bodyPost_ret (v := .agg #[.string ((Rec.mk x 6 z k y ⟨#[]⟩)).name, .int .i64 ((Rec.mk x 6 z k y ⟨#[]⟩)).ty, .int .i64 ((Rec.mk x 6 z k y ⟨#[]⟩)).ttl, .int .i64 ((Rec.mk x 6 z k y ⟨#[]⟩)).n, .string ((Rec.mk x 6 z k y ⟨#[]⟩)).host, .string ((Rec.mk x 6 z k y ⟨#[]⟩)).text]) (res1 rfl (fil_bk B8.out.2.2.2 (Rec.mk x 6 z k y ⟨#[]⟩)) rfl) rfl (rcd_of (r := Rec.mk x 6 z k y ⟨#[]⟩) B8.out ⟨hx60.out, short_mid HY.out, Nat.zero_le _⟩)
  · have B4 := B3 16
    clear B3
    have hsz : (w3.alloc (.cells #[.string x, .int .i64 16, .int .i64 z, .int .i64 0, .string ⟨#[]⟩, .string ⟨#[]⟩] 117)).heap.size = w3.heap.size + 1 := by simp
    have K := Lib.hid (l1Str_any g (w3.alloc (.cells #[.string x, .int .i64 16, .int .i64 z, .int .i64 0, .string ⟨#[]⟩, .string ⟨#[]⟩] 117)).heap.size 3 texts _ (B4.out.cur.alloc _) (bk_texts (w3.alloc (.cells #[.string x, .int .i64 16, .int .i64 z, .int .i64 0, .string ⟨#[]⟩, .string ⟨#[]⟩] 117)) texts _ rfl) (Nat.ne_of_gt B4.out.cur.lt) rfl (by omega) (by omega))
    rw [hsz] at K
    clear hsz
    go_wp2_with fail
    refine K.out.mono ?_
    rintro e w5 ⟨y, rfl, hy, hc5, hg5⟩
    have HY := Lib.hid (texts_short y hy)
    have B7 := Lib.hid ((B4.out.alloc _).step hc5 hg5)
    clear hy hc5 hg5 B4 K
    generalize w3.heap.size = gr at *
    have B8 := Lib.hid (B7.out.set 5 (.string y) ⟨x, 16, z, 0, ⟨#[]⟩, y⟩ rfl)
    obtain ⟨c0, c1, c2, c3, c4, c5⟩ := B7.out.1.bx
    have fc5 := B7.out.1.2.2.2.2.free 5
    obtain ⟨d0, d1, d2, d3, d4, d5⟩ := B8.out.1.bx
    obtain ⟨z0, z1, z2, z3, z4, z5⟩ := bx_of B8.out.2.2.2
    have fz0 := B8.out.2.2.2.free 0
    have fz1 := B8.out.2.2.2.free 1
    have fz2 := B8.out.2.2.2.free 2
    have fz3 := B8.out.2.2.2.free 3
    have fz4 := B8.out.2.2.2.free 4
    have fz5 := B8.out.2.2.2.free 5
    go_wp2
    exact bodyPost_ret (v := .agg #[.string ((Rec.mk x 16 z 0 ⟨#[]⟩ y)).name, .int .i64 ((Rec.mk x 16 z 0 ⟨#[]⟩ y)).ty, .int .i64 ((Rec.mk x 16 z 0 ⟨#[]⟩ y)).ttl, .int .i64 ((Rec.mk x 16 z 0 ⟨#[]⟩ y)).n, .string ((Rec.mk x 16 z 0 ⟨#[]⟩ y)).host, .string ((Rec.mk x 16 z 0 ⟨#[]⟩ y)).text]) (res1 rfl (fil_bk B8.out.2.2.2 (Rec.mk x 16 z 0 ⟨#[]⟩ y)) rfl) rfl (rcd_of (r := Rec.mk x 16 z 0 ⟨#[]⟩ y) B8.out ⟨hx60.out, Nat.zero_le _, short_mid HY.out⟩)

end Go.Proofs.YtkfibepejlgniaaGreatDoor.DrawR

/- Plain facts on rows of records of one's own. -/
namespace Go.Proofs.YtkfibepejlgniaaGreatDoor.OwnR
open Go.RowKit Go.Proofs.YtkfibepejlgniaaGreatDoor.Mem Go.Proofs.YtkfibepejlgniaaGreatDoor.MemR Go.Proofs.YtkfibepejlgniaaGreatDoor.AppR

section
variable {w w' : World} {base g n cap : Nat} {L : List Rec}
theorem own_below (h : w.ownsRow base 117 6 (.slice (some ⟨g, 0, none⟩) n cap) n (fl L)) (hb : Below w.heap.size w w') : w'.ownsRow base 117 6 (.slice (some ⟨g, 0, none⟩) n cap) n (fl L) :=
  h.kept (row := none) ⟨hb.os, hb.tape, hb.output, hb.size, fun k hk _ => hb.block k hk⟩ (Or.inr (by simp [Value.ownBlock]))
theorem own_len (h : w.ownsRow base 117 6 (.slice (some ⟨g, 0, none⟩) n cap) n (fl L)) : L.length = n := by
  have := h.1
  rw [fl_len] at this
  omega
end
theorem one_sr (w : World) (r : Rec) : Sr (w.alloc (.cells #[.string r.name, .int .i64 r.ty, .int .i64 r.ttl, .int .i64 r.n, .string r.host, .string r.text] 117)) (w.alloc (.cells #[.string r.name, .int .i64 r.ty, .int .i64 r.ttl, .int .i64 r.n, .string r.host, .string r.text] 117)).heap.size (some ⟨w.heap.size, 0, none⟩) 1 [r] := by
  have hb : Bk (w.alloc (.cells #[.string r.name, .int .i64 r.ty, .int .i64 r.ttl, .int .i64 r.n, .string r.host, .string r.text] 117)) w.heap.size 117 (fl [r]) := heap_alloc_new w _
  exact bk_sr0 hb rfl
end Go.Proofs.YtkfibepejlgniaaGreatDoor.OwnR

/- What the model's draws of any record, and of lists of records, do: records whose texts have at most 60 bytes; nothing that was there is turned but the cursor. -/
namespace Go.Proofs.YtkfibepejlgniaaGreatDoor.DrawA
open Go.RowKit Go.Proofs.YtkfibepejlgniaaGreatDoor.Mem Go.Proofs.YtkfibepejlgniaaGreatDoor.MemS Go.Proofs.YtkfibepejlgniaaGreatDoor.MemR Go.Proofs.YtkfibepejlgniaaGreatDoor.BoxR Go.Proofs.YtkfibepejlgniaaGreatDoor.Draw Go.Proofs.YtkfibepejlgniaaGreatDoor.DrawS Go.Proofs.YtkfibepejlgniaaGreatDoor.DrawL Go.Proofs.YtkfibepejlgniaaGreatDoor.DrawN Go.Proofs.YtkfibepejlgniaaGreatDoor.AppR Go.Proofs.YtkfibepejlgniaaGreatDoor.ResR Go.Proofs.YtkfibepejlgniaaGreatDoor.DrawR Go.Proofs.YtkfibepejlgniaaGreatDoor.OwnR

def anyTypes : List Int := [0, 3, 15, 1, 2, 6]
def anyTtls : List Int := [-1, 100000, 100001]
def anyNums : List Int := [-1, 2147483647, 2147483648, 100001, 0]
def anyTexts : List ByteArray := [⟨#[32]⟩, ⟨#[127]⟩, ⟨#[116, 104, 105, 114, 116, 101, 101, 110, 98, 121, 116, 101, 115]⟩, ⟨#[120]⟩]
theorem anyTexts_short : ∀ x ∈ anyTexts, Short x := all_short _ (by decide)

set_option maxHeartbeats 4000000 in
set_option maxRecDepth 100000 in
theorem l5Any_any (g : Nat) (w : World) (hc : Cur w g) : Calls Tryz.prog 111 #[.pointer (some ⟨g, 0, none⟩)] w (Rcd w g) := by
  have HC := Lib.hid hc
  have GL := Lib.hid hc.lt
  have Z0 := Lib.hid (zero_box w)
  clear hc
  go_enter Tryz.func111, Tryz.ntmps111
  go_wp2_with fail
  refine (l5Draw_any g _ (HC.out.alloc _)).mono ?_
  rintro e w1 ⟨r, rfl, hx, hc1, hg1⟩
  have HX := Lib.hid hx
  have Z1 := Lib.hid (Z0.out.grown hg1 (fun e => by have := GL.out; have := Option.some.inj e; omega))
  have G1 := Lib.hid (grown_trans (World.grownBy_alloc w _ (some g)) hg1)
  have B1 := Lib.hid (Bp.start hc1 G1.out GL.out Z1.out r)
  clear hx hc1 hg1 HC Z0 Z1 G1
  obtain ⟨x, t, z, k, h, y⟩ := r
  dsimp only at B1 ⊢
  go_wp2_with fail
  refine (l1Below_any g 12 _ B1.out.cur (by omega) (by omega)).mono ?_
  rintro e w2 ⟨q, rfl, hq0, hq1, hc2, hg2⟩
  have B2 := Lib.hid (B1.out.step hc2 hg2)
  clear hc2 hg2 B1
  generalize w1.heap.size = gr at *
  have hx1 : Hid (x.size ≤ 60) := HX.out.1
  have hx2 : Hid (h.size ≤ 60) := HX.out.2.1
  have hx3 : Hid (y.size ≤ 60) := HX.out.2.2
  clear HX
  by_cases q0 : q = 0
  · subst q0
    go_wp2_with fail
    refine (l3Any_any g w2 B2.out.cur).mono ?_
    rintro e w3 ⟨v, rfl, hv, hc3, hg3⟩
    have HV : Hid (v.size ≤ 60) := hv
    have B3 := Lib.hid (B2.out.step hc3 hg3)
    clear hv hc3 hg3 B2
    have B4 := Lib.hid (B3.out.set 0 (.string v) ⟨v, t, z, k, h, y⟩ rfl)
    obtain ⟨c0, c1, c2, c3, c4, c5⟩ := B3.out.1.bx
    have fc0 := B3.out.1.2.2.2.2.free 0
    obtain ⟨d0, d1, d2, d3, d4, d5⟩ := B4.out.1.bx
    obtain ⟨z0, z1, z2, z3, z4, z5⟩ := bx_of B4.out.2.2.2
    have fz0 := B4.out.2.2.2.free 0
    have fz1 := B4.out.2.2.2.free 1
    have fz2 := B4.out.2.2.2.free 2
    have fz3 := B4.out.2.2.2.free 3
    have fz4 := B4.out.2.2.2.free 4
    have fz5 := B4.out.2.2.2.free 5
    go_wp2
    exact bodyPost_ret (v := .agg #[.string ((Rec.mk v t z k h y)).name, .int .i64 ((Rec.mk v t z k h y)).ty, .int .i64 ((Rec.mk v t z k h y)).ttl, .int .i64 ((Rec.mk v t z k h y)).n, .string ((Rec.mk v t z k h y)).host, .string ((Rec.mk v t z k h y)).text]) (res1 rfl (fil_bk B4.out.2.2.2 (Rec.mk v t z k h y)) rfl) rfl (rcd_of (r := Rec.mk v t z k h y) B4.out ⟨HV.out, hx2.out, hx3.out⟩)
  by_cases q1 : q = 1
  · subst q1
    go_wp2_with fail
    refine (l1Int_any g w2.heap.size 6 anyTypes _ (B2.out.cur.alloc _) (bk_ints w2 anyTypes _ rfl) (Nat.ne_of_gt B2.out.cur.lt) rfl (by omega) (by omega)).mono ?_
    rintro e w3 ⟨v, rfl, hv, hc3, hg3⟩
    have B3 := Lib.hid ((B2.out.alloc _).step hc3 hg3)
    clear hv hc3 hg3 B2
    have B4 := Lib.hid (B3.out.set 1 (.int .i64 v) ⟨x, v, z, k, h, y⟩ rfl)
    obtain ⟨c0, c1, c2, c3, c4, c5⟩ := B3.out.1.bx
    have fc1 := B3.out.1.2.2.2.2.free 1
    obtain ⟨d0, d1, d2, d3, d4, d5⟩ := B4.out.1.bx
    obtain ⟨z0, z1, z2, z3, z4, z5⟩ := bx_of B4.out.2.2.2
    have fz0 := B4.out.2.2.2.free 0
    have fz1 := B4.out.2.2.2.free 1
    have fz2 := B4.out.2.2.2.free 2
    have fz3 := B4.out.2.2.2.free 3
    have fz4 := B4.out.2.2.2.free 4
    have fz5 := B4.out.2.2.2.free 5
    go_wp2
    exact bodyPost_ret (v := .agg #[.string ((Rec.mk x v z k h y)).name, .int .i64 ((Rec.mk x v z k h y)).ty, .int .i64 ((Rec.mk x v z k h y)).ttl, .int .i64 ((Rec.mk x v z k h y)).n, .string ((Rec.mk x v z k h y)).host, .string ((Rec.mk x v z k h y)).text]) (res1 rfl (fil_bk B4.out.2.2.2 (Rec.mk x v z k h y)) rfl) rfl (rcd_of (r := Rec.mk x v z k h y) B4.out ⟨hx1.out, hx2.out, hx3.out⟩)
  by_cases q2 : q = 2
  · subst q2
    go_wp2_with fail
    refine (l1Int_any g w2.heap.size 3 anyTtls _ (B2.out.cur.alloc _) (bk_ints w2 anyTtls _ rfl) (Nat.ne_of_gt B2.out.cur.lt) rfl (by omega) (by omega)).mono ?_
    rintro e w3 ⟨v, rfl, hv, hc3, hg3⟩
    have B3 := Lib.hid ((B2.out.alloc _).step hc3 hg3)
    clear hv hc3 hg3 B2
    have B4 := Lib.hid (B3.out.set 2 (.int .i64 v) ⟨x, t, v, k, h, y⟩ rfl)
    obtain ⟨c0, c1, c2, c3, c4, c5⟩ := B3.out.1.bx
    have fc2 := B3.out.1.2.2.2.2.free 2
    obtain ⟨d0, d1, d2, d3, d4, d5⟩ := B4.out.1.bx
    obtain ⟨z0, z1, z2, z3, z4, z5⟩ := bx_of B4.out.2.2.2
    have fz0 := B4.out.2.2.2.free 0
    have fz1 := B4.out.2.2.2.free 1
    have fz2 := B4.out.2.2.2.free 2
    have fz3 := B4.out.2.2.2.free 3
    have fz4 := B4.out.2.2.2.free 4
    have fz5 := B4.out.2.2.2.free 5
    go_wp2
    exact bodyPost_ret (v := .agg #[.string ((Rec.mk x t v k h y)).name, .int .i64 ((Rec.mk x t v k h y)).ty, .int .i64 ((Rec.mk x t v k h y)).ttl, .int .i64 ((Rec.mk x t v k h y)).n, .string ((Rec.mk x t v k h y)).host, .string ((Rec.mk x t v k h y)).text]) (res1 rfl (fil_bk B4.out.2.2.2 (Rec.mk x t v k h y)) rfl) rfl (rcd_of (r := Rec.mk x t v k h y) B4.out ⟨hx1.out, hx2.out, hx3.out⟩)
  by_cases q3 : q = 3
  · subst q3
    go_wp2_with fail
    refine (l1Int_any g w2.heap.size 5 anyNums _ (B2.out.cur.alloc _) (bk_ints w2 anyNums _ rfl) (Nat.ne_of_gt B2.out.cur.lt) rfl (by omega) (by omega)).mono ?_
    rintro e w3 ⟨v, rfl, hv, hc3, hg3⟩
    have B3 := Lib.hid ((B2.out.alloc _).step hc3 hg3)
    clear hv hc3 hg3 B2
    have B4 := Lib.hid (B3.out.set 3 (.int .i64 v) ⟨x, t, z, v, h, y⟩ rfl)
    obtain ⟨c0, c1, c2, c3, c4, c5⟩ := B3.out.1.bx
    have fc3 := B3.out.1.2.2.2.2.free 3
    obtain ⟨d0, d1, d2, d3, d4, d5⟩ := B4.out.1.bx
    obtain ⟨z0, z1, z2, z3, z4, z5⟩ := bx_of B4.out.2.2.2
    have fz0 := B4.out.2.2.2.free 0
    have fz1 := B4.out.2.2.2.free 1
    have fz2 := B4.out.2.2.2.free 2
    have fz3 := B4.out.2.2.2.free 3
    have fz4 := B4.out.2.2.2.free 4
    have fz5 := B4.out.2.2.2.free 5
    go_wp2
    exact bodyPost_ret (v := .agg #[.string ((Rec.mk x t z v h y)).name, .int .i64 ((Rec.mk x t z v h y)).ty, .int .i64 ((Rec.mk x t z v h y)).ttl, .int .i64 ((Rec.mk x t z v h y)).n, .string ((Rec.mk x t z v h y)).host, .string ((Rec.mk x t z v h y)).text]) (res1 rfl (fil_bk B4.out.2.2.2 (Rec.mk x t z v h y)) rfl) rfl (rcd_of (r := Rec.mk x t z v h y) B4.out ⟨hx1.out, hx2.out, hx3.out⟩)
  by_cases q4 : q = 4
  · subst q4
    go_wp2_with fail
    refine (l3Any_any g w2 B2.out.cur).mono ?_
    rintro e w3 ⟨v, rfl, hv, hc3, hg3⟩
    have HV : Hid (v.size ≤ 60) := hv
    have B3 := Lib.hid (B2.out.step hc3 hg3)
    clear hv hc3 hg3 B2
    have B4 := Lib.hid (B3.out.set 4 (.string v) ⟨x, t, z, k, v, y⟩ rfl)
    obtain ⟨c0, c1, c2, c3, c4, c5⟩ := B3.out.1.bx
    have fc4 := B3.out.1.2.2.2.2.free 4
    obtain ⟨d0, d1, d2, d3, d4, d5⟩ := B4.out.1.bx
    obtain ⟨z0, z1, z2, z3, z4, z5⟩ := bx_of B4.out.2.2.2
    have fz0 := B4.out.2.2.2.free 0
    have fz1 := B4.out.2.2.2.free 1
    have fz2 := B4.out.2.2.2.free 2
    have fz3 := B4.out.2.2.2.free 3
    have fz4 := B4.out.2.2.2.free 4
    have fz5 := B4.out.2.2.2.free 5
    go_wp2
    exact bodyPost_ret (v := .agg #[.string ((Rec.mk x t z k v y)).name, .int .i64 ((Rec.mk x t z k v y)).ty, .int .i64 ((Rec.mk x t z k v y)).ttl, .int .i64 ((Rec.mk x t z k v y)).n, .string ((Rec.mk x t z k v y)).host, .string ((Rec.mk x t z k v y)).text]) (res1 rfl (fil_bk B4.out.2.2.2 (Rec.mk x t z k v y)) rfl) rfl (rcd_of (r := Rec.mk x t z k v y) B4.out ⟨hx1.out, HV.out, hx3.out⟩)
  by_cases q5 : q = 5
  · subst q5
    go_wp2_with fail
    refine (l1Str_any g w2.heap.size 4 anyTexts _ (B2.out.cur.alloc _) (bk_texts w2 anyTexts _ rfl) (Nat.ne_of_gt B2.out.cur.lt) rfl (by omega) (by omega)).mono ?_
    rintro e w3 ⟨v, rfl, hv, hc3, hg3⟩
    have HV : Hid (v.size ≤ 60) := short_mid (anyTexts_short v hv)
    have B3 := Lib.hid ((B2.out.alloc _).step hc3 hg3)
    clear hv hc3 hg3 B2
    have B4 := Lib.hid (B3.out.set 5 (.string v) ⟨x, t, z, k, h, v⟩ rfl)
    obtain ⟨c0, c1, c2, c3, c4, c5⟩ := B3.out.1.bx
    have fc5 := B3.out.1.2.2.2.2.free 5
    obtain ⟨d0, d1, d2, d3, d4, d5⟩ := B4.out.1.bx
    obtain ⟨z0, z1, z2, z3, z4, z5⟩ := bx_of B4.out.2.2.2
    have fz0 := B4.out.2.2.2.free 0
    have fz1 := B4.out.2.2.2.free 1
    have fz2 := B4.out.2.2.2.free 2
    have fz3 := B4.out.2.2.2.free 3
    have fz4 := B4.out.2.2.2.free 4
    have fz5 := B4.out.2.2.2.free 5
    go_wp2
    exact bodyPost_ret (v := .agg #[.string ((Rec.mk x t z k h v)).name, .int .i64 ((Rec.mk x t z k h v)).ty, .int .i64 ((Rec.mk x t z k h v)).ttl, .int .i64 ((Rec.mk x t z k h v)).n, .string ((Rec.mk x t z k h v)).host, .string ((Rec.mk x t z k h v)).text]) (res1 rfl (fil_bk B4.out.2.2.2 (Rec.mk x t z k h v)) rfl) rfl (rcd_of (r := Rec.mk x t z k h v) B4.out ⟨hx1.out, hx2.out, HV.out⟩)
  have e0 : (q == 0) = false := beq_eq_false_iff_ne.2 q0
  have e1 : (q == 1) = false := beq_eq_false_iff_ne.2 q1
  have e2 : (q == 2) = false := beq_eq_false_iff_ne.2 q2
  have e3 : (q == 3) = false := beq_eq_false_iff_ne.2 q3
  have e4 : (q == 4) = false := beq_eq_false_iff_ne.2 q4
  have e5 : (q == 5) = false := beq_eq_false_iff_ne.2 q5
  obtain ⟨d0, d1, d2, d3, d4, d5⟩ := B2.out.1.bx
  obtain ⟨z0, z1, z2, z3, z4, z5⟩ := bx_of B2.out.2.2.2
  have fz0 := B2.out.2.2.2.free 0
  have fz1 := B2.out.2.2.2.free 1
  have fz2 := B2.out.2.2.2.free 2
  have fz3 := B2.out.2.2.2.free 3
  have fz4 := B2.out.2.2.2.free 4
  have fz5 := B2.out.2.2.2.free 5
  go_wp2
  exact bodyPost_ret (v := .agg #[.string ((Rec.mk x t z k h y)).name, .int .i64 ((Rec.mk x t z k h y)).ty, .int .i64 ((Rec.mk x t z k h y)).ttl, .int .i64 ((Rec.mk x t z k h y)).n, .string ((Rec.mk x t z k h y)).host, .string ((Rec.mk x t z k h y)).text]) (res1 rfl (fil_bk B2.out.2.2.2 (Rec.mk x t z k h y)) rfl) rfl (rcd_of (r := Rec.mk x t z k h y) B2.out ⟨hx1.out, hx2.out, hx3.out⟩)

/-- A new row of records with short texts; the cursor moved, nothing else turned. -/
def Lst (w : World) (g most : Nat) (e : Ending) (w' : World) : Prop :=
  ∃ (gl cap : Nat) (L : List Rec), e = .returned (.slice (some ⟨gl, 0, none⟩) L.length cap) ∧ w'.ownsRow w.heap.size 117 6 (.slice (some ⟨gl, 0, none⟩) L.length cap) L.length (fl L) ∧ L.length ≤ most ∧ (∀ r ∈ L, Sml r) ∧ Cur w' g ∧ w.grownBy w' (some g)
theorem own_far {w w' : World} {base g gl n cap : Nat} {L : List Rec} (h : w.ownsRow base 117 6 (.slice (some ⟨gl, 0, none⟩) n cap) n (fl L)) (hg : w.grownBy w' (some g)) (hb : g < base) : w'.ownsRow base 117 6 (.slice (some ⟨gl, 0, none⟩) n cap) n (fl L) :=
  h.kept hg (Or.inr (fun e => by have h1 := (h.lt gl rfl).1; have h2 := Option.some.inj e; simp at h2; omega))
theorem cur_far {w w' : World} {base g gl n cap : Nat} {L : List Rec} (h : Cur w g) (ho : w.ownsRow base 117 6 (.slice (some ⟨gl, 0, none⟩) n cap) n (fl L)) (hg : w.grownBy w' (some gl)) (hb : g < base) : Cur w' g :=
  h.grown hg (fun k hk => by have h1 := (ho.lt gl rfl).1; cases hk; omega)
theorem grown_far {w v v' : World} {g gl : Nat} (h : w.grownBy v (some g)) (hg : v.grownBy v' (some gl)) (hl : w.heap.size ≤ gl) : w.grownBy v' (some g) :=
  ⟨hg.os.trans h.os, hg.tape.trans h.tape, hg.output.trans h.output, Nat.le_trans h.size hg.size, fun k hk hne => (hg.block k (Nat.lt_of_lt_of_le hk h.size) (fun e => by have := Option.some.inj e; omega)).trans (h.block k hk hne)⟩

set_option maxHeartbeats 4000000 in
set_option maxRecDepth 100000 in
theorem l5List_any (g most : Nat) (w : World) (hc : Cur w g) (hm : most ≤ 100) : Calls Tryz.prog 56 #[.pointer (some ⟨g, 0, none⟩), .int .i64 (most : Int)] w (Lst w g most) := by
  have HC := Lib.hid hc
  have GL := Lib.hid hc.lt
  clear hc
  go_enter Tryz.func56, Tryz.ntmps56
  go_wp2_with fail
  refine (l1Below_any g ((most : Int) + 1) _ (HC.out.alloc _) (by omega) (by omega)).mono ?_
  rintro e w1 ⟨q, rfl, hq0, hq1, hc1, hg1⟩
  obtain ⟨q0, rfl⟩ := Int.eq_ofNat_of_zero_le hq0
  have O1 := Lib.hid (own_far (L := []) (AppR.owns_new w) hg1 GL.out)
  have C1 := Lib.hid hc1
  have G1 := Lib.hid (grown_trans (World.grownBy_alloc w (.cells #[] 117) (some g)) hg1)
  clear hc1 hg1 HC
  go_wp2
  go_loopw [5, 6] (fun v i wr => ∃ (gl m cap q : Nat) (L : List Rec), m + q ≤ most ∧ i = .int .i64 (q : Int) ∧ v = .slice (some ⟨gl, 0, none⟩) m cap ∧ Hid (wr.ownsRow w.heap.size 117 6 (.slice (some ⟨gl, 0, none⟩) m cap) m (fl L)) ∧ Hid (∀ r ∈ L, Sml r) ∧ Hid (Cur wr g) ∧ Hid (w.grownBy wr (some g))) (fun _ i _ => (intOf i).toNat)
  case atStart => exact ⟨w.heap.size, 0, 0, q0, [], by omega, rfl, rfl, O1.out, (fun r hr => by cases hr), C1.out, G1.out⟩
  case round =>
    clear O1 C1 G1
    obtain ⟨gl, m, cap, q, L, hmq, rfl, rfl, HO, HS, HC, HG⟩ := hrel
    by_cases hq : 0 < q
    · obtain ⟨p, rfl⟩ : ∃ p, q = p + 1 := ⟨q - 1, by omega⟩
      have hp0 : (0 : Int) < ((p + 1 : Nat) : Int) := by omega
      go_wp2_with fail
      refine (l5Draw_any g wr HC.out).mono ?_
      rintro e w2 ⟨r, rfl, hr, hc2, hg2⟩
      have HR := Lib.hid hr
      have O3 := Lib.hid ((own_far HO.out hg2 GL.out).alloc (.cells #[.string r.name, .int .i64 r.ty, .int .i64 r.ttl, .int .i64 r.n, .string r.host, .string r.text] 117))
      have C3 := Lib.hid (hc2.alloc (.cells #[.string r.name, .int .i64 r.ty, .int .i64 r.ttl, .int .i64 r.n, .string r.host, .string r.text] 117))
      have G3 := Lib.hid (grown_trans (grown_trans HG.out hg2) (World.grownBy_alloc w2 (.cells #[.string r.name, .int .i64 r.ty, .int .i64 r.ttl, .int .i64 r.n, .string r.host, .string r.text] 117) (some g)))
      have S3 := Lib.hid (one_sr w2 r)
      clear hr hc2 hg2 HO HC HG
      go_wp2_with (at_builtin; refine append_recs rfl (.tmp 16) (.tmp 19) rfl w.heap.size gl m cap L rfl O3.out w2.heap.size 0 1 1 _ [r] rfl S3.out ?d1 ?d2 ?d3 ?_)
      case d1 => omega
      case d2 => omega
      case d3 => exact G3.out.size
      intro g4 cap4 w4 hown hgrow
      have O4 := Lib.hid hown
      have C4 := Lib.hid (cur_far C3.out O3.out hgrow GL.out)
      have G4 := Lib.hid (grown_far G3.out hgrow (O3.out.lt gl rfl).1)
      have S4 : Hid (∀ x ∈ L ++ [r], Sml x) := fun x hx => by
        rcases List.mem_append.1 hx with hx | hx
        · exact HS.out x hx
        · rw [List.mem_singleton.1 hx]; exact HR.out
      clear hown hgrow O3 C3 G3 S3 HS HR
      go_wp2
      go_roundw
      case rel => exact ⟨g4, m + 1, cap4, p, L ++ [r], by omega, by go_num, rfl, O4.out, S4.out, C4.out, G4.out⟩
      case measure => first | (simp [intOf]; done) | (simp [intOf]; omega)
    · obtain rfl : q = 0 := by omega
      have hl := own_len HO.out
      go_wp2
      go_ret
      exact ⟨gl, cap, L, by rw [hl]; rfl, by rw [hl]; exact HO.out, by omega, HS.out, HC.out, HG.out⟩

end Go.Proofs.YtkfibepejlgniaaGreatDoor.DrawA

/- What AskMsg does in the program and in the model: a query with this Id and question and nothing else. No condition. -/
namespace Go.Proofs.YtkfibepejlgniaaGreatDoor.AskM
open Go.RowKit Go.Proofs.YtkfibepejlgniaaGreatDoor.Mem Go.Proofs.YtkfibepejlgniaaGreatDoor.MemR Go.Proofs.YtkfibepejlgniaaGreatDoor.BoxR Go.Proofs.YtkfibepejlgniaaGreatDoor.MemM Go.Proofs.YtkfibepejlgniaaGreatDoor.ResM

/-- The head of a query. -/
def askh (id : Int) (s : ByteArray) (n : Int) : Hd := ⟨id, false, false, false, false, false, 0, s, n⟩

set_option maxHeartbeats 1000000 in
theorem impl (id : Int) (s : ByteArray) (n : Int) (w : World) : Calls Tryz.prog 14 #[.int .i64 id, .agg #[.string s, .int .i64 n]] w fun e w' => e = .returned (.agg #[.int .i64 (askh id s n).id, .bool (askh id s n).rp, .bool (askh id s n).au, .bool (askh id s n).ct, .bool (askh id s n).wa, .bool (askh id s n).ca, .int .i64 (askh id s n).code, .string (askh id s n).qn, .int .i64 (askh id s n).qt, .slice none 0 0, .slice none 0 0, .slice none 0 0]) ∧ Below w.heap.size w w' := by
  go_enter Tryz.func14, Tryz.ntmps14
  go_wp2
  refine bodyPost_ret (v := .agg #[.int .i64 (askh id s n).id, .bool (askh id s n).rp, .bool (askh id s n).au, .bool (askh id s n).ct, .bool (askh id s n).wa, .bool (askh id s n).ca, .int .i64 (askh id s n).code, .string (askh id s n).qn, .int .i64 (askh id s n).qt, .slice none 0 0, .slice none 0 0, .slice none 0 0]) (by simp [results, Tryz.results14, go_sem, askh]) rfl ⟨rfl, ?_⟩
  repeat (first | exact Below.refl _ _ | refine Below.setCell ?_ (by simp; try omega) _ | refine Below.alloc ?_ (by simp; try omega) _)

set_option maxHeartbeats 1000000 in
theorem spec (id : Int) (s : ByteArray) (n : Int) (w : World) : Calls Tryz.prog 18 #[.int .i64 id, .agg #[.string s, .int .i64 n]] w fun e w' => e = .returned (.agg #[.int .i64 (askh id s n).id, .bool (askh id s n).rp, .bool (askh id s n).au, .bool (askh id s n).ct, .bool (askh id s n).wa, .bool (askh id s n).ca, .int .i64 (askh id s n).code, .string (askh id s n).qn, .int .i64 (askh id s n).qt, .slice none 0 0, .slice none 0 0, .slice none 0 0]) ∧ Below w.heap.size w w' := by
  go_enter Tryz.func18, Tryz.ntmps18
  go_wp2
  refine bodyPost_ret (v := .agg #[.int .i64 (askh id s n).id, .bool (askh id s n).rp, .bool (askh id s n).au, .bool (askh id s n).ct, .bool (askh id s n).wa, .bool (askh id s n).ca, .int .i64 (askh id s n).code, .string (askh id s n).qn, .int .i64 (askh id s n).qt, .slice none 0 0, .slice none 0 0, .slice none 0 0]) (by simp [results, Tryz.results18, go_sem, askh]) rfl ⟨rfl, ?_⟩
  repeat (first | exact Below.refl _ _ | refine Below.setCell ?_ (by simp; try omega) _ | refine Below.alloc ?_ (by simp; try omega) _)

end Go.Proofs.YtkfibepejlgniaaGreatDoor.AskM

/- What the law's own helpers markText, markStringS and heldStringS do: a text for each number; every element becomes the text of its number; they are found again. Condition: fewer than 2000001 texts. -/
namespace Go.Proofs.YtkfibepejlgniaaGreatDoor.MarkS
open Go.RowKit Go.Proofs.YtkfibepejlgniaaGreatDoor.Mem Go.Proofs.YtkfibepejlgniaaGreatDoor.MemS

/-- The last digit of v. -/
def dg (v : Nat) : UInt8 := UInt8.ofNat (48 + v % 10)
theorem dg_cell (v : Nat) : ((dg v).toNat : Int) = 48 + (v : Int) % 10 := by
  unfold dg
  rw [UInt8.toNat_ofNat_of_lt' (by simp [UInt8.size]; omega)]
  omega
/-- The digits of v, none for 0, in at most so many rounds. -/
def dsf : Nat → Nat → List UInt8
  | 0, _ => []
  | f + 1, v => if v = 0 then [] else dsf f (v / 10) ++ [dg v]
theorem dsf_same : ∀ (f g v : Nat), v ≤ f → v ≤ g → dsf f v = dsf g v
  | 0, 0, _, _, _ => rfl
  | 0, g + 1, v, h, _ => by rw [dsf, dsf, if_pos (by omega)]
  | f + 1, 0, v, _, h => by rw [dsf, dsf, if_pos (by omega)]
  | f + 1, g + 1, v, h1, h2 => by
    rw [dsf, dsf]
    by_cases h : v = 0
    · rw [if_pos h, if_pos h]
    · rw [if_neg h, if_neg h, dsf_same f g (v / 10) (by omega) (by omega)]
/-- The digits of v, none for 0. -/
def ds (v : Nat) : List UInt8 := dsf v v
theorem ds_zero : ds 0 = [] := rfl
theorem ds_step (v : Nat) (h : v ≠ 0) : ds v = ds (v / 10) ++ [dg v] := by
  obtain ⟨n, rfl⟩ : ∃ n, v = n + 1 := ⟨v - 1, by omega⟩
  rw [ds, ds, dsf, if_neg h, dsf_same n ((n + 1) / 10) ((n + 1) / 10) (by omega) (Nat.le_refl _)]
theorem ds_len (v : Nat) : (ds v).length ≤ v := by
  induction v using Nat.strongRecOn with
  | ind v ih =>
    by_cases h : v = 0
    · subst h; rw [ds_zero]; simp
    · rw [ds_step v h, List.length_append]
      have := ih (v / 10) (by omega)
      simp
      omega
theorem ds_tenth (v : Nat) : (ds v).length ≤ v / 10 + 1 := by
  by_cases h : v = 0
  · subst h; rw [ds_zero]; simp
  · rw [ds_step v h, List.length_append]
    have := ds_len (v / 10)
    simp
    omega
/-- The text of a number. A def, so that no step of a walk opens it. -/
def Mt (v : Nat) : ByteArray := ⟨(109 :: ds v).toArray⟩

/-- One byte in a new block, made a string. -/
theorem back (P : Program) (w : World) {src dst e : TypeId} (x : UInt8) (hs : P.underlying src = some (.slice e)) (he : P.underlying e = some (.int .u8)) (hd : P.underlying dst = some .string) :
    (convert src dst (.slice (some ⟨w.heap.size, 0, none⟩) 1 1)).run P (w.alloc (.cells #[.int .u8 (x.toNat : Int)] e)) = .ok (.string ⟨[x].toArray⟩) (w.alloc (.cells #[.int .u8 (x.toNat : Int)] e)) := by
  refine run_convert_bytes_back _ src dst e ⟨w.heap.size, 0, none⟩ 1 [x] hs he hd fun j hj => ?_
  have hj0 : j = 0 := by simp at hj; exact hj
  subst hj0
  rw [Addr.add_lit]
  have hb : Bk (w.alloc (.cells #[.int .u8 (x.toNat : Int)] e)) w.heap.size e [.int .u8 (x.toNat : Int)] := heap_alloc_new w _
  rw [hb.cell]
  rfl

set_option maxHeartbeats 400000 in
theorem markText_any (u : Nat) (h0 : 0 < u) (h1 : u ≤ 20000000) (w : World) :
    Calls Tryz.prog 152 #[.int .i64 (u : Int)] w fun e w' => e = .returned (.string (Mt u)) ∧ Below w.heap.size w w' := by
  have hz : ¬ (u : Int) ≤ 0 := by omega
  go_enter Tryz.func152, Tryz.ntmps152
  go_wp2
  go_loopw [0, 3] (fun x s wr => ∃ (v : Nat) (acc : List UInt8), v ≤ u ∧ x = .int .i64 (v : Int) ∧ s = .string ⟨acc.toArray⟩ ∧ Hid (ds v ++ acc = ds u) ∧ Hid (Below w.heap.size w wr)) (fun x _ _ => (intOf x).toNat)
  case atStart => exact ⟨u, [], Nat.le_refl _, rfl, rfl, by show _ = _; rw [List.append_nil], Below.refl _ _⟩
  case round =>
    obtain ⟨v, acc, hv, rfl, rfl, HA, HB⟩ := hrel
    have hsum : ((acc.length : Int)) ≤ 8388608 := by
      have h2 := ds_tenth u
      rw [← HA.out, List.length_append] at h2
      omega
    by_cases hv0 : v = 0
    · have hacc : Hid (acc = ds u) := by show _ = _; rw [← HA.out, hv0, ds_zero]; rfl
      have hle : ¬ (0 : Int) < (v : Int) := by omega
      have hcat := fun w => run_string_add_lists (P := Tryz.prog) w [109] acc (by simp) hsum
      clear hv0
      go_wp2
      go_ret
      exact ⟨by rw [hacc.out]; rfl, HB.out⟩
    · have hvp : 0 < v := by omega
      have hconv := fun w => back Tryz.prog w (dg v) Tryz.underlying22 Tryz.underlying5 Tryz.underlying9
      have hcat := fun w => run_string_add_lists (P := Tryz.prog) w [dg v] acc (by simp) hsum
      rw [dg_cell] at hconv
      go_wp2
      go_roundw
      case rel => exact ⟨v / 10, dg v :: acc, by omega, by go_num, rfl, by show _ = _; rw [← HA.out, ds_step v hv0, List.append_assoc]; rfl, HB.out.alloc HB.out.size _⟩
      case measure => simp [intOf]; omega

/-- The texts that markStringS lays: those of k, k + 1 and so on. -/
def marks : Nat → Nat → List ByteArray
  | _, 0 => []
  | k, n + 1 => Mt k :: marks (k + 1) n
theorem marks_length (k n : Nat) : (marks k n).length = n := by
  induction n generalizing k with
  | zero => rfl
  | succ n ih => simp [marks, ih]
theorem marks_at (k n j : Nat) (h : j < n) : (marks k n)[j]? = some (Mt (k + j)) := by
  induction n generalizing k j with
  | zero => omega
  | succ n ih =>
    cases j with
    | zero => simp [marks]
    | succ j => simp only [marks, List.getElem?_cons_succ]; rw [ih (k + 1) j (by omega), show k + 1 + j = k + (j + 1) by omega]
theorem marks_snoc (k n : Nat) : marks k (n + 1) = marks k n ++ [Mt (k + n)] := by
  induction n generalizing k with
  | zero => simp [marks]
  | succ n ih => rw [marks, ih (k + 1), marks, List.cons_append, show k + 1 + n = k + (n + 1) by omega]
theorem mark_step (cs : List Value) (k j n : Nat) (hj : j < n) (hn : n ≤ cs.length) :
    ((marks k j).map tv ++ cs.drop j).set j (Value.string (Mt (k + j))) = (marks k (j + 1)).map tv ++ cs.drop (j + 1) := by
  rw [List.set_append_right _ _ (by rw [List.length_map, marks_length]; omega), List.length_map, marks_length, Nat.sub_self, List.drop_eq_getElem_cons (by omega), List.set_cons_zero, marks_snoc, List.map_append, List.append_assoc]
  rfl
theorem mark_at (cs : List Value) (k j : Nat) (hj : j < cs.length) : ((marks k j).map tv ++ cs.drop j)[j]? = some cs[j] := by
  rw [List.getElem?_append_right (by rw [List.length_map, marks_length]; omega), List.length_map, marks_length, Nat.sub_self, List.drop_eq_getElem_cons hj]
  rfl
theorem grown_of_below {w w' : World} (h : Below w.heap.size w w') (r : Option Nat) : w.grownBy w' r := ⟨h.os, h.tape, h.output, h.size, fun k hk _ => h.block k hk⟩
theorem grown_trans {a b d : World} {r : Option Nat} (h : a.grownBy b r) (k : b.grownBy d r) : a.grownBy d r :=
  ⟨k.os.trans h.os, k.tape.trans h.tape, k.output.trans h.output, Nat.le_trans h.size k.size, fun i hi hne => (k.block i (Nat.lt_of_lt_of_le hi h.size) hne).trans (h.block i hi hne)⟩
theorem grown_set {w wr : World} {g : Nat} (h : w.grownBy wr (some g)) (j : Nat) (u : Value) : w.grownBy (wr.setCell ⟨g, j, none⟩ u) (some g) :=
  ⟨h.os, h.tape, h.output, by simpa [World.setCell] using h.size, fun k hk hne => by
    rw [Below.heap_setCell _ _ _ _ (fun e => hne (by simp [e]))]; exact h.block k hk hne⟩

end Go.Proofs.YtkfibepejlgniaaGreatDoor.MarkS

/- What the model's draws of questions and of messages do: texts of at most 60 bytes, sections of at most three records; nothing that was there is turned but the cursor. -/
namespace Go.Proofs.YtkfibepejlgniaaGreatDoor.DrawM
open Go.RowKit Go.Proofs.YtkfibepejlgniaaGreatDoor.Mem Go.Proofs.YtkfibepejlgniaaGreatDoor.MemS Go.Proofs.YtkfibepejlgniaaGreatDoor.MemR Go.Proofs.YtkfibepejlgniaaGreatDoor.BoxR Go.Proofs.YtkfibepejlgniaaGreatDoor.Draw Go.Proofs.YtkfibepejlgniaaGreatDoor.DrawS Go.Proofs.YtkfibepejlgniaaGreatDoor.DrawL Go.Proofs.YtkfibepejlgniaaGreatDoor.DrawN Go.Proofs.YtkfibepejlgniaaGreatDoor.AppR Go.Proofs.YtkfibepejlgniaaGreatDoor.ResR Go.Proofs.YtkfibepejlgniaaGreatDoor.DrawR Go.Proofs.YtkfibepejlgniaaGreatDoor.OwnR Go.Proofs.YtkfibepejlgniaaGreatDoor.DrawA Go.Proofs.YtkfibepejlgniaaGreatDoor.MemM Go.Proofs.YtkfibepejlgniaaGreatDoor.ResM Go.Proofs.YtkfibepejlgniaaGreatDoor.AskM

/-- A question with a short name; the cursor moved, nothing else turned. -/
def Qst (w : World) (g : Nat) (e : Ending) (w' : World) : Prop := ∃ (s : ByteArray) (n : Int), e = .returned (.agg #[.string s, .int .i64 n]) ∧ s.size ≤ 60 ∧ Cur w' g ∧ w.grownBy w' (some g)
theorem results_q {fn : Func} {p : Tmp} {w : World} {g : Nat} {t : TypeId} {s : ByteArray} {n : Int} {tmps : Array Value} (hf : fn.results = #[.cell p 25]) (k : Bk w g t [.string s, .int .i64 n]) (h4 : tmps.getD p undef = .pointer (some ⟨g, 0, none⟩)) :
    (results fn tmps).run Tryz.prog w = .ok (.agg #[.string s, .int .i64 n]) w := by
  have c0 := k.cell 0
  have c1 := k.cell 1
  rw [results_cell hf, h4, as_addr]
  simp [Result.andThen, go_sem, c0, c1]

set_option maxHeartbeats 4000000 in
theorem l7Quest_any (g : Nat) (w : World) (hc : Cur w g) : Calls Tryz.prog 60 #[.pointer (some ⟨g, 0, none⟩)] w (Qst w g) := by
  have HC := Lib.hid hc
  have GL := Lib.hid hc.lt
  have Z0 : Hid (Bk (w.alloc (.cells #[.string ⟨#[]⟩, .int .i64 0] 25)) w.heap.size 25 [.string ⟨#[]⟩, .int .i64 0]) := heap_alloc_new w _
  clear hc
  go_enter Tryz.func60, Tryz.ntmps60
  go_wp2_with fail
  refine (l3Name_any g _ (HC.out.alloc _)).mono ?_
  rintro e w1 ⟨s, rfl, hs, hc1, hg1⟩
  have HS : Hid (s.size ≤ 60) := short_mid hs
  have Z1 := Lib.hid (Z0.out.grown hg1 (fun e => by have := GL.out; have := Option.some.inj e; omega))
  have G1 := Lib.hid (grown_trans (World.grownBy_alloc w _ (some g)) hg1)
  have C1 := Lib.hid hc1
  clear hs hc1 hg1 HC Z0
  go_wp2_with fail
  refine (l5Type_any g w1 C1.out).mono ?_
  rintro e w2 ⟨n, rfl, -, hc2, hg2⟩
  have Z2 := Lib.hid (Z1.out.grown hg2 (fun e => by have := GL.out; have := Option.some.inj e; omega))
  have G2 := Lib.hid (grown_trans G1.out hg2)
  have C2 := Lib.hid hc2
  clear hc2 hg2 C1 Z1 G1
  have z0 : w2.cell? ⟨w.heap.size, 0, none⟩ = some (.string ⟨#[]⟩) := Z2.out.cell 0
  have z1 : w2.cell? ⟨w.heap.size, 1, none⟩ = some (.int .i64 0) := Z2.out.cell 1
  have f0 := Z2.out.free 0
  have f1 := Z2.out.free 1
  have F := Lib.hid ((Z2.out.set 0 (.string s)).set 1 (.int .i64 n))
  have CF := Lib.hid (cur_new (cur_new C2.out GL.out 0 (.string s)) GL.out 1 (.int .i64 n))
  have GF := Lib.hid (grown_new (grown_new G2.out (Nat.le_refl _) 0 (.string s)) (Nat.le_refl _) 1 (.int .i64 n))
  go_wp2
  exact bodyPost_ret (v := .agg #[.string s, .int .i64 n]) (results_q rfl F.out rfl) rfl ⟨s, n, rfl, HS.out, CF.out, GF.out⟩

/-- A drawn message under way: the result's box still empty, the message's own box, the cursor, nothing else turned. -/
def Bq (w : World) (g gm : Nat) (h : Hd) (x y z : Value) (v : World) : Prop := g < w.heap.size ∧ w.heap.size < gm ∧ Cur v g ∧ w.grownBy v (some g) ∧ Bk v w.heap.size 28 (mc zh (.slice none 0 0) (.slice none 0 0) (.slice none 0 0)) ∧ Bk v gm 28 (mc h x y z)
section
variable {w v v' : World} {g gm : Nat} {h h' : Hd} {x y z x' y' z' : Value}
theorem Bq.cur (k : Bq w g gm h x y z v) : Cur v g := k.2.2.1
theorem Bq.step (k : Bq w g gm h x y z v) (hc : Cur v' g) (hg : v.grownBy v' (some g)) : Bq w g gm h x y z v' :=
  ⟨k.1, k.2.1, hc, grown_trans k.2.2.2.1 hg, k.2.2.2.2.1.grown hg (fun e => by have := Option.some.inj e; have := k.1; omega), k.2.2.2.2.2.grown hg (fun e => by have := Option.some.inj e; have := k.1; have := k.2.1; omega)⟩
theorem Bq.alloc (k : Bq w g gm h x y z v) (o : Obj) : Bq w g gm h x y z (v.alloc o) := k.step (k.cur.alloc o) (World.grownBy_alloc v o _)
theorem Bq.set (k : Bq w g gm h x y z v) (j : Nat) (u : Value) (e : (mc h x y z).set j u = mc h' x' y' z') : Bq w g gm h' x' y' z' (v.setCell ⟨gm, j, none⟩ u) :=
  ⟨k.1, k.2.1, cur_new k.cur (by have := k.1; have := k.2.1; omega) j u, grown_new k.2.2.2.1 (Nat.le_of_lt k.2.1) j u, k.2.2.2.2.1.other (p := ⟨gm, j, none⟩) (Nat.ne_of_lt k.2.1) u, e ▸ k.2.2.2.2.2.set j u⟩
theorem Bq.start (hc : Cur v g) (k : w.grownBy v (some g)) (hg : g < w.heap.size) (hz : Bk v w.heap.size 28 (mc zh (.slice none 0 0) (.slice none 0 0) (.slice none 0 0))) (h : Hd) (x y z : Value) : Bq w g v.heap.size h x y z (v.alloc (.cells #[.int .i64 h.id, .bool h.rp, .bool h.au, .bool h.ct, .bool h.wa, .bool h.ca, .int .i64 h.code, .string h.qn, .int .i64 h.qt, x, y, z] 28)) :=
  ⟨hg, hz.lt, hc.alloc _, grown_trans k (World.grownBy_alloc v _ _), hz.alloc _, heap_alloc_new v _⟩
theorem filM_grown (v : World) (g : Nat) (h : Hd) (x y z : Value) : v.grownBy (filM v g h x y z) (some g) :=
  (Draw.grown_set (Draw.grown_set (Draw.grown_set (Draw.grown_set (Draw.grown_set (Draw.grown_set (Draw.grown_set (Draw.grown_set (Draw.grown_set (Draw.grown_set (Draw.grown_set (Draw.grown_set (Draw.grown_refl v (some g)) 0 (.int .i64 h.id)) 1 (.bool h.rp)) 2 (.bool h.au)) 3 (.bool h.ct)) 4 (.bool h.wa)) 5 (.bool h.ca)) 6 (.int .i64 h.code)) 7 (.string h.qn)) 8 (.int .i64 h.qt)) 9 (x)) 10 (y)) 11 (z))
theorem Bq.fil (k : Bq w g gm h x y z v) : Bk (filM v w.heap.size h x y z) w.heap.size 28 (mc h x y z) ∧ Cur (filM v w.heap.size h x y z) g ∧ w.grownBy (filM v w.heap.size h x y z) (some g) :=
  ⟨filM_bk k.2.2.2.2.1 h x y z, k.cur.grown (filM_grown v w.heap.size h x y z) (fun j hj => by cases hj; exact k.1), grown_far k.2.2.2.1 (filM_grown v w.heap.size h x y z) (Nat.le_refl _)⟩
end
/-- A section: nil, or a row of the call's own from base on. -/
def Sec (w : World) (base : Nat) (A : Option Addr) (n c : Nat) (l : List Rec) : Prop :=
  (A = none ∧ n = 0 ∧ c = 0 ∧ l = []) ∨ ∃ gl, A = some ⟨gl, 0, none⟩ ∧ w.ownsRow base 117 6 (.slice (some ⟨gl, 0, none⟩) n c) n (fl l)
/-- The section's block, where it has one, lies below b. -/
def Und (A : Option Addr) (b : Nat) : Prop := ∀ gl, A = some ⟨gl, 0, none⟩ → gl < b
theorem und_none (b : Nat) : Und none b := fun _ h => by cases h
theorem Sec.far {w w' : World} {base k : Nat} {A : Option Addr} {n c : Nat} {l : List Rec} (s : Sec w base A n c l) (hg : w.grownBy w' (some k)) (hb : k < base) : Sec w' base A n c l := by
  rcases s with h | ⟨gl, e, ho⟩
  · exact Or.inl h
  · exact Or.inr ⟨gl, e, own_far ho hg hb⟩
theorem Sec.sr {w : World} {base : Nat} {A : Option Addr} {n c : Nat} {l : List Rec} (s : Sec w base A n c l) : Sr w w.heap.size A n l ∧ l.length = n := by
  rcases s with ⟨rfl, rfl, rfl, rfl⟩ | ⟨gl, rfl, ho⟩
  · exact ⟨Sr.nil, rfl⟩
  · obtain ⟨r, hb, _⟩ := bk_of_owns6 ho
    exact ⟨bk_sr hb (own_len ho), own_len ho⟩
/-- A drawn message: its name is short, its sections are rows of their own, one behind the other, with short records. -/
def Drm (w : World) (g : Nat) (e : Ending) (w' : World) : Prop :=
  ∃ (h : Hd) (A1 : Option Addr) (n1 c1 : Nat) (l1 : List Rec) (b1 : Nat) (A2 : Option Addr) (n2 c2 : Nat) (l2 : List Rec) (b2 : Nat) (A3 : Option Addr) (n3 c3 : Nat) (l3 : List Rec) (b3 : Nat),
    e = .returned (.agg #[.int .i64 h.id, .bool h.rp, .bool h.au, .bool h.ct, .bool h.wa, .bool h.ca, .int .i64 h.code, .string h.qn, .int .i64 h.qt, .slice A1 n1 c1, .slice A2 n2 c2, .slice A3 n3 c3]) ∧ h.qn.size ≤ 60 ∧ (Sec w' b1 A1 n1 c1 l1 ∧ n1 ≤ 3 ∧ ∀ r ∈ l1, Sml r) ∧ (Sec w' b2 A2 n2 c2 l2 ∧ n2 ≤ 3 ∧ ∀ r ∈ l2, Sml r) ∧ (Sec w' b3 A3 n3 c3 l3 ∧ n3 ≤ 3 ∧ ∀ r ∈ l3, Sml r) ∧
    (w.heap.size < b1 ∧ Und A1 b2 ∧ b1 ≤ b2 ∧ Und A1 b3 ∧ Und A2 b3 ∧ b2 ≤ b3 ∧ b3 ≤ w'.heap.size) ∧ Cur w' g ∧ w.grownBy w' (some g)
def codes : List Int := [0, 0, 0, 3, 2, 5, 15]

set_option maxRecDepth 100000 in
set_option maxHeartbeats 8000000 in
theorem l7Draw_any (g : Nat) (w : World) (hc : Cur w g) : Calls Tryz.prog 109 #[.pointer (some ⟨g, 0, none⟩)] w (Drm w g) := by
  have HC := Lib.hid hc
  have GL := Lib.hid hc.lt
  have Z0 : Hid (Bk (w.alloc (.cells #[.int .i64 0, .bool false, .bool false, .bool false, .bool false, .bool false, .int .i64 0, .string ⟨#[]⟩, .int .i64 0, .slice none 0 0, .slice none 0 0, .slice none 0 0] 28)) w.heap.size 28 (mc zh (.slice none 0 0) (.slice none 0 0) (.slice none 0 0))) := heap_alloc_new w _
  clear hc
  go_enter Tryz.func109, Tryz.ntmps109
  go_wp2_with fail
  refine (l1Below_any g 70000 _ (HC.out.alloc _) (by omega) (by omega)).mono ?_
  rintro e w1 ⟨q, rfl, hq0, hq1, hc1, hg1⟩
  have Z1 := Lib.hid (Z0.out.grown hg1 (fun e => by have := GL.out; have := Option.some.inj e; omega))
  have G1 := Lib.hid (grown_trans (World.grownBy_alloc w _ (some g)) hg1)
  have C1 := Lib.hid hc1
  clear hc1 hg1 HC Z0
  go_wp2_with fail
  refine (l7Quest_any g w1 C1.out).mono ?_
  rintro e w2 ⟨s, n, rfl, hs, hc2, hg2⟩
  have HS := Lib.hid hs
  have Z2 := Lib.hid (Z1.out.grown hg2 (fun e => by have := GL.out; have := Option.some.inj e; omega))
  have G2 := Lib.hid (grown_trans G1.out hg2)
  have C2 := Lib.hid hc2
  clear hs hc2 hg2 C1 Z1 G1
  go_wp2_with fail
  generalize q % 65536 = id at *
  refine (AskM.spec id s n w2).mono ?_
  rintro e w3 ⟨rfl, hl⟩
  have Z3 := Lib.hid (Z2.out.below hl Z2.out.lt)
  have G3 := Lib.hid (grown_trans G2.out (MarkS.grown_of_below hl (some g)))
  have C3 := Lib.hid (C2.out.grown (MarkS.grown_of_below hl none) (fun k hk => by cases hk))
  clear hl C2 Z2 G2 hq0 hq1
  have B3 := Lib.hid (Bq.start C3.out G3.out GL.out Z3.out (askh id s n) (.slice none 0 0) (.slice none 0 0) (.slice none 0 0))
  clear C3 G3 Z3
  go_wp2_with fail
  refine (l1Once_any g 3 _ B3.out.cur (by omega) (by omega)).mono ?_
  rintro e w4 ⟨b, rfl, hc4, hg4⟩
  have B4 := Lib.hid (B3.out.step hc4 hg4)
  clear hc4 hg4 B3
  generalize w3.heap.size = gm at *
  cases b
  · have NG := Lib.hid (show g < gm by have := B4.out.1; have := B4.out.2.1; omega)
    have NW := Lib.hid B4.out.2.1
    have c1 := (mx_of B4.out.2.2.2.2.2).2.1
    have f1 := B4.out.2.2.2.2.2.free 1
    have B5 : Hid (Bq w g gm ⟨id, true, false, false, false, false, 0, s, n⟩ (.slice none 0 0) (.slice none 0 0) (.slice none 0 0) (w4.setCell ⟨gm, 1, none⟩ (.bool true))) := B4.out.set 1 (.bool true) rfl
    go_wp2_with fail
    refine (l1Once_any g 2 _ B5.out.cur (by omega) (by omega)).mono ?_
    rintro e w5 ⟨au, rfl, hc, hg⟩
    have B6 := Lib.hid (B5.out.step hc hg)
    clear hc hg B5 c1 f1 B4
    have c2 := (mx_of B6.out.2.2.2.2.2).2.2.1
    have f2 := B6.out.2.2.2.2.2.free 2
    have B7 : Hid (Bq w g gm ⟨id, true, au, false, false, false, 0, s, n⟩ (.slice none 0 0) (.slice none 0 0) (.slice none 0 0) (w5.setCell ⟨gm, 2, none⟩ (.bool au))) := B6.out.set 2 (.bool au) rfl
    go_wp2_with fail
    refine (l1Once_any g 9 _ B7.out.cur (by omega) (by omega)).mono ?_
    rintro e w7 ⟨ct, rfl, hc, hg⟩
    have B8 := Lib.hid (B7.out.step hc hg)
    clear hc hg B7 c2 f2 B6
    have c3 := (mx_of B8.out.2.2.2.2.2).2.2.2.1
    have f3 := B8.out.2.2.2.2.2.free 3
    have B9 : Hid (Bq w g gm ⟨id, true, au, ct, false, false, 0, s, n⟩ (.slice none 0 0) (.slice none 0 0) (.slice none 0 0) (w7.setCell ⟨gm, 3, none⟩ (.bool ct))) := B8.out.set 3 (.bool ct) rfl
    go_wp2_with fail
    refine (l1Once_any g 5 _ B9.out.cur (by omega) (by omega)).mono ?_
    rintro e w9 ⟨ca, rfl, hc, hg⟩
    have B10 := Lib.hid (B9.out.step hc hg)
    clear hc hg B9 c3 f3 B8
    have c5 := (mx_of B10.out.2.2.2.2.2).2.2.2.2.2.1
    have f5 := B10.out.2.2.2.2.2.free 5
    have B11 : Hid (Bq w g gm ⟨id, true, au, ct, false, ca, 0, s, n⟩ (.slice none 0 0) (.slice none 0 0) (.slice none 0 0) (w9.setCell ⟨gm, 5, none⟩ (.bool ca))) := B10.out.set 5 (.bool ca) rfl
    have hsz : (w9.setCell ⟨gm, 5, none⟩ (.bool ca)).heap.size = w9.heap.size := by simp [World.setCell]
    have KI : Bk ((w9.setCell ⟨gm, 5, none⟩ (.bool ca)).alloc (.cells #[.int .i64 0, .int .i64 0, .int .i64 0, .int .i64 3, .int .i64 2, .int .i64 5, .int .i64 15] 3)) w9.heap.size 3 (codes.map (Value.int .i64)) := by
      have := bk_ints (w9.setCell ⟨gm, 5, none⟩ (.bool ca)) codes _ rfl
      rwa [hsz] at this
    have KI2 := Lib.hid KI
    have hng : w9.heap.size ≠ g := by have := B11.out.cur.lt; rw [hsz] at this; omega
    clear KI hsz
    go_wp2_with fail
    refine (l1Int_any g w9.heap.size 7 codes _ (B11.out.cur.alloc _) KI2.out hng rfl (by omega) (by omega)).mono ?_
    rintro e w11 ⟨code, rfl, -, hc, hg⟩
    have B12 := Lib.hid ((B11.out.alloc _).step hc hg)
    clear hc hg hng KI2 B11 c5 f5 B10
    have c6 := (mx_of B12.out.2.2.2.2.2).2.2.2.2.2.2.1
    have f6 := B12.out.2.2.2.2.2.free 6
    have B13 : Hid (Bq w g gm ⟨id, true, au, ct, false, ca, code, s, n⟩ (.slice none 0 0) (.slice none 0 0) (.slice none 0 0) (w11.setCell ⟨gm, 6, none⟩ (.int .i64 code))) := B12.out.set 6 (.int .i64 code) rfl
    have M1 := Lib.hid B13.out.2.2.2.2.2.lt
    obtain ⟨b1, hb1⟩ : ∃ b, (w11.setCell ⟨gm, 6, none⟩ (.int .i64 code)).heap.size = b := ⟨_, rfl⟩
    have HB1 := Lib.hid hb1
    clear hb1
    go_wp2_with fail
    refine (l5List_any g 3 _ B13.out.cur (by omega)).mono ?_
    rintro e w13 ⟨u1, a1, L1, rfl, ho, hL1, hS1, hc, hg⟩
    rw [HB1.out] at ho
    have MM1 : Hid (gm < b1) := by show _ < _; rw [← HB1.out]; exact M1.out
    have SS1 := Lib.hid hS1
    have O1 := Lib.hid ho
    have B14 := Lib.hid (B13.out.step hc hg)
    clear ho hS1 hc hg HB1 M1 B13 c6 f6 B12
    obtain ⟨n1, hn1⟩ : ∃ n, L1.length = n := ⟨_, rfl⟩
    rw [hn1] at O1 hL1 ⊢
    have HN1 := Lib.hid hn1
    clear hn1
    have c9 := (mx_of B14.out.2.2.2.2.2).2.2.2.2.2.2.2.2.2.1
    have f9 := B14.out.2.2.2.2.2.free 9
    have B15 : Hid (Bq w g gm ⟨id, true, au, ct, false, ca, code, s, n⟩ (.slice (some ⟨u1, 0, none⟩) n1 a1) (.slice none 0 0) (.slice none 0 0) (w13.setCell ⟨gm, 9, none⟩ (.slice (some ⟨u1, 0, none⟩) n1 a1))) := B14.out.set 9 (.slice (some ⟨u1, 0, none⟩) n1 a1) rfl
    have O1' := Lib.hid (own_far O1.out (Draw.grown_set (Draw.grown_refl w13 (some gm)) 9 (.slice (some ⟨u1, 0, none⟩) n1 a1)) MM1.out)
    clear O1
    have O1 := O1'
    clear O1'
    have M2 := Lib.hid B15.out.2.2.2.2.2.lt
    obtain ⟨b2, hb2⟩ : ∃ b, (w13.setCell ⟨gm, 9, none⟩ (.slice (some ⟨u1, 0, none⟩) n1 a1)).heap.size = b := ⟨_, rfl⟩
    have U12 : Hid (u1 < b2) := by show _ < _; rw [← hb2]; exact (O1.out.lt u1 rfl).2
    have HB2 := Lib.hid hb2
    clear hb2
    go_wp2_with fail
    refine (l5List_any g 2 _ B15.out.cur (by omega)).mono ?_
    rintro e w15 ⟨u2, a2, L2, rfl, ho, hL2, hS2, hc, hg⟩
    rw [HB2.out] at ho
    have MM2 : Hid (gm < b2) := by show _ < _; rw [← HB2.out]; exact M2.out
    have SS2 := Lib.hid hS2
    have O2 := Lib.hid ho
    have O1' := Lib.hid (own_far O1.out hg (by have := MM1.out; have := GL.out; have := NG.out; omega))
    clear O1
    have O1 := O1'
    clear O1'
    have B16 := Lib.hid (B15.out.step hc hg)
    clear ho hS2 hc hg HB2 M2 B15 c9 f9 B14
    obtain ⟨n2, hn2⟩ : ∃ n, L2.length = n := ⟨_, rfl⟩
    rw [hn2] at O2 hL2 ⊢
    have HN2 := Lib.hid hn2
    clear hn2
    have c10 := (mx_of B16.out.2.2.2.2.2).2.2.2.2.2.2.2.2.2.2.1
    have f10 := B16.out.2.2.2.2.2.free 10
    have B17 : Hid (Bq w g gm ⟨id, true, au, ct, false, ca, code, s, n⟩ (.slice (some ⟨u1, 0, none⟩) n1 a1) (.slice (some ⟨u2, 0, none⟩) n2 a2) (.slice none 0 0) (w15.setCell ⟨gm, 10, none⟩ (.slice (some ⟨u2, 0, none⟩) n2 a2))) := B16.out.set 10 (.slice (some ⟨u2, 0, none⟩) n2 a2) rfl
    have O1' := Lib.hid (own_far O1.out (Draw.grown_set (Draw.grown_refl w15 (some gm)) 10 (.slice (some ⟨u2, 0, none⟩) n2 a2)) MM1.out)
    clear O1
    have O1 := O1'
    clear O1'
    have O2' := Lib.hid (own_far O2.out (Draw.grown_set (Draw.grown_refl w15 (some gm)) 10 (.slice (some ⟨u2, 0, none⟩) n2 a2)) MM2.out)
    clear O2
    have O2 := O2'
    clear O2'
    have M3 := Lib.hid B17.out.2.2.2.2.2.lt
    obtain ⟨b3, hb3⟩ : ∃ b, (w15.setCell ⟨gm, 10, none⟩ (.slice (some ⟨u2, 0, none⟩) n2 a2)).heap.size = b := ⟨_, rfl⟩
    have U13 : Hid (u1 < b3) := by show _ < _; rw [← hb3]; exact (O1.out.lt u1 rfl).2
    have U23 : Hid (u2 < b3) := by show _ < _; rw [← hb3]; exact (O2.out.lt u2 rfl).2
    have HB3 := Lib.hid hb3
    clear hb3
    go_wp2_with fail
    refine (l5List_any g 2 _ B17.out.cur (by omega)).mono ?_
    rintro e w17 ⟨u3, a3, L3, rfl, ho, hL3, hS3, hc, hg⟩
    rw [HB3.out] at ho
    have MM3 : Hid (gm < b3) := by show _ < _; rw [← HB3.out]; exact M3.out
    have SS3 := Lib.hid hS3
    have O3 := Lib.hid ho
    have O1' := Lib.hid (own_far O1.out hg (by have := MM1.out; have := GL.out; have := NG.out; omega))
    clear O1
    have O1 := O1'
    clear O1'
    have O2' := Lib.hid (own_far O2.out hg (by have := MM2.out; have := GL.out; have := NG.out; omega))
    clear O2
    have O2 := O2'
    clear O2'
    have B18 := Lib.hid (B17.out.step hc hg)
    clear ho hS3 hc hg HB3 M3 B17 c10 f10 B16
    obtain ⟨n3, hn3⟩ : ∃ n, L3.length = n := ⟨_, rfl⟩
    rw [hn3] at O3 hL3 ⊢
    have HN3 := Lib.hid hn3
    clear hn3
    have c11 := (mx_of B18.out.2.2.2.2.2).2.2.2.2.2.2.2.2.2.2.2
    have f11 := B18.out.2.2.2.2.2.free 11
    have B19 : Hid (Bq w g gm ⟨id, true, au, ct, false, ca, code, s, n⟩ (.slice (some ⟨u1, 0, none⟩) n1 a1) (.slice (some ⟨u2, 0, none⟩) n2 a2) (.slice (some ⟨u3, 0, none⟩) n3 a3) (w17.setCell ⟨gm, 11, none⟩ (.slice (some ⟨u3, 0, none⟩) n3 a3))) := B18.out.set 11 (.slice (some ⟨u3, 0, none⟩) n3 a3) rfl
    have O1' := Lib.hid (own_far O1.out (Draw.grown_set (Draw.grown_refl w17 (some gm)) 11 (.slice (some ⟨u3, 0, none⟩) n3 a3)) MM1.out)
    clear O1
    have O1 := O1'
    clear O1'
    have O2' := Lib.hid (own_far O2.out (Draw.grown_set (Draw.grown_refl w17 (some gm)) 11 (.slice (some ⟨u3, 0, none⟩) n3 a3)) MM2.out)
    clear O2
    have O2 := O2'
    clear O2'
    have O3' := Lib.hid (own_far O3.out (Draw.grown_set (Draw.grown_refl w17 (some gm)) 11 (.slice (some ⟨u3, 0, none⟩) n3 a3)) MM3.out)
    clear O3
    have O3 := O3'
    clear O3'
    have NB1 : Hid (w.heap.size < b1) := by show _ < _; have := MM1.out; have := NW.out; omega
    have V1 := Lib.hid (own_far O1.out (filM_grown (w17.setCell ⟨gm, 11, none⟩ (.slice (some ⟨u3, 0, none⟩) n3 a3)) w.heap.size (Hd.mk id true au ct false ca code s n) (.slice (some ⟨u1, 0, none⟩) n1 a1) (.slice (some ⟨u2, 0, none⟩) n2 a2) (.slice (some ⟨u3, 0, none⟩) n3 a3)) (by have := MM1.out; have := NW.out; omega))
    have V2 := Lib.hid (own_far O2.out (filM_grown (w17.setCell ⟨gm, 11, none⟩ (.slice (some ⟨u3, 0, none⟩) n3 a3)) w.heap.size (Hd.mk id true au ct false ca code s n) (.slice (some ⟨u1, 0, none⟩) n1 a1) (.slice (some ⟨u2, 0, none⟩) n2 a2) (.slice (some ⟨u3, 0, none⟩) n3 a3)) (by have := MM2.out; have := NW.out; omega))
    have V3 := Lib.hid (own_far O3.out (filM_grown (w17.setCell ⟨gm, 11, none⟩ (.slice (some ⟨u3, 0, none⟩) n3 a3)) w.heap.size (Hd.mk id true au ct false ca code s n) (.slice (some ⟨u1, 0, none⟩) n1 a1) (.slice (some ⟨u2, 0, none⟩) n2 a2) (.slice (some ⟨u3, 0, none⟩) n3 a3)) (by have := MM3.out; have := NW.out; omega))
    have LB12 : Hid (b1 ≤ b2) := by show _ ≤ _; have h1 := (O1.out.lt u1 rfl).1; have := U12.out; omega
    have LB23 : Hid (b2 ≤ b3) := by show _ ≤ _; have h1 := (O2.out.lt u2 rfl).1; have := U23.out; omega
    obtain ⟨x0, x1, x2, x3, x4, x5, x6, x7, x8, x9, x10, x11⟩ := mx_of B19.out.2.2.2.2.2
    obtain ⟨z0, z1, z2, z3, z4, z5, z6, z7, z8, z9, z10, z11⟩ := mx_of B19.out.2.2.2.2.1
    have q0 := B19.out.2.2.2.2.1.free 0
    have q1 := B19.out.2.2.2.2.1.free 1
    have q2 := B19.out.2.2.2.2.1.free 2
    have q3 := B19.out.2.2.2.2.1.free 3
    have q4 := B19.out.2.2.2.2.1.free 4
    have q5 := B19.out.2.2.2.2.1.free 5
    have q6 := B19.out.2.2.2.2.1.free 6
    have q7 := B19.out.2.2.2.2.1.free 7
    have q8 := B19.out.2.2.2.2.1.free 8
    have q9 := B19.out.2.2.2.2.1.free 9
    have q10 := B19.out.2.2.2.2.1.free 10
    have q11 := B19.out.2.2.2.2.1.free 11
    have FF := Lib.hid B19.out.fil
    go_wp2
    exact bodyPost_ret (v := .agg #[.int .i64 (Hd.mk id true au ct false ca code s n).id, .bool (Hd.mk id true au ct false ca code s n).rp, .bool (Hd.mk id true au ct false ca code s n).au, .bool (Hd.mk id true au ct false ca code s n).ct, .bool (Hd.mk id true au ct false ca code s n).wa, .bool (Hd.mk id true au ct false ca code s n).ca, .int .i64 (Hd.mk id true au ct false ca code s n).code, .string (Hd.mk id true au ct false ca code s n).qn, .int .i64 (Hd.mk id true au ct false ca code s n).qt, .slice (some ⟨u1, 0, none⟩) n1 a1, .slice (some ⟨u2, 0, none⟩) n2 a2, .slice (some ⟨u3, 0, none⟩) n3 a3]) (res1M rfl FF.out.1 rfl) rfl ⟨Hd.mk id true au ct false ca code s n, _, n1, a1, L1, b1, _, n2, a2, L2, b2, _, n3, a3, L3, b3, rfl, HS.out, ⟨Or.inr ⟨u1, rfl, V1.out⟩, hL1, SS1.out⟩, ⟨Or.inr ⟨u2, rfl, V2.out⟩, by omega, SS2.out⟩, ⟨Or.inr ⟨u3, rfl, V3.out⟩, by omega, SS3.out⟩, ⟨NB1.out, (fun gl e => by cases e; exact U12.out), LB12.out, (fun gl e => by cases e; exact U13.out), (fun gl e => by cases e; exact U23.out), LB23.out, Nat.le_of_lt (Nat.lt_of_le_of_lt (V3.out.lt u3 rfl).1 (V3.out.lt u3 rfl).2)⟩, FF.out.2.1, FF.out.2.2⟩
  · have c4 := (mx_of B4.out.2.2.2.2.2).2.2.2.2.1
    have f4 := B4.out.2.2.2.2.2.free 4
    have B5 : Hid (Bq w g gm ⟨id, false, false, false, true, false, 0, s, n⟩ (.slice none 0 0) (.slice none 0 0) (.slice none 0 0) (w4.setCell ⟨gm, 4, none⟩ (.bool true))) := B4.out.set 4 (.bool true) rfl
    obtain ⟨x0, x1, x2, x3, x4, x5, x6, x7, x8, x9, x10, x11⟩ := mx_of B5.out.2.2.2.2.2
    obtain ⟨z0, z1, z2, z3, z4, z5, z6, z7, z8, z9, z10, z11⟩ := mx_of B5.out.2.2.2.2.1
    have q0 := B5.out.2.2.2.2.1.free 0
    have q1 := B5.out.2.2.2.2.1.free 1
    have q2 := B5.out.2.2.2.2.1.free 2
    have q3 := B5.out.2.2.2.2.1.free 3
    have q4 := B5.out.2.2.2.2.1.free 4
    have q5 := B5.out.2.2.2.2.1.free 5
    have q6 := B5.out.2.2.2.2.1.free 6
    have q7 := B5.out.2.2.2.2.1.free 7
    have q8 := B5.out.2.2.2.2.1.free 8
    have q9 := B5.out.2.2.2.2.1.free 9
    have q10 := B5.out.2.2.2.2.1.free 10
    have q11 := B5.out.2.2.2.2.1.free 11
    have FF := Lib.hid B5.out.fil
    go_wp2
    exact bodyPost_ret (v := .agg #[.int .i64 (Hd.mk id false false false true false 0 s n).id, .bool (Hd.mk id false false false true false 0 s n).rp, .bool (Hd.mk id false false false true false 0 s n).au, .bool (Hd.mk id false false false true false 0 s n).ct, .bool (Hd.mk id false false false true false 0 s n).wa, .bool (Hd.mk id false false false true false 0 s n).ca, .int .i64 (Hd.mk id false false false true false 0 s n).code, .string (Hd.mk id false false false true false 0 s n).qn, .int .i64 (Hd.mk id false false false true false 0 s n).qt, .slice none 0 0, .slice none 0 0, .slice none 0 0]) (res1M rfl FF.out.1 rfl) rfl ⟨Hd.mk id false false false true false 0 s n, none, 0, 0, [], w.heap.size + 1, none, 0, 0, [], w.heap.size + 1, none, 0, 0, [], w.heap.size + 1, rfl, HS.out, ⟨Or.inl ⟨rfl, rfl, rfl, rfl⟩, by omega, fun r hr => by cases hr⟩, ⟨Or.inl ⟨rfl, rfl, rfl, rfl⟩, by omega, fun r hr => by cases hr⟩, ⟨Or.inl ⟨rfl, rfl, rfl, rfl⟩, by omega, fun r hr => by cases hr⟩, ⟨by omega, und_none _, by omega, und_none _, und_none _, by omega, FF.out.1.lt⟩, FF.out.2.1, FF.out.2.2⟩
end Go.Proofs.YtkfibepejlgniaaGreatDoor.DrawM

/- What the model's draw of any message does: texts of at most 60 bytes, sections of at most nine records; nothing that was there is turned but the cursor. -/
namespace Go.Proofs.YtkfibepejlgniaaGreatDoor.DrawO
open Go.RowKit Go.Proofs.YtkfibepejlgniaaGreatDoor.Mem Go.Proofs.YtkfibepejlgniaaGreatDoor.MemS Go.Proofs.YtkfibepejlgniaaGreatDoor.MemR Go.Proofs.YtkfibepejlgniaaGreatDoor.BoxR Go.Proofs.YtkfibepejlgniaaGreatDoor.Draw Go.Proofs.YtkfibepejlgniaaGreatDoor.DrawS Go.Proofs.YtkfibepejlgniaaGreatDoor.DrawL Go.Proofs.YtkfibepejlgniaaGreatDoor.DrawN Go.Proofs.YtkfibepejlgniaaGreatDoor.AppR Go.Proofs.YtkfibepejlgniaaGreatDoor.ResR Go.Proofs.YtkfibepejlgniaaGreatDoor.DrawR Go.Proofs.YtkfibepejlgniaaGreatDoor.OwnR Go.Proofs.YtkfibepejlgniaaGreatDoor.DrawA Go.Proofs.YtkfibepejlgniaaGreatDoor.MemM Go.Proofs.YtkfibepejlgniaaGreatDoor.ResM Go.Proofs.YtkfibepejlgniaaGreatDoor.AskM Go.Proofs.YtkfibepejlgniaaGreatDoor.DrawM

section
variable {w w' : World} {base n k g gm : Nat} {v : Value} {l : List Rec} {A : Option Addr} {c : Nat}
theorem Sec.own (s : Sec w base A n c l) : w.ownsRow base 117 6 (.slice A n c) n (fl l) := by
  rcases s with ⟨rfl, rfl, rfl, rfl⟩ | ⟨gl, rfl, ho⟩
  · exact World.ownsRow_nil w base 117 6
  · exact ho
theorem own_g (h : w.ownsRow base 117 6 v n (fl l)) (hb : k < base) : v.ownBlock ≠ some k := fun e => by have := (h.lt k e).1; omega
theorem own_ty {cs : List Value} {t : TypeId} (h : w.ownsRow base 117 6 v n (fl l)) (b : Bk w k t cs) (ht : t ≠ 117) : v.ownBlock ≠ some k := by
  intro e
  rcases h.2 with ⟨rfl, _⟩ | ⟨g', cap, cur, rfl, _, hh, _⟩
  · simp [Value.ownBlock] at e
  · simp only [Value.ownBlock, Option.some.injEq] at e
    subst e
    unfold Bk at b
    rw [b] at hh
    simp only [Option.some.injEq, Obj.cells.injEq] at hh
    exact ht hh.2.1
theorem own_step (h : w.ownsRow base 117 6 v n (fl l)) (hg : w.grownBy w' (some k)) (hb : k < base) : w'.ownsRow base 117 6 v n (fl l) := h.kept hg (Or.inr (own_g h hb))
theorem own_box {cs : List Value} (h : w.ownsRow base 117 6 v n (fl l)) (b : Bk w gm 28 cs) (j : Nat) (u : Value) : (w.setCell ⟨gm, j, none⟩ u).ownsRow base 117 6 v n (fl l) :=
  h.kept (Draw.grown_set (Draw.grown_refl w (some gm)) j u) (Or.inr (own_ty h b (by decide)))
theorem own_sr (h : w.ownsRow base 117 6 (.slice A n c) n (fl l)) : Sr w w.heap.size A n l ∧ l.length = n := by
  have hl : l.length = n := by have := h.1; rw [fl_len] at this; omega
  rcases h.2 with ⟨e, rfl⟩ | ⟨g', cap, cur, e, hb, hh, hle, hm, hs, ht⟩
  · cases l with
    | nil => cases e; exact ⟨Sr.nil, rfl⟩
    | cons r l => simp at hl
  · simp only [Value.slice.injEq] at e
    obtain ⟨rfl, _, rfl⟩ := e
    obtain ⟨r, hb, _⟩ := bk_of_owns6 h
    exact ⟨bk_sr hb hl, hl⟩
end
/-- A drawn message, good or bad. -/
def Drx (w : World) (g : Nat) (e : Ending) (w' : World) : Prop :=
  ∃ (h : Hd) (A1 : Option Addr) (n1 c1 : Nat) (l1 : List Rec) (A2 : Option Addr) (n2 c2 : Nat) (l2 : List Rec) (A3 : Option Addr) (n3 c3 : Nat) (l3 : List Rec),
    e = .returned (.agg #[.int .i64 h.id, .bool h.rp, .bool h.au, .bool h.ct, .bool h.wa, .bool h.ca, .int .i64 h.code, .string h.qn, .int .i64 h.qt, .slice A1 n1 c1, .slice A2 n2 c2, .slice A3 n3 c3]) ∧ h.qn.size ≤ 60 ∧ ((∃ b, w.heap.size < b ∧ w'.ownsRow b 117 6 (.slice A1 n1 c1) n1 (fl l1)) ∧ n1 ≤ 9 ∧ ∀ r ∈ l1, Sml r) ∧ ((∃ b, w.heap.size < b ∧ w'.ownsRow b 117 6 (.slice A2 n2 c2) n2 (fl l2)) ∧ n2 ≤ 9 ∧ ∀ r ∈ l2, Sml r) ∧ ((∃ b, w.heap.size < b ∧ w'.ownsRow b 117 6 (.slice A3 n3 c3) n3 (fl l3)) ∧ n3 ≤ 9 ∧ ∀ r ∈ l3, Sml r) ∧ Cur w' g ∧ w.grownBy w' (some g)

/-- append of records as one step of a region that draws. -/
theorem step_append_recs {ops : Array Oper} {o : Oper} {a : Act} {w : World} {K : Act → World → Prop} {Q : Exit → Act → World → Prop} {E : Prop} (hgd : o.guard = none) (s x : Operand)
    (ho : o.op = .call { callee := .builtin .append, args := #[s, x], argTypes := #[26, 26] })
    (base n : Nat) (v : Value) (L : List Rec) (hs : a.eval s = v) (hown : w.ownsRow base 117 6 v n (fl L))
    (b off m c B : Nat) (l : List Rec) (hx : a.eval x = .slice (some ⟨b, off, none⟩) m c) (hl : Sr w B (some ⟨b, off, none⟩) m l)
    (hn : n ≤ 800000000) (hm : m ≤ 800000000) (hm0 : 0 < m) (hbase : base ≤ w.heap.size)
    (h : ∀ g' cap' w', w'.ownsRow base 117 6 (.slice (some ⟨g', 0, none⟩) (n + m) cap') (n + m) (fl (L ++ l)) → w.grownBy w' v.ownBlock → K (a.put o.dst (.slice (some ⟨g', 0, none⟩) (n + m) cap')) w') :
    if Region.wanted o (yielded ops a.tmps) = true then Oper.wp Tryz.prog o a w K Q else E := by
  have hw : Region.wanted o (yielded ops a.tmps) = true := by simp [Region.wanted, hgd]
  rw [if_pos hw]
  obtain ⟨i0, hi, hz0, hz1, hz2⟩ := info_parts CopyR.info
  exact wp_append_own w s x 26 ho base 117 i0 _ 6 72 Tryz.underlying26 hi hz0 hz1 hz2 rfl (by decide) v n (fl L) hs hown ⟨b, off, none⟩ m c (fl l) hx (by rw [fl_len, hl.1]) (AppR.cells_of hl) (one_fl l) (by unfold maxLen; omega) (by omega) hbase
    (fun v' w' h1 h2 h3 => by
      rcases h1.2 with ⟨hv, _⟩ | ⟨g', cap', cur, hv, _⟩
      · have := (h3.1 hv).2
        omega
      · subst hv
        exact h g' cap' w' (by rw [fl_append]; exact h1) h2)

section
variable {w v v' : World} {g gm base n : Nat} {h : Hd} {x y z u : Value} {rr : Option Nat} {l : List Rec} {A : Option Addr} {c : Nat}
theorem grown_row (k : w.grownBy v (some g)) (hg : v.grownBy v' rr) (hr : ∀ j, rr = some j → w.heap.size ≤ j) : w.grownBy v' (some g) :=
  ⟨hg.os.trans k.os, hg.tape.trans k.tape, hg.output.trans k.output, Nat.le_trans k.size hg.size, fun i hi hne => (hg.block i (Nat.lt_of_lt_of_le hi k.size) (fun e => by have := hr i e.symm; omega)).trans (k.block i hi hne)⟩
theorem Bq.row (k : Bq w g gm h x y z v) (hg : v.grownBy v' rr) (hr : ∀ j, rr = some j → w.heap.size < j ∧ j ≠ gm) : Bq w g gm h x y z v' :=
  ⟨k.1, k.2.1, k.cur.grown hg (fun j hj => by have := (hr j hj).1; have := k.1; omega), grown_row k.2.2.2.1 hg (fun j hj => Nat.le_of_lt (hr j hj).1),
    k.2.2.2.2.1.grown hg (fun e => by have := (hr _ e.symm).1; omega), k.2.2.2.2.2.grown hg (fun e => (hr gm e.symm).2 rfl)⟩
theorem own_row (k : v.ownsRow base 117 6 u n (fl l)) (hg : v.grownBy v' rr) (hr : ∀ j, rr = some j → j < base) : v'.ownsRow base 117 6 u n (fl l) := by
  refine k.kept hg ?_
  cases rr with
  | none => cases u.ownBlock <;> simp
  | some j => exact Or.inr (own_g k (hr j rfl))
/-- A row that another one does not reach: it lies from base on, the other one's block below. -/
theorem own_apart (k : v.ownsRow base 117 6 u n (fl l)) (hg : v.grownBy v' rr) (hr : ∀ j, u.ownBlock = some j → some j ≠ rr) : v'.ownsRow base 117 6 u n (fl l) := by
  refine k.kept hg ?_
  cases e : u.ownBlock with
  | none => exact Or.inl rfl
  | some j => exact Or.inr (hr j e)
theorem und_row {b : Nat} (k : v.ownsRow base 117 6 (.slice A n c) n (fl l)) (hu : Und A b) : ∀ j, (Value.slice A n c).ownBlock = some j → j < b := by
  intro j hj
  rcases k.2 with ⟨e, _⟩ | ⟨g', cap, cur, e, _⟩
  · rw [e] at hj; simp [Value.ownBlock] at hj
  · rw [e] at hj
    simp only [Value.ownBlock, Option.some.injEq] at hj
    simp only [Value.slice.injEq] at e
    subst hj
    exact hu _ e.1
theorem grown_drew (w : World) (r : Option Nat) : w.grownBy w.drew r := ⟨rfl, rfl, rfl, Nat.le_refl _, fun _ _ _ => rfl⟩
theorem Bq.drawn (k : Bq w g gm h x y z v) : Bq w g gm h x y z v.drew := k.step (k.cur.grown (grown_drew v none) (fun _ e => by cases e)) (grown_drew v _)
theorem own_drew (k : v.ownsRow base 117 6 u n (fl l)) : v.drew.ownsRow base 117 6 u n (fl l) := k.kept (grown_drew v none) (by cases u.ownBlock <;> simp)
theorem row_box (k : Bq w g gm h x y z v) (o : v.ownsRow base 117 6 u n (fl l)) (hb : w.heap.size < base) : ∀ j, u.ownBlock = some j → w.heap.size < j ∧ j ≠ gm := fun j hj =>
  ⟨Nat.lt_of_lt_of_le hb (o.lt j hj).1, fun e => own_ty o k.2.2.2.2.2 (by decide) (e ▸ hj)⟩
end
/-- The length of the slice in a cell. -/
def lenAt (w : World) (p : Addr) : Nat := match w.cell? p with
  | some (.slice _ n _) => n
  | _ => 0
theorem lenAt_of {w : World} {p : Addr} {A : Option Addr} {n c : Nat} (h : w.cell? p = some (.slice A n c)) : lenAt w p = n := by
  unfold lenAt
  rw [h]
def anyIds : List Int := [-1, 65535, 65536]
def anyCodes : List Int := [-1, 15, 16]
def anyTys : List Int := [0, 3, 255]

set_option maxRecDepth 100000 in
set_option maxHeartbeats 16000000 in
theorem l7Any_any (g : Nat) (w : World) (hc : Cur w g) : Calls Tryz.prog 55 #[.pointer (some ⟨g, 0, none⟩)] w (Drx w g) := by
  have HC := Lib.hid hc
  have GL := Lib.hid hc.lt
  have Z0 : Hid (Bk (w.alloc (.cells #[.int .i64 0, .bool false, .bool false, .bool false, .bool false, .bool false, .int .i64 0, .string ⟨#[]⟩, .int .i64 0, .slice none 0 0, .slice none 0 0, .slice none 0 0] 28)) w.heap.size 28 (mc zh (.slice none 0 0) (.slice none 0 0) (.slice none 0 0))) := heap_alloc_new w _
  clear hc
  go_enter Tryz.func55, Tryz.ntmps55
  go_wp2_with fail
  refine (l7Draw_any g _ (HC.out.alloc _)).mono ?_
  rintro e w1 ⟨h, A1, n1, c1, l1, b1, A2, n2, c2, l2, b2, A3, n3, c3, l3, b3, rfl, hq, ⟨s1, hn1, r1⟩, ⟨s2, hn2, r2⟩, ⟨s3, hn3, r3⟩, ⟨hb1, u12, hb12, u13, u23, hb23, hb3⟩, hc1, hg1⟩
  have HQ := Lib.hid hq
  have SM1 := Lib.hid r1
  have SM2 := Lib.hid r2
  have SM3 := Lib.hid r3
  have U12 := Lib.hid u12
  have U13 := Lib.hid u13
  have U23 := Lib.hid u23
  have hb1' : w.heap.size < b1 := by simp at hb1; omega
  have WB1 : Hid (w.heap.size < b1) := hb1'
  have WB2 : Hid (w.heap.size < b2) := by show _ < _; omega
  have WB3 : Hid (w.heap.size < b3) := by show _ < _; omega
  have Z1 := Lib.hid (Z0.out.grown hg1 (fun e => by have := GL.out; have := Option.some.inj e; omega))
  have G1 := Lib.hid (grown_trans (World.grownBy_alloc w _ (some g)) hg1)
  have B1 := Lib.hid (Bq.start hc1 G1.out GL.out Z1.out h (.slice A1 n1 c1) (.slice A2 n2 c2) (.slice A3 n3 c3))
  have O1 := Lib.hid ((Sec.own s1).alloc (.cells #[.int .i64 h.id, .bool h.rp, .bool h.au, .bool h.ct, .bool h.wa, .bool h.ca, .int .i64 h.code, .string h.qn, .int .i64 h.qt, .slice A1 n1 c1, .slice A2 n2 c2, .slice A3 n3 c3] 28))
  have O2 := Lib.hid ((Sec.own s2).alloc (.cells #[.int .i64 h.id, .bool h.rp, .bool h.au, .bool h.ct, .bool h.wa, .bool h.ca, .int .i64 h.code, .string h.qn, .int .i64 h.qt, .slice A1 n1 c1, .slice A2 n2 c2, .slice A3 n3 c3] 28))
  have O3 := Lib.hid ((Sec.own s3).alloc (.cells #[.int .i64 h.id, .bool h.rp, .bool h.au, .bool h.ct, .bool h.wa, .bool h.ca, .int .i64 h.code, .string h.qn, .int .i64 h.qt, .slice A1 n1 c1, .slice A2 n2 c2, .slice A3 n3 c3] 28))
  have HBS : Hid (b1 ≤ w1.heap.size ∧ b2 ≤ w1.heap.size ∧ b3 ≤ w1.heap.size) := ⟨by omega, by omega, hb3⟩
  have GB1 : Hid (g < b1) := by show _ < _; have := GL.out; omega
  have GB2 : Hid (g < b2) := by show _ < _; have := GL.out; omega
  have GB3 : Hid (g < b3) := by show _ < _; have := GL.out; omega
  clear hq s1 s2 s3 r1 r2 r3 hb1 hb1' u12 hb12 u13 u23 hb23 hb3 hc1 hg1 HC Z0 Z1 G1
  obtain ⟨id, rp, au, ct, wa, ca, code, qn, qt⟩ := h
  dsimp only at B1 O1 O2 O3 HQ ⊢
  go_wp2_with fail
  refine (l1Below_any g 12 _ B1.out.cur (by omega) (by omega)).mono ?_
  rintro e w2 ⟨q, rfl, hq0, hq1, hc2, hg2⟩
  have B2 := Lib.hid (B1.out.step hc2 hg2)
  have P1 := Lib.hid (own_step O1.out hg2 GB1.out)
  have P2 := Lib.hid (own_step O2.out hg2 GB2.out)
  have P3 := Lib.hid (own_step O3.out hg2 GB3.out)
  have hz2 := hg2.size
  have HBS1 : Hid (b1 ≤ w2.heap.size) := by show _ ≤ _; have := HBS.out; simp at hz2; omega
  have HBS2 : Hid (b2 ≤ w2.heap.size) := by show _ ≤ _; have := HBS.out; simp at hz2; omega
  have HBS3 : Hid (b3 ≤ w2.heap.size) := by show _ ≤ _; have := HBS.out; simp at hz2; omega
  clear hc2 hg2 B1 O1 O2 O3 HBS hz2
  generalize w1.heap.size = gm at *
  by_cases q0 : q = 0
  · subst q0
    go_wp2_with fail
    refine (l1Int_any g w2.heap.size 3 anyIds _ (B2.out.cur.alloc _) (bk_ints w2 anyIds _ rfl) (Nat.ne_of_gt B2.out.cur.lt) rfl (by omega) (by omega)).mono ?_
    rintro e w3 ⟨v, rfl, -, hc3, hg3⟩
    have B3 := Lib.hid ((B2.out.alloc _).step hc3 hg3)
    have R1 := Lib.hid (own_step (P1.out.alloc _) hg3 GB1.out)
    have R2 := Lib.hid (own_step (P2.out.alloc _) hg3 GB2.out)
    have R3 := Lib.hid (own_step (P3.out.alloc _) hg3 GB3.out)
    clear hc3 hg3 B2 P1 P2 P3
    have c0 := (mx_of B3.out.2.2.2.2.2).1
    have f0 := B3.out.2.2.2.2.2.free 0
    have B4 : Hid (Bq w g gm (Hd.mk v rp au ct wa ca code qn qt) (.slice A1 n1 c1) (.slice A2 n2 c2) (.slice A3 n3 c3) (w3.setCell ⟨gm, 0, none⟩ (.int .i64 v))) := B3.out.set 0 (.int .i64 v) rfl
    have T1 := Lib.hid (own_box R1.out B3.out.2.2.2.2.2 0 (.int .i64 v))
    have T2 := Lib.hid (own_box R2.out B3.out.2.2.2.2.2 0 (.int .i64 v))
    have T3 := Lib.hid (own_box R3.out B3.out.2.2.2.2.2 0 (.int .i64 v))
    clear R1 R2 R3
    obtain ⟨x0, x1, x2, x3, x4, x5, x6, x7, x8, x9, x10, x11⟩ := mx_of B4.out.2.2.2.2.2
    obtain ⟨z0, z1, z2, z3, z4, z5, z6, z7, z8, z9, z10, z11⟩ := mx_of B4.out.2.2.2.2.1
    have q0 := B4.out.2.2.2.2.1.free 0
    have q1 := B4.out.2.2.2.2.1.free 1
    have q2 := B4.out.2.2.2.2.1.free 2
    have q3 := B4.out.2.2.2.2.1.free 3
    have q4 := B4.out.2.2.2.2.1.free 4
    have q5 := B4.out.2.2.2.2.1.free 5
    have q6 := B4.out.2.2.2.2.1.free 6
    have q7 := B4.out.2.2.2.2.1.free 7
    have q8 := B4.out.2.2.2.2.1.free 8
    have q9 := B4.out.2.2.2.2.1.free 9
    have q10 := B4.out.2.2.2.2.1.free 10
    have q11 := B4.out.2.2.2.2.1.free 11
    have FF := Lib.hid B4.out.fil
    have Y1 := Lib.hid (own_step T1.out (filM_grown (w3.setCell ⟨gm, 0, none⟩ (.int .i64 v)) w.heap.size (Hd.mk v rp au ct wa ca code qn qt) (.slice A1 n1 c1) (.slice A2 n2 c2) (.slice A3 n3 c3)) WB1.out)
    have Y2 := Lib.hid (own_step T2.out (filM_grown (w3.setCell ⟨gm, 0, none⟩ (.int .i64 v)) w.heap.size (Hd.mk v rp au ct wa ca code qn qt) (.slice A1 n1 c1) (.slice A2 n2 c2) (.slice A3 n3 c3)) WB2.out)
    have Y3 := Lib.hid (own_step T3.out (filM_grown (w3.setCell ⟨gm, 0, none⟩ (.int .i64 v)) w.heap.size (Hd.mk v rp au ct wa ca code qn qt) (.slice A1 n1 c1) (.slice A2 n2 c2) (.slice A3 n3 c3)) WB3.out)
    go_wp2
    exact bodyPost_ret (v := .agg #[.int .i64 (Hd.mk v rp au ct wa ca code qn qt).id, .bool (Hd.mk v rp au ct wa ca code qn qt).rp, .bool (Hd.mk v rp au ct wa ca code qn qt).au, .bool (Hd.mk v rp au ct wa ca code qn qt).ct, .bool (Hd.mk v rp au ct wa ca code qn qt).wa, .bool (Hd.mk v rp au ct wa ca code qn qt).ca, .int .i64 (Hd.mk v rp au ct wa ca code qn qt).code, .string (Hd.mk v rp au ct wa ca code qn qt).qn, .int .i64 (Hd.mk v rp au ct wa ca code qn qt).qt, .slice A1 n1 c1, .slice A2 n2 c2, .slice A3 n3 c3]) (res1M rfl FF.out.1 rfl) rfl ⟨Hd.mk v rp au ct wa ca code qn qt, A1, n1, c1, l1, A2, n2, c2, l2, A3, n3, c3, l3, rfl, HQ.out, ⟨⟨_, WB1.out, Y1.out⟩, by omega, SM1.out⟩, ⟨⟨_, WB2.out, Y2.out⟩, by omega, SM2.out⟩, ⟨⟨_, WB3.out, Y3.out⟩, by omega, SM3.out⟩, FF.out.2.1, FF.out.2.2⟩
  by_cases q1 : q = 1
  · subst q1
    go_wp2_with fail
    refine (l1Int_any g w2.heap.size 3 anyCodes _ (B2.out.cur.alloc _) (bk_ints w2 anyCodes _ rfl) (Nat.ne_of_gt B2.out.cur.lt) rfl (by omega) (by omega)).mono ?_
    rintro e w3 ⟨v, rfl, -, hc3, hg3⟩
    have B3 := Lib.hid ((B2.out.alloc _).step hc3 hg3)
    have R1 := Lib.hid (own_step (P1.out.alloc _) hg3 GB1.out)
    have R2 := Lib.hid (own_step (P2.out.alloc _) hg3 GB2.out)
    have R3 := Lib.hid (own_step (P3.out.alloc _) hg3 GB3.out)
    clear hc3 hg3 B2 P1 P2 P3
    have c6 := (mx_of B3.out.2.2.2.2.2).2.2.2.2.2.2.1
    have f6 := B3.out.2.2.2.2.2.free 6
    have B4 : Hid (Bq w g gm (Hd.mk id rp au ct wa ca v qn qt) (.slice A1 n1 c1) (.slice A2 n2 c2) (.slice A3 n3 c3) (w3.setCell ⟨gm, 6, none⟩ (.int .i64 v))) := B3.out.set 6 (.int .i64 v) rfl
    have T1 := Lib.hid (own_box R1.out B3.out.2.2.2.2.2 6 (.int .i64 v))
    have T2 := Lib.hid (own_box R2.out B3.out.2.2.2.2.2 6 (.int .i64 v))
    have T3 := Lib.hid (own_box R3.out B3.out.2.2.2.2.2 6 (.int .i64 v))
    clear R1 R2 R3
    obtain ⟨x0, x1, x2, x3, x4, x5, x6, x7, x8, x9, x10, x11⟩ := mx_of B4.out.2.2.2.2.2
    obtain ⟨z0, z1, z2, z3, z4, z5, z6, z7, z8, z9, z10, z11⟩ := mx_of B4.out.2.2.2.2.1
    have q0 := B4.out.2.2.2.2.1.free 0
    have q1 := B4.out.2.2.2.2.1.free 1
    have q2 := B4.out.2.2.2.2.1.free 2
    have q3 := B4.out.2.2.2.2.1.free 3
    have q4 := B4.out.2.2.2.2.1.free 4
    have q5 := B4.out.2.2.2.2.1.free 5
    have q6 := B4.out.2.2.2.2.1.free 6
    have q7 := B4.out.2.2.2.2.1.free 7
    have q8 := B4.out.2.2.2.2.1.free 8
    have q9 := B4.out.2.2.2.2.1.free 9
    have q10 := B4.out.2.2.2.2.1.free 10
    have q11 := B4.out.2.2.2.2.1.free 11
    have FF := Lib.hid B4.out.fil
    have Y1 := Lib.hid (own_step T1.out (filM_grown (w3.setCell ⟨gm, 6, none⟩ (.int .i64 v)) w.heap.size (Hd.mk id rp au ct wa ca v qn qt) (.slice A1 n1 c1) (.slice A2 n2 c2) (.slice A3 n3 c3)) WB1.out)
    have Y2 := Lib.hid (own_step T2.out (filM_grown (w3.setCell ⟨gm, 6, none⟩ (.int .i64 v)) w.heap.size (Hd.mk id rp au ct wa ca v qn qt) (.slice A1 n1 c1) (.slice A2 n2 c2) (.slice A3 n3 c3)) WB2.out)
    have Y3 := Lib.hid (own_step T3.out (filM_grown (w3.setCell ⟨gm, 6, none⟩ (.int .i64 v)) w.heap.size (Hd.mk id rp au ct wa ca v qn qt) (.slice A1 n1 c1) (.slice A2 n2 c2) (.slice A3 n3 c3)) WB3.out)
    go_wp2
    exact bodyPost_ret (v := .agg #[.int .i64 (Hd.mk id rp au ct wa ca v qn qt).id, .bool (Hd.mk id rp au ct wa ca v qn qt).rp, .bool (Hd.mk id rp au ct wa ca v qn qt).au, .bool (Hd.mk id rp au ct wa ca v qn qt).ct, .bool (Hd.mk id rp au ct wa ca v qn qt).wa, .bool (Hd.mk id rp au ct wa ca v qn qt).ca, .int .i64 (Hd.mk id rp au ct wa ca v qn qt).code, .string (Hd.mk id rp au ct wa ca v qn qt).qn, .int .i64 (Hd.mk id rp au ct wa ca v qn qt).qt, .slice A1 n1 c1, .slice A2 n2 c2, .slice A3 n3 c3]) (res1M rfl FF.out.1 rfl) rfl ⟨Hd.mk id rp au ct wa ca v qn qt, A1, n1, c1, l1, A2, n2, c2, l2, A3, n3, c3, l3, rfl, HQ.out, ⟨⟨_, WB1.out, Y1.out⟩, by omega, SM1.out⟩, ⟨⟨_, WB2.out, Y2.out⟩, by omega, SM2.out⟩, ⟨⟨_, WB3.out, Y3.out⟩, by omega, SM3.out⟩, FF.out.2.1, FF.out.2.2⟩
  by_cases q2 : q = 2
  · subst q2
    go_wp2_with fail
    refine (l3Any_any g w2 B2.out.cur).mono ?_
    rintro e w3 ⟨v, rfl, hv, hc3, hg3⟩
    clear HQ
    have HQ : Hid (v.size ≤ 60) := hv
    clear hv
    have B3 := Lib.hid (B2.out.step hc3 hg3)
    have R1 := Lib.hid (own_step P1.out hg3 GB1.out)
    have R2 := Lib.hid (own_step P2.out hg3 GB2.out)
    have R3 := Lib.hid (own_step P3.out hg3 GB3.out)
    clear hc3 hg3 B2 P1 P2 P3
    have c7 := (mx_of B3.out.2.2.2.2.2).2.2.2.2.2.2.2.1
    have f7 := B3.out.2.2.2.2.2.free 7
    have B4 : Hid (Bq w g gm (Hd.mk id rp au ct wa ca code v qt) (.slice A1 n1 c1) (.slice A2 n2 c2) (.slice A3 n3 c3) (w3.setCell ⟨gm, 7, none⟩ (.string v))) := B3.out.set 7 (.string v) rfl
    have T1 := Lib.hid (own_box R1.out B3.out.2.2.2.2.2 7 (.string v))
    have T2 := Lib.hid (own_box R2.out B3.out.2.2.2.2.2 7 (.string v))
    have T3 := Lib.hid (own_box R3.out B3.out.2.2.2.2.2 7 (.string v))
    clear R1 R2 R3
    obtain ⟨x0, x1, x2, x3, x4, x5, x6, x7, x8, x9, x10, x11⟩ := mx_of B4.out.2.2.2.2.2
    obtain ⟨z0, z1, z2, z3, z4, z5, z6, z7, z8, z9, z10, z11⟩ := mx_of B4.out.2.2.2.2.1
    have q0 := B4.out.2.2.2.2.1.free 0
    have q1 := B4.out.2.2.2.2.1.free 1
    have q2 := B4.out.2.2.2.2.1.free 2
    have q3 := B4.out.2.2.2.2.1.free 3
    have q4 := B4.out.2.2.2.2.1.free 4
    have q5 := B4.out.2.2.2.2.1.free 5
    have q6 := B4.out.2.2.2.2.1.free 6
    have q7 := B4.out.2.2.2.2.1.free 7
    have q8 := B4.out.2.2.2.2.1.free 8
    have q9 := B4.out.2.2.2.2.1.free 9
    have q10 := B4.out.2.2.2.2.1.free 10
    have q11 := B4.out.2.2.2.2.1.free 11
    have FF := Lib.hid B4.out.fil
    have Y1 := Lib.hid (own_step T1.out (filM_grown (w3.setCell ⟨gm, 7, none⟩ (.string v)) w.heap.size (Hd.mk id rp au ct wa ca code v qt) (.slice A1 n1 c1) (.slice A2 n2 c2) (.slice A3 n3 c3)) WB1.out)
    have Y2 := Lib.hid (own_step T2.out (filM_grown (w3.setCell ⟨gm, 7, none⟩ (.string v)) w.heap.size (Hd.mk id rp au ct wa ca code v qt) (.slice A1 n1 c1) (.slice A2 n2 c2) (.slice A3 n3 c3)) WB2.out)
    have Y3 := Lib.hid (own_step T3.out (filM_grown (w3.setCell ⟨gm, 7, none⟩ (.string v)) w.heap.size (Hd.mk id rp au ct wa ca code v qt) (.slice A1 n1 c1) (.slice A2 n2 c2) (.slice A3 n3 c3)) WB3.out)
    go_wp2
    exact bodyPost_ret (v := .agg #[.int .i64 (Hd.mk id rp au ct wa ca code v qt).id, .bool (Hd.mk id rp au ct wa ca code v qt).rp, .bool (Hd.mk id rp au ct wa ca code v qt).au, .bool (Hd.mk id rp au ct wa ca code v qt).ct, .bool (Hd.mk id rp au ct wa ca code v qt).wa, .bool (Hd.mk id rp au ct wa ca code v qt).ca, .int .i64 (Hd.mk id rp au ct wa ca code v qt).code, .string (Hd.mk id rp au ct wa ca code v qt).qn, .int .i64 (Hd.mk id rp au ct wa ca code v qt).qt, .slice A1 n1 c1, .slice A2 n2 c2, .slice A3 n3 c3]) (res1M rfl FF.out.1 rfl) rfl ⟨Hd.mk id rp au ct wa ca code v qt, A1, n1, c1, l1, A2, n2, c2, l2, A3, n3, c3, l3, rfl, HQ.out, ⟨⟨_, WB1.out, Y1.out⟩, by omega, SM1.out⟩, ⟨⟨_, WB2.out, Y2.out⟩, by omega, SM2.out⟩, ⟨⟨_, WB3.out, Y3.out⟩, by omega, SM3.out⟩, FF.out.2.1, FF.out.2.2⟩
  by_cases q3 : q = 3
  · subst q3
    go_wp2_with fail
    refine (l1Int_any g w2.heap.size 3 anyTys _ (B2.out.cur.alloc _) (bk_ints w2 anyTys _ rfl) (Nat.ne_of_gt B2.out.cur.lt) rfl (by omega) (by omega)).mono ?_
    rintro e w3 ⟨v, rfl, -, hc3, hg3⟩
    have B3 := Lib.hid ((B2.out.alloc _).step hc3 hg3)
    have R1 := Lib.hid (own_step (P1.out.alloc _) hg3 GB1.out)
    have R2 := Lib.hid (own_step (P2.out.alloc _) hg3 GB2.out)
    have R3 := Lib.hid (own_step (P3.out.alloc _) hg3 GB3.out)
    clear hc3 hg3 B2 P1 P2 P3
    have c8 := (mx_of B3.out.2.2.2.2.2).2.2.2.2.2.2.2.2.1
    have f8 := B3.out.2.2.2.2.2.free 8
    have B4 : Hid (Bq w g gm (Hd.mk id rp au ct wa ca code qn v) (.slice A1 n1 c1) (.slice A2 n2 c2) (.slice A3 n3 c3) (w3.setCell ⟨gm, 8, none⟩ (.int .i64 v))) := B3.out.set 8 (.int .i64 v) rfl
    have T1 := Lib.hid (own_box R1.out B3.out.2.2.2.2.2 8 (.int .i64 v))
    have T2 := Lib.hid (own_box R2.out B3.out.2.2.2.2.2 8 (.int .i64 v))
    have T3 := Lib.hid (own_box R3.out B3.out.2.2.2.2.2 8 (.int .i64 v))
    clear R1 R2 R3
    obtain ⟨x0, x1, x2, x3, x4, x5, x6, x7, x8, x9, x10, x11⟩ := mx_of B4.out.2.2.2.2.2
    obtain ⟨z0, z1, z2, z3, z4, z5, z6, z7, z8, z9, z10, z11⟩ := mx_of B4.out.2.2.2.2.1
    have q0 := B4.out.2.2.2.2.1.free 0
    have q1 := B4.out.2.2.2.2.1.free 1
    have q2 := B4.out.2.2.2.2.1.free 2
    have q3 := B4.out.2.2.2.2.1.free 3
    have q4 := B4.out.2.2.2.2.1.free 4
    have q5 := B4.out.2.2.2.2.1.free 5
    have q6 := B4.out.2.2.2.2.1.free 6
    have q7 := B4.out.2.2.2.2.1.free 7
    have q8 := B4.out.2.2.2.2.1.free 8
    have q9 := B4.out.2.2.2.2.1.free 9
    have q10 := B4.out.2.2.2.2.1.free 10
    have q11 := B4.out.2.2.2.2.1.free 11
    have FF := Lib.hid B4.out.fil
    have Y1 := Lib.hid (own_step T1.out (filM_grown (w3.setCell ⟨gm, 8, none⟩ (.int .i64 v)) w.heap.size (Hd.mk id rp au ct wa ca code qn v) (.slice A1 n1 c1) (.slice A2 n2 c2) (.slice A3 n3 c3)) WB1.out)
    have Y2 := Lib.hid (own_step T2.out (filM_grown (w3.setCell ⟨gm, 8, none⟩ (.int .i64 v)) w.heap.size (Hd.mk id rp au ct wa ca code qn v) (.slice A1 n1 c1) (.slice A2 n2 c2) (.slice A3 n3 c3)) WB2.out)
    have Y3 := Lib.hid (own_step T3.out (filM_grown (w3.setCell ⟨gm, 8, none⟩ (.int .i64 v)) w.heap.size (Hd.mk id rp au ct wa ca code qn v) (.slice A1 n1 c1) (.slice A2 n2 c2) (.slice A3 n3 c3)) WB3.out)
    go_wp2
    exact bodyPost_ret (v := .agg #[.int .i64 (Hd.mk id rp au ct wa ca code qn v).id, .bool (Hd.mk id rp au ct wa ca code qn v).rp, .bool (Hd.mk id rp au ct wa ca code qn v).au, .bool (Hd.mk id rp au ct wa ca code qn v).ct, .bool (Hd.mk id rp au ct wa ca code qn v).wa, .bool (Hd.mk id rp au ct wa ca code qn v).ca, .int .i64 (Hd.mk id rp au ct wa ca code qn v).code, .string (Hd.mk id rp au ct wa ca code qn v).qn, .int .i64 (Hd.mk id rp au ct wa ca code qn v).qt, .slice A1 n1 c1, .slice A2 n2 c2, .slice A3 n3 c3]) (res1M rfl FF.out.1 rfl) rfl ⟨Hd.mk id rp au ct wa ca code qn v, A1, n1, c1, l1, A2, n2, c2, l2, A3, n3, c3, l3, rfl, HQ.out, ⟨⟨_, WB1.out, Y1.out⟩, by omega, SM1.out⟩, ⟨⟨_, WB2.out, Y2.out⟩, by omega, SM2.out⟩, ⟨⟨_, WB3.out, Y3.out⟩, by omega, SM3.out⟩, FF.out.2.1, FF.out.2.2⟩
  by_cases q4 : q = 4
  · subst q4
    have c9 := (mx_of B2.out.2.2.2.2.2).2.2.2.2.2.2.2.2.2.1
    have f9 := B2.out.2.2.2.2.2.free 9
    have BD := Lib.hid (Bq.drawn B2.out)
    have OD := Lib.hid (own_drew P1.out)
    have ID0 := Lib.hid (own_drew P2.out)
    have ID1 := Lib.hid (own_drew P3.out)
    have LA := Lib.hid (show Calls Tryz.prog 111 #[.pointer (some ⟨g, 0, none⟩)] w2.drew (Rcd w2.drew g) from l5Any_any g w2.drew BD.out.cur)
    have hn8 : n1 ≤ 800000000 := by omega
    have h18 : 1 ≤ 800000000 := by decide
    have h01 : 0 < 1 := by decide
    go_wp2
    go_region_law (first
      | (go_simp; go_at_call 111; refine LA.out.mono ?_; rintro e w3 ⟨r, rfl, hr, hc3, hg3⟩; have hbx : b1 ≤ (w3.alloc (.cells #[.string r.name, .int .i64 r.ty, .int .i64 r.ttl, .int .i64 r.n, .string r.host, .string r.text] 117)).heap.size := (by have h1 := HBS1.out; have h2 : w2.heap.size ≤ w3.heap.size := hg3.size; (simp; omega)); have B5 := BD.out.step hc3 hg3; have B6 := B5.alloc (.cells #[.string r.name, .int .i64 r.ty, .int .i64 r.ttl, .int .i64 r.n, .string r.host, .string r.text] 117); have O6 := (own_step OD.out hg3 GB1.out).alloc (.cells #[.string r.name, .int .i64 r.ty, .int .i64 r.ttl, .int .i64 r.n, .string r.host, .string r.text] 117); have y1 := (mx_of B5.2.2.2.2.2).2.2.2.2.2.2.2.2.2.1; have y2 := (mx_of B6.2.2.2.2.2).2.2.2.2.2.2.2.2.2.1; have I0 := (own_step ID0.out hg3 GB2.out).alloc (.cells #[.string r.name, .int .i64 r.ty, .int .i64 r.ttl, .int .i64 r.n, .string r.host, .string r.text] 117); have I1 := (own_step ID1.out hg3 GB3.out).alloc (.cells #[.string r.name, .int .i64 r.ty, .int .i64 r.ttl, .int .i64 r.n, .string r.host, .string r.text] 117))
      | (refine step_append_recs rfl (.tmp 36) (.tmp 39) rfl b1 n1 (.slice A1 n1 c1) l1 rfl O6 w3.heap.size 0 1 1 (w3.alloc (.cells #[.string r.name, .int .i64 r.ty, .int .i64 r.ttl, .int .i64 r.n, .string r.host, .string r.text] 117)).heap.size [r] rfl (one_sr w3 r) hn8 h18 h01 hbx ?_; intro g4 cap4 w4 hown hgrow; have B7 := Bq.row B6 hgrow (row_box B6 O6 WB1.out); have kc := (mx_of B7.2.2.2.2.2).2.2.2.2.2.2.2.2.2.1; have kf := B7.2.2.2.2.2.free 9; have J0 := own_apart I0 hgrow (fun j hj e => by have h1 := (I0.lt j hj).1; have h2 := und_row O6 U12.out j e.symm; omega); have J1 := own_apart I1 hgrow (fun j hj e => by have h1 := (I1.lt j hj).1; have h2 := und_row O6 U13.out j e.symm; omega)))
    all_goals
      have B8 : Hid (Bq w g gm (Hd.mk id rp au ct wa ca code qn qt) (.slice (some ⟨g4, 0, none⟩) (n1 + 1) cap4) (.slice A2 n2 c2) (.slice A3 n3 c3) (w4.setCell ⟨gm, 9, none⟩ (.slice (some ⟨g4, 0, none⟩) (n1 + 1) cap4))) := B7.set 9 (.slice (some ⟨g4, 0, none⟩) (n1 + 1) cap4) rfl
      have N1 := Lib.hid (own_box hown B7.2.2.2.2.2 9 (.slice (some ⟨g4, 0, none⟩) (n1 + 1) cap4))
      have N2 := Lib.hid (own_box J0 B7.2.2.2.2.2 9 (.slice (some ⟨g4, 0, none⟩) (n1 + 1) cap4))
      have N3 := Lib.hid (own_box J1 B7.2.2.2.2.2 9 (.slice (some ⟨g4, 0, none⟩) (n1 + 1) cap4))
      have SMN : Hid (∀ x ∈ l1 ++ [r], Sml x) := fun x hx => by
        rcases List.mem_append.1 hx with hx | hx
        · exact SM1.out x hx
        · rw [List.mem_singleton.1 hx]; exact hr
      clear B7 hown hgrow J0 J1 I0 I1 O6 B5 B6 y1 y2 hr hc3 hg3 hbx kc kf LA BD OD ID0 ID1 B2 P1 P2 P3 c9 f9
      obtain ⟨x0, x1, x2, x3, x4, x5, x6, x7, x8, x9, x10, x11⟩ := mx_of B8.out.2.2.2.2.2
      obtain ⟨z0, z1, z2, z3, z4, z5, z6, z7, z8, z9, z10, z11⟩ := mx_of B8.out.2.2.2.2.1
      have q0 := B8.out.2.2.2.2.1.free 0
      have q1 := B8.out.2.2.2.2.1.free 1
      have q2 := B8.out.2.2.2.2.1.free 2
      have q3 := B8.out.2.2.2.2.1.free 3
      have q4 := B8.out.2.2.2.2.1.free 4
      have q5 := B8.out.2.2.2.2.1.free 5
      have q6 := B8.out.2.2.2.2.1.free 6
      have q7 := B8.out.2.2.2.2.1.free 7
      have q8 := B8.out.2.2.2.2.1.free 8
      have q9 := B8.out.2.2.2.2.1.free 9
      have q10 := B8.out.2.2.2.2.1.free 10
      have q11 := B8.out.2.2.2.2.1.free 11
      have FF := Lib.hid B8.out.fil
      have Y1 := Lib.hid (own_step N1.out (filM_grown (w4.setCell ⟨gm, 9, none⟩ (.slice (some ⟨g4, 0, none⟩) (n1 + 1) cap4)) w.heap.size (Hd.mk id rp au ct wa ca code qn qt) (.slice (some ⟨g4, 0, none⟩) (n1 + 1) cap4) (.slice A2 n2 c2) (.slice A3 n3 c3)) WB1.out)
      have Y2 := Lib.hid (own_step N2.out (filM_grown (w4.setCell ⟨gm, 9, none⟩ (.slice (some ⟨g4, 0, none⟩) (n1 + 1) cap4)) w.heap.size (Hd.mk id rp au ct wa ca code qn qt) (.slice (some ⟨g4, 0, none⟩) (n1 + 1) cap4) (.slice A2 n2 c2) (.slice A3 n3 c3)) WB2.out)
      have Y3 := Lib.hid (own_step N3.out (filM_grown (w4.setCell ⟨gm, 9, none⟩ (.slice (some ⟨g4, 0, none⟩) (n1 + 1) cap4)) w.heap.size (Hd.mk id rp au ct wa ca code qn qt) (.slice (some ⟨g4, 0, none⟩) (n1 + 1) cap4) (.slice A2 n2 c2) (.slice A3 n3 c3)) WB3.out)
      go_wp2
      exact bodyPost_ret (v := .agg #[.int .i64 (Hd.mk id rp au ct wa ca code qn qt).id, .bool (Hd.mk id rp au ct wa ca code qn qt).rp, .bool (Hd.mk id rp au ct wa ca code qn qt).au, .bool (Hd.mk id rp au ct wa ca code qn qt).ct, .bool (Hd.mk id rp au ct wa ca code qn qt).wa, .bool (Hd.mk id rp au ct wa ca code qn qt).ca, .int .i64 (Hd.mk id rp au ct wa ca code qn qt).code, .string (Hd.mk id rp au ct wa ca code qn qt).qn, .int .i64 (Hd.mk id rp au ct wa ca code qn qt).qt, .slice (some ⟨g4, 0, none⟩) (n1 + 1) cap4, .slice A2 n2 c2, .slice A3 n3 c3]) (res1M rfl FF.out.1 rfl) rfl ⟨Hd.mk id rp au ct wa ca code qn qt, _, n1 + 1, cap4, l1 ++ [r], A2, n2, c2, l2, A3, n3, c3, l3, rfl, HQ.out, ⟨⟨_, WB1.out, Y1.out⟩, by omega, SMN.out⟩, ⟨⟨_, WB2.out, Y2.out⟩, by omega, SM2.out⟩, ⟨⟨_, WB3.out, Y3.out⟩, by omega, SM3.out⟩, FF.out.2.1, FF.out.2.2⟩
  by_cases q5 : q = 5
  · subst q5
    go_wp2
    go_loopw [44] (fun _ wr => ∃ (AA : Option Addr) (nn cc : Nat) (ll : List Rec), nn ≤ 9 ∧ Hid (Bq w g gm (Hd.mk id rp au ct wa ca code qn qt) (.slice A1 n1 c1) (.slice A2 n2 c2) (.slice AA nn cc) wr) ∧ Hid (wr.ownsRow b1 117 6 (.slice A1 n1 c1) n1 (fl l1)) ∧ Hid (wr.ownsRow b2 117 6 (.slice A2 n2 c2) n2 (fl l2)) ∧ Hid (wr.ownsRow b3 117 6 (.slice AA nn cc) nn (fl ll)) ∧ Hid (∀ r ∈ ll, Sml r) ∧ Hid (b3 ≤ wr.heap.size)) (fun _ wr => 9 - lenAt wr ⟨gm, 11, none⟩)
    case atStart => exact ⟨A3, n3, c3, l3, by omega, B2.out, P1.out, P2.out, P3.out, SM3.out, HBS3.out⟩
    case round =>
      have K13 := Lib.hid (und_row P1.out U13.out)
      have K23 := Lib.hid (und_row P2.out U23.out)
      clear B2 P1 P2 P3 SM3 HBS1 HBS2 HBS3
      obtain ⟨AA, nn, cc, ll, hnn, B2, P1, P2, P3, SM3, HBS3⟩ := hrel
      have HLN := Lib.hid (lenAt_of (mx_of B2.out.2.2.2.2.2).2.2.2.2.2.2.2.2.2.2.2)
      by_cases hlt : nn < 9
      · have c11 := (mx_of B2.out.2.2.2.2.2).2.2.2.2.2.2.2.2.2.2.2
        have f11 := B2.out.2.2.2.2.2.free 11
        have BD := Lib.hid (Bq.drawn B2.out)
        have OD := Lib.hid (own_drew P3.out)
        have ID0 := Lib.hid (own_drew P1.out)
        have ID1 := Lib.hid (own_drew P2.out)
        have LA := Lib.hid (show Calls Tryz.prog 112 #[.pointer (some ⟨g, 0, none⟩)] wr.drew (Rcd wr.drew g) from l5Draw_any g wr.drew BD.out.cur)
        have hn8 : nn ≤ 800000000 := by omega
        have h18 : 1 ≤ 800000000 := by decide
        have h01 : 0 < 1 := by decide
        go_wp2
        go_region_law (first
          | (go_simp; go_at_call 112; refine LA.out.mono ?_; rintro e w3 ⟨r, rfl, hr, hc3, hg3⟩; have hbx : b3 ≤ (w3.alloc (.cells #[.string r.name, .int .i64 r.ty, .int .i64 r.ttl, .int .i64 r.n, .string r.host, .string r.text] 117)).heap.size := (by have h1 := HBS3.out; have h2 : wr.heap.size ≤ w3.heap.size := hg3.size; (simp; omega)); have B5 := BD.out.step hc3 hg3; have B6 := B5.alloc (.cells #[.string r.name, .int .i64 r.ty, .int .i64 r.ttl, .int .i64 r.n, .string r.host, .string r.text] 117); have O6 := (own_step OD.out hg3 GB3.out).alloc (.cells #[.string r.name, .int .i64 r.ty, .int .i64 r.ttl, .int .i64 r.n, .string r.host, .string r.text] 117); have y1 := (mx_of B5.2.2.2.2.2).2.2.2.2.2.2.2.2.2.2.2; have y2 := (mx_of B6.2.2.2.2.2).2.2.2.2.2.2.2.2.2.2.2; have I0 := (own_step ID0.out hg3 GB1.out).alloc (.cells #[.string r.name, .int .i64 r.ty, .int .i64 r.ttl, .int .i64 r.n, .string r.host, .string r.text] 117); have I1 := (own_step ID1.out hg3 GB2.out).alloc (.cells #[.string r.name, .int .i64 r.ty, .int .i64 r.ttl, .int .i64 r.n, .string r.host, .string r.text] 117))
          | (refine step_append_recs rfl (.tmp 49) (.tmp 52) rfl b3 nn (.slice AA nn cc) ll rfl O6 w3.heap.size 0 1 1 (w3.alloc (.cells #[.string r.name, .int .i64 r.ty, .int .i64 r.ttl, .int .i64 r.n, .string r.host, .string r.text] 117)).heap.size [r] rfl (one_sr w3 r) hn8 h18 h01 hbx ?_; intro g4 cap4 w4 hown hgrow; have B7 := Bq.row B6 hgrow (row_box B6 O6 WB3.out); have kc := (mx_of B7.2.2.2.2.2).2.2.2.2.2.2.2.2.2.2.2; have kf := B7.2.2.2.2.2.free 11; have J0 := own_apart I0 hgrow (fun j hj e => by have h1 := (O6.lt j e.symm).1; have h2 := K13.out j hj; omega); have J1 := own_apart I1 hgrow (fun j hj e => by have h1 := (O6.lt j e.symm).1; have h2 := K23.out j hj; omega)))
        all_goals
          have B8 : Hid (Bq w g gm (Hd.mk id rp au ct wa ca code qn qt) (.slice A1 n1 c1) (.slice A2 n2 c2) (.slice (some ⟨g4, 0, none⟩) (nn + 1) cap4) (w4.setCell ⟨gm, 11, none⟩ (.slice (some ⟨g4, 0, none⟩) (nn + 1) cap4))) := B7.set 11 (.slice (some ⟨g4, 0, none⟩) (nn + 1) cap4) rfl
          have N3 := Lib.hid (own_box hown B7.2.2.2.2.2 11 (.slice (some ⟨g4, 0, none⟩) (nn + 1) cap4))
          have N1 := Lib.hid (own_box J0 B7.2.2.2.2.2 11 (.slice (some ⟨g4, 0, none⟩) (nn + 1) cap4))
          have N2 := Lib.hid (own_box J1 B7.2.2.2.2.2 11 (.slice (some ⟨g4, 0, none⟩) (nn + 1) cap4))
          have SMN : Hid (∀ x ∈ ll ++ [r], Sml x) := fun x hx => by
            rcases List.mem_append.1 hx with hx | hx
            · exact SM3.out x hx
            · rw [List.mem_singleton.1 hx]; exact hr
          have HBN : Hid (b3 ≤ (w4.setCell ⟨gm, 11, none⟩ (.slice (some ⟨g4, 0, none⟩) (nn + 1) cap4)).heap.size) := by show _ ≤ _; have h1 := (N3.out.lt g4 rfl); omega
          have HLM := Lib.hid (lenAt_of (mx_of B8.out.2.2.2.2.2).2.2.2.2.2.2.2.2.2.2.2)
          clear B7 hown hgrow J0 J1 I0 I1 O6 B5 B6 y1 y2 hr hc3 hg3 hbx kc kf LA BD OD ID0 ID1 B2 P1 P2 P3 c11 f11 SM3 HBS3
          go_wp2
          go_roundw
          case rel => exact ⟨_, nn + 1, cap4, ll ++ [r], by omega, B8.out, N1.out, N2.out, N3.out, SMN.out, HBN.out⟩
          case measure =>
            rw [HLN.out, HLM.out]
            omega
      · have h9 : ¬ (nn : Int) < 9 := by omega
        obtain ⟨x0, x1, x2, x3, x4, x5, x6, x7, x8, x9, x10, x11⟩ := mx_of B2.out.2.2.2.2.2
        obtain ⟨z0, z1, z2, z3, z4, z5, z6, z7, z8, z9, z10, z11⟩ := mx_of B2.out.2.2.2.2.1
        have q0 := B2.out.2.2.2.2.1.free 0
        have q1 := B2.out.2.2.2.2.1.free 1
        have q2 := B2.out.2.2.2.2.1.free 2
        have q3 := B2.out.2.2.2.2.1.free 3
        have q4 := B2.out.2.2.2.2.1.free 4
        have q5 := B2.out.2.2.2.2.1.free 5
        have q6 := B2.out.2.2.2.2.1.free 6
        have q7 := B2.out.2.2.2.2.1.free 7
        have q8 := B2.out.2.2.2.2.1.free 8
        have q9 := B2.out.2.2.2.2.1.free 9
        have q10 := B2.out.2.2.2.2.1.free 10
        have q11 := B2.out.2.2.2.2.1.free 11
        have FF := Lib.hid B2.out.fil
        have Y1 := Lib.hid (own_step P1.out (filM_grown wr w.heap.size (Hd.mk id rp au ct wa ca code qn qt) (.slice A1 n1 c1) (.slice A2 n2 c2) (.slice AA nn cc)) WB1.out)
        have Y2 := Lib.hid (own_step P2.out (filM_grown wr w.heap.size (Hd.mk id rp au ct wa ca code qn qt) (.slice A1 n1 c1) (.slice A2 n2 c2) (.slice AA nn cc)) WB2.out)
        have Y3 := Lib.hid (own_step P3.out (filM_grown wr w.heap.size (Hd.mk id rp au ct wa ca code qn qt) (.slice A1 n1 c1) (.slice A2 n2 c2) (.slice AA nn cc)) WB3.out)
        go_wp2
        exact bodyPost_ret (v := .agg #[.int .i64 (Hd.mk id rp au ct wa ca code qn qt).id, .bool (Hd.mk id rp au ct wa ca code qn qt).rp, .bool (Hd.mk id rp au ct wa ca code qn qt).au, .bool (Hd.mk id rp au ct wa ca code qn qt).ct, .bool (Hd.mk id rp au ct wa ca code qn qt).wa, .bool (Hd.mk id rp au ct wa ca code qn qt).ca, .int .i64 (Hd.mk id rp au ct wa ca code qn qt).code, .string (Hd.mk id rp au ct wa ca code qn qt).qn, .int .i64 (Hd.mk id rp au ct wa ca code qn qt).qt, .slice A1 n1 c1, .slice A2 n2 c2, .slice AA nn cc]) (res1M rfl FF.out.1 rfl) rfl ⟨Hd.mk id rp au ct wa ca code qn qt, A1, n1, c1, l1, A2, n2, c2, l2, AA, nn, cc, ll, rfl, HQ.out, ⟨⟨_, WB1.out, Y1.out⟩, by omega, SM1.out⟩, ⟨⟨_, WB2.out, Y2.out⟩, by omega, SM2.out⟩, ⟨⟨_, WB3.out, Y3.out⟩, by omega, SM3.out⟩, FF.out.2.1, FF.out.2.2⟩
  have e0 : (q == 0) = false := beq_eq_false_iff_ne.2 q0
  have e1 : (q == 1) = false := beq_eq_false_iff_ne.2 q1
  have e2 : (q == 2) = false := beq_eq_false_iff_ne.2 q2
  have e3 : (q == 3) = false := beq_eq_false_iff_ne.2 q3
  have e4 : (q == 4) = false := beq_eq_false_iff_ne.2 q4
  have e5 : (q == 5) = false := beq_eq_false_iff_ne.2 q5
  obtain ⟨x0, x1, x2, x3, x4, x5, x6, x7, x8, x9, x10, x11⟩ := mx_of B2.out.2.2.2.2.2
  obtain ⟨z0, z1, z2, z3, z4, z5, z6, z7, z8, z9, z10, z11⟩ := mx_of B2.out.2.2.2.2.1
  have q0 := B2.out.2.2.2.2.1.free 0
  have q1 := B2.out.2.2.2.2.1.free 1
  have q2 := B2.out.2.2.2.2.1.free 2
  have q3 := B2.out.2.2.2.2.1.free 3
  have q4 := B2.out.2.2.2.2.1.free 4
  have q5 := B2.out.2.2.2.2.1.free 5
  have q6 := B2.out.2.2.2.2.1.free 6
  have q7 := B2.out.2.2.2.2.1.free 7
  have q8 := B2.out.2.2.2.2.1.free 8
  have q9 := B2.out.2.2.2.2.1.free 9
  have q10 := B2.out.2.2.2.2.1.free 10
  have q11 := B2.out.2.2.2.2.1.free 11
  have FF := Lib.hid B2.out.fil
  have Y1 := Lib.hid (own_step P1.out (filM_grown w2 w.heap.size (Hd.mk id rp au ct wa ca code qn qt) (.slice A1 n1 c1) (.slice A2 n2 c2) (.slice A3 n3 c3)) WB1.out)
  have Y2 := Lib.hid (own_step P2.out (filM_grown w2 w.heap.size (Hd.mk id rp au ct wa ca code qn qt) (.slice A1 n1 c1) (.slice A2 n2 c2) (.slice A3 n3 c3)) WB2.out)
  have Y3 := Lib.hid (own_step P3.out (filM_grown w2 w.heap.size (Hd.mk id rp au ct wa ca code qn qt) (.slice A1 n1 c1) (.slice A2 n2 c2) (.slice A3 n3 c3)) WB3.out)
  go_wp2
  exact bodyPost_ret (v := .agg #[.int .i64 (Hd.mk id rp au ct wa ca code qn qt).id, .bool (Hd.mk id rp au ct wa ca code qn qt).rp, .bool (Hd.mk id rp au ct wa ca code qn qt).au, .bool (Hd.mk id rp au ct wa ca code qn qt).ct, .bool (Hd.mk id rp au ct wa ca code qn qt).wa, .bool (Hd.mk id rp au ct wa ca code qn qt).ca, .int .i64 (Hd.mk id rp au ct wa ca code qn qt).code, .string (Hd.mk id rp au ct wa ca code qn qt).qn, .int .i64 (Hd.mk id rp au ct wa ca code qn qt).qt, .slice A1 n1 c1, .slice A2 n2 c2, .slice A3 n3 c3]) (res1M rfl FF.out.1 rfl) rfl ⟨Hd.mk id rp au ct wa ca code qn qt, A1, n1, c1, l1, A2, n2, c2, l2, A3, n3, c3, l3, rfl, HQ.out, ⟨⟨_, WB1.out, Y1.out⟩, by omega, SM1.out⟩, ⟨⟨_, WB2.out, Y2.out⟩, by omega, SM2.out⟩, ⟨⟨_, WB3.out, Y3.out⟩, by omega, SM3.out⟩, FF.out.2.1, FF.out.2.2⟩
end Go.Proofs.YtkfibepejlgniaaGreatDoor.DrawO

/- What the model's draw DrawPutMsg does: a message of short texts and few records; nothing that was there is turned. -/
namespace Go.Proofs.YtkfibepejlgniaaGreatDoor.DrawV
open Go.RowKit Go.Proofs.YtkfibepejlgniaaGreatDoor.Mem Go.Proofs.YtkfibepejlgniaaGreatDoor.MemS Go.Proofs.YtkfibepejlgniaaGreatDoor.MemR Go.Proofs.YtkfibepejlgniaaGreatDoor.BoxR Go.Proofs.YtkfibepejlgniaaGreatDoor.Draw Go.Proofs.YtkfibepejlgniaaGreatDoor.DrawS Go.Proofs.YtkfibepejlgniaaGreatDoor.DrawL Go.Proofs.YtkfibepejlgniaaGreatDoor.DrawN Go.Proofs.YtkfibepejlgniaaGreatDoor.AppR Go.Proofs.YtkfibepejlgniaaGreatDoor.ResR Go.Proofs.YtkfibepejlgniaaGreatDoor.DrawR Go.Proofs.YtkfibepejlgniaaGreatDoor.OwnR Go.Proofs.YtkfibepejlgniaaGreatDoor.DrawA Go.Proofs.YtkfibepejlgniaaGreatDoor.MemM Go.Proofs.YtkfibepejlgniaaGreatDoor.ResM Go.Proofs.YtkfibepejlgniaaGreatDoor.DrawM Go.Proofs.YtkfibepejlgniaaGreatDoor.DrawO

/-- A message of short texts and few records; nothing that was there is turned. -/
def Dpm (w : World) (e : Ending) (w' : World) : Prop :=
  ∃ (h : Hd) (A1 : Option Addr) (n1 c1 : Nat) (l1 : List Rec) (A2 : Option Addr) (n2 c2 : Nat) (l2 : List Rec) (A3 : Option Addr) (n3 c3 : Nat) (l3 : List Rec),
    e = .returned (.agg #[.int .i64 h.id, .bool h.rp, .bool h.au, .bool h.ct, .bool h.wa, .bool h.ca, .int .i64 h.code, .string h.qn, .int .i64 h.qt, .slice A1 n1 c1, .slice A2 n2 c2, .slice A3 n3 c3]) ∧ h.qn.size ≤ 60 ∧ (Sr w' w'.heap.size A1 n1 l1 ∧ n1 ≤ 9 ∧ ∀ r ∈ l1, Sml r) ∧ (Sr w' w'.heap.size A2 n2 l2 ∧ n2 ≤ 9 ∧ ∀ r ∈ l2, Sml r) ∧ (Sr w' w'.heap.size A3 n3 l3 ∧ n3 ≤ 9 ∧ ∀ r ∈ l3, Sml r) ∧ Below w.heap.size w w'

set_option maxRecDepth 100000 in
set_option maxHeartbeats 8000000 in
theorem drawPutMsg_any (A : Option Addr) (n c : Nat) (l : List UInt8) (w : World) (hs : Sl w w.heap.size A n l) (hn : n ≤ 1048576) : Calls Tryz.prog 26 #[.slice A n c] w (Dpm w) := by
  have HS := Lib.hid (App.sl_alloc hs (.cells #[.int .i64 0, .bool false, .bool false, .bool false, .bool false, .bool false, .int .i64 0, .string ⟨#[]⟩, .int .i64 0, .slice none 0 0, .slice none 0 0, .slice none 0 0] 28))
  have Z0 : Hid (Bk (w.alloc (.cells #[.int .i64 0, .bool false, .bool false, .bool false, .bool false, .bool false, .int .i64 0, .string ⟨#[]⟩, .int .i64 0, .slice none 0 0, .slice none 0 0, .slice none 0 0] 28)) w.heap.size 28 (mc zh (.slice none 0 0) (.slice none 0 0) (.slice none 0 0))) := heap_alloc_new w _
  have L0 := Lib.hid ((Below.refl w.heap.size w).alloc (Nat.le_refl _) (.cells #[.int .i64 0, .bool false, .bool false, .bool false, .bool false, .bool false, .int .i64 0, .string ⟨#[]⟩, .int .i64 0, .slice none 0 0, .slice none 0 0, .slice none 0 0] 28))
  clear hs
  have K := Lib.hid (l1New_any A n c l _ HS.out hn)
  rw [show (w.alloc (.cells #[.int .i64 0, .bool false, .bool false, .bool false, .bool false, .bool false, .int .i64 0, .string ⟨#[]⟩, .int .i64 0, .slice none 0 0, .slice none 0 0, .slice none 0 0] 28)).heap.size = w.heap.size + 1 by simp] at K
  go_enter Tryz.func26, Tryz.ntmps26
  go_wp2_with fail
  refine K.out.mono ?_
  rintro e w1 ⟨rfl, hc1, hg1⟩
  have C1 := Lib.hid hc1
  have Z1 := Lib.hid (Z0.out.grown hg1 (fun e => by cases e))
  have L1 := Lib.hid (L0.out.trans ((below_of_grown hg1).mono L0.out.size))
  clear hc1 hg1 Z0 L0 K HS
  go_wp2_with fail
  refine (l7Any_any (w.heap.size + 1) w1 C1.out).mono ?_
  rintro e w2 ⟨h, A1, n1, c1, l1, A2, n2, c2, l2, A3, n3, c3, l3, rfl, hq, ⟨⟨b1, hb1, o1⟩, hn1, r1⟩, ⟨⟨b2, hb2, o2⟩, hn2, r2⟩, ⟨⟨b3, hb3, o3⟩, hn3, r3⟩, hc2, hg2⟩
  have HQ := Lib.hid hq
  have SM1 := Lib.hid r1
  have GB1 : Hid (w.heap.size < b1) := Nat.lt_trans (Nat.lt_trans (Nat.lt_succ_self _) C1.out.lt) hb1
  have O1 := Lib.hid o1
  have SM2 := Lib.hid r2
  have GB2 : Hid (w.heap.size < b2) := Nat.lt_trans (Nat.lt_trans (Nat.lt_succ_self _) C1.out.lt) hb2
  have O2 := Lib.hid o2
  have SM3 := Lib.hid r3
  have GB3 : Hid (w.heap.size < b3) := Nat.lt_trans (Nat.lt_trans (Nat.lt_succ_self _) C1.out.lt) hb3
  have O3 := Lib.hid o3
  have Z2 := Lib.hid (Z1.out.grown hg2 (fun e => by have := Option.some.inj e; omega))
  have L2 := Lib.hid (L1.out.grown hg2 L1.out.size (fun j hj => by cases hj; omega))
  clear hq r1 r2 r3 o1 o2 o3 hb1 hb2 hb3 hc2 hg2 C1 Z1 L1
  obtain ⟨z0, z1, z2, z3, z4, z5, z6, z7, z8, z9, z10, z11⟩ := mx_of Z2.out
  have f0 := Z2.out.free 0
  have f1 := Z2.out.free 1
  have f2 := Z2.out.free 2
  have f3 := Z2.out.free 3
  have f4 := Z2.out.free 4
  have f5 := Z2.out.free 5
  have f6 := Z2.out.free 6
  have f7 := Z2.out.free 7
  have f8 := Z2.out.free 8
  have f9 := Z2.out.free 9
  have f10 := Z2.out.free 10
  have f11 := Z2.out.free 11
  go_wp2
  exact bodyPost_ret (v := .agg #[.int .i64 h.id, .bool h.rp, .bool h.au, .bool h.ct, .bool h.wa, .bool h.ca, .int .i64 h.code, .string h.qn, .int .i64 h.qt, .slice A1 n1 c1, .slice A2 n2 c2, .slice A3 n3 c3]) (res1M rfl (filM_bk Z2.out h (.slice A1 n1 c1) (.slice A2 n2 c2) (.slice A3 n3 c3)) rfl) rfl ⟨h, A1, n1, c1, l1, A2, n2, c2, l2, A3, n3, c3, l3, rfl, HQ.out, ⟨(own_sr (own_step O1.out (filM_grown w2 w.heap.size h (.slice A1 n1 c1) (.slice A2 n2 c2) (.slice A3 n3 c3)) GB1.out)).1, hn1, SM1.out⟩, ⟨(own_sr (own_step O2.out (filM_grown w2 w.heap.size h (.slice A1 n1 c1) (.slice A2 n2 c2) (.slice A3 n3 c3)) GB2.out)).1, hn2, SM2.out⟩, ⟨(own_sr (own_step O3.out (filM_grown w2 w.heap.size h (.slice A1 n1 c1) (.slice A2 n2 c2) (.slice A3 n3 c3)) GB3.out)).1, hn3, SM3.out⟩, filM_below L2.out (Nat.le_refl _) h (.slice A1 n1 c1) (.slice A2 n2 c2) (.slice A3 n3 c3)⟩
end Go.Proofs.YtkfibepejlgniaaGreatDoor.DrawV
