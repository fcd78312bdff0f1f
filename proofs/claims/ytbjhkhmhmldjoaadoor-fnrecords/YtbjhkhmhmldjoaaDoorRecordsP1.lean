/- Two records that are the same, compared with == : true, and nothing is turned. -/
import Derived.Test.YtbjhkhmhmldjoaaDoorMem
import Derived.Deep.QuietTactic
import Derived.BigQuiet
import Derived.Test.YtbjhkhmhmldjoaaDoorUp
import Derived.Test.YtbjhkhmhmldjoaaDoorBoxR
import Derived.Laws.ResultCell
import Derived.Test.YtbjhkhmhmldjoaaDoorMemR
import Derived.Test.YtbjhkhmhmldjoaaDoorAppR
import Derived.Lib.AppendStr
import Derived.Test.YtbjhkhmhmldjoaaDoorRecText
import Derived.Deep.RegionHeld3
import Derived.Laws.StructEq
/- What the model's drawing functions do: whatever the code, they return numbers in their ranges and new slices of bytes, and write nothing but their own cursor. -/
namespace Go.Proofs.YtbjhkhmhmldjoaaDoor.Draw
open Go.RowKit Go.Proofs.YtbjhkhmhmldjoaaDoor.Mem

/-- A cursor over bytes that lie below it. -/
def Cur (w : World) (g : Nat) : Prop :=
  ∃ (A : Option Addr) (n c : Nat) (l : List UInt8) (i : Nat) (h : Int), Bk w g 92 [.slice A n c, .int .i64 (i : Int), .int .i64 h] ∧ i ≤ n ∧ n ≤ 1048576 ∧ Sl w g A n l

/-- A number within bounds, the cursor moved, nothing else turned. -/
def Num (w : World) (g : Nat) (lo hi : Int) (e : Ending) (w' : World) : Prop :=
  ∃ x : Int, e = .returned (.int .i64 x) ∧ lo ≤ x ∧ x < hi ∧ Cur w' g ∧ w.grownBy w' (some g)

theorem grown_trans {a b d : World} {r : Option Nat} (h : a.grownBy b r) (k : b.grownBy d r) : a.grownBy d r :=
  ⟨k.os.trans h.os, k.tape.trans h.tape, k.output.trans h.output, Nat.le_trans h.size k.size, fun i hi hne => (k.block i (Nat.lt_of_lt_of_le hi h.size) hne).trans (h.block i hi hne)⟩
theorem grown_drewN {a b : World} {r : Option Nat} (h : a.grownBy b r) (k : Nat) : a.grownBy (b.drewN k) r := ⟨h.os, h.tape, h.output, h.size, h.block⟩
theorem grown_refl (a : World) (r : Option Nat) : a.grownBy a r := ⟨rfl, rfl, rfl, Nat.le_refl _, fun _ _ _ => rfl⟩
theorem grown_set {w wr : World} {g : Nat} (h : w.grownBy wr (some g)) (j : Nat) (u : Value) : w.grownBy (wr.setCell ⟨g, j, none⟩ u) (some g) :=
  ⟨h.os, h.tape, h.output, by simpa [World.setCell] using h.size, fun k hk hne => by
    rw [Below.heap_setCell _ _ _ _ (fun e => hne (by simp [e]))]; exact h.block k hk hne⟩

/-- A mask of eight bits leaves a byte, whatever stood there. -/
theorem mask8 (y : Int) : 0 ≤ bits .and .i64 y 255 ∧ bits .and .i64 y 255 < 256 := by
  have h : bits .and .i64 y 255 = IntKind.i64.wrap ((BitVec.ofInt 64 y &&& BitVec.ofInt 64 255).toNat : Int) := rfl
  rw [h, BitVec.toNat_and]
  have h2 : (BitVec.ofInt 64 y).toNat &&& (BitVec.ofInt 64 255).toNat ≤ 255 := Nat.le_trans Nat.and_le_right (by decide)
  rw [IntKind.wrap_i64]
  omega
theorem mask30 (y : Int) : 0 ≤ bits .and .i64 y 1073741823 ∧ bits .and .i64 y 1073741823 < 1073741824 := by
  have h : bits .and .i64 y 1073741823 = IntKind.i64.wrap ((BitVec.ofInt 64 y &&& BitVec.ofInt 64 1073741823).toNat : Int) := rfl
  rw [h, BitVec.toNat_and]
  have h2 : (BitVec.ofInt 64 y).toNat &&& (BitVec.ofInt 64 1073741823).toNat ≤ 1073741823 := Nat.le_trans Nat.and_le_right (by decide)
  rw [IntKind.wrap_i64]
  omega

/-- The cursor behind a store into it. -/
theorem set_h {w : World} {g i n c : Nat} {A : Option Addr} {h h2 : Int} {l : List UInt8} (hb : Bk w g 92 [.slice A n c, .int .i64 (i : Int), .int .i64 h]) (hs : Sl w g A n l) :
    Bk (w.setCell ⟨g, 2, none⟩ (.int .i64 h2)) g 92 [.slice A n c, .int .i64 (i : Int), .int .i64 h2] ∧ Sl (w.setCell ⟨g, 2, none⟩ (.int .i64 h2)) g A n l ∧ w.grownBy (w.setCell ⟨g, 2, none⟩ (.int .i64 h2)) (some g) :=
  ⟨hb.set 2 _, hs.move fun _ hp => World.cell?_of_block (Below.heap_setCell _ _ _ _ (Nat.ne_of_lt hp)), grown_set (grown_refl _ _) _ _⟩
theorem set_i {w : World} {g i j n c : Nat} {A : Option Addr} {h : Int} {l : List UInt8} (hb : Bk w g 92 [.slice A n c, .int .i64 (i : Int), .int .i64 h]) (hs : Sl w g A n l) :
    Bk (w.setCell ⟨g, 1, none⟩ (.int .i64 (j : Int))) g 92 [.slice A n c, .int .i64 (j : Int), .int .i64 h] ∧ Sl (w.setCell ⟨g, 1, none⟩ (.int .i64 (j : Int))) g A n l ∧ w.grownBy (w.setCell ⟨g, 1, none⟩ (.int .i64 (j : Int))) (some g) :=
  ⟨hb.set 1 _, hs.move fun _ hp => World.cell?_of_block (Below.heap_setCell _ _ _ _ (Nat.ne_of_lt hp)), grown_set (grown_refl _ _) _ _⟩

set_option maxHeartbeats 1000000 in
theorem l1Byte_any (g : Nat) (w : World) (hc : Cur w g) : Calls Tryd.prog 96 #[.pointer (some ⟨g, 0, none⟩)] w (Num w g 0 256) := by
  obtain ⟨A, n, c, l, i, h, hb, hi, hn, hs⟩ := hc
  have hx2 : w.cell? ⟨g, 2, none⟩ = some (.int .i64 h) := by rw [hb.cell]; rfl
  have hf2 : w.frozen? ⟨g, 2, none⟩ = false := hb.free 2
  have HH : Hid (∀ h2, _) := fun h2 => set_h (h2 := h2) hb hs
  clear hb hs
  go_enter Tryd.func96, Tryd.ntmps96
  go_wp2
  generalize wrap64 (wrap64 (h * 6364136223846793005) + 1442695040888963407) = h2
  generalize wrap64 (h * 6364136223846793005) = h3
  obtain ⟨hb, hs, hg⟩ := HH.out h2
  clear HH hx2 hf2
  generalize w.setCell ⟨g, 2, none⟩ (.int .i64 h2) = w2 at *
  have hx0 : w2.cell? ⟨g, 0, none⟩ = some (.slice A n c) := by rw [hb.cell]; rfl
  have hx1 : w2.cell? ⟨g, 1, none⟩ = some (.int .i64 (i : Int)) := by rw [hb.cell]; rfl
  have hx2 : w2.cell? ⟨g, 2, none⟩ = some (.int .i64 h2) := by rw [hb.cell]; rfl
  have hf1 : w2.frozen? ⟨g, 1, none⟩ = false := hb.free 1
  have HB := Lib.hid hb
  have HS := Lib.hid hs
  have HG := Lib.hid hg
  clear hb hs hg
  go_quiet (fail)
  have hX := mask8 (bits .xor .i64 (h2 / 8589934592) (h2 / 140737488355328))
  generalize bits .and .i64 (bits .xor .i64 (h2 / 8589934592) (h2 / 140737488355328)) 255 = X at *
  generalize bits .xor .i64 (h2 / 8589934592) (h2 / 140737488355328) = X1
  generalize h2 / 8589934592 = X2
  generalize h2 / 140737488355328 = X3
  obtain ⟨hX0, hX1⟩ := hX
  have hb : Bk (w2.drewN nq) g 92 [.slice A n c, .int .i64 (i : Int), .int .i64 h2] := HB.out
  have hs : Sl (w2.drewN nq) g A n l := HS.out
  have hg := grown_drewN HG.out nq
  clear HB HS HG hx0 hx1 hx2 hf1
  generalize w2.drewN nq = w3 at *
  have hx0 : w3.cell? ⟨g, 0, none⟩ = some (.slice A n c) := by rw [hb.cell]; rfl
  have hx1 : w3.cell? ⟨g, 1, none⟩ = some (.int .i64 (i : Int)) := by rw [hb.cell]; rfl
  have HB := Lib.hid hb
  have HS := Lib.hid hs
  have HG := Lib.hid hg
  clear hb hs hg
  by_cases hlt : i < n
  · go_wp2
    go_quiet (fail)
    go_wp2
    have hb : Bk (w3.drewN nq) g 92 [.slice A n c, .int .i64 (i : Int), .int .i64 h2] := HB.out
    have hs : Sl (w3.drewN nq) g A n l := HS.out
    have hg := grown_drewN HG.out nq
    clear HB HS HG hx0 hx1
    generalize w3.drewN nq = w4 at *
    obtain ⟨b, off, rfl, hbB, hcs⟩ := hs.2 (by omega)
    have hil : i < l.length := by have := hs.1; omega
    have hx0 : w4.cell? ⟨g, 0, none⟩ = some (.slice (some ⟨b, off, none⟩) n c) := by rw [hb.cell]; rfl
    have hx1 : w4.cell? ⟨g, 1, none⟩ = some (.int .i64 (i : Int)) := by rw [hb.cell]; rfl
    have hx3 : w4.cell? ⟨b, off + i, none⟩ = some (.int .u8 (l[i].toNat : Int)) := hcs i hil
    have hby := l[i].toNat_lt
    have HB := Lib.hid hb
    have HS := Lib.hid hs
    have HG := Lib.hid hg
    clear hb hs hg hcs
    go_quiet (fail)
    have hb : Bk (w4.drewN nq) g 92 [.slice (some ⟨b, off, none⟩) n c, .int .i64 (i : Int), .int .i64 h2] := HB.out
    have hs : Sl (w4.drewN nq) g (some ⟨b, off, none⟩) n l := HS.out
    have hg := grown_drewN HG.out nq
    clear HB HS HG hx0 hx1 hx3
    generalize w4.drewN nq = w5 at *
    have hx1 : w5.cell? ⟨g, 1, none⟩ = some (.int .i64 (i : Int)) := by rw [hb.cell]; rfl
    have hf1 : w5.frozen? ⟨g, 1, none⟩ = false := hb.free 1
    have hj : ((i + 1 : Nat) : Int) = (i : Int) + 1 := by omega
    have hh := set_i (j := i + 1) hb hs
    rw [hj] at hh
    have HH := Lib.hid hh
    have HJ := Lib.hid hj
    clear hj hh
    have HG := Lib.hid hg
    clear hb hs hg
    go_wp2
    go_ret
    refine ⟨_, rfl, (mask8 _).1, (mask8 _).2, ⟨_, n, c, l, i + 1, h2, ?_, hlt, hn, HH.out.2.1⟩, grown_trans HG.out HH.out.2.2⟩
    rw [HJ.out]
    exact HH.out.1
  · have hd : decide ((i : Int) < (n : Int)) = false := by simp; omega
    go_wp2
    go_quiet (fail)
    go_wp2
    go_ret
    exact ⟨X, rfl, hX0, hX1, ⟨A, n, c, l, i, h2, HB.out, hi, hn, HS.out⟩, grown_drewN HG.out _⟩

set_option maxHeartbeats 1000000 in
theorem l1Below_any (g : Nat) (k : Int) (w : World) (hc : Cur w g) (h0 : 0 < k) (h1 : k ≤ 100000) : Calls Tryd.prog 82 #[.pointer (some ⟨g, 0, none⟩), .int .i64 k] w (Num w g 0 k) := by
  have HC := Lib.hid hc
  clear hc
  by_cases hk : k ≤ 256
  · go_enter Tryd.func82, Tryd.ntmps82
    go_wp2_with fail
    refine (l1Byte_any g w HC.out).mono ?_
    rintro e w1 ⟨x, rfl, hx0, hx1, hc1, hg1⟩
    have HC1 := Lib.hid hc1
    have HG1 := Lib.hid hg1
    clear hc1 hg1
    go_wp2
    go_ret
    exact ⟨x % k, rfl, Int.emod_nonneg _ (by omega), Int.emod_lt_of_pos _ h0, HC1.out, HG1.out⟩
  · go_enter Tryd.func82, Tryd.ntmps82
    go_wp2_with fail
    refine (l1Byte_any g w HC.out).mono ?_
    rintro e w1 ⟨x, rfl, hx0, hx1, hc1, hg1⟩
    have HC1 := Lib.hid hc1
    have HG1 := Lib.hid hg1
    clear hc1 hg1
    go_wp2_with fail
    refine (l1Byte_any g w1 HC1.out).mono ?_
    rintro e w2 ⟨y, rfl, hy0, hy1, hc2, hg2⟩
    have HC2 := Lib.hid hc2
    have HG2 := Lib.hid (grown_trans HG1.out hg2)
    clear hc2 hg2 HC1 HG1
    go_wp2_with fail
    refine (l1Byte_any g w2 HC2.out).mono ?_
    rintro e w3 ⟨z, rfl, hz0, hz1, hc3, hg3⟩
    have HC3 := Lib.hid hc3
    have HG3 := Lib.hid (grown_trans HG2.out hg3)
    clear hc3 hg3 HC2 HG2
    go_wp2
    go_ret
    exact ⟨(x * 65536 + y * 256 + z) % k, rfl, Int.emod_nonneg _ (by omega), Int.emod_lt_of_pos _ h0, HC3.out, HG3.out⟩

theorem Cur.lt {w : World} {g : Nat} (h : Cur w g) : g < w.heap.size := by
  obtain ⟨_, _, _, _, _, _, hb, _⟩ := h
  exact hb.lt
/-- The cursor stays where it is while blocks above it are written or made. -/
theorem Cur.grown {w w' : World} {g : Nat} {row : Option Nat} (h : Cur w g) (hg : w.grownBy w' row) (hr : ∀ k, row = some k → g < k) : Cur w' g := by
  obtain ⟨A, n, c, l, i, x, hb, hi, hn, hs⟩ := h
  have hlt := hb.lt
  exact ⟨A, n, c, l, i, x, hb.grown hg (fun e => by have := hr g e.symm; omega), hi, hn, hs.move fun p hp => World.cell?_of_block (hg.block p.block (by omega) (fun e => by have := hr _ e.symm; omega))⟩
theorem Cur.alloc {w : World} {g : Nat} (h : Cur w g) (o : Obj) : Cur (w.alloc o) g := h.grown (World.grownBy_alloc w o none) (fun k hk => by cases hk)

def Boo (w : World) (g : Nat) (e : Ending) (w' : World) : Prop := ∃ b : Bool, e = .returned (.bool b) ∧ Cur w' g ∧ w.grownBy w' (some g)
def Val (w : World) (g : Nat) (P : Int → Prop) (e : Ending) (w' : World) : Prop := ∃ x : Int, e = .returned (.int .i64 x) ∧ P x ∧ Cur w' g ∧ w.grownBy w' (some g)
/-- Within what an int holds. -/
def Fits (x : Int) : Prop := (Lit.int .i64 x).wf = true
theorem fits_small (x : Int) (h0 : 0 ≤ x) (h1 : x < 4000000000) : Fits x := by
  have e1 : IntKind.i64.min = -9223372036854775808 := by decide
  have e2 : IntKind.i64.max = 9223372036854775807 := by decide
  simp [Fits, Lit.wf]
  omega

set_option maxHeartbeats 1000000 in
theorem l1Once_any (g : Nat) (k : Int) (w : World) (hc : Cur w g) (h0 : 0 < k) (h1 : k ≤ 100000) : Calls Tryd.prog 41 #[.pointer (some ⟨g, 0, none⟩), .int .i64 k] w (Boo w g) := by
  have HC := Lib.hid hc
  clear hc
  go_enter Tryd.func41, Tryd.ntmps41
  go_wp2_with fail
  refine (l1Below_any g k w HC.out h0 h1).mono ?_
  rintro e w1 ⟨x, rfl, hx0, hx1, hc1, hg1⟩
  have HC1 := Lib.hid hc1
  have HG1 := Lib.hid hg1
  clear hc1 hg1
  go_wp2
  go_ret
  exact ⟨_, rfl, HC1.out, HG1.out⟩

set_option maxHeartbeats 1000000 in
theorem l1Int_any (g gl m : Nat) (xs : List Int) (w : World) (hc : Cur w g) (hl : Bk w gl 3 (xs.map (Value.int .i64))) (hne : gl ≠ g) (hm : xs.length = m) (h0 : 0 < m) (h1 : m ≤ 100) :
    Calls Tryd.prog 81 #[.pointer (some ⟨g, 0, none⟩), .slice (some ⟨gl, 0, none⟩) m m] w (Val w g (· ∈ xs)) := by
  have HC := Lib.hid hc
  have HL := Lib.hid hl
  have HM := Lib.hid hm
  have HN := Lib.hid hne
  clear hc hl hm hne
  go_enter Tryd.func81, Tryd.ntmps81
  go_wp2_with fail
  refine (l1Below_any g m w HC.out (by omega) (by omega)).mono ?_
  rintro e w1 ⟨x, rfl, hx0, hx1, hc1, hg1⟩
  obtain ⟨j, rfl⟩ := Int.eq_ofNat_of_zero_le hx0
  have hj : j < xs.length := by rw [HM.out]; omega
  have hcell : w1.cell? ⟨gl, j, none⟩ = some (.int .i64 xs[j]) := by
    rw [(HL.out.grown hg1 (fun e => HN.out (Option.some.inj e))).cell, List.getElem?_map, List.getElem?_eq_getElem hj]
    rfl
  have HC1 := Lib.hid hc1
  have HG1 := Lib.hid hg1
  clear hc1 hg1
  go_wp2
  go_ret
  exact ⟨xs[j], rfl, List.getElem_mem hj, HC1.out, HG1.out⟩

/-- A literal list of ints is a new block. -/
theorem bk_ints (w : World) (xs : List Int) (cs : Array Value) (h : cs.toList = xs.map (Value.int .i64)) : Bk (w.alloc (.cells cs 3)) w.heap.size 3 (xs.map (Value.int .i64)) := by
  unfold Bk
  rw [heap_alloc_new, ← h]

theorem all_fit (l : List Int) (h : (l.all fun x => (Lit.int .i64 x).wf) = true) : ∀ x ∈ l, Fits x := fun x hx => List.all_eq_true.1 h x hx

set_option maxHeartbeats 1000000 in
set_option maxRecDepth 100000 in
/-- A new cursor, at the head of a new block. -/
theorem l1New_any (A : Option Addr) (n c : Nat) (l : List UInt8) (w : World) (hs : Sl w w.heap.size A n l) (hn : n ≤ 1048576) :
    Calls Tryd.prog 39 #[.slice A n c] w fun e w' => e = .returned (.pointer (some ⟨w.heap.size, 0, none⟩)) ∧ Cur w' w.heap.size ∧ w.grownBy w' none := by
  have HS := Lib.hid hs
  clear hs
  go_enter Tryd.func39, Tryd.ntmps39
  go_wp2
  go_loop [3, 4] (fun hh i => ∃ (k : Nat) (h : Int), k ≤ n ∧ i = .int .i64 k ∧ hh = .int .i64 h ∧ 0 ≤ h ∧ h < 2000000000) (fun _ i => n - (intOf i).toNat)
  case atStart => exact ⟨0, 160909 + (n : Int), Nat.zero_le _, rfl, rfl, by omega, by omega⟩
  case round =>
    obtain ⟨k, h, hk, rfl, rfl, h0, h1⟩ := hrel
    by_cases hlt : k < n
    · by_cases h4 : k < 4000
      · obtain ⟨b, off, rfl, hbB, hcs⟩ := HS.out.2 (by omega)
        have hkl : k < l.length := by rw [HS.out.1]; exact hlt
        have hx : w.cell? ⟨b, off + k, none⟩ = some (.int .u8 (l[k].toNat : Int)) := hcs k hkl
        have hby := l[k].toNat_lt
        clear hcs
        go_wp2
        go_round
        case rel => exact ⟨k + 1, _, by omega, by go_num, rfl, (mask30 _).1, by have := (mask30 (h * 137 + (l[k].toNat : Int) + 11)).2; omega⟩
        case measure => simp [intOf]; omega
      · go_wp2
        go_ret
        refine ⟨rfl, ⟨A, n, c, l, 0, h, ?_, Nat.zero_le _, hn, ?_⟩, World.grownBy_alloc _ _ _⟩
        · exact heap_alloc_new w _
        · exact HS.out.below ((Below.refl _ _).alloc (Nat.le_refl _) _)
    · go_wp2
      go_ret
      refine ⟨rfl, ⟨A, n, c, l, 0, h, ?_, Nat.zero_le _, hn, ?_⟩, World.grownBy_alloc _ _ _⟩
      · exact heap_alloc_new w _
      · exact HS.out.below ((Below.refl _ _).alloc (Nat.le_refl _) _)
end Go.Proofs.YtbjhkhmhmldjoaaDoor.Draw

/- What the model's draw of a text out of a list does: it returns a text of the list, and writes nothing but its own cursor. -/
namespace Go.Proofs.YtbjhkhmhmldjoaaDoor.DrawS
open Go.RowKit Go.Proofs.YtbjhkhmhmldjoaaDoor.Mem Go.Proofs.YtbjhkhmhmldjoaaDoor.Draw

/-- A text with a property, the cursor moved, nothing else turned. -/
def Txt (w : World) (g : Nat) (P : ByteArray → Prop) (e : Ending) (w' : World) : Prop := ∃ x : ByteArray, e = .returned (.string x) ∧ P x ∧ Cur w' g ∧ w.grownBy w' (some g)
theorem Txt.weaken {w : World} {g : Nat} {P Q : ByteArray → Prop} {e : Ending} {w' : World} (h : Txt w g P e w') (k : ∀ x, P x → Q x) : Txt w g Q e w' := by
  obtain ⟨x, he, hx, hc, hg⟩ := h
  exact ⟨x, he, k x hx, hc, hg⟩

/-- A literal list of texts is a new block. -/
theorem bk_texts (w : World) (xs : List ByteArray) (cs : Array Value) (h : cs.toList = xs.map Value.string) : Bk (w.alloc (.cells cs 9)) w.heap.size 9 (xs.map Value.string) := by
  unfold Bk
  rw [heap_alloc_new, ← h]

set_option maxHeartbeats 1000000 in
theorem l1Str_any (g gl m : Nat) (xs : List ByteArray) (w : World) (hc : Cur w g) (hl : Bk w gl 9 (xs.map Value.string)) (hne : gl ≠ g) (hm : xs.length = m) (h0 : 0 < m) (h1 : m ≤ 100) :
    Calls Tryd.prog 83 #[.pointer (some ⟨g, 0, none⟩), .slice (some ⟨gl, 0, none⟩) m m] w (Txt w g (· ∈ xs)) := by
  have HC := Lib.hid hc
  have HL := Lib.hid hl
  have HM := Lib.hid hm
  have HN := Lib.hid hne
  clear hc hl hm hne
  go_enter Tryd.func83, Tryd.ntmps83
  go_wp2_with fail
  refine (l1Below_any g m w HC.out (by omega) (by omega)).mono ?_
  rintro e w1 ⟨x, rfl, hx0, hx1, hc1, hg1⟩
  obtain ⟨j, rfl⟩ := Int.eq_ofNat_of_zero_le hx0
  have hj : j < xs.length := by rw [HM.out]; omega
  have hcell : w1.cell? ⟨gl, j, none⟩ = some (.string xs[j]) := by
    rw [(HL.out.grown hg1 (fun e => HN.out (Option.some.inj e))).cell, List.getElem?_map, List.getElem?_eq_getElem hj]
    rfl
  have HC1 := Lib.hid hc1
  have HG1 := Lib.hid hg1
  clear hc1 hg1
  go_wp2
  go_ret
  exact ⟨xs[j], rfl, List.getElem_mem hj, HC1.out, HG1.out⟩
end Go.Proofs.YtbjhkhmhmldjoaaDoor.DrawS

/- What the model's draws of labels do: texts of at most 20 bytes; nothing that was there is turned but the cursor. -/
namespace Go.Proofs.YtbjhkhmhmldjoaaDoor.DrawL
open Go.RowKit Go.Proofs.YtbjhkhmhmldjoaaDoor.Mem Go.Proofs.YtbjhkhmhmldjoaaDoor.Draw Go.Proofs.YtbjhkhmhmldjoaaDoor.DrawS

/-- A short text. -/
def Short (x : ByteArray) : Prop := x.size ≤ 20
theorem all_short (l : List ByteArray) (h : (l.all fun x => decide (x.size ≤ 20)) = true) : ∀ x ∈ l, Short x := fun x hx => of_decide_eq_true (p := x.size ≤ 20) (List.all_eq_true.1 h x hx)
def labels : List ByteArray := [⟨#[97]⟩, ⟨#[98]⟩, ⟨#[99]⟩, ⟨#[119, 119, 119]⟩, ⟨#[110, 115]⟩, ⟨#[110, 115, 49]⟩, ⟨#[99, 111, 109]⟩, ⟨#[111, 114, 103]⟩, ⟨#[101, 120]⟩, ⟨#[116, 119, 101, 108, 118, 101, 98, 121, 116, 101, 115, 48]⟩, ⟨#[120, 45, 121]⟩, ⟨#[95, 116]⟩]
theorem labels_short : ∀ x ∈ labels, Short x := all_short _ (by decide)
def odds : List ByteArray := [⟨#[]⟩, ⟨#[65]⟩, ⟨#[87, 119, 119]⟩, ⟨#[116, 104, 105, 114, 116, 101, 101, 110, 98, 121, 116, 101, 115]⟩, ⟨#[97, 32, 98]⟩, ⟨#[97, 46, 98]⟩, ⟨#[0]⟩, ⟨#[123]⟩, ⟨#[64]⟩]
theorem odds_short : ∀ x ∈ odds, Short x := all_short _ (by decide)

end Go.Proofs.YtbjhkhmhmldjoaaDoor.DrawL

/- What the model's draws of names do: texts of at most 20 bytes; nothing that was there is turned but the cursor. -/
namespace Go.Proofs.YtbjhkhmhmldjoaaDoor.DrawN
open Go.RowKit Go.Proofs.YtbjhkhmhmldjoaaDoor.Mem Go.Proofs.YtbjhkhmhmldjoaaDoor.MemS Go.Proofs.YtbjhkhmhmldjoaaDoor.Draw Go.Proofs.YtbjhkhmhmldjoaaDoor.DrawS Go.Proofs.YtbjhkhmhmldjoaaDoor.DrawL Go.Proofs.YtbjhkhmhmldjoaaDoor.JoinSpec Go.Proofs.YtbjhkhmhmldjoaaDoor.Split Go.Proofs.YtbjhkhmhmldjoaaDoor.JoinLab Go.Proofs.YtbjhkhmhmldjoaaDoor.Up

theorem below_of_grown {w w' : World} (h : w.grownBy w' none) : Below w.heap.size w w' := ⟨h.os, h.tape, h.output, h.size, fun k hk => h.block k hk (fun e => by cases e)⟩
theorem below_more {w w1 w2 : World} {g : Nat} (h : Below w.heap.size w w1) (k : w1.grownBy w2 (some g)) (hg : w.heap.size ≤ g) : Below w.heap.size w w2 := h.grown k h.size (fun j hj => by cases hj; exact hg)
theorem jo_tail (L : List ByteArray) : (jo (L.drop 1)).length ≤ (jo L).length := by
  match L with
  | [] => simp
  | [x] => simp [jo, Lib.join_nil]
  | x :: y :: r =>
    have e : jo (x :: y :: r) = x.data.toList ++ 46 :: jo (y :: r) := by
      rw [jo, List.map_cons, join_more _ _ (by simp)]
      rfl
    rw [e, List.drop_succ_cons, List.drop_zero, List.length_append, List.length_cons]
    omega
theorem ab_short {s : ByteArray} (h : Short s) : Short (Ab s) := by
  have h1 := jo_tail (Lab s)
  have e : (jo (Lab s)).length = s.size := by rw [← Jo_size, jo_lab]
  have h2 : s.size ≤ 20 := h
  show (Jo _).size ≤ 20
  rw [Jo_size]
  omega

def names : List ByteArray := [⟨#[]⟩, ⟨#[99, 111, 109]⟩, ⟨#[101, 120, 46, 99, 111, 109]⟩, ⟨#[119, 119, 119, 46, 101, 120, 46, 99, 111, 109]⟩, ⟨#[110, 115, 46, 101, 120, 46, 99, 111, 109]⟩, ⟨#[111, 114, 103]⟩, ⟨#[97, 46, 111, 114, 103]⟩, ⟨#[98, 46, 97, 46, 111, 114, 103]⟩, ⟨#[110, 115, 49, 46, 111, 114, 103]⟩, ⟨#[120, 46, 121, 46, 122, 46, 101, 120, 46, 99, 111, 109]⟩]
theorem names_short : ∀ x ∈ names, Short x := all_short _ (by decide)

set_option maxHeartbeats 1000000 in
theorem l3Name_any (g : Nat) (w : World) (hc : Cur w g) : Calls Tryd.prog 79 #[.pointer (some ⟨g, 0, none⟩)] w (Txt w g Short) := by
  have HC := Lib.hid hc
  clear hc
  go_enter Tryd.func79, Tryd.ntmps79
  go_wp2_with fail
  refine (l1Str_any g w.heap.size 10 names _ (HC.out.alloc _) (bk_texts w names _ rfl) (Nat.ne_of_gt HC.out.lt) rfl (by omega) (by omega)).mono ?_
  rintro e w1 ⟨x, rfl, hx, hc1, hg1⟩
  have HX := Lib.hid (names_short x hx)
  have HC1 := Lib.hid hc1
  have HG1 := Lib.hid (grown_trans (World.grownBy_alloc w _ (some g)) hg1)
  clear hc1 hg1 hx
  go_wp2
  go_ret
  exact ⟨x, rfl, HX.out, HC1.out, HG1.out⟩

/-- A text of at most 60 bytes. -/
def Mid (x : ByteArray) : Prop := x.size ≤ 60
theorem all_mid (l : List ByteArray) (h : (l.all fun x => decide (x.size ≤ 60)) = true) : ∀ x ∈ l, Mid x := fun x hx => of_decide_eq_true (p := x.size ≤ 60) (List.all_eq_true.1 h x hx)
def oddNames : List ByteArray := [⟨#[46]⟩, ⟨#[97, 46]⟩, ⟨#[65, 46, 99, 111, 109]⟩, ⟨#[97, 46, 46, 98]⟩, ⟨#[97, 46, 98, 46, 99, 46, 100, 46, 101, 46, 102]⟩, ⟨#[97, 46, 98, 46, 99, 46, 100, 46, 101, 46, 102, 46, 103]⟩, ⟨#[116, 119, 101, 108, 118, 101, 98, 121, 116, 101, 115, 48, 46, 116, 119, 101, 108, 118, 101, 98, 121, 116, 101, 115, 48, 46, 116, 119, 101, 108, 118, 101, 98, 121, 116, 101, 115, 48, 46, 116, 119, 101, 108, 118, 101, 98, 121, 116, 101, 115, 48]⟩, ⟨#[116, 104, 105, 114, 116, 101, 101, 110, 98, 121, 116, 101, 115, 46, 97]⟩]
theorem oddNames_mid : ∀ x ∈ oddNames, Mid x := all_mid _ (by decide)

set_option maxHeartbeats 1000000 in
theorem l3Any_any (g : Nat) (w : World) (hc : Cur w g) : Calls Tryd.prog 84 #[.pointer (some ⟨g, 0, none⟩)] w (Txt w g Mid) := by
  have HC := Lib.hid hc
  clear hc
  go_enter Tryd.func84, Tryd.ntmps84
  go_wp2_with fail
  refine (l1Once_any g 5 w HC.out (by omega) (by omega)).mono ?_
  rintro e w1 ⟨b, rfl, hc1, hg1⟩
  have C1 := Lib.hid hc1
  have G1 := Lib.hid hg1
  clear hc1 hg1 HC
  cases b
  · go_wp2_with fail
    refine (l3Name_any g w1 C1.out).mono ?_
    rintro e w2 ⟨x, rfl, hx, hc2, hg2⟩
    have HX : Hid (Mid x) := by have h : x.size ≤ 20 := hx; show x.size ≤ 60; omega
    have C2 := Lib.hid hc2
    have G2 := Lib.hid (grown_trans G1.out hg2)
    clear hc2 hg2 hx
    go_wp2
    go_ret
    exact ⟨x, rfl, HX.out, C2.out, G2.out⟩
  · go_wp2_with fail
    refine (l1Str_any g w1.heap.size 8 oddNames _ (C1.out.alloc _) (bk_texts w1 oddNames _ rfl) (Nat.ne_of_gt C1.out.lt) rfl (by omega) (by omega)).mono ?_
    rintro e w2 ⟨x, rfl, hx, hc2, hg2⟩
    have HX := Lib.hid (oddNames_mid x hx)
    have C2 := Lib.hid hc2
    have G2 := Lib.hid (grown_trans (grown_trans G1.out (World.grownBy_alloc w1 _ (some g))) hg2)
    clear hc2 hg2 hx
    go_wp2
    go_ret
    exact ⟨x, rfl, HX.out, C2.out, G2.out⟩

/-- Two short texts; nothing that was there is turned. -/
def Two (w : World) (e : Ending) (w' : World) : Prop := ∃ x y : ByteArray, e = .returned (.tuple #[.string x, .string y]) ∧ Short x ∧ Short y ∧ Below w.heap.size w w'

end Go.Proofs.YtbjhkhmhmldjoaaDoor.DrawN

/- A record that a call gives back lies in a box of its own, made first and filled at the return: what the box reads as, and what the result is. -/
namespace Go.Proofs.YtbjhkhmhmldjoaaDoor.ResR
open Go.RowKit Go.Proofs.YtbjhkhmhmldjoaaDoor.Mem Go.Proofs.YtbjhkhmhmldjoaaDoor.MemR Go.Proofs.YtbjhkhmhmldjoaaDoor.BoxR

/-- The box g filled with the record r. -/
def fil (w : World) (g : Nat) (r : Rec) : World :=
  (((((w.setCell ⟨g, 0, none⟩ (.string r.name)).setCell ⟨g, 1, none⟩ (.int .i64 r.ty)).setCell ⟨g, 2, none⟩ (.int .i64 r.ttl)).setCell ⟨g, 3, none⟩ (.int .i64 r.n)).setCell ⟨g, 4, none⟩ (.string r.host)).setCell ⟨g, 5, none⟩ (.string r.text)
section
variable {w w1 : World} {g B : Nat} {t : TypeId} {r r0 : Rec}
theorem fil_bk (h : Bk w g t (rc r0)) (r : Rec) : Bk (fil w g r) g t (rc r) :=
  (((((h.set 0 (.string r.name)).set 1 (.int .i64 r.ty)).set 2 (.int .i64 r.ttl)).set 3 (.int .i64 r.n)).set 4 (.string r.host)).set 5 (.string r.text)
theorem fil_below (h : Below B w w1) (hg : B ≤ g) (r : Rec) : Below B w (fil w1 g r) :=
  (((((h.setCell (p := ⟨g, 0, none⟩) hg (.string r.name)).setCell (p := ⟨g, 1, none⟩) hg (.int .i64 r.ty)).setCell (p := ⟨g, 2, none⟩) hg (.int .i64 r.ttl)).setCell (p := ⟨g, 3, none⟩) hg (.int .i64 r.n)).setCell (p := ⟨g, 4, none⟩) hg (.string r.host)).setCell (p := ⟨g, 5, none⟩) hg (.string r.text)
theorem fil_other {k : Nat} {cs : List Value} (h : Bk w k t cs) (hk : k ≠ g) (r : Rec) : Bk (fil w g r) k t cs :=
  (((((h.other (p := ⟨g, 0, none⟩) hk (.string r.name)).other (p := ⟨g, 1, none⟩) hk (.int .i64 r.ty)).other (p := ⟨g, 2, none⟩) hk (.int .i64 r.ttl)).other (p := ⟨g, 3, none⟩) hk (.int .i64 r.n)).other (p := ⟨g, 4, none⟩) hk (.string r.host)).other (p := ⟨g, 5, none⟩) hk (.string r.text)
theorem fil_size : (fil w g r).heap.size = w.heap.size := by simp [fil, World.setCell]
end
theorem results_cell {fn : Func} {p : Tmp} {ty : TypeId} (h : fn.results = #[.cell p ty]) (tmps : Array Value) (P : Program) (w : World) :
    (results fn tmps).run P w = ((asAddr (tmps.getD p undef)).run P w).andThen fun a w₁ => (loadVar ty a).run P w₁ := by
  simp only [results, h]
  simp [Sem.run_bind, Result.andThen]
theorem results_cell_tmp2 {fn : Func} {p u v : Tmp} {ty : TypeId} (h : fn.results = #[.cell p ty, .tmp u, .tmp v]) (tmps : Array Value) (P : Program) (w : World) :
    (results fn tmps).run P w = ((asAddr (tmps.getD p undef)).run P w).andThen fun a w₁ => ((loadVar ty a).run P w₁).andThen fun x w₂ => .ok (.tuple #[x, tmps.getD u undef, tmps.getD v undef]) w₂ := by
  simp only [results, h]
  simp [Sem.run_bind, Result.andThen]
theorem load_rec {w : World} {g : Nat} {t : TypeId} {r : Rec} (h : Bk w g t (rc r)) : (loadVar 25 ⟨g, 0, none⟩).run Tryd.prog w = .ok (.agg #[.string r.name, .int .i64 r.ty, .int .i64 r.ttl, .int .i64 r.n, .string r.host, .string r.text]) w := by
  obtain ⟨c0, c1, c2, c3, c4, c5⟩ := bx_of h
  simp [go_sem, c0, c1, c2, c3, c4, c5]
theorem as_addr (a : Addr) (P : Program) (w : World) : (asAddr (.pointer (some a))).run P w = .ok a w := rfl
theorem res1 {fn : Func} {p : Tmp} {w : World} {g : Nat} {t : TypeId} {r : Rec} {tmps : Array Value} (hf : fn.results = #[.cell p 25]) (h : Bk w g t (rc r)) (h4 : tmps.getD p undef = .pointer (some ⟨g, 0, none⟩)) :
    (results fn tmps).run Tryd.prog w = .ok (.agg #[.string r.name, .int .i64 r.ty, .int .i64 r.ttl, .int .i64 r.n, .string r.host, .string r.text]) w := by
  rw [results_cell hf, h4, as_addr]
  simp only [Result.andThen, load_rec h]
theorem res2 {fn : Func} {p u : Tmp} {w : World} {g : Nat} {t : TypeId} {r : Rec} {x : Value} {tmps : Array Value} (hf : fn.results = #[.cell p 25, .tmp u]) (h : Bk w g t (rc r)) (h4 : tmps.getD p undef = .pointer (some ⟨g, 0, none⟩)) (h5 : tmps.getD u undef = x) :
    (results fn tmps).run Tryd.prog w = .ok (.tuple #[.agg #[.string r.name, .int .i64 r.ty, .int .i64 r.ttl, .int .i64 r.n, .string r.host, .string r.text], x]) w := by
  rw [results_cell_tmp hf, h4, h5, as_addr]
  simp only [Result.andThen, load_rec h]
theorem res3 {fn : Func} {p u v : Tmp} {w : World} {g : Nat} {t : TypeId} {r : Rec} {x y : Value} {tmps : Array Value} (hf : fn.results = #[.cell p 25, .tmp u, .tmp v]) (h : Bk w g t (rc r)) (h4 : tmps.getD p undef = .pointer (some ⟨g, 0, none⟩)) (h5 : tmps.getD u undef = x) (h6 : tmps.getD v undef = y) :
    (results fn tmps).run Tryd.prog w = .ok (.tuple #[.agg #[.string r.name, .int .i64 r.ty, .int .i64 r.ttl, .int .i64 r.n, .string r.host, .string r.text], x, y]) w := by
  rw [results_cell_tmp2 hf, h4, h5, h6, as_addr]
  simp only [Result.andThen, load_rec h]
end Go.Proofs.YtbjhkhmhmldjoaaDoor.ResR

/- What the model's draws of records do: records whose texts have at most 60 bytes; nothing that was there is turned but the cursor. -/
namespace Go.Proofs.YtbjhkhmhmldjoaaDoor.DrawR
open Go.RowKit Go.Proofs.YtbjhkhmhmldjoaaDoor.Mem Go.Proofs.YtbjhkhmhmldjoaaDoor.MemS Go.Proofs.YtbjhkhmhmldjoaaDoor.MemR Go.Proofs.YtbjhkhmhmldjoaaDoor.BoxR Go.Proofs.YtbjhkhmhmldjoaaDoor.Draw Go.Proofs.YtbjhkhmhmldjoaaDoor.DrawS Go.Proofs.YtbjhkhmhmldjoaaDoor.DrawL Go.Proofs.YtbjhkhmhmldjoaaDoor.DrawN Go.Proofs.YtbjhkhmhmldjoaaDoor.AppR Go.Proofs.YtbjhkhmhmldjoaaDoor.ResR

/-- A record of short texts. -/
def Sml (r : Rec) : Prop := r.name.size ≤ 60 ∧ r.host.size ≤ 60 ∧ r.text.size ≤ 60
def Rcd (w : World) (g : Nat) (e : Ending) (w' : World) : Prop := ∃ r : Rec, e = .returned (.agg #[.string r.name, .int .i64 r.ty, .int .i64 r.ttl, .int .i64 r.n, .string r.host, .string r.text]) ∧ Sml r ∧ Cur w' g ∧ w.grownBy w' (some g)
theorem grown_new {w wr : World} {g gr : Nat} (h : w.grownBy wr (some g)) (hr : w.heap.size ≤ gr) (j : Nat) (u : Value) : w.grownBy (wr.setCell ⟨gr, j, none⟩ u) (some g) :=
  ⟨h.os, h.tape, h.output, by simpa [World.setCell] using h.size, fun k hk hne => by
    rw [Below.heap_setCell _ _ _ _ (fun e => by have : gr = k := by simpa using e.symm
                                                omega)]; exact h.block k hk hne⟩
theorem cur_new {w : World} {g gr : Nat} (h : Cur w g) (hr : g < gr) (j : Nat) (u : Value) : Cur (w.setCell ⟨gr, j, none⟩ u) g :=
  h.grown (grown_set (grown_refl _ _) j u) (fun k hk => by cases hk; exact hr)

def types : List Int := [1, 1, 1, 2, 2, 5, 6, 16]
def ttls : List Int := [0, 1, 5, 60, 300, 100000]

set_option maxHeartbeats 1000000 in
theorem l5Type_any (g : Nat) (w : World) (hc : Cur w g) : Calls Tryd.prog 80 #[.pointer (some ⟨g, 0, none⟩)] w (Val w g (· ∈ types)) := by
  have HC := Lib.hid hc
  clear hc
  go_enter Tryd.func80, Tryd.ntmps80
  go_wp2_with fail
  refine (l1Int_any g w.heap.size 8 types _ (HC.out.alloc _) (bk_ints w types _ rfl) (Nat.ne_of_gt HC.out.lt) rfl (by omega) (by omega)).mono ?_
  rintro e w1 ⟨x, rfl, hx, hc1, hg1⟩
  have HX := Lib.hid hx
  have HC1 := Lib.hid hc1
  have HG1 := Lib.hid (grown_trans (World.grownBy_alloc w _ (some g)) hg1)
  clear hc1 hg1 hx
  go_wp2
  go_ret
  exact ⟨x, rfl, HX.out, HC1.out, HG1.out⟩

theorem types_or {t : Int} (h : t ∈ types) : t = 1 ∨ t = 2 ∨ t = 5 ∨ t = 6 ∨ t = 16 := by
  simp [types] at h
  omega

/-- The cursor, a box of the call's own that holds r, and nothing else turned. -/
def Bo (w : World) (g gr : Nat) (r : Rec) (v : World) : Prop := g < gr ∧ w.heap.size ≤ gr ∧ Cur v g ∧ w.grownBy v (some g) ∧ Bk v gr 25 (rc r)
theorem Bo.start {w v : World} {g : Nat} (h : Cur v g) (k : w.grownBy v (some g)) (r : Rec) : Bo w g v.heap.size r (v.alloc (.cells #[.string r.name, .int .i64 r.ty, .int .i64 r.ttl, .int .i64 r.n, .string r.host, .string r.text] 25)) :=
  ⟨h.lt, k.size, h.alloc _, grown_trans k (World.grownBy_alloc v _ _), heap_alloc_new v _⟩
theorem Bo.step {w v v' : World} {g gr : Nat} {r : Rec} (h : Bo w g gr r v) (hc : Cur v' g) (hg : v.grownBy v' (some g)) : Bo w g gr r v' :=
  ⟨h.1, h.2.1, hc, grown_trans h.2.2.2.1 hg, h.2.2.2.2.grown hg (fun e => by have := h.1; have := Option.some.inj e; omega)⟩
theorem Bo.alloc {w v : World} {g gr : Nat} {r : Rec} (h : Bo w g gr r v) (o : Obj) : Bo w g gr r (v.alloc o) := h.step (h.2.2.1.alloc o) (World.grownBy_alloc v o _)
theorem Bo.set {w v : World} {g gr : Nat} {r : Rec} (h : Bo w g gr r v) (j : Nat) (u : Value) (r' : Rec) (e : (rc r).set j u = rc r') : Bo w g gr r' (v.setCell ⟨gr, j, none⟩ u) :=
  ⟨h.1, h.2.1, cur_new h.2.2.1 h.1 j u, grown_new h.2.2.2.1 h.2.1 j u, by rw [← e]; exact h.2.2.2.2.set j u⟩
theorem Bo.bx {w v : World} {g gr : Nat} {r : Rec} (h : Bo w g gr r v) : Bx v gr r := bx_of h.2.2.2.2

def serials : List Int := [0, 5, 60]
def texts : List ByteArray := [⟨#[]⟩, ⟨#[104, 105]⟩, ⟨#[116, 119, 101, 108, 118, 101, 98, 121, 116, 101, 115, 33]⟩]
theorem texts_short : ∀ x ∈ texts, Short x := all_short _ (by decide)
theorem short_mid {x : ByteArray} (h : Short x) : x.size ≤ 60 := Nat.le_trans h (by decide)

/-- As Bo, with the box of the result besides, made first and still empty. -/
def Bp (w : World) (g gr : Nat) (r : Rec) (v : World) : Prop := Bo w g gr r v ∧ w.heap.size < gr ∧ g < w.heap.size ∧ Bk v w.heap.size 25 (rc zr)
section
variable {w v v' : World} {g gr : Nat} {r : Rec}
theorem Bp.step (h : Bp w g gr r v) (hc : Cur v' g) (hg : v.grownBy v' (some g)) : Bp w g gr r v' :=
  ⟨h.1.step hc hg, h.2.1, h.2.2.1, h.2.2.2.grown hg (fun e => by have := h.2.2.1; have := Option.some.inj e; omega)⟩
theorem Bp.alloc (h : Bp w g gr r v) (o : Obj) : Bp w g gr r (v.alloc o) := ⟨h.1.alloc o, h.2.1, h.2.2.1, h.2.2.2.alloc o⟩
theorem Bp.set (h : Bp w g gr r v) (j : Nat) (u : Value) (r' : Rec) (e : (rc r).set j u = rc r') : Bp w g gr r' (v.setCell ⟨gr, j, none⟩ u) :=
  ⟨h.1.set j u r' e, h.2.1, h.2.2.1, h.2.2.2.other (p := ⟨gr, j, none⟩) (by have := h.2.1; show w.heap.size ≠ gr; omega) u⟩
theorem Bp.cur (h : Bp w g gr r v) : Cur v g := h.1.2.2.1
theorem Bp.start (hc : Cur v g) (k : w.grownBy v (some g)) (hg : g < w.heap.size) (hz : Bk v w.heap.size 25 (rc zr)) (r : Rec) : Bp w g v.heap.size r (v.alloc (.cells #[.string r.name, .int .i64 r.ty, .int .i64 r.ttl, .int .i64 r.n, .string r.host, .string r.text] 25)) :=
  ⟨Bo.start hc k r, hz.lt, hg, hz.alloc _⟩
theorem cur_fil (h : Cur v g) (hg : g < gr) (r : Rec) : Cur (fil v gr r) g :=
  cur_new (cur_new (cur_new (cur_new (cur_new (cur_new h hg 0 (.string r.name)) hg 1 (.int .i64 r.ty)) hg 2 (.int .i64 r.ttl)) hg 3 (.int .i64 r.n)) hg 4 (.string r.host)) hg 5 (.string r.text)
theorem grown_fil (h : w.grownBy v (some g)) (hr : w.heap.size ≤ gr) (r : Rec) : w.grownBy (fil v gr r) (some g) :=
  grown_new (grown_new (grown_new (grown_new (grown_new (grown_new h hr 0 (.string r.name)) hr 1 (.int .i64 r.ty)) hr 2 (.int .i64 r.ttl)) hr 3 (.int .i64 r.n)) hr 4 (.string r.host)) hr 5 (.string r.text)
theorem rcd_of (h : Bp w g gr r v) (hs : Sml r) : Rcd w g (.returned (.agg #[.string r.name, .int .i64 r.ty, .int .i64 r.ttl, .int .i64 r.n, .string r.host, .string r.text])) (fil v w.heap.size r) :=
  ⟨r, rfl, hs, cur_fil h.cur h.2.2.1 r, grown_fil h.1.2.2.2.1 (Nat.le_refl _) r⟩
end
theorem zero_box (w : World) : Bk (w.alloc (.cells #[.string ⟨#[]⟩, .int .i64 0, .int .i64 0, .int .i64 0, .string ⟨#[]⟩, .string ⟨#[]⟩] 25)) w.heap.size 25 (rc zr) := heap_alloc_new w _

set_option maxHeartbeats 4000000 in
set_option maxRecDepth 100000 in
theorem l5Draw_any (g : Nat) (w : World) (hc : Cur w g) : Calls Tryd.prog 40 #[.pointer (some ⟨g, 0, none⟩)] w (Rcd w g) := by
  have HC := Lib.hid hc
  have GL := Lib.hid hc.lt
  have Z0 := Lib.hid (zero_box w)
  clear hc
  go_enter Tryd.func40, Tryd.ntmps40
  go_wp2_with fail
  refine (l3Name_any g _ (HC.out.alloc _)).mono ?_
  rintro e w1 ⟨x, rfl, hx, hc1, hg1⟩
  have HX := Lib.hid hx
  have C1 := Lib.hid hc1
  have Z1 := Lib.hid (Z0.out.grown hg1 (fun e => by have := GL.out; have := Option.some.inj e; omega))
  have G1 := Lib.hid (grown_trans (World.grownBy_alloc w _ (some g)) hg1)
  clear hx hc1 hg1 HC Z0
  go_wp2_with fail
  refine (l5Type_any g w1 C1.out).mono ?_
  rintro e w2 ⟨t, rfl, ht, hc2, hg2⟩
  have HT := Lib.hid (types_or ht)
  have C2 := Lib.hid hc2
  have Z2 := Lib.hid (Z1.out.grown hg2 (fun e => by have := GL.out; have := Option.some.inj e; omega))
  have G2 := Lib.hid (grown_trans G1.out hg2)
  clear ht hc2 hg2 C1 G1 Z1
  go_wp2_with fail
  refine (l1Int_any g w2.heap.size 6 ttls _ (C2.out.alloc _) (bk_ints w2 ttls _ rfl) (Nat.ne_of_gt C2.out.lt) rfl (by omega) (by omega)).mono ?_
  rintro e w3 ⟨z, rfl, hz, hc3, hg3⟩
  have C3 := Lib.hid hc3
  have Z3 := Lib.hid ((Z2.out.alloc _).grown hg3 (fun e => by have := GL.out; have := Option.some.inj e; omega))
  have G3 := Lib.hid (grown_trans (grown_trans G2.out (World.grownBy_alloc w2 _ (some g))) hg3)
  clear hz hc3 hg3 C2 G2 Z2
  have B3 := fun t => Lib.hid (Bp.start C3.out G3.out GL.out Z3.out ⟨x, t, z, 0, ⟨#[]⟩, ⟨#[]⟩⟩)
  clear C3 G3 Z3
  have hx60 : Hid (x.size ≤ 60) := short_mid HX.out
  rcases HT.out with rfl | rfl | rfl | rfl | rfl
  · have B4 := B3 1
    clear B3
    go_wp2_with fail
    refine (l1Below_any g 9 _ B4.out.cur (by omega) (by omega)).mono ?_
    rintro e w4 ⟨y, rfl, hy0, hy1, hc4, hg4⟩
    have B5 := Lib.hid (B4.out.step hc4 hg4)
    clear hc4 hg4 B4
    generalize w3.heap.size = gr at *
    have B6 := Lib.hid (B5.out.set 3 (.int .i64 (1 + y)) ⟨x, 1, z, 1 + y, ⟨#[]⟩, ⟨#[]⟩⟩ rfl)
    obtain ⟨c0, c1, c2, c3, c4, c5⟩ := B5.out.1.bx
    have fc3 := B5.out.1.2.2.2.2.free 3
    obtain ⟨d0, d1, d2, d3, d4, d5⟩ := B6.out.1.bx
    obtain ⟨z0, z1, z2, z3, z4, z5⟩ := bx_of B6.out.2.2.2
    have fz0 := B6.out.2.2.2.free 0
    have fz1 := B6.out.2.2.2.free 1
    have fz2 := B6.out.2.2.2.free 2
    have fz3 := B6.out.2.2.2.free 3
    have fz4 := B6.out.2.2.2.free 4
    have fz5 := B6.out.2.2.2.free 5
    go_wp2
    exact bodyPost_ret (v := .agg #[.string ((Rec.mk x 1 z (1 + y) ⟨#[]⟩ ⟨#[]⟩)).name, .int .i64 ((Rec.mk x 1 z (1 + y) ⟨#[]⟩ ⟨#[]⟩)).ty, .int .i64 ((Rec.mk x 1 z (1 + y) ⟨#[]⟩ ⟨#[]⟩)).ttl, .int .i64 ((Rec.mk x 1 z (1 + y) ⟨#[]⟩ ⟨#[]⟩)).n, .string ((Rec.mk x 1 z (1 + y) ⟨#[]⟩ ⟨#[]⟩)).host, .string ((Rec.mk x 1 z (1 + y) ⟨#[]⟩ ⟨#[]⟩)).text]) (res1 rfl (fil_bk B6.out.2.2.2 (Rec.mk x 1 z (1 + y) ⟨#[]⟩ ⟨#[]⟩)) rfl) rfl (rcd_of (r := Rec.mk x 1 z (1 + y) ⟨#[]⟩ ⟨#[]⟩) B6.out ⟨hx60.out, Nat.zero_le _, Nat.zero_le _⟩)
  · have B4 := B3 2
    clear B3
    go_wp2_with fail
    refine (l3Name_any g _ B4.out.cur).mono ?_
    rintro e w4 ⟨y, rfl, hy, hc4, hg4⟩
    have HY := Lib.hid hy
    have B5 := Lib.hid (B4.out.step hc4 hg4)
    clear hy hc4 hg4 B4
    generalize w3.heap.size = gr at *
    have B6 := Lib.hid (B5.out.set 4 (.string y) ⟨x, 2, z, 0, y, ⟨#[]⟩⟩ rfl)
    obtain ⟨c0, c1, c2, c3, c4, c5⟩ := B5.out.1.bx
    have fc4 := B5.out.1.2.2.2.2.free 4
    obtain ⟨d0, d1, d2, d3, d4, d5⟩ := B6.out.1.bx
    obtain ⟨z0, z1, z2, z3, z4, z5⟩ := bx_of B6.out.2.2.2
    have fz0 := B6.out.2.2.2.free 0
    have fz1 := B6.out.2.2.2.free 1
    have fz2 := B6.out.2.2.2.free 2
    have fz3 := B6.out.2.2.2.free 3
    have fz4 := B6.out.2.2.2.free 4
    have fz5 := B6.out.2.2.2.free 5
    go_wp2
    exact bodyPost_ret (v := .agg #[.string ((Rec.mk x 2 z 0 y ⟨#[]⟩)).name, .int .i64 ((Rec.mk x 2 z 0 y ⟨#[]⟩)).ty, .int .i64 ((Rec.mk x 2 z 0 y ⟨#[]⟩)).ttl, .int .i64 ((Rec.mk x 2 z 0 y ⟨#[]⟩)).n, .string ((Rec.mk x 2 z 0 y ⟨#[]⟩)).host, .string ((Rec.mk x 2 z 0 y ⟨#[]⟩)).text]) (res1 rfl (fil_bk B6.out.2.2.2 (Rec.mk x 2 z 0 y ⟨#[]⟩)) rfl) rfl (rcd_of (r := Rec.mk x 2 z 0 y ⟨#[]⟩) B6.out ⟨hx60.out, short_mid HY.out, Nat.zero_le _⟩)
  · have B4 := B3 5
    clear B3
    go_wp2_with fail
    refine (l3Name_any g _ B4.out.cur).mono ?_
    rintro e w4 ⟨y, rfl, hy, hc4, hg4⟩
    have HY := Lib.hid hy
    have B5 := Lib.hid (B4.out.step hc4 hg4)
    clear hy hc4 hg4 B4
    generalize w3.heap.size = gr at *
    have B6 := Lib.hid (B5.out.set 4 (.string y) ⟨x, 5, z, 0, y, ⟨#[]⟩⟩ rfl)
    obtain ⟨c0, c1, c2, c3, c4, c5⟩ := B5.out.1.bx
    have fc4 := B5.out.1.2.2.2.2.free 4
    obtain ⟨d0, d1, d2, d3, d4, d5⟩ := B6.out.1.bx
    obtain ⟨z0, z1, z2, z3, z4, z5⟩ := bx_of B6.out.2.2.2
    have fz0 := B6.out.2.2.2.free 0
    have fz1 := B6.out.2.2.2.free 1
    have fz2 := B6.out.2.2.2.free 2
    have fz3 := B6.out.2.2.2.free 3
    have fz4 := B6.out.2.2.2.free 4
    have fz5 := B6.out.2.2.2.free 5
    go_wp2
    exact bodyPost_ret (v := .agg #[.string ((Rec.mk x 5 z 0 y ⟨#[]⟩)).name, .int .i64 ((Rec.mk x 5 z 0 y ⟨#[]⟩)).ty, .int .i64 ((Rec.mk x 5 z 0 y ⟨#[]⟩)).ttl, .int .i64 ((Rec.mk x 5 z 0 y ⟨#[]⟩)).n, .string ((Rec.mk x 5 z 0 y ⟨#[]⟩)).host, .string ((Rec.mk x 5 z 0 y ⟨#[]⟩)).text]) (res1 rfl (fil_bk B6.out.2.2.2 (Rec.mk x 5 z 0 y ⟨#[]⟩)) rfl) rfl (rcd_of (r := Rec.mk x 5 z 0 y ⟨#[]⟩) B6.out ⟨hx60.out, short_mid HY.out, Nat.zero_le _⟩)
  · have B4 := B3 6
    clear B3
    go_wp2_with fail
    refine (l3Name_any g _ B4.out.cur).mono ?_
    rintro e w4 ⟨y, rfl, hy, hc4, hg4⟩
    have HY := Lib.hid hy
    have B5 := Lib.hid (B4.out.step hc4 hg4)
    clear hy hc4 hg4 B4
    generalize w3.heap.size = gr at *
    have B6 := Lib.hid (B5.out.set 4 (.string y) ⟨x, 6, z, 0, y, ⟨#[]⟩⟩ rfl)
    obtain ⟨c0, c1, c2, c3, c4, c5⟩ := B5.out.1.bx
    have fc4 := B5.out.1.2.2.2.2.free 4
    have hsz : (w4.setCell ⟨gr, 4, none⟩ (.string y)).heap.size = w4.heap.size := by simp [World.setCell]
    have K := Lib.hid (l1Int_any g (w4.setCell ⟨gr, 4, none⟩ (.string y)).heap.size 3 serials _ (B6.out.cur.alloc _) (bk_ints (w4.setCell ⟨gr, 4, none⟩ (.string y)) serials _ rfl) (Nat.ne_of_gt B6.out.cur.lt) rfl (by omega) (by omega))
    rw [hsz] at K
    clear hsz
    go_wp2_with fail
    refine K.out.mono ?_
    rintro e w5 ⟨k, rfl, hk, hc5, hg5⟩
    have B7 := Lib.hid ((B6.out.alloc _).step hc5 hg5)
    clear hk hc5 hg5 B6 B5 K c0 c1 c2 c3 c4 c5 fc4
    have B8 := Lib.hid (B7.out.set 3 (.int .i64 k) ⟨x, 6, z, k, y, ⟨#[]⟩⟩ rfl)
    obtain ⟨c0, c1, c2, c3, c4, c5⟩ := B7.out.1.bx
    have fc3 := B7.out.1.2.2.2.2.free 3
    obtain ⟨d0, d1, d2, d3, d4, d5⟩ := B8.out.1.bx
    obtain ⟨z0, z1, z2, z3, z4, z5⟩ := bx_of B8.out.2.2.2
    have fz0 := B8.out.2.2.2.free 0
    have fz1 := B8.out.2.2.2.free 1
    have fz2 := B8.out.2.2.2.free 2
    have fz3 := B8.out.2.2.2.free 3
    have fz4 := B8.out.2.2.2.free 4
    have fz5 := B8.out.2.2.2.free 5
    go_wp2
    exact bodyPost_ret (v := .agg #[.string ((Rec.mk x 6 z k y ⟨#[]⟩)).name, .int .i64 ((Rec.mk x 6 z k y ⟨#[]⟩)).ty, .int .i64 ((Rec.mk x 6 z k y ⟨#[]⟩)).ttl, .int .i64 ((Rec.mk x 6 z k y ⟨#[]⟩)).n, .string ((Rec.mk x 6 z k y ⟨#[]⟩)).host, .string ((Rec.mk x 6 z k y ⟨#[]⟩)).text]) (res1 rfl (fil_bk B8.out.2.2.2 (Rec.mk x 6 z k y ⟨#[]⟩)) rfl) rfl (rcd_of (r := Rec.mk x 6 z k y ⟨#[]⟩) B8.out ⟨hx60.out, short_mid HY.out, Nat.zero_le _⟩)
  · have B4 := B3 16
    clear B3
    have hsz : (w3.alloc (.cells #[.string x, .int .i64 16, .int .i64 z, .int .i64 0, .string ⟨#[]⟩, .string ⟨#[]⟩] 25)).heap.size = w3.heap.size + 1 := by simp
    have K := Lib.hid (l1Str_any g (w3.alloc (.cells #[.string x, .int .i64 16, .int .i64 z, .int .i64 0, .string ⟨#[]⟩, .string ⟨#[]⟩] 25)).heap.size 3 texts _ (B4.out.cur.alloc _) (bk_texts (w3.alloc (.cells #[.string x, .int .i64 16, .int .i64 z, .int .i64 0, .string ⟨#[]⟩, .string ⟨#[]⟩] 25)) texts _ rfl) (Nat.ne_of_gt B4.out.cur.lt) rfl (by omega) (by omega))
    rw [hsz] at K
    clear hsz
    go_wp2_with fail
    refine K.out.mono ?_
    rintro e w5 ⟨y, rfl, hy, hc5, hg5⟩
    have HY := Lib.hid (texts_short y hy)
    have B7 := Lib.hid ((B4.out.alloc _).step hc5 hg5)
    clear hy hc5 hg5 B4 K
    generalize w3.heap.size = gr at *
    have B8 := Lib.hid (B7.out.set 5 (.string y) ⟨x, 16, z, 0, ⟨#[]⟩, y⟩ rfl)
    obtain ⟨c0, c1, c2, c3, c4, c5⟩ := B7.out.1.bx
    have fc5 := B7.out.1.2.2.2.2.free 5
    obtain ⟨d0, d1, d2, d3, d4, d5⟩ := B8.out.1.bx
    obtain ⟨z0, z1, z2, z3, z4, z5⟩ := bx_of B8.out.2.2.2
    have fz0 := B8.out.2.2.2.free 0
    have fz1 := B8.out.2.2.2.free 1
    have fz2 := B8.out.2.2.2.free 2
    have fz3 := B8.out.2.2.2.free 3
    have fz4 := B8.out.2.2.2.free 4
    have fz5 := B8.out.2.2.2.free 5
    go_wp2
    exact bodyPost_ret (v := .agg #[.string ((Rec.mk x 16 z 0 ⟨#[]⟩ y)).name, .int .i64 ((Rec.mk x 16 z 0 ⟨#[]⟩ y)).ty, .int .i64 ((Rec.mk x 16 z 0 ⟨#[]⟩ y)).ttl, .int .i64 ((Rec.mk x 16 z 0 ⟨#[]⟩ y)).n, .string ((Rec.mk x 16 z 0 ⟨#[]⟩ y)).host, .string ((Rec.mk x 16 z 0 ⟨#[]⟩ y)).text]) (res1 rfl (fil_bk B8.out.2.2.2 (Rec.mk x 16 z 0 ⟨#[]⟩ y)) rfl) rfl (rcd_of (r := Rec.mk x 16 z 0 ⟨#[]⟩ y) B8.out ⟨hx60.out, Nat.zero_le _, short_mid HY.out⟩)

end Go.Proofs.YtbjhkhmhmldjoaaDoor.DrawR

/- Plain facts on rows of records of one's own. -/
namespace Go.Proofs.YtbjhkhmhmldjoaaDoor.OwnR
open Go.RowKit Go.Proofs.YtbjhkhmhmldjoaaDoor.Mem Go.Proofs.YtbjhkhmhmldjoaaDoor.MemR Go.Proofs.YtbjhkhmhmldjoaaDoor.AppR

section
variable {w w' : World} {base g n cap : Nat} {L : List Rec}
theorem own_below (h : w.ownsRow base 25 6 (.slice (some ⟨g, 0, none⟩) n cap) n (fl L)) (hb : Below w.heap.size w w') : w'.ownsRow base 25 6 (.slice (some ⟨g, 0, none⟩) n cap) n (fl L) :=
  h.kept (row := none) ⟨hb.os, hb.tape, hb.output, hb.size, fun k hk _ => hb.block k hk⟩ (Or.inr (by simp [Value.ownBlock]))
theorem own_len (h : w.ownsRow base 25 6 (.slice (some ⟨g, 0, none⟩) n cap) n (fl L)) : L.length = n := by
  have := h.1
  rw [fl_len] at this
  omega
end
theorem one_sr (w : World) (r : Rec) : Sr (w.alloc (.cells #[.string r.name, .int .i64 r.ty, .int .i64 r.ttl, .int .i64 r.n, .string r.host, .string r.text] 25)) (w.alloc (.cells #[.string r.name, .int .i64 r.ty, .int .i64 r.ttl, .int .i64 r.n, .string r.host, .string r.text] 25)).heap.size (some ⟨w.heap.size, 0, none⟩) 1 [r] := by
  have hb : Bk (w.alloc (.cells #[.string r.name, .int .i64 r.ty, .int .i64 r.ttl, .int .i64 r.n, .string r.host, .string r.text] 25)) w.heap.size 25 (fl [r]) := heap_alloc_new w _
  exact bk_sr0 hb rfl
end Go.Proofs.YtbjhkhmhmldjoaaDoor.OwnR

/- What the model's draws of any record, and of lists of records, do: records whose texts have at most 60 bytes; nothing that was there is turned but the cursor. -/
namespace Go.Proofs.YtbjhkhmhmldjoaaDoor.DrawA
open Go.RowKit Go.Proofs.YtbjhkhmhmldjoaaDoor.Mem Go.Proofs.YtbjhkhmhmldjoaaDoor.MemS Go.Proofs.YtbjhkhmhmldjoaaDoor.MemR Go.Proofs.YtbjhkhmhmldjoaaDoor.BoxR Go.Proofs.YtbjhkhmhmldjoaaDoor.Draw Go.Proofs.YtbjhkhmhmldjoaaDoor.DrawS Go.Proofs.YtbjhkhmhmldjoaaDoor.DrawL Go.Proofs.YtbjhkhmhmldjoaaDoor.DrawN Go.Proofs.YtbjhkhmhmldjoaaDoor.AppR Go.Proofs.YtbjhkhmhmldjoaaDoor.ResR Go.Proofs.YtbjhkhmhmldjoaaDoor.DrawR Go.Proofs.YtbjhkhmhmldjoaaDoor.OwnR

def anyTypes : List Int := [0, 3, 15, 1, 2, 6]
def anyTtls : List Int := [-1, 100000, 100001]
def anyNums : List Int := [-1, 2147483647, 2147483648, 100001, 0]
def anyTexts : List ByteArray := [⟨#[32]⟩, ⟨#[127]⟩, ⟨#[116, 104, 105, 114, 116, 101, 101, 110, 98, 121, 116, 101, 115]⟩, ⟨#[120]⟩]
theorem anyTexts_short : ∀ x ∈ anyTexts, Short x := all_short _ (by decide)

set_option maxHeartbeats 4000000 in
set_option maxRecDepth 100000 in
theorem l5Any_any (g : Nat) (w : World) (hc : Cur w g) : Calls Tryd.prog 43 #[.pointer (some ⟨g, 0, none⟩)] w (Rcd w g) := by
  have HC := Lib.hid hc
  have GL := Lib.hid hc.lt
  have Z0 := Lib.hid (zero_box w)
  clear hc
  go_enter Tryd.func43, Tryd.ntmps43
  go_wp2_with fail
  refine (l5Draw_any g _ (HC.out.alloc _)).mono ?_
  rintro e w1 ⟨r, rfl, hx, hc1, hg1⟩
  have HX := Lib.hid hx
  have Z1 := Lib.hid (Z0.out.grown hg1 (fun e => by have := GL.out; have := Option.some.inj e; omega))
  have G1 := Lib.hid (grown_trans (World.grownBy_alloc w _ (some g)) hg1)
  have B1 := Lib.hid (Bp.start hc1 G1.out GL.out Z1.out r)
  clear hx hc1 hg1 HC Z0 Z1 G1
  obtain ⟨x, t, z, k, h, y⟩ := r
  dsimp only at B1 ⊢
  go_wp2_with fail
  refine (l1Below_any g 12 _ B1.out.cur (by omega) (by omega)).mono ?_
  rintro e w2 ⟨q, rfl, hq0, hq1, hc2, hg2⟩
  have B2 := Lib.hid (B1.out.step hc2 hg2)
  clear hc2 hg2 B1
  generalize w1.heap.size = gr at *
  have hx1 : Hid (x.size ≤ 60) := HX.out.1
  have hx2 : Hid (h.size ≤ 60) := HX.out.2.1
  have hx3 : Hid (y.size ≤ 60) := HX.out.2.2
  clear HX
  by_cases q0 : q = 0
  · subst q0
    go_wp2_with fail
    refine (l3Any_any g w2 B2.out.cur).mono ?_
    rintro e w3 ⟨v, rfl, hv, hc3, hg3⟩
    have HV : Hid (v.size ≤ 60) := hv
    have B3 := Lib.hid (B2.out.step hc3 hg3)
    clear hv hc3 hg3 B2
    have B4 := Lib.hid (B3.out.set 0 (.string v) ⟨v, t, z, k, h, y⟩ rfl)
    obtain ⟨c0, c1, c2, c3, c4, c5⟩ := B3.out.1.bx
    have fc0 := B3.out.1.2.2.2.2.free 0
    obtain ⟨d0, d1, d2, d3, d4, d5⟩ := B4.out.1.bx
    obtain ⟨z0, z1, z2, z3, z4, z5⟩ := bx_of B4.out.2.2.2
    have fz0 := B4.out.2.2.2.free 0
    have fz1 := B4.out.2.2.2.free 1
    have fz2 := B4.out.2.2.2.free 2
    have fz3 := B4.out.2.2.2.free 3
    have fz4 := B4.out.2.2.2.free 4
    have fz5 := B4.out.2.2.2.free 5
    go_wp2
    exact bodyPost_ret (v := .agg #[.string ((Rec.mk v t z k h y)).name, .int .i64 ((Rec.mk v t z k h y)).ty, .int .i64 ((Rec.mk v t z k h y)).ttl, .int .i64 ((Rec.mk v t z k h y)).n, .string ((Rec.mk v t z k h y)).host, .string ((Rec.mk v t z k h y)).text]) (res1 rfl (fil_bk B4.out.2.2.2 (Rec.mk v t z k h y)) rfl) rfl (rcd_of (r := Rec.mk v t z k h y) B4.out ⟨HV.out, hx2.out, hx3.out⟩)
  by_cases q1 : q = 1
  · subst q1
    go_wp2_with fail
    refine (l1Int_any g w2.heap.size 6 anyTypes _ (B2.out.cur.alloc _) (bk_ints w2 anyTypes _ rfl) (Nat.ne_of_gt B2.out.cur.lt) rfl (by omega) (by omega)).mono ?_
    rintro e w3 ⟨v, rfl, hv, hc3, hg3⟩
    have B3 := Lib.hid ((B2.out.alloc _).step hc3 hg3)
    clear hv hc3 hg3 B2
    have B4 := Lib.hid (B3.out.set 1 (.int .i64 v) ⟨x, v, z, k, h, y⟩ rfl)
    obtain ⟨c0, c1, c2, c3, c4, c5⟩ := B3.out.1.bx
    have fc1 := B3.out.1.2.2.2.2.free 1
    obtain ⟨d0, d1, d2, d3, d4, d5⟩ := B4.out.1.bx
    obtain ⟨z0, z1, z2, z3, z4, z5⟩ := bx_of B4.out.2.2.2
    have fz0 := B4.out.2.2.2.free 0
    have fz1 := B4.out.2.2.2.free 1
    have fz2 := B4.out.2.2.2.free 2
    have fz3 := B4.out.2.2.2.free 3
    have fz4 := B4.out.2.2.2.free 4
    have fz5 := B4.out.2.2.2.free 5
    go_wp2
    exact bodyPost_ret (v := .agg #[.string ((Rec.mk x v z k h y)).name, .int .i64 ((Rec.mk x v z k h y)).ty, .int .i64 ((Rec.mk x v z k h y)).ttl, .int .i64 ((Rec.mk x v z k h y)).n, .string ((Rec.mk x v z k h y)).host, .string ((Rec.mk x v z k h y)).text]) (res1 rfl (fil_bk B4.out.2.2.2 (Rec.mk x v z k h y)) rfl) rfl (rcd_of (r := Rec.mk x v z k h y) B4.out ⟨hx1.out, hx2.out, hx3.out⟩)
  by_cases q2 : q = 2
  · subst q2
    go_wp2_with fail
    refine (l1Int_any g w2.heap.size 3 anyTtls _ (B2.out.cur.alloc _) (bk_ints w2 anyTtls _ rfl) (Nat.ne_of_gt B2.out.cur.lt) rfl (by omega) (by omega)).mono ?_
    rintro e w3 ⟨v, rfl, hv, hc3, hg3⟩
    have B3 := Lib.hid ((B2.out.alloc _).step hc3 hg3)
    clear hv hc3 hg3 B2
    have B4 := Lib.hid (B3.out.set 2 (.int .i64 v) ⟨x, t, v, k, h, y⟩ rfl)
    obtain ⟨c0, c1, c2, c3, c4, c5⟩ := B3.out.1.bx
    have fc2 := B3.out.1.2.2.2.2.free 2
    obtain ⟨d0, d1, d2, d3, d4, d5⟩ := B4.out.1.bx
    obtain ⟨z0, z1, z2, z3, z4, z5⟩ := bx_of B4.out.2.2.2
    have fz0 := B4.out.2.2.2.free 0
    have fz1 := B4.out.2.2.2.free 1
    have fz2 := B4.out.2.2.2.free 2
    have fz3 := B4.out.2.2.2.free 3
    have fz4 := B4.out.2.2.2.free 4
    have fz5 := B4.out.2.2.2.free 5
    go_wp2
    exact bodyPost_ret (v := .agg #[.string ((Rec.mk x t v k h y)).name, .int .i64 ((Rec.mk x t v k h y)).ty, .int .i64 ((Rec.mk x t v k h y)).ttl, .int .i64 ((Rec.mk x t v k h y)).n, .string ((Rec.mk x t v k h y)).host, .string ((Rec.mk x t v k h y)).text]) (res1 rfl (fil_bk B4.out.2.2.2 (Rec.mk x t v k h y)) rfl) rfl (rcd_of (r := Rec.mk x t v k h y) B4.out ⟨hx1.out, hx2.out, hx3.out⟩)
  by_cases q3 : q = 3
  · subst q3
    go_wp2_with fail
    refine (l1Int_any g w2.heap.size 5 anyNums _ (B2.out.cur.alloc _) (bk_ints w2 anyNums _ rfl) (Nat.ne_of_gt B2.out.cur.lt) rfl (by omega) (by omega)).mono ?_
    rintro e w3 ⟨v, rfl, hv, hc3, hg3⟩
    have B3 := Lib.hid ((B2.out.alloc _).step hc3 hg3)
    clear hv hc3 hg3 B2
    have B4 := Lib.hid (B3.out.set 3 (.int .i64 v) ⟨x, t, z, v, h, y⟩ rfl)
    obtain ⟨c0, c1, c2, c3, c4, c5⟩ := B3.out.1.bx
    have fc3 := B3.out.1.2.2.2.2.free 3
    obtain ⟨d0, d1, d2, d3, d4, d5⟩ := B4.out.1.bx
    obtain ⟨z0, z1, z2, z3, z4, z5⟩ := bx_of B4.out.2.2.2
    have fz0 := B4.out.2.2.2.free 0
    have fz1 := B4.out.2.2.2.free 1
    have fz2 := B4.out.2.2.2.free 2
    have fz3 := B4.out.2.2.2.free 3
    have fz4 := B4.out.2.2.2.free 4
    have fz5 := B4.out.2.2.2.free 5
    go_wp2
    exact bodyPost_ret (v := .agg #[.string ((Rec.mk x t z v h y)).name, .int .i64 ((Rec.mk x t z v h y)).ty, .int .i64 ((Rec.mk x t z v h y)).ttl, .int .i64 ((Rec.mk x t z v h y)).n, .string ((Rec.mk x t z v h y)).host, .string ((Rec.mk x t z v h y)).text]) (res1 rfl (fil_bk B4.out.2.2.2 (Rec.mk x t z v h y)) rfl) rfl (rcd_of (r := Rec.mk x t z v h y) B4.out ⟨hx1.out, hx2.out, hx3.out⟩)
  by_cases q4 : q = 4
  · subst q4
    go_wp2_with fail
    refine (l3Any_any g w2 B2.out.cur).mono ?_
    rintro e w3 ⟨v, rfl, hv, hc3, hg3⟩
    have HV : Hid (v.size ≤ 60) := hv
    have B3 := Lib.hid (B2.out.step hc3 hg3)
    clear hv hc3 hg3 B2
    have B4 := Lib.hid (B3.out.set 4 (.string v) ⟨x, t, z, k, v, y⟩ rfl)
    obtain ⟨c0, c1, c2, c3, c4, c5⟩ := B3.out.1.bx
    have fc4 := B3.out.1.2.2.2.2.free 4
    obtain ⟨d0, d1, d2, d3, d4, d5⟩ := B4.out.1.bx
    obtain ⟨z0, z1, z2, z3, z4, z5⟩ := bx_of B4.out.2.2.2
    have fz0 := B4.out.2.2.2.free 0
    have fz1 := B4.out.2.2.2.free 1
    have fz2 := B4.out.2.2.2.free 2
    have fz3 := B4.out.2.2.2.free 3
    have fz4 := B4.out.2.2.2.free 4
    have fz5 := B4.out.2.2.2.free 5
    go_wp2
    exact bodyPost_ret (v := .agg #[.string ((Rec.mk x t z k v y)).name, .int .i64 ((Rec.mk x t z k v y)).ty, .int .i64 ((Rec.mk x t z k v y)).ttl, .int .i64 ((Rec.mk x t z k v y)).n, .string ((Rec.mk x t z k v y)).host, .string ((Rec.mk x t z k v y)).text]) (res1 rfl (fil_bk B4.out.2.2.2 (Rec.mk x t z k v y)) rfl) rfl (rcd_of (r := Rec.mk x t z k v y) B4.out ⟨hx1.out, HV.out, hx3.out⟩)
  by_cases q5 : q = 5
  · subst q5
    go_wp2_with fail
    refine (l1Str_any g w2.heap.size 4 anyTexts _ (B2.out.cur.alloc _) (bk_texts w2 anyTexts _ rfl) (Nat.ne_of_gt B2.out.cur.lt) rfl (by omega) (by omega)).mono ?_
    rintro e w3 ⟨v, rfl, hv, hc3, hg3⟩
    have HV : Hid (v.size ≤ 60) := short_mid (anyTexts_short v hv)
    have B3 := Lib.hid ((B2.out.alloc _).step hc3 hg3)
    clear hv hc3 hg3 B2
    have B4 := Lib.hid (B3.out.set 5 (.string v) ⟨x, t, z, k, h, v⟩ rfl)
    obtain ⟨c0, c1, c2, c3, c4, c5⟩ := B3.out.1.bx
    have fc5 := B3.out.1.2.2.2.2.free 5
    obtain ⟨d0, d1, d2, d3, d4, d5⟩ := B4.out.1.bx
    obtain ⟨z0, z1, z2, z3, z4, z5⟩ := bx_of B4.out.2.2.2
    have fz0 := B4.out.2.2.2.free 0
    have fz1 := B4.out.2.2.2.free 1
    have fz2 := B4.out.2.2.2.free 2
    have fz3 := B4.out.2.2.2.free 3
    have fz4 := B4.out.2.2.2.free 4
    have fz5 := B4.out.2.2.2.free 5
    go_wp2
    exact bodyPost_ret (v := .agg #[.string ((Rec.mk x t z k h v)).name, .int .i64 ((Rec.mk x t z k h v)).ty, .int .i64 ((Rec.mk x t z k h v)).ttl, .int .i64 ((Rec.mk x t z k h v)).n, .string ((Rec.mk x t z k h v)).host, .string ((Rec.mk x t z k h v)).text]) (res1 rfl (fil_bk B4.out.2.2.2 (Rec.mk x t z k h v)) rfl) rfl (rcd_of (r := Rec.mk x t z k h v) B4.out ⟨hx1.out, hx2.out, HV.out⟩)
  have e0 : (q == 0) = false := beq_eq_false_iff_ne.2 q0
  have e1 : (q == 1) = false := beq_eq_false_iff_ne.2 q1
  have e2 : (q == 2) = false := beq_eq_false_iff_ne.2 q2
  have e3 : (q == 3) = false := beq_eq_false_iff_ne.2 q3
  have e4 : (q == 4) = false := beq_eq_false_iff_ne.2 q4
  have e5 : (q == 5) = false := beq_eq_false_iff_ne.2 q5
  obtain ⟨d0, d1, d2, d3, d4, d5⟩ := B2.out.1.bx
  obtain ⟨z0, z1, z2, z3, z4, z5⟩ := bx_of B2.out.2.2.2
  have fz0 := B2.out.2.2.2.free 0
  have fz1 := B2.out.2.2.2.free 1
  have fz2 := B2.out.2.2.2.free 2
  have fz3 := B2.out.2.2.2.free 3
  have fz4 := B2.out.2.2.2.free 4
  have fz5 := B2.out.2.2.2.free 5
  go_wp2
  exact bodyPost_ret (v := .agg #[.string ((Rec.mk x t z k h y)).name, .int .i64 ((Rec.mk x t z k h y)).ty, .int .i64 ((Rec.mk x t z k h y)).ttl, .int .i64 ((Rec.mk x t z k h y)).n, .string ((Rec.mk x t z k h y)).host, .string ((Rec.mk x t z k h y)).text]) (res1 rfl (fil_bk B2.out.2.2.2 (Rec.mk x t z k h y)) rfl) rfl (rcd_of (r := Rec.mk x t z k h y) B2.out ⟨hx1.out, hx2.out, hx3.out⟩)

/-- A new row of records with short texts; the cursor moved, nothing else turned. -/
def Lst (w : World) (g most : Nat) (e : Ending) (w' : World) : Prop :=
  ∃ (gl cap : Nat) (L : List Rec), e = .returned (.slice (some ⟨gl, 0, none⟩) L.length cap) ∧ w'.ownsRow w.heap.size 25 6 (.slice (some ⟨gl, 0, none⟩) L.length cap) L.length (fl L) ∧ L.length ≤ most ∧ (∀ r ∈ L, Sml r) ∧ Cur w' g ∧ w.grownBy w' (some g)
theorem own_far {w w' : World} {base g gl n cap : Nat} {L : List Rec} (h : w.ownsRow base 25 6 (.slice (some ⟨gl, 0, none⟩) n cap) n (fl L)) (hg : w.grownBy w' (some g)) (hb : g < base) : w'.ownsRow base 25 6 (.slice (some ⟨gl, 0, none⟩) n cap) n (fl L) :=
  h.kept hg (Or.inr (fun e => by have h1 := (h.lt gl rfl).1; have h2 := Option.some.inj e; simp at h2; omega))
theorem cur_far {w w' : World} {base g gl n cap : Nat} {L : List Rec} (h : Cur w g) (ho : w.ownsRow base 25 6 (.slice (some ⟨gl, 0, none⟩) n cap) n (fl L)) (hg : w.grownBy w' (some gl)) (hb : g < base) : Cur w' g :=
  h.grown hg (fun k hk => by have h1 := (ho.lt gl rfl).1; cases hk; omega)
theorem grown_far {w v v' : World} {g gl : Nat} (h : w.grownBy v (some g)) (hg : v.grownBy v' (some gl)) (hl : w.heap.size ≤ gl) : w.grownBy v' (some g) :=
  ⟨hg.os.trans h.os, hg.tape.trans h.tape, hg.output.trans h.output, Nat.le_trans h.size hg.size, fun k hk hne => (hg.block k (Nat.lt_of_lt_of_le hk h.size) (fun e => by have := Option.some.inj e; omega)).trans (h.block k hk hne)⟩

set_option maxHeartbeats 4000000 in
set_option maxRecDepth 100000 in
theorem l5List_any (g most : Nat) (w : World) (hc : Cur w g) (hm : most ≤ 100) : Calls Tryd.prog 42 #[.pointer (some ⟨g, 0, none⟩), .int .i64 (most : Int)] w (Lst w g most) := by
  have HC := Lib.hid hc
  have GL := Lib.hid hc.lt
  clear hc
  go_enter Tryd.func42, Tryd.ntmps42
  go_wp2_with fail
  refine (l1Below_any g ((most : Int) + 1) _ (HC.out.alloc _) (by omega) (by omega)).mono ?_
  rintro e w1 ⟨q, rfl, hq0, hq1, hc1, hg1⟩
  obtain ⟨q0, rfl⟩ := Int.eq_ofNat_of_zero_le hq0
  have O1 := Lib.hid (own_far (L := []) (AppR.owns_new w) hg1 GL.out)
  have C1 := Lib.hid hc1
  have G1 := Lib.hid (grown_trans (World.grownBy_alloc w (.cells #[] 25) (some g)) hg1)
  clear hc1 hg1 HC
  go_wp2
  go_loopw [5, 6] (fun v i wr => ∃ (gl m cap q : Nat) (L : List Rec), m + q ≤ most ∧ i = .int .i64 (q : Int) ∧ v = .slice (some ⟨gl, 0, none⟩) m cap ∧ Hid (wr.ownsRow w.heap.size 25 6 (.slice (some ⟨gl, 0, none⟩) m cap) m (fl L)) ∧ Hid (∀ r ∈ L, Sml r) ∧ Hid (Cur wr g) ∧ Hid (w.grownBy wr (some g))) (fun _ i _ => (intOf i).toNat)
  case atStart => exact ⟨w.heap.size, 0, 0, q0, [], by omega, rfl, rfl, O1.out, (fun r hr => by cases hr), C1.out, G1.out⟩
  case round =>
    clear O1 C1 G1
    obtain ⟨gl, m, cap, q, L, hmq, rfl, rfl, HO, HS, HC, HG⟩ := hrel
    by_cases hq : 0 < q
    · obtain ⟨p, rfl⟩ : ∃ p, q = p + 1 := ⟨q - 1, by omega⟩
      have hp0 : (0 : Int) < ((p + 1 : Nat) : Int) := by omega
      go_wp2_with fail
      refine (l5Draw_any g wr HC.out).mono ?_
      rintro e w2 ⟨r, rfl, hr, hc2, hg2⟩
      have HR := Lib.hid hr
      have O3 := Lib.hid ((own_far HO.out hg2 GL.out).alloc (.cells #[.string r.name, .int .i64 r.ty, .int .i64 r.ttl, .int .i64 r.n, .string r.host, .string r.text] 25))
      have C3 := Lib.hid (hc2.alloc (.cells #[.string r.name, .int .i64 r.ty, .int .i64 r.ttl, .int .i64 r.n, .string r.host, .string r.text] 25))
      have G3 := Lib.hid (grown_trans (grown_trans HG.out hg2) (World.grownBy_alloc w2 (.cells #[.string r.name, .int .i64 r.ty, .int .i64 r.ttl, .int .i64 r.n, .string r.host, .string r.text] 25) (some g)))
      have S3 := Lib.hid (one_sr w2 r)
      clear hr hc2 hg2 HO HC HG
      go_wp2_with (at_builtin; refine append_recs rfl (.tmp 16) (.tmp 19) rfl w.heap.size gl m cap L rfl O3.out w2.heap.size 0 1 1 _ [r] rfl S3.out ?d1 ?d2 ?d3 ?_)
      case d1 => omega
      case d2 => omega
      case d3 => exact G3.out.size
      intro g4 cap4 w4 hown hgrow
      have O4 := Lib.hid hown
      have C4 := Lib.hid (cur_far C3.out O3.out hgrow GL.out)
      have G4 := Lib.hid (grown_far G3.out hgrow (O3.out.lt gl rfl).1)
      have S4 : Hid (∀ x ∈ L ++ [r], Sml x) := fun x hx => by
        rcases List.mem_append.1 hx with hx | hx
        · exact HS.out x hx
        · rw [List.mem_singleton.1 hx]; exact HR.out
      clear hown hgrow O3 C3 G3 S3 HS HR
      go_wp2
      go_roundw
      case rel => exact ⟨g4, m + 1, cap4, p, L ++ [r], by omega, by go_num, rfl, O4.out, S4.out, C4.out, G4.out⟩
      case measure => first | (simp [intOf]; done) | (simp [intOf]; omega)
    · obtain rfl : q = 0 := by omega
      have hl := own_len HO.out
      go_wp2
      go_ret
      exact ⟨gl, cap, L, by rw [hl]; rfl, by rw [hl]; exact HO.out, by omega, HS.out, HC.out, HG.out⟩

end Go.Proofs.YtbjhkhmhmldjoaaDoor.DrawA

/- What the law's own helper toByteS does: it returns a new slice with the same bytes and turns nothing that was there. Condition: fewer than 400000001 bytes. -/
namespace Go.Proofs.YtbjhkhmhmldjoaaDoor.Copy
open Go.RowKit Go.Proofs.YtbjhkhmhmldjoaaDoor.Mem

theorem info : (Tryd.prog.info? 5).map (fun i => (i.zero, i.size, i.bytes)) = some (some (.int .u8 0), 1, 1) := by kernel_rfl

theorem made (n : Nat) : (madeCells #[Value.int .u8 0] n).toList = List.replicate n (Value.int .u8 0) := by
  simp only [madeCells, Array.toList_map, Array.toList_range]
  rw [List.eq_replicate_iff]
  refine ⟨by simp, fun b hb => ?_⟩
  obtain ⟨x, _, rfl⟩ := List.mem_map.1 hb
  simp [Nat.mod_one]

theorem step_list (l : List UInt8) (k n : Nat) (hn : l.length = n) (hk : k < n) :
    ((l.take k).map bv ++ List.replicate (n - k) (Value.int .u8 0)).set k (Value.int .u8 ((l[k]'(by omega)).toNat : Int)) = (l.take (k + 1)).map bv ++ List.replicate (n - (k + 1)) (Value.int .u8 0) := by
  rw [List.set_append_right _ _ (by simp; omega)]
  have h1 : k - ((l.take k).map bv).length = 0 := by simp; omega
  rw [h1, show n - k = (n - (k + 1)) + 1 by omega, List.replicate_succ, List.set_cons_zero, List.take_succ_eq_append_getElem (by omega), List.map_append, List.append_assoc]
  rfl

theorem at_list (l : List UInt8) (k n : Nat) (hn : l.length = n) (hk : k < n) : ((l.take k).map bv ++ List.replicate (n - k) (Value.int .u8 0))[k]? = some (Value.int .u8 0) := by
  rw [List.getElem?_append_right (by simp; omega)]
  have h1 : k - ((l.take k).map bv).length = 0 := by simp; omega
  rw [h1, show n - k = (n - (k + 1)) + 1 by omega, List.replicate_succ]
  rfl

end Go.Proofs.YtbjhkhmhmldjoaaDoor.Copy

/- What the program's own helper appended does (a new slice with the bytes of both), and a law on append of a text's bytes. -/
namespace Go.Proofs.YtbjhkhmhmldjoaaDoor.App
open Go.RowKit Go.Proofs.YtbjhkhmhmldjoaaDoor.Mem

/-- A new block of bytes reads as a slice. -/
theorem sl_new (w : World) (cs : Array Value) (m : List UInt8) (h : cs.toList = m.map bv) : Sl (w.alloc (.cells cs 5)) (w.alloc (.cells cs 5)).heap.size (some ⟨w.heap.size, 0, none⟩) m.length m := by
  have hb : Bk (w.alloc (.cells cs 5)) w.heap.size 5 (m.map bv) := by
    unfold Bk
    rw [heap_alloc_new, ← h]
  exact hb.sl.wider hb.lt
theorem sl_alloc {w : World} {A : Option Addr} {n : Nat} {l : List UInt8} (h : Sl w w.heap.size A n l) (o : Obj) : Sl (w.alloc o) (w.alloc o).heap.size A n l :=
  (h.below ((Below.refl _ _).alloc (Nat.le_refl _) o)).wider (by simp)

theorem owns_new (w : World) : (w.alloc (.cells #[] 5)).ownsRow w.heap.size 5 1 (.slice (some ⟨w.heap.size, 0, none⟩) 0 0) 0 [] :=
  World.ownsRow_made w #[] 0 (Nat.le_refl _) (Nat.zero_le _) (by simp)

/-- A block of bytes with its room is a row of the call's own. -/
theorem owns_of_bk {w : World} {base g n cap : Nat} {l : List UInt8} {r : List Value} (h : Bk w g 5 (l.map bv ++ r)) (hb : base ≤ g) (hl : l.length = n) (hc : (l.map bv ++ r).length = cap) (hm : cap ≤ maxLen) :
    w.ownsRow base 5 1 (.slice (some ⟨g, 0, none⟩) n cap) n (l.map bv) := by
  refine ⟨by simp [hl], .inr ⟨g, cap, _, rfl, hb, h, ?_, hm, by simpa using hc, ?_⟩⟩
  · rw [← hc, ← hl]; simp
  · rw [← hl]; simp

/-- append of a text's bytes onto a row of the call's own. -/
theorem append_str {P : Program} {w : World} {ops : Array Oper} {rest : List Oper} {o : Oper} {a : Act} {Q : Exit → Act → World → Prop} (hgd : o.guard = none) (sl x : Operand) (t u : TypeId)
    (ho : o.op = .call { callee := .builtin .append, args := #[sl, x], argTypes := #[t, u] })
    (base : Nat) (e : TypeId) (i : TypeInfo) (ht : P.underlying t = some (.slice e)) (hu : P.underlying u = some .string) (hi : P.info? e = some i) (hz : i.zero = some (.int .u8 0))
    (hsize : i.size = 1) (hby : i.bytes = 1)
    (g n cap : Nat) (xs : List Value) (hs : a.eval sl = .slice (some ⟨g, 0, none⟩) n cap) (hown : w.ownsRow base e 1 (.slice (some ⟨g, 0, none⟩) n cap) n xs) (s : ByteArray) (hx : a.eval x = .string s)
    (hn : n ≤ 800000000) (hm : s.size ≤ 800000000) (hbase : base ≤ w.heap.size)
    (h : ∀ g' cap' w', w'.ownsRow base e 1 (.slice (some ⟨g', 0, none⟩) (n + s.size) cap') (n + s.size) (xs ++ s.data.toList.map bv) → w.grownBy w' (some g) → wpList P ops Q rest (a.put o.dst (.slice (some ⟨g', 0, none⟩) (n + s.size) cap')) w') : wpList P ops Q (o :: rest) a w :=
  Lib.wpList_append_own_string w hgd sl x t u ho base e i ht hu hi hz hsize hby _ n xs hs hown s hx (by unfold maxLen; omega) (by omega) hbase
    (fun v' w' h1 h2 h3 => by
      rcases h1.2 with ⟨hv, _⟩ | ⟨g', cap', cur, hv, _⟩
      · have := (h3.1 hv).1
        cases this
      · subst hv
        exact h g' cap' w' h1 h2)

/-- The call returned a row of bytes of its own that reads as l, and turned nothing that was there. -/
def GivesO (w : World) (l : List UInt8) (e : Ending) (w' : World) : Prop :=
  ∃ g cap, e = .returned (.slice (some ⟨g, 0, none⟩) l.length cap) ∧ w'.ownsRow w.heap.size 5 1 (.slice (some ⟨g, 0, none⟩) l.length cap) l.length (l.map bv) ∧ Below w.heap.size w w'
theorem givesO_of {w w' : World} {g n cap : Nat} {l : List UInt8} (h : w'.ownsRow w.heap.size 5 1 (.slice (some ⟨g, 0, none⟩) n cap) n (l.map bv)) (hb : Below w.heap.size w w') : GivesO w l (.returned (.slice (some ⟨g, 0, none⟩) n cap)) w' := by
  have hl : l.length = n := by have := h.1; simpa using this
  subst hl
  exact ⟨g, cap, rfl, h, hb⟩
theorem GivesO.gives {w w' : World} {l : List UInt8} {e : Ending} (h : GivesO w l e w') : Gives w l e w' := by
  obtain ⟨g, cap, rfl, ho, hb⟩ := h
  exact gives_of_owns ho hb
theorem owns_base {w : World} {b b' : Nat} {t : TypeId} {k n : Nat} {v : Value} {xs : List Value} (h : w.ownsRow b t k v n xs) (hb : b' ≤ b) : w.ownsRow b' t k v n xs := by
  refine ⟨h.1, ?_⟩
  rcases h.2 with h1 | ⟨g, cap, cur, hv, hg, h2⟩
  · exact Or.inl h1
  · exact Or.inr ⟨g, cap, cur, hv, Nat.le_trans hb hg, h2⟩
end Go.Proofs.YtbjhkhmhmldjoaaDoor.App

/- What the model's draws for the laws on records do: records of short texts, rows of them; nothing that was there is turned. -/
namespace Go.Proofs.YtbjhkhmhmldjoaaDoor.DrawK
open Go.RowKit Go.Proofs.YtbjhkhmhmldjoaaDoor.Mem Go.Proofs.YtbjhkhmhmldjoaaDoor.MemR Go.Proofs.YtbjhkhmhmldjoaaDoor.BoxR Go.Proofs.YtbjhkhmhmldjoaaDoor.App Go.Proofs.YtbjhkhmhmldjoaaDoor.Draw Go.Proofs.YtbjhkhmhmldjoaaDoor.DrawS Go.Proofs.YtbjhkhmhmldjoaaDoor.DrawL Go.Proofs.YtbjhkhmhmldjoaaDoor.DrawN Go.Proofs.YtbjhkhmhmldjoaaDoor.AppR Go.Proofs.YtbjhkhmhmldjoaaDoor.ResR Go.Proofs.YtbjhkhmhmldjoaaDoor.DrawR Go.Proofs.YtbjhkhmhmldjoaaDoor.DrawA Go.Proofs.YtbjhkhmhmldjoaaDoor.OwnR

/-- A record of short texts; nothing that was there is turned. -/
def Rct (w : World) (e : Ending) (w' : World) : Prop := ∃ r : Rec, e = .returned (.agg #[.string r.name, .int .i64 r.ty, .int .i64 r.ttl, .int .i64 r.n, .string r.host, .string r.text]) ∧ Sml r ∧ Below w.heap.size w w'

set_option maxHeartbeats 2000000 in
theorem drawRecordText_any (A : Option Addr) (n c : Nat) (l : List UInt8) (w : World) (hs : Sl w w.heap.size A n l) (hn : n ≤ 1048576) : Calls Tryd.prog 11 #[.slice A n c] w (Rct w) := by
  have HS := Lib.hid (sl_alloc hs (.cells #[.string ⟨#[]⟩, .int .i64 0, .int .i64 0, .int .i64 0, .string ⟨#[]⟩, .string ⟨#[]⟩] 25))
  have Z0 := Lib.hid (zero_box w)
  have L0 := Lib.hid ((Below.refl w.heap.size w).alloc (Nat.le_refl _) (.cells #[.string ⟨#[]⟩, .int .i64 0, .int .i64 0, .int .i64 0, .string ⟨#[]⟩, .string ⟨#[]⟩] 25))
  clear hs
  have K := Lib.hid (l1New_any A n c l _ HS.out hn)
  rw [show (w.alloc (.cells #[.string ⟨#[]⟩, .int .i64 0, .int .i64 0, .int .i64 0, .string ⟨#[]⟩, .string ⟨#[]⟩] 25)).heap.size = w.heap.size + 1 by simp] at K
  go_enter Tryd.func11, Tryd.ntmps11
  go_wp2_with fail
  refine K.out.mono ?_
  rintro e w1 ⟨rfl, hc1, hg1⟩
  have C1 := Lib.hid hc1
  have Z1 := Lib.hid (Z0.out.grown hg1 (fun e => by cases e))
  have L1 := Lib.hid (L0.out.trans ((below_of_grown hg1).mono L0.out.size))
  clear hc1 hg1 Z0 L0 K
  go_wp2_with fail
  refine (l5Any_any (w.heap.size + 1) w1 C1.out).mono ?_
  rintro e w2 ⟨r, rfl, hr, hc2, hg2⟩
  have HR := Lib.hid hr
  have Z2 := Lib.hid (Z1.out.grown hg2 (fun e => by have := Option.some.inj e; omega))
  have L2 := Lib.hid (L1.out.grown hg2 L1.out.size (fun j hj => by cases hj; omega))
  clear hr hc2 hg2 C1 Z1 L1
  obtain ⟨z0, z1, z2, z3, z4, z5⟩ := bx_of Z2.out
  have fz0 := Z2.out.free 0
  have fz1 := Z2.out.free 1
  have fz2 := Z2.out.free 2
  have fz3 := Z2.out.free 3
  have fz4 := Z2.out.free 4
  have fz5 := Z2.out.free 5
  go_wp2
  exact bodyPost_ret (v := .agg #[.string r.name, .int .i64 r.ty, .int .i64 r.ttl, .int .i64 r.n, .string r.host, .string r.text]) (res1 rfl (fil_bk Z2.out r) rfl) rfl ⟨r, rfl, HR.out, fil_below L2.out (Nat.le_refl _) r⟩

/-- A row of records of short texts; nothing that was there is turned. -/
def Rws (w : World) (most : Nat) (e : Ending) (w' : World) : Prop :=
  ∃ (gl cap : Nat) (L : List Rec), e = .returned (.slice (some ⟨gl, 0, none⟩) L.length cap) ∧ L.length ≤ most ∧ (∀ r ∈ L, Sml r) ∧ Sr w' w'.heap.size (some ⟨gl, 0, none⟩) L.length L ∧ Below w.heap.size w w'
theorem own_srk {w : World} {base gl n cap : Nat} {L : List Rec} (h : w.ownsRow base 25 6 (.slice (some ⟨gl, 0, none⟩) n cap) n (fl L)) : Sr w w.heap.size (some ⟨gl, 0, none⟩) L.length L := by
  obtain ⟨r, hb, _, _, _⟩ := bk_of_owns6 h
  exact bk_sr hb rfl

set_option maxHeartbeats 4000000 in
set_option maxRecDepth 100000 in
theorem drawSortRecords_any (A : Option Addr) (n c : Nat) (l : List UInt8) (w : World) (hs : Sl w w.heap.size A n l) (hn : n ≤ 1048576) : Calls Tryd.prog 10 #[.slice A n c] w (Rws w 6) := by
  have HS := Lib.hid hs
  clear hs
  go_enter Tryd.func10, Tryd.ntmps10
  go_wp2_with fail
  refine (l1New_any A n c l w HS.out hn).mono ?_
  rintro e w1 ⟨rfl, hc1, hg1⟩
  have C1 := Lib.hid hc1
  have G1 := Lib.hid hc1.lt
  have L1 := Lib.hid (below_of_grown hg1)
  clear hc1 hg1
  go_wp2_with fail
  refine (l5List_any w.heap.size 5 w1 C1.out (by omega)).mono ?_
  rintro e w2 ⟨gl, cap, L, rfl, ho, hL, hS, hc2, hg2⟩
  obtain ⟨m, hm⟩ : ∃ m, L.length = m := ⟨_, rfl⟩
  have HMM := Lib.hid hm
  rw [hm] at ho hL ⊢
  have O2 := Lib.hid ho
  have S2 := Lib.hid hS
  have C2 := Lib.hid hc2
  have L2 := Lib.hid (below_more L1.out hg2 (Nat.le_refl _))
  clear ho hS hc2 hg2 hm C1 L1
  by_cases h0 : 0 < m
  · go_wp2_with fail
    refine (l1Once_any w.heap.size 3 w2 C2.out (by omega) (by omega)).mono ?_
    rintro e w3 ⟨b, rfl, hc3, hg3⟩
    have O3 := Lib.hid (own_far O2.out hg3 G1.out)
    have L3 := Lib.hid (below_more L2.out hg3 (Nat.le_refl _))
    clear hc3 hg3 C2 O2 L2
    cases b
    · have SR := Lib.hid (own_srk O3.out)
      go_wp2
      go_ret
      exact ⟨gl, cap, L, by rw [HMM.out]; rfl, by rw [HMM.out]; omega, S2.out, SR.out, L3.out⟩
    · have hml : 0 < L.length := by rw [HMM.out]; exact h0
      obtain ⟨v, hv, _, _, _⟩ := bk_of_owns6 O3.out
      obtain ⟨x0, x1, x2, x3, x4, x5⟩ := bk_ce hv 0 hml
      have HR := Lib.hid (S2.out L[0] (List.getElem_mem hml))
      clear hv
      generalize L[0] = r at *
      rw [Nat.zero_mul] at x0 x1 x2 x3 x4 x5
      have O5 := Lib.hid (O3.out.alloc (.cells #[.string r.name, .int .i64 r.ty, .int .i64 r.ttl, .int .i64 r.n, .string r.host, .string r.text] 25))
      have L5 := Lib.hid (L3.out.alloc L3.out.size (.cells #[.string r.name, .int .i64 r.ty, .int .i64 r.ttl, .int .i64 r.n, .string r.host, .string r.text] 25))
      have X5 := Lib.hid (one_sr w3 r)
      have G5 := Lib.hid (show w1.heap.size ≤ (w3.alloc (.cells #[.string r.name, .int .i64 r.ty, .int .i64 r.ttl, .int .i64 r.n, .string r.host, .string r.text] 25)).heap.size from by have := (O5.out.lt gl rfl); omega)
      go_wp2_with (at_builtin; refine append_recs rfl (.tmp 16) (.tmp 20) rfl w1.heap.size gl m cap L rfl O5.out w3.heap.size 0 1 1 _ [r] rfl X5.out ?d1 ?d2 ?d3 ?_)
      case d1 => omega
      case d2 => omega
      case d3 => exact G5.out
      intro g6 cap6 w6 hown hgrow
      have SR := Lib.hid (own_srk hown)
      have HN6 := own_len hown
      have L6 := Lib.hid (L5.out.grown hgrow L5.out.size (fun j hj => by cases hj; have := (O5.out.lt gl rfl).1; have := G1.out; omega))
      have S6 : Hid (∀ x ∈ L ++ [r], Sml x) := fun x hx => by
        rcases List.mem_append.1 hx with hx | hx
        · exact S2.out x hx
        · rw [List.mem_singleton.1 hx]; exact HR.out
      clear hown hgrow O5 L5 X5 x0 x1 x2 x3 x4 x5
      go_wp2
      go_ret
      exact ⟨g6, cap6, L ++ [r], by rw [HN6]; rfl, by rw [HN6]; omega, S6.out, SR.out, L6.out⟩
  · obtain rfl : m = 0 := by omega
    have SR := Lib.hid (own_srk O2.out)
    go_wp2
    go_ret
    exact ⟨gl, cap, L, by rw [HMM.out]; rfl, by rw [HMM.out]; omega, S2.out, SR.out, L2.out⟩

end Go.Proofs.YtbjhkhmhmldjoaaDoor.DrawK

/- What the model's draw for LessRecord does: two records of short texts; nothing that was there is turned. -/
namespace Go.Proofs.YtbjhkhmhmldjoaaDoor.DrawLR
open Go.RowKit Go.Proofs.YtbjhkhmhmldjoaaDoor.Mem Go.Proofs.YtbjhkhmhmldjoaaDoor.MemR Go.Proofs.YtbjhkhmhmldjoaaDoor.BoxR Go.Proofs.YtbjhkhmhmldjoaaDoor.App Go.Proofs.YtbjhkhmhmldjoaaDoor.Draw Go.Proofs.YtbjhkhmhmldjoaaDoor.DrawS Go.Proofs.YtbjhkhmhmldjoaaDoor.DrawL Go.Proofs.YtbjhkhmhmldjoaaDoor.DrawN Go.Proofs.YtbjhkhmhmldjoaaDoor.ResR Go.Proofs.YtbjhkhmhmldjoaaDoor.DrawR Go.Proofs.YtbjhkhmhmldjoaaDoor.DrawA

theorem results_cell_cell {fn : Func} {p u : Tmp} {ty : TypeId} (h : fn.results = #[.cell p ty, .cell u ty]) (tmps : Array Value) (P : Program) (w : World) :
    (results fn tmps).run P w = ((asAddr (tmps.getD p undef)).run P w).andThen fun a w₁ => ((loadVar ty a).run P w₁).andThen fun x w₂ => ((asAddr (tmps.getD u undef)).run P w₂).andThen fun b w₃ => ((loadVar ty b).run P w₃).andThen fun y w₄ => .ok (.tuple #[x, y]) w₄ := by
  simp only [results, h]
  simp [Sem.run_bind, Result.andThen]
theorem res22 {fn : Func} {p u : Tmp} {w : World} {g h : Nat} {t t' : TypeId} {r s : Rec} {tmps : Array Value} (hf : fn.results = #[.cell p 25, .cell u 25]) (h1 : Bk w g t (rc r)) (h2 : Bk w h t' (rc s)) (h4 : tmps.getD p undef = .pointer (some ⟨g, 0, none⟩)) (h5 : tmps.getD u undef = .pointer (some ⟨h, 0, none⟩)) :
    (results fn tmps).run Tryd.prog w = .ok (.tuple #[.agg #[.string r.name, .int .i64 r.ty, .int .i64 r.ttl, .int .i64 r.n, .string r.host, .string r.text], .agg #[.string s.name, .int .i64 s.ty, .int .i64 s.ttl, .int .i64 s.n, .string s.host, .string s.text]]) w := by
  rw [results_cell_cell hf, h4, h5, as_addr]
  simp only [Result.andThen, load_rec h1, as_addr, load_rec h2]

/-- What is known between two steps: the cursor, the two boxes of the result, the two records. -/
def Dl (w : World) (g ga gb : Nat) (ra rb : Rec) (v : World) : Prop :=
  Cur v g ∧ Below w.heap.size w v ∧ Bk v w.heap.size 25 (rc zr) ∧ Bk v (w.heap.size + 1) 25 (rc zr) ∧ Bk v ga 25 (rc ra) ∧ Bk v gb 25 (rc rb) ∧ w.heap.size + 1 < g ∧ g < ga ∧ ga < gb
section
variable {w v v' : World} {g ga gb : Nat} {ra rb : Rec}
theorem Dl.step (h : Dl w g ga gb ra rb v) (hc : Cur v' g) (hg : v.grownBy v' (some g)) : Dl w g ga gb ra rb v' := by
  obtain ⟨_, h2, h3, h4, h5, h6, h7, h8, h9⟩ := h
  exact ⟨hc, h2.grown hg h2.size (fun j hj => by cases hj; omega), h3.grown hg (fun e => by have := Option.some.inj e; omega), h4.grown hg (fun e => by have := Option.some.inj e; omega), h5.grown hg (fun e => by have := Option.some.inj e; omega), h6.grown hg (fun e => by have := Option.some.inj e; omega), h7, h8, h9⟩
theorem Dl.set (h : Dl w g ga gb ra rb v) (j : Nat) (u : Value) (rb' : Rec) (e : (rc rb).set j u = rc rb') : Dl w g ga gb ra rb' (v.setCell ⟨gb, j, none⟩ u) := by
  obtain ⟨h1, h2, h3, h4, h5, h6, h7, h8, h9⟩ := h
  exact ⟨cur_new h1 (by omega) j u, h2.setCell (p := ⟨gb, j, none⟩) (by show w.heap.size ≤ gb; omega) u, h3.other (p := ⟨gb, j, none⟩) (by show w.heap.size ≠ gb; omega) u, h4.other (p := ⟨gb, j, none⟩) (by show w.heap.size + 1 ≠ gb; omega) u, h5.other (p := ⟨gb, j, none⟩) (by show ga ≠ gb; omega) u, by rw [← e]; exact h6.set j u, h7, h8, h9⟩
end
/-- What stands at the return. -/
theorem Dl.fin {w v : World} {g ga gb : Nat} {ra rb : Rec} (h : Dl w g ga gb ra rb v) :
    Bk (fil (fil v w.heap.size ra) (w.heap.size + 1) rb).drew w.heap.size 25 (rc ra) ∧ Bk (fil (fil v w.heap.size ra) (w.heap.size + 1) rb).drew (w.heap.size + 1) 25 (rc rb) ∧ Below w.heap.size w (fil (fil v w.heap.size ra) (w.heap.size + 1) rb).drew := by
  have h1 : Bk (fil (fil v w.heap.size ra) (w.heap.size + 1) rb) w.heap.size 25 (rc ra) := fil_other (fil_bk h.2.2.1 ra) (by omega) rb
  have h2 : Bk (fil (fil v w.heap.size ra) (w.heap.size + 1) rb) (w.heap.size + 1) 25 (rc rb) := fil_bk (r0 := zr) (fil_other h.2.2.2.1 (by omega) ra) rb
  have h3 : Below w.heap.size w (fil (fil v w.heap.size ra) (w.heap.size + 1) rb) := fil_below (fil_below h.2.1 (Nat.le_refl _) ra) (by omega) rb
  generalize fil (fil v w.heap.size ra) (w.heap.size + 1) rb = V at *
  exact ⟨h1, h2, h3.drew⟩
/-- Two records of short texts; nothing that was there is turned. -/
def Rc2 (w : World) (e : Ending) (w' : World) : Prop := ∃ r s : Rec, e = .returned (.tuple #[.agg #[.string r.name, .int .i64 r.ty, .int .i64 r.ttl, .int .i64 r.n, .string r.host, .string r.text], .agg #[.string s.name, .int .i64 s.ty, .int .i64 s.ttl, .int .i64 s.n, .string s.host, .string s.text]]) ∧ Sml r ∧ Sml s ∧ Below w.heap.size w w'

set_option maxHeartbeats 4000000 in
set_option maxRecDepth 100000 in
theorem drawLessRecord_any (A : Option Addr) (n c : Nat) (l : List UInt8) (w : World) (hs : Sl w w.heap.size A n l) (hn : n ≤ 1048576) : Calls Tryd.prog 9 #[.slice A n c] w (Rc2 w) := by
  have HS := Lib.hid (sl_alloc (sl_alloc hs (.cells #[.string ⟨#[]⟩, .int .i64 0, .int .i64 0, .int .i64 0, .string ⟨#[]⟩, .string ⟨#[]⟩] 25)) (.cells #[.string ⟨#[]⟩, .int .i64 0, .int .i64 0, .int .i64 0, .string ⟨#[]⟩, .string ⟨#[]⟩] 25))
  have Z0 : Hid (Bk ((w.alloc (.cells #[.string ⟨#[]⟩, .int .i64 0, .int .i64 0, .int .i64 0, .string ⟨#[]⟩, .string ⟨#[]⟩] 25)).alloc (.cells #[.string ⟨#[]⟩, .int .i64 0, .int .i64 0, .int .i64 0, .string ⟨#[]⟩, .string ⟨#[]⟩] 25)) w.heap.size 25 (rc zr)) := Bk.alloc (heap_alloc_new w _) _
  have Y0 : Hid (Bk ((w.alloc (.cells #[.string ⟨#[]⟩, .int .i64 0, .int .i64 0, .int .i64 0, .string ⟨#[]⟩, .string ⟨#[]⟩] 25)).alloc (.cells #[.string ⟨#[]⟩, .int .i64 0, .int .i64 0, .int .i64 0, .string ⟨#[]⟩, .string ⟨#[]⟩] 25)) (w.heap.size + 1) 25 (rc zr)) := by
    have := heap_alloc_new (w.alloc (.cells #[.string ⟨#[]⟩, .int .i64 0, .int .i64 0, .int .i64 0, .string ⟨#[]⟩, .string ⟨#[]⟩] 25)) (.cells #[.string ⟨#[]⟩, .int .i64 0, .int .i64 0, .int .i64 0, .string ⟨#[]⟩, .string ⟨#[]⟩] 25)
    rw [show (w.alloc (.cells #[.string ⟨#[]⟩, .int .i64 0, .int .i64 0, .int .i64 0, .string ⟨#[]⟩, .string ⟨#[]⟩] 25)).heap.size = w.heap.size + 1 by simp] at this
    exact this
  have L0 := Lib.hid (((Below.refl w.heap.size w).alloc (Nat.le_refl _) (.cells #[.string ⟨#[]⟩, .int .i64 0, .int .i64 0, .int .i64 0, .string ⟨#[]⟩, .string ⟨#[]⟩] 25)).alloc (by simp) (.cells #[.string ⟨#[]⟩, .int .i64 0, .int .i64 0, .int .i64 0, .string ⟨#[]⟩, .string ⟨#[]⟩] 25))
  clear hs
  have K := Lib.hid (l1New_any A n c l _ HS.out hn)
  rw [show ((w.alloc (.cells #[.string ⟨#[]⟩, .int .i64 0, .int .i64 0, .int .i64 0, .string ⟨#[]⟩, .string ⟨#[]⟩] 25)).alloc (.cells #[.string ⟨#[]⟩, .int .i64 0, .int .i64 0, .int .i64 0, .string ⟨#[]⟩, .string ⟨#[]⟩] 25)).heap.size = w.heap.size + 1 + 1 by simp] at K
  go_enter Tryd.func9, Tryd.ntmps9
  go_wp2_with fail
  refine K.out.mono ?_
  rintro e w1 ⟨rfl, hc1, hg1⟩
  have C1 := Lib.hid hc1
  have Z1 := Lib.hid (Z0.out.grown hg1 (fun e => by cases e))
  have Y1 := Lib.hid (Y0.out.grown hg1 (fun e => by cases e))
  have L1 := Lib.hid (L0.out.trans ((below_of_grown hg1).mono L0.out.size))
  clear hc1 hg1 Z0 Y0 L0 K
  go_wp2_with fail
  refine (l5Draw_any (w.heap.size + 1 + 1) w1 C1.out).mono ?_
  rintro e w2 ⟨ra, rfl, hra, hc2, hg2⟩
  have HA := Lib.hid hra
  have C2 := Lib.hid (hc2.alloc (.cells #[.string ra.name, .int .i64 ra.ty, .int .i64 ra.ttl, .int .i64 ra.n, .string ra.host, .string ra.text] 25))
  have G2 := Lib.hid hc2.lt
  have Z2 := Lib.hid ((Z1.out.grown hg2 (fun e => by have := Option.some.inj e; omega)).alloc (.cells #[.string ra.name, .int .i64 ra.ty, .int .i64 ra.ttl, .int .i64 ra.n, .string ra.host, .string ra.text] 25))
  have Y2 := Lib.hid ((Y1.out.grown hg2 (fun e => by have := Option.some.inj e; omega)).alloc (.cells #[.string ra.name, .int .i64 ra.ty, .int .i64 ra.ttl, .int .i64 ra.n, .string ra.host, .string ra.text] 25))
  have L2a := Lib.hid (L1.out.grown hg2 L1.out.size (fun j hj => by cases hj; omega))
  have L2 := Lib.hid (L2a.out.alloc L2a.out.size (.cells #[.string ra.name, .int .i64 ra.ty, .int .i64 ra.ttl, .int .i64 ra.n, .string ra.host, .string ra.text] 25))
  have A2 : Hid (Bk (w2.alloc (.cells #[.string ra.name, .int .i64 ra.ty, .int .i64 ra.ttl, .int .i64 ra.n, .string ra.host, .string ra.text] 25)) w2.heap.size 25 (rc ra)) := heap_alloc_new w2 _
  clear hra hc2 hg2 C1 Z1 Y1 L1 L2a
  go_wp2_with fail
  refine (l5Draw_any (w.heap.size + 1 + 1) _ C2.out).mono ?_
  rintro e w3 ⟨rb, rfl, hrb, hc3, hg3⟩
  have HB := Lib.hid hrb
  have D3 : Hid (Dl w (w.heap.size + 1 + 1) w2.heap.size w3.heap.size ra rb (w3.alloc (.cells #[.string rb.name, .int .i64 rb.ty, .int .i64 rb.ttl, .int .i64 rb.n, .string rb.host, .string rb.text] 25))) := by
    have h1 := L2.out.grown hg3 L2.out.size (fun j hj => by cases hj; omega)
    have h2 := A2.out.grown hg3 (fun e => by have := G2.out; have := Option.some.inj e; omega)
    exact ⟨hc3.alloc _, h1.alloc h1.size _, (Z2.out.grown hg3 (fun e => by have := Option.some.inj e; omega)).alloc _, (Y2.out.grown hg3 (fun e => by have := Option.some.inj e; omega)).alloc _, h2.alloc _, heap_alloc_new w3 _, by omega, G2.out, h2.lt⟩
  clear hrb hc3 hg3 C2 Z2 Y2 L2 A2 G2
  obtain ⟨an, at', al, am, ah, ax⟩ := ra
  obtain ⟨bn, bt, bl, bm, bh, bx⟩ := rb
  dsimp only at D3 ⊢
  go_wp2_with fail
  refine (l1Once_any (w.heap.size + 1 + 1) 2 _ D3.out.1 (by omega) (by omega)).mono ?_
  rintro e w4 ⟨q, rfl, hc4, hg4⟩
  have D4 := Lib.hid (D3.out.step hc4 hg4)
  clear hc4 hg4 D3
  generalize w2.heap.size = ga at *
  generalize w3.heap.size = gb at *
  have hA1 : Hid (an.size ≤ 60) := HA.out.1
  have hA2 : Hid (ah.size ≤ 60) := HA.out.2.1
  have hA3 : Hid (ax.size ≤ 60) := HA.out.2.2
  have hB1 : Hid (bn.size ≤ 60) := HB.out.1
  have hB2 : Hid (bh.size ≤ 60) := HB.out.2.1
  have hB3 : Hid (bx.size ≤ 60) := HB.out.2.2
  clear HA HB
  cases q
  · clear HS
    obtain ⟨z0, z1, z2, z3, z4, z5⟩ := bx_of D4.out.2.2.1
    obtain ⟨y0, y1, y2, y3, y4, y5⟩ := bx_of D4.out.2.2.2.1
    obtain ⟨a0, a1, a2, a3, a4, a5⟩ := bx_of D4.out.2.2.2.2.1
    obtain ⟨b0, b1, b2, b3, b4, b5⟩ := bx_of D4.out.2.2.2.2.2.1
    have fz0 := D4.out.2.2.1.free 0
    have fy0 := D4.out.2.2.2.1.free 0
    have fz1 := D4.out.2.2.1.free 1
    have fy1 := D4.out.2.2.2.1.free 1
    have fz2 := D4.out.2.2.1.free 2
    have fy2 := D4.out.2.2.2.1.free 2
    have fz3 := D4.out.2.2.1.free 3
    have fy3 := D4.out.2.2.2.1.free 3
    have fz4 := D4.out.2.2.1.free 4
    have fy4 := D4.out.2.2.2.1.free 4
    have fz5 := D4.out.2.2.1.free 5
    have fy5 := D4.out.2.2.2.1.free 5
    obtain ⟨_, _, _, _, _, _, o1, o2, o3⟩ := D4.out
    have hne1 : ¬ w.heap.size = w.heap.size + 1 := by omega
    have hne2 : ¬ w.heap.size + 1 = w.heap.size := by omega
    have m1 : ¬ gb = w.heap.size := by omega
    have m2 : ¬ w.heap.size = gb := by omega
    have m3 : ¬ gb = w.heap.size + 1 := by omega
    have m4 : ¬ w.heap.size + 1 = gb := by omega
    have m5 : ¬ ga = w.heap.size := by omega
    have m6 : ¬ w.heap.size = ga := by omega
    have m7 : ¬ ga = w.heap.size + 1 := by omega
    have m8 : ¬ w.heap.size + 1 = ga := by omega
    have FN := Lib.hid (Dl.fin D4.out)
    go_wp2
    go_region
    clear z0 z1 z2 z3 z4 z5 y0 y1 y2 y3 y4 y5 a0 a1 a2 a3 a4 a5 b0 b1 b2 b3 b4 b5
    go_wp2
    exact bodyPost_ret (v := .tuple #[.agg #[.string ((Rec.mk an at' al am ah ax)).name, .int .i64 ((Rec.mk an at' al am ah ax)).ty, .int .i64 ((Rec.mk an at' al am ah ax)).ttl, .int .i64 ((Rec.mk an at' al am ah ax)).n, .string ((Rec.mk an at' al am ah ax)).host, .string ((Rec.mk an at' al am ah ax)).text], .agg #[.string ((Rec.mk bn bt bl bm bh bx)).name, .int .i64 ((Rec.mk bn bt bl bm bh bx)).ty, .int .i64 ((Rec.mk bn bt bl bm bh bx)).ttl, .int .i64 ((Rec.mk bn bt bl bm bh bx)).n, .string ((Rec.mk bn bt bl bm bh bx)).host, .string ((Rec.mk bn bt bl bm bh bx)).text]]) (res22 rfl FN.out.1 FN.out.2.1 rfl rfl) rfl ⟨Rec.mk an at' al am ah ax, Rec.mk bn bt bl bm bh bx, rfl, ⟨hA1.out, hA2.out, hA3.out⟩, ⟨hB1.out, hB2.out, hB3.out⟩, FN.out.2.2⟩
  · clear HS
    have D5 := Lib.hid (D4.out.set 0 (.string an) ⟨an, bt, bl, bm, bh, bx⟩ rfl)
    have D6 := Lib.hid (D5.out.set 1 (.int .i64 at') ⟨an, at', bl, bm, bh, bx⟩ rfl)
    obtain ⟨a0, a1, a2, a3, a4, a5⟩ := bx_of D4.out.2.2.2.2.1
    obtain ⟨b0, b1, b2, b3, b4, b5⟩ := bx_of D4.out.2.2.2.2.2.1
    obtain ⟨c0, c1, c2, c3, c4, c5⟩ := bx_of D5.out.2.2.2.2.1
    obtain ⟨d0, d1, d2, d3, d4, d5⟩ := bx_of D5.out.2.2.2.2.2.1
    have fb0 := D4.out.2.2.2.2.2.1.free 0
    have fb1 := D5.out.2.2.2.2.2.1.free 1
    have KO := Lib.hid (l1Once_any (w.heap.size + 1 + 1) 2 _ D6.out.1 (by omega) (by omega))
    go_wp2_with fail
    refine KO.out.mono ?_
    rintro e w7 ⟨q, rfl, hc7, hg7⟩
    have D7 := Lib.hid (D6.out.step hc7 hg7)
    clear hc7 hg7 D4 D5 D6 KO a0 a1 a2 a3 a4 a5 b0 b1 b2 b3 b4 b5 c0 c1 c2 c3 c4 c5 d0 d1 d2 d3 d4 d5 fb0 fb1
    cases q
    · obtain ⟨z0, z1, z2, z3, z4, z5⟩ := bx_of D7.out.2.2.1
      obtain ⟨y0, y1, y2, y3, y4, y5⟩ := bx_of D7.out.2.2.2.1
      obtain ⟨a0, a1, a2, a3, a4, a5⟩ := bx_of D7.out.2.2.2.2.1
      obtain ⟨b0, b1, b2, b3, b4, b5⟩ := bx_of D7.out.2.2.2.2.2.1
      have fz0 := D7.out.2.2.1.free 0
      have fy0 := D7.out.2.2.2.1.free 0
      have fz1 := D7.out.2.2.1.free 1
      have fy1 := D7.out.2.2.2.1.free 1
      have fz2 := D7.out.2.2.1.free 2
      have fy2 := D7.out.2.2.2.1.free 2
      have fz3 := D7.out.2.2.1.free 3
      have fy3 := D7.out.2.2.2.1.free 3
      have fz4 := D7.out.2.2.1.free 4
      have fy4 := D7.out.2.2.2.1.free 4
      have fz5 := D7.out.2.2.1.free 5
      have fy5 := D7.out.2.2.2.1.free 5
      obtain ⟨_, _, _, _, _, _, o1, o2, o3⟩ := D7.out
      have hne1 : ¬ w.heap.size = w.heap.size + 1 := by omega
      have hne2 : ¬ w.heap.size + 1 = w.heap.size := by omega
      have m1 : ¬ gb = w.heap.size := by omega
      have m2 : ¬ w.heap.size = gb := by omega
      have m3 : ¬ gb = w.heap.size + 1 := by omega
      have m4 : ¬ w.heap.size + 1 = gb := by omega
      have m5 : ¬ ga = w.heap.size := by omega
      have m6 : ¬ w.heap.size = ga := by omega
      have m7 : ¬ ga = w.heap.size + 1 := by omega
      have m8 : ¬ w.heap.size + 1 = ga := by omega
      have FN := Lib.hid (Dl.fin D7.out)
      go_wp2
      go_region
      clear z0 z1 z2 z3 z4 z5 y0 y1 y2 y3 y4 y5 a0 a1 a2 a3 a4 a5 b0 b1 b2 b3 b4 b5
      go_wp2
      exact bodyPost_ret (v := .tuple #[.agg #[.string ((Rec.mk an at' al am ah ax)).name, .int .i64 ((Rec.mk an at' al am ah ax)).ty, .int .i64 ((Rec.mk an at' al am ah ax)).ttl, .int .i64 ((Rec.mk an at' al am ah ax)).n, .string ((Rec.mk an at' al am ah ax)).host, .string ((Rec.mk an at' al am ah ax)).text], .agg #[.string ((Rec.mk an at' bl bm bh bx)).name, .int .i64 ((Rec.mk an at' bl bm bh bx)).ty, .int .i64 ((Rec.mk an at' bl bm bh bx)).ttl, .int .i64 ((Rec.mk an at' bl bm bh bx)).n, .string ((Rec.mk an at' bl bm bh bx)).host, .string ((Rec.mk an at' bl bm bh bx)).text]]) (res22 rfl FN.out.1 FN.out.2.1 rfl rfl) rfl ⟨Rec.mk an at' al am ah ax, Rec.mk an at' bl bm bh bx, rfl, ⟨hA1.out, hA2.out, hA3.out⟩, ⟨hA1.out, hB2.out, hB3.out⟩, FN.out.2.2⟩
    · have D8 := Lib.hid (D7.out.set 3 (.int .i64 am) ⟨an, at', bl, am, bh, bx⟩ rfl)
      have D9 := Lib.hid (D8.out.set 4 (.string ah) ⟨an, at', bl, am, ah, bx⟩ rfl)
      have a3' := (bx_of D7.out.2.2.2.2.1).2.2.2.1
      have b3' := (bx_of D7.out.2.2.2.2.2.1).2.2.2.1
      have a4' := (bx_of D8.out.2.2.2.2.1).2.2.2.2.1
      have b4' := (bx_of D8.out.2.2.2.2.2.1).2.2.2.2.1
      have fb3 := D7.out.2.2.2.2.2.1.free 3
      have fb4 := D8.out.2.2.2.2.2.1.free 4
      obtain ⟨z0, z1, z2, z3, z4, z5⟩ := bx_of D9.out.2.2.1
      obtain ⟨y0, y1, y2, y3, y4, y5⟩ := bx_of D9.out.2.2.2.1
      obtain ⟨a0, a1, a2, a3, a4, a5⟩ := bx_of D9.out.2.2.2.2.1
      obtain ⟨b0, b1, b2, b3, b4, b5⟩ := bx_of D9.out.2.2.2.2.2.1
      have fz0 := D9.out.2.2.1.free 0
      have fy0 := D9.out.2.2.2.1.free 0
      have fz1 := D9.out.2.2.1.free 1
      have fy1 := D9.out.2.2.2.1.free 1
      have fz2 := D9.out.2.2.1.free 2
      have fy2 := D9.out.2.2.2.1.free 2
      have fz3 := D9.out.2.2.1.free 3
      have fy3 := D9.out.2.2.2.1.free 3
      have fz4 := D9.out.2.2.1.free 4
      have fy4 := D9.out.2.2.2.1.free 4
      have fz5 := D9.out.2.2.1.free 5
      have fy5 := D9.out.2.2.2.1.free 5
      obtain ⟨_, _, _, _, _, _, o1, o2, o3⟩ := D9.out
      have hne1 : ¬ w.heap.size = w.heap.size + 1 := by omega
      have hne2 : ¬ w.heap.size + 1 = w.heap.size := by omega
      have m1 : ¬ gb = w.heap.size := by omega
      have m2 : ¬ w.heap.size = gb := by omega
      have m3 : ¬ gb = w.heap.size + 1 := by omega
      have m4 : ¬ w.heap.size + 1 = gb := by omega
      have m5 : ¬ ga = w.heap.size := by omega
      have m6 : ¬ w.heap.size = ga := by omega
      have m7 : ¬ ga = w.heap.size + 1 := by omega
      have m8 : ¬ w.heap.size + 1 = ga := by omega
      have FN := Lib.hid (Dl.fin D9.out)
      go_wp2
      go_region
      clear z0 z1 z2 z3 z4 z5 y0 y1 y2 y3 y4 y5 a0 a1 a2 a3 a4 a5 b0 b1 b2 b3 b4 b5
      go_wp2
      exact bodyPost_ret (v := .tuple #[.agg #[.string ((Rec.mk an at' al am ah ax)).name, .int .i64 ((Rec.mk an at' al am ah ax)).ty, .int .i64 ((Rec.mk an at' al am ah ax)).ttl, .int .i64 ((Rec.mk an at' al am ah ax)).n, .string ((Rec.mk an at' al am ah ax)).host, .string ((Rec.mk an at' al am ah ax)).text], .agg #[.string ((Rec.mk an at' bl am ah bx)).name, .int .i64 ((Rec.mk an at' bl am ah bx)).ty, .int .i64 ((Rec.mk an at' bl am ah bx)).ttl, .int .i64 ((Rec.mk an at' bl am ah bx)).n, .string ((Rec.mk an at' bl am ah bx)).host, .string ((Rec.mk an at' bl am ah bx)).text]]) (res22 rfl FN.out.1 FN.out.2.1 rfl rfl) rfl ⟨Rec.mk an at' al am ah ax, Rec.mk an at' bl am ah bx, rfl, ⟨hA1.out, hA2.out, hA3.out⟩, ⟨hA1.out, hA2.out, hB3.out⟩, FN.out.2.2⟩

end Go.Proofs.YtbjhkhmhmldjoaaDoor.DrawLR

/- What the model's draws for LessRecord and SameRecords do: records of short texts, rows of them; nothing that was there is turned. -/
namespace Go.Proofs.YtbjhkhmhmldjoaaDoor.DrawQ
open Go.RowKit Go.Proofs.YtbjhkhmhmldjoaaDoor.Mem Go.Proofs.YtbjhkhmhmldjoaaDoor.MemR Go.Proofs.YtbjhkhmhmldjoaaDoor.BoxR Go.Proofs.YtbjhkhmhmldjoaaDoor.App Go.Proofs.YtbjhkhmhmldjoaaDoor.Draw Go.Proofs.YtbjhkhmhmldjoaaDoor.DrawS Go.Proofs.YtbjhkhmhmldjoaaDoor.DrawL Go.Proofs.YtbjhkhmhmldjoaaDoor.DrawN Go.Proofs.YtbjhkhmhmldjoaaDoor.AppR Go.Proofs.YtbjhkhmhmldjoaaDoor.ResR Go.Proofs.YtbjhkhmhmldjoaaDoor.DrawR Go.Proofs.YtbjhkhmhmldjoaaDoor.DrawA Go.Proofs.YtbjhkhmhmldjoaaDoor.DrawK Go.Proofs.YtbjhkhmhmldjoaaDoor.OwnR

/-- Two rows of records of short texts; nothing that was there is turned. -/
def Rw2 (w : World) (e : Ending) (w' : World) : Prop :=
  ∃ (gp cp gq cq : Nat) (P Q : List Rec), e = .returned (.tuple #[.slice (some ⟨gp, 0, none⟩) P.length cp, .slice (some ⟨gq, 0, none⟩) Q.length cq]) ∧ P.length ≤ 3 ∧ Q.length ≤ 3 ∧ (∀ r ∈ P, Sml r) ∧ (∀ r ∈ Q, Sml r) ∧ Sr w' w'.heap.size (some ⟨gp, 0, none⟩) P.length P ∧ Sr w' w'.heap.size (some ⟨gq, 0, none⟩) Q.length Q ∧ Below w.heap.size w w'
theorem own_far2 {w w' : World} {base g gl n cap : Nat} {L : List Rec} (h : w.ownsRow base 25 6 (.slice (some ⟨gl, 0, none⟩) n cap) n (fl L)) (hg : w.grownBy w' (some g)) (hb : gl < g) : w'.ownsRow base 25 6 (.slice (some ⟨gl, 0, none⟩) n cap) n (fl L) :=
  h.kept hg (Or.inr (fun e => by have h2 := Option.some.inj e; simp at h2; omega))

set_option maxHeartbeats 4000000 in
set_option maxRecDepth 100000 in
theorem drawSameRecords_any (A : Option Addr) (n c : Nat) (l : List UInt8) (w : World) (hs : Sl w w.heap.size A n l) (hn : n ≤ 1048576) : Calls Tryd.prog 12 #[.slice A n c] w (Rw2 w) := by
  have HS := Lib.hid hs
  clear hs
  go_enter Tryd.func12, Tryd.ntmps12
  go_wp2_with fail
  refine (l1New_any A n c l w HS.out hn).mono ?_
  rintro e w1 ⟨rfl, hc1, hg1⟩
  have C1 := Lib.hid hc1
  have G1 := Lib.hid hc1.lt
  have L1 := Lib.hid (below_of_grown hg1)
  clear hc1 hg1
  go_wp2_with fail
  refine (l5List_any w.heap.size 3 w1 C1.out (by omega)).mono ?_
  rintro e w2 ⟨gl, cap, L, rfl, ho, hL, hS, hc2, hg2⟩
  obtain ⟨m, hm⟩ : ∃ m, L.length = m := ⟨_, rfl⟩
  have HMM := Lib.hid hm
  rw [hm] at ho hL ⊢
  have O2 := Lib.hid ho
  have S2 := Lib.hid hS
  have C2 := Lib.hid hc2
  have L2 := Lib.hid (below_more L1.out hg2 (Nat.le_refl _))
  clear ho hS hc2 hg2 hm C1 L1
  go_wp2_with fail
  refine (l1Once_any w.heap.size 2 w2 C2.out (by omega) (by omega)).mono ?_
  rintro e w3 ⟨b, rfl, hc3, hg3⟩
  have O3 := Lib.hid (own_far O2.out hg3 G1.out)
  have C3 := Lib.hid hc3
  have L3 := Lib.hid (below_more L2.out hg3 (Nat.le_refl _))
  clear hc3 hg3 C2 O2 L2
  cases b
  · go_wp2_with fail
    refine (l5List_any w.heap.size 3 w3 C3.out (by omega)).mono ?_
    rintro e w4 ⟨gq, cq, Q, rfl, ho, hQ, hS, hc4, hg4⟩
    obtain ⟨q, hq⟩ : ∃ q, Q.length = q := ⟨_, rfl⟩
    have HQQ := Lib.hid hq
    rw [hq] at ho hQ ⊢
    have S4 := Lib.hid hS
    have P4 := Lib.hid (own_srk (own_far O3.out hg4 G1.out))
    have Q4 := Lib.hid (own_srk ho)
    have L4 := Lib.hid (below_more L3.out hg4 (Nat.le_refl _))
    clear ho hS hc4 hg4 hq
    go_wp2
    go_ret2
    exact ⟨gl, cap, gq, cq, L, Q, by rw [HMM.out, HQQ.out]; rfl, by rw [HMM.out]; omega, by rw [HQQ.out]; omega, S2.out, S4.out, P4.out, Q4.out, L4.out⟩
  · have SR := Lib.hid (own_srk O3.out)
    have O4 := Lib.hid (own_below O3.out ((Below.refl _ _).alloc (Nat.le_refl _) (.cells #[] 25)))
    have S4 := Lib.hid (own_srk O4.out)
    rw [HMM.out] at S4
    have ON := Lib.hid (AppR.owns_new w3)
    go_wp2_with (at_builtin; refine append_recs rfl (.tmp 13) (.tmp 14) rfl w3.heap.size w3.heap.size 0 0 [] rfl ON.out gl 0 m cap _ L rfl S4.out ?d1 ?d2 ?d3 ?_)
    case d1 => omega
    case d2 => omega
    case d3 => simp
    intro g6 cap6 w6 hown hgrow
    have L6 := Lib.hid ((L3.out.alloc L3.out.size (.cells #[] 25)).grown hgrow (by have := L3.out.size; simp; omega) (fun j hj => by cases hj; exact L3.out.size))
    have P6 := Lib.hid (own_srk (own_far2 O4.out hgrow (O3.out.lt gl rfl).2))
    have Q6 := Lib.hid (own_srk hown)
    clear hown hgrow
    go_wp2
    go_ret2
    exact ⟨gl, cap, g6, cap6, L, L, by rw [HMM.out]; simp, by rw [HMM.out]; omega, by rw [HMM.out]; omega, S2.out, S2.out, P6.out, Q6.out, L6.out⟩

end Go.Proofs.YtbjhkhmhmldjoaaDoor.DrawQ

/- What the program's RecordText does. -/
namespace Go.Proofs.YtbjhkhmhmldjoaaDoor.RecTextI
open Go.RowKit Go.Proofs.YtbjhkhmhmldjoaaDoor.Mem Go.Proofs.YtbjhkhmhmldjoaaDoor.MemS Go.Proofs.YtbjhkhmhmldjoaaDoor.MemR Go.Proofs.YtbjhkhmhmldjoaaDoor.Labels Go.Proofs.YtbjhkhmhmldjoaaDoor.NameOk Go.Proofs.YtbjhkhmhmldjoaaDoor.TextR Go.Proofs.YtbjhkhmhmldjoaaDoor.BoxR Go.Proofs.YtbjhkhmhmldjoaaDoor.RecOk Go.Proofs.YtbjhkhmhmldjoaaDoor.Types Go.Proofs.YtbjhkhmhmldjoaaDoor.Num Go.Proofs.YtbjhkhmhmldjoaaDoor.RecText

/-- Nothing of w has been turned. A def, so that no step of a walk opens it. -/
def Sv (w w' : World) : Prop := Below w.heap.size w w'
/-- What is kept through the region: the box of the record, and that nothing of w has been turned. -/
theorem kept {w w1 w2 : World} {g : Nat} {r : Rec} (h : (w1.cell? ⟨g, 0, none⟩ = some (.string r.name) ∧ w1.cell? ⟨g, 1, none⟩ = some (.int .i64 r.ty) ∧ w1.cell? ⟨g, 2, none⟩ = some (.int .i64 r.ttl) ∧ w1.cell? ⟨g, 3, none⟩ = some (.int .i64 r.n) ∧ w1.cell? ⟨g, 4, none⟩ = some (.string r.host) ∧ w1.cell? ⟨g, 5, none⟩ = some (.string r.text)) ∧ Sv w w1) (hl : Below w1.heap.size w1 w2) : (w2.cell? ⟨g, 0, none⟩ = some (.string r.name) ∧ w2.cell? ⟨g, 1, none⟩ = some (.int .i64 r.ty) ∧ w2.cell? ⟨g, 2, none⟩ = some (.int .i64 r.ttl) ∧ w2.cell? ⟨g, 3, none⟩ = some (.int .i64 r.n) ∧ w2.cell? ⟨g, 4, none⟩ = some (.string r.host) ∧ w2.cell? ⟨g, 5, none⟩ = some (.string r.text)) ∧ Sv w w2 :=
  ⟨(show Bx w2 g r from (show Bx w1 g r from h.1).below hl), (show Below w.heap.size w w1 from h.2).trans (hl.mono (show Below w.heap.size w w1 from h.2).size)⟩
theorem kept_draw {w w1 : World} {g : Nat} {r : Rec} (h : (w1.cell? ⟨g, 0, none⟩ = some (.string r.name) ∧ w1.cell? ⟨g, 1, none⟩ = some (.int .i64 r.ty) ∧ w1.cell? ⟨g, 2, none⟩ = some (.int .i64 r.ttl) ∧ w1.cell? ⟨g, 3, none⟩ = some (.int .i64 r.n) ∧ w1.cell? ⟨g, 4, none⟩ = some (.string r.host) ∧ w1.cell? ⟨g, 5, none⟩ = some (.string r.text)) ∧ Sv w w1) : (w1.drew.cell? ⟨g, 0, none⟩ = some (.string r.name) ∧ w1.drew.cell? ⟨g, 1, none⟩ = some (.int .i64 r.ty) ∧ w1.drew.cell? ⟨g, 2, none⟩ = some (.int .i64 r.ttl) ∧ w1.drew.cell? ⟨g, 3, none⟩ = some (.int .i64 r.n) ∧ w1.drew.cell? ⟨g, 4, none⟩ = some (.string r.host) ∧ w1.drew.cell? ⟨g, 5, none⟩ = some (.string r.text)) ∧ Sv w w1.drew := kept h ((Below.refl _ _).drew)
theorem kept_alloc {w w1 : World} {g : Nat} {r : Rec} (h : (w1.cell? ⟨g, 0, none⟩ = some (.string r.name) ∧ w1.cell? ⟨g, 1, none⟩ = some (.int .i64 r.ty) ∧ w1.cell? ⟨g, 2, none⟩ = some (.int .i64 r.ttl) ∧ w1.cell? ⟨g, 3, none⟩ = some (.int .i64 r.n) ∧ w1.cell? ⟨g, 4, none⟩ = some (.string r.host) ∧ w1.cell? ⟨g, 5, none⟩ = some (.string r.text)) ∧ Sv w w1) (o : Obj) : ((w1.alloc o).cell? ⟨g, 0, none⟩ = some (.string r.name) ∧ (w1.alloc o).cell? ⟨g, 1, none⟩ = some (.int .i64 r.ty) ∧ (w1.alloc o).cell? ⟨g, 2, none⟩ = some (.int .i64 r.ttl) ∧ (w1.alloc o).cell? ⟨g, 3, none⟩ = some (.int .i64 r.n) ∧ (w1.alloc o).cell? ⟨g, 4, none⟩ = some (.string r.host) ∧ (w1.alloc o).cell? ⟨g, 5, none⟩ = some (.string r.text)) ∧ Sv w (w1.alloc o) := kept h ((Below.refl _ _).alloc (Nat.le_refl _) _)

theorem join4 (a b c d : ByteArray) : Lib.join ([a, b, c, d].map (·.data.toList)) [32] = (a ++ ⟨#[32]⟩ ++ b ++ ⟨#[32]⟩ ++ c ++ ⟨#[32]⟩ ++ d).data.toList := by
  simp [Lib.join, List.intercalate]

/-- strings.Join of four words with a blank between them. -/
theorem words (W : World) (g : Nat) (a b c d : ByteArray) (hb : Bk W g 9 [.string a, .string b, .string c, .string d]) (ha : a.size ≤ 1000) (hb' : b.size ≤ 1000) (hc : c.size ≤ 1000) (hd : d.size ≤ 1000) :
    Calls Tryd.prog 53 #[.slice (some ⟨g, 0, none⟩) 4 4, .string ⟨#[32]⟩] W fun e w' => e = .returned (.string (a ++ ⟨#[32]⟩ ++ b ++ ⟨#[32]⟩ ++ c ++ ⟨#[32]⟩ ++ d)) ∧ Below W.heap.size W w' := by
  have hs := bk_ssw0 (l := [a, b, c, d]) (n := 4) hb rfl
  obtain ⟨b', off, hA, hlt, hcs⟩ := hs.2 (by omega)
  simp only [Option.some.injEq, Addr.mk.injEq, and_true] at hA
  obtain ⟨rfl, rfl⟩ := hA
  have e : (⟨(Lib.join ([a, b, c, d].map (·.data.toList)) [32]).toArray⟩ : ByteArray) = a ++ ⟨#[32]⟩ ++ b ++ ⟨#[32]⟩ ++ c ++ ⟨#[32]⟩ ++ d := text_ext (by rw [← join4])
  rw [← e]
  refine Go.Proofs.Any.strings_Join Tryd.lays156 Tryd.Builder_Extra_156 g 0 4 [a, b, c, d] ⟨#[32]⟩ W (fun j x hx => by
    obtain ⟨hj, rfl⟩ := List.getElem?_eq_some_iff.1 hx
    exact hcs j hj) hlt (by simp) (by simp) ?_
  show (Lib.join ([a, b, c, d].map (·.data.toList)) [32]).length ≤ _
  rw [join4]
  have z : ∀ x : ByteArray, x.data.toList.length = x.size := fun x => by simp
  rw [z, add_size, add_size, add_size, add_size, add_size, add_size, one_size]
  omega

set_option maxHeartbeats 4000000 in
theorem impl (r : Rec) (w : World) (he : Env w) (ht : Tab w) (hr : Mod r) : Calls Tryd.prog 18 #[.agg #[.string r.name, .int .i64 r.ty, .int .i64 r.ttl, .int .i64 r.n, .string r.host, .string r.text]] w fun e w' => e = .returned (.string (rtx r)) ∧ Below w.heap.size w w' := by
  have HE := Lib.hid he
  have HT := Lib.hid ht
  have HR := Lib.hid hr
  clear hr he ht
  have L0 := Lib.hid ((Below.refl w.heap.size w).alloc (Nat.le_refl _) (.cells #[.string r.name, .int .i64 r.ty, .int .i64 r.ttl, .int .i64 r.n, .string r.host, .string r.text] 25))
  have X0 := Lib.hid (bx_new w 25 r)
  cases hk : rok r
  · have HV : Hid (rtx r = ⟨#[]⟩) := if_neg (by rw [hk]; simp)
    have HK := Lib.hid hk
    clear hk
    go_enter Tryd.func18, Tryd.ntmps18
    go_wp2_with fail
    refine (RecOk.impl r _ (HE.out.below L0.out) HR.out).mono ?_
    rw [HK.out]
    rintro e w1 ⟨rfl, hl⟩
    have L1 := Lib.hid (L0.out.trans (hl.mono L0.out.size))
    clear hl L0 X0
    go_wp2
    go_ret
    exact ⟨by rw [HV.out]; rfl, L1.out⟩
  · have HV : Hid (rtx r = pre r ++ dtx r.ty r.n r.host r.text) := if_pos hk
    obtain ⟨⟨q0, q1⟩, ⟨q2, q3⟩, z1, z2, z3, hy⟩ := rok_of hk
    have HK := Lib.hid hk
    clear hk
    have WT := Lib.hid (wf_of q0 (by omega))
    have HY := Lib.hid hy
    have zt := txt_size q0 (by omega)
    have zn := txt_size q2 q3
    have QN : Hid (0 ≤ r.n ∧ r.n ≤ 2147483647) := ⟨q2, q3⟩
    have ZZ : Hid (r.host.size ≤ 50 ∧ r.text.size ≤ 12) := ⟨z2, z3⟩
    clear q0 q1 q2 q3 hy z2 z3
    go_enter Tryd.func18, Tryd.ntmps18
    go_wp2_with fail
    refine (RecOk.impl r _ (HE.out.below L0.out) HR.out).mono ?_
    rw [HK.out]
    rintro e w1 ⟨rfl, hl⟩
    have L1 := Lib.hid (L0.out.trans (hl.mono L0.out.size))
    have X1 := Lib.hid (X0.out.below hl)
    clear hl L0 X0
    go_wp2_with fail
    have DI := Lib.hid (fun W (h : Sv w W) => RecText.data r W (HT.out.below h) ZZ.out.1 ZZ.out.2 QN.out.1 QN.out.2 HY.out)
    have NI := Lib.hid (fun W (h : Sv w W) => Num.impl r.ttl WT.out W (HT.out.below h))
    have S0 : (w1.cell? ⟨w.heap.size, 0, none⟩ = some (.string r.name) ∧ w1.cell? ⟨w.heap.size, 1, none⟩ = some (.int .i64 r.ty) ∧ w1.cell? ⟨w.heap.size, 2, none⟩ = some (.int .i64 r.ttl) ∧ w1.cell? ⟨w.heap.size, 3, none⟩ = some (.int .i64 r.n) ∧ w1.cell? ⟨w.heap.size, 4, none⟩ = some (.string r.host) ∧ w1.cell? ⟨w.heap.size, 5, none⟩ = some (.string r.text)) ∧ Sv w w1 := ⟨X1.out, L1.out⟩
    go_region_held3 (fun w' => (w'.cell? ⟨w.heap.size, 0, none⟩ = some (.string r.name) ∧ w'.cell? ⟨w.heap.size, 1, none⟩ = some (.int .i64 r.ty) ∧ w'.cell? ⟨w.heap.size, 2, none⟩ = some (.int .i64 r.ttl) ∧ w'.cell? ⟨w.heap.size, 3, none⟩ = some (.int .i64 r.n) ∧ w'.cell? ⟨w.heap.size, 4, none⟩ = some (.string r.host) ∧ w'.cell? ⟨w.heap.size, 5, none⟩ = some (.string r.text)) ∧ Sv w w')
      (first | exact S0 | assumption | exact kept (by assumption) hl | exact kept_alloc (by assumption) _ | exact kept_draw (by assumption))
      (first
        | (go_at_call 49; refine (dot_impl r.name _).mono ?_; rintro e w11 ⟨rfl, rfl⟩)
        | (go_at_call 51; refine (impl_text r.ty _).mono ?_; rintro e w12 ⟨rfl, rfl⟩)
        | (go_at_call 50; refine (NI.out _ (And.right (by assumption))).mono ?_; rintro e w13 ⟨rfl, hl⟩)
        | (go_at_call 52; refine (DI.out _ (And.right (by assumption))).mono ?_; rintro e w14 ⟨rfl, hl⟩))
    rename_i hH
    have L2 := Lib.hid (show Below w.heap.size w _ from hH.2)
    have d1 := dot_size r.name
    have d3 := tt_size r.ty
    have d4 := dtx_size r.ty r.n r.host r.text zn ZZ.out.1 ZZ.out.2
    have HF : Hid (dot r.name ++ ⟨#[32]⟩ ++ Txt r.ttl ++ ⟨#[32]⟩ ++ tt r.ty ++ ⟨#[32]⟩ ++ dtx r.ty r.n r.host r.text = rtx r) := HV.out.symm
    have B2 := Lib.hid (show Bk (w14.alloc (.cells #[.string (dot r.name), .string (Txt r.ttl), .string (tt r.ty), .string (dtx r.ty r.n r.host r.text)] 9)) w14.heap.size 9 [.string (dot r.name), .string (Txt r.ttl), .string (tt r.ty), .string (dtx r.ty r.n r.host r.text)] from heap_alloc_new _ _)
    clear S0 hH
    generalize w14.alloc (.cells #[.string (dot r.name), .string (Txt r.ttl), .string (tt r.ty), .string (dtx r.ty r.n r.host r.text)] 9) = wq at *
    go_wp2_with fail
    refine (words wq w14.heap.size _ _ _ _ B2.out (by omega) (by omega) (by omega) (by omega)).mono ?_
    rw [HF.out]
    rintro e w15 ⟨rfl, hl⟩
    have L3 := Lib.hid (L2.out.trans (hl.mono L2.out.size))
    clear hl
    go_wp2
    go_ret
    exact ⟨rfl, L3.out⟩

end Go.Proofs.YtbjhkhmhmldjoaaDoor.RecTextI

/- What SameRecords does in the program and in the model: whether two lists of records are equal in all fields of all records. Condition: fewer than 400000001 records. -/
namespace Go.Proofs.YtbjhkhmhmldjoaaDoor.SameR
open Go.RowKit Go.Proofs.YtbjhkhmhmldjoaaDoor.Mem Go.Proofs.YtbjhkhmhmldjoaaDoor.MemR

/-- Whether two lists of records are equal. A def, so that no step of a walk opens it. -/
noncomputable def sm (l m : List Rec) : Bool := @decide (l = m) (Classical.propDecidable _)
theorem sm_true {l m : List Rec} (h : l = m) : sm l m = true := @decide_eq_true _ (Classical.propDecidable _) h
theorem sm_false {l m : List Rec} (h : l ≠ m) : sm l m = false := @decide_eq_false _ (Classical.propDecidable _) h
theorem bytes_ne {a b : ByteArray} (h : a ≠ b) : (a.toList == b.toList) = false := by
  cases e : (a.toList == b.toList) with
  | false => rfl
  | true =>
    have := eq_of_beq e
    rw [ByteArray.toList_eq, ByteArray.toList_eq] at this
    exact absurd (by cases a; cases b; congr; exact Array.toList_inj.1 this) h
theorem neq_same (r : Rec) (w : World) : Sem.run Tryd.prog (binOp .neq 25 (.agg #[.string r.name, .int .i64 r.ty, .int .i64 r.ttl, .int .i64 r.n, .string r.host, .string r.text]) (.agg #[.string r.name, .int .i64 r.ty, .int .i64 r.ttl, .int .i64 r.n, .string r.host, .string r.text])) w = .ok (.bool false) w := by
  have u3 := Tryd.underlying3
  have a3 := Tryd.isAgg3
  have z3 := Tryd.sizeOf3
  have u9 := Tryd.underlying9
  have a9 := Tryd.isAgg9
  have z9 := Tryd.sizeOf9
  have hS : Tryd.prog.underlying 25 = some (.struct (Tryd.prog.fieldsOf 25)) := by kernel_rfl
  have hp : Tryd.prog.stoodInHeld 25 = false := by kernel_rfl
  rw [run_neq_struct, show (10000 : Nat) = 9999 + 1 from rfl, run_equalIn_agg w 9999 25 _ _ hS hp]
  simp only [Program.fieldsOf, Tryd.underlying25]
  go_simp

theorem neq_diff {r s : Rec} (h : r ≠ s) (w : World) : Sem.run Tryd.prog (binOp .neq 25 (.agg #[.string r.name, .int .i64 r.ty, .int .i64 r.ttl, .int .i64 r.n, .string r.host, .string r.text]) (.agg #[.string s.name, .int .i64 s.ty, .int .i64 s.ttl, .int .i64 s.n, .string s.host, .string s.text])) w = .ok (.bool true) w := by
  have u3 := Tryd.underlying3
  have a3 := Tryd.isAgg3
  have z3 := Tryd.sizeOf3
  have u9 := Tryd.underlying9
  have a9 := Tryd.isAgg9
  have z9 := Tryd.sizeOf9
  have hS : Tryd.prog.underlying 25 = some (.struct (Tryd.prog.fieldsOf 25)) := by kernel_rfl
  have hp : Tryd.prog.stoodInHeld 25 = false := by kernel_rfl
  rw [run_neq_struct, show (10000 : Nat) = 9999 + 1 from rfl, run_equalIn_agg w 9999 25 _ _ hS hp]
  simp only [Program.fieldsOf, Tryd.underlying25]
  obtain ⟨n1, t1, l1, m1, h1, x1⟩ := r
  obtain ⟨n2, t2, l2, m2, h2, x2⟩ := s
  simp only
  by_cases c0 : n1 = n2
  · subst c0
    by_cases c1 : t1 = t2
    · subst c1
      by_cases c2 : l1 = l2
      · subst c2
        by_cases c3 : m1 = m2
        · subst c3
          by_cases c4 : h1 = h2
          · subst c4
            by_cases c5 : x1 = x2
            · subst c5; exact absurd rfl h
            · have k := bytes_ne c5
              go_simp
          · have k := bytes_ne c4
            go_simp
        · go_simp
      · go_simp
    · go_simp
  · have k := bytes_ne c0
    go_simp

theorem grd : Tryd.prog.eqGuardType Tryd.prog.depth 25 = false := by kernel_rfl

theorem take_same {l m : List Rec} {k : Nat} (h : l.take k = m.take k) (h1 : k < l.length) (h2 : k < m.length) (e : l[k] = m[k]) : l.take (k + 1) = m.take (k + 1) := by
  rw [List.take_succ_eq_append_getElem h1, List.take_succ_eq_append_getElem h2, h, e]
theorem take_all {l m : List Rec} {n : Nat} (h : l.take n = m.take n) (h1 : l.length = n) (h2 : m.length = n) : l = m := by
  rwa [List.take_of_length_le (by omega), List.take_of_length_le (by omega)] at h
theorem at_diff {l m : List Rec} {k : Nat} (h1 : k < l.length) (h2 : k < m.length) (e : l[k] ≠ m[k]) : l ≠ m := fun h => by subst h; exact e rfl

set_option maxHeartbeats 1000000 in
theorem recs (A A' : Option Addr) (n c n' c' : Nat) (l m : List Rec) (w : World) (hs : Sr w w.heap.size A n l) (hs' : Sr w w.heap.size A' n' m) (hn : n ≤ 400000000) (hn' : n' ≤ 400000000) :
    Calls Tryd.prog 16 #[.slice A n c, .slice A' n' c'] w fun e w' => e = .returned (.bool (sm l m)) ∧ Below w.heap.size w w' := by
  have mixed : Tryd.prog.follows .mixedOrders = true := by kernel_rfl
  have hg := grd
  have HS := Lib.hid hs
  have HT := Lib.hid hs'
  clear hs hs'
  by_cases hnn : n = n'
  · obtain rfl := hnn
    have hd : ((n : Int) != (n : Int)) = false := by simp
    go_enter Tryd.func16, Tryd.ntmps16
    go_wp2
    go_loopw [5] (fun i wr => ∃ k : Nat, k ≤ n ∧ i = .int .i64 k ∧ Hid (∃ q, wr = w.drewN q) ∧ Hid (l.take k = m.take k)) (fun i _ => n - (intOf i).toNat)
    case atStart => exact ⟨0, Nat.zero_le _, rfl, ⟨0, rfl⟩, rfl⟩
    case round =>
      obtain ⟨k, hk, rfl, HW, HK⟩ := hrel
      obtain ⟨q, rfl⟩ := HW.out
      clear HW
      by_cases hlt : k < n
      · obtain ⟨b, off, rfl, hbB, hcs⟩ := HS.out.2 (by omega)
        obtain ⟨b', off', rfl, hbB', hcs'⟩ := HT.out.2 (by omega)
        have hkl : k < l.length := by rw [HS.out.1]; exact hlt
        have hkm : k < m.length := by rw [HT.out.1]; exact hlt
        obtain ⟨e0, e1, e2, e3, e4, e5⟩ := hcs k hkl
        obtain ⟨f0, f1, f2, f3, f4, f5⟩ := hcs' k hkm
        clear hcs hcs'
        by_cases hrs : l[k] = m[k]
        · have HN := Lib.hid (take_same HK.out hkl hkm hrs)
          rw [← hrs] at f0 f1 f2 f3 f4 f5
          clear hrs
          generalize l[k] = r at *
          have hq := neq_same r
          go_wp2
          go_quiet (fail)
          clear hq e0 e1 e2 e3 e4 e5 f0 f1 f2 f3 f4 f5
          go_wp2
          go_roundw
          case rel => exact ⟨k + 1, by omega, by go_num, ⟨_, rfl⟩, HN.out⟩
          case measure => simp [intOf]; omega
        · have HN := Lib.hid (sm_false (at_diff hkl hkm hrs))
          have hq := neq_diff hrs
          clear hrs
          generalize l[k] = r at *
          generalize m[k] = s at *
          go_wp2
          go_quiet (fail)
          clear hq e0 e1 e2 e3 e4 e5 f0 f1 f2 f3 f4 f5
          go_wp2
          go_ret
          exact ⟨by rw [HN.out]; rfl, (drewN_below w q _).trans (drewN_below _ _ _)⟩
      · obtain rfl : n = k := by omega
        have HN := Lib.hid (sm_true (take_all HK.out HS.out.1 HT.out.1))
        go_wp2
        go_ret
        exact ⟨by rw [HN.out]; rfl, drewN_below _ _ _⟩
  · have hd : ((n : Int) != (n' : Int)) = true := by rw [bne_iff_ne]; omega
    have HN := Lib.hid (sm_false (l := l) (m := m) (fun h => hnn (by rw [← HS.out.1, ← HT.out.1, h])))
    clear hnn
    go_enter Tryd.func16, Tryd.ntmps16
    go_wp2
    go_ret
    exact ⟨by rw [HN.out]; rfl, Below.refl _ _⟩

set_option maxHeartbeats 1000000 in
theorem equal (A A' : Option Addr) (n c n' c' : Nat) (l m : List Rec) (w : World) (hs : Sr w w.heap.size A n l) (hs' : Sr w w.heap.size A' n' m) (hn : n ≤ 400000000) (hn' : n' ≤ 400000000) :
    Calls Tryd.prog 63 #[.slice A n c, .slice A' n' c'] w fun e w' => e = .returned (.bool (sm l m)) ∧ Below w.heap.size w w' := by
  have mixed : Tryd.prog.follows .mixedOrders = true := by kernel_rfl
  have hg := grd
  have HS := Lib.hid hs
  have HT := Lib.hid hs'
  clear hs hs'
  by_cases hnn : n = n'
  · obtain rfl := hnn
    have hd : ((n : Int) != (n : Int)) = false := by simp
    go_enter Tryd.func63, Tryd.ntmps63
    go_wp2
    go_loopw [13] (fun i wr => ∃ k : Nat, k ≤ n ∧ i = .int .i64 k ∧ Hid (∃ q, wr = w.drewN q) ∧ Hid (l.take k = m.take k)) (fun i _ => n - (intOf i).toNat)
    case atStart => exact ⟨0, Nat.zero_le _, rfl, ⟨0, rfl⟩, rfl⟩
    case round =>
      obtain ⟨k, hk, rfl, HW, HK⟩ := hrel
      obtain ⟨q, rfl⟩ := HW.out
      clear HW
      by_cases hlt : k < n
      · obtain ⟨b, off, rfl, hbB, hcs⟩ := HS.out.2 (by omega)
        obtain ⟨b', off', rfl, hbB', hcs'⟩ := HT.out.2 (by omega)
        have hkl : k < l.length := by rw [HS.out.1]; exact hlt
        have hkm : k < m.length := by rw [HT.out.1]; exact hlt
        obtain ⟨e0, e1, e2, e3, e4, e5⟩ := hcs k hkl
        obtain ⟨f0, f1, f2, f3, f4, f5⟩ := hcs' k hkm
        clear hcs hcs'
        by_cases hrs : l[k] = m[k]
        · have HN := Lib.hid (take_same HK.out hkl hkm hrs)
          rw [← hrs] at f0 f1 f2 f3 f4 f5
          clear hrs
          generalize l[k] = r at *
          have hq := neq_same r
          go_wp2
          go_quiet (fail)
          clear hq e0 e1 e2 e3 e4 e5 f0 f1 f2 f3 f4 f5
          go_wp2
          go_roundw
          case rel => exact ⟨k + 1, by omega, by go_num, ⟨_, rfl⟩, HN.out⟩
          case measure => simp [intOf]; omega
        · have HN := Lib.hid (sm_false (at_diff hkl hkm hrs))
          have hq := neq_diff hrs
          clear hrs
          generalize l[k] = r at *
          generalize m[k] = s at *
          go_wp2
          go_quiet (fail)
          clear hq e0 e1 e2 e3 e4 e5 f0 f1 f2 f3 f4 f5
          go_wp2
          go_ret
          exact ⟨by rw [HN.out]; rfl, (drewN_below w q _).trans (drewN_below _ _ _)⟩
      · obtain rfl : n = k := by omega
        have HN := Lib.hid (sm_true (take_all HK.out HS.out.1 HT.out.1))
        go_wp2
        go_ret
        exact ⟨by rw [HN.out]; rfl, drewN_below _ _ _⟩
  · have hd : ((n : Int) != (n' : Int)) = true := by rw [bne_iff_ne]; omega
    have HN := Lib.hid (sm_false (l := l) (m := m) (fun h => hnn (by rw [← HS.out.1, ← HT.out.1, h])))
    clear hnn
    go_enter Tryd.func63, Tryd.ntmps63
    go_wp2
    go_ret
    exact ⟨by rw [HN.out]; rfl, Below.refl _ _⟩

theorem impl (A A' : Option Addr) (n c n' c' : Nat) (l m : List Rec) (w : World) (hs : Sr w w.heap.size A n l) (hs' : Sr w w.heap.size A' n' m) (hn : n ≤ 400000000) (hn' : n' ≤ 400000000) :
    Calls Tryd.prog 22 #[.slice A n c, .slice A' n' c'] w fun e w' => e = .returned (.bool (sm l m)) ∧ Below w.heap.size w w' := by
  have E := Lib.hid (equal A A' n c n' c' l m w hs hs' hn hn')
  clear hs hs'
  go_enter Tryd.func22, Tryd.ntmps22
  go_wp2_with fail
  refine E.out.mono ?_
  rintro e w1 ⟨rfl, hl⟩
  have L := Lib.hid hl
  clear hl
  go_wp2
  go_ret
  exact ⟨rfl, L.out⟩

end Go.Proofs.YtbjhkhmhmldjoaaDoor.SameR

/- What the law's own helpers eqByteS, markByteS and heldByteS do on slices of bytes. Condition: fewer than 400000001 bytes. -/
namespace Go.Proofs.YtbjhkhmhmldjoaaDoor.Eq
open Go.RowKit Go.Proofs.YtbjhkhmhmldjoaaDoor.Mem

theorem cast_ne {a b : UInt8} (h : a ≠ b) : ((a.toNat : Int) != (b.toNat : Int)) = true := by
  rw [bne_iff_ne]; intro e; exact h (UInt8.toNat_inj.1 (by omega))
theorem cast_eq {a b : UInt8} (h : a = b) : ((a.toNat : Int) != (b.toNat : Int)) = false := by subst h; simp

/-- Two lists that agree as far as k, and part at k. -/
theorem ne_at {l m : List UInt8} {k : Nat} (h : k < l.length) (h' : k < m.length) (hne : l[k] ≠ m[k]) : (l == m) = false := by
  rw [beq_eq_false_iff_ne]; rintro rfl; exact hne rfl
theorem eq_all {l m : List UInt8} (hl : l.length = m.length) (h : l.take l.length = m.take l.length) : (l == m) = true := by
  rw [List.take_length, hl, List.take_length] at h; simp [h]
theorem take_step {l m : List UInt8} {k : Nat} (hk : k < l.length) (hk' : k < m.length) (h : l.take k = m.take k) (he : l[k] = m[k]) : l.take (k + 1) = m.take (k + 1) := by
  rw [List.take_succ_eq_append_getElem hk, List.take_succ_eq_append_getElem hk', h, he]

/-- The numbers that markByteS lays: k, k + 1 and so on, as bytes. -/
def marks : Nat → Nat → List Value
  | _, 0 => []
  | k, n + 1 => Value.int .u8 ((k : Int) % 256) :: marks (k + 1) n
theorem marks_length (k n : Nat) : (marks k n).length = n := by
  induction n generalizing k with
  | zero => rfl
  | succ n ih => simp [marks, ih]
theorem marks_at (k n j : Nat) (h : j < n) : (marks k n)[j]? = some (Value.int .u8 (((k : Int) + (j : Int)) % 256)) := by
  induction n generalizing k j with
  | zero => omega
  | succ n ih =>
    cases j with
    | zero => simp [marks]
    | succ j => simp only [marks, List.getElem?_cons_succ]; rw [ih (k + 1) j (by omega)]; rw [show ((k + 1 : Nat) : Int) + (j : Int) = (k : Int) + ((j + 1 : Nat) : Int) by omega]
theorem marks_snoc (k n : Nat) : marks k (n + 1) = marks k n ++ [Value.int .u8 (((k : Int) + (n : Int)) % 256)] := by
  induction n generalizing k with
  | zero => simp [marks]
  | succ n ih => rw [marks, ih (k + 1), marks, List.cons_append, show ((k + 1 : Nat) : Int) + (n : Int) = (k : Int) + ((n + 1 : Nat) : Int) by omega]

theorem mark_step (cs : List Value) (k j n : Nat) (hj : j < n) (hn : n ≤ cs.length) :
    (marks k j ++ cs.drop j).set j (Value.int .u8 (((k : Int) + (j : Int)) % 256)) = marks k (j + 1) ++ cs.drop (j + 1) := by
  rw [List.set_append_right _ _ (by rw [marks_length]; omega), marks_length, Nat.sub_self, List.drop_eq_getElem_cons (by omega), List.set_cons_zero, marks_snoc, List.append_assoc]
  rfl
theorem mark_at (cs : List Value) (k j : Nat) (hj : j < cs.length) : (marks k j ++ cs.drop j)[j]? = some cs[j] := by
  rw [List.getElem?_append_right (by rw [marks_length]; omega), marks_length, Nat.sub_self, List.drop_eq_getElem_cons hj]
  rfl

theorem grown_set {w wr : World} {g : Nat} (h : w.grownBy wr (some g)) (j : Nat) (u : Value) : w.grownBy (wr.setCell ⟨g, j, none⟩ u) (some g) :=
  ⟨h.os, h.tape, h.output, by simpa [World.setCell] using h.size, fun k hk hne => by
    rw [Below.heap_setCell _ _ _ _ (fun e => hne (by simp [e]))]; exact h.block k hk hne⟩

theorem byte_ne_self (x : Int) : (x != x) = false := by simp

end Go.Proofs.YtbjhkhmhmldjoaaDoor.Eq

/- What the laws' own comparison of two slices of bytes does. Condition: fewer than 400000001 bytes. -/
namespace Go.Proofs.YtbjhkhmhmldjoaaDoor.Same
open Go.RowKit Go.Proofs.YtbjhkhmhmldjoaaDoor.Mem Go.Proofs.YtbjhkhmhmldjoaaDoor.Eq

theorem big_no (A : Option Addr) (n c : Nat) (w : World) (h : n ≤ 1048576) : Calls Tryd.prog 8 #[.slice A n c] w fun e w' => e = .returned (.bool false) ∧ w = w' := by
  have hd : decide ((1048576 : Int) < (n : Int)) = false := by simp; omega
  go_enter Tryd.func8, Tryd.ntmps8
  go_wp2
  go_ret
  exact ⟨rfl, rfl⟩
theorem big_yes (A : Option Addr) (n c : Nat) (w : World) (h : ¬ n ≤ 1048576) : Calls Tryd.prog 8 #[.slice A n c] w fun e w' => e = .returned (.bool true) ∧ w = w' := by
  have hd : decide ((1048576 : Int) < (n : Int)) = true := by simp; omega
  go_enter Tryd.func8, Tryd.ntmps8
  go_wp2
  go_ret
  exact ⟨rfl, rfl⟩
end Go.Proofs.YtbjhkhmhmldjoaaDoor.Same

/- Two records that are the same, compared with == : true, and nothing is turned. -/
namespace Go.Proofs.YtbjhkhmhmldjoaaDoor.EqlR
open Go.RowKit Go.Proofs.YtbjhkhmhmldjoaaDoor.Mem Go.Proofs.YtbjhkhmhmldjoaaDoor.MemR

theorem eql_same (r : Rec) (w : World) : Sem.run Tryd.prog (binOp .eql 25 (.agg #[.string r.name, .int .i64 r.ty, .int .i64 r.ttl, .int .i64 r.n, .string r.host, .string r.text]) (.agg #[.string r.name, .int .i64 r.ty, .int .i64 r.ttl, .int .i64 r.n, .string r.host, .string r.text])) w = .ok (.bool true) w := by
  have u3 := Tryd.underlying3
  have a3 := Tryd.isAgg3
  have z3 := Tryd.sizeOf3
  have u9 := Tryd.underlying9
  have a9 := Tryd.isAgg9
  have z9 := Tryd.sizeOf9
  have hS : Tryd.prog.underlying 25 = some (.struct (Tryd.prog.fieldsOf 25)) := by kernel_rfl
  have hp : Tryd.prog.stoodInHeld 25 = false := by kernel_rfl
  rw [run_eql_struct, show (10000 : Nat) = 9999 + 1 from rfl, run_equalIn_agg w 9999 25 _ _ hS hp]
  simp only [Program.fieldsOf, Tryd.underlying25]
  go_simp

theorem bytes_ne {a b : ByteArray} (h : a ≠ b) : (a.toList == b.toList) = false := by
  cases e : (a.toList == b.toList) with
  | false => rfl
  | true =>
    have := eq_of_beq e
    rw [ByteArray.toList_eq, ByteArray.toList_eq] at this
    exact absurd (by cases a; cases b; congr; exact Array.toList_inj.1 this) h
theorem eql_diff {r s : Rec} (h : r ≠ s) (w : World) : Sem.run Tryd.prog (binOp .eql 25 (.agg #[.string r.name, .int .i64 r.ty, .int .i64 r.ttl, .int .i64 r.n, .string r.host, .string r.text]) (.agg #[.string s.name, .int .i64 s.ty, .int .i64 s.ttl, .int .i64 s.n, .string s.host, .string s.text])) w = .ok (.bool false) w := by
  have u3 := Tryd.underlying3
  have a3 := Tryd.isAgg3
  have z3 := Tryd.sizeOf3
  have u9 := Tryd.underlying9
  have a9 := Tryd.isAgg9
  have z9 := Tryd.sizeOf9
  have hS : Tryd.prog.underlying 25 = some (.struct (Tryd.prog.fieldsOf 25)) := by kernel_rfl
  have hp : Tryd.prog.stoodInHeld 25 = false := by kernel_rfl
  rw [run_eql_struct, show (10000 : Nat) = 9999 + 1 from rfl, run_equalIn_agg w 9999 25 _ _ hS hp]
  simp only [Program.fieldsOf, Tryd.underlying25]
  obtain ⟨n1, t1, l1, m1, h1, x1⟩ := r
  obtain ⟨n2, t2, l2, m2, h2, x2⟩ := s
  simp only
  by_cases c0 : n1 = n2
  · subst c0
    by_cases c1 : t1 = t2
    · subst c1
      by_cases c2 : l1 = l2
      · subst c2
        by_cases c3 : m1 = m2
        · subst c3
          by_cases c4 : h1 = h2
          · subst c4
            by_cases c5 : x1 = x2
            · subst c5; exact absurd rfl h
            · have k := bytes_ne c5
              go_simp
          · have k := bytes_ne c4
            go_simp
        · go_simp
      · go_simp
    · go_simp
  · have k := bytes_ne c0
    go_simp

theorem grd : Tryd.prog.eqGuardType Tryd.prog.depth 25 = false := by kernel_rfl
end Go.Proofs.YtbjhkhmhmldjoaaDoor.EqlR
