/- Plain facts on memory: questions, and what a slice of questions reads as; a new slice of questions that a call gives back; a law on append of one question. -/
import Derived.Test.YtmkcjjgicinggaaGreatDoorGsDef
import Derived.Sort.LotD4
import Derived.Sort.LotD1
import Derived.Deep.DeepCutAuto
import Derived.Test.YtmkcjjgicinggaaGreatDoorMem
import Derived.Sort.AssemblyPlain
import Derived.Sort.Walk13a
import Derived.Test.YtmkcjjgicinggaaGreatDoorGsIns
import Derived.Test.YtmkcjjgicinggaaGreatDoorGsHeap
import Derived.Test.YtmkcjjgicinggaaGreatDoorGsPart
import Derived.Test.YtmkcjjgicinggaaGreatDoorGsPeq
import Derived.Test.YtmkcjjgicinggaaGreatDoorGsPins
import Derived.Test.YtmkcjjgicinggaaGreatDoorShelf
import Derived.Shelf.GgSortFunc.Tiny
import Derived.Shelf.GgSortFunc.Small
import Derived.Shelf.GgSortFunc.Compose
import Derived.Shelf.SlSortFunc.BreakPatterns
import Derived.Maps.RangeRun
import Derived.Maps.OwnOps
import Derived.Deep.AppendLies
import Derived.Test.YtmkcjjgicinggaaGreatDoorMemS
import Derived.Shelf.SlIter.Collect
import Derived.Test.YtmkcjjgicinggaaGreatDoorSetMath
/- What sort.order2_func, median_func and medianAdjacent_func do: they choose among places of the row, and count exchanges in a cell of their own. -/
namespace Go.Proofs.YtmkcjjgicinggaaGreatDoor.GsMed
open Go.RowKit Go.Sort Go.Lib Go.Proofs.YtmkcjjgicinggaaGreatDoor.Mem Go.Proofs.YtmkcjjgicinggaaGreatDoor.GsDef

section
variable {α : Type} [Inhabited α] {g : Nat} {lb : Array Value} {sf : Nat} {sb : Array Value} {enc : α → Value} {lt : α → α → Bool} {blk off size : Nat} {w0 : World}

/-- Block c counts s. -/
def Cs (w : World) (c s : Nat) : Prop := w.cell? ⟨c, 0, none⟩ = some (.int .i64 (s : Nat)) ∧ w.frozen? ⟨c, 0, none⟩ = false

theorem Cs.low {w : World} {c s : Nat} (h : Cs w c s) : c < w.heap.size := World.block_lt_of_cell? _ _ h.1

theorem Cs.kept {w w' : World} {c s : Nat} {r : Option Nat} (h : Cs w c s) (hg : w.grownBy w' r) (hn : some c ≠ r) : Cs w' c s :=
  ⟨hg.cell h.1 hn, (World.frozen?_of_block (hg.block c h.low hn)).trans h.2⟩

theorem Cs.below {w w' : World} {c s : Nat} (h : Cs w c s) (hb : Below w.heap.size w w') : Cs w' c s := h.kept (gr_below hb none) (fun e => by cases e)

theorem Cs.up {w : World} {c s : Nat} (h : Cs w c s) : Cs (w.setCell ⟨c, 0, none⟩ (.int .i64 ((s : Int) + 1))) c (s + 1) := by
  obtain ⟨h1, h2⟩ := h
  have hl := World.block_lt_of_cell? _ _ h1
  refine ⟨?_, ?_⟩
  · have : (w.setCell ⟨c, 0, none⟩ (.int .i64 ((s : Int) + 1))).cell? ⟨c, 0, none⟩ = some (.int .i64 ((s : Int) + 1)) := by
      simp [World.cell?_setCell_same, h1]
    rw [this]
    rfl
  · simpa using h2

/-- A store into a block that is new leaves the row. -/
theorem St.new {W : World} {dk : Array α} {c : Nat} (h : St enc w0 blk off dk W) (hc : w0.heap.size ≤ c) (v : Value) : St enc w0 blk off dk (W.setCell ⟨c, 0, none⟩ v) := by
  obtain ⟨⟨h1, h2⟩, h3⟩ := h
  have hk : ∀ k, k < w0.heap.size → (W.setCell ⟨c, 0, none⟩ v).heap[k]? = W.heap[k]? := fun k hk => Below.heap_setCell W ⟨c, 0, none⟩ v k (by show k ≠ c; omega)
  refine ⟨⟨⟨h1.os, h1.tape, h1.output, Nat.le_trans h1.size (by simp [World.setCell]), fun k hk' hn => (hk k hk').trans (h1.block k hk' hn)⟩, fun t ht => ?_⟩, h3⟩
  exact ⟨(World.cell?_of_block (a := ⟨blk, off + t, none⟩) (hk blk h3)).trans (h2 t ht).1, (World.frozen?_of_block (a := ⟨blk, off + t, none⟩) (hk blk h3)).trans (h2 t ht).2⟩

set_option maxHeartbeats 4000000 in
set_option maxRecDepth 100000 in
theorem order2 (E : En Tryz.prog g lb sf sb enc lt blk off size w0) (a b c s : Nat) (d : Array α) (w : World) (S : St enc w0 blk off d w) (hs : d.size = size) (C : Cs w c s) (hc : w0.heap.size ≤ c) (ha : a < size) (hb : b < size) (hsm : s < 4611686018427387904) :
    Calls Tryz.prog 235 #[.agg #[.func (.func g) #[] lb, .func (.func sf) #[] sb], .int .i64 a, .int .i64 b, .pointer (some ⟨c, 0, none⟩)] w fun e w' =>
      e = .returned (.tuple #[.int .i64 (Sort.order2 lt d a b s).1, .int .i64 (Sort.order2 lt d a b s).2.1]) ∧ St enc w0 blk off d w' ∧ Cs w' c (Sort.order2 lt d a b s).2.2 ∧ w.grownBy w' (some c) := by
  have small := E.small
  have eg := E.eg
  have HS := Lib.hid (S.alloc (.cells #[.func (.func g) #[] lb, .func (.func sf) #[] sb] 185))
  have HT := Lib.hid (tw_new w 185 (.func (.func g) #[] lb) (.func (.func sf) #[] sb))
  have HG := Lib.hid (World.grownBy_alloc w (.cells #[.func (.func g) #[] lb, .func (.func sf) #[] sb] 185) (some c))
  have HC := Lib.hid (C.below ((Below.refl _ _).alloc (Nat.le_refl _) (.cells #[.func (.func g) #[] lb, .func (.func sf) #[] sb] 185)))
  have HZ := Lib.hid hs
  clear S hs C
  go_enter Tryz.func235, Tryz.ntmps235
  go_upto_region 1 with (fail)
  generalize w.alloc (.cells #[.func (.func g) #[] lb, .func (.func sf) #[] sb] 185) = w1 at *
  have L := Lib.hid (E.less w1 d HS.out HZ.out b a hb ha)
  have c0 := HT.out.1
  cases hv : lt d[b]! d[a]! with
  | true =>
    rw [hv] at L
    have HF : Hid (Sort.order2 lt d a b s = (b, a, s + 1)) := show _ = _ by unfold Sort.order2; rw [hv]; rfl
    clear hv
    go_wp2_with fail
    go_at_fn g
    refine L.out.mono ?_
    rintro e w2 ⟨rfl, hl⟩
    replace HS := Lib.hid (HS.out.below hl)
    replace HC := Lib.hid (HC.out.below hl)
    replace HG := Lib.hid (gr_trans HG.out (gr_below hl _))
    clear c0 hl L HT
    obtain ⟨c1, f1⟩ := HC.out
    have HS2 := Lib.hid (St.new HS.out hc (.int .i64 ((s : Int) + 1)))
    have HC2 := Lib.hid HC.out.up
    have HG2 := Lib.hid (gr_trans HG.out (gr_set w2 c 0 (.int .i64 ((s : Int) + 1))))
    go_wp2
    go_ret2
    exact ⟨by rw [HF.out]; rfl, HS2.out, by rw [HF.out]; exact HC2.out, HG2.out⟩
  | false =>
    rw [hv] at L
    have HF : Hid (Sort.order2 lt d a b s = (a, b, s)) := show _ = _ by unfold Sort.order2; rw [hv]; rfl
    clear hv
    go_wp2_with fail
    go_at_fn g
    refine L.out.mono ?_
    rintro e w2 ⟨rfl, hl⟩
    replace HS := Lib.hid (HS.out.below hl)
    replace HC := Lib.hid (HC.out.below hl)
    replace HG := Lib.hid (gr_trans HG.out (gr_below hl _))
    clear c0 hl L HT
    go_wp2
    go_ret2
    exact ⟨by rw [HF.out]; rfl, HS.out, by rw [HF.out]; exact HC.out, HG.out⟩

theorem order2_lt {d : Array α} {a b s n : Nat} (ha : a < n) (hb : b < n) : (Sort.order2 lt d a b s).1 < n ∧ (Sort.order2 lt d a b s).2.1 < n := by
  rcases order2_mem lt d a b s with h | h <;> rw [h.1, h.2] <;> exact ⟨by assumption, by assumption⟩

set_option maxHeartbeats 4000000 in
set_option maxRecDepth 100000 in
theorem median (E : En Tryz.prog g lb sf sb enc lt blk off size w0) (x y z c s : Nat) (d : Array α) (w : World) (S : St enc w0 blk off d w) (hs : d.size = size) (C : Cs w c s) (hc : w0.heap.size ≤ c) (hx : x < size) (hy : y < size) (hz : z < size) (hsm : s + 3 < 4611686018427387904) :
    Calls Tryz.prog 229 #[.agg #[.func (.func g) #[] lb, .func (.func sf) #[] sb], .int .i64 x, .int .i64 y, .int .i64 z, .pointer (some ⟨c, 0, none⟩)] w fun e w' =>
      e = .returned (.int .i64 (Sort.median lt d x y z s).1) ∧ St enc w0 blk off d w' ∧ Cs w' c (Sort.median lt d x y z s).2 ∧ w.grownBy w' (some c) := by
  have HS := Lib.hid (S.alloc (.cells #[.func (.func g) #[] lb, .func (.func sf) #[] sb] 185))
  have HT := Lib.hid (tw_new w 185 (.func (.func g) #[] lb) (.func (.func sf) #[] sb))
  have HG := Lib.hid (World.grownBy_alloc w (.cells #[.func (.func g) #[] lb, .func (.func sf) #[] sb] 185) (some c))
  have NB : Hid (some w.heap.size ≠ some c) := fun e => by have := C.low; cases e; omega
  have HC := Lib.hid (C.below ((Below.refl _ _).alloc (Nat.le_refl _) (.cells #[.func (.func g) #[] lb, .func (.func sf) #[] sb] 185)))
  have HZ := Lib.hid hs
  obtain ⟨p1, q1, s1, h1⟩ : ∃ p q t, Sort.order2 lt d x y s = (p, q, t) := ⟨_, _, _, rfl⟩
  have b1 := order2_lt (lt := lt) (d := d) (s := s) hx hy
  have k1 := order2_count lt d x y s
  obtain ⟨p2, q2, s2, h2⟩ : ∃ p q t, Sort.order2 lt d q1 z s1 = (p, q, t) := ⟨_, _, _, rfl⟩
  rw [h1] at b1 k1
  have b2 := order2_lt (lt := lt) (d := d) (s := s1) b1.2 hz
  have k2 := order2_count lt d q1 z s1
  rw [h2] at b2 k2
  obtain ⟨p3, q3, s3, h3⟩ : ∃ p q t, Sort.order2 lt d p1 p2 s2 = (p, q, t) := ⟨_, _, _, rfl⟩
  have HF : Hid (Sort.median lt d x y z s = (q3, s3)) := show _ = _ by unfold Sort.median; simp only [h1, h2, h3]
  have O1 := Lib.hid (fun W S C => order2 E x y c s d W S hs C hc hx hy (by omega))
  have O2 := Lib.hid (fun W S C => order2 E q1 z c s1 d W S hs C hc b1.2 hz (by simp only at k1; omega))
  have O3 := Lib.hid (fun W S C => order2 E p1 p2 c s2 d W S hs C hc b1.1 b2.1 (by simp only at k1 k2; omega))
  rw [h1] at O1
  rw [h2] at O2
  rw [h3] at O3
  clear S hs C h1 h2 h3 b1 b2 k1 k2
  go_enter Tryz.func229, Tryz.ntmps229
  go_upto_region 1 with (fail)
  generalize w.alloc (.cells #[.func (.func g) #[] lb, .func (.func sf) #[] sb] 185) = w1 at *
  obtain ⟨c0, c1⟩ := HT.out
  go_wp2_with fail
  refine (O1.out w1 HS.out HC.out).mono ?_
  rintro e w2 ⟨rfl, hS, hC, hG⟩
  replace HS := Lib.hid hS
  replace HC := Lib.hid hC
  replace HT := Lib.hid (HT.out.grown hG NB.out)
  replace HG := Lib.hid (gr_trans HG.out hG)
  clear hS hC hG c0 c1 O1
  obtain ⟨c0, c1⟩ := HT.out
  go_wp2_with fail
  refine (O2.out w2 HS.out HC.out).mono ?_
  rintro e w3 ⟨rfl, hS, hC, hG⟩
  replace HS := Lib.hid hS
  replace HC := Lib.hid hC
  replace HT := Lib.hid (HT.out.grown hG NB.out)
  replace HG := Lib.hid (gr_trans HG.out hG)
  clear hS hC hG c0 c1 O2
  obtain ⟨c0, c1⟩ := HT.out
  go_wp2_with fail
  refine (O3.out w3 HS.out HC.out).mono ?_
  rintro e w4 ⟨rfl, hS, hC, hG⟩
  replace HS := Lib.hid hS
  replace HC := Lib.hid hC
  replace HG := Lib.hid (gr_trans HG.out hG)
  clear hS hC hG c0 c1 O3 HT
  go_wp2
  go_ret
  exact ⟨by rw [HF.out]; rfl, HS.out, by rw [HF.out]; exact HC.out, HG.out⟩

set_option maxHeartbeats 4000000 in
set_option maxRecDepth 100000 in
theorem adjacent (E : En Tryz.prog g lb sf sb enc lt blk off size w0) (x c s : Nat) (d : Array α) (w : World) (S : St enc w0 blk off d w) (hs : d.size = size) (C : Cs w c s) (hc : w0.heap.size ≤ c) (h1 : 1 ≤ x) (hx : x + 1 < size) (hsm : s + 3 < 4611686018427387904) :
    Calls Tryz.prog 228 #[.agg #[.func (.func g) #[] lb, .func (.func sf) #[] sb], .int .i64 x, .pointer (some ⟨c, 0, none⟩)] w fun e w' =>
      e = .returned (.int .i64 (Sort.medianAdjacent lt d x s).1) ∧ St enc w0 blk off d w' ∧ Cs w' c (Sort.medianAdjacent lt d x s).2 ∧ w.grownBy w' (some c) := by
  have small := E.small
  have HS := Lib.hid (S.alloc (.cells #[.func (.func g) #[] lb, .func (.func sf) #[] sb] 185))
  have HT := Lib.hid (tw_new w 185 (.func (.func g) #[] lb) (.func (.func sf) #[] sb))
  have HG := Lib.hid (World.grownBy_alloc w (.cells #[.func (.func g) #[] lb, .func (.func sf) #[] sb] 185) (some c))
  have HC := Lib.hid (C.below ((Below.refl _ _).alloc (Nat.le_refl _) (.cells #[.func (.func g) #[] lb, .func (.func sf) #[] sb] 185)))
  have O1 := Lib.hid (fun W S C => median E (x - 1) x (x + 1) c s d W S hs C hc (by omega) (by omega) hx hsm)
  rw [show (((x - 1 : Nat)) : Int) = (x : Int) - 1 by omega, show (((x + 1 : Nat)) : Int) = (x : Int) + 1 by omega] at O1
  have HF : Hid (Sort.medianAdjacent lt d x s = Sort.median lt d (x - 1) x (x + 1) s) := rfl
  clear S hs C
  go_enter Tryz.func228, Tryz.ntmps228
  go_upto_region 1 with (fail)
  generalize w.alloc (.cells #[.func (.func g) #[] lb, .func (.func sf) #[] sb] 185) = w1 at *
  obtain ⟨c0, c1⟩ := HT.out
  go_wp2_with fail
  refine (O1.out w1 HS.out HC.out).mono ?_
  rintro e w2 ⟨rfl, hS, hC, hG⟩
  replace HS := Lib.hid hS
  replace HC := Lib.hid hC
  replace HG := Lib.hid (gr_trans HG.out hG)
  clear hS hC hG c0 c1 O1 HT
  go_wp2
  go_ret
  exact ⟨by rw [HF.out]; rfl, HS.out, by rw [HF.out]; exact HC.out, HG.out⟩
end
end Go.Proofs.YtmkcjjgicinggaaGreatDoor.GsMed

/- What sort.choosePivot_func does: it chooses a place of the range; the row is not turned. -/
namespace Go.Proofs.YtmkcjjgicinggaaGreatDoor.GsPiv
open Go.RowKit Go.Sort Go.Lib Go.Proofs.YtmkcjjgicinggaaGreatDoor.Mem Go.Proofs.YtmkcjjgicinggaaGreatDoor.GsDef Go.Proofs.YtmkcjjgicinggaaGreatDoor.GsMed

section
variable {α : Type} [Inhabited α] {g : Nat} {lb : Array Value} {sf : Nat} {sb : Array Value} {enc : α → Value} {lt : α → α → Bool} {blk off size : Nat} {w0 : World}

theorem grown_new {w w1 w2 : World} {c : Nat} (h : Below w.heap.size w w1) (hc : w.heap.size ≤ c) (hg : w1.grownBy w2 (some c)) : Below w.heap.size w w2 :=
  ⟨hg.os.trans h.os, hg.tape.trans h.tape, hg.output.trans h.output, Nat.le_trans h.size hg.size, fun k hk => (hg.block k (Nat.lt_of_lt_of_le hk h.size) (fun e => by cases e; omega)).trans (h.block k hk)⟩

theorem med_lt {d : Array α} {x y z s n : Nat} (hx : x < n) (hy : y < n) (hz : z < n) : (Sort.median lt d x y z s).1 < n := by
  rcases median_mem lt d x y z s with h | h | h <;> rw [h] <;> assumption

theorem adj_lt {d : Array α} {x s n : Nat} (hx : x + 1 < n) : (Sort.medianAdjacent lt d x s).1 < n := by
  rcases medianAdjacent_mem lt d x s with h | h | h <;> rw [h] <;> omega

set_option maxHeartbeats 8000000 in
set_option maxRecDepth 100000 in
theorem pivot (E : En Tryz.prog g lb sf sb enc lt blk off size w0) (a b : Nat) (d : Array α) (w : World) (S : St enc w0 blk off d w) (hs : d.size = size) (hab : a < b) (hb : b ≤ size) :
    Calls Tryz.prog 204 #[.agg #[.func (.func g) #[] lb, .func (.func sf) #[] sb], .int .i64 a, .int .i64 b] w fun e w' =>
      e = .returned (.tuple #[.int .i64 (choosePivot lt d a b).1, .int .i64 (hintCode (choosePivot lt d a b).2)]) ∧ St enc w0 blk off d w' ∧ Below w.heap.size w w' := by
  have small := E.small
  have hw0 : w0.heap.size ≤ w.heap.size := S.1.1.size
  have HS := Lib.hid ((S.alloc (.cells #[.func (.func g) #[] lb, .func (.func sf) #[] sb] 185)).alloc (.cells #[.int .i64 0] 3))
  have HL := Lib.hid (((Below.refl w.heap.size w).alloc (Nat.le_refl _) (.cells #[.func (.func g) #[] lb, .func (.func sf) #[] sb] 185)).alloc (by simp) (.cells #[.int .i64 0] 3))
  have hz1 : (w.alloc (.cells #[.func (.func g) #[] lb, .func (.func sf) #[] sb] 185)).heap.size = w.heap.size + 1 := by simp
  have HT := Lib.hid ((tw_new w 185 (.func (.func g) #[] lb) (.func (.func sf) #[] sb)).below ((Below.refl _ _).alloc (Nat.le_refl _) (.cells #[.int .i64 0] 3)))
  have HC : Hid (Cs ((w.alloc (.cells #[.func (.func g) #[] lb, .func (.func sf) #[] sb] 185)).alloc (.cells #[.int .i64 0] 3)) (w.heap.size + 1) 0) := by
    have hb : Bk ((w.alloc (.cells #[.func (.func g) #[] lb, .func (.func sf) #[] sb] 185)).alloc (.cells #[.int .i64 0] 3)) (w.heap.size + 1) 3 [.int .i64 0] := by
      have := heap_alloc_new (w.alloc (.cells #[.func (.func g) #[] lb, .func (.func sf) #[] sb] 185)) (.cells #[.int .i64 0] 3)
      rw [hz1] at this
      exact this
    exact ⟨hb.cell 0, hb.free 0⟩
  have NB : Hid (some w.heap.size ≠ some (w.heap.size + 1)) := fun e => absurd (Option.some.inj e) (by omega)
  have HZ := Lib.hid hs
  have hc : w0.heap.size ≤ w.heap.size + 1 := by omega
  have ME := Lib.hid (fun x y z s W S C h1 h2 h3 h4 => median E x y z (w.heap.size + 1) s d W S hs C hc h1 h2 h3 h4)
  have MA := Lib.hid (fun x s W S C h1 h2 h3 => adjacent E x (w.heap.size + 1) s d W S hs C hc h1 h2 h3)
  obtain ⟨I, hI⟩ : ∃ I : Nat, I = a + (b - a) / 4 * 1 := ⟨_, rfl⟩
  obtain ⟨J, hJ⟩ : ∃ J : Nat, J = a + (b - a) / 4 * 2 := ⟨_, rfl⟩
  obtain ⟨K, hK⟩ : ∃ K : Nat, K = a + (b - a) / 4 * 3 := ⟨_, rfl⟩
  have HF : Hid (choosePivot lt d a b = ((rawPivot lt d a b).1, hintOf (rawPivot lt d a b).2)) := choosePivot_eq lt d a b
  have HR : Hid (rawPivot lt d a b = if b - a ≥ 8 then (if b - a ≥ 50 then Sort.median lt d (Sort.medianAdjacent lt d I 0).1 (Sort.medianAdjacent lt d J (Sort.medianAdjacent lt d I 0).2).1 (Sort.medianAdjacent lt d K (Sort.medianAdjacent lt d J (Sort.medianAdjacent lt d I 0).2).2).1 (Sort.medianAdjacent lt d K (Sort.medianAdjacent lt d J (Sort.medianAdjacent lt d I 0).2).2).2 else Sort.median lt d I J K 0) else (J, 0)) := show _ = _ by subst hI hJ hK; rfl
  have bI : I < b := by omega
  have bJ : J < b := by omega
  have bK : K < b := by omega
  have eI : ((a : Int) + ((b : Int) - (a : Int)) / 4) = (I : Int) := by omega
  have eJ : ((a : Int) + ((b : Int) - (a : Int)) / 4 * 2) = (J : Int) := by omega
  have eK : ((a : Int) + ((b : Int) - (a : Int)) / 4 * 3) = (K : Int) := by omega
  have hba : ((b : Int) - (a : Int)) ≥ 0 := by omega
  clear S hs hz1
  have HI : Hid (50 ≤ b - a → 1 ≤ I ∧ I + 1 < size ∧ 1 ≤ J ∧ J + 1 < size ∧ 1 ≤ K ∧ K + 1 < size) := fun h => by omega
  clear hI hJ hK
  go_enter Tryz.func204, Tryz.ntmps204
  go_upto_region 3 with (fail)
  generalize (w.alloc (.cells #[.func (.func g) #[] lb, .func (.func sf) #[] sb] 185)).alloc (.cells #[.int .i64 0] 3) = w1 at *
  generalize hcc : w.heap.size + 1 = c at *
  have hcw : w.heap.size ≤ c := by omega
  clear hcc
  go_upto_if 32 with (fail)
  go_cut [10, 11, 12] (fun _ s11 _ wx => ∃ j s : Nat, s11 = .int .i64 j ∧ Hid (rawPivot lt d a b = (j, s)) ∧ Hid (St enc w0 blk off d wx) ∧ Hid (Cs wx c s) ∧ Hid (Below w.heap.size w wx))
  case first =>
    by_cases h8 : b - a ≥ 8
    · have h8z : (b : Int) - (a : Int) ≥ 8 := by omega
      by_cases h50 : b - a ≥ 50
      · have h50z : (b : Int) - (a : Int) ≥ 50 := by omega
        obtain ⟨i1, i2, i3, i4, i5, i6⟩ := HI.out h50
        obtain ⟨m1, s1, e1⟩ : ∃ m s, Sort.medianAdjacent lt d I 0 = (m, s) := ⟨_, _, rfl⟩
        obtain ⟨m2, s2, e2⟩ : ∃ m s, Sort.medianAdjacent lt d J s1 = (m, s) := ⟨_, _, rfl⟩
        obtain ⟨m3, s3, e3⟩ : ∃ m s, Sort.medianAdjacent lt d K s2 = (m, s) := ⟨_, _, rfl⟩
        obtain ⟨m4, s4, e4⟩ : ∃ m s, Sort.median lt d m1 m2 m3 s3 = (m, s) := ⟨_, _, rfl⟩
        have k1 := medianAdjacent_count lt d I 0
        have k2 := medianAdjacent_count lt d J s1
        have k3 := medianAdjacent_count lt d K s2
        have l1 := adj_lt (lt := lt) (d := d) (s := 0) i2
        have l2 := adj_lt (lt := lt) (d := d) (s := s1) i4
        have l3 := adj_lt (lt := lt) (d := d) (s := s2) i6
        rw [e1] at k1 l1
        rw [e2] at k2 l2
        rw [e3] at k3 l3
        have M1 := Lib.hid (fun W S C => MA.out I 0 W S C i1 i2 (by omega))
        have M2 := Lib.hid (fun W S C => MA.out J s1 W S C i3 i4 (by simp only at k1; omega))
        have M3 := Lib.hid (fun W S C => MA.out K s2 W S C i5 i6 (by simp only at k1 k2; omega))
        have M4 := Lib.hid (fun W S C => ME.out m1 m2 m3 s3 W S C l1 l2 l3 (by simp only at k1 k2 k3; omega))
        have HQ : Hid (rawPivot lt d a b = (m4, s4)) := show _ = _ by rw [HR.out, if_pos h8, if_pos h50]; simp only [e1, e2, e3, e4]
        rw [e1] at M1
        rw [e2] at M2
        rw [e3] at M3
        rw [e4] at M4
        clear MA ME e1 e2 e3 e4 k1 k2 k3 l1 l2 l3 HR HI
        obtain ⟨c0, c1⟩ := HT.out
        go_wp2_with fail
        refine (M1.out w1 HS.out HC.out).mono ?_
        rintro e w2 ⟨rfl, hS, hC, hG⟩
        replace HS := Lib.hid hS
        replace HC := Lib.hid hC
        replace HT := Lib.hid (HT.out.grown hG NB.out)
        replace HL := Lib.hid (grown_new HL.out hcw hG)
        clear hS hC hG c0 c1 M1
        obtain ⟨c0, c1⟩ := HT.out
        go_wp2_with fail
        refine (M2.out w2 HS.out HC.out).mono ?_
        rintro e w3 ⟨rfl, hS, hC, hG⟩
        replace HS := Lib.hid hS
        replace HC := Lib.hid hC
        replace HT := Lib.hid (HT.out.grown hG NB.out)
        replace HL := Lib.hid (grown_new HL.out hcw hG)
        clear hS hC hG c0 c1 M2
        obtain ⟨c0, c1⟩ := HT.out
        go_wp2_with fail
        refine (M3.out w3 HS.out HC.out).mono ?_
        rintro e w4 ⟨rfl, hS, hC, hG⟩
        replace HS := Lib.hid hS
        replace HC := Lib.hid hC
        replace HT := Lib.hid (HT.out.grown hG NB.out)
        replace HL := Lib.hid (grown_new HL.out hcw hG)
        clear hS hC hG c0 c1 M3
        obtain ⟨c0, c1⟩ := HT.out
        go_wp2_with fail
        refine (M4.out w4 HS.out HC.out).mono ?_
        rintro e w5 ⟨rfl, hS, hC, hG⟩
        replace HS := Lib.hid hS
        replace HC := Lib.hid hC
        replace HL := Lib.hid (grown_new HL.out hcw hG)
        clear hS hC hG c0 c1 M4 HT
        go_wp2_with fail
        go_meet
        case rel => exact ⟨m4, s4, rfl, HQ.out, HS.out, HC.out, HL.out⟩
      · have h50z : ¬ (b : Int) - (a : Int) ≥ 50 := by omega
        obtain ⟨m4, s4, e4⟩ : ∃ m s, Sort.median lt d I J K 0 = (m, s) := ⟨_, _, rfl⟩
        have M4 := Lib.hid (fun W S C => ME.out I J K 0 W S C (by omega) (by omega) (by omega) (by omega))
        have HQ : Hid (rawPivot lt d a b = (m4, s4)) := show _ = _ by rw [HR.out, if_pos h8, if_neg h50]; simp only [e4]
        rw [e4] at M4
        clear MA ME e4 HR HI
        obtain ⟨c0, c1⟩ := HT.out
        go_wp2_with fail
        refine (M4.out w1 HS.out HC.out).mono ?_
        rintro e w5 ⟨rfl, hS, hC, hG⟩
        replace HS := Lib.hid hS
        replace HC := Lib.hid hC
        replace HL := Lib.hid (grown_new HL.out hcw hG)
        clear hS hC hG c0 c1 M4 HT
        go_wp2_with fail
        go_meet
        case rel => exact ⟨m4, s4, rfl, HQ.out, HS.out, HC.out, HL.out⟩
    · have h8z : ¬ (b : Int) - (a : Int) ≥ 8 := by omega
      have HQ : Hid (rawPivot lt d a b = (J, 0)) := show _ = _ by rw [HR.out, if_neg h8]
      go_wp2_with fail
      go_meet
      case rel => exact ⟨J, 0, rfl, HQ.out, HS.out, HC.out, HL.out⟩
  case rest =>
    clear HS HC HL HT MA ME HR HI
    obtain ⟨j, s, rfl, HQ, HS, HC, HL⟩ := hcut
    have HV : Hid (choosePivot lt d a b = (j, hintOf s)) := show _ = _ by rw [HF.out, HQ.out]
    obtain ⟨c0, _⟩ := HC.out
    by_cases h0 : s = 0
    · subst h0
      go_wp2
      go_ret2
      exact ⟨by rw [HV.out]; rfl, HS.out, HL.out⟩
    · have h0z : ((s : Int) == 0) = false := by simpa using h0
      by_cases h12 : s = 12
      · subst h12
        go_wp2
        go_ret2
        exact ⟨by rw [HV.out]; rfl, HS.out, HL.out⟩
      · have h12z : ((s : Int) == 12) = false := by have : ¬ (s : Int) = 12 := by omega
                                                    simpa using this
        have HH : Hid (hintCode (hintOf s) = 0) := show _ = _ by unfold hintOf; rw [if_neg h0, if_neg h12]; rfl
        go_wp2
        go_ret2
        exact ⟨by rw [HV.out]; simp only [HH.out]; rfl, HS.out, HL.out⟩
end
end Go.Proofs.YtmkcjjgicinggaaGreatDoor.GsPiv

/- Plain mathematics: one round of the library's sort, by what its tests say. -/
namespace Go.Proofs.YtmkcjjgicinggaaGreatDoor.GsRnd
open Go.RowKit Go.Sort Go.Lib

section
variable {α : Type} [Inhabited α] {lt : α → α → Bool}

set_option maxHeartbeats 1000000 in
theorem rnd (hO : SWO lt) (d : Array α) (a b lim : Nat) (wb wp : Bool) (hab : a < b) (hb : b ≤ d.size) (hB : Sort.Below lt a b d) (h12 : ¬ b - a ≤ 12) (h0 : ¬ lim = 0) :
    ∃ (d1 : Array α) (lm c1 : Nat) (c2 : Hint) (d2 : Array α) (pv : Nat) (ht : Hint) (p1 : Array α) (p2 : Bool),
      (wb = true → d1 = d ∧ lm = lim) ∧ (wb = false → d1 = breakPatterns d a b ∧ lm = lim - 1) ∧ choosePivot lt d1 a b = (c1, c2) ∧
      (c2 = .decreasing → d2 = reverseRange d1 a b ∧ pv = (b - 1) - (c1 - a) ∧ ht = .increasing) ∧ (c2 ≠ .decreasing → d2 = d1 ∧ pv = c1 ∧ ht = c2) ∧
      ((wb && wp && decide (ht = .increasing)) = true → partialInsertionSort lt d2 a b = (p1, p2)) ∧ ((wb && wp && decide (ht = .increasing)) = false → p1 = d2 ∧ p2 = false) ∧
      (d1.size = d.size ∧ (a ≤ c1 ∧ c1 < b) ∧ d2.size = d.size ∧ (a ≤ pv ∧ pv < b) ∧ p1.size = d.size) ∧ lm ≤ lim ∧
      (p2 = true → pdq lt d a b lim wb wp = p1) ∧
      (p2 = false → (decide (a > 0) && !lt p1[a - 1]! p1[pv]!) = true → ∀ mid d4, partitionEqual lt p1 a b pv = (mid, d4) → a < mid ∧ mid ≤ b ∧ d4.size = p1.size ∧ Sort.Below lt mid b d4 ∧ pdq lt d a b lim wb wp = pdq lt d4 mid b lm wb wp) ∧
      (p2 = false → (decide (a > 0) && !lt p1[a - 1]! p1[pv]!) = false → ∀ mid ap d4, partition lt p1 a b pv = (mid, ap, d4) → a ≤ mid ∧ mid < b ∧ d4.size = p1.size ∧
        (mid - a < b - mid → Sort.Below lt a mid d4 ∧ (pdq lt d4 a mid lm true true).size = d4.size ∧ Sort.Below lt (mid + 1) b (pdq lt d4 a mid lm true true) ∧ pdq lt d a b lim wb wp = pdq lt (pdq lt d4 a mid lm true true) (mid + 1) b lm (decide (mid - a ≥ (b - a) / 8)) ap) ∧
        (¬ mid - a < b - mid → Sort.Below lt (mid + 1) b d4 ∧ (pdq lt d4 (mid + 1) b lm true true).size = d4.size ∧ Sort.Below lt a mid (pdq lt d4 (mid + 1) b lm true true) ∧ pdq lt d a b lim wb wp = pdq lt (pdq lt d4 (mid + 1) b lm true true) a mid lm (decide (b - mid ≥ (b - a) / 8)) ap)) := by
  obtain ⟨s1, B1, hc, s2, B2, hpv, s3, B3⟩ := rd_facts (lt := lt) (limit := lim) (wb := wb) (wp := wp) hO partialInsertionSort_holds reverseRange_holds hab hb hB
  refine ⟨(rd lt d a b lim wb wp).d1, (rd lt d a b lim wb wp).lim, (rd lt d a b lim wb wp).c.1, (rd lt d a b lim wb wp).c.2, (rd lt d a b lim wb wp).d2, (rd lt d a b lim wb wp).pivot, (rd lt d a b lim wb wp).hint, (rd lt d a b lim wb wp).pi.1, (rd lt d a b lim wb wp).pi.2,
    fun e => by subst e; exact rd_true, fun e => by subst e; exact rd_false, rd_c.symm, fun e => rd_dec e, fun e => rd_not e, fun e => (rd_pi_yes e).symm, fun e => ⟨by rw [rd_pi_no e], by rw [rd_pi_no e]⟩, ⟨s1, hc, s2, hpv, s3⟩, rd_lim_le, fun e => pdq_done h12 h0 e, ?_, ?_⟩
  · intro hp h87 mid d4 hx
    have h87' := h87
    simp only [Bool.and_eq_true, decide_eq_true_eq, Bool.not_eq_true'] at h87'
    obtain ⟨r1, r2, r3, r4, _⟩ := round_eq hO (partitionEqual_holds lt) h87'.1 hpv.1 hpv.2 (by omega) B3 h87'.2 hx
    exact ⟨r1, r2, r3, r4, by rw [pdq_eq h12 h0 hp h87 (by rw [hx]; exact ⟨r1, r2⟩), hx]⟩
  · intro hp h87 mid ap d4 hx
    obtain ⟨r1, r2, r3, r4, r5, r6, r7⟩ := round_part hO (partition_holds lt) hpv.1 hpv.2 (by omega) B3 hx
    refine ⟨r1, r2, r3, fun h4 => ?_, fun h4 => ?_⟩
    · obtain ⟨pL, sL⟩ := pdq_sorts lt hO d4 a mid (rd lt d a b lim wb wp).lim true true (by omega) (by omega) r4
      exact ⟨r4, pL.1, (r6 _ pL sL).1, by rw [pdq_left h12 h0 hp h87 (by rw [hx]; exact ⟨r1, r2⟩) (by rw [hx]; exact h4), hx]⟩
    · obtain ⟨pL, sL⟩ := pdq_sorts lt hO d4 (mid + 1) b (rd lt d a b lim wb wp).lim true true (by omega) (by omega) r5
      exact ⟨r5, pL.1, (r7 _ pL sL).1, by rw [pdq_right h12 h0 hp h87 (by rw [hx]; exact ⟨r1, r2⟩) (by rw [hx]; exact h4), hx]⟩
end
end Go.Proofs.YtmkcjjgicinggaaGreatDoor.GsRnd

/- What sort.pdqsort_func does: it sorts a range. Conditions: a strict weak order; what breakPatterns_func and reverseRange_func do (the library's proved contracts give it). -/
namespace Go.Proofs.YtmkcjjgicinggaaGreatDoor.GsPdq
open Go.RowKit Go.Sort Go.Lib Go.Proofs.YtmkcjjgicinggaaGreatDoor.Mem Go.Proofs.YtmkcjjgicinggaaGreatDoor.GsDef Go.Proofs.YtmkcjjgicinggaaGreatDoor.GsIns Go.Proofs.YtmkcjjgicinggaaGreatDoor.GsHeap Go.Proofs.YtmkcjjgicinggaaGreatDoor.GsPart Go.Proofs.YtmkcjjgicinggaaGreatDoor.GsPeq Go.Proofs.YtmkcjjgicinggaaGreatDoor.GsPins Go.Proofs.YtmkcjjgicinggaaGreatDoor.GsPiv Go.Proofs.YtmkcjjgicinggaaGreatDoor.GsRnd

section
variable {α : Type} [Inhabited α] {g : Nat} {lb : Array Value} {sf : Nat} {sb : Array Value} {enc : α → Value} {lt : α → α → Bool} {blk off size : Nat} {w0 : World}

theorem hint_two {h : Hint} (e : hintCode h = 2) : h = .decreasing := by cases h <;> simp [hintCode] at e ⊢

theorem eighth {x y p q : Nat} (h1 : q ≤ p) (h2 : y ≤ x) : decide (((x : Int) - (y : Int)) / 8 ≤ (p : Int) - (q : Int)) = decide (p - q ≥ (x - y) / 8) :=
  decide_eq_decide.2 ⟨fun h => by omega, fun h => by omega⟩

/-- What the two callees that ask nothing of the comparison do. -/
def Two (g : Nat) (lb : Array Value) (sf : Nat) (sb : Array Value) (enc : α → Value) (blk off size : Nat) (w0 : World) : Prop :=
  ∀ (a b : Nat) (d : Array α) (W : World), St enc w0 blk off d W → d.size = size → a ≤ b → b ≤ size →
    Calls Tryz.prog 203 #[.agg #[.func (.func g) #[] lb, .func (.func sf) #[] sb], .int .i64 a, .int .i64 b] W (Did enc w0 blk off (breakPatterns d a b) W) ∧
    Calls Tryz.prog 205 #[.agg #[.func (.func g) #[] lb, .func (.func sf) #[] sb], .int .i64 a, .int .i64 b] W (Did enc w0 blk off (reverseRange d a b) W)

set_option maxHeartbeats 32000000 in
set_option maxRecDepth 1000000 in
theorem pdq (E : En Tryz.prog g lb sf sb enc lt blk off size w0) (hO : SWO lt) (TWO : Two g lb sf sb enc blk off size w0) :
    ∀ (N a b limit : Nat) (d : Array α) (w : World), b - a < N → St enc w0 blk off d w → d.size = size → a ≤ b → b ≤ size → limit < 4611686018427387904 → Sort.Below lt a b d →
    Calls Tryz.prog 157 #[.agg #[.func (.func g) #[] lb, .func (.func sf) #[] sb], .int .i64 a, .int .i64 b, .int .i64 limit] w (Did enc w0 blk off (Sort.pdq lt d a b limit true true) w) := by
  intro N
  induction N with
  | zero => intro a b limit d w h; omega
  | succ N ih =>
    intro a b limit d w hN S hs hab hb hlim hBel
    have IH := Lib.hid ih
    clear ih
    have small := E.small
    have eg := E.eg
    have HS := Lib.hid (S.alloc (.cells #[.func (.func g) #[] lb, .func (.func sf) #[] sb] 185))
    have HT := Lib.hid (tw_new w 185 (.func (.func g) #[] lb) (.func (.func sf) #[] sb))
    have HG := Lib.hid (World.grownBy_alloc w (.cells #[.func (.func g) #[] lb, .func (.func sf) #[] sb] 185) (some blk))
    have NB : Hid (some w.heap.size ≠ some blk) := fun e => by have := S.lt; cases e; omega
    have HZ := Lib.hid hs
    have HB0 := Lib.hid hBel
    clear S hs hBel
    go_enter Tryz.func157, Tryz.ntmps157
    go_wp2
    generalize w.alloc (.cells #[.func (.func g) #[] lb, .func (.func sf) #[] sb] 185) = w1 at *
    go_loopw [1, 2, 3, 8, 9] (fun v1 v2 v3 v8 v9 wr => ∃ (a' b' lim : Nat) (wb wp : Bool) (dk : Array α), v1 = .int .i64 a' ∧ v2 = .int .i64 b' ∧ v3 = .int .i64 lim ∧ v8 = .bool wb ∧ v9 = .bool wp ∧ a' ≤ b' ∧ b' ≤ size ∧ b' - a' ≤ b - a ∧ lim ≤ limit ∧ Hid (dk.size = size) ∧ Hid (Sort.Below lt a' b' dk) ∧
      Hid (St enc w0 blk off dk wr) ∧ Hid (Tw wr w.heap.size (.func (.func g) #[] lb) (.func (.func sf) #[] sb)) ∧ Hid (w.grownBy wr (some blk)) ∧ Hid (Sort.pdq lt dk a' b' lim wb wp = Sort.pdq lt d a b limit true true)) (fun v1 v2 _ _ _ _ => (intOf v2 - intOf v1).toNat)
    case atStart => exact ⟨a, b, limit, true, true, d, rfl, rfl, rfl, rfl, rfl, hab, hb, Nat.le_refl _, Nat.le_refl _, HZ.out, HB0.out, HS.out, HT.out, HG.out, rfl⟩
    case round =>
      clear HS HT HG HZ HB0
      obtain ⟨a', b', lim, wb, wp, dk, rfl, rfl, rfl, rfl, rfl, hab', hb', hba, hll, HZ, HB, HS, HT, HG, HO⟩ := hrel
      by_cases h12 : b' - a' ≤ 12
      · have h12z : (b' : Int) - (a' : Int) ≤ 12 := by omega
        have C := Lib.hid (ins E a' b' dk wr HS.out HZ.out hab' hb')
        have HF : Hid (Sort.pdq lt d a b limit true true = Sort.insertionSort lt dk a' b') := show _ = _ by rw [← HO.out, pdq_small h12]
        obtain ⟨c0, c1⟩ := HT.out
        go_wp2_with fail
        refine C.out.mono ?_
        rintro e w2 ⟨rfl, hS, hG⟩
        have HS2 := Lib.hid hS
        have HG2 := Lib.hid (gr_trans HG.out hG)
        clear hS hG HS HG HT C c0 c1
        go_wp2
        go_end0
        exact ⟨rfl, by rw [HF.out]; exact HS2.out, HG2.out⟩
      · have h12z : ¬ (b' : Int) - (a' : Int) ≤ 12 := by omega
        by_cases hl0 : lim = 0
        · subst hl0
          have C := Lib.hid (heap E a' b' dk wr HS.out HZ.out hab' hb')
          have HF : Hid (Sort.pdq lt d a b limit true true = heapSort lt dk a' b') := show _ = _ by rw [← HO.out, pdq_heap h12 rfl]
          obtain ⟨c0, c1⟩ := HT.out
          go_wp2_with fail
          refine C.out.mono ?_
          rintro e w2 ⟨rfl, hS, hG⟩
          have HS2 := Lib.hid hS
          have HG2 := Lib.hid (gr_trans HG.out hG)
          clear hS hG HS HG HT C c0 c1
          go_wp2
          go_end0
          exact ⟨rfl, by rw [HF.out]; exact HS2.out, HG2.out⟩
        · have hl0z : ¬ (lim : Int) = 0 := by omega
          have hl0b : ((lim : Int) == 0) = false := by simpa using hl0z
          clear hl0z
          obtain ⟨d1, lm, c1', c2', d2, pv, ht, p1, p2, F1, F2, F3, F4, F5, F6, F7, ⟨z1, ⟨zc1, zc2⟩, z2, ⟨zp1, zp2⟩, z3⟩, hlm, F8, F9, F10⟩ := rnd (lt := lt) hO dk a' b' lim wb wp (by omega) (by rw [HZ.out]; exact hb') HB.out h12 hl0
          have G1 := Lib.hid F1
          have G2 := Lib.hid F2
          have G3 := Lib.hid F3
          have G4 := Lib.hid F4
          have G5 := Lib.hid F5
          have G6 := Lib.hid F6
          have G7 := Lib.hid F7
          have G8 := Lib.hid F8
          have G9 := Lib.hid F9
          have G10 := Lib.hid F10
          have Z1 : Hid (d1.size = size) := z1.trans HZ.out
          have Z2 : Hid (d2.size = size) := z2.trans HZ.out
          have Z3 : Hid (p1.size = size) := z3.trans HZ.out
          clear F1 F2 F3 F4 F5 F6 F7 F8 F9 F10 z1 z2 z3
          go_upto_if 35 with (fail)
          go_cut [3] (fun s3 wx => s3 = .int .i64 lm ∧ Hid (St enc w0 blk off d1 wx) ∧ Hid (Tw wx w.heap.size (.func (.func g) #[] lb) (.func (.func sf) #[] sb)) ∧ Hid (w.grownBy wx (some blk)))
          case first =>
            cases wb
            · obtain ⟨e1, e2⟩ := G2.out rfl
              have E1 := Lib.hid e1
              have C := Lib.hid (TWO a' b' dk wr HS.out HZ.out hab' hb').1
              have e3 : ((lim : Int) - 1) = (lm : Int) := by omega
              clear e1 e2
              obtain ⟨c0, c1⟩ := HT.out
              go_wp2_with fail
              refine C.out.mono ?_
              rintro e w2 ⟨rfl, hS, hG⟩
              have HS2 := Lib.hid hS
              have HT2 := Lib.hid (HT.out.grown hG NB.out)
              have HG2 := Lib.hid (gr_trans HG.out hG)
              clear hS hG HS HG HT C c0 c1
              go_wp2_with fail
              go_meet
              case rel => exact ⟨by first | rfl | rw [e3], by rw [E1.out]; exact HS2.out, HT2.out, HG2.out⟩
            · obtain ⟨e1, e2⟩ := G1.out rfl
              have E1 := Lib.hid e1
              have E2 := Lib.hid e2
              clear e1 e2
              go_wp2_with fail
              go_meet
              case rel => exact ⟨by rw [E2.out], by rw [E1.out]; exact HS.out, HT.out, HG.out⟩
          case rest =>
            clear HS HT HG
            obtain ⟨rfl, HS, HT, HG⟩ := hcut
            have C := Lib.hid (pivot E a' b' d1 wc HS.out Z1.out (by omega) hb')
            rw [G3.out] at C
            obtain ⟨c0, c1⟩ := HT.out
            go_upto_if 50 with (fail)
            refine C.out.mono ?_
            rintro e w2 ⟨rfl, hS, hl⟩
            replace HS := Lib.hid hS
            replace HT := Lib.hid (HT.out.below hl)
            replace HG := Lib.hid (gr_trans HG.out (gr_below hl _))
            clear hS hl C c0 c1
            go_upto_if 50 with (fail)
            go_cut [11, 12] (fun s11 s12 wx => s11 = .int .i64 pv ∧ s12 = .int .i64 (hintCode ht) ∧ Hid (St enc w0 blk off d2 wx) ∧ Hid (Tw wx w.heap.size (.func (.func g) #[] lb) (.func (.func sf) #[] sb)) ∧ Hid (w.grownBy wx (some blk)))
            case first =>
              by_cases hh : c2' = .decreasing
              · obtain ⟨e2, epv, eht⟩ := G4.out hh
                have E2 := Lib.hid e2
                have epz : (b' : Int) - 1 - ((c1' : Int) - (a' : Int)) = (pv : Int) := by omega
                have EH := Lib.hid eht
                subst hh
                clear e2 epv eht
                have hcode : (hintCode .decreasing == 2) = true := rfl
                have hcode2 : hintCode .decreasing = 2 := rfl
                have C := Lib.hid (TWO a' b' d1 w2 HS.out Z1.out hab' hb').2
                obtain ⟨c0, c1⟩ := HT.out
                go_wp2_with fail
                refine C.out.mono ?_
                rintro e w3 ⟨rfl, hS, hG⟩
                have HS2 := Lib.hid hS
                have HT2 := Lib.hid (HT.out.grown hG NB.out)
                have HG2 := Lib.hid (gr_trans HG.out hG)
                clear hS hG HS HG HT C c0 c1
                go_wp2_with fail
                go_meet
                case rel => exact ⟨by first | rfl | rw [epz], by rw [EH.out]; rfl, by rw [E2.out]; exact HS2.out, HT2.out, HG2.out⟩
              · obtain ⟨e2, epv, eht⟩ := G5.out hh
                have E2 := Lib.hid e2
                have EP := Lib.hid epv
                have EH := Lib.hid eht
                have hc2 : ¬ hintCode c2' = 2 := fun h => hh (hint_two h)
                have hcode : (hintCode c2' == 2) = false := by simpa using hc2
                clear e2 epv eht hc2
                go_wp2_with fail
                go_meet
                case rel => exact ⟨by rw [EP.out], by rw [EH.out], by rw [E2.out]; exact HS.out, HT.out, HG.out⟩
            case rest =>
              clear HS HT HG
              obtain ⟨rfl, rfl, HS, HT, HG⟩ := hcut
              go_upto_region 16 with (fail)
              go_cut [12, 68] (fun s12 s68 wx => s12 = .int .i64 (hintCode ht) ∧ s68 = .bool (wb && wp && decide (ht = .increasing)) ∧ wx = wc)
              case first =>
                cases wb <;> cases wp <;> cases ht <;>
                  (go_wp2_with fail
                   go_meet
                   exact ⟨rfl, rfl, rfl⟩)
              case rest =>
                obtain ⟨rfl, rfl, rfl⟩ := hcut
                go_upto_if 68 with (fail)
                go_cut [] (fun wx => Hid (p2 = false) ∧ Hid (St enc w0 blk off p1 wx) ∧ Hid (Tw wx w.heap.size (.func (.func g) #[] lb) (.func (.func sf) #[] sb)) ∧ Hid (w.grownBy wx (some blk)))
                case first =>
                  cases h68 : (wb && wp && decide (ht = .increasing))
                  · obtain ⟨e1, e2⟩ := G7.out h68
                    have E1 := Lib.hid e1
                    have E2 := Lib.hid e2
                    clear e1 e2
                    go_wp2_with fail
                    go_meet
                    case rel => exact ⟨E2.out, by rw [E1.out]; exact HS.out, HT.out, HG.out⟩
                  · have C := Lib.hid (pins E a' b' d2 wc HS.out Z2.out (by omega) hb')
                    rw [G6.out h68] at C
                    obtain ⟨c0, c1⟩ := HT.out
                    cases p2 with
                    | true =>
                      have HF : Hid (Sort.pdq lt d a b limit true true = p1) := show _ = _ by rw [← HO.out, G8.out rfl]
                      go_wp2_with fail
                      refine C.out.mono ?_
                      rintro e w3 ⟨rfl, hS, hG⟩
                      have HS2 := Lib.hid hS
                      have HG2 := Lib.hid (gr_trans HG.out hG)
                      clear hS hG HS HG HT C c0 c1
                      go_wp2_with fail
                      (try simp only [Exit.inBlock, Exit.then])
                      refine bodyPost_ret (results_none rfl _ _ _) rfl ?_
                      exact ⟨rfl, by rw [HF.out]; exact HS2.out, HG2.out⟩
                    | false =>
                      go_wp2_with fail
                      refine C.out.mono ?_
                      rintro e w3 ⟨rfl, hS, hG⟩
                      have HS2 := Lib.hid hS
                      have HT2 := Lib.hid (HT.out.grown hG NB.out)
                      have HG2 := Lib.hid (gr_trans HG.out hG)
                      clear hS hG HS HG HT C c0 c1
                      go_wp2_with fail
                      go_meet
                      case rel => exact ⟨(by first | exact True.intro | exact rfl), HS2.out, HT2.out, HG2.out⟩
                case rest =>
                  clear HS HT HG
                  obtain ⟨HP2, HS, HT, HG⟩ := hcut
                  go_upto_region 18 with (fail)
                  go_cut [83] (fun s83 wx => s83 = .bool (decide (a' > 0) && !lt p1[a' - 1]! p1[pv]!) ∧ Hid (St enc w0 blk off p1 wx) ∧ Hid (Tw wx w.heap.size (.func (.func g) #[] lb) (.func (.func sf) #[] sb)) ∧ Hid (w.grownBy wx (some blk)))
                  case first =>
                    by_cases ha0 : a' > 0
                    · have ha0z : (a' : Int) > 0 := by omega
                      have L := Lib.hid (E.less _ p1 HS.out Z3.out (a' - 1) pv (by omega) (by omega))
                      rw [show ((a' - 1 : Nat) : Int) = (a' : Int) - 1 by omega] at L
                      have c0 := HT.out.1
                      go_wp2_with fail
                      go_at_fn g
                      refine L.out.mono ?_
                      rintro e w3 ⟨rfl, hl⟩
                      replace HS := Lib.hid (HS.out.below hl)
                      replace HT := Lib.hid (HT.out.below hl)
                      replace HG := Lib.hid (gr_trans HG.out (gr_below hl _))
                      clear c0 hl L
                      go_wp2_with fail
                      go_meet
                      case rel => exact ⟨by rw [decide_eq_true ha0, Bool.true_and], HS.out, HT.out, HG.out⟩
                    · have ha0z : ¬ (a' : Int) > 0 := by omega
                      go_wp2_with fail
                      go_meet
                      case rel => exact ⟨by rw [decide_eq_false ha0, Bool.false_and], HS.out, HT.out, HG.out⟩
                  case rest =>
                    clear HS HT HG
                    obtain ⟨rfl, HS, HT, HG⟩ := hcut
                    cases h87 : (decide (a' > 0) && !lt p1[a' - 1]! p1[pv]!) with
                    | true =>
                      obtain ⟨mid, d4, hx⟩ : ∃ mid d4, partitionEqual lt p1 a' b' pv = (mid, d4) := ⟨_, _, rfl⟩
                      obtain ⟨r1, r2, r3, r4, r5⟩ := G9.out HP2.out h87 mid d4 hx
                      have C := Lib.hid (parteq E a' b' pv p1 wc HS.out Z3.out zp1 zp2 hb')
                      rw [hx] at C
                      have HN : Hid (Sort.pdq lt d4 mid b' lm wb wp = Sort.pdq lt d a b limit true true) := show _ = _ by rw [← HO.out, r5]
                      have HBN := Lib.hid r4
                      have HZN : Hid (d4.size = size) := r3.trans Z3.out
                      clear hx r3 r4 r5
                      obtain ⟨c0, c1⟩ := HT.out
                      go_wp2_with fail
                      refine C.out.mono ?_
                      rintro e w3 ⟨rfl, hS, hG⟩
                      have HS2 := Lib.hid hS
                      have HT2 := Lib.hid (HT.out.grown hG NB.out)
                      have HG2 := Lib.hid (gr_trans HG.out hG)
                      clear hS hG HS HG HT C c0 c1
                      go_wp2
                      go_roundw
                      case rel => exact ⟨mid, b', lm, wb, wp, d4, rfl, rfl, rfl, rfl, rfl, r2, hb', by omega, by omega, HZN.out, HBN.out, HS2.out, HT2.out, HG2.out, HN.out⟩
                      case measure => (simp [intOf] <;> omega)
                    | false =>
                      obtain ⟨mid, ap, d4, hx⟩ : ∃ mid ap d4, partition lt p1 a' b' pv = (mid, ap, d4) := ⟨_, _, _, rfl⟩
                      obtain ⟨r1, r2, r3, r4, r5⟩ := G10.out HP2.out h87 mid ap d4 hx
                      have C := Lib.hid (GsPart.part E a' b' pv p1 wc HS.out Z3.out zp1 zp2 hb')
                      rw [hx] at C
                      have R4 := Lib.hid r4
                      have R5 := Lib.hid r5
                      have HZN : Hid (d4.size = size) := r3.trans Z3.out
                      clear hx r3 r4 r5
                      obtain ⟨c0, c1⟩ := HT.out
                      go_wp2_with fail
                      refine C.out.mono ?_
                      rintro e w3 ⟨rfl, hS, hG⟩
                      have HS2 := Lib.hid hS
                      have HT2 := Lib.hid (HT.out.grown hG NB.out)
                      have HG2 := Lib.hid (gr_trans HG.out hG)
                      clear hS hG HS HG HT C c0 c1
                      by_cases h4 : mid - a' < b' - mid
                      · have h4z : (mid : Int) - (a' : Int) < (b' : Int) - (mid : Int) := by omega
                        obtain ⟨q1, q2, q3, q4⟩ := R4.out h4
                        have HN : Hid (Sort.pdq lt (Sort.pdq lt d4 a' mid lm true true) (mid + 1) b' lm (decide (mid - a' ≥ (b' - a') / 8)) ap = Sort.pdq lt d a b limit true true) := show _ = _ by rw [← HO.out, q4]
                        have HBN := Lib.hid q3
                        have HZM : Hid ((Sort.pdq lt d4 a' mid lm true true).size = size) := q2.trans HZN.out
                        have C := Lib.hid (IH.out a' mid lm d4 w3 (by omega) HS2.out HZN.out r1 (by omega) (by omega) q1)
                        clear q1 q2 q3 q4 R4 R5
                        generalize Sort.pdq lt d4 a' mid lm true true = d5 at *
                        obtain ⟨c0, c1⟩ := HT2.out
                        go_wp2_with fail
                        refine C.out.mono ?_
                        rintro e w4 ⟨rfl, hS, hG⟩
                        have HS3 := Lib.hid hS
                        have HT3 := Lib.hid (HT2.out.grown hG NB.out)
                        have HG3 := Lib.hid (gr_trans HG2.out hG)
                        clear hS hG HS2 HG2 HT2 C c0 c1
                        go_wp2
                        go_roundw
                        case rel => exact ⟨mid + 1, b', lm, decide (mid - a' ≥ (b' - a') / 8), ap, d5, by go_num, rfl, rfl, congrArg Value.bool (eighth (by omega) (by omega)), rfl, by omega, by omega, by omega, by omega, HZM.out, HBN.out, HS3.out, HT3.out, HG3.out, HN.out⟩
                        case measure => (simp [intOf] <;> omega)
                      · have h4z : ¬ (mid : Int) - (a' : Int) < (b' : Int) - (mid : Int) := by omega
                        obtain ⟨q1, q2, q3, q4⟩ := R5.out h4
                        have HN : Hid (Sort.pdq lt (Sort.pdq lt d4 (mid + 1) b' lm true true) a' mid lm (decide (b' - mid ≥ (b' - a') / 8)) ap = Sort.pdq lt d a b limit true true) := show _ = _ by rw [← HO.out, q4]
                        have HBN := Lib.hid q3
                        have HZM : Hid ((Sort.pdq lt d4 (mid + 1) b' lm true true).size = size) := q2.trans HZN.out
                        have C := Lib.hid (IH.out (mid + 1) b' lm d4 w3 (by omega) HS2.out HZN.out (by omega) (by omega) (by omega) q1)
                        rw [show ((mid + 1 : Nat) : Int) = (mid : Int) + 1 by omega] at C
                        clear q1 q2 q3 q4 R4 R5
                        generalize Sort.pdq lt d4 (mid + 1) b' lm true true = d5 at *
                        obtain ⟨c0, c1⟩ := HT2.out
                        go_wp2_with fail
                        refine C.out.mono ?_
                        rintro e w4 ⟨rfl, hS, hG⟩
                        have HS3 := Lib.hid hS
                        have HT3 := Lib.hid (HT2.out.grown hG NB.out)
                        have HG3 := Lib.hid (gr_trans HG2.out hG)
                        clear hS hG HS2 HG2 HT2 C c0 c1
                        go_wp2
                        go_roundw
                        case rel => exact ⟨a', mid, lm, decide (b' - mid ≥ (b' - a') / 8), ap, d5, rfl, rfl, rfl, congrArg Value.bool (eighth (by omega) (by omega)), rfl, by omega, by omega, by omega, by omega, HZM.out, HBN.out, HS3.out, HT3.out, HG3.out, HN.out⟩
                        case measure => (simp [intOf] <;> omega)
end
end Go.Proofs.YtmkcjjgicinggaaGreatDoor.GsPdq

/- What sort.Slice does at a slice of texts: it sorts them, whatever their number; the comparison may make memory. Conditions: a strict weak order; fewer than 2^62 texts. -/
namespace Go.Proofs.YtmkcjjgicinggaaGreatDoor.GsSlice
open Go.RowKit Go.Sort Go.Lib Go.Shelf Go.Proofs.YtmkcjjgicinggaaGreatDoor.Mem Go.Proofs.YtmkcjjgicinggaaGreatDoor.GsDef Go.Proofs.YtmkcjjgicinggaaGreatDoor.GsPdq

section
variable {α : Type} [Inhabited α] {g : Nat} {lb : Array Value} {sf : Nat} {sb : Array Value} {enc : α → Value} {lt : α → α → Bool} {blk off size : Nat} {w0 : World}

theorem two (E : En Tryz.prog g lb sf sb enc lt blk off size w0) : Two g lb sf sb enc blk off size w0 := by
  intro a b d W S hs hab hb
  have hsw : SwapSwaps Tryz.prog sf sb enc blk off d.size := by rw [hs]; exact E.swap
  have hsm : d.size < 4611686018427387904 := by rw [hs]; exact E.small
  have h1 := Any.breakPatterns_func_w (P := Tryz.prog) (ρ := Tryz.laysGg6_ren) { Tryz.laysGg6 with } enc (.func g) #[] lb sf sb blk off a b d W hsw S.1.2 S.lt hab (by omega) hsm
  have h2 := Any.reverseRange_func_w (P := Tryz.prog) (ρ := Tryz.laysGg30_ren) Tryz.laysGg30 enc (.func g) #[] lb sf sb blk off a b d W hsw S.1.2 S.lt hab (by omega) hsm
  refine ⟨?_, ?_⟩
  · change Calls Tryz.prog 203 _ _ _ at h1
    refine h1.mono ?_
    rintro e w' ⟨rfl, n, os, rfl⟩
    exact ⟨rfl, S.sorted (breakPatterns_holds d a b hab (by omega)).1 n os, sort_grown _ _ _ _ _ _ _⟩
  · change Calls Tryz.prog 205 _ _ _ at h2
    refine h2.mono ?_
    rintro e w' ⟨rfl, n, os, rfl⟩
    exact ⟨rfl, S.sorted (reverseRange_holds d a b hab (by omega)).1 n os, sort_grown _ _ _ _ _ _ _⟩
end

noncomputable def siT : TypeInfo := (Tryz.prog.info? 39).get (by kernel_rfl)

noncomputable def siE : TypeInfo := (Tryz.prog.info? 9).get (by kernel_rfl)

theorem siK (n : Nat) (h2 : 2 ≤ n) : Lib.swapperK n siE 24 = 4 := by
  have a : siE.hasPointers = true := by kernel_rfl
  have b : siE.bytes = 16 := by kernel_rfl
  have c : (n == 0) = false := by simp; omega
  have d : (n == 1) = false := by simp; omega
  simp [Lib.swapperK, a, b, c, d]

theorem below_grow (w : World) (os : Array Obj) : Below w.heap.size w (grow w os) := ⟨rfl, rfl, rfl, by rw [size_grow]; exact Nat.le_add_right _ _, fun k hk => heap_grow_old _ _ hk⟩

set_option maxRecDepth 100000 in
theorem slice {α : Type} [Inhabited α] (enc : α → Value) (h1 : ∀ x, (enc x).oneCell' = true) (lt : α → α → Bool) (hO : SWO lt) (g : Nat) (lb : Array Value) (eg : ∀ args w, (callFunc g args).run Tryz.prog w = .ok (.enter g args) w) (blk off c : Nat) (d : Array α) (hsz : d.size < 4611686018427387904)
    (w : World) (hH : Holds enc w blk off d) (hblk : blk < w.heap.size) (hless : Lss Tryz.prog g lb enc lt blk off d.size w) :
    Calls Tryz.prog 110 #[.iface 39 (.slice (some ⟨blk, off, none⟩) d.size c), .func (.func g) #[] lb] w fun e w' =>
      e = .returned (.tuple #[]) ∧ ∃ d' : Array α, PermIn 0 d.size d d' ∧ SortedIn lt 0 d.size d' ∧ St enc w blk off d' w' := by
  by_cases h2 : 2 ≤ d.size
  · have key := Any.sort_Slice_of_pdq (P := Tryz.prog) (ρ := Tryz.laysGg6_ren) Tryz.laysGg6 39 9 siT siE (by kernel_rfl) (by kernel_rfl) (by kernel_rfl) (by kernel_rfl) 24 (fun _ => by kernel_rfl)
      (some ⟨blk, off, none⟩) d.size c hsz 193 (by rw [siK _ h2]; kernel_rfl) (.func g) #[] lb w
      (fun w' => ∃ d' : Array α, PermIn 0 d.size d d' ∧ SortedIn lt 0 d.size d' ∧ St enc w blk off d' w') ?_
    · change Calls Tryz.prog 110 _ _ _ at key
      exact key
    · have hB : sliceBound Tryz.prog 9 siE 24 (some ⟨blk, off, none⟩) d.size c = #[.slice (some ⟨blk, off, none⟩) d.size c, typeHandle Tryz.prog 9] := by
        unfold sliceBound; rw [if_neg (swapperK_gt _ _ _ h2)]
      rw [hB]
      have E : En Tryz.prog g lb 193 #[.slice (some ⟨blk, off, none⟩) d.size c, typeHandle Tryz.prog 9] enc lt blk off d.size w :=
        ⟨eg, hless, swapSwaps_of_literal true 193 (fun args W => run_callFunc_extern Tryz.func193 (by kernel_rfl) (by kernel_rfl) (by kernel_rfl) (e := Extern.ReflectliteSwapper.swap true) (by kernel_rfl) args W)
          9 siE (by kernel_rfl) (by kernel_rfl) (fun _ => by kernel_rfl) enc h1 blk off d.size c, hsz⟩
      have S : St enc w blk off d (sliceWorld Tryz.prog Tryz.laysGg6_ren 39 (some ⟨blk, off, none⟩) d.size c w) := ((St.start hH hblk).alloc _).alloc _
      have hlim : Lib.bitLen d.size < 4611686018427387904 := Nat.lt_of_le_of_lt (Lib.bitLen_le d.size 62 (by omega) (by omega)) (by omega)
      have h := pdq E hO (two E) (d.size + 1) 0 d.size (Lib.bitLen d.size) d _ (by omega) S rfl (Nat.zero_le _) (Nat.le_refl _) hlim (Or.inl rfl)
      have hs := pdq_sorts lt hO d 0 d.size (Lib.bitLen d.size) true true (Nat.zero_le _) (Nat.le_refl _) (Or.inl rfl)
      change Calls Tryz.prog 157 _ _ _
      refine h.mono ?_
      rintro e w' ⟨rfl, hS, _⟩
      exact ⟨rfl, _, hs.1, hs.2, hS⟩
  · have hn : d.size ≤ 1 := by omega
    have hK : Lib.swapperK d.size siE 24 = d.size + 1 := by
      rcases Nat.eq_zero_or_pos d.size with h | h
      · rw [h]; simp [Lib.swapperK]
      · rw [show d.size = 1 by omega]; simp [Lib.swapperK]
    have key := Any.sort_Slice_tiny (P := Tryz.prog) (ρ := Tryz.laysGg6_ren) Tryz.laysGg6 39 9 siT siE (by kernel_rfl) (by kernel_rfl) (by kernel_rfl) (by kernel_rfl) 24 (fun _ => by kernel_rfl)
      (some ⟨blk, off, none⟩) d.size c hn (if d.size = 0 then 190 else 191) (by
        rw [hK]
        rcases Nat.eq_zero_or_pos d.size with h | h
        · rw [h, if_pos rfl]; kernel_rfl
        · rw [show d.size = 1 by omega, if_neg (by decide)]; kernel_rfl) (.func g) #[] lb w
    change Calls Tryz.prog 110 _ _ _ at key
    refine key.mono ?_
    rintro e w' ⟨rfl, os, rfl⟩
    refine ⟨rfl, d, permIn_refl d 0 d.size, fun i j _ h2 h3 => by omega, (St.start hH hblk).below (below_grow w os)⟩

set_option maxRecDepth 100000 in
theorem none_nil (lf : Fn) (la lb : Array Value) (w : World) : Calls Tryz.prog 110 #[.iface 39 (.slice none 0 0), .func lf la lb] w fun e w' => e = .returned (.tuple #[]) ∧ Below w.heap.size w w' := by
  have hK : Lib.swapperK 0 siE 24 = 1 := by simp [Lib.swapperK]
  have key := Any.sort_Slice_tiny (P := Tryz.prog) (ρ := Tryz.laysGg6_ren) Tryz.laysGg6 39 9 siT siE (by kernel_rfl) (by kernel_rfl) (by kernel_rfl) (by kernel_rfl) 24 (fun _ => by kernel_rfl) none 0 0 (by omega) 190 (by rw [hK]; kernel_rfl) lf la lb w
  change Calls Tryz.prog 110 _ _ _ at key
  refine key.mono ?_
  rintro e w' ⟨rfl, os, rfl⟩
  exact ⟨rfl, below_grow w os⟩
end Go.Proofs.YtmkcjjgicinggaaGreatDoor.GsSlice

/- Maps that a call makes and only adds to: what the block of such a map holds, entry by entry in the order in which they came, and the laws on a look-up, a store and a range. Condition: the keys are of a kind that can be compared without a panic (KeyT). -/
namespace Go.Proofs.YtmkcjjgicinggaaGreatDoor.MapK
open Go.RowKit Go.Proofs.YtmkcjjgicinggaaGreatDoor.Mem
open Go.ChangeMaps (setBlock heap_setBlock_same heap_setBlock_other)

/-- What the laws need of the values S as keys of type k. -/
structure KeyT (P : Program) (k : TypeId) (S : Value → Prop) : Prop where
  check : ∀ (w : World) (em : Bool) {v : Value}, S v → (Instr.checkKey em 10000 k v).run P w = .ok () w
  find : ∀ (w : World) {x : Value}, S x → ∀ es : List MapEntry, (∀ e ∈ es, S e.key) →
    ((Instr.findKey k x es).run P w = .ok none w ∧ ∀ e ∈ es, e.key ≠ x) ∨ ∃ j e, (Instr.findKey k x es).run P w = .ok (some (j, e.val)) w ∧ es[j]? = some e ∧ e.key = x
  stays : ∀ (w : World) {v : Value}, S v → (Instr.keyThatStays v v).run P w = .ok v w

theorem KeyT.of {P : Program} {k : TypeId} (K : Go.Maps.Keyed P k) {S : Value → Prop} (h : ∀ v, S v → ∃ l, keyOf P k v = some l) : KeyT P k S where
  check w em v hv := by obtain ⟨l, hl⟩ := h v hv; exact K.check w em hl
  find w x hx es hes := by obtain ⟨l, hl⟩ := h x hx; exact K.find w hl es (fun e he => h _ (hes e he))
  stays w v hv := by obtain ⟨l, hl⟩ := h v hv; exact K.stays w hl

/-- Keys of a struct's type: all that is wanted is whether two of them are equal. -/
theorem KeyT.struct {P : Program} {k : TypeId} {S : Value → Prop} (d : TypeDesc) (hd : P.underlying k = some d) (hn : ∀ x y : Value, S x → Instr.sameNow d x y = none)
    (check : ∀ (w : World) (em : Bool) {v : Value}, S v → (Instr.checkKey em 10000 k v).run P w = .ok () w)
    (same : ∀ (w : World) {x : Value}, S x → (Op.equal k x x).run P w = .ok true w)
    (diff : ∀ (w : World) {x y : Value}, S x → S y → x ≠ y → (Op.equal k x y).run P w = .ok false w)
    (stays : ∀ (w : World) {v : Value}, S v → (Instr.keyThatStays v v).run P w = .ok v w) : KeyT P k S where
  check := check
  stays := stays
  find := by
    have ask : ∀ (w : World) {x : Value}, S x → ∀ (es : List MapEntry) (i : Nat), (∀ e ∈ es, S e.key) →
        ((Instr.findAsking k x es i).run P w = .ok none w ∧ ∀ e ∈ es, e.key ≠ x) ∨ ∃ j e, (Instr.findAsking k x es i).run P w = .ok (some (i + j, e.val)) w ∧ es[j]? = some e ∧ e.key = x := by
      intro w x hx es
      induction es with
      | nil => intro i _; exact Or.inl ⟨rfl, fun e he => by cases he⟩
      | cons e es ih =>
        intro i hes
        have he := hes e (by simp)
        by_cases hq : e.key = x
        · right
          refine ⟨0, e, ?_, rfl, hq⟩
          have hrun := same w hx
          rw [Instr.findAsking, hq]
          simp only [Sem.run_bind, hrun, Result.andThen]
          rfl
        · have hrun := diff w hx he (fun h => hq h.symm)
          have e1 : (Instr.findAsking k x (e :: es) i).run P w = (Instr.findAsking k x es (i + 1)).run P w := by
            rw [Instr.findAsking]
            simp only [Sem.run_bind, hrun, Result.andThen]
            rfl
          rw [e1]
          rcases ih (i + 1) (fun e' he' => hes e' (by simp [he'])) with ⟨h1, h2⟩ | ⟨j, e', h1, h2, h3⟩
          · left
            refine ⟨h1, fun e' he' => ?_⟩
            rcases List.mem_cons.1 he' with rfl | he'
            · exact hq
            · exact h2 e' he'
          · right
            exact ⟨j + 1, e', by rw [h1, show i + 1 + j = i + (j + 1) by omega], by simpa using h2, h3⟩
    intro w x hx es hes
    have hu : (Instr.findKey k x es).run P w = (Instr.findAsking k x es).run P w := by
      simp only [Instr.findKey, Sem.run_bind, run_underlying hd, Result.andThen]
      cases es with
      | nil => rfl
      | cons e es =>
        have h0 : Instr.findNow d x (e :: es) 0 = none := by
          rw [Instr.findNow, hn x e.key hx]
        rw [h0]
    rw [hu]
    rcases ask w hx es 0 hes with h | ⟨j, e, h1, h2, h3⟩
    · exact Or.inl h
    · exact Or.inr ⟨j, e, by rw [h1, Nat.zero_add], h2, h3⟩

theorem own_mono {w : World} {base base' : Nat} {e : TypeId} {size : Nat} {v : Value} {n : Nat} {xs : List Value} (h : w.ownsRow base e size v n xs) (hb : base' ≤ base) : w.ownsRow base' e size v n xs :=
  ⟨h.1, h.2.imp id (fun ⟨g, cap, cur, a, b, r⟩ => ⟨g, cap, cur, a, Nat.le_trans hb b, r⟩)⟩

/-- Block b of w is a map with just these entries, in the order in which they came. -/
def Mp (w : World) (b : Nat) (l : List (Value × Value)) : Prop :=
  ∃ es clock, w.heap[b]? = some (.map es clock) ∧ es.toList.map (fun e => (e.key, e.val)) = l ∧ (∀ e ∈ es.toList, e.born < clock) ∧ (es.toList.map (·.born)).Nodup

section
variable {P : Program} {w w' : World} {b : Nat} {l : List (Value × Value)} {k e t : TypeId} {S : Value → Prop}

theorem Mp.lt (h : Mp w b l) : b < w.heap.size := by
  obtain ⟨es, clock, hb, _⟩ := h
  exact (Array.getElem?_eq_some_iff.1 hb).1

theorem Mp.kept (h : Mp w b l) (hk : w'.heap[b]? = w.heap[b]?) : Mp w' b l := by
  obtain ⟨es, clock, hb, h1⟩ := h
  exact ⟨es, clock, hk.trans hb, h1⟩

theorem Mp.grown {row : Option Nat} (h : Mp w b l) (hg : w.grownBy w' row) (hne : some b ≠ row) : Mp w' b l := h.kept (hg.block b h.lt hne)

theorem Mp.below {B : Nat} (h : Mp w b l) (hb : Below B w w') (hlt : b < B) : Mp w' b l := h.kept (hb.block b hlt)

theorem Mp.alloc (h : Mp w b l) (o : Obj) : Mp (w.alloc o) b l := h.grown (World.grownBy_alloc w o none) (by simp)

theorem Mp.drew (h : Mp w b l) : Mp w.drew b l := h

theorem Mp.drewN (h : Mp w b l) (q : Nat) : Mp (w.drewN q) b l := h

theorem Mp.set (h : Mp w b l) {p : Addr} (hp : b ≠ p.block) (u : Value) : Mp (w.setCell p u) b l := h.kept (Below.heap_setCell w p u b hp)

theorem Mp.made (w : World) : Mp (w.alloc (.map #[] 0)) w.heap.size [] := ⟨#[], 0, (MapKept.heap_alloc w _).1, rfl, by simp, by simp⟩

theorem mem_key {es : Array MapEntry} (h : es.toList.map (fun e => (e.key, e.val)) = l) (hS : ∀ p ∈ l, S p.1) : ∀ e ∈ es.toList, S e.key := fun e he =>
  hS (e.key, e.val) (h ▸ List.mem_map.2 ⟨e, he, rfl⟩)

/-- A look-up of a key that is not there. -/
theorem Mp.out (h : Mp w b l) (K : KeyT P k S) (ht : P.underlying t = some (.map k e)) {z : Value} (hz : (zeroValue e).run P w = .ok z w) (hS : ∀ p ∈ l, S p.1) {x : Value} (hx : S x) (hno : ∀ p ∈ l, p.1 ≠ x) (ok : Bool) :
    (Instr.lookup t (.map (some b)) x ok).run P w = .ok (if ok then .tuple #[z, .bool false] else z) w := by
  obtain ⟨es, clock, hb, hl, _⟩ := h
  rcases K.find w hx es.toList (mem_key hl hS) with ⟨hrun, _⟩ | ⟨j, e0, _, hj, hk⟩
  · simp [Instr.lookup, run_underlying ht, MapKept.run_getObj_map hb, K.check w es.isEmpty hx, hrun, hz, Result.andThen]
  · exact absurd hk (hno (e0.key, e0.val) (hl ▸ List.mem_map.2 ⟨e0, List.mem_of_getElem? hj, rfl⟩))

theorem nodup_inj {α : Type} {l : List α} (hd : l.Nodup) {i j : Nat} {a : α} (h1 : l[i]? = some a) (h2 : l[j]? = some a) : i = j := by
  obtain ⟨hi, e1⟩ := List.getElem?_eq_some_iff.1 h1
  obtain ⟨hj, e2⟩ := List.getElem?_eq_some_iff.1 h2
  have hp := List.pairwise_iff_getElem.1 hd
  rcases Nat.lt_trichotomy i j with h | h | h
  · exact absurd (e1.trans e2.symm) (hp i j hi hj h)
  · exact h
  · exact absurd (e2.trans e1.symm) (hp j i hj hi h)

theorem key_idx (hd : (l.map Prod.fst).Nodup) {x u v : Value} {i j : Nat} (h1 : l[i]? = some (x, u)) (h2 : l[j]? = some (x, v)) : i = j :=
  nodup_inj hd (a := x) (by rw [List.getElem?_map, h1]; rfl) (by rw [List.getElem?_map, h2]; rfl)

theorem key_one (hd : (l.map Prod.fst).Nodup) {x u v : Value} (h1 : (x, u) ∈ l) (h2 : (x, v) ∈ l) : u = v := by
  obtain ⟨i, e1⟩ := List.getElem?_of_mem h1
  obtain ⟨j, e2⟩ := List.getElem?_of_mem h2
  obtain rfl := key_idx hd e1 e2
  rw [e1] at e2
  cases e2
  rfl

/-- A look-up of a key that is there. -/
theorem Mp.in (h : Mp w b l) (K : KeyT P k S) (ht : P.underlying t = some (.map k e)) (hS : ∀ p ∈ l, S p.1) (hd : (l.map Prod.fst).Nodup) {x v : Value} (hx : S x) (hin : (x, v) ∈ l) (ok : Bool) :
    (Instr.lookup t (.map (some b)) x ok).run P w = .ok (if ok then .tuple #[v, .bool true] else v) w := by
  obtain ⟨es, clock, hb, hl, _⟩ := h
  rcases K.find w hx es.toList (mem_key hl hS) with ⟨_, hno⟩ | ⟨j, e0, hrun, hj, hk⟩
  · rw [← hl] at hin
    obtain ⟨e0, he, hq⟩ := List.mem_map.1 hin
    exact absurd (congrArg Prod.fst hq) (hno e0 he)
  · have hv : e0.val = v := key_one hd (x := x) (by rw [← hl, ← hk]; exact List.mem_map.2 ⟨e0, List.mem_of_getElem? hj, rfl⟩) hin
    simp [Instr.lookup, run_underlying ht, MapKept.run_getObj_map hb, K.check w es.isEmpty hx, hrun, hv, Result.andThen]

theorem grown_block {es : Array MapEntry} {c : Nat} (hb : w.heap[b]? = some (.map es c)) (o' : Obj) : w.grownBy (setBlock w b o') (some b) := by
  exact ⟨rfl, rfl, rfl, by simp [setBlock], fun i _ hi => heap_setBlock_other hb _ (fun e => hi (by rw [e]))⟩

/-- A store at a key that is not there. -/
theorem Mp.new (h : Mp w b l) (K : KeyT P k S) (ht : P.underlying t = some (.map k e)) (hS : ∀ p ∈ l, S p.1) {x : Value} (v : Value) (hx : S x) (hno : ∀ p ∈ l, p.1 ≠ x) :
    ∃ w', (Instr.mapUpdate t (.map (some b)) x v).run P w = .ok () w' ∧ Mp w' b (l ++ [(x, v)]) ∧ w.grownBy w' (some b) ∧ w'.heap.size = w.heap.size := by
  obtain ⟨es, clock, hb, hl, hborn, hnd⟩ := h
  rcases K.find w hx es.toList (mem_key hl hS) with ⟨hrun, _⟩ | ⟨j, e0, _, hj, hk⟩
  · refine ⟨setBlock w b (.map (es.push ⟨x, v, clock⟩) (clock + 1)), ?_, ⟨_, _, heap_setBlock_same hb _, ?_, ?_, ?_⟩, grown_block hb _, by simp [setBlock]⟩
    · simp [Instr.mapUpdate, run_underlying ht, MapKept.run_getObj_map hb, K.check w false hx, hrun, MapKept.run_setObj_map _ hb, Result.andThen, setBlock]
    · rw [Array.toList_push, List.map_append, hl]; rfl
    · intro e' he'
      rw [Array.toList_push, List.mem_append] at he'
      rcases he' with he' | he'
      · have := hborn e' he'; omega
      · obtain rfl := List.mem_singleton.1 he'; exact Nat.lt_succ_self _
    · rw [Array.toList_push, List.map_append, List.nodup_append]
      refine ⟨hnd, by simp, fun a ha c hc => ?_⟩
      obtain ⟨e', he', rfl⟩ := List.mem_map.1 ha
      have h1 := hborn e' he'
      simp at hc
      omega
  · exact absurd hk (hno (e0.key, e0.val) (hl ▸ List.mem_map.2 ⟨e0, List.mem_of_getElem? hj, rfl⟩))

/-- A store at a key that is there. -/
theorem Mp.old (h : Mp w b l) (K : KeyT P k S) (ht : P.underlying t = some (.map k e)) (hS : ∀ p ∈ l, S p.1) (hd : (l.map Prod.fst).Nodup) {x u : Value} (v : Value) (hx : S x) {j : Nat} (hin : l[j]? = some (x, u)) :
    ∃ w', (Instr.mapUpdate t (.map (some b)) x v).run P w = .ok () w' ∧ Mp w' b (l.set j (x, v)) ∧ w.grownBy w' (some b) ∧ w'.heap.size = w.heap.size := by
  obtain ⟨es, clock, hb, hl, hborn, hnd⟩ := h
  rcases K.find w hx es.toList (mem_key hl hS) with ⟨_, hno⟩ | ⟨i, e0, hrun, hi, hk⟩
  · have hm := List.mem_of_getElem? hin
    rw [← hl] at hm
    obtain ⟨e0, he, hq⟩ := List.mem_map.1 hm
    exact absurd (congrArg Prod.fst hq) (hno e0 he)
  · have hli : l[i]? = some (e0.key, e0.val) := by rw [← hl, List.getElem?_map, hi]; rfl
    rw [hk] at hli
    obtain rfl := key_idx hd hli hin
    have hget : es[i]? = some e0 := by rw [← Array.getElem?_toList]; exact hi
    refine ⟨setBlock w b (.map (es.modify i fun e => { e with key := x, val := v }) clock), ?_, ⟨_, _, heap_setBlock_same hb _, ?_, ?_, ?_⟩, grown_block hb _, by simp [setBlock]⟩
    · have hst := K.stays w hx
      have hck := K.check w false hx
      subst hk
      simp [Instr.mapUpdate, run_underlying ht, MapKept.run_getObj_map hb, hck, hrun, hget, hst, MapKept.run_setObj_map _ hb, Result.andThen, setBlock]
    · rw [Array.toList_modify, ← hl]
      refine List.ext_getElem? fun n => ?_
      rw [List.getElem?_map, List.getElem?_modify, List.getElem?_set]
      by_cases hn : i = n
      · subst hn
        have : i < es.toList.length := (List.getElem?_eq_some_iff.1 hi).1
        rw [Array.length_toList] at this
        simp [this]
      · simp [hn]
    · intro e' he'
      rw [Array.toList_modify] at he'
      obtain ⟨n, hn⟩ := List.getElem?_of_mem he'
      rw [List.getElem?_modify] at hn
      obtain ⟨e1, h1, rfl⟩ := Option.map_eq_some_iff.1 hn
      have := hborn e1 (List.mem_of_getElem? h1)
      split <;> exact this
    · have : (es.modify i fun e => { e with key := x, val := v }).toList.map (·.born) = es.toList.map (·.born) := by
        rw [Array.toList_modify]
        refine List.ext_getElem? fun n => ?_
        rw [List.getElem?_map, List.getElem?_map, List.getElem?_modify]
        cases es.toList[n]? <;> simp
        split <;> rfl
      rw [this]
      exact hnd

/-- 'm[k]' at the operation. -/
theorem wp_look {ops : Array Oper} {rest : List Oper} {o : Oper} {a : Act} {Q : Exit → Act → World → Prop}
    (hg : o.guard = none) (m x : Operand) (ok : Bool) (hop : o.op = Op.lookup t m x ok) (key r : Value) (hm : a.eval m = .map (some b)) (hx : a.eval x = key)
    (hrun : (Instr.lookup t (.map (some b)) key ok).run P w = .ok r w) (hK : wpList P ops Q rest (a.put o.dst r) w) : wpList P ops Q (o :: rest) a w := by
  refine wpList_plain hg fun K' hK' => ?_
  unfold Oper.wp
  simp [execOp, hop, hm, hx, hrun, Result.andThen]
  exact hK' _ _ hK

/-- 'm[k] = v' at the operation. -/
theorem wp_store {ops : Array Oper} {rest : List Oper} {o : Oper} {a : Act} {Q : Exit → Act → World → Prop}
    (hg : o.guard = none) (m x v : Operand) (hop : o.op = Op.mapUpdate t m x v) (key u : Value) (hm : a.eval m = .map (some b)) (hx : a.eval x = key) (hv : a.eval v = u)
    (l' : List (Value × Value)) (hrun : ∃ w', (Instr.mapUpdate t (.map (some b)) key u).run P w = .ok () w' ∧ Mp w' b l' ∧ w.grownBy w' (some b) ∧ w'.heap.size = w.heap.size)
    (hK : ∀ w', Mp w' b l' → w.grownBy w' (some b) → w'.heap.size = w.heap.size → wpList P ops Q rest (a.put o.dst undef) w') : wpList P ops Q (o :: rest) a w := by
  obtain ⟨w', h1, h2, h3, h4⟩ := hrun
  refine wpList_plain hg fun K' hK' => ?_
  unfold Oper.wp
  simp [execOp, hop, hm, hx, hv, h1, Result.andThen]
  exact hK' _ _ (hK w' h2 h3 h4)
end
end Go.Proofs.YtmkcjjgicinggaaGreatDoor.MapK

/- What maps.Keys and slices.Collect do at a map whose keys are texts: a new slice with all its keys, in some order; nil if there is none. Conditions: fewer than 100000001 entries, at most 400000000 bytes in each key. -/
namespace Go.Proofs.YtmkcjjgicinggaaGreatDoor.GsKeys
open Go.RowKit Go.Shelf Go.Maps Go.Sort Go.Proofs.YtmkcjjgicinggaaGreatDoor.Mem Go.Proofs.YtmkcjjgicinggaaGreatDoor.MemS Go.Proofs.YtmkcjjgicinggaaGreatDoor.MapK
open Go.WideElems (Fit rd rg rd_mk rg_of)

/-- How an element reads: not at all. -/
def R0 (H : Type) : Value → Option (DataW H × List MemPlace) := fun _ => some (.nil, [])

theorem key_of (a : ByteArray) (h : a.size ≤ 400000000) : keyOf Tryz.prog 9 (.string a) = some (.string a.data.toList) := by
  have hm : a.size ≤ maxLen := by unfold maxLen; omega
  simp [keyOf, Tryz.underlying9, mapKey, hm]

theorem owns {w : World} {b : Nat} {K : List ByteArray} {v : ByteArray → Value} (h : Mp w b (K.map fun a => (.string a, v a))) (nd : K.Nodup) (hz : ∀ a ∈ K, a.size ≤ 400000000) (hl : K.length ≤ 100000000) :
    ∃ D0 : DataW Unit, w.ownsMap Tryz.prog 9 (R0 Unit) b K.length D0 ∧ (strKeys D0).Perm (K.map (·.data.toList)) ∧ Maps.size D0 = K.length := by
  obtain ⟨es, clock, hb, hes, hborn, hnd⟩ := h
  have hlen : es.toList.length = K.length := by have := congrArg List.length hes; simpa using this
  have key : ∀ x ∈ es.toList, ∃ a ∈ K, x.key = .string a := fun x hx => by
    have : (x.key, x.val) ∈ es.toList.map (fun e => (e.key, e.val)) := List.mem_map.2 ⟨x, hx, rfl⟩
    rw [hes] at this
    obtain ⟨a, ha, e⟩ := List.mem_map.1 this
    exact ⟨a, ha, (congrArg Prod.fst e).symm⟩
  have rds : ∀ x ∈ es.toList, ∃ a ∈ K, x.key = .string a ∧ rd Tryz.prog 9 (R0 Unit) x = some (.string a.data.toList, .nil) := fun x hx => by
    obtain ⟨a, ha, e⟩ := key x hx
    refine ⟨a, ha, e, ?_⟩
    obtain ⟨xk, xv, xb⟩ := x
    simp only at e
    subst e
    exact rd_mk (R := R0 Unit) (yv := (.nil, [])) (key_of a (hz a ha)) rfl
  have hkeys : (es.toList.map (·.key)).Nodup := by
    have e : es.toList.map (·.key) = K.map Value.string := by
      have := congrArg (List.map Prod.fst) hes
      rw [List.map_map, List.map_map] at this
      exact this
    rw [e]
    exact List.pairwise_map.2 (nd.imp fun h e => h (by simpa using e))
  refine ⟨_, ⟨es, clock, hb, ⟨by rw [← Array.length_toList, hlen]; unfold maxLen; omega, ⟨hborn, hnd, hkeys⟩, fun x hx => ?_⟩, by rw [← Array.length_toList, hlen]; exact Nat.le_refl _, rfl⟩, ?_, ?_⟩
  · obtain ⟨a, _, _, e⟩ := rds x hx
    exact ⟨_, e⟩
  · show ((((es.toList.map (rg Tryz.prog 9 (R0 Unit))).foldr DataW.insert []).map fun p => strOf p.1)).Perm _
    refine ((Go.WideShapes.sorted_perm _).map _).trans (List.Perm.of_eq ?_)
    rw [List.map_map]
    have e2 : K.map (·.data.toList) = (es.toList.map (fun e => (e.key, e.val))).map (fun p => match p.1 with | .string s => s.data.toList | _ => []) := by
      rw [hes, List.map_map]
      exact List.map_congr_left fun a _ => rfl
    rw [e2, List.map_map]
    refine List.map_congr_left fun x hx => ?_
    obtain ⟨a, _, ek, e⟩ := rds x hx
    simp only [Function.comp_apply, rg_of e, ek]
    rfl
  · show (((es.toList.map (rg Tryz.prog 9 (R0 Unit))).foldr DataW.insert [])).length = _
    rw [(Go.WideShapes.sorted_perm _).length_eq, List.length_map, hlen]

/-- A slice, perhaps nil, that reads as the texts; the call's own memory. -/
def Own (base : Nat) (L : List ByteArray) (v : Value) (w' : World) : Prop := w'.ownsRow base 9 1 v L.length (L.map tv) ∧ (v = .slice none 0 0 ↔ L = [])

theorem keys (mb : Option Nat) (w : World) : Calls Tryz.prog 109 #[.map mb] w fun e w' => e = .returned (.func (.func 152) #[] #[.pointer (some ⟨w.heap.size, 0, none⟩)]) ∧ w' = w.alloc (.cells #[.map mb] 84) :=
  (callsIn_wide (n := 6)).1 (AnyZ.keys_in Tryz.keysZ Fence.wide 6 trivial rfl mb w)

set_option maxRecDepth 100000 in
theorem collect {w : World} {b Bm : Nat} {K : List ByteArray} {v : ByteArray → Value} (h : Mp w b (K.map fun a => (.string a, v a))) (nd : K.Nodup) (hz : ∀ a ∈ K, a.size ≤ 400000000) (hl : K.length ≤ 100000000) (hm : w.cell? ⟨Bm, 0, none⟩ = some (.map (some b))) :
    Calls Tryz.prog 108 #[.func (.func 152) #[] #[.pointer (some ⟨Bm, 0, none⟩)]] w fun e w' => ∃ (v : Value) (L : List ByteArray), e = .returned v ∧ L.Perm K ∧ Own w.heap.size L v w' ∧ Below w.heap.size w w' := by
  obtain ⟨D0, hown, hperm, hsize⟩ := owns h nd hz hl
  have hseq : SeqGives Fence.wide 4 Tryz.prog 152 #[.pointer (some ⟨Bm, 0, none⟩)] encStr (fun ss => ss.Perm (strKeys D0)) (Maps.size D0) w :=
    AnyZ.keys_gives (ρ := Tryz.keysZ_ren) { Tryz.keysZ with } Fence.wide 4 trivial rfl (by omega) Bm b K.length D0 w (World.block_lt_of_cell? _ _ hm) hm hown
  have hC := AnyZ.collect_in Tryz.collZ Fence.wide 6 trivial trivial rfl (by omega) 152 #[.pointer (some ⟨Bm, 0, none⟩)] trivial (enters_of Tryz.func152 (by kernel_rfl) rfl)
    _ (Maps.size D0) (by rw [hsize]; unfold maxLen; omega) (by rw [hsize]; omega) w hseq
  refine ((callsIn_wide (n := 6)).1 hC).mono ?_
  rintro e w' ⟨x, ss, rfl, hS, hrow, hnil, hb⟩
  have e1 : ss.map encStr = (ss.map fun l => (⟨l.toArray⟩ : ByteArray)).map tv := by rw [List.map_map]; rfl
  have e2 : (ss.map fun l => (⟨l.toArray⟩ : ByteArray)).Perm K := by
    have := (hS.trans hperm).map (fun l => (⟨l.toArray⟩ : ByteArray))
    rw [List.map_map] at this
    refine this.trans (List.Perm.of_eq ?_)
    conv => rhs; rw [← List.map_id K]
    exact List.map_congr_left fun a _ => by simp
  refine ⟨x, ss.map fun l => ⟨l.toArray⟩, rfl, e2, ⟨?_, ?_⟩, hb⟩
  · rw [← e1, List.length_map]
    exact hrow
  · rw [hnil]
    simp
end Go.Proofs.YtmkcjjgicinggaaGreatDoor.GsKeys

/- Plain facts on memory: questions, and what a slice of questions reads as; a new slice of questions that a call gives back; a law on append of one question. -/
namespace Go.Proofs.YtmkcjjgicinggaaGreatDoor.MemQ
open Go.RowKit Go.Proofs.YtmkcjjgicinggaaGreatDoor.Mem Go.Proofs.YtmkcjjgicinggaaGreatDoor.SetMath

/-- The cells that hold a question. -/
def qc (q : Key) : List Value := [.string q.name, .int .i64 q.ty]

/-- A question as a value. -/
def qv (q : Key) : Value := .agg #[.string q.name, .int .i64 q.ty]

/-- The cells that hold a list of questions. -/
def fq (l : List Key) : List Value := l.flatMap qc

theorem fq_cons (r : Key) (l : List Key) : fq (r :: l) = qc r ++ fq l := rfl

theorem fq_append (l m : List Key) : fq (l ++ m) = fq l ++ fq m := List.flatMap_append

theorem fq_len : ∀ l : List Key, (fq l).length = l.length * 2
  | [] => rfl
  | r :: l => by rw [fq_cons, List.length_append, fq_len l, List.length_cons, show (qc r).length = 2 from rfl]; omega

theorem fq_get : ∀ (l : List Key) (j c : Nat) (h : j < l.length), c < 2 → (fq l)[j * 2 + c]? = (qc l[j])[c]?
  | r :: l, 0, c, _, hc => by
    rw [fq_cons, Nat.zero_mul, Nat.zero_add, List.getElem?_append_left (by show c < 2; exact hc)]
    rfl
  | r :: l, j + 1, c, h, hc => by
    have e : (qc r).length = 2 := rfl
    rw [fq_cons, List.getElem?_append_right (by rw [e]; omega), e, show (j + 1) * 2 + c - 2 = j * 2 + c by omega, fq_get l j c (by simpa using h) hc]
    rfl

/-- Both cells set: the question there is another one. -/
theorem fq_put : ∀ (l : List Key) (k : Nat) (r : Key), k < l.length → ((fq l).set (k * 2) (.string r.name)).set (k * 2 + 1) (.int .i64 r.ty) = fq (l.set k r)
  | x :: l, 0, r, _ => rfl
  | x :: l, k + 1, r, h => by
    have e2 : (qc x).length = 2 := rfl
    have e : ∀ (Y : List Value) (c : Nat) (v : Value), (qc x ++ Y).set ((k + 1) * 2 + c) v = qc x ++ Y.set (k * 2 + c) v := fun Y c v => by
      rw [List.set_append_right _ _ (by rw [e2]; omega), e2, show (k + 1) * 2 + c - 2 = k * 2 + c by omega]
    have e0 : ∀ (Y : List Value) (v : Value), (qc x ++ Y).set ((k + 1) * 2) v = qc x ++ Y.set (k * 2) v := fun Y v => e Y 0 v
    rw [fq_cons, e0, e, fq_put l k r (by simpa using h)]
    rfl

/-- From offset o on, block b holds the question q. -/
def Cq (w : World) (b o : Nat) (q : Key) : Prop := w.cell? ⟨b, o, none⟩ = some (.string q.name) ∧ w.cell? ⟨b, o + 1, none⟩ = some (.int .i64 q.ty)

/-- The slice with address A and n elements reads, in w, as the questions l. -/
def Sq (w : World) (A : Option Addr) (n : Nat) (l : List Key) : Prop :=
  l.length = n ∧ (0 < n → ∃ b off, A = some ⟨b, off, none⟩ ∧ b < w.heap.size ∧ ∀ j (h : j < l.length), Cq w b (off + j * 2) l[j])
section
variable {w w' : World} {n g b o : Nat} {A : Option Addr} {l : List Key} {t : TypeId} {q : Key}

theorem Cq.below {B : Nat} (h : Cq w b o q) (hb : Below B w w') (hl : b < B) : Cq w' b o q := ⟨(hb.cell (p := ⟨b, o, none⟩) hl).trans h.1, (hb.cell (p := ⟨b, o + 1, none⟩) hl).trans h.2⟩

theorem Sq.nil : Sq w A 0 [] := ⟨rfl, fun h => absurd h (Nat.lt_irrefl _)⟩

theorem Sq.on (h : Sq w A n l) (hb : Below w.heap.size w w') : Sq w' A n l := by
  refine ⟨h.1, fun hn => ?_⟩
  obtain ⟨b, off, hA, hl, hc⟩ := h.2 hn
  exact ⟨b, off, hA, Nat.lt_of_lt_of_le hl hb.size, fun j hj => (hc j hj).below hb hl⟩

theorem bk_cq {v : List Value} (h : Bk w g t (fq l ++ v)) (j : Nat) (hj : j < l.length) : Cq w g (j * 2) l[j] := by
  have hc : ∀ c, c < 2 → w.cell? ⟨g, j * 2 + c, none⟩ = (qc l[j])[c]? := fun c hc => by
    rw [h.cell, List.getElem?_append_left (by rw [fq_len]; omega), fq_get l j c hj hc]
  exact ⟨hc 0 (by omega), hc 1 (by omega)⟩

/-- A block of questions with room behind, read as a slice over its head. -/
theorem bk_sq {v : List Value} (h : Bk w g t (fq l ++ v)) (hn : l.length = n) : Sq w (some ⟨g, 0, none⟩) n l :=
  ⟨hn, fun _ => ⟨g, 0, rfl, h.lt, fun j hj => by rw [Nat.zero_add]; exact bk_cq h j hj⟩⟩

/-- What the call owns as a row of questions is such a block. -/
theorem bk_of_owns2 {base cap : Nat} {xs : List Value} (h : w.ownsRow base t 2 (.slice (some ⟨g, 0, none⟩) n cap) n xs) : ∃ r, Bk w g t (xs ++ r) ∧ (xs ++ r).length = cap * 2 ∧ n ≤ cap ∧ base ≤ g := by
  rcases h.2 with ⟨h1, _⟩ | ⟨g', cap', cur, hv, hb, hh, hle, _, hs, ht⟩
  · cases h1
  · simp only [Value.slice.injEq, Option.some.injEq, Addr.mk.injEq, true_and, and_true] at hv
    obtain ⟨rfl, rfl⟩ := hv
    refine ⟨cur.toList.drop (n * 2), ?_, ?_, hle, hb⟩
    · unfold Bk; rw [hh, ← ht]; simp
    · rw [← ht]; simp; omega
end

theorem info : (Tryz.prog.info? 29).map (fun i => (i.zero, i.size, i.bytes)) = some (some (.agg #[.string ⟨#[]⟩, .int .i64 0]), 2, 24) := by kernel_rfl

/-- The call returned a new slice that reads as the questions l (room behind it let in), and turned nothing that was there. -/
def GivesQ (w : World) (l : List Key) (e : Ending) (w' : World) : Prop :=
  ∃ g m c r, e = .returned (.slice (some ⟨g, 0, none⟩) m c) ∧ l.length = m ∧ m ≤ c ∧ w.heap.size ≤ g ∧ Bk w' g 29 (fq l ++ r) ∧ Below w.heap.size w w'

theorem owns_new (w : World) : (w.alloc (.cells #[] 29)).ownsRow w.heap.size 29 2 (.slice (some ⟨w.heap.size, 0, none⟩) 0 0) 0 [] :=
  World.ownsRow_made w #[] 0 (Nat.le_refl _) (Nat.zero_le _) (by simp)

theorem one_fq (y : Key) : ∀ u ∈ [Value.string y.name, Value.int .i64 y.ty], u.oneCell' = true := by
  intro u hu
  simp only [List.mem_cons, List.not_mem_nil, or_false] at hu
  rcases hu with rfl | rfl <;> rfl

/-- What the call owns as a row of questions is a slice that GivesQ speaks of. -/
theorem gives_of_owns {w w' : World} {g n cap : Nat} {l : List Key} (h : w'.ownsRow w.heap.size 29 2 (.slice (some ⟨g, 0, none⟩) n cap) n (fq l)) (hb : Below w.heap.size w w') : GivesQ w l (.returned (.slice (some ⟨g, 0, none⟩) n cap)) w' := by
  have hl : l.length = n := by have := h.1; rw [fq_len] at this; omega
  obtain ⟨r, hk, hr, hcap, hg⟩ := bk_of_owns2 h
  exact ⟨g, n, cap, r, rfl, hl, hcap, hg, hk, hb⟩
end Go.Proofs.YtmkcjjgicinggaaGreatDoor.MemQ
