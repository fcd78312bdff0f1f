/- What sort.order2_func, median_func and medianAdjacent_func do: they choose among places of the row, and count exchanges in a cell of their own. -/
import Derived.Test.YtmkcjjgicinggaaGreatDoorGsDef
import Derived.Sort.LotD4
import Derived.Sort.LotD1
import Derived.Deep.DeepCutAuto
namespace Go.Proofs.YtmkcjjgicinggaaGreatDoor.GsMed
open Go.RowKit Go.Sort Go.Lib Go.Proofs.YtmkcjjgicinggaaGreatDoor.Mem Go.Proofs.YtmkcjjgicinggaaGreatDoor.GsDef

section
variable {α : Type} [Inhabited α] {g : Nat} {lb : Array Value} {sf : Nat} {sb : Array Value} {enc : α → Value} {lt : α → α → Bool} {blk off size : Nat} {w0 : World}

/-- Block c counts s. -/
def Cs (w : World) (c s : Nat) : Prop := w.cell? ⟨c, 0, none⟩ = some (.int .i64 (s : Nat)) ∧ w.frozen? ⟨c, 0, none⟩ = false

theorem Cs.low {w : World} {c s : Nat} (h : Cs w c s) : c < w.heap.size := World.block_lt_of_cell? _ _ h.1

theorem Cs.kept {w w' : World} {c s : Nat} {r : Option Nat} (h : Cs w c s) (hg : w.grownBy w' r) (hn : some c ≠ r) : Cs w' c s :=
  ⟨hg.cell h.1 hn, (World.frozen?_of_block (hg.block c h.low hn)).trans h.2⟩

theorem Cs.below {w w' : World} {c s : Nat} (h : Cs w c s) (hb : Below w.heap.size w w') : Cs w' c s := h.kept (gr_below hb none) (fun e => by cases e)

theorem Cs.up {w : World} {c s : Nat} (h : Cs w c s) : Cs (w.setCell ⟨c, 0, none⟩ (.int .i64 ((s : Int) + 1))) c (s + 1) := by
  obtain ⟨h1, h2⟩ := h
  have hl := World.block_lt_of_cell? _ _ h1
  refine ⟨?_, ?_⟩
  · have : (w.setCell ⟨c, 0, none⟩ (.int .i64 ((s : Int) + 1))).cell? ⟨c, 0, none⟩ = some (.int .i64 ((s : Int) + 1)) := by
      simp [World.cell?_setCell_same, h1]
    rw [this]
    rfl
  · simpa using h2

/-- A store into a block that is new leaves the row. -/
theorem St.new {W : World} {dk : Array α} {c : Nat} (h : St enc w0 blk off dk W) (hc : w0.heap.size ≤ c) (v : Value) : St enc w0 blk off dk (W.setCell ⟨c, 0, none⟩ v) := by
  obtain ⟨⟨h1, h2⟩, h3⟩ := h
  have hk : ∀ k, k < w0.heap.size → (W.setCell ⟨c, 0, none⟩ v).heap[k]? = W.heap[k]? := fun k hk => Below.heap_setCell W ⟨c, 0, none⟩ v k (by show k ≠ c; omega)
  refine ⟨⟨⟨h1.os, h1.tape, h1.output, Nat.le_trans h1.size (by simp [World.setCell]), fun k hk' hn => (hk k hk').trans (h1.block k hk' hn)⟩, fun t ht => ?_⟩, h3⟩
  exact ⟨(World.cell?_of_block (a := ⟨blk, off + t, none⟩) (hk blk h3)).trans (h2 t ht).1, (World.frozen?_of_block (a := ⟨blk, off + t, none⟩) (hk blk h3)).trans (h2 t ht).2⟩

set_option maxHeartbeats 4000000 in
set_option maxRecDepth 100000 in
theorem order2 (E : En Tryz.prog g lb sf sb enc lt blk off size w0) (a b c s : Nat) (d : Array α) (w : World) (S : St enc w0 blk off d w) (hs : d.size = size) (C : Cs w c s) (hc : w0.heap.size ≤ c) (ha : a < size) (hb : b < size) (hsm : s < 4611686018427387904) :
    Calls Tryz.prog 235 #[.agg #[.func (.func g) #[] lb, .func (.func sf) #[] sb], .int .i64 a, .int .i64 b, .pointer (some ⟨c, 0, none⟩)] w fun e w' =>
      e = .returned (.tuple #[.int .i64 (Sort.order2 lt d a b s).1, .int .i64 (Sort.order2 lt d a b s).2.1]) ∧ St enc w0 blk off d w' ∧ Cs w' c (Sort.order2 lt d a b s).2.2 ∧ w.grownBy w' (some c) := by
  have small := E.small
  have eg := E.eg
  have HS := Lib.hid (S.alloc (.cells #[.func (.func g) #[] lb, .func (.func sf) #[] sb] 185))
  have HT := Lib.hid (tw_new w 185 (.func (.func g) #[] lb) (.func (.func sf) #[] sb))
  have HG := Lib.hid (World.grownBy_alloc w (.cells #[.func (.func g) #[] lb, .func (.func sf) #[] sb] 185) (some c))
  have HC := Lib.hid (C.below ((Below.refl _ _).alloc (Nat.le_refl _) (.cells #[.func (.func g) #[] lb, .func (.func sf) #[] sb] 185)))
  have HZ := Lib.hid hs
  clear S hs C
  go_enter Tryz.func235, Tryz.ntmps235
  go_upto_region 1 with (fail)
  generalize w.alloc (.cells #[.func (.func g) #[] lb, .func (.func sf) #[] sb] 185) = w1 at *
  have L := Lib.hid (E.less w1 d HS.out HZ.out b a hb ha)
  have c0 := HT.out.1
  cases hv : lt d[b]! d[a]! with
  | true =>
    rw [hv] at L
    have HF : Hid (Sort.order2 lt d a b s = (b, a, s + 1)) := show _ = _ by unfold Sort.order2; rw [hv]; rfl
    clear hv
    go_wp2_with fail
    go_at_fn g
    refine L.out.mono ?_
    rintro e w2 ⟨rfl, hl⟩
    replace HS := Lib.hid (HS.out.below hl)
    replace HC := Lib.hid (HC.out.below hl)
    replace HG := Lib.hid (gr_trans HG.out (gr_below hl _))
    clear c0 hl L HT
    obtain ⟨c1, f1⟩ := HC.out
    have HS2 := Lib.hid (St.new HS.out hc (.int .i64 ((s : Int) + 1)))
    have HC2 := Lib.hid HC.out.up
    have HG2 := Lib.hid (gr_trans HG.out (gr_set w2 c 0 (.int .i64 ((s : Int) + 1))))
    go_wp2
    go_ret2
    exact ⟨by rw [HF.out]; rfl, HS2.out, by rw [HF.out]; exact HC2.out, HG2.out⟩
  | false =>
    rw [hv] at L
    have HF : Hid (Sort.order2 lt d a b s = (a, b, s)) := show _ = _ by unfold Sort.order2; rw [hv]; rfl
    clear hv
    go_wp2_with fail
    go_at_fn g
    refine L.out.mono ?_
    rintro e w2 ⟨rfl, hl⟩
    replace HS := Lib.hid (HS.out.below hl)
    replace HC := Lib.hid (HC.out.below hl)
    replace HG := Lib.hid (gr_trans HG.out (gr_below hl _))
    clear c0 hl L HT
    go_wp2
    go_ret2
    exact ⟨by rw [HF.out]; rfl, HS.out, by rw [HF.out]; exact HC.out, HG.out⟩

theorem order2_lt {d : Array α} {a b s n : Nat} (ha : a < n) (hb : b < n) : (Sort.order2 lt d a b s).1 < n ∧ (Sort.order2 lt d a b s).2.1 < n := by
  rcases order2_mem lt d a b s with h | h <;> rw [h.1, h.2] <;> exact ⟨by assumption, by assumption⟩

set_option maxHeartbeats 4000000 in
set_option maxRecDepth 100000 in
theorem median (E : En Tryz.prog g lb sf sb enc lt blk off size w0) (x y z c s : Nat) (d : Array α) (w : World) (S : St enc w0 blk off d w) (hs : d.size = size) (C : Cs w c s) (hc : w0.heap.size ≤ c) (hx : x < size) (hy : y < size) (hz : z < size) (hsm : s + 3 < 4611686018427387904) :
    Calls Tryz.prog 229 #[.agg #[.func (.func g) #[] lb, .func (.func sf) #[] sb], .int .i64 x, .int .i64 y, .int .i64 z, .pointer (some ⟨c, 0, none⟩)] w fun e w' =>
      e = .returned (.int .i64 (Sort.median lt d x y z s).1) ∧ St enc w0 blk off d w' ∧ Cs w' c (Sort.median lt d x y z s).2 ∧ w.grownBy w' (some c) := by
  have HS := Lib.hid (S.alloc (.cells #[.func (.func g) #[] lb, .func (.func sf) #[] sb] 185))
  have HT := Lib.hid (tw_new w 185 (.func (.func g) #[] lb) (.func (.func sf) #[] sb))
  have HG := Lib.hid (World.grownBy_alloc w (.cells #[.func (.func g) #[] lb, .func (.func sf) #[] sb] 185) (some c))
  have NB : Hid (some w.heap.size ≠ some c) := fun e => by have := C.low; cases e; omega
  have HC := Lib.hid (C.below ((Below.refl _ _).alloc (Nat.le_refl _) (.cells #[.func (.func g) #[] lb, .func (.func sf) #[] sb] 185)))
  have HZ := Lib.hid hs
  obtain ⟨p1, q1, s1, h1⟩ : ∃ p q t, Sort.order2 lt d x y s = (p, q, t) := ⟨_, _, _, rfl⟩
  have b1 := order2_lt (lt := lt) (d := d) (s := s) hx hy
  have k1 := order2_count lt d x y s
  obtain ⟨p2, q2, s2, h2⟩ : ∃ p q t, Sort.order2 lt d q1 z s1 = (p, q, t) := ⟨_, _, _, rfl⟩
  rw [h1] at b1 k1
  have b2 := order2_lt (lt := lt) (d := d) (s := s1) b1.2 hz
  have k2 := order2_count lt d q1 z s1
  rw [h2] at b2 k2
  obtain ⟨p3, q3, s3, h3⟩ : ∃ p q t, Sort.order2 lt d p1 p2 s2 = (p, q, t) := ⟨_, _, _, rfl⟩
  have HF : Hid (Sort.median lt d x y z s = (q3, s3)) := show _ = _ by unfold Sort.median; simp only [h1, h2, h3]
  have O1 := Lib.hid (fun W S C => order2 E x y c s d W S hs C hc hx hy (by omega))
  have O2 := Lib.hid (fun W S C => order2 E q1 z c s1 d W S hs C hc b1.2 hz (by simp only at k1; omega))
  have O3 := Lib.hid (fun W S C => order2 E p1 p2 c s2 d W S hs C hc b1.1 b2.1 (by simp only at k1 k2; omega))
  rw [h1] at O1
  rw [h2] at O2
  rw [h3] at O3
  clear S hs C h1 h2 h3 b1 b2 k1 k2
  go_enter Tryz.func229, Tryz.ntmps229
  go_upto_region 1 with (fail)
  generalize w.alloc (.cells #[.func (.func g) #[] lb, .func (.func sf) #[] sb] 185) = w1 at *
  obtain ⟨c0, c1⟩ := HT.out
  go_wp2_with fail
  refine (O1.out w1 HS.out HC.out).mono ?_
  rintro e w2 ⟨rfl, hS, hC, hG⟩
  replace HS := Lib.hid hS
  replace HC := Lib.hid hC
  replace HT := Lib.hid (HT.out.grown hG NB.out)
  replace HG := Lib.hid (gr_trans HG.out hG)
  clear hS hC hG c0 c1 O1
  obtain ⟨c0, c1⟩ := HT.out
  go_wp2_with fail
  refine (O2.out w2 HS.out HC.out).mono ?_
  rintro e w3 ⟨rfl, hS, hC, hG⟩
  replace HS := Lib.hid hS
  replace HC := Lib.hid hC
  replace HT := Lib.hid (HT.out.grown hG NB.out)
  replace HG := Lib.hid (gr_trans HG.out hG)
  clear hS hC hG c0 c1 O2
  obtain ⟨c0, c1⟩ := HT.out
  go_wp2_with fail
  refine (O3.out w3 HS.out HC.out).mono ?_
  rintro e w4 ⟨rfl, hS, hC, hG⟩
  replace HS := Lib.hid hS
  replace HC := Lib.hid hC
  replace HG := Lib.hid (gr_trans HG.out hG)
  clear hS hC hG c0 c1 O3 HT
  go_wp2
  go_ret
  exact ⟨by rw [HF.out]; rfl, HS.out, by rw [HF.out]; exact HC.out, HG.out⟩

set_option maxHeartbeats 4000000 in
set_option maxRecDepth 100000 in
theorem adjacent (E : En Tryz.prog g lb sf sb enc lt blk off size w0) (x c s : Nat) (d : Array α) (w : World) (S : St enc w0 blk off d w) (hs : d.size = size) (C : Cs w c s) (hc : w0.heap.size ≤ c) (h1 : 1 ≤ x) (hx : x + 1 < size) (hsm : s + 3 < 4611686018427387904) :
    Calls Tryz.prog 228 #[.agg #[.func (.func g) #[] lb, .func (.func sf) #[] sb], .int .i64 x, .pointer (some ⟨c, 0, none⟩)] w fun e w' =>
      e = .returned (.int .i64 (Sort.medianAdjacent lt d x s).1) ∧ St enc w0 blk off d w' ∧ Cs w' c (Sort.medianAdjacent lt d x s).2 ∧ w.grownBy w' (some c) := by
  have small := E.small
  have HS := Lib.hid (S.alloc (.cells #[.func (.func g) #[] lb, .func (.func sf) #[] sb] 185))
  have HT := Lib.hid (tw_new w 185 (.func (.func g) #[] lb) (.func (.func sf) #[] sb))
  have HG := Lib.hid (World.grownBy_alloc w (.cells #[.func (.func g) #[] lb, .func (.func sf) #[] sb] 185) (some c))
  have HC := Lib.hid (C.below ((Below.refl _ _).alloc (Nat.le_refl _) (.cells #[.func (.func g) #[] lb, .func (.func sf) #[] sb] 185)))
  have O1 := Lib.hid (fun W S C => median E (x - 1) x (x + 1) c s d W S hs C hc (by omega) (by omega) hx hsm)
  rw [show (((x - 1 : Nat)) : Int) = (x : Int) - 1 by omega, show (((x + 1 : Nat)) : Int) = (x : Int) + 1 by omega] at O1
  have HF : Hid (Sort.medianAdjacent lt d x s = Sort.median lt d (x - 1) x (x + 1) s) := rfl
  clear S hs C
  go_enter Tryz.func228, Tryz.ntmps228
  go_upto_region 1 with (fail)
  generalize w.alloc (.cells #[.func (.func g) #[] lb, .func (.func sf) #[] sb] 185) = w1 at *
  obtain ⟨c0, c1⟩ := HT.out
  go_wp2_with fail
  refine (O1.out w1 HS.out HC.out).mono ?_
  rintro e w2 ⟨rfl, hS, hC, hG⟩
  replace HS := Lib.hid hS
  replace HC := Lib.hid hC
  replace HG := Lib.hid (gr_trans HG.out hG)
  clear hS hC hG c0 c1 O1 HT
  go_wp2
  go_ret
  exact ⟨by rw [HF.out]; rfl, HS.out, by rw [HF.out]; exact HC.out, HG.out⟩
end
end Go.Proofs.YtmkcjjgicinggaaGreatDoor.GsMed
