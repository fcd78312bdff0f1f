/- The law FnRecords returns true on every slice that reads as bytes, where the library's variable internal/bytealg.MaxLen holds an int and its table of powers of ten reads as its text lays it, and turns nothing that was there: of two records one is less, and sorting keeps the records and puts them in order. -/
import Derived.Test.YtbjhkhmhmldjoaaDoorRecordsP1
import Derived.Test.YtbjhkhmhmldjoaaDoorSortP
import Derived.Test.YtbjhkhmhmldjoaaDoorSortS
import Derived.Lib.QuietBelow
import Derived.IntWalk
/- The law FnRecords returns true on every slice that reads as bytes, where the library's variable internal/bytealg.MaxLen holds an int and its table of powers of ten reads as its text lays it, and turns nothing that was there: of two records one is less, and sorting keeps the records and puts them in order. -/
namespace Go.Proofs.YtbjhkhmhmldjoaaDoor.LawRecords
open Go.RowKit Go.Proofs.YtbjhkhmhmldjoaaDoor.Mem Go.Proofs.YtbjhkhmhmldjoaaDoor.MemR Go.Proofs.YtbjhkhmhmldjoaaDoor.BoxR Go.Proofs.YtbjhkhmhmldjoaaDoor.Labels Go.Proofs.YtbjhkhmhmldjoaaDoor.Num Go.Proofs.YtbjhkhmhmldjoaaDoor.RecOk Go.Proofs.YtbjhkhmhmldjoaaDoor.RecText Go.Proofs.YtbjhkhmhmldjoaaDoor.Same Go.Proofs.YtbjhkhmhmldjoaaDoor.LessR Go.Proofs.YtbjhkhmhmldjoaaDoor.LessMath Go.Proofs.YtbjhkhmhmldjoaaDoor.SrtMath Go.Proofs.YtbjhkhmhmldjoaaDoor.SortP Go.Proofs.YtbjhkhmhmldjoaaDoor.SameR Go.Proofs.YtbjhkhmhmldjoaaDoor.DrawR Go.Proofs.YtbjhkhmhmldjoaaDoor.DrawK Go.Proofs.YtbjhkhmhmldjoaaDoor.DrawQ Go.Proofs.YtbjhkhmhmldjoaaDoor.DrawLR

/-- Nothing of w has been turned. A def, so that no step of a walk opens it. -/
def Sv (w w' : World) : Prop := Below w.heap.size w w'
theorem sml_fine {r : Rec} (h : Sml r) : Fine r := ⟨Nat.le_trans h.1 (by decide), Nat.le_trans h.2.1 (by decide)⟩
theorem sml_mod {r : Rec} (h : Sml r) : Mod r := ⟨Nat.le_trans h.1 (by decide), Nat.le_trans h.2.1 (by decide), Nat.le_trans h.2.2 (by decide)⟩
theorem kept18 {w w1 w2 : World} {ga gb gr : Nat} {a b r : Rec} (h : (((w1.cell? ⟨ga, 0, none⟩ = some (.string a.name) ∧ w1.cell? ⟨ga, 1, none⟩ = some (.int .i64 a.ty) ∧ w1.cell? ⟨ga, 2, none⟩ = some (.int .i64 a.ttl) ∧ w1.cell? ⟨ga, 3, none⟩ = some (.int .i64 a.n) ∧ w1.cell? ⟨ga, 4, none⟩ = some (.string a.host) ∧ w1.cell? ⟨ga, 5, none⟩ = some (.string a.text)) ∧ (w1.cell? ⟨gb, 0, none⟩ = some (.string b.name) ∧ w1.cell? ⟨gb, 1, none⟩ = some (.int .i64 b.ty) ∧ w1.cell? ⟨gb, 2, none⟩ = some (.int .i64 b.ttl) ∧ w1.cell? ⟨gb, 3, none⟩ = some (.int .i64 b.n) ∧ w1.cell? ⟨gb, 4, none⟩ = some (.string b.host) ∧ w1.cell? ⟨gb, 5, none⟩ = some (.string b.text)) ∧ (w1.cell? ⟨gr, 0, none⟩ = some (.string r.name) ∧ w1.cell? ⟨gr, 1, none⟩ = some (.int .i64 r.ty) ∧ w1.cell? ⟨gr, 2, none⟩ = some (.int .i64 r.ttl) ∧ w1.cell? ⟨gr, 3, none⟩ = some (.int .i64 r.n) ∧ w1.cell? ⟨gr, 4, none⟩ = some (.string r.host) ∧ w1.cell? ⟨gr, 5, none⟩ = some (.string r.text))) ∧ Sv w w1)) (hl : Below w1.heap.size w1 w2) : (((w2.cell? ⟨ga, 0, none⟩ = some (.string a.name) ∧ w2.cell? ⟨ga, 1, none⟩ = some (.int .i64 a.ty) ∧ w2.cell? ⟨ga, 2, none⟩ = some (.int .i64 a.ttl) ∧ w2.cell? ⟨ga, 3, none⟩ = some (.int .i64 a.n) ∧ w2.cell? ⟨ga, 4, none⟩ = some (.string a.host) ∧ w2.cell? ⟨ga, 5, none⟩ = some (.string a.text)) ∧ (w2.cell? ⟨gb, 0, none⟩ = some (.string b.name) ∧ w2.cell? ⟨gb, 1, none⟩ = some (.int .i64 b.ty) ∧ w2.cell? ⟨gb, 2, none⟩ = some (.int .i64 b.ttl) ∧ w2.cell? ⟨gb, 3, none⟩ = some (.int .i64 b.n) ∧ w2.cell? ⟨gb, 4, none⟩ = some (.string b.host) ∧ w2.cell? ⟨gb, 5, none⟩ = some (.string b.text)) ∧ (w2.cell? ⟨gr, 0, none⟩ = some (.string r.name) ∧ w2.cell? ⟨gr, 1, none⟩ = some (.int .i64 r.ty) ∧ w2.cell? ⟨gr, 2, none⟩ = some (.int .i64 r.ttl) ∧ w2.cell? ⟨gr, 3, none⟩ = some (.int .i64 r.n) ∧ w2.cell? ⟨gr, 4, none⟩ = some (.string r.host) ∧ w2.cell? ⟨gr, 5, none⟩ = some (.string r.text))) ∧ Sv w w2) :=
  ⟨⟨show Bx w2 ga a from (show Bx w1 ga a from h.1.1).below hl, show Bx w2 gb b from (show Bx w1 gb b from h.1.2.1).below hl, show Bx w2 gr r from (show Bx w1 gr r from h.1.2.2).below hl⟩, h.2.trans (hl.mono h.2.size)⟩
theorem kept18_draw {w w1 : World} {ga gb gr : Nat} {a b r : Rec} (h : (((w1.cell? ⟨ga, 0, none⟩ = some (.string a.name) ∧ w1.cell? ⟨ga, 1, none⟩ = some (.int .i64 a.ty) ∧ w1.cell? ⟨ga, 2, none⟩ = some (.int .i64 a.ttl) ∧ w1.cell? ⟨ga, 3, none⟩ = some (.int .i64 a.n) ∧ w1.cell? ⟨ga, 4, none⟩ = some (.string a.host) ∧ w1.cell? ⟨ga, 5, none⟩ = some (.string a.text)) ∧ (w1.cell? ⟨gb, 0, none⟩ = some (.string b.name) ∧ w1.cell? ⟨gb, 1, none⟩ = some (.int .i64 b.ty) ∧ w1.cell? ⟨gb, 2, none⟩ = some (.int .i64 b.ttl) ∧ w1.cell? ⟨gb, 3, none⟩ = some (.int .i64 b.n) ∧ w1.cell? ⟨gb, 4, none⟩ = some (.string b.host) ∧ w1.cell? ⟨gb, 5, none⟩ = some (.string b.text)) ∧ (w1.cell? ⟨gr, 0, none⟩ = some (.string r.name) ∧ w1.cell? ⟨gr, 1, none⟩ = some (.int .i64 r.ty) ∧ w1.cell? ⟨gr, 2, none⟩ = some (.int .i64 r.ttl) ∧ w1.cell? ⟨gr, 3, none⟩ = some (.int .i64 r.n) ∧ w1.cell? ⟨gr, 4, none⟩ = some (.string r.host) ∧ w1.cell? ⟨gr, 5, none⟩ = some (.string r.text))) ∧ Sv w w1)) : (((w1.drew.cell? ⟨ga, 0, none⟩ = some (.string a.name) ∧ w1.drew.cell? ⟨ga, 1, none⟩ = some (.int .i64 a.ty) ∧ w1.drew.cell? ⟨ga, 2, none⟩ = some (.int .i64 a.ttl) ∧ w1.drew.cell? ⟨ga, 3, none⟩ = some (.int .i64 a.n) ∧ w1.drew.cell? ⟨ga, 4, none⟩ = some (.string a.host) ∧ w1.drew.cell? ⟨ga, 5, none⟩ = some (.string a.text)) ∧ (w1.drew.cell? ⟨gb, 0, none⟩ = some (.string b.name) ∧ w1.drew.cell? ⟨gb, 1, none⟩ = some (.int .i64 b.ty) ∧ w1.drew.cell? ⟨gb, 2, none⟩ = some (.int .i64 b.ttl) ∧ w1.drew.cell? ⟨gb, 3, none⟩ = some (.int .i64 b.n) ∧ w1.drew.cell? ⟨gb, 4, none⟩ = some (.string b.host) ∧ w1.drew.cell? ⟨gb, 5, none⟩ = some (.string b.text)) ∧ (w1.drew.cell? ⟨gr, 0, none⟩ = some (.string r.name) ∧ w1.drew.cell? ⟨gr, 1, none⟩ = some (.int .i64 r.ty) ∧ w1.drew.cell? ⟨gr, 2, none⟩ = some (.int .i64 r.ttl) ∧ w1.drew.cell? ⟨gr, 3, none⟩ = some (.int .i64 r.n) ∧ w1.drew.cell? ⟨gr, 4, none⟩ = some (.string r.host) ∧ w1.drew.cell? ⟨gr, 5, none⟩ = some (.string r.text))) ∧ Sv w w1.drew) := kept18 h ((Below.refl _ _).drew)
/-- A valid record is written, an invalid one is not. -/
theorem rtx_some {r : Rec} (h : rok r = true) : (rtx r).toList.isEmpty = false := by
  have hp : 0 < (rtx r).size := by
    rw [rtx, if_pos h, pre]
    simp only [ByteArray.size_append]
    have : (⟨#[32]⟩ : ByteArray).size = 1 := rfl
    omega
  exact Labels.not_empty _ (by omega)
theorem rtx_none {r : Rec} (h : rok r = false) : rtx r = ⟨#[]⟩ := by rw [rtx, h]; rfl
/-- Of two records exactly one is less, or they are the same. -/
theorem three (a b : Rec) : (a = b ∧ lr a b = false ∧ lr b a = false) ∨ (a ≠ b ∧ lr a b = true ∧ lr b a = false) ∨ (a ≠ b ∧ lr a b = false ∧ lr b a = true) := by
  by_cases e : a = b
  · subst e
    exact Or.inl ⟨rfl, rec_ord.irr a, rec_ord.irr a⟩
  · cases h : lr a b with
    | false => exact Or.inr (Or.inr ⟨e, rfl, rec_ord.tot a b e h⟩)
    | true =>
      refine Or.inr (Or.inl ⟨e, rfl, ?_⟩)
      cases k : lr b a with
      | false => rfl
      | true =>
        have := rec_ord.tr a b a h k
        rw [rec_ord.irr a] at this
        cases this
theorem inc_at {L : List Rec} (h : Inc L) (k : Nat) (h1 : k + 1 < L.length) : lr L[k + 1] L[k] = false :=
  List.pairwise_iff_getElem.1 h k (k + 1) (by omega) h1 (by omega)

set_option maxRecDepth 100000 in
set_option maxHeartbeats 8000000 in
theorem walk (A : Option Addr) (n c : Nat) (l : List UInt8) (w : World) (he : Env w) (ht : Tab w) (hs : Sl w w.heap.size A n l) (_hc : n ≤ c) (_hnil : A = none → n = 0 ∧ c = 0) :
    Calls Tryd.prog 3 #[.slice A n c] w fun e w' => e = .returned (.bool true) ∧ Below w.heap.size w w' := by
  have HS := Lib.hid hs
  have HE := Lib.hid he
  have HT := Lib.hid ht
  clear hs he ht _hnil
  by_cases hn : ¬ n ≤ 1048576
  · go_enter Tryd.func3, Tryd.ntmps3
    go_wp2_with fail
    refine (big_yes A n c w hn).mono ?_
    rintro e w0 ⟨rfl, rfl⟩
    go_wp2
    go_ret
    exact ⟨rfl, Below.refl _ _⟩
  have hn : n ≤ 1048576 := Decidable.byContradiction hn
  go_enter Tryd.func3, Tryd.ntmps3
  go_wp2_with fail
  refine (big_no A n c w hn).mono ?_
  rintro e w0 ⟨rfl, rfl⟩
  go_wp2_with fail
  refine (drawLessRecord_any A n c l w HS.out hn).mono ?_
  rintro e w1 ⟨a, b, rfl, ha, hb, hl⟩
  have FA := Lib.hid (sml_fine ha)
  have FB := Lib.hid (sml_fine hb)
  have L2 := Lib.hid ((hl.alloc hl.size (.cells #[.string a.name, .int .i64 a.ty, .int .i64 a.ttl, .int .i64 a.n, .string a.host, .string a.text] 25)).alloc (by have := hl.size; simp; omega) (.cells #[.string b.name, .int .i64 b.ty, .int .i64 b.ttl, .int .i64 b.n, .string b.host, .string b.text] 25))
  have A2 := Lib.hid ((bx_new w1 25 a).alloc (.cells #[.string b.name, .int .i64 b.ty, .int .i64 b.ttl, .int .i64 b.n, .string b.host, .string b.text] 25))
  have B2 : Hid (Bx ((w1.alloc (.cells #[.string a.name, .int .i64 a.ty, .int .i64 a.ttl, .int .i64 a.n, .string a.host, .string a.text] 25)).alloc (.cells #[.string b.name, .int .i64 b.ty, .int .i64 b.ttl, .int .i64 b.n, .string b.host, .string b.text] 25)) (w1.heap.size + 1) b) := by
    have := bx_new (w1.alloc (.cells #[.string a.name, .int .i64 a.ty, .int .i64 a.ttl, .int .i64 a.n, .string a.host, .string a.text] 25)) 25 b
    rw [show (w1.alloc (.cells #[.string a.name, .int .i64 a.ty, .int .i64 a.ttl, .int .i64 a.n, .string a.host, .string a.text] 25)).heap.size = w1.heap.size + 1 by simp] at this
    exact this
  clear ha hb hl
  go_wp2_with fail
  refine (drawSortRecords_any A n c l _ ((HS.out.below L2.out).wider L2.out.size) hn).mono ?_
  rintro e w3 ⟨gl, cl, L, rfl, hL6, hLS, hsr, hl⟩
  have FL : Hid (∀ r ∈ L, Fine r) := fun r hr => sml_fine (hLS r hr)
  have L3 := Lib.hid (L2.out.trans (hl.mono L2.out.size))
  have A3 := Lib.hid (A2.out.below hl)
  have B3 := Lib.hid (B2.out.below hl)
  have U3 := Lib.hid hsr
  clear hLS hsr hl L2 A2 B2
  obtain ⟨m, hm⟩ : ∃ m, L.length = m := ⟨_, rfl⟩
  have HM := Lib.hid hm
  rw [hm] at U3 hL6 ⊢
  clear hm
  go_wp2_with fail
  refine (drawRecordText_any A n c l w3 ((HS.out.below L3.out).wider L3.out.size) hn).mono ?_
  rintro e w4 ⟨r, rfl, hr, hl⟩
  have FR := Lib.hid (sml_mod hr)
  have L5 := Lib.hid ((L3.out.trans (hl.mono L3.out.size)).alloc (L3.out.trans (hl.mono L3.out.size)).size (.cells #[.string r.name, .int .i64 r.ty, .int .i64 r.ttl, .int .i64 r.n, .string r.host, .string r.text] 25))
  have A5 := Lib.hid ((A3.out.below hl).alloc (.cells #[.string r.name, .int .i64 r.ty, .int .i64 r.ttl, .int .i64 r.n, .string r.host, .string r.text] 25))
  have B5 := Lib.hid ((B3.out.below hl).alloc (.cells #[.string r.name, .int .i64 r.ty, .int .i64 r.ttl, .int .i64 r.n, .string r.host, .string r.text] 25))
  have U5 := Lib.hid ((U3.out.on hl).on ((Below.refl _ _).alloc (Nat.le_refl _) (.cells #[.string r.name, .int .i64 r.ty, .int .i64 r.ttl, .int .i64 r.n, .string r.host, .string r.text] 25)))
  have R5 := Lib.hid (bx_new w4 25 r)
  clear hr hl L3 A3 B3 U3
  go_wp2_with fail
  refine (drawSameRecords_any A n c l _ ((HS.out.below L5.out).wider L5.out.size) hn).mono ?_
  rintro e w6 ⟨gp, cp, gq, cq, P, Q, rfl, hP3, hQ3, _, _, hp, hq, hl⟩
  have L6 := Lib.hid (L5.out.trans (hl.mono L5.out.size))
  have A6 := Lib.hid (A5.out.below hl)
  have B6 := Lib.hid (B5.out.below hl)
  have R6 := Lib.hid (R5.out.below hl)
  have U6 := Lib.hid (U5.out.on hl)
  have P6 := Lib.hid hp
  have Q6 := Lib.hid hq
  clear hp hq hl L5 A5 B5 R5 U5
  obtain ⟨mp, hmp⟩ : ∃ m, P.length = m := ⟨_, rfl⟩
  obtain ⟨mq, hmq⟩ : ∃ m, Q.length = m := ⟨_, rfl⟩
  rw [hmp] at P6 hP3 ⊢
  rw [hmq] at Q6 hQ3 ⊢
  clear hmp hmq
  generalize w1.heap.size + 1 = gb at *
  generalize w1.heap.size = ga at *
  generalize w4.heap.size = gr at *
  go_wp2_with fail
  refine (SortP.impl gl 0 m cl L w6 U6.out (HE.out.below L6.out) (by omega) FL.out).mono ?_
  rintro e w7 ⟨SL, gs, cs, rs, hS, rfl, hcs, hg, hb, hl⟩
  have SO := Lib.hid hS
  have HN : Hid (SL.length = m) := hS.length.trans HM.out
  have L7 := Lib.hid (L6.out.trans (hl.mono L6.out.size))
  have A7 := Lib.hid (A6.out.below hl)
  have B7 := Lib.hid (B6.out.below hl)
  have R7 := Lib.hid (R6.out.below hl)
  have U7 := Lib.hid (U6.out.on hl)
  have P7 := Lib.hid (P6.out.on hl)
  have Q7 := Lib.hid (Q6.out.on hl)
  have S7 := Lib.hid (bk_sr hb HN.out)
  clear hS hg hb hl L6 A6 B6 R6 U6 P6 Q6
  obtain ⟨u, hu⟩ : ∃ u, lr a b = u := ⟨_, rfl⟩
  obtain ⟨T, hT⟩ : ∃ T, rtx r = T := ⟨_, rfl⟩
  obtain ⟨k, hk⟩ : ∃ k, rok r = k := ⟨_, rfl⟩
  obtain ⟨t, htt⟩ : ∃ t, sm P Q = t := ⟨_, rfl⟩
  have EN : Hid (∀ W : World, Below w7.heap.size w7 W → Env W) := fun W hW => HE.out.below (L7.out.trans (hW.mono L7.out.size))
  have TN : Hid (∀ W : World, Below w7.heap.size w7 W → Tab W) := fun W hW => HT.out.below (L7.out.trans (hW.mono L7.out.size))
  have LI : Hid (∀ W : World, (((W.cell? ⟨ga, 0, none⟩ = some (.string a.name) ∧ W.cell? ⟨ga, 1, none⟩ = some (.int .i64 a.ty) ∧ W.cell? ⟨ga, 2, none⟩ = some (.int .i64 a.ttl) ∧ W.cell? ⟨ga, 3, none⟩ = some (.int .i64 a.n) ∧ W.cell? ⟨ga, 4, none⟩ = some (.string a.host) ∧ W.cell? ⟨ga, 5, none⟩ = some (.string a.text)) ∧ (W.cell? ⟨gb, 0, none⟩ = some (.string b.name) ∧ W.cell? ⟨gb, 1, none⟩ = some (.int .i64 b.ty) ∧ W.cell? ⟨gb, 2, none⟩ = some (.int .i64 b.ttl) ∧ W.cell? ⟨gb, 3, none⟩ = some (.int .i64 b.n) ∧ W.cell? ⟨gb, 4, none⟩ = some (.string b.host) ∧ W.cell? ⟨gb, 5, none⟩ = some (.string b.text)) ∧ (W.cell? ⟨gr, 0, none⟩ = some (.string r.name) ∧ W.cell? ⟨gr, 1, none⟩ = some (.int .i64 r.ty) ∧ W.cell? ⟨gr, 2, none⟩ = some (.int .i64 r.ttl) ∧ W.cell? ⟨gr, 3, none⟩ = some (.int .i64 r.n) ∧ W.cell? ⟨gr, 4, none⟩ = some (.string r.host) ∧ W.cell? ⟨gr, 5, none⟩ = some (.string r.text))) ∧ Sv w7 W) → Calls Tryd.prog 14 #[.agg #[.string a.name, .int .i64 a.ty, .int .i64 a.ttl, .int .i64 a.n, .string a.host, .string a.text], .agg #[.string b.name, .int .i64 b.ty, .int .i64 b.ttl, .int .i64 b.n, .string b.host, .string b.text]] W fun e w' => e = .returned (.bool u) ∧ Below W.heap.size W w') := fun W hW => hu ▸ LessR.impl a b W (EN.out W hW.2) FA.out FB.out
  have LS : Hid (∀ W : World, Calls Tryd.prog 15 #[.agg #[.string a.name, .int .i64 a.ty, .int .i64 a.ttl, .int .i64 a.n, .string a.host, .string a.text], .agg #[.string b.name, .int .i64 b.ty, .int .i64 b.ttl, .int .i64 b.n, .string b.host, .string b.text]] W fun e w' => e = .returned (.bool u) ∧ Below W.heap.size W w') := fun W => hu ▸ LessR.spec a b W FA.out FB.out
  have SS : Hid (∀ W : World, (((W.cell? ⟨ga, 0, none⟩ = some (.string a.name) ∧ W.cell? ⟨ga, 1, none⟩ = some (.int .i64 a.ty) ∧ W.cell? ⟨ga, 2, none⟩ = some (.int .i64 a.ttl) ∧ W.cell? ⟨ga, 3, none⟩ = some (.int .i64 a.n) ∧ W.cell? ⟨ga, 4, none⟩ = some (.string a.host) ∧ W.cell? ⟨ga, 5, none⟩ = some (.string a.text)) ∧ (W.cell? ⟨gb, 0, none⟩ = some (.string b.name) ∧ W.cell? ⟨gb, 1, none⟩ = some (.int .i64 b.ty) ∧ W.cell? ⟨gb, 2, none⟩ = some (.int .i64 b.ttl) ∧ W.cell? ⟨gb, 3, none⟩ = some (.int .i64 b.n) ∧ W.cell? ⟨gb, 4, none⟩ = some (.string b.host) ∧ W.cell? ⟨gb, 5, none⟩ = some (.string b.text)) ∧ (W.cell? ⟨gr, 0, none⟩ = some (.string r.name) ∧ W.cell? ⟨gr, 1, none⟩ = some (.int .i64 r.ty) ∧ W.cell? ⟨gr, 2, none⟩ = some (.int .i64 r.ttl) ∧ W.cell? ⟨gr, 3, none⟩ = some (.int .i64 r.n) ∧ W.cell? ⟨gr, 4, none⟩ = some (.string r.host) ∧ W.cell? ⟨gr, 5, none⟩ = some (.string r.text))) ∧ Sv w7 W) → Calls Tryd.prog 17 #[.slice (some ⟨gl, 0, none⟩) m cl] W fun e w' => ∃ g c rr, e = .returned (.slice (some ⟨g, 0, none⟩) m c) ∧ Bk w' g 25 (fl SL ++ rr) ∧ Below W.heap.size W w') := fun W hW => (SortS.spec gl 0 m cl L W (U7.out.on hW.2) (by omega) FL.out).mono fun e w' ⟨SL', g, c, rr, h1, h2, _, _, h5, h6⟩ => ⟨g, c, rr, h2, by rw [SO.out.unique h1]; exact h5, h6⟩
  have M1 : Hid (∀ (g c : Nat) (rr : List Value) (W : World), (((W.cell? ⟨ga, 0, none⟩ = some (.string a.name) ∧ W.cell? ⟨ga, 1, none⟩ = some (.int .i64 a.ty) ∧ W.cell? ⟨ga, 2, none⟩ = some (.int .i64 a.ttl) ∧ W.cell? ⟨ga, 3, none⟩ = some (.int .i64 a.n) ∧ W.cell? ⟨ga, 4, none⟩ = some (.string a.host) ∧ W.cell? ⟨ga, 5, none⟩ = some (.string a.text)) ∧ (W.cell? ⟨gb, 0, none⟩ = some (.string b.name) ∧ W.cell? ⟨gb, 1, none⟩ = some (.int .i64 b.ty) ∧ W.cell? ⟨gb, 2, none⟩ = some (.int .i64 b.ttl) ∧ W.cell? ⟨gb, 3, none⟩ = some (.int .i64 b.n) ∧ W.cell? ⟨gb, 4, none⟩ = some (.string b.host) ∧ W.cell? ⟨gb, 5, none⟩ = some (.string b.text)) ∧ (W.cell? ⟨gr, 0, none⟩ = some (.string r.name) ∧ W.cell? ⟨gr, 1, none⟩ = some (.int .i64 r.ty) ∧ W.cell? ⟨gr, 2, none⟩ = some (.int .i64 r.ttl) ∧ W.cell? ⟨gr, 3, none⟩ = some (.int .i64 r.n) ∧ W.cell? ⟨gr, 4, none⟩ = some (.string r.host) ∧ W.cell? ⟨gr, 5, none⟩ = some (.string r.text))) ∧ Sv w7 W) → Bk W g 25 (fl SL ++ rr) → Calls Tryd.prog 16 #[.slice (some ⟨gs, 0, none⟩) m cs, .slice (some ⟨g, 0, none⟩) m c] W fun e w' => e = .returned (.bool true) ∧ Below W.heap.size W w') := fun g c rr W hW hb => (sm_true (l := SL) (m := SL) rfl) ▸ SameR.recs _ _ m cs m c SL SL W (S7.out.on hW.2) (bk_sr hb HN.out) (by omega) (by omega)
  have M2 : Hid (∀ W : World, (((W.cell? ⟨ga, 0, none⟩ = some (.string a.name) ∧ W.cell? ⟨ga, 1, none⟩ = some (.int .i64 a.ty) ∧ W.cell? ⟨ga, 2, none⟩ = some (.int .i64 a.ttl) ∧ W.cell? ⟨ga, 3, none⟩ = some (.int .i64 a.n) ∧ W.cell? ⟨ga, 4, none⟩ = some (.string a.host) ∧ W.cell? ⟨ga, 5, none⟩ = some (.string a.text)) ∧ (W.cell? ⟨gb, 0, none⟩ = some (.string b.name) ∧ W.cell? ⟨gb, 1, none⟩ = some (.int .i64 b.ty) ∧ W.cell? ⟨gb, 2, none⟩ = some (.int .i64 b.ttl) ∧ W.cell? ⟨gb, 3, none⟩ = some (.int .i64 b.n) ∧ W.cell? ⟨gb, 4, none⟩ = some (.string b.host) ∧ W.cell? ⟨gb, 5, none⟩ = some (.string b.text)) ∧ (W.cell? ⟨gr, 0, none⟩ = some (.string r.name) ∧ W.cell? ⟨gr, 1, none⟩ = some (.int .i64 r.ty) ∧ W.cell? ⟨gr, 2, none⟩ = some (.int .i64 r.ttl) ∧ W.cell? ⟨gr, 3, none⟩ = some (.int .i64 r.n) ∧ W.cell? ⟨gr, 4, none⟩ = some (.string r.host) ∧ W.cell? ⟨gr, 5, none⟩ = some (.string r.text))) ∧ Sv w7 W) → Calls Tryd.prog 16 #[.slice (some ⟨gp, 0, none⟩) mp cp, .slice (some ⟨gq, 0, none⟩) mq cq] W fun e w' => e = .returned (.bool t) ∧ Below W.heap.size W w') := fun W hW => htt ▸ SameR.recs _ _ mp cp mq cq P Q W (P7.out.on hW.2) (Q7.out.on hW.2) (by omega) (by omega)
  have M3 : Hid (∀ W : World, (((W.cell? ⟨ga, 0, none⟩ = some (.string a.name) ∧ W.cell? ⟨ga, 1, none⟩ = some (.int .i64 a.ty) ∧ W.cell? ⟨ga, 2, none⟩ = some (.int .i64 a.ttl) ∧ W.cell? ⟨ga, 3, none⟩ = some (.int .i64 a.n) ∧ W.cell? ⟨ga, 4, none⟩ = some (.string a.host) ∧ W.cell? ⟨ga, 5, none⟩ = some (.string a.text)) ∧ (W.cell? ⟨gb, 0, none⟩ = some (.string b.name) ∧ W.cell? ⟨gb, 1, none⟩ = some (.int .i64 b.ty) ∧ W.cell? ⟨gb, 2, none⟩ = some (.int .i64 b.ttl) ∧ W.cell? ⟨gb, 3, none⟩ = some (.int .i64 b.n) ∧ W.cell? ⟨gb, 4, none⟩ = some (.string b.host) ∧ W.cell? ⟨gb, 5, none⟩ = some (.string b.text)) ∧ (W.cell? ⟨gr, 0, none⟩ = some (.string r.name) ∧ W.cell? ⟨gr, 1, none⟩ = some (.int .i64 r.ty) ∧ W.cell? ⟨gr, 2, none⟩ = some (.int .i64 r.ttl) ∧ W.cell? ⟨gr, 3, none⟩ = some (.int .i64 r.n) ∧ W.cell? ⟨gr, 4, none⟩ = some (.string r.host) ∧ W.cell? ⟨gr, 5, none⟩ = some (.string r.text))) ∧ Sv w7 W) → Calls Tryd.prog 22 #[.slice (some ⟨gp, 0, none⟩) mp cp, .slice (some ⟨gq, 0, none⟩) mq cq] W fun e w' => e = .returned (.bool t) ∧ Below W.heap.size W w') := fun W hW => htt ▸ SameR.impl _ _ mp cp mq cq P Q W (P7.out.on hW.2) (Q7.out.on hW.2) (by omega) (by omega)
  have TI : Hid (∀ W : World, Below w7.heap.size w7 W → Calls Tryd.prog 18 #[.agg #[.string r.name, .int .i64 r.ty, .int .i64 r.ttl, .int .i64 r.n, .string r.host, .string r.text]] W fun e w' => e = .returned (.string T) ∧ Below W.heap.size W w') := fun W hW => hT ▸ RecTextI.impl r W (EN.out W hW) (TN.out W hW) FR.out
  have TS : Hid (∀ W : World, Calls Tryd.prog 19 #[.agg #[.string r.name, .int .i64 r.ty, .int .i64 r.ttl, .int .i64 r.n, .string r.host, .string r.text]] W fun e w' => e = .returned (.string T) ∧ Below W.heap.size W w') := fun W => hT ▸ RecText.spec r W FR.out
  have KI : Hid (∀ W : World, Below w7.heap.size w7 W → Calls Tryd.prog 20 #[.agg #[.string r.name, .int .i64 r.ty, .int .i64 r.ttl, .int .i64 r.n, .string r.host, .string r.text]] W fun e w' => e = .returned (.bool k) ∧ Below W.heap.size W w') := fun W hW => hk ▸ RecOk.impl r W (EN.out W hW) FR.out
  have KS : Hid (∀ W : World, Calls Tryd.prog 21 #[.agg #[.string r.name, .int .i64 r.ty, .int .i64 r.ttl, .int .i64 r.n, .string r.host, .string r.text]] W fun e w' => e = .returned (.bool k) ∧ Below W.heap.size W w') := fun W => hk ▸ RecOk.spec r W FR.out
  have HTK : Hid ((k = true → T.toList.isEmpty = false) ∧ (k = false → T = ⟨#[]⟩)) := ⟨fun h => by rw [← hT]; exact rtx_some (hk.trans h), fun h => by rw [← hT]; exact rtx_none (hk.trans h)⟩
  have HU := Lib.hid hu
  have TI2 : Hid (∀ W : World, (((W.cell? ⟨ga, 0, none⟩ = some (.string a.name) ∧ W.cell? ⟨ga, 1, none⟩ = some (.int .i64 a.ty) ∧ W.cell? ⟨ga, 2, none⟩ = some (.int .i64 a.ttl) ∧ W.cell? ⟨ga, 3, none⟩ = some (.int .i64 a.n) ∧ W.cell? ⟨ga, 4, none⟩ = some (.string a.host) ∧ W.cell? ⟨ga, 5, none⟩ = some (.string a.text)) ∧ (W.cell? ⟨gb, 0, none⟩ = some (.string b.name) ∧ W.cell? ⟨gb, 1, none⟩ = some (.int .i64 b.ty) ∧ W.cell? ⟨gb, 2, none⟩ = some (.int .i64 b.ttl) ∧ W.cell? ⟨gb, 3, none⟩ = some (.int .i64 b.n) ∧ W.cell? ⟨gb, 4, none⟩ = some (.string b.host) ∧ W.cell? ⟨gb, 5, none⟩ = some (.string b.text)) ∧ (W.cell? ⟨gr, 0, none⟩ = some (.string r.name) ∧ W.cell? ⟨gr, 1, none⟩ = some (.int .i64 r.ty) ∧ W.cell? ⟨gr, 2, none⟩ = some (.int .i64 r.ttl) ∧ W.cell? ⟨gr, 3, none⟩ = some (.int .i64 r.n) ∧ W.cell? ⟨gr, 4, none⟩ = some (.string r.host) ∧ W.cell? ⟨gr, 5, none⟩ = some (.string r.text))) ∧ Sv w7 W) → Calls Tryd.prog 18 #[.agg #[.string r.name, .int .i64 r.ty, .int .i64 r.ttl, .int .i64 r.n, .string r.host, .string r.text]] W fun e w' => e = .returned (.string T) ∧ Below W.heap.size W w') := fun W hW => TI.out W hW.2
  have KI2 : Hid (∀ W : World, (((W.cell? ⟨ga, 0, none⟩ = some (.string a.name) ∧ W.cell? ⟨ga, 1, none⟩ = some (.int .i64 a.ty) ∧ W.cell? ⟨ga, 2, none⟩ = some (.int .i64 a.ttl) ∧ W.cell? ⟨ga, 3, none⟩ = some (.int .i64 a.n) ∧ W.cell? ⟨ga, 4, none⟩ = some (.string a.host) ∧ W.cell? ⟨ga, 5, none⟩ = some (.string a.text)) ∧ (W.cell? ⟨gb, 0, none⟩ = some (.string b.name) ∧ W.cell? ⟨gb, 1, none⟩ = some (.int .i64 b.ty) ∧ W.cell? ⟨gb, 2, none⟩ = some (.int .i64 b.ttl) ∧ W.cell? ⟨gb, 3, none⟩ = some (.int .i64 b.n) ∧ W.cell? ⟨gb, 4, none⟩ = some (.string b.host) ∧ W.cell? ⟨gb, 5, none⟩ = some (.string b.text)) ∧ (W.cell? ⟨gr, 0, none⟩ = some (.string r.name) ∧ W.cell? ⟨gr, 1, none⟩ = some (.int .i64 r.ty) ∧ W.cell? ⟨gr, 2, none⟩ = some (.int .i64 r.ttl) ∧ W.cell? ⟨gr, 3, none⟩ = some (.int .i64 r.n) ∧ W.cell? ⟨gr, 4, none⟩ = some (.string r.host) ∧ W.cell? ⟨gr, 5, none⟩ = some (.string r.text))) ∧ Sv w7 W) → Calls Tryd.prog 20 #[.agg #[.string r.name, .int .i64 r.ty, .int .i64 r.ttl, .int .i64 r.n, .string r.host, .string r.text]] W fun e w' => e = .returned (.bool k) ∧ Below W.heap.size W w') := fun W hW => KI.out W hW.2
  clear hu hT hk htt
  have S0 : (((w7.cell? ⟨ga, 0, none⟩ = some (.string a.name) ∧ w7.cell? ⟨ga, 1, none⟩ = some (.int .i64 a.ty) ∧ w7.cell? ⟨ga, 2, none⟩ = some (.int .i64 a.ttl) ∧ w7.cell? ⟨ga, 3, none⟩ = some (.int .i64 a.n) ∧ w7.cell? ⟨ga, 4, none⟩ = some (.string a.host) ∧ w7.cell? ⟨ga, 5, none⟩ = some (.string a.text)) ∧ (w7.cell? ⟨gb, 0, none⟩ = some (.string b.name) ∧ w7.cell? ⟨gb, 1, none⟩ = some (.int .i64 b.ty) ∧ w7.cell? ⟨gb, 2, none⟩ = some (.int .i64 b.ttl) ∧ w7.cell? ⟨gb, 3, none⟩ = some (.int .i64 b.n) ∧ w7.cell? ⟨gb, 4, none⟩ = some (.string b.host) ∧ w7.cell? ⟨gb, 5, none⟩ = some (.string b.text)) ∧ (w7.cell? ⟨gr, 0, none⟩ = some (.string r.name) ∧ w7.cell? ⟨gr, 1, none⟩ = some (.int .i64 r.ty) ∧ w7.cell? ⟨gr, 2, none⟩ = some (.int .i64 r.ttl) ∧ w7.cell? ⟨gr, 3, none⟩ = some (.int .i64 r.n) ∧ w7.cell? ⟨gr, 4, none⟩ = some (.string r.host) ∧ w7.cell? ⟨gr, 5, none⟩ = some (.string r.text))) ∧ Sv w7 w7) := ⟨⟨A7.out, B7.out, R7.out⟩, Below.refl _ _⟩
  have x1 : (u != u) = false := by cases u <;> rfl
  have x2 : (k != k) = false := by cases k <;> rfl
  have x3 : (t != t) = false := by cases t <;> rfl
  have x4 : (T.toList == T.toList) = true := by simp
  have x5 : (T.data.toList == T.data.toList) = true := by simp
  go_wp2
  go_region_held3 (fun w' => (((w'.cell? ⟨ga, 0, none⟩ = some (.string a.name) ∧ w'.cell? ⟨ga, 1, none⟩ = some (.int .i64 a.ty) ∧ w'.cell? ⟨ga, 2, none⟩ = some (.int .i64 a.ttl) ∧ w'.cell? ⟨ga, 3, none⟩ = some (.int .i64 a.n) ∧ w'.cell? ⟨ga, 4, none⟩ = some (.string a.host) ∧ w'.cell? ⟨ga, 5, none⟩ = some (.string a.text)) ∧ (w'.cell? ⟨gb, 0, none⟩ = some (.string b.name) ∧ w'.cell? ⟨gb, 1, none⟩ = some (.int .i64 b.ty) ∧ w'.cell? ⟨gb, 2, none⟩ = some (.int .i64 b.ttl) ∧ w'.cell? ⟨gb, 3, none⟩ = some (.int .i64 b.n) ∧ w'.cell? ⟨gb, 4, none⟩ = some (.string b.host) ∧ w'.cell? ⟨gb, 5, none⟩ = some (.string b.text)) ∧ (w'.cell? ⟨gr, 0, none⟩ = some (.string r.name) ∧ w'.cell? ⟨gr, 1, none⟩ = some (.int .i64 r.ty) ∧ w'.cell? ⟨gr, 2, none⟩ = some (.int .i64 r.ttl) ∧ w'.cell? ⟨gr, 3, none⟩ = some (.int .i64 r.n) ∧ w'.cell? ⟨gr, 4, none⟩ = some (.string r.host) ∧ w'.cell? ⟨gr, 5, none⟩ = some (.string r.text))) ∧ Sv w7 w'))
    (first | exact S0 | assumption | exact kept18 (by assumption) hl | exact kept18_draw (by assumption) | fail)
    (first
      | (go_at_call 14; with_reducible refine (LI.out _ (by assumption)).mono ?_; rintro e w21 ⟨rfl, hl⟩)
      | (go_at_call 15; with_reducible refine (LS.out _).mono ?_; rintro e w22 ⟨rfl, hl⟩)
      | (go_at_call 17; with_reducible refine (SS.out _ (by assumption)).mono ?_; rintro e w23 ⟨gw, cw, rw, rfl, hbw, hl⟩)
      | (go_at_call 16; with_reducible refine (M1.out _ _ _ _ (by assumption) hbw).mono ?_; rintro e w24 ⟨rfl, hl⟩)
      | (go_at_call 18; with_reducible refine (TI2.out _ (by assumption)).mono ?_; rintro e w25 ⟨rfl, hl⟩)
      | (go_at_call 19; with_reducible refine (TS.out _).mono ?_; rintro e w26 ⟨rfl, hl⟩)
      | (go_at_call 20; with_reducible refine (KI2.out _ (by assumption)).mono ?_; rintro e w27 ⟨rfl, hl⟩)
      | (go_at_call 21; with_reducible refine (KS.out _).mono ?_; rintro e w28 ⟨rfl, hl⟩)
      | (go_at_call 22; with_reducible refine (M3.out _ (by assumption)).mono ?_; rintro e w29 ⟨rfl, hl⟩)
      | (go_at_call 16; with_reducible refine (M2.out _ (by assumption)).mono ?_; rintro e w30 ⟨rfl, hl⟩)
      | fail)
  rename_i hH
  have L8 : Hid (Below w7.heap.size w7 w30) := hH.2
  have A8 : Hid (Bx w30 ga a) := hH.1.1
  have B8 : Hid (Bx w30 gb b) := hH.1.2.1
  have R8 : Hid (Bx w30 gr r) := hH.1.2.2
  clear hH S0 hl hbw LS SS M1 M2 M3 TS KS A7 B7 R7 x1 x2 x3 x4 x5
  have FS : Hid (∀ x ∈ SL, Fine x) := fun x hx => FL.out x (SO.out.1.mem_iff.1 hx)
  have mixed : Tryd.prog.follows .mixedOrders = true := by kernel_rfl
  have hgd := EqlR.grd
  have TAIL : ∀ (e9 : Bool) (v : Bool), lr b a = v → (u && v || ((u || v) == e9)) = false → (∀ w : World, Sem.run Tryd.prog (binOp .eql 25 (.agg #[.string a.name, .int .i64 a.ty, .int .i64 a.ttl, .int .i64 a.n, .string a.host, .string a.text]) (.agg #[.string b.name, .int .i64 b.ty, .int .i64 b.ttl, .int .i64 b.n, .string b.host, .string b.text])) w = .ok (.bool e9) w) → True := fun _ _ _ _ _ => trivial
  clear TAIL
  obtain ⟨v, hv⟩ : ∃ v, lr b a = v := ⟨_, rfl⟩
  have LB : Hid (∀ W : World, (((W.cell? ⟨ga, 0, none⟩ = some (.string a.name) ∧ W.cell? ⟨ga, 1, none⟩ = some (.int .i64 a.ty) ∧ W.cell? ⟨ga, 2, none⟩ = some (.int .i64 a.ttl) ∧ W.cell? ⟨ga, 3, none⟩ = some (.int .i64 a.n) ∧ W.cell? ⟨ga, 4, none⟩ = some (.string a.host) ∧ W.cell? ⟨ga, 5, none⟩ = some (.string a.text)) ∧ (W.cell? ⟨gb, 0, none⟩ = some (.string b.name) ∧ W.cell? ⟨gb, 1, none⟩ = some (.int .i64 b.ty) ∧ W.cell? ⟨gb, 2, none⟩ = some (.int .i64 b.ttl) ∧ W.cell? ⟨gb, 3, none⟩ = some (.int .i64 b.n) ∧ W.cell? ⟨gb, 4, none⟩ = some (.string b.host) ∧ W.cell? ⟨gb, 5, none⟩ = some (.string b.text)) ∧ (W.cell? ⟨gr, 0, none⟩ = some (.string r.name) ∧ W.cell? ⟨gr, 1, none⟩ = some (.int .i64 r.ty) ∧ W.cell? ⟨gr, 2, none⟩ = some (.int .i64 r.ttl) ∧ W.cell? ⟨gr, 3, none⟩ = some (.int .i64 r.n) ∧ W.cell? ⟨gr, 4, none⟩ = some (.string r.host) ∧ W.cell? ⟨gr, 5, none⟩ = some (.string r.text))) ∧ Sv w7 W) → Calls Tryd.prog 14 #[.agg #[.string b.name, .int .i64 b.ty, .int .i64 b.ttl, .int .i64 b.n, .string b.host, .string b.text], .agg #[.string a.name, .int .i64 a.ty, .int .i64 a.ttl, .int .i64 a.n, .string a.host, .string a.text]] W fun e w' => e = .returned (.bool v) ∧ Below W.heap.size W w') := fun W hW => hv ▸ LessR.impl b a W (EN.out W hW.2) FB.out FA.out
  obtain ⟨q, hq, hcase⟩ : ∃ q : Bool, (∀ w : World, Sem.run Tryd.prog (binOp .eql 25 (.agg #[.string a.name, .int .i64 a.ty, .int .i64 a.ttl, .int .i64 a.n, .string a.host, .string a.text]) (.agg #[.string b.name, .int .i64 b.ty, .int .i64 b.ttl, .int .i64 b.n, .string b.host, .string b.text])) w = .ok (.bool q) w) ∧ ((u = false ∧ v = false ∧ q = true) ∨ (u = true ∧ v = false ∧ q = false) ∨ (u = false ∧ v = true ∧ q = false)) := by
    rcases three a b with ⟨e, h1, h2⟩ | ⟨e, h1, h2⟩ | ⟨e, h1, h2⟩
    · subst e
      exact ⟨true, EqlR.eql_same a, Or.inl ⟨HU.out.symm.trans h1, hv.symm.trans h2, rfl⟩⟩
    · exact ⟨false, EqlR.eql_diff e, Or.inr (Or.inl ⟨HU.out.symm.trans h1, hv.symm.trans h2, rfl⟩)⟩
    · exact ⟨false, EqlR.eql_diff e, Or.inr (Or.inr ⟨HU.out.symm.trans h1, hv.symm.trans h2, rfl⟩)⟩
  clear hv HU
  have LIc : Hid (∀ W : World, Below w30.heap.size w30 W → Calls Tryd.prog 14 #[.agg #[.string a.name, .int .i64 a.ty, .int .i64 a.ttl, .int .i64 a.n, .string a.host, .string a.text], .agg #[.string b.name, .int .i64 b.ty, .int .i64 b.ttl, .int .i64 b.n, .string b.host, .string b.text]] W fun e w' => e = .returned (.bool u) ∧ Below W.heap.size W w') := fun W hW => LI.out W ⟨⟨A8.out.below hW, B8.out.below hW, R8.out.below hW⟩, L8.out.trans (hW.mono L8.out.size)⟩
  have LBc : Hid (∀ W : World, Below w30.heap.size w30 W → Calls Tryd.prog 14 #[.agg #[.string b.name, .int .i64 b.ty, .int .i64 b.ttl, .int .i64 b.n, .string b.host, .string b.text], .agg #[.string a.name, .int .i64 a.ty, .int .i64 a.ttl, .int .i64 a.n, .string a.host, .string a.text]] W fun e w' => e = .returned (.bool v) ∧ Below W.heap.size W w') := fun W hW => LB.out W ⟨⟨A8.out.below hW, B8.out.below hW, R8.out.below hW⟩, L8.out.trans (hW.mono L8.out.size)⟩
  clear LI LB TI2 KI2
  have FIN : Hid (∀ W : World, Below w7.heap.size w7 W → Below w.heap.size w W) := fun W hW => L7.out.trans (hW.mono L7.out.size)
  rcases hcase with ⟨rfl, rfl, rfl⟩ | ⟨rfl, rfl, rfl⟩ | ⟨rfl, rfl, rfl⟩
  all_goals
    have x0 : ∀ d os, (Sort.grow (redrawn w30 d) os).cell? _ = some _ := fun d os => (A8.out.drawn d os).1
    have x1 : ∀ d os, (Sort.grow (redrawn w30 d) os).cell? _ = some _ := fun d os => (A8.out.drawn d os).2.1
    have x2 : ∀ d os, (Sort.grow (redrawn w30 d) os).cell? _ = some _ := fun d os => (A8.out.drawn d os).2.2.1
    have x3 : ∀ d os, (Sort.grow (redrawn w30 d) os).cell? _ = some _ := fun d os => (A8.out.drawn d os).2.2.2.1
    have x4 : ∀ d os, (Sort.grow (redrawn w30 d) os).cell? _ = some _ := fun d os => (A8.out.drawn d os).2.2.2.2.1
    have x5 : ∀ d os, (Sort.grow (redrawn w30 d) os).cell? _ = some _ := fun d os => (A8.out.drawn d os).2.2.2.2.2
    have y0 : ∀ d os, (Sort.grow (redrawn w30 d) os).cell? _ = some _ := fun d os => (B8.out.drawn d os).1
    have y1 : ∀ d os, (Sort.grow (redrawn w30 d) os).cell? _ = some _ := fun d os => (B8.out.drawn d os).2.1
    have y2 : ∀ d os, (Sort.grow (redrawn w30 d) os).cell? _ = some _ := fun d os => (B8.out.drawn d os).2.2.1
    have y3 : ∀ d os, (Sort.grow (redrawn w30 d) os).cell? _ = some _ := fun d os => (B8.out.drawn d os).2.2.2.1
    have y4 : ∀ d os, (Sort.grow (redrawn w30 d) os).cell? _ = some _ := fun d os => (B8.out.drawn d os).2.2.2.2.1
    have y5 : ∀ d os, (Sort.grow (redrawn w30 d) os).cell? _ = some _ := fun d os => (B8.out.drawn d os).2.2.2.2.2
    go_wp2_with fail
    refine wp_region_quiet_below (by assumption) (by kernel_rfl) ?_
    repeat (quiet_step (first | (go_at_call 14; with_reducible exact in_class LIc.out) | (go_at_call 14; with_reducible exact in_class LBc.out)))
    refine wpQuiet_nil ?_
    intro w33 hw33
    have hl := of_class hw33
    have L9 := Lib.hid (L8.out.trans (hl.mono L8.out.size))
    have R9 := Lib.hid (R8.out.below hl)
    clear hl hw33 x0 x1 x2 x3 x4 x5 y0 y1 y2 y3 y4 y5 hq
    go_wp2
    go_loopw [10] (fun i wr => ∃ p : Nat, i = .int .i64 ((p + 1 : Nat) : Int) ∧ (p = 0 ∨ p + 1 ≤ m) ∧ Hid (Bx wr gr r) ∧ Hid (Below w7.heap.size w7 wr)) (fun i _ => m + 1 - (intOf i).toNat)
    case atStart => exact ⟨0, rfl, Or.inl rfl, R9.out, L9.out⟩
    case round =>
      clear R9 L9
      obtain ⟨p, rfl, hpm, HRr, HLr⟩ := hrel
      by_cases hlt : p + 1 < m
      · have hp1 : p + 1 < SL.length := by rw [HN.out]; exact hlt
        have hp0 : p < SL.length := by omega
        obtain ⟨bb, off, hA, hbB, hcs⟩ := (S7.out.on HLr.out).2 (by omega)
        obtain ⟨rfl, rfl⟩ : gs = bb ∧ 0 = off := by simpa using hA
        have E := hcs (p + 1) hp1
        have E' := hcs p hp0
        rw [Nat.zero_add] at E E'
        have CC : Hid (∀ W : World, Below wr.heap.size wr W → Calls Tryd.prog 14 #[.agg #[.string ((SL[p + 1])).name, .int .i64 ((SL[p + 1])).ty, .int .i64 ((SL[p + 1])).ttl, .int .i64 ((SL[p + 1])).n, .string ((SL[p + 1])).host, .string ((SL[p + 1])).text], .agg #[.string ((SL[p])).name, .int .i64 ((SL[p])).ty, .int .i64 ((SL[p])).ttl, .int .i64 ((SL[p])).n, .string ((SL[p])).host, .string ((SL[p])).text]] W fun e w' => e = .returned (.bool false) ∧ Below W.heap.size W w') := fun W hW => (inc_at SO.out.2 p hp1) ▸ LessR.impl SL[p + 1] SL[p] W (EN.out W (HLr.out.trans (hW.mono HLr.out.size))) (FS.out _ (List.getElem_mem hp1)) (FS.out _ (List.getElem_mem hp0))
        clear hcs hA
        generalize SL[p + 1] = X at *
        generalize SL[p] = Y at *
        have x0 : ∀ d os, (Sort.grow (redrawn wr d) os).cell? _ = some _ := cell_regrown E.1
        have x1 : ∀ d os, (Sort.grow (redrawn wr d) os).cell? _ = some _ := cell_regrown E.2.1
        have x2 : ∀ d os, (Sort.grow (redrawn wr d) os).cell? _ = some _ := cell_regrown E.2.2.1
        have x3 : ∀ d os, (Sort.grow (redrawn wr d) os).cell? _ = some _ := cell_regrown E.2.2.2.1
        have x4 : ∀ d os, (Sort.grow (redrawn wr d) os).cell? _ = some _ := cell_regrown E.2.2.2.2.1
        have x5 : ∀ d os, (Sort.grow (redrawn wr d) os).cell? _ = some _ := cell_regrown E.2.2.2.2.2
        have y0 : ∀ d os, (Sort.grow (redrawn wr d) os).cell? _ = some _ := cell_regrown E'.1
        have y1 : ∀ d os, (Sort.grow (redrawn wr d) os).cell? _ = some _ := cell_regrown E'.2.1
        have y2 : ∀ d os, (Sort.grow (redrawn wr d) os).cell? _ = some _ := cell_regrown E'.2.2.1
        have y3 : ∀ d os, (Sort.grow (redrawn wr d) os).cell? _ = some _ := cell_regrown E'.2.2.2.1
        have y4 : ∀ d os, (Sort.grow (redrawn wr d) os).cell? _ = some _ := cell_regrown E'.2.2.2.2.1
        have y5 : ∀ d os, (Sort.grow (redrawn wr d) os).cell? _ = some _ := cell_regrown E'.2.2.2.2.2
        clear E E'
        have hpm1 : (p : Int) + 1 < (m : Int) := by omega
        have e1 : IntKind.i64.wrap ((p : Int) + 1 - 1) = (p : Int) := by rw [IntWalk.i64_in _ (by omega)]; omega
        have e2 : (0 : Int) ≤ (p : Int) + 1 := by omega
        have e3 : ((p : Int) + 1).toNat = p + 1 := by omega
        have e4 : (p : Int) < (m : Int) := by omega
        have e5 : IntKind.i64.wrap (p : Int) = (p : Int) := IntWalk.i64_in _ (by omega)
        have e6 : (p : Int) + 1 - 1 = (p : Int) := by omega
        go_wp2_with fail
        refine wp_region_quiet_below (by assumption) (by kernel_rfl) ?_
        repeat (quiet_step (first | (go_at_call 14; exact in_class CC.out)))
        refine wpQuiet_nil ?_
        intro w34 hw34
        have hl := of_class hw34
        have L10 := Lib.hid (HLr.out.trans (hl.mono HLr.out.size))
        have R10 := Lib.hid (HRr.out.below hl)
        clear hl hw34 x0 x1 x2 x3 x4 x5 y0 y1 y2 y3 y4 y5 e1 e2 e3 e4 e5 e6 hpm1 CC
        go_wp2
        go_roundw
        case rel => exact ⟨p + 1, by go_num, by omega, R10.out, L10.out⟩
        case measure => simp [intOf]; omega
      · have hmm : ((m : Int) == (m : Int)) = true := by simp
        have TIc : Hid (∀ W : World, Below wr.heap.size wr W → Calls Tryd.prog 18 #[.agg #[.string r.name, .int .i64 r.ty, .int .i64 r.ttl, .int .i64 r.n, .string r.host, .string r.text]] W fun e w' => e = .returned (.string T) ∧ Below W.heap.size W w') := fun W hW => TI.out W (HLr.out.trans (hW.mono HLr.out.size))
        have KIc : Hid (∀ W : World, Below wr.heap.size wr W → Calls Tryd.prog 20 #[.agg #[.string r.name, .int .i64 r.ty, .int .i64 r.ttl, .int .i64 r.n, .string r.host, .string r.text]] W fun e w' => e = .returned (.bool k) ∧ Below W.heap.size W w') := fun W hW => KI.out W (HLr.out.trans (hW.mono HLr.out.size))
        have x0 : ∀ d os, (Sort.grow (redrawn wr d) os).cell? _ = some _ := fun d os => (HRr.out.drawn d os).1
        have x1 : ∀ d os, (Sort.grow (redrawn wr d) os).cell? _ = some _ := fun d os => (HRr.out.drawn d os).2.1
        have x2 : ∀ d os, (Sort.grow (redrawn wr d) os).cell? _ = some _ := fun d os => (HRr.out.drawn d os).2.2.1
        have x3 : ∀ d os, (Sort.grow (redrawn wr d) os).cell? _ = some _ := fun d os => (HRr.out.drawn d os).2.2.2.1
        have x4 : ∀ d os, (Sort.grow (redrawn wr d) os).cell? _ = some _ := fun d os => (HRr.out.drawn d os).2.2.2.2.1
        have x5 : ∀ d os, (Sort.grow (redrawn wr d) os).cell? _ = some _ := fun d os => (HRr.out.drawn d os).2.2.2.2.2
        cases k
        · obtain rfl := HTK.out.2 rfl
          go_wp2_with fail
          refine wp_region_quiet_below (by assumption) (by kernel_rfl) ?_
          repeat (quiet_step (first | (go_at_call 18; exact in_class TIc.out) | (go_at_call 20; exact in_class KIc.out)))
          refine wpQuiet_nil ?_
          intro w34 hw34
          have hl := of_class hw34
          have L10 := Lib.hid (FIN.out _ (HLr.out.trans (hl.mono HLr.out.size)))
          clear hl hw34 x0 x1 x2 x3 x4 x5
          go_wp2
          go_ret
          exact ⟨rfl, L10.out⟩
        · have hne := HTK.out.1 rfl
          have hne2 : (!T.toList.isEmpty) = true := by rw [hne]; rfl
          go_wp2_with fail
          refine wp_region_quiet_below (by assumption) (by kernel_rfl) ?_
          repeat (quiet_step (first | (go_at_call 18; exact in_class TIc.out) | (go_at_call 20; exact in_class KIc.out)))
          refine wpQuiet_nil ?_
          intro w34 hw34
          have hl := of_class hw34
          have L10 := Lib.hid (FIN.out _ (HLr.out.trans (hl.mono HLr.out.size)))
          clear hl hw34 x0 x1 x2 x3 x4 x5
          go_wp2
          go_ret
          exact ⟨rfl, L10.out⟩
end Go.Proofs.YtbjhkhmhmldjoaaDoor.LawRecords
