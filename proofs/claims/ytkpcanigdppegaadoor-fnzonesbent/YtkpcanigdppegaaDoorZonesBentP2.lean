/- What the program's Under does, by the library's proved contract of strings.HasSuffix: it tells whether the labels of its second text end those of its first. Condition: at most 400000000 bytes each. -/
import Derived.Test.YtkpcanigdppegaaDoorZonesBentP1
import Derived.Deep.RegionLaw
import Derived.Test.YtkpcanigdppegaaDoorZoneMath
import Derived.Test.YtkpcanigdppegaaDoorMemZ
import Derived.Test.YtkpcanigdppegaaDoorMemS
import Derived.Deep.RegionHeld3
import Derived.Test.YtkpcanigdppegaaDoorIsin
import Derived.Test.YtkpcanigdppegaaDoorAppS
import Derived.Test.YtkpcanigdppegaaDoorZokMath
import Derived.Test.YtkpcanigdppegaaDoorLabSpec
import Derived.Test.YtkpcanigdppegaaDoorNameMath
import Derived.Test.YtkpcanigdppegaaDoorShelf
/- What the model's draws of a name and of a zone with a question do: nothing that was there is turned. -/
namespace Go.Proofs.YtkpcanigdppegaaDoor.DrawZ
open Go.RowKit Go.Proofs.YtkpcanigdppegaaDoor.Mem Go.Proofs.YtkpcanigdppegaaDoor.MemR Go.Proofs.YtkpcanigdppegaaDoor.MemZ Go.Proofs.YtkpcanigdppegaaDoor.BoxR Go.Proofs.YtkpcanigdppegaaDoor.ResR Go.Proofs.YtkpcanigdppegaaDoor.ResZ Go.Proofs.YtkpcanigdppegaaDoor.Draw Go.Proofs.YtkpcanigdppegaaDoor.DrawS Go.Proofs.YtkpcanigdppegaaDoor.DrawL Go.Proofs.YtkpcanigdppegaaDoor.DrawN Go.Proofs.YtkpcanigdppegaaDoor.DrawR Go.Proofs.YtkpcanigdppegaaDoor.ZoneL Go.Proofs.YtkpcanigdppegaaDoor.ZoneV Go.Proofs.YtkpcanigdppegaaDoor.ZoneD

def znames : List ByteArray := [⟨#[]⟩, ⟨#[99, 111, 109]⟩, ⟨#[110, 115, 46, 99, 111, 109]⟩, ⟨#[101, 120, 46, 99, 111, 109]⟩, ⟨#[119, 119, 119, 46, 101, 120, 46, 99, 111, 109]⟩, ⟨#[110, 115, 46, 101, 120, 46, 99, 111, 109]⟩, ⟨#[119, 119, 119, 46, 99, 111, 109]⟩, ⟨#[116, 46, 99, 111, 109]⟩, ⟨#[97, 46, 99, 111, 109]⟩, ⟨#[98, 46, 97, 46, 99, 111, 109]⟩, ⟨#[110, 111, 46, 99, 111, 109]⟩, ⟨#[111, 114, 103]⟩]

theorem znames_short : ∀ x ∈ znames, Short x := all_short _ (by decide)

set_option maxHeartbeats 1000000 in
theorem l10Name_any (g : Nat) (w : World) (hc : Cur w g) : Calls Tryd.prog 35 #[.pointer (some ⟨g, 0, none⟩)] w (Txt w g Short) := by
  have HC := Lib.hid hc
  clear hc
  go_enter Tryd.func35, Tryd.ntmps35
  go_wp2_with fail
  refine (l1Str_any g w.heap.size 12 znames _ (HC.out.alloc _) (bk_texts w znames _ rfl) (Nat.ne_of_gt HC.out.lt) rfl (by omega) (by omega)).mono ?_
  rintro e w1 ⟨x, rfl, hx, hc1, hg1⟩
  have HX := Lib.hid (znames_short x hx)
  have HC1 := Lib.hid hc1
  have HG1 := Lib.hid (grown_trans (World.grownBy_alloc w _ (some g)) hg1)
  clear hc1 hg1 hx
  go_wp2
  go_ret
  exact ⟨x, rfl, HX.out, HC1.out, HG1.out⟩

/-- What is kept while a zone and a question are drawn. -/
def Dz (w : World) (g gz gk gb : Nat) (s : ByteArray) (x : Value) (base gl m cap : Nat) (L : List Rec) (v : World) : Prop :=
  (w.heap.size ≤ gz ∧ gz < gk ∧ gk < g ∧ g < base ∧ g < gb) ∧ Cur v g ∧ Below w.heap.size w v ∧ Bk v gz 26 (zc ⟨#[]⟩ (.slice none 0 0)) ∧ Bk v gk 28 [.string ⟨#[]⟩, .int .i64 0] ∧ Zx v gb s x ∧ v.ownsRow base 39 6 (.slice (some ⟨gl, 0, none⟩) m cap) m (fl L)

theorem Dz.step {w v v' : World} {g gz gk gb base gl m cap : Nat} {s : ByteArray} {x : Value} {L : List Rec} (h : Dz w g gz gk gb s x base gl m cap L v) (hc : Cur v' g) (hg : v.grownBy v' (some g)) : Dz w g gz gk gb s x base gl m cap L v' := by
  obtain ⟨⟨h1, h2, h3, h4, h5⟩, _, hb, k1, k2, k3, ko⟩ := h
  exact ⟨⟨h1, h2, h3, h4, h5⟩, hc, hb.grown hg hb.size (fun j hj => by cases hj; omega), k1.grown hg (fun e => by have := Option.some.inj e; omega), k2.grown hg (fun e => by have := Option.some.inj e; omega), k3.grown hg (fun e => by have := Option.some.inj e; omega), own_far ko hg h4⟩

/-- The call returned a zone that is drawn and a question, and turned nothing that was there. -/
def Zq (w : World) (e : Ending) (w' : World) : Prop :=
  ∃ (t h : Int) (a b c : Bool) (gl m cap : Nat) (nm : ByteArray) (ty : Int), (t, h) ∈ ts ∧ e = .returned (.tuple #[.agg #[.string ⟨#[99, 111, 109]⟩, .slice (some ⟨gl, 0, none⟩) m cap], .agg #[.string nm, .int .i64 ty]]) ∧ nm.size ≤ 20 ∧ (zs t h a b c).length = m ∧ Sr w' w'.heap.size (some ⟨gl, 0, none⟩) m (zs t h a b c) ∧ Below w.heap.size w w'

theorem own_sr2 {w : World} {base gl n cap : Nat} {L : List Rec} (h : w.ownsRow base 39 6 (.slice (some ⟨gl, 0, none⟩) n cap) n (fl L)) : Sr w w.heap.size (some ⟨gl, 0, none⟩) n L := own_sr h

/-- The box g filled with a question. -/
def filK (w : World) (g : Nat) (s : ByteArray) (n : Int) : World := (w.setCell ⟨g, 0, none⟩ (.string s)).setCell ⟨g, 1, none⟩ (.int .i64 n)

theorem ends {w v : World} {g gz gk gb base gl m cap : Nat} {s : ByteArray} {x : Value} {L : List Rec} (h : Dz w g gz gk gb s x base gl m cap L v) (nm : ByteArray) (ty : Int) :
    Bk (filK (filZ v gz s x) gk nm ty) gz 26 (zc s x) ∧ Bk (filK (filZ v gz s x) gk nm ty) gk 28 [.string nm, .int .i64 ty] ∧ Sr (filK (filZ v gz s x) gk nm ty) (filK (filZ v gz s x) gk nm ty).heap.size (some ⟨gl, 0, none⟩) m L ∧ Below w.heap.size w (filK (filZ v gz s x) gk nm ty) := by
  obtain ⟨⟨h1, h2, h3, h4, h5⟩, _, hb, k1, k2, k3, ko⟩ := h
  have lg : base ≤ gl := (ko.lt gl rfl).1
  have n1 : gk ≠ gz := by omega
  have n2 : gz ≠ gk := by omega
  have n3 : gl ≠ gz := by omega
  have n4 : gl ≠ gk := by omega
  have n5 : w.heap.size ≤ gk := by omega
  have b1 := filZ_bk k1 s x
  have b2 := filZ_other (g := gz) k2 n1 s x
  have l1 := filZ_below hb h1 s x
  have o1 := own_filZ (gz := gz) ko n3 s x
  unfold filK
  generalize filZ v gz s x = u at *
  have o2 := own_set (gb := gk) o1 n4 0 (.string nm)
  have e1 := b1.other (p := ⟨gk, 0, none⟩) n2 (.string nm)
  have f1 := b2.set 0 (.string nm)
  have l2 := l1.setCell (p := ⟨gk, 0, none⟩) n5 (.string nm)
  generalize u.setCell ⟨gk, 0, none⟩ (.string nm) = u2 at *
  exact ⟨e1.other (p := ⟨gk, 1, none⟩) n2 (.int .i64 ty), f1.set 1 (.int .i64 ty), own_sr (own_set (gb := gk) o2 n4 1 (.int .i64 ty)), l2.setCell (p := ⟨gk, 1, none⟩) n5 (.int .i64 ty)⟩

set_option maxHeartbeats 16000000 in
set_option maxRecDepth 100000 in
theorem drawZone_any (A : Option Addr) (n c : Nat) (l : List UInt8) (w : World) (hs : Sl w w.heap.size A n l) (hn : n ≤ 1048576) : Calls Tryd.prog 7 #[.slice A n c] w (Zq w) := by
  have mixed : Tryd.prog.follows .mixedOrders = true := by kernel_rfl
  have HS := Lib.hid hs
  have hz1 : (w.alloc (.cells #[.string ⟨#[]⟩, .slice none 0 0] 26)).heap.size = w.heap.size + 1 := by simp
  have K0 : Hid (Bk ((w.alloc (.cells #[.string ⟨#[]⟩, .slice none 0 0] 26)).alloc (.cells #[.string ⟨#[]⟩, .int .i64 0] 28)) w.heap.size 26 (zc ⟨#[]⟩ (.slice none 0 0))) := (show Bk (w.alloc (.cells #[.string ⟨#[]⟩, .slice none 0 0] 26)) w.heap.size 26 (zc ⟨#[]⟩ (.slice none 0 0)) from heap_alloc_new w _).alloc _
  have Q0 : Hid (Bk ((w.alloc (.cells #[.string ⟨#[]⟩, .slice none 0 0] 26)).alloc (.cells #[.string ⟨#[]⟩, .int .i64 0] 28)) (w.heap.size + 1) 28 [.string ⟨#[]⟩, .int .i64 0]) := by
    show Bk _ _ _ _
    rw [← hz1]
    exact heap_alloc_new _ _
  have L0 := Lib.hid (((Below.refl w.heap.size w).alloc (Nat.le_refl _) (.cells #[.string ⟨#[]⟩, .slice none 0 0] 26)).alloc (by simp) (.cells #[.string ⟨#[]⟩, .int .i64 0] 28))
  have N0 : Hid (w.heap.size + 1 < ((w.alloc (.cells #[.string ⟨#[]⟩, .slice none 0 0] 26)).alloc (.cells #[.string ⟨#[]⟩, .int .i64 0] 28)).heap.size) := by show _ < _; simp
  clear hs hz1
  go_enter Tryd.func7, Tryd.ntmps7
  go_upto_region 1 with (fail)
  generalize (w.alloc (.cells #[.string ⟨#[]⟩, .slice none 0 0] 26)).alloc (.cells #[.string ⟨#[]⟩, .int .i64 0] 28) = w0 at *
  go_wp2_with fail
  refine (l1New_any A n c l w0 ((HS.out.below L0.out).wider L0.out.size) hn).mono ?_
  rintro e w1 ⟨rfl, hc1, hg1⟩
  have C1 := Lib.hid hc1
  have L1 := Lib.hid (L0.out.trans ((below_of_grown hg1).mono L0.out.size))
  have K1 := Lib.hid (K0.out.grown hg1 (fun e => by cases e))
  have Q1 := Lib.hid (Q0.out.grown hg1 (fun e => by cases e))
  clear hc1 hg1 K0 Q0 L0
  generalize w0.heap.size = g at *
  go_wp2_with fail
  refine (zone_any g w1 C1.out).mono ?_
  rintro e w2 ⟨t, h, a, b, c', gl, m, cap, hth, rfl, hlm, hown, hc2, hg2⟩
  have HT := Lib.hid hth
  have HM := Lib.hid hlm
  have GA : Hid (g < w1.heap.size) := C1.out.lt
  have NG := N0.out
  have GB : Hid (g < w2.heap.size) := Nat.lt_of_lt_of_le GA.out hg2.size
  have D2 : Hid (Dz w g w.heap.size (w.heap.size + 1) w2.heap.size ⟨#[99, 111, 109]⟩ (.slice (some ⟨gl, 0, none⟩) m cap) w1.heap.size gl m cap (zs t h a b c') (w2.alloc (.cells #[.string ⟨#[99, 111, 109]⟩, .slice (some ⟨gl, 0, none⟩) m cap] 26))) :=
    ⟨⟨Nat.le_refl _, Nat.lt_succ_self _, NG, GA.out, GB.out⟩, hc2.alloc _, (L1.out.grown hg2 L1.out.size (fun j hj => by cases hj; omega)).alloc (Nat.le_trans L1.out.size hg2.size) _, (K1.out.grown hg2 (fun e => by have := Option.some.inj e; omega)).alloc _, (Q1.out.grown hg2 (fun e => by have := Option.some.inj e; omega)).alloc _, zx_new w2 _ _ _, hown.alloc _⟩
  clear hth hlm hown hc2 hg2 C1 L1 K1 Q1 NG N0
  go_upto_region 3 with (fail)
  generalize w2.alloc (.cells #[.string ⟨#[99, 111, 109]⟩, .slice (some ⟨gl, 0, none⟩) m cap] 26) = w3 at *
  generalize w2.heap.size = gb at *
  have DD : Hid (Dz w g w.heap.size (w.heap.size + 1) gb ⟨#[99, 111, 109]⟩ (.slice (some ⟨gl, 0, none⟩) m cap) w1.heap.size gl m cap (zs t h a b c') w3.drew) := D2.out.step (D2.out.2.1.grown (grown_drewN (grown_refl w3 none) 1) (fun _ e => by cases e)) (grown_drewN (grown_refl w3 (some g)) 1)
  have d0 : w3.drew.cell? ⟨gb, 0, none⟩ = some (.string ⟨#[99, 111, 109]⟩) := DD.out.2.2.2.2.2.1.1
  have d1 : w3.drew.cell? ⟨gb, 1, none⟩ = some (.slice (some ⟨gl, 0, none⟩) m cap) := DD.out.2.2.2.2.2.1.2
  clear D2
  go_region_law (first
    | (go_simp; go_at_call 35; refine (l10Name_any g w3.drew DD.out.2.1).mono ?_; rintro e w4 ⟨nm, rfl, hnm, hc4, hg4⟩; have D4 := Lib.hid (DD.out.step hc4 hg4); have y0 := D4.out.2.2.2.2.2.1.1; have y1 := D4.out.2.2.2.2.2.1.2; clear hc4 hg4)
    | (go_simp; go_at_call 36; refine (l5Type_any g w4 D4.out.2.1).mono ?_; rintro e w5 ⟨ty, rfl, hty, hc5, hg5⟩; have D5 := Lib.hid (D4.out.step hc5 hg5); have x0 := D5.out.2.2.2.2.2.1.1; have x1 := D5.out.2.2.2.2.2.1.2; have k0 : w5.cell? ⟨w.heap.size, 0, none⟩ = some (.string ⟨#[]⟩) := D5.out.2.2.2.1.cell 0; have k1 : w5.cell? ⟨w.heap.size, 1, none⟩ = some (.slice none 0 0) := D5.out.2.2.2.1.cell 1; have f0 := D5.out.2.2.2.1.free 0; have f1 := D5.out.2.2.2.1.free 1; have q0 : w5.cell? ⟨w.heap.size + 1, 0, none⟩ = some (.string ⟨#[]⟩) := D5.out.2.2.2.2.1.cell 0; have q1 : w5.cell? ⟨w.heap.size + 1, 1, none⟩ = some (.int .i64 0) := D5.out.2.2.2.2.1.cell 1; have p0 := D5.out.2.2.2.2.1.free 0; have p1 := D5.out.2.2.2.2.1.free 1; clear hc5 hg5))
  all_goals
    have FN := Lib.hid (ends D5.out nm ty)
    go_wp2
    exact bodyPost_ret (v := .tuple #[.agg #[.string ⟨#[99, 111, 109]⟩, .slice (some ⟨gl, 0, none⟩) m cap], .agg #[.string nm, .int .i64 ty]]) (resZQ rfl FN.out.1 FN.out.2.1 rfl rfl) rfl ⟨t, h, a, b, c', gl, m, cap, nm, ty, HT.out, rfl, hnm, HM.out, FN.out.2.2.1, FN.out.2.2.2⟩

end Go.Proofs.YtkpcanigdppegaaDoor.DrawZ

/- What Glue does in the model: the addresses of the hosts, in their order. Condition: at most 1048576 records and as many hosts (so the result may have many more). -/
namespace Go.Proofs.YtkpcanigdppegaaDoor.GlueS
open Go.RowKit Go.Proofs.YtkpcanigdppegaaDoor.Mem Go.Proofs.YtkpcanigdppegaaDoor.MemR Go.Proofs.YtkpcanigdppegaaDoor.SetMath Go.Proofs.YtkpcanigdppegaaDoor.ZoneMath Go.Proofs.YtkpcanigdppegaaDoor.MemZ Go.Proofs.YtkpcanigdppegaaDoor.MemS Go.Proofs.YtkpcanigdppegaaDoor.AppR Go.Proofs.YtkpcanigdppegaaDoor.Wt

/-- append of records as one step of a region that draws, onto a row of the call's own. -/
theorem step_append_recs {ops : Array Oper} {o : Oper} {a : Act} {w : World} {K : Act → World → Prop} {Q : Exit → Act → World → Prop} {E : Prop} (hgd : o.guard = none) (s x : Operand)
    (ho : o.op = .call { callee := .builtin .append, args := #[s, x], argTypes := #[24, 24] })
    (base g n cap : Nat) (L : List Rec) (hs : a.eval s = .slice (some ⟨g, 0, none⟩) n cap) (hown : w.ownsRow base 39 6 (.slice (some ⟨g, 0, none⟩) n cap) n (fl L))
    (b off m c B : Nat) (l : List Rec) (hx : a.eval x = .slice (some ⟨b, off, none⟩) m c) (hl : Sr w B (some ⟨b, off, none⟩) m l)
    (hnm : n + m ≤ 1900000000000) (hbase : base ≤ w.heap.size)
    (h : ∀ g' cap' w', w'.ownsRow base 39 6 (.slice (some ⟨g', 0, none⟩) (n + m) cap') (n + m) (fl (L ++ l)) → w.grownBy w' (some g) → K (a.put o.dst (.slice (some ⟨g', 0, none⟩) (n + m) cap')) w') :
    if Region.wanted o (yielded ops a.tmps) = true then Oper.wp Tryd.prog o a w K Q else E := by
  have hw : Region.wanted o (yielded ops a.tmps) = true := by simp [Region.wanted, hgd]
  rw [if_pos hw]
  obtain ⟨i0, hi, hz0, hz1, hz2⟩ := info_parts CopyR.info
  exact wp_append_own w s x 24 ho base 39 i0 _ 6 72 Tryd.underlying24 hi hz0 hz1 hz2 rfl (by decide) _ n (fl L) hs hown ⟨b, off, none⟩ m c (fl l) hx (by rw [fl_len, hl.1]) (cells_of hl) (one_fl l) (by unfold maxLen; omega) (by omega) hbase
    (fun v' w' h1 h2 h3 => by
      rcases h1.2 with ⟨hv, _⟩ | ⟨g', cap', cur, hv, _⟩
      · have := (h3.1 hv).1
        cases this
      · subst hv
        exact h g' cap' w' (by rw [fl_append]; exact h1) h2)

section
variable {w0 w w' : World} {g : Nat} {s : ByteArray} {x v : Value} {p : Addr}
theorem keptH (m : (Zx w g s x ∧ w.cell? p = some v) ∧ Svz w0 w) (hl : Below w.heap.size w w') : (Zx w' g s x ∧ w'.cell? p = some v) ∧ Svz w0 w' := ⟨⟨m.1.1.below hl, (hl.cell (World.block_lt_of_cell? _ _ m.1.2)).trans m.1.2⟩, m.2.trans (hl.mono m.2.size)⟩
theorem keptH_draw (m : (Zx w g s x ∧ w.cell? p = some v) ∧ Svz w0 w) : (Zx w.drew g s x ∧ w.drew.cell? p = some v) ∧ Svz w0 w.drew := keptH m ((Below.refl _ _).drew)
end

set_option maxRecDepth 100000 in
set_option maxHeartbeats 8000000 in
theorem spec (s : ByteArray) (b0 o0 n c : Nat) (l : List Rec) (b1 o1 nh ch : Nat) (H : List ByteArray) (w : World) (hs : Sr w w.heap.size (some ⟨b0, o0, none⟩) n l) (hh : Ss w w.heap.size (some ⟨b1, o1, none⟩) nh H) (hn : n ≤ 1048576) (hnh : nh ≤ 1048576) :
    Calls Tryd.prog 26 #[.agg #[.string s, .slice (some ⟨b0, o0, none⟩) n c], .slice (some ⟨b1, o1, none⟩) nh ch] w (GivesL w (gl H l)) := by
  have Z0 := Lib.hid ((zx_new w 26 s (.slice (some ⟨b0, o0, none⟩) n c)).alloc (.cells #[] 39))
  have L0 := Lib.hid (((Below.refl w.heap.size w).alloc (Nat.le_refl _) (.cells #[.string s, .slice (some ⟨b0, o0, none⟩) n c] 26)).alloc (by simp) (.cells #[] 39))
  have P0 := Lib.hid (owns_new (w.alloc (.cells #[.string s, .slice (some ⟨b0, o0, none⟩) n c] 26)))
  rw [show (w.alloc (.cells #[.string s, .slice (some ⟨b0, o0, none⟩) n c] 26)).heap.size = w.heap.size + 1 by simp] at P0
  have HS := Lib.hid hs
  have HH := Lib.hid hh
  clear hs hh
  go_enter Tryd.func26, Tryd.ntmps26
  go_wp2
  generalize (w.alloc (.cells #[.string s, .slice (some ⟨b0, o0, none⟩) n c] 26)).alloc (.cells #[] 39) = w0 at *
  go_loopw [5, 6] (fun out i wr => ∃ k g m cap : Nat, k ≤ nh ∧ m ≤ k * n ∧ i = .int .i64 k ∧ out = .slice (some ⟨g, 0, none⟩) m cap ∧ Hid (wr.ownsRow (w.heap.size + 1) 39 6 (.slice (some ⟨g, 0, none⟩) m cap) m (fl (gl (H.take k) l))) ∧ Hid (Zx wr w.heap.size s (.slice (some ⟨b0, o0, none⟩) n c)) ∧ Hid (Below w.heap.size w wr)) (fun _ i _ => nh - (intOf i).toNat)
  case atStart => exact ⟨0, w.heap.size + 1, 0, 0, Nat.zero_le _, Nat.zero_le _, rfl, rfl, P0.out, Z0.out, L0.out⟩
  case round =>
    clear Z0 L0 P0
    obtain ⟨k, g, m, cap, hk, hm, rfl, rfl, HO, HX, HL⟩ := hrel
    by_cases hlt : k < nh
    · obtain ⟨b, off, hA, hbB, hcs⟩ := HH.out.2 (by omega)
      obtain ⟨rfl, rfl⟩ : b1 = b ∧ o1 = off := by simp at hA; exact hA
      clear hA
      have hkl : k < H.length := by rw [HH.out.1]; exact hlt
      have e0 : wr.cell? ⟨b1, o1 + k, none⟩ = some (.string H[k]) := (HL.out.cell (p := ⟨b1, o1 + k, none⟩) hbB).trans (hcs k hkl)
      have YH := Lib.hid (hcs k hkl)
      clear hcs
      have HT := Lib.hid (gl_take H l k hkl)
      generalize H[k] = y at *
      have hmm : Hid (m ≤ 1100000000000) := show _ ≤ _ from Nat.le_trans hm (Nat.le_trans (Nat.mul_le_mul (show k ≤ 1048576 by omega) hn) (by decide))
      have lg : Hid (w.heap.size + 1 ≤ g ∧ g < wr.heap.size) := by obtain ⟨r', hb, _, _, h⟩ := bk_of_owns6 HO.out; exact ⟨h, hb.lt⟩
      have OD : Hid (wr.drew.ownsRow (w.heap.size + 1) 39 6 (.slice (some ⟨g, 0, none⟩) m cap) m (fl (gl (H.take k) l))) := HO.out
      have LD : Hid (Below w.heap.size w wr.drew) := HL.out.drew
      have CD := Lib.hid (SetS.spec y 1 b0 o0 n c l wr.drew (HS.out.on LD.out) (by omega))
      have XA : Hid (∀ w1 w2 : World, Below wr.drew.heap.size wr.drew w1 → w1.grownBy w2 (some g) → (Zx w2 w.heap.size s (.slice (some ⟨b0, o0, none⟩) n c) ∧ w2.cell? ⟨b1, o1 + k, none⟩ = some (.string y)) ∧ Svz w w2) := fun w1 w2 hl hgrow => by
        have L2 : Below w.heap.size w w2 := (LD.out.trans (hl.mono LD.out.size)).grown hgrow (Nat.le_trans LD.out.size hl.size) (fun j hj => by cases hj; have := lg.out.1; omega)
        exact ⟨⟨((HX.out.below ((Below.refl _ _).drew)).below hl).grown hgrow (fun e => by have := Option.some.inj e; have := lg.out.1; omega), (L2.cell (p := ⟨b1, o1 + k, none⟩) hbB).trans YH.out⟩, L2⟩
      have OA : Hid (∀ w1 : World, Below wr.drew.heap.size wr.drew w1 → w1.ownsRow (w.heap.size + 1) 39 6 (.slice (some ⟨g, 0, none⟩) m cap) m (fl (gl (H.take k) l)) ∧ w.heap.size + 1 ≤ w1.heap.size) := fun w1 hl => ⟨OD.out.kept (row := none) ⟨hl.os, hl.tape, hl.output, hl.size, fun k hk _ => hl.block k hk⟩ (Or.inr (fun e => by cases e)), Nat.le_trans (show w.heap.size + 1 ≤ wr.drew.heap.size from Nat.le_trans lg.out.1 (Nat.le_of_lt lg.out.2)) hl.size⟩
      have MS : Hid ((sf y 1 l).length ≤ n) := show _ ≤ _ by have := sf_len y 1 l; have := HS.out.1; omega
      have S0 : (Zx wr w.heap.size s (.slice (some ⟨b0, o0, none⟩) n c) ∧ wr.cell? ⟨b1, o1 + k, none⟩ = some (.string y)) ∧ Svz w wr := ⟨⟨HX.out, e0⟩, HL.out⟩
      go_wp2
      go_region_held3 (fun w' => ((w'.cell? ⟨w.heap.size, 0, none⟩ = some (.string s) ∧ w'.cell? ⟨w.heap.size, 1, none⟩ = some (.slice (some ⟨b0, o0, none⟩) n c)) ∧ w'.cell? ⟨b1, o1 + k, none⟩ = some (.string y)) ∧ Svz w w')
        (first | exact S0 | with_reducible assumption | exact keptH_draw (by assumption) | exact keptH (by assumption) hl | exact SR | fail)
        (first
          | (go_at_call 54; (with_reducible refine CD.out.mono ?_); rintro e w1 ⟨gs, ms, cs, rs, rfl, hz, hc, hg, hb, hl⟩)
          | (refine step_append_recs rfl (.tmp 14) (.tmp 21) rfl (w.heap.size + 1) g m cap (gl (H.take k) l) rfl (OA.out _ hl).1 gs 0 ms cs _ (sf y 1 l) rfl (bk_sr hb hz) (by have := MS.out; have := hmm.out; omega) (OA.out _ hl).2 ?_; intro g2 cap2 w2 hown hgrow; have SR := XA.out w1 w2 hl hgrow)
          | fail)
      have O3 := Lib.hid hown
      have X3 : Hid (Zx w2 w.heap.size s (.slice (some ⟨b0, o0, none⟩) n c)) := SR.1.1
      have L3 : Hid (Below w.heap.size w w2) := SR.2
      have hmn : ms ≤ n := by have := MS.out; omega
      clear hown hgrow SR S0 OA XA CD OD LD hb hl hg hc hz
      go_wp2
      go_roundw
      case rel => exact ⟨k + 1, g2, m + ms, cap2, by omega, by rw [Nat.add_mul, Nat.one_mul]; omega, by go_num, rfl, by rw [HT.out]; exact O3.out, X3.out, L3.out⟩
      case measure => simp [intOf]; omega
    · obtain rfl : nh = k := by omega
      have HN := Lib.hid (take_all HH.out.1)
      go_wp2
      go_ret
      have ho := HO.out
      rw [HN.out] at ho
      obtain ⟨r', hb, _, hcap, hg⟩ := bk_of_owns6 ho
      have hz : (gl H l).length = m := by have := ho.1; rw [fl_len] at this; omega
      exact ⟨g, m, cap, r', rfl, hz, hcap, by omega, hb, HL.out⟩
end Go.Proofs.YtkpcanigdppegaaDoor.GlueS

/- What the model's draw of any zone does: a zone of at most 9 records of short texts; nothing that was there is turned but the cursor. -/
namespace Go.Proofs.YtkpcanigdppegaaDoor.DrawY
open Go.RowKit Go.Proofs.YtkpcanigdppegaaDoor.Mem Go.Proofs.YtkpcanigdppegaaDoor.MemR Go.Proofs.YtkpcanigdppegaaDoor.MemZ Go.Proofs.YtkpcanigdppegaaDoor.BoxR Go.Proofs.YtkpcanigdppegaaDoor.ResR Go.Proofs.YtkpcanigdppegaaDoor.ResZ Go.Proofs.YtkpcanigdppegaaDoor.Draw Go.Proofs.YtkpcanigdppegaaDoor.DrawS Go.Proofs.YtkpcanigdppegaaDoor.DrawL Go.Proofs.YtkpcanigdppegaaDoor.DrawN Go.Proofs.YtkpcanigdppegaaDoor.DrawR Go.Proofs.YtkpcanigdppegaaDoor.LessR Go.Proofs.YtkpcanigdppegaaDoor.SrtMath Go.Proofs.YtkpcanigdppegaaDoor.ZoneL Go.Proofs.YtkpcanigdppegaaDoor.ZoneV Go.Proofs.YtkpcanigdppegaaDoor.ZoneD Go.Proofs.YtkpcanigdppegaaDoor.UqzMath

/-- Any zone that is drawn, behind the cursor; the cursor moved, nothing else turned. -/
def Za (w : World) (g : Nat) (e : Ending) (w' : World) : Prop :=
  ∃ (s : ByteArray) (b o n c : Nat) (L : List Rec), e = .returned (.agg #[.string s, .slice (some ⟨b, o, none⟩) n c]) ∧ s.size ≤ 20 ∧ n ≤ 9 ∧ L.length = n ∧ (∀ r ∈ L, Sml r) ∧ w.heap.size ≤ b ∧ Sr w' w'.heap.size (some ⟨b, o, none⟩) n L ∧ Cur w' g ∧ w.grownBy w' (some g)

def apexes : List ByteArray := [⟨#[]⟩, ⟨#[111, 114, 103]⟩, ⟨#[101, 120, 46, 99, 111, 109]⟩, ⟨#[65]⟩]

theorem apexes_short : ∀ x ∈ apexes, Short x := all_short _ (by decide)

theorem sml_all : ∀ p ∈ ts, ∀ a b c : Bool, ∀ r ∈ zs p.1 p.2 a b c, r.name.size ≤ 60 ∧ r.host.size ≤ 60 ∧ r.text.size ≤ 60 := by decide +kernel

theorem sml_of {t h : Int} (ht : (t, h) ∈ ts) (a b c : Bool) : ∀ r ∈ zs t h a b c, Sml r := fun r hr => sml_all (t, h) ht a b c r hr

theorem sml_fine {l : List Rec} (h : ∀ r ∈ l, Sml r) : ∀ r ∈ l, Fine r := fun r hr => by
  have := h r hr
  exact ⟨by have := this.1; omega, by have := this.2.1; omega⟩

theorem sml_uqz {l S : List Rec} (h : ∀ r ∈ l, Sml r) (hs : Srt l S) : ∀ r ∈ uqz S, Sml r :=
  uqz_mem (fun _ _ hr => hr) (fun r hr => h r (hs.1.mem_iff.1 hr))

theorem uqz_short {l S : List Rec} (hs : Srt l S) : (uqz S).length ≤ l.length := by
  have h1 := uqz_len_take S S.length (Nat.le_refl _)
  rw [List.take_length] at h1
  rw [hs.length] at h1
  exact h1

/-- What is kept while any zone is drawn: the cursor, the result's box, the zone's box, the row. -/
def Da (w : World) (g gb : Nat) (s : ByteArray) (x : Value) (base gl m cap : Nat) (L : List Rec) (v : World) : Prop :=
  (g < w.heap.size ∧ w.heap.size < base ∧ base ≤ gb ∧ gl < gb) ∧ Cur v g ∧ w.grownBy v (some g) ∧ Bk v w.heap.size 26 (zc ⟨#[]⟩ (.slice none 0 0)) ∧ Bk v gb 26 (zc s x) ∧ v.ownsRow base 39 6 (.slice (some ⟨gl, 0, none⟩) m cap) m (fl L)

theorem Da.step {w v v' : World} {g gb base gl m cap : Nat} {s : ByteArray} {x : Value} {L : List Rec} (h : Da w g gb s x base gl m cap L v) (hc : Cur v' g) (hg : v.grownBy v' (some g)) : Da w g gb s x base gl m cap L v' := by
  obtain ⟨⟨h1, h2, h3, h4⟩, _, hb, k1, k2, ko⟩ := h
  exact ⟨⟨h1, h2, h3, h4⟩, hc, grown_trans hb hg, k1.grown hg (fun e => by have := Option.some.inj e; omega), k2.grown hg (fun e => by have := Option.some.inj e; omega), own_far ko hg (by omega)⟩

theorem Da.row {w v v' : World} {g gb base gl m cap : Nat} {s : ByteArray} {x : Value} {L : List Rec} (h : Da w g gb s x base gl m cap L v) (hg : v.grownBy v' (some gl)) : Cur v' g ∧ w.grownBy v' (some g) ∧ Bk v' w.heap.size 26 (zc ⟨#[]⟩ (.slice none 0 0)) ∧ Bk v' gb 26 (zc s x) := by
  obtain ⟨⟨h1, h2, h3, h4⟩, hc, hb, k1, k2, ko⟩ := h
  have lg : base ≤ gl := (ko.lt gl rfl).1
  exact ⟨cur_far hc ko hg (by omega), grown_far hb hg (by omega), k1.grown hg (fun e => by have := Option.some.inj e; omega), k2.grown hg (fun e => by have := Option.some.inj e; omega)⟩

theorem sr_tail {w : World} {B g m : Nat} {l : List Rec} (h : Sr w B (some ⟨g, 0, none⟩) (m + 1) l) : Sr w B (some ⟨g, 6, none⟩) m l.tail := by
  refine ⟨by rw [List.length_tail, h.1]; omega, fun _ => ?_⟩
  obtain ⟨b, off, hA, hb, hc⟩ := h.2 (by omega)
  obtain ⟨rfl, rfl⟩ : g = b ∧ 0 = off := by simpa using hA
  refine ⟨g, 6, rfl, hb, fun j hj => ?_⟩
  have h1 : j + 1 < l.length := by rw [List.length_tail] at hj; omega
  have := hc (j + 1) h1
  rw [List.getElem_tail]
  rw [show 6 + j * 6 = 0 + (j + 1) * 6 by omega]
  exact this

theorem apart {w : World} {base g n cap gb : Nat} {L : List Rec} {cs : List Value} (ho : w.ownsRow base 39 6 (.slice (some ⟨g, 0, none⟩) n cap) n (fl L)) (hb : Bk w gb 26 cs) : g ≠ gb := by
  intro e
  subst e
  rcases ho.2 with ⟨hv, _⟩ | ⟨g', cap', cur, hv, _, hh, _⟩
  · cases hv
  · have e1 : g = g' := by simp at hv; exact hv.1
    subst e1
    unfold Bk at hb
    rw [hh] at hb
    simp at hb

theorem below_grown {v v' : World} {g : Nat} (hb : Below v.heap.size v v') : v.grownBy v' (some g) := ⟨hb.os, hb.tape, hb.output, hb.size, fun k hk _ => hb.block k hk⟩

theorem one_sr (w : World) (r : Rec) : Sr (w.alloc (.cells #[.string r.name, .int .i64 r.ty, .int .i64 r.ttl, .int .i64 r.n, .string r.host, .string r.text] 39)) (w.alloc (.cells #[.string r.name, .int .i64 r.ty, .int .i64 r.ttl, .int .i64 r.n, .string r.host, .string r.text] 39)).heap.size (some ⟨w.heap.size, 0, none⟩) 1 [r] := by
  have hb : Bk (w.alloc (.cells #[.string r.name, .int .i64 r.ty, .int .i64 r.ttl, .int .i64 r.n, .string r.host, .string r.text] 39)) w.heap.size 39 (fl [r]) := heap_alloc_new w _
  exact bk_sr0 hb rfl

/-- The end: the zone's box is copied into the result's. -/
theorem done {w v : World} {g b o n : Nat} {s' : ByteArray} {M : List Rec} (hc : Cur v g) (hg : w.grownBy v (some g)) (hgw : g < w.heap.size) (hk : Bk v w.heap.size 26 (zc ⟨#[]⟩ (.slice none 0 0))) (hr : Sr v v.heap.size (some ⟨b, o, none⟩) n M) (hb : w.heap.size < b) (y : Value) :
    Bk (filZ v w.heap.size s' y) w.heap.size 26 (zc s' y) ∧ Cur (filZ v w.heap.size s' y) g ∧ w.grownBy (filZ v w.heap.size s' y) (some g) ∧ Sr (filZ v w.heap.size s' y) (filZ v w.heap.size s' y).heap.size (some ⟨b, o, none⟩) n M := by
  refine ⟨filZ_bk hk s' y, cur_filZ hc hgw s' y, grown_filZ hg (Nat.le_refl _) s' y, ?_⟩
  have hne : b ≠ w.heap.size := by omega
  obtain ⟨h1, h2⟩ := hr
  refine ⟨h1, fun hn => ?_⟩
  obtain ⟨b', o', hA, hlt, hcs⟩ := h2 hn
  refine ⟨b', o', hA, by show b' < _; simpa [filZ, World.setCell] using hlt, fun j hj => (hcs j hj).move fun p hp => ?_⟩
  have hb' : b' = b := by simp at hA; exact hA.1.symm
  unfold filZ
  rw [World.cell?_of_block (Below.heap_setCell _ _ _ _ (by rw [hp, hb']; exact hne)), World.cell?_of_block (Below.heap_setCell _ _ _ _ (by rw [hp, hb']; exact hne))]

set_option maxHeartbeats 16000000 in
set_option maxRecDepth 100000 in
theorem any_any (g : Nat) (w : World) (hc : Cur w g) : Calls Tryd.prog 48 #[.pointer (some ⟨g, 0, none⟩)] w (Za w g) := by
  have mixed : Tryd.prog.follows .mixedOrders = true := by kernel_rfl
  have GW := Lib.hid hc.lt
  have C0 := Lib.hid (hc.alloc (.cells #[.string ⟨#[]⟩, .slice none 0 0] 26))
  have K0 : Hid (Bk (w.alloc (.cells #[.string ⟨#[]⟩, .slice none 0 0] 26)) w.heap.size 26 (zc ⟨#[]⟩ (.slice none 0 0))) := heap_alloc_new w _
  have G0 := Lib.hid (World.grownBy_alloc w (.cells #[.string ⟨#[]⟩, .slice none 0 0] 26) (some g))
  have N0 : Hid (w.heap.size < (w.alloc (.cells #[.string ⟨#[]⟩, .slice none 0 0] 26)).heap.size) := by show _ < _; simp
  clear hc
  go_enter Tryd.func48, Tryd.ntmps48
  go_upto_region 1 with (fail)
  generalize w.alloc (.cells #[.string ⟨#[]⟩, .slice none 0 0] 26) = w0 at *
  go_wp2_with fail
  refine (zone_any g w0 C0.out).mono ?_
  rintro e w1 ⟨t, h, a, b, c', gl, m, cap, hth, rfl, hlm, hown, hc1, hg1⟩
  have HM := Lib.hid hlm
  have hm3 : 3 ≤ m ∧ m ≤ 8 := by
    have := zs_len t h a b c'
    have h3 : 3 ≤ (zs t h a b c').length := by simp [zs]; omega
    omega
  have HS := Lib.hid (sml_of hth a b c')
  have D2 : Hid (Da w g w1.heap.size ⟨#[99, 111, 109]⟩ (.slice (some ⟨gl, 0, none⟩) m cap) w0.heap.size gl m cap (zs t h a b c') (w1.alloc (.cells #[.string ⟨#[99, 111, 109]⟩, .slice (some ⟨gl, 0, none⟩) m cap] 26))) :=
    ⟨⟨GW.out, N0.out, hg1.size, (hown.lt gl rfl).2⟩, hc1.alloc _, grown_trans (grown_trans G0.out hg1) (World.grownBy_alloc _ _ _), (K0.out.grown hg1 (fun e => by have h1 := GW.out; have h2 : w.heap.size = g := Option.some.inj e; omega)).alloc _, heap_alloc_new w1 _, hown.alloc _⟩
  have hgb : w1.heap.size = w1.heap.size := rfl
  clear hth hlm hown hc1 hg1 C0 K0 G0 hgb
  generalize zs t h a b c' = L at *
  go_upto_region 2 with (fail)
  generalize w1.alloc (.cells #[.string ⟨#[99, 111, 109]⟩, .slice (some ⟨gl, 0, none⟩) m cap] 26) = w2 at *
  generalize w1.heap.size = gb at *
  generalize w0.heap.size = base at *
  go_wp2_with fail
  refine (l1Below_any g 12 w2 D2.out.2.1 (by omega) (by omega)).mono ?_
  rintro e w3 ⟨x, rfl, hx0, hx1, hc3, hg3⟩
  have D3 := Lib.hid (D2.out.step hc3 hg3)
  have hbl : w.heap.size < gl := by have h1 := D3.out.1.2.1; have h2 := (D3.out.2.2.2.2.2.lt gl rfl).1; omega
  clear hc3 hg3 D2
  by_cases c0 : x = 0
  · subst c0
    clear hx0 hx1
    go_wp2_with fail
    refine (l1Str_any g w3.heap.size 4 apexes _ (D3.out.2.1.alloc _) (bk_texts w3 apexes _ rfl) (Nat.ne_of_gt D3.out.2.1.lt) rfl (by omega) (by omega)).mono ?_
    rintro e w4 ⟨s, rfl, hs, hc4, hg4⟩
    have D4 := Lib.hid (D3.out.step hc4 (grown_trans (World.grownBy_alloc w3 _ (some g)) hg4))
    have S20 : s.size ≤ 20 := apexes_short s hs
    have b0 : w4.cell? ⟨gb, 0, none⟩ = some (.string ⟨#[99, 111, 109]⟩) := D4.out.2.2.2.2.1.cell 0
    have f0 := D4.out.2.2.2.2.1.free 0
    have nz : w.heap.size ≠ gb := by have h1 := D4.out.1.2.1; have h2 := D4.out.1.2.2.1; omega
    have KB : Hid (Bk (w4.setCell ⟨gb, 0, none⟩ (.string s)) gb 26 (zc s (.slice (some ⟨gl, 0, none⟩) m cap))) := D4.out.2.2.2.2.1.set 0 _
    have K5 := Lib.hid (D4.out.2.2.2.1.other (p := ⟨gb, 0, none⟩) nz (.string s))
    have C5 := Lib.hid (cur_new D4.out.2.1 (show g < gb by have h1 := D4.out.1.1; have h2 := D4.out.1.2.1; have h3 := D4.out.1.2.2.1; omega) 0 (.string s))
    have G5 := Lib.hid (grown_new D4.out.2.2.1 (show w.heap.size ≤ gb by have h2 := D4.out.1.2.1; have h3 := D4.out.1.2.2.1; omega) 0 (.string s))
    have O5 := Lib.hid (own_set D4.out.2.2.2.2.2 (Nat.ne_of_lt D4.out.1.2.2.2) 0 (.string s))
    clear hs hc4 hg4 D3
    go_upto_region 17 with (fail)
    clear b0 f0 D4
    generalize w4.setCell ⟨gb, 0, none⟩ (.string s) = w5 at *
    have SR := Lib.hid (own_sr O5.out)
    have FN := Lib.hid (done (s' := s) C5.out G5.out GW.out K5.out SR.out hbl (.slice (some ⟨gl, 0, none⟩) m cap))
    have r0 : w5.cell? ⟨w.heap.size, 0, none⟩ = some (.string ⟨#[]⟩) := K5.out.cell 0
    have r1 : w5.cell? ⟨w.heap.size, 1, none⟩ = some (.slice none 0 0) := K5.out.cell 1
    have q0 := K5.out.free 0
    have q1 := K5.out.free 1
    have z0 : w5.cell? ⟨gb, 0, none⟩ = some (.string s) := KB.out.cell 0
    have z1 : w5.cell? ⟨gb, 1, none⟩ = some (.slice (some ⟨gl, 0, none⟩) m cap) := KB.out.cell 1
    go_wp2
    exact bodyPost_ret (v := .agg #[.string s, .slice (some ⟨gl, 0, none⟩) m cap]) (resZ1 rfl FN.out.1 rfl) rfl ⟨s, gl, 0, m, cap, L, rfl, S20, (by omega), HM.out, HS.out, Nat.le_of_lt hbl, FN.out.2.2.2, FN.out.2.1, FN.out.2.2.1⟩
  by_cases c1 : x = 1
  · subst c1
    clear c0 hx0 hx1
    have DD := Lib.hid (D3.out.step (v' := w3.drew) (D3.out.2.1.grown (grown_drewN (grown_refl w3 none) 1) (fun _ e => by cases e)) (grown_drewN (grown_refl w3 (some g)) 1))
    have b1 : w3.drew.cell? ⟨gb, 1, none⟩ = some (.slice (some ⟨gl, 0, none⟩) m cap) := DD.out.2.2.2.2.1.cell 1
    have NZ : Hid (w.heap.size < gb) := by show _ < _; have h1 := D3.out.1.2.1; have h2 := D3.out.1.2.2.1; omega
    have NB := Lib.hid D3.out.1.2.1
    clear D3
    go_wp2
    go_region_law (first
      | (go_simp; go_at_call 73; refine (l5Draw_any g w3.drew DD.out.2.1).mono ?_; rintro e w4 ⟨r, rfl, hr, hc4, hg4⟩; have D4 := Lib.hid (DD.out.step hc4 hg4); have y1 : w4.cell? ⟨gb, 1, none⟩ = some (.slice (some ⟨gl, 0, none⟩) m cap) := D4.out.2.2.2.2.1.cell 1; have D5 := Lib.hid (D4.out.step (D4.out.2.1.alloc (.cells #[.string r.name, .int .i64 r.ty, .int .i64 r.ttl, .int .i64 r.n, .string r.host, .string r.text] 39)) (World.grownBy_alloc w4 (.cells #[.string r.name, .int .i64 r.ty, .int .i64 r.ttl, .int .i64 r.n, .string r.host, .string r.text] 39) (some g))); have y2 : (w4.alloc (.cells #[.string r.name, .int .i64 r.ty, .int .i64 r.ttl, .int .i64 r.n, .string r.host, .string r.text] 39)).cell? ⟨gb, 1, none⟩ = some (.slice (some ⟨gl, 0, none⟩) m cap) := D5.out.2.2.2.2.1.cell 1; have HB : Hid (base ≤ (w4.alloc (.cells #[.string r.name, .int .i64 r.ty, .int .i64 r.ttl, .int .i64 r.n, .string r.host, .string r.text] 39)).heap.size) := (by show _ ≤ _; have h1 := (D5.out.2.2.2.2.2.lt gl rfl); omega); clear hc4 hg4)
      | (refine GlueS.step_append_recs rfl (.tmp 17) (.tmp 20) rfl base gl m cap L rfl D5.out.2.2.2.2.2 w4.heap.size 0 1 1 (w4.alloc (.cells #[.string r.name, .int .i64 r.ty, .int .i64 r.ttl, .int .i64 r.n, .string r.host, .string r.text] 39)).heap.size [r] rfl (one_sr w4 r) (by omega) HB.out ?_; intro g6 cap6 w6 hown hgrow; have D6 := Lib.hid (D5.out.row hgrow); have k1 : w6.cell? ⟨gb, 1, none⟩ = some (.slice (some ⟨gl, 0, none⟩) m cap) := D6.out.2.2.2.cell 1; have kf := D6.out.2.2.2.free 1))
    all_goals
      have SM : Hid (∀ x ∈ L ++ [r], Sml x) := fun x hx => by
        rcases List.mem_append.1 hx with hx | hx
        · exact HS.out x hx
        · rw [List.mem_singleton.1 hx]; exact hr
      have LN : Hid ((L ++ [r]).length = m + 1) := show _ = _ by rw [List.length_append, HM.out]; rfl
      have ng : g6 ≠ gb := apart hown D6.out.2.2.2
      have hbs : w.heap.size < g6 := Nat.lt_of_lt_of_le NB.out (hown.lt g6 rfl).1
      have nz : w.heap.size ≠ gb := Nat.ne_of_lt NZ.out
      have KB : Hid (Bk (w6.setCell ⟨gb, 1, none⟩ (.slice (some ⟨g6, 0, none⟩) (m + 1) cap6)) gb 26 (zc ⟨#[99, 111, 109]⟩ (.slice (some ⟨g6, 0, none⟩) (m + 1) cap6))) := D6.out.2.2.2.set 1 _
      have K6 := Lib.hid (D6.out.2.2.1.other (p := ⟨gb, 1, none⟩) nz (.slice (some ⟨g6, 0, none⟩) (m + 1) cap6))
      have C6 := Lib.hid (cur_new D6.out.1 (Nat.lt_trans GW.out NZ.out) 1 (.slice (some ⟨g6, 0, none⟩) (m + 1) cap6))
      have G6 := Lib.hid (grown_new D6.out.2.1 (Nat.le_of_lt NZ.out) 1 (.slice (some ⟨g6, 0, none⟩) (m + 1) cap6))
      have O6 := Lib.hid (own_set hown ng 1 (.slice (some ⟨g6, 0, none⟩) (m + 1) cap6))
      go_upto_region 17 with (fail)
      clear hown hgrow D4 D5 D6 y1 y2 HB k1 kf b1 DD hr
      generalize w6.setCell ⟨gb, 1, none⟩ (.slice (some ⟨g6, 0, none⟩) (m + 1) cap6) = w7 at *
      have SR := Lib.hid (own_sr O6.out)
      have FN := Lib.hid (done (s' := ⟨#[99, 111, 109]⟩) C6.out G6.out GW.out K6.out SR.out hbs (.slice (some ⟨g6, 0, none⟩) (m + 1) cap6))
      have r0 : w7.cell? ⟨w.heap.size, 0, none⟩ = some (.string ⟨#[]⟩) := K6.out.cell 0
      have r1 : w7.cell? ⟨w.heap.size, 1, none⟩ = some (.slice none 0 0) := K6.out.cell 1
      have q0 := K6.out.free 0
      have q1 := K6.out.free 1
      have z0 : w7.cell? ⟨gb, 0, none⟩ = some (.string ⟨#[99, 111, 109]⟩) := KB.out.cell 0
      have z1 : w7.cell? ⟨gb, 1, none⟩ = some (.slice (some ⟨g6, 0, none⟩) (m + 1) cap6) := KB.out.cell 1
      go_wp2
      exact bodyPost_ret (v := .agg #[.string ⟨#[99, 111, 109]⟩, .slice (some ⟨g6, 0, none⟩) (m + 1) cap6]) (resZ1 rfl FN.out.1 rfl) rfl ⟨⟨#[99, 111, 109]⟩, g6, 0, (m + 1), cap6, (L ++ [r]), rfl, (by decide), (by omega), LN.out, SM.out, Nat.le_of_lt hbs, FN.out.2.2.2, FN.out.2.1, FN.out.2.2.1⟩
  by_cases c2 : x = 2
  · subst c2
    clear c0 c1 hx0 hx1
    have b1 : w3.cell? ⟨gb, 1, none⟩ = some (.slice (some ⟨gl, 0, none⟩) m cap) := D3.out.2.2.2.2.1.cell 1
    have f1 := D3.out.2.2.2.2.1.free 1
    have nz : w.heap.size ≠ gb := by have h1 := D3.out.1.2.1; have h2 := D3.out.1.2.2.1; omega
    have cm : m ≤ cap := (bk_of_owns6 D3.out.2.2.2.2.2).choose_spec.2.2.1
    obtain ⟨q, rfl⟩ : ∃ q, m = q + 1 := ⟨m - 1, by omega⟩
    have KB : Hid (Bk (w3.setCell ⟨gb, 1, none⟩ (.slice (some ⟨gl, 6, none⟩) q (cap - 1))) gb 26 (zc ⟨#[99, 111, 109]⟩ (.slice (some ⟨gl, 6, none⟩) q (cap - 1)))) := D3.out.2.2.2.2.1.set 1 _
    have K5 := Lib.hid (D3.out.2.2.2.1.other (p := ⟨gb, 1, none⟩) nz (.slice (some ⟨gl, 6, none⟩) q (cap - 1)))
    have C5 := Lib.hid (cur_new D3.out.2.1 (show g < gb by have h1 := D3.out.1.1; have h2 := D3.out.1.2.1; have h3 := D3.out.1.2.2.1; omega) 1 (.slice (some ⟨gl, 6, none⟩) q (cap - 1)))
    have G5 := Lib.hid (grown_new D3.out.2.2.1 (show w.heap.size ≤ gb by have h2 := D3.out.1.2.1; have h3 := D3.out.1.2.2.1; omega) 1 (.slice (some ⟨gl, 6, none⟩) q (cap - 1)))
    have O5 := Lib.hid (own_set D3.out.2.2.2.2.2 (Nat.ne_of_lt D3.out.1.2.2.2) 1 (.slice (some ⟨gl, 6, none⟩) q (cap - 1)))
    have c1' : ¬ cap = 1 := by omega
    have i1 : (1 : Int) ≤ ((q + 1 : Nat) : Int) := by omega
    have SR0 := Lib.hid (own_sr O5.out)
    go_upto_region 17 with (fail)
    clear b1 f1 D3 c1' i1 cm
    generalize w3.setCell ⟨gb, 1, none⟩ (.slice (some ⟨gl, 6, none⟩) q (cap - 1)) = w5 at *
    have SR := Lib.hid (sr_tail SR0.out)
    have HL := Lib.hid (show L.tail.length = q by rw [List.length_tail, HM.out]; omega)
    have HT : Hid (∀ r ∈ L.tail, Sml r) := fun r hr => HS.out r (List.mem_of_mem_tail hr)
    have FN := Lib.hid (done (s' := ⟨#[99, 111, 109]⟩) C5.out G5.out GW.out K5.out SR.out hbl (.slice (some ⟨gl, 6, none⟩) q (cap - 1)))
    have r0 : w5.cell? ⟨w.heap.size, 0, none⟩ = some (.string ⟨#[]⟩) := K5.out.cell 0
    have r1 : w5.cell? ⟨w.heap.size, 1, none⟩ = some (.slice none 0 0) := K5.out.cell 1
    have q0 := K5.out.free 0
    have q1 := K5.out.free 1
    have z0 : w5.cell? ⟨gb, 0, none⟩ = some (.string ⟨#[99, 111, 109]⟩) := KB.out.cell 0
    have z1 : w5.cell? ⟨gb, 1, none⟩ = some (.slice (some ⟨gl, 6, none⟩) q (cap - 1)) := KB.out.cell 1
    go_wp2
    exact bodyPost_ret (v := .agg #[.string ⟨#[99, 111, 109]⟩, .slice (some ⟨gl, 6, none⟩) q (cap - 1)]) (resZ1 rfl FN.out.1 rfl) rfl ⟨⟨#[99, 111, 109]⟩, gl, 6, q, (cap - 1), L.tail, rfl, (by decide), (by omega), HL.out, HT.out, Nat.le_of_lt hbl, FN.out.2.2.2, FN.out.2.1, FN.out.2.2.1⟩
  by_cases c3 : x = 3
  · subst c3
    clear c0 c1 c2 hx0 hx1
    have b1 : w3.cell? ⟨gb, 1, none⟩ = some (.slice (some ⟨gl, 0, none⟩) m cap) := D3.out.2.2.2.2.1.cell 1
    have DA := Lib.hid (D3.out.step (D3.out.2.1.alloc (.cells #[.string ⟨#[120, 46, 101, 120, 46, 99, 111, 109]⟩, .int .i64 16, .int .i64 0, .int .i64 0, .string ⟨#[]⟩, .string ⟨#[110, 111]⟩] 39)) (World.grownBy_alloc w3 (.cells #[.string ⟨#[120, 46, 101, 120, 46, 99, 111, 109]⟩, .int .i64 16, .int .i64 0, .int .i64 0, .string ⟨#[]⟩, .string ⟨#[110, 111]⟩] 39) (some g)))
    have SX : Hid (Sr (w3.alloc (.cells #[.string ⟨#[120, 46, 101, 120, 46, 99, 111, 109]⟩, .int .i64 16, .int .i64 0, .int .i64 0, .string ⟨#[]⟩, .string ⟨#[110, 111]⟩] 39)) (w3.alloc (.cells #[.string ⟨#[120, 46, 101, 120, 46, 99, 111, 109]⟩, .int .i64 16, .int .i64 0, .int .i64 0, .string ⟨#[]⟩, .string ⟨#[110, 111]⟩] 39)).heap.size (some ⟨w3.heap.size, 0, none⟩) 1 [(Rec.mk ⟨#[120, 46, 101, 120, 46, 99, 111, 109]⟩ 16 0 0 ⟨#[]⟩ ⟨#[110, 111]⟩)]) := one_sr w3 (Rec.mk ⟨#[120, 46, 101, 120, 46, 99, 111, 109]⟩ 16 0 0 ⟨#[]⟩ ⟨#[110, 111]⟩)
    have HB : Hid (base ≤ (w3.alloc (.cells #[.string ⟨#[120, 46, 101, 120, 46, 99, 111, 109]⟩, .int .i64 16, .int .i64 0, .int .i64 0, .string ⟨#[]⟩, .string ⟨#[110, 111]⟩] 39)).heap.size) := by show _ ≤ _; have h1 := (DA.out.2.2.2.2.2.lt gl rfl); omega
    have GB : Hid (gb < (w3.alloc (.cells #[.string ⟨#[120, 46, 101, 120, 46, 99, 111, 109]⟩, .int .i64 16, .int .i64 0, .int .i64 0, .string ⟨#[]⟩, .string ⟨#[110, 111]⟩] 39)).heap.size) := DA.out.2.2.2.2.1.lt
    have NZ : Hid (w.heap.size < gb) := by show _ < _; have h1 := D3.out.1.2.1; have h2 := D3.out.1.2.2.1; omega
    clear D3
    go_wp2_with (at_builtin; refine AppR.append_recs (w := w3.alloc (.cells #[.string ⟨#[120, 46, 101, 120, 46, 99, 111, 109]⟩, .int .i64 16, .int .i64 0, .int .i64 0, .string ⟨#[]⟩, .string ⟨#[110, 111]⟩] 39)) rfl (.tmp 32) (.tmp 34) rfl base gl m cap L rfl DA.out.2.2.2.2.2 w3.heap.size 0 1 1 _ [(Rec.mk ⟨#[120, 46, 101, 120, 46, 99, 111, 109]⟩ 16 0 0 ⟨#[]⟩ ⟨#[110, 111]⟩)] rfl SX.out (by omega) (by omega) HB.out ?_)
    intro g4 cap4 w4 hown hgrow
    have D4 := Lib.hid (DA.out.row hgrow)
    have O4 := Lib.hid hown
    have GB4 : Hid (gb < w4.heap.size) := Nat.lt_of_lt_of_le GB.out hgrow.size
    have SM : Hid (∀ r ∈ L ++ [(Rec.mk ⟨#[120, 46, 101, 120, 46, 99, 111, 109]⟩ 16 0 0 ⟨#[]⟩ ⟨#[110, 111]⟩)], Sml r) := fun r hr => by
      rcases List.mem_append.1 hr with hr | hr
      · exact HS.out r hr
      · rw [List.mem_singleton.1 hr]; exact ⟨by decide, by decide, by decide⟩
    have LN : Hid ((L ++ [(Rec.mk ⟨#[120, 46, 101, 120, 46, 99, 111, 109]⟩ 16 0 0 ⟨#[]⟩ ⟨#[110, 111]⟩)]).length = m + 1) := show _ = _ by rw [List.length_append, HM.out]; rfl
    have SU := Lib.hid (own_sr O4.out)
    clear hown hgrow DA SX HB GB b1
    go_wp2_with fail
    refine (UniqZ.spec g4 0 (m + 1) cap4 (L ++ [(Rec.mk ⟨#[120, 46, 101, 120, 46, 99, 111, 109]⟩ 16 0 0 ⟨#[]⟩ ⟨#[110, 111]⟩)]) w4 SU.out (by omega) (sml_fine SM.out)).mono ?_
    rintro e w5 ⟨S, gs, ms, cs, hsrt, rfl, hlu, hou, hl⟩
    have HT := Lib.hid (sml_uqz SM.out hsrt)
    have HL := Lib.hid hlu
    have N9 : ms ≤ 9 := by have h1 := uqz_short hsrt; rw [LN.out] at h1; omega
    have C5 := Lib.hid (cur_below D4.out.1 hl)
    have G5 := Lib.hid (grown_below D4.out.2.1 hl)
    have K5 := Lib.hid (D4.out.2.2.1.below hl D4.out.2.2.1.lt)
    have B5 := Lib.hid (D4.out.2.2.2.below hl GB4.out)
    have O5 := Lib.hid hou
    have NG : Hid (gb < gs) := show _ < _ from Nat.lt_of_lt_of_le GB4.out (hou.lt gs rfl).1
    clear hsrt hlu hou hl D4 O4 SU SM LN GB4
    have b1 : w5.cell? ⟨gb, 1, none⟩ = some (.slice (some ⟨gl, 0, none⟩) m cap) := B5.out.cell 1
    have f1 := B5.out.free 1
    have nz : w.heap.size ≠ gb := Nat.ne_of_lt NZ.out
    have ng : gs ≠ gb := Nat.ne_of_gt NG.out
    have hbs : w.heap.size < gs := Nat.lt_trans NZ.out NG.out
    have KB : Hid (Bk (w5.setCell ⟨gb, 1, none⟩ (.slice (some ⟨gs, 0, none⟩) ms cs)) gb 26 (zc ⟨#[99, 111, 109]⟩ (.slice (some ⟨gs, 0, none⟩) ms cs))) := B5.out.set 1 _
    have K6 := Lib.hid (K5.out.other (p := ⟨gb, 1, none⟩) nz (.slice (some ⟨gs, 0, none⟩) ms cs))
    have C6 := Lib.hid (cur_new C5.out (Nat.lt_trans GW.out NZ.out) 1 (.slice (some ⟨gs, 0, none⟩) ms cs))
    have G6 := Lib.hid (grown_new G5.out (Nat.le_of_lt NZ.out) 1 (.slice (some ⟨gs, 0, none⟩) ms cs))
    have O6 := Lib.hid (own_set O5.out ng 1 (.slice (some ⟨gs, 0, none⟩) ms cs))
    go_upto_region 17 with (fail)
    clear b1 f1 B5 K5 C5 G5 O5
    generalize w5.setCell ⟨gb, 1, none⟩ (.slice (some ⟨gs, 0, none⟩) ms cs) = w6 at *
    have SR := Lib.hid (own_sr O6.out)
    have FN := Lib.hid (done (s' := ⟨#[99, 111, 109]⟩) C6.out G6.out GW.out K6.out SR.out hbs (.slice (some ⟨gs, 0, none⟩) ms cs))
    have r0 : w6.cell? ⟨w.heap.size, 0, none⟩ = some (.string ⟨#[]⟩) := K6.out.cell 0
    have r1 : w6.cell? ⟨w.heap.size, 1, none⟩ = some (.slice none 0 0) := K6.out.cell 1
    have q0 := K6.out.free 0
    have q1 := K6.out.free 1
    have z0 : w6.cell? ⟨gb, 0, none⟩ = some (.string ⟨#[99, 111, 109]⟩) := KB.out.cell 0
    have z1 : w6.cell? ⟨gb, 1, none⟩ = some (.slice (some ⟨gs, 0, none⟩) ms cs) := KB.out.cell 1
    go_wp2
    exact bodyPost_ret (v := .agg #[.string ⟨#[99, 111, 109]⟩, .slice (some ⟨gs, 0, none⟩) ms cs]) (resZ1 rfl FN.out.1 rfl) rfl ⟨⟨#[99, 111, 109]⟩, gs, 0, ms, cs, (uqz S), rfl, (by decide), N9, HL.out, HT.out, Nat.le_of_lt hbs, FN.out.2.2.2, FN.out.2.1, FN.out.2.2.1⟩
  by_cases c4 : x = 4
  · subst c4
    clear c0 c1 c2 c3 hx0 hx1
    have b1 : w3.cell? ⟨gb, 1, none⟩ = some (.slice (some ⟨gl, 0, none⟩) m cap) := D3.out.2.2.2.2.1.cell 1
    have DA := Lib.hid (D3.out.step (D3.out.2.1.alloc (.cells #[.string ⟨#[116, 46, 99, 111, 109]⟩, .int .i64 5, .int .i64 0, .int .i64 0, .string ⟨#[99, 111, 109]⟩, .string ⟨#[]⟩] 39)) (World.grownBy_alloc w3 (.cells #[.string ⟨#[116, 46, 99, 111, 109]⟩, .int .i64 5, .int .i64 0, .int .i64 0, .string ⟨#[99, 111, 109]⟩, .string ⟨#[]⟩] 39) (some g)))
    have SX : Hid (Sr (w3.alloc (.cells #[.string ⟨#[116, 46, 99, 111, 109]⟩, .int .i64 5, .int .i64 0, .int .i64 0, .string ⟨#[99, 111, 109]⟩, .string ⟨#[]⟩] 39)) (w3.alloc (.cells #[.string ⟨#[116, 46, 99, 111, 109]⟩, .int .i64 5, .int .i64 0, .int .i64 0, .string ⟨#[99, 111, 109]⟩, .string ⟨#[]⟩] 39)).heap.size (some ⟨w3.heap.size, 0, none⟩) 1 [(Rec.mk ⟨#[116, 46, 99, 111, 109]⟩ 5 0 0 ⟨#[99, 111, 109]⟩ ⟨#[]⟩)]) := one_sr w3 (Rec.mk ⟨#[116, 46, 99, 111, 109]⟩ 5 0 0 ⟨#[99, 111, 109]⟩ ⟨#[]⟩)
    have HB : Hid (base ≤ (w3.alloc (.cells #[.string ⟨#[116, 46, 99, 111, 109]⟩, .int .i64 5, .int .i64 0, .int .i64 0, .string ⟨#[99, 111, 109]⟩, .string ⟨#[]⟩] 39)).heap.size) := by show _ ≤ _; have h1 := (DA.out.2.2.2.2.2.lt gl rfl); omega
    have GB : Hid (gb < (w3.alloc (.cells #[.string ⟨#[116, 46, 99, 111, 109]⟩, .int .i64 5, .int .i64 0, .int .i64 0, .string ⟨#[99, 111, 109]⟩, .string ⟨#[]⟩] 39)).heap.size) := DA.out.2.2.2.2.1.lt
    have NZ : Hid (w.heap.size < gb) := by show _ < _; have h1 := D3.out.1.2.1; have h2 := D3.out.1.2.2.1; omega
    clear D3
    go_wp2_with (at_builtin; refine AppR.append_recs (w := w3.alloc (.cells #[.string ⟨#[116, 46, 99, 111, 109]⟩, .int .i64 5, .int .i64 0, .int .i64 0, .string ⟨#[99, 111, 109]⟩, .string ⟨#[]⟩] 39)) rfl (.tmp 41) (.tmp 43) rfl base gl m cap L rfl DA.out.2.2.2.2.2 w3.heap.size 0 1 1 _ [(Rec.mk ⟨#[116, 46, 99, 111, 109]⟩ 5 0 0 ⟨#[99, 111, 109]⟩ ⟨#[]⟩)] rfl SX.out (by omega) (by omega) HB.out ?_)
    intro g4 cap4 w4 hown hgrow
    have D4 := Lib.hid (DA.out.row hgrow)
    have O4 := Lib.hid hown
    have GB4 : Hid (gb < w4.heap.size) := Nat.lt_of_lt_of_le GB.out hgrow.size
    have SM : Hid (∀ r ∈ L ++ [(Rec.mk ⟨#[116, 46, 99, 111, 109]⟩ 5 0 0 ⟨#[99, 111, 109]⟩ ⟨#[]⟩)], Sml r) := fun r hr => by
      rcases List.mem_append.1 hr with hr | hr
      · exact HS.out r hr
      · rw [List.mem_singleton.1 hr]; exact ⟨by decide, by decide, by decide⟩
    have LN : Hid ((L ++ [(Rec.mk ⟨#[116, 46, 99, 111, 109]⟩ 5 0 0 ⟨#[99, 111, 109]⟩ ⟨#[]⟩)]).length = m + 1) := show _ = _ by rw [List.length_append, HM.out]; rfl
    have SU := Lib.hid (own_sr O4.out)
    clear hown hgrow DA SX HB GB b1
    go_wp2_with fail
    refine (UniqZ.spec g4 0 (m + 1) cap4 (L ++ [(Rec.mk ⟨#[116, 46, 99, 111, 109]⟩ 5 0 0 ⟨#[99, 111, 109]⟩ ⟨#[]⟩)]) w4 SU.out (by omega) (sml_fine SM.out)).mono ?_
    rintro e w5 ⟨S, gs, ms, cs, hsrt, rfl, hlu, hou, hl⟩
    have HT := Lib.hid (sml_uqz SM.out hsrt)
    have HL := Lib.hid hlu
    have N9 : ms ≤ 9 := by have h1 := uqz_short hsrt; rw [LN.out] at h1; omega
    have C5 := Lib.hid (cur_below D4.out.1 hl)
    have G5 := Lib.hid (grown_below D4.out.2.1 hl)
    have K5 := Lib.hid (D4.out.2.2.1.below hl D4.out.2.2.1.lt)
    have B5 := Lib.hid (D4.out.2.2.2.below hl GB4.out)
    have O5 := Lib.hid hou
    have NG : Hid (gb < gs) := show _ < _ from Nat.lt_of_lt_of_le GB4.out (hou.lt gs rfl).1
    clear hsrt hlu hou hl D4 O4 SU SM LN GB4
    have b1 : w5.cell? ⟨gb, 1, none⟩ = some (.slice (some ⟨gl, 0, none⟩) m cap) := B5.out.cell 1
    have f1 := B5.out.free 1
    have nz : w.heap.size ≠ gb := Nat.ne_of_lt NZ.out
    have ng : gs ≠ gb := Nat.ne_of_gt NG.out
    have hbs : w.heap.size < gs := Nat.lt_trans NZ.out NG.out
    have KB : Hid (Bk (w5.setCell ⟨gb, 1, none⟩ (.slice (some ⟨gs, 0, none⟩) ms cs)) gb 26 (zc ⟨#[99, 111, 109]⟩ (.slice (some ⟨gs, 0, none⟩) ms cs))) := B5.out.set 1 _
    have K6 := Lib.hid (K5.out.other (p := ⟨gb, 1, none⟩) nz (.slice (some ⟨gs, 0, none⟩) ms cs))
    have C6 := Lib.hid (cur_new C5.out (Nat.lt_trans GW.out NZ.out) 1 (.slice (some ⟨gs, 0, none⟩) ms cs))
    have G6 := Lib.hid (grown_new G5.out (Nat.le_of_lt NZ.out) 1 (.slice (some ⟨gs, 0, none⟩) ms cs))
    have O6 := Lib.hid (own_set O5.out ng 1 (.slice (some ⟨gs, 0, none⟩) ms cs))
    go_upto_region 17 with (fail)
    clear b1 f1 B5 K5 C5 G5 O5
    generalize w5.setCell ⟨gb, 1, none⟩ (.slice (some ⟨gs, 0, none⟩) ms cs) = w6 at *
    have SR := Lib.hid (own_sr O6.out)
    have FN := Lib.hid (done (s' := ⟨#[99, 111, 109]⟩) C6.out G6.out GW.out K6.out SR.out hbs (.slice (some ⟨gs, 0, none⟩) ms cs))
    have r0 : w6.cell? ⟨w.heap.size, 0, none⟩ = some (.string ⟨#[]⟩) := K6.out.cell 0
    have r1 : w6.cell? ⟨w.heap.size, 1, none⟩ = some (.slice none 0 0) := K6.out.cell 1
    have q0 := K6.out.free 0
    have q1 := K6.out.free 1
    have z0 : w6.cell? ⟨gb, 0, none⟩ = some (.string ⟨#[99, 111, 109]⟩) := KB.out.cell 0
    have z1 : w6.cell? ⟨gb, 1, none⟩ = some (.slice (some ⟨gs, 0, none⟩) ms cs) := KB.out.cell 1
    go_wp2
    exact bodyPost_ret (v := .agg #[.string ⟨#[99, 111, 109]⟩, .slice (some ⟨gs, 0, none⟩) ms cs]) (resZ1 rfl FN.out.1 rfl) rfl ⟨⟨#[99, 111, 109]⟩, gs, 0, ms, cs, (uqz S), rfl, (by decide), N9, HL.out, HT.out, Nat.le_of_lt hbs, FN.out.2.2.2, FN.out.2.1, FN.out.2.2.1⟩
  by_cases c5 : x = 5
  · subst c5
    clear c0 c1 c2 c3 c4 hx0 hx1
    have DD := Lib.hid (D3.out.step (v' := w3.drew) (D3.out.2.1.grown (grown_drewN (grown_refl w3 none) 1) (fun _ e => by cases e)) (grown_drewN (grown_refl w3 (some g)) 1))
    have b1 : w3.drew.cell? ⟨gb, 1, none⟩ = some (.slice (some ⟨gl, 0, none⟩) m cap) := DD.out.2.2.2.2.1.cell 1
    have NZ : Hid (w.heap.size < gb) := by show _ < _; have h1 := D3.out.1.2.1; have h2 := D3.out.1.2.2.1; omega
    have NB := Lib.hid D3.out.1.2.1
    clear D3
    go_wp2
    have SM : Hid (∀ x ∈ L ++ [(Rec.mk ⟨#[97, 46, 99, 111, 109]⟩ 6 5 2 ⟨#[]⟩ ⟨#[]⟩)], Sml x) := fun x hx => by
      rcases List.mem_append.1 hx with hx | hx
      · exact HS.out x hx
      · rw [List.mem_singleton.1 hx]; exact ⟨by decide, by decide, by decide⟩
    have LN : Hid ((L ++ [(Rec.mk ⟨#[97, 46, 99, 111, 109]⟩ 6 5 2 ⟨#[]⟩ ⟨#[]⟩)]).length = m + 1) := show _ = _ by rw [List.length_append, HM.out]; rfl
    go_region_law (first
      | (go_simp; go_at_call 60; refine (ZoneH.l10Start ⟨#[97, 46, 99, 111, 109]⟩ 5 2 (by simp) w3.drew).mono ?_; rintro e w4 ⟨rfl, hl4⟩; have D4 := Lib.hid (DD.out.step (cur_below DD.out.2.1 hl4) (below_grown hl4)); have y1 : w4.cell? ⟨gb, 1, none⟩ = some (.slice (some ⟨gl, 0, none⟩) m cap) := D4.out.2.2.2.2.1.cell 1; have D5 := Lib.hid (D4.out.step (D4.out.2.1.alloc (.cells #[.string ⟨#[97, 46, 99, 111, 109]⟩, .int .i64 6, .int .i64 5, .int .i64 2, .string ⟨#[]⟩, .string ⟨#[]⟩] 39)) (World.grownBy_alloc w4 (.cells #[.string ⟨#[97, 46, 99, 111, 109]⟩, .int .i64 6, .int .i64 5, .int .i64 2, .string ⟨#[]⟩, .string ⟨#[]⟩] 39) (some g))); have y2 : (w4.alloc (.cells #[.string ⟨#[97, 46, 99, 111, 109]⟩, .int .i64 6, .int .i64 5, .int .i64 2, .string ⟨#[]⟩, .string ⟨#[]⟩] 39)).cell? ⟨gb, 1, none⟩ = some (.slice (some ⟨gl, 0, none⟩) m cap) := D5.out.2.2.2.2.1.cell 1; have HB : Hid (base ≤ (w4.alloc (.cells #[.string ⟨#[97, 46, 99, 111, 109]⟩, .int .i64 6, .int .i64 5, .int .i64 2, .string ⟨#[]⟩, .string ⟨#[]⟩] 39)).heap.size) := (by show _ ≤ _; have h1 := (D5.out.2.2.2.2.2.lt gl rfl); omega); clear hl4)
      | (refine GlueS.step_append_recs rfl (.tmp 50) (.tmp 52) rfl base gl m cap L rfl D5.out.2.2.2.2.2 w4.heap.size 0 1 1 (w4.alloc (.cells #[.string ⟨#[97, 46, 99, 111, 109]⟩, .int .i64 6, .int .i64 5, .int .i64 2, .string ⟨#[]⟩, .string ⟨#[]⟩] 39)).heap.size [(Rec.mk ⟨#[97, 46, 99, 111, 109]⟩ 6 5 2 ⟨#[]⟩ ⟨#[]⟩)] rfl (one_sr w4 (Rec.mk ⟨#[97, 46, 99, 111, 109]⟩ 6 5 2 ⟨#[]⟩ ⟨#[]⟩)) (by omega) HB.out ?_; intro g6 cap6 w6 hown hgrow; have D6 := Lib.hid (D5.out.row hgrow); have k1 : w6.cell? ⟨gb, 1, none⟩ = some (.slice (some ⟨gl, 0, none⟩) m cap) := D6.out.2.2.2.cell 1)
      | (go_simp; go_at_call 63; refine (UniqZ.spec g6 0 (m + 1) cap6 (L ++ [(Rec.mk ⟨#[97, 46, 99, 111, 109]⟩ 6 5 2 ⟨#[]⟩ ⟨#[]⟩)]) w6 (own_sr hown) (by omega) (sml_fine SM.out)).mono ?_; rintro e w7 ⟨S, gs, ms, cs, hsrt, rfl, hlu, hou, hl7⟩; have B7 := Lib.hid (D6.out.2.2.2.below hl7 D6.out.2.2.2.lt); have x1 : w7.cell? ⟨gb, 1, none⟩ = some (.slice (some ⟨gl, 0, none⟩) m cap) := B7.out.cell 1; have xf := B7.out.free 1))
    all_goals
      have HT := Lib.hid (sml_uqz SM.out hsrt)
      have HL := Lib.hid hlu
      have N9 : ms ≤ 9 := by have h1 := uqz_short hsrt; rw [LN.out] at h1; omega
      have ng : gs ≠ gb := apart hou B7.out
      have hbs : w.heap.size < gs := by have h1 := NB.out; have h2 := (hou.lt gs rfl).1; have h3 := (hown.lt g6 rfl); omega
      have K7 := Lib.hid (D6.out.2.2.1.below hl7 D6.out.2.2.1.lt)
      have C7 := Lib.hid (cur_below D6.out.1 hl7)
      have G7 := Lib.hid (grown_below D6.out.2.1 hl7)
      have nz : w.heap.size ≠ gb := Nat.ne_of_lt NZ.out
      have KB : Hid (Bk (w7.setCell ⟨gb, 1, none⟩ (.slice (some ⟨gs, 0, none⟩) ms cs)) gb 26 (zc ⟨#[99, 111, 109]⟩ (.slice (some ⟨gs, 0, none⟩) ms cs))) := B7.out.set 1 _
      have K6 := Lib.hid (K7.out.other (p := ⟨gb, 1, none⟩) nz (.slice (some ⟨gs, 0, none⟩) ms cs))
      have C6 := Lib.hid (cur_new C7.out (Nat.lt_trans GW.out NZ.out) 1 (.slice (some ⟨gs, 0, none⟩) ms cs))
      have G6 := Lib.hid (grown_new G7.out (Nat.le_of_lt NZ.out) 1 (.slice (some ⟨gs, 0, none⟩) ms cs))
      have O6 := Lib.hid (own_set hou ng 1 (.slice (some ⟨gs, 0, none⟩) ms cs))
      go_upto_region 17 with (fail)
      clear hown hgrow D4 D5 D6 y1 y2 HB k1 b1 DD B7 x1 xf hou hlu hsrt hl7 K7 C7 G7
      generalize w7.setCell ⟨gb, 1, none⟩ (.slice (some ⟨gs, 0, none⟩) ms cs) = w8 at *
      have SR := Lib.hid (own_sr O6.out)
      have FN := Lib.hid (done (s' := ⟨#[99, 111, 109]⟩) C6.out G6.out GW.out K6.out SR.out hbs (.slice (some ⟨gs, 0, none⟩) ms cs))
      have r0 : w8.cell? ⟨w.heap.size, 0, none⟩ = some (.string ⟨#[]⟩) := K6.out.cell 0
      have r1 : w8.cell? ⟨w.heap.size, 1, none⟩ = some (.slice none 0 0) := K6.out.cell 1
      have q0 := K6.out.free 0
      have q1 := K6.out.free 1
      have z0 : w8.cell? ⟨gb, 0, none⟩ = some (.string ⟨#[99, 111, 109]⟩) := KB.out.cell 0
      have z1 : w8.cell? ⟨gb, 1, none⟩ = some (.slice (some ⟨gs, 0, none⟩) ms cs) := KB.out.cell 1
      go_wp2
      exact bodyPost_ret (v := .agg #[.string ⟨#[99, 111, 109]⟩, .slice (some ⟨gs, 0, none⟩) ms cs]) (resZ1 rfl FN.out.1 rfl) rfl ⟨⟨#[99, 111, 109]⟩, gs, 0, ms, cs, (uqz S), rfl, (by decide), N9, HL.out, HT.out, Nat.le_of_lt hbs, FN.out.2.2.2, FN.out.2.1, FN.out.2.2.1⟩
  by_cases c6 : x = 6
  · subst c6
    clear c0 c1 c2 c3 c4 c5 hx0 hx1
    have b1 : w3.cell? ⟨gb, 1, none⟩ = some (.slice (some ⟨gl, 0, none⟩) m cap) := D3.out.2.2.2.2.1.cell 1
    obtain ⟨rs, hbk, -, -, -⟩ := bk_of_owns6 D3.out.2.2.2.2.2
    have BK := Lib.hid hbk
    have hl0 : 0 < L.length := by rw [HM.out]; omega
    have t2 : w3.cell? ⟨gl, 2, none⟩ = some (.int .i64 L[0].ttl) := (bk_ce hbk 0 hl0).2.2.1
    have f2 := hbk.free 2
    have i1 : (0 : Int) < (m : Int) := by omega
    have NZ : Hid (w.heap.size < gb) := by show _ < _; have h1 := D3.out.1.2.1; have h2 := D3.out.1.2.2.1; omega
    have nl : gl ≠ gb := Nat.ne_of_lt D3.out.1.2.2.2
    have nw : gl ≠ w.heap.size := Nat.ne_of_gt hbl
    clear hbk
    go_wp2
    go_region
    generalize wrap64 (L[0].ttl + 1) = y at *
    have BR : Hid (Bk (w3.setCell ⟨gl, 2, none⟩ (.int .i64 y)) gl 39 (fl ((L.take 1).map (SetMath.wr y) ++ L.drop 1) ++ rs)) := by
      have h1 := BK.out.set 2 (.int .i64 y)
      have h2 := Wt.put_ttl y L rs 0 hl0
      simp only [List.take_zero, List.map_nil, List.nil_append, List.drop_zero, Nat.zero_mul, Nat.zero_add] at h2
      rw [h2] at h1
      exact h1
    have KB : Hid (Bk (w3.setCell ⟨gl, 2, none⟩ (.int .i64 y)) gb 26 (zc ⟨#[99, 111, 109]⟩ (.slice (some ⟨gl, 0, none⟩) m cap))) := D3.out.2.2.2.2.1.other (p := ⟨gl, 2, none⟩) (Ne.symm nl) _
    have K5 : Hid (Bk (w3.setCell ⟨gl, 2, none⟩ (.int .i64 y)) w.heap.size 26 (zc ⟨#[]⟩ (.slice none 0 0))) := D3.out.2.2.2.1.other (p := ⟨gl, 2, none⟩) (Ne.symm nw) _
    have C5 := Lib.hid (cur_new D3.out.2.1 (Nat.lt_trans GW.out hbl) 2 (.int .i64 y))
    have G5 := Lib.hid (grown_new D3.out.2.2.1 (Nat.le_of_lt hbl) 2 (.int .i64 y))
    have LN : Hid (((L.take 1).map (SetMath.wr y) ++ L.drop 1).length = m) := show _ = _ by
      rw [List.length_append, List.length_map, List.length_take, List.length_drop, HM.out]; omega
    have SM : Hid (∀ x ∈ (L.take 1).map (SetMath.wr y) ++ L.drop 1, Sml x) := fun x hx => by
      rcases List.mem_append.1 hx with hx | hx
      · obtain ⟨z, hz, rfl⟩ := List.mem_map.1 hx
        exact HS.out z (List.mem_of_mem_take hz)
      · exact HS.out x (List.mem_of_mem_drop hx)
    have SR0 := Lib.hid (bk_sr BR.out LN.out)
    generalize (L.take 1).map (SetMath.wr y) ++ L.drop 1 = M at *
    clear b1 t2 f2 i1 BK BR D3
    have CD : Hid (Cur (w3.setCell ⟨gl, 2, none⟩ (.int .i64 y)).drew g) := C5.out.grown (grown_drewN (grown_refl _ none) 1) (fun _ e => by cases e)
    have GD : Hid (w.grownBy (w3.setCell ⟨gl, 2, none⟩ (.int .i64 y)).drew (some g)) := grown_trans G5.out (grown_drewN (grown_refl _ (some g)) 1)
    have KD : Hid (Bk (w3.setCell ⟨gl, 2, none⟩ (.int .i64 y)).drew w.heap.size 26 (zc ⟨#[]⟩ (.slice none 0 0))) := K5.out
    have BD : Hid (Bk (w3.setCell ⟨gl, 2, none⟩ (.int .i64 y)).drew gb 26 (zc ⟨#[99, 111, 109]⟩ (.slice (some ⟨gl, 0, none⟩) m cap))) := KB.out
    have SR : Hid (Sr (w3.setCell ⟨gl, 2, none⟩ (.int .i64 y)).drew (w3.setCell ⟨gl, 2, none⟩ (.int .i64 y)).drew.heap.size (some ⟨gl, 0, none⟩) m M) := SR0.out
    go_upto_region 17 with (fail)
    clear C5 G5 K5 KB SR0
    generalize (w3.setCell ⟨gl, 2, none⟩ (.int .i64 y)).drew = w5 at *
    have FN := Lib.hid (done (s' := ⟨#[99, 111, 109]⟩) CD.out GD.out GW.out KD.out SR.out hbl (.slice (some ⟨gl, 0, none⟩) m cap))
    have r0 : w5.cell? ⟨w.heap.size, 0, none⟩ = some (.string ⟨#[]⟩) := KD.out.cell 0
    have r1 : w5.cell? ⟨w.heap.size, 1, none⟩ = some (.slice none 0 0) := KD.out.cell 1
    have q0 := KD.out.free 0
    have q1 := KD.out.free 1
    have z0 : w5.cell? ⟨gb, 0, none⟩ = some (.string ⟨#[99, 111, 109]⟩) := BD.out.cell 0
    have z1 : w5.cell? ⟨gb, 1, none⟩ = some (.slice (some ⟨gl, 0, none⟩) m cap) := BD.out.cell 1
    go_wp2
    exact bodyPost_ret (v := .agg #[.string ⟨#[99, 111, 109]⟩, .slice (some ⟨gl, 0, none⟩) m cap]) (resZ1 rfl FN.out.1 rfl) rfl ⟨⟨#[99, 111, 109]⟩, gl, 0, m, cap, M, rfl, (by decide), (by omega), LN.out, SM.out, Nat.le_of_lt hbl, FN.out.2.2.2, FN.out.2.1, FN.out.2.2.1⟩
  have e0 : (x == 0) = false := by simpa using c0
  have e1 : (x == 1) = false := by simpa using c1
  have e2 : (x == 2) = false := by simpa using c2
  have e3 : (x == 3) = false := by simpa using c3
  have e4 : (x == 4) = false := by simpa using c4
  have e5 : (x == 5) = false := by simpa using c5
  have e6 : (x == 6) = false := by simpa using c6
  clear c0 c1 c2 c3 c4 c5 c6 hx0 hx1
  have SR := Lib.hid (own_sr D3.out.2.2.2.2.2)
  have FN := Lib.hid (done (s' := ⟨#[99, 111, 109]⟩) D3.out.2.1 D3.out.2.2.1 GW.out D3.out.2.2.2.1 SR.out hbl (.slice (some ⟨gl, 0, none⟩) m cap))
  have r0 : w3.cell? ⟨w.heap.size, 0, none⟩ = some (.string ⟨#[]⟩) := D3.out.2.2.2.1.cell 0
  have r1 : w3.cell? ⟨w.heap.size, 1, none⟩ = some (.slice none 0 0) := D3.out.2.2.2.1.cell 1
  have q0 := D3.out.2.2.2.1.free 0
  have q1 := D3.out.2.2.2.1.free 1
  have z0 : w3.cell? ⟨gb, 0, none⟩ = some (.string ⟨#[99, 111, 109]⟩) := D3.out.2.2.2.2.1.cell 0
  have z1 : w3.cell? ⟨gb, 1, none⟩ = some (.slice (some ⟨gl, 0, none⟩) m cap) := D3.out.2.2.2.2.1.cell 1
  go_wp2
  exact bodyPost_ret (v := .agg #[.string ⟨#[99, 111, 109]⟩, .slice (some ⟨gl, 0, none⟩) m cap]) (resZ1 rfl FN.out.1 rfl) rfl ⟨⟨#[99, 111, 109]⟩, gl, 0, m, cap, L, rfl, (by decide), (by omega), HM.out, HS.out, Nat.le_of_lt hbl, FN.out.2.2.2, FN.out.2.1, FN.out.2.2.1⟩

end Go.Proofs.YtkpcanigdppegaaDoor.DrawY

/- What the model's draws of zones of chapter 10 do: zones of at most 9 records of short texts, and names; nothing that was there is turned. -/
namespace Go.Proofs.YtkpcanigdppegaaDoor.DrawZk
open Go.RowKit Go.Proofs.YtkpcanigdppegaaDoor.Mem Go.Proofs.YtkpcanigdppegaaDoor.MemR Go.Proofs.YtkpcanigdppegaaDoor.MemZ Go.Proofs.YtkpcanigdppegaaDoor.ResR Go.Proofs.YtkpcanigdppegaaDoor.ResZ Go.Proofs.YtkpcanigdppegaaDoor.Draw Go.Proofs.YtkpcanigdppegaaDoor.DrawS Go.Proofs.YtkpcanigdppegaaDoor.DrawL Go.Proofs.YtkpcanigdppegaaDoor.DrawN Go.Proofs.YtkpcanigdppegaaDoor.DrawR Go.Proofs.YtkpcanigdppegaaDoor.DrawZ Go.Proofs.YtkpcanigdppegaaDoor.DrawY

/-- A zone that is drawn; nothing that was there is turned. -/
def Zo (w : World) (e : Ending) (w' : World) : Prop :=
  ∃ (s : ByteArray) (b o n c : Nat) (L : List Rec), e = .returned (.agg #[.string s, .slice (some ⟨b, o, none⟩) n c]) ∧ s.size ≤ 20 ∧ n ≤ 9 ∧ (∀ r ∈ L, Sml r) ∧ Sr w' w'.heap.size (some ⟨b, o, none⟩) n L ∧ Below w.heap.size w w'

/-- A zone and a name that are drawn; nothing that was there is turned. -/
def Zn (w : World) (e : Ending) (w' : World) : Prop :=
  ∃ (s : ByteArray) (b o n c : Nat) (L : List Rec) (nm : ByteArray), e = .returned (.tuple #[.agg #[.string s, .slice (some ⟨b, o, none⟩) n c], .string nm]) ∧ s.size ≤ 20 ∧ nm.size ≤ 20 ∧ n ≤ 9 ∧ (∀ r ∈ L, Sml r) ∧ Sr w' w'.heap.size (some ⟨b, o, none⟩) n L ∧ Below w.heap.size w w'

theorem sr_move {w w' : World} {B b o n : Nat} {L : List Rec} (h : Sr w B (some ⟨b, o, none⟩) n L) (hB : B ≤ w'.heap.size) (hk : ∀ p : Addr, p.block = b → w'.cell? p = w.cell? p) : Sr w' w'.heap.size (some ⟨b, o, none⟩) n L := by
  obtain ⟨h1, h2⟩ := h
  refine ⟨h1, fun hn => ?_⟩
  obtain ⟨b', o', hA, hlt, hcs⟩ := h2 hn
  obtain ⟨rfl, rfl⟩ : b = b' ∧ o = o' := by simpa using hA
  exact ⟨b, o, rfl, Nat.lt_of_lt_of_le hlt hB, fun j hj => (hcs j hj).move hk⟩

theorem sr_grown {w w' : World} {b o n g : Nat} {L : List Rec} (h : Sr w w.heap.size (some ⟨b, o, none⟩) n L) (hg : w.grownBy w' (some g)) (hne : b ≠ g) (hb : 0 < n → b < w.heap.size) : Sr w' w'.heap.size (some ⟨b, o, none⟩) n L := by
  by_cases hn : 0 < n
  · exact sr_move h hg.size fun p hp => World.cell?_of_block (hg.block _ (by rw [hp]; exact hb hn) (fun e => hne (by rw [← hp]; exact Option.some.inj e)))
  · exact ⟨h.1, fun h0 => absurd h0 hn⟩

theorem sr_lt {w : World} {b o n : Nat} {L : List Rec} (h : Sr w w.heap.size (some ⟨b, o, none⟩) n L) : 0 < n → b < w.heap.size := fun hn => by
  obtain ⟨b', o', hA, hlt, _⟩ := h.2 hn
  obtain ⟨rfl, rfl⟩ : b = b' ∧ o = o' := by simpa using hA
  exact hlt

/-- The end: the result's box is filled with the zone. -/
theorem ends1 {w v : World} {gz b o n : Nat} {M : List Rec} (hk : Bk v gz 26 (zc ⟨#[]⟩ (.slice none 0 0))) (hr : Sr v v.heap.size (some ⟨b, o, none⟩) n M) (hb : b ≠ gz) (hB : Below w.heap.size w v) (hz : w.heap.size ≤ gz) (s' : ByteArray) (y : Value) :
    Bk (filZ v gz s' y) gz 26 (zc s' y) ∧ Sr (filZ v gz s' y) (filZ v gz s' y).heap.size (some ⟨b, o, none⟩) n M ∧ Below w.heap.size w (filZ v gz s' y) := by
  refine ⟨filZ_bk hk s' y, sr_move hr (by simp [filZ, World.setCell]) fun p hp => ?_, filZ_below hB hz s' y⟩
  unfold filZ
  rw [World.cell?_of_block (Below.heap_setCell _ _ _ _ (by rw [hp]; exact hb)), World.cell?_of_block (Below.heap_setCell _ _ _ _ (by rw [hp]; exact hb))]

set_option maxHeartbeats 8000000 in
set_option maxRecDepth 100000 in
theorem drawZoneOk_any (A : Option Addr) (n c : Nat) (l : List UInt8) (w : World) (hs : Sl w w.heap.size A n l) (hn : n ≤ 1048576) : Calls Tryd.prog 17 #[.slice A n c] w (Zo w) := by
  have mixed : Tryd.prog.follows .mixedOrders = true := by kernel_rfl
  have HS := Lib.hid hs
  have K0 : Hid (Bk (w.alloc (.cells #[.string ⟨#[]⟩, .slice none 0 0] 26)) w.heap.size 26 (zc ⟨#[]⟩ (.slice none 0 0))) := heap_alloc_new w _
  have L0 := Lib.hid ((Below.refl w.heap.size w).alloc (Nat.le_refl _) (.cells #[.string ⟨#[]⟩, .slice none 0 0] 26))
  have N0 : Hid (w.heap.size < (w.alloc (.cells #[.string ⟨#[]⟩, .slice none 0 0] 26)).heap.size) := by show _ < _; simp
  clear hs
  go_enter Tryd.func17, Tryd.ntmps17
  go_upto_region 1 with (fail)
  generalize w.alloc (.cells #[.string ⟨#[]⟩, .slice none 0 0] 26) = w0 at *
  go_wp2_with fail
  refine (l1New_any A n c l w0 ((HS.out.below L0.out).wider L0.out.size) hn).mono ?_
  rintro e w1 ⟨rfl, hc1, hg1⟩
  have C1 := Lib.hid hc1
  have L1 := Lib.hid (L0.out.trans ((below_of_grown hg1).mono L0.out.size))
  have K1 := Lib.hid (K0.out.grown hg1 (fun e => by cases e))
  clear hc1 hg1 K0 L0 HS
  generalize w0.heap.size = g at *
  go_wp2_with fail
  refine (any_any g w1 C1.out).mono ?_
  rintro e w2 ⟨s, b, o, m, cap, L, rfl, hs20, hm9, hlm, hsm, hbw, hsr, hc2, hg2⟩
  have GA : Hid (g < w1.heap.size) := C1.out.lt
  have NB : Hid (b ≠ w.heap.size) := show _ ≠ _ from fun e => by have h1 := N0.out; have h2 := GA.out; omega
  have NG : Hid (b ≠ g) := show _ ≠ _ from fun e => by have h2 := GA.out; omega
  have SM := Lib.hid hsm
  have S2 := Lib.hid hsr
  have C2 := Lib.hid hc2
  have K2 := Lib.hid (K1.out.grown hg2 (fun e => by have h1 := N0.out; have h2 : w.heap.size = g := Option.some.inj e; omega))
  have L2 := Lib.hid (L1.out.grown hg2 L1.out.size (fun j hj => by cases hj; have h1 := N0.out; omega))
  clear hlm hsm hsr hc2 hg2 C1 L1 K1
  have FN := Lib.hid (ends1 K2.out S2.out NB.out L2.out (Nat.le_refl _) s (.slice (some ⟨b, o, none⟩) m cap))
  have r0 : w2.cell? ⟨w.heap.size, 0, none⟩ = some (.string ⟨#[]⟩) := K2.out.cell 0
  have r1 : w2.cell? ⟨w.heap.size, 1, none⟩ = some (.slice none 0 0) := K2.out.cell 1
  have q0 := K2.out.free 0
  have q1 := K2.out.free 1
  go_wp2
  exact bodyPost_ret (v := .agg #[.string s, .slice (some ⟨b, o, none⟩) m cap]) (resZ1 rfl FN.out.1 rfl) rfl ⟨s, b, o, m, cap, L, rfl, hs20, hm9, SM.out, FN.out.2.1, FN.out.2.2⟩

set_option maxHeartbeats 8000000 in
set_option maxRecDepth 100000 in
theorem drawCutOf_any (A : Option Addr) (n c : Nat) (l : List UInt8) (w : World) (hs : Sl w w.heap.size A n l) (hn : n ≤ 1048576) : Calls Tryd.prog 18 #[.slice A n c] w (Zn w) := by
  have mixed : Tryd.prog.follows .mixedOrders = true := by kernel_rfl
  have HS := Lib.hid hs
  have K0 : Hid (Bk (w.alloc (.cells #[.string ⟨#[]⟩, .slice none 0 0] 26)) w.heap.size 26 (zc ⟨#[]⟩ (.slice none 0 0))) := heap_alloc_new w _
  have L0 := Lib.hid ((Below.refl w.heap.size w).alloc (Nat.le_refl _) (.cells #[.string ⟨#[]⟩, .slice none 0 0] 26))
  have N0 : Hid (w.heap.size < (w.alloc (.cells #[.string ⟨#[]⟩, .slice none 0 0] 26)).heap.size) := by show _ < _; simp
  clear hs
  go_enter Tryd.func18, Tryd.ntmps18
  go_upto_region 1 with (fail)
  generalize w.alloc (.cells #[.string ⟨#[]⟩, .slice none 0 0] 26) = w0 at *
  go_wp2_with fail
  refine (l1New_any A n c l w0 ((HS.out.below L0.out).wider L0.out.size) hn).mono ?_
  rintro e w1 ⟨rfl, hc1, hg1⟩
  have C1 := Lib.hid hc1
  have L1 := Lib.hid (L0.out.trans ((below_of_grown hg1).mono L0.out.size))
  have K1 := Lib.hid (K0.out.grown hg1 (fun e => by cases e))
  clear hc1 hg1 K0 L0 HS
  generalize w0.heap.size = g at *
  go_wp2_with fail
  refine (any_any g w1 C1.out).mono ?_
  rintro e w2 ⟨s, b, o, m, cap, L, rfl, hs20, hm9, hlm, hsm, hbw, hsr, hc2, hg2⟩
  have GA : Hid (g < w1.heap.size) := C1.out.lt
  have NB : Hid (b ≠ w.heap.size) := show _ ≠ _ from fun e => by have h1 := N0.out; have h2 := GA.out; omega
  have NG : Hid (b ≠ g) := show _ ≠ _ from fun e => by have h2 := GA.out; omega
  have SM := Lib.hid hsm
  have S2 := Lib.hid hsr
  have C2 := Lib.hid hc2
  have K2 := Lib.hid (K1.out.grown hg2 (fun e => by have h1 := N0.out; have h2 : w.heap.size = g := Option.some.inj e; omega))
  have L2 := Lib.hid (L1.out.grown hg2 L1.out.size (fun j hj => by cases hj; have h1 := N0.out; omega))
  clear hlm hsm hsr hc2 hg2 C1 L1 K1
  go_wp2_with fail
  refine (l10Name_any g w2 C2.out).mono ?_
  rintro e w3 ⟨nm, rfl, hnm, hc3, hg3⟩
  have S3 := Lib.hid (sr_grown S2.out hg3 NG.out (sr_lt S2.out))
  have K3 := Lib.hid (K2.out.grown hg3 (fun e => by have h1 := N0.out; have h2 : w.heap.size = g := Option.some.inj e; omega))
  have L3 := Lib.hid (L2.out.grown hg3 L2.out.size (fun j hj => by cases hj; have h1 := N0.out; omega))
  have HNM : Hid (nm.size ≤ 20) := hnm
  clear hc3 hg3 C2 S2 K2 L2 hnm
  have FN := Lib.hid (ends1 K3.out S3.out NB.out L3.out (Nat.le_refl _) s (.slice (some ⟨b, o, none⟩) m cap))
  have r0 : w3.cell? ⟨w.heap.size, 0, none⟩ = some (.string ⟨#[]⟩) := K3.out.cell 0
  have r1 : w3.cell? ⟨w.heap.size, 1, none⟩ = some (.slice none 0 0) := K3.out.cell 1
  have q0 := K3.out.free 0
  have q1 := K3.out.free 1
  go_wp2
  exact bodyPost_ret (v := .tuple #[.agg #[.string s, .slice (some ⟨b, o, none⟩) m cap], .string nm]) (resZ2 rfl FN.out.1 rfl rfl) rfl ⟨s, b, o, m, cap, L, nm, rfl, hs20, HNM.out, hm9, SM.out, FN.out.2.1, FN.out.2.2⟩

set_option maxHeartbeats 8000000 in
set_option maxRecDepth 100000 in
theorem drawExists_any (A : Option Addr) (n c : Nat) (l : List UInt8) (w : World) (hs : Sl w w.heap.size A n l) (hn : n ≤ 1048576) : Calls Tryd.prog 20 #[.slice A n c] w (Zn w) := by
  have mixed : Tryd.prog.follows .mixedOrders = true := by kernel_rfl
  have HS := Lib.hid hs
  have K0 : Hid (Bk (w.alloc (.cells #[.string ⟨#[]⟩, .slice none 0 0] 26)) w.heap.size 26 (zc ⟨#[]⟩ (.slice none 0 0))) := heap_alloc_new w _
  have L0 := Lib.hid ((Below.refl w.heap.size w).alloc (Nat.le_refl _) (.cells #[.string ⟨#[]⟩, .slice none 0 0] 26))
  have N0 : Hid (w.heap.size < (w.alloc (.cells #[.string ⟨#[]⟩, .slice none 0 0] 26)).heap.size) := by show _ < _; simp
  clear hs
  go_enter Tryd.func20, Tryd.ntmps20
  go_upto_region 1 with (fail)
  generalize w.alloc (.cells #[.string ⟨#[]⟩, .slice none 0 0] 26) = w0 at *
  go_wp2_with fail
  refine (l1New_any A n c l w0 ((HS.out.below L0.out).wider L0.out.size) hn).mono ?_
  rintro e w1 ⟨rfl, hc1, hg1⟩
  have C1 := Lib.hid hc1
  have L1 := Lib.hid (L0.out.trans ((below_of_grown hg1).mono L0.out.size))
  have K1 := Lib.hid (K0.out.grown hg1 (fun e => by cases e))
  clear hc1 hg1 K0 L0 HS
  generalize w0.heap.size = g at *
  go_wp2_with fail
  refine (any_any g w1 C1.out).mono ?_
  rintro e w2 ⟨s, b, o, m, cap, L, rfl, hs20, hm9, hlm, hsm, hbw, hsr, hc2, hg2⟩
  have GA : Hid (g < w1.heap.size) := C1.out.lt
  have NB : Hid (b ≠ w.heap.size) := show _ ≠ _ from fun e => by have h1 := N0.out; have h2 := GA.out; omega
  have NG : Hid (b ≠ g) := show _ ≠ _ from fun e => by have h2 := GA.out; omega
  have SM := Lib.hid hsm
  have S2 := Lib.hid hsr
  have C2 := Lib.hid hc2
  have K2 := Lib.hid (K1.out.grown hg2 (fun e => by have h1 := N0.out; have h2 : w.heap.size = g := Option.some.inj e; omega))
  have L2 := Lib.hid (L1.out.grown hg2 L1.out.size (fun j hj => by cases hj; have h1 := N0.out; omega))
  clear hlm hsm hsr hc2 hg2 C1 L1 K1
  go_wp2_with fail
  refine (l10Name_any g w2 C2.out).mono ?_
  rintro e w3 ⟨nm, rfl, hnm, hc3, hg3⟩
  have S3 := Lib.hid (sr_grown S2.out hg3 NG.out (sr_lt S2.out))
  have K3 := Lib.hid (K2.out.grown hg3 (fun e => by have h1 := N0.out; have h2 : w.heap.size = g := Option.some.inj e; omega))
  have L3 := Lib.hid (L2.out.grown hg3 L2.out.size (fun j hj => by cases hj; have h1 := N0.out; omega))
  have HNM : Hid (nm.size ≤ 20) := hnm
  clear hc3 hg3 C2 S2 K2 L2 hnm
  have FN := Lib.hid (ends1 K3.out S3.out NB.out L3.out (Nat.le_refl _) s (.slice (some ⟨b, o, none⟩) m cap))
  have r0 : w3.cell? ⟨w.heap.size, 0, none⟩ = some (.string ⟨#[]⟩) := K3.out.cell 0
  have r1 : w3.cell? ⟨w.heap.size, 1, none⟩ = some (.slice none 0 0) := K3.out.cell 1
  have q0 := K3.out.free 0
  have q1 := K3.out.free 1
  go_wp2
  exact bodyPost_ret (v := .tuple #[.agg #[.string s, .slice (some ⟨b, o, none⟩) m cap], .string nm]) (resZ2 rfl FN.out.1 rfl rfl) rfl ⟨s, b, o, m, cap, L, nm, rfl, hs20, HNM.out, hm9, SM.out, FN.out.2.1, FN.out.2.2⟩

end Go.Proofs.YtkpcanigdppegaaDoor.DrawZk

/- What Hosts does in the model. Condition: fewer than 400000001 records. -/
namespace Go.Proofs.YtkpcanigdppegaaDoor.HostS
open Go.RowKit Go.Proofs.YtkpcanigdppegaaDoor.Mem Go.Proofs.YtkpcanigdppegaaDoor.MemR Go.Proofs.YtkpcanigdppegaaDoor.SetMath Go.Proofs.YtkpcanigdppegaaDoor.Isin Go.Proofs.YtkpcanigdppegaaDoor.MemS Go.Proofs.YtkpcanigdppegaaDoor.AppS

theorem grown_of_below {w w' : World} (h : Below w.heap.size w w') (r : Option Nat) : w.grownBy w' r := ⟨h.os, h.tape, h.output, h.size, fun k hk _ => h.block k hk⟩

set_option maxHeartbeats 1000000 in
theorem has (A : Option Addr) (n c : Nat) (l : List ByteArray) (x : ByteArray) (w : World) (hs : Ss w w.heap.size A n l) (hn : n ≤ 400000000) :
    Calls Tryd.prog 55 #[.slice A n c, .string x] w fun e w' => e = .returned (.bool (isin l x)) ∧ Below w.heap.size w w' := by
  have HS := Lib.hid hs
  clear hs
  go_enter Tryd.func55, Tryd.ntmps55
  go_wp2
  go_loopw [5] (fun i wr => ∃ k : Nat, k ≤ n ∧ i = .int .i64 k ∧ Hid (x ∉ l.take k) ∧ Hid (Below w.heap.size w wr)) (fun i _ => n - (intOf i).toNat)
  case atStart => exact ⟨0, Nat.zero_le _, rfl, not_zero l x, Below.refl _ _⟩
  case round =>
    obtain ⟨k, hk, rfl, HX, HL⟩ := hrel
    by_cases hlt : k < n
    · obtain ⟨b, off, rfl, hbB, hcs⟩ := HS.out.2 (by omega)
      have hkl : k < l.length := by rw [HS.out.1]; exact hlt
      have e0 : wr.cell? ⟨b, off + k, none⟩ = some (.string l[k]) := (HL.out.cell (p := ⟨b, off + k, none⟩) hbB).trans (hcs k hkl)
      clear hcs
      have HI := Lib.hid (isin_at l x k hkl)
      have HO := Lib.hid (not_next l x k hkl)
      generalize l[k] = y at *
      by_cases hne : y = x
      · have HT := Lib.hid (HI.out hne)
        subst hne
        have q1 : (y.toList == y.toList) = true := by simp
        have q2 : (y.data.toList == y.data.toList) = true := by simp
        go_wp2
        go_ret
        exact ⟨by rw [HT.out]; rfl, HL.out⟩
      · have HN := Lib.hid (HO.out HX.out hne)
        have q1 : (y.toList == x.toList) = false := bytes_ne hne
        have q2 : (y.data.toList == x.data.toList) = false := by rw [← ByteArray.toList_eq, ← ByteArray.toList_eq]; exact q1
        clear hne
        go_wp2
        go_roundw
        case rel => exact ⟨k + 1, by omega, by go_num, HN.out, HL.out⟩
        case measure => simp [intOf]; omega
    · obtain rfl : n = k := by omega
      have HF : Hid (isin l x = false) := isin_false (by rw [take_all HS.out.1] at HX; exact HX.out)
      go_wp2
      go_ret
      exact ⟨by rw [HF.out]; rfl, HL.out⟩

set_option maxHeartbeats 4000000 in
theorem spec (b0 o0 n c : Nat) (l : List Rec) (w : World) (hs : Sr w w.heap.size (some ⟨b0, o0, none⟩) n l) (hn : n ≤ 400000000) : Calls Tryd.prog 51 #[.slice (some ⟨b0, o0, none⟩) n c] w (GivesS w (uq (hl l))) := by
  obtain ⟨i0, hi, hz0, hz1, hz2⟩ := info_parts info
  have HS := Lib.hid hs
  clear hs
  have P0 := Lib.hid (owns_new w)
  have L0 := Lib.hid ((Below.refl w.heap.size w).alloc (Nat.le_refl _) (.cells #[] 9))
  go_enter Tryd.func51, Tryd.ntmps51
  go_wp2
  generalize w.alloc (.cells #[] 9) = w0 at *
  go_loopw [3, 4] (fun out i wr => ∃ k g m cap : Nat, k ≤ n ∧ m ≤ k ∧ i = .int .i64 k ∧ out = .slice (some ⟨g, 0, none⟩) m cap ∧ Hid (wr.ownsRow w.heap.size 9 1 (.slice (some ⟨g, 0, none⟩) m cap) m ((uq (hl (l.take k))).map tv)) ∧ Hid (Below w.heap.size w wr)) (fun _ i _ => n - (intOf i).toNat)
  case atStart => exact ⟨0, w.heap.size, 0, 0, Nat.zero_le _, Nat.le_refl _, rfl, rfl, P0.out, L0.out⟩
  case round =>
    clear P0 L0
    obtain ⟨k, g, m, cap, hk, hm, rfl, rfl, HO, HL⟩ := hrel
    by_cases hlt : k < n
    · obtain ⟨b, off, hA, hbB, hcs⟩ := HS.out.2 (by omega)
      obtain ⟨rfl, rfl⟩ : b0 = b ∧ o0 = off := by simp at hA; exact hA
      clear hA
      have hkl : k < l.length := by rw [HS.out.1]; exact hlt
      obtain ⟨e0, e1, e2, e3, e4, e5⟩ := (hcs k hkl).below HL.out hbB
      clear hcs
      have HT := Lib.hid (hl_take l k hkl)
      generalize l[k] = r at *
      by_cases hty : ¬ r.ty = 2
      · have HA := Lib.hid (show uq (hl (l.take (k + 1))) = uq (hl (l.take k)) from by rw [HT.out, if_neg hty, List.append_nil])
        have t0 : (r.ty == 2) = false := by simpa using hty
        clear hty
        go_wp2
        go_roundw
        case rel => exact ⟨k + 1, g, m, cap, by omega, by omega, by go_num, rfl, by rw [HA.out]; exact HO.out, HL.out⟩
        case measure => simp [intOf]; omega
      replace hty : r.ty = 2 := Classical.not_not.1 hty
      have HU := Lib.hid (show uq (hl (l.take (k + 1))) = add (uq (hl (l.take k))) r.host from by rw [HT.out, if_pos hty, uq_snoc])
      have t0 : (r.ty == 2) = true := by simpa using hty
      clear hty
      have HZ : Hid ((uq (hl (l.take k))).length = m) := show _ = _ by have := HO.out.1; simpa using this
      have SS : Hid (∀ W : World, W.ownsRow w.heap.size 9 1 (.slice (some ⟨g, 0, none⟩) m cap) m ((uq (hl (l.take k))).map tv) → Calls Tryd.prog 55 #[.slice (some ⟨g, 0, none⟩) m cap, .string r.host] W fun e w' => e = .returned (.bool (isin (uq (hl (l.take k))) (r.host))) ∧ Below W.heap.size W w') :=
        fun W O => has _ m cap (uq (hl (l.take k))) (r.host) W (show Ss W W.heap.size (some ⟨g, 0, none⟩) m (uq (hl (l.take k))) from by obtain ⟨r', hb, _, _⟩ := bk_of_owns O; exact bk_ssw hb HZ.out) (by omega)
      go_wp2_with fail
      refine (SS.out _ HO.out).mono ?_
      rintro e w1 ⟨rfl, hl⟩
      have O1 := Lib.hid (HO.out.kept (grown_of_below hl none) (Or.inr (fun e => by cases e)))
      have L1 := Lib.hid (HL.out.trans (hl.mono HL.out.size))
      have C1 := (show Ce w1 b0 (o0 + k * 6) r from ⟨(hl.cell (p := ⟨b0, o0 + k * 6, none⟩) (Nat.lt_of_lt_of_le hbB HL.out.size)).trans e0, (hl.cell (p := ⟨b0, o0 + k * 6 + 1, none⟩) (Nat.lt_of_lt_of_le hbB HL.out.size)).trans e1, (hl.cell (p := ⟨b0, o0 + k * 6 + 2, none⟩) (Nat.lt_of_lt_of_le hbB HL.out.size)).trans e2, (hl.cell (p := ⟨b0, o0 + k * 6 + 3, none⟩) (Nat.lt_of_lt_of_le hbB HL.out.size)).trans e3, (hl.cell (p := ⟨b0, o0 + k * 6 + 4, none⟩) (Nat.lt_of_lt_of_le hbB HL.out.size)).trans e4, (hl.cell (p := ⟨b0, o0 + k * 6 + 5, none⟩) (Nat.lt_of_lt_of_le hbB HL.out.size)).trans e5⟩)
      clear hl e0 e1 e2 e3 e4 e5 SS
      obtain ⟨e0, e1, e2, e3, e4, e5⟩ := C1
      by_cases hin : r.host ∈ uq (hl (l.take k))
      · have HA := Lib.hid (HU.out.trans (add_in hin))
        have HB := Lib.hid (isin_true hin)
        clear hin
        rw [HB.out]
        go_wp2
        go_roundw
        case rel => exact ⟨k + 1, g, m, cap, by omega, by omega, by go_num, rfl, by rw [HA.out]; exact O1.out, L1.out⟩
        case measure => simp [intOf]; omega
      · have HA := Lib.hid (HU.out.trans (add_out hin))
        have HB := Lib.hid (isin_false hin)
        clear hin
        rw [HB.out]
        go_wp2_with (at_builtin; refine append_one (w := w1) rfl (.tmp 28) (.tmp 34) 33 rfl w.heap.size 9 i0 _ Tryd.underlying33 hi hz0 hz1 hz2 rfl g m cap (uq (hl (l.take k))) rfl O1.out r.host rfl (by omega) (by have h1 := O1.out.lt g rfl; omega) ?_)
        intro g' cap' w3 hown hgrow
        have O3 := Lib.hid hown
        have L3 := Lib.hid ((L1.out.alloc L1.out.size (.cells #[.string r.host] 9)).grown hgrow (Nat.le_trans L1.out.size (by simp)) (fun j hj => by cases hj; have h1 := O1.out.lt g rfl; omega))
        clear hown hgrow
        go_wp2
        go_roundw
        case rel => exact ⟨k + 1, g', m + 1, cap', by omega, by omega, by go_num, rfl, by rw [HA.out, List.map_append]; exact O3.out, L3.out⟩
        case measure => simp [intOf]; omega
    · obtain rfl : n = k := by omega
      have HN := Lib.hid (take_all HS.out.1)
      go_wp2
      go_ret
      have ho := HO.out
      rw [HN.out] at ho
      exact gives_of_owns ho HL.out
end Go.Proofs.YtkpcanigdppegaaDoor.HostS

/- What the model's draw of DrawGlue does: a zone of at most 9 records of short texts, and at most 9 texts; nothing that was there is turned. -/
namespace Go.Proofs.YtkpcanigdppegaaDoor.DrawZg
open Go.RowKit Go.Proofs.YtkpcanigdppegaaDoor.Mem Go.Proofs.YtkpcanigdppegaaDoor.MemS Go.Proofs.YtkpcanigdppegaaDoor.MemR Go.Proofs.YtkpcanigdppegaaDoor.MemZ Go.Proofs.YtkpcanigdppegaaDoor.ResR Go.Proofs.YtkpcanigdppegaaDoor.ResZ Go.Proofs.YtkpcanigdppegaaDoor.SetMath Go.Proofs.YtkpcanigdppegaaDoor.Draw Go.Proofs.YtkpcanigdppegaaDoor.DrawS Go.Proofs.YtkpcanigdppegaaDoor.DrawL Go.Proofs.YtkpcanigdppegaaDoor.DrawN Go.Proofs.YtkpcanigdppegaaDoor.DrawR Go.Proofs.YtkpcanigdppegaaDoor.DrawZ Go.Proofs.YtkpcanigdppegaaDoor.DrawY Go.Proofs.YtkpcanigdppegaaDoor.DrawZk

/-- A zone and texts that are drawn; nothing that was there is turned. -/
def Zg (w : World) (e : Ending) (w' : World) : Prop :=
  ∃ (s : ByteArray) (b o n c : Nat) (L : List Rec) (gh nh ch : Nat) (H : List ByteArray), e = .returned (.tuple #[.agg #[.string s, .slice (some ⟨b, o, none⟩) n c], .slice (some ⟨gh, 0, none⟩) nh ch]) ∧ s.size ≤ 20 ∧ n ≤ 9 ∧ nh ≤ 9 ∧ (∀ r ∈ L, Sml r) ∧ Sr w' w'.heap.size (some ⟨b, o, none⟩) n L ∧ Ss w' w'.heap.size (some ⟨gh, 0, none⟩) nh H ∧ Below w.heap.size w w'

theorem ss_filZ {w : World} {gz gh nh : Nat} {H : List ByteArray} {rr : List Value} (h : Bk w gh 9 (H.map tv ++ rr)) (hn : H.length = nh) (hne : gh ≠ gz) (s : ByteArray) (x : Value) : Ss (filZ w gz s x) (filZ w gz s x).heap.size (some ⟨gh, 0, none⟩) nh H := bk_ssw (filZ_other h hne s x) hn

set_option maxHeartbeats 8000000 in
set_option maxRecDepth 100000 in
theorem drawGlue_any (A : Option Addr) (n c : Nat) (l : List UInt8) (w : World) (hs : Sl w w.heap.size A n l) (hn : n ≤ 1048576) : Calls Tryd.prog 21 #[.slice A n c] w (Zg w) := by
  have mixed : Tryd.prog.follows .mixedOrders = true := by kernel_rfl
  have HS := Lib.hid hs
  have K0 : Hid (Bk (w.alloc (.cells #[.string ⟨#[]⟩, .slice none 0 0] 26)) w.heap.size 26 (zc ⟨#[]⟩ (.slice none 0 0))) := heap_alloc_new w _
  have L0 := Lib.hid ((Below.refl w.heap.size w).alloc (Nat.le_refl _) (.cells #[.string ⟨#[]⟩, .slice none 0 0] 26))
  have N0 : Hid (w.heap.size < (w.alloc (.cells #[.string ⟨#[]⟩, .slice none 0 0] 26)).heap.size) := by show _ < _; simp
  clear hs
  go_enter Tryd.func21, Tryd.ntmps21
  go_upto_region 1 with (fail)
  generalize w.alloc (.cells #[.string ⟨#[]⟩, .slice none 0 0] 26) = w0 at *
  go_wp2_with fail
  refine (l1New_any A n c l w0 ((HS.out.below L0.out).wider L0.out.size) hn).mono ?_
  rintro e w1 ⟨rfl, hc1, hg1⟩
  have C1 := Lib.hid hc1
  have L1 := Lib.hid (L0.out.trans ((below_of_grown hg1).mono L0.out.size))
  have K1 := Lib.hid (K0.out.grown hg1 (fun e => by cases e))
  clear hc1 hg1 K0 L0 HS
  generalize w0.heap.size = g at *
  go_wp2_with fail
  refine (any_any g w1 C1.out).mono ?_
  rintro e w2 ⟨s, b, o, m, cap, L, rfl, hs20, hm9, hlm, hsm, hbw, hsr, hc2, hg2⟩
  have GA : Hid (g < w1.heap.size) := C1.out.lt
  have NB : Hid (b ≠ w.heap.size) := show _ ≠ _ from fun e => by have h1 := N0.out; have h2 := GA.out; omega
  have NG : Hid (b ≠ g) := show _ ≠ _ from fun e => by have h2 := GA.out; omega
  have SM := Lib.hid hsm
  have S2 := Lib.hid hsr
  have C2 := Lib.hid hc2
  have K2 := Lib.hid (K1.out.grown hg2 (fun e => by have h1 := N0.out; have h2 : w.heap.size = g := Option.some.inj e; omega))
  have L2 := Lib.hid (L1.out.grown hg2 L1.out.size (fun j hj => by cases hj; have h1 := N0.out; omega))
  clear hlm hsm hsr hc2 hg2 C1 L1 K1
  have GB : Hid (g < w2.heap.size) := C2.out.lt
  have X3 : Hid (Zx (w2.alloc (.cells #[.string s, .slice (some ⟨b, o, none⟩) m cap] 26)) w2.heap.size s (.slice (some ⟨b, o, none⟩) m cap)) := zx_new w2 26 s (.slice (some ⟨b, o, none⟩) m cap)
  have K3 := Lib.hid (K2.out.alloc (.cells #[.string s, .slice (some ⟨b, o, none⟩) m cap] 26))
  have C3 := Lib.hid (C2.out.alloc (.cells #[.string s, .slice (some ⟨b, o, none⟩) m cap] 26))
  have S3 := Lib.hid (S2.out.on ((Below.refl w2.heap.size w2).alloc (Nat.le_refl _) (.cells #[.string s, .slice (some ⟨b, o, none⟩) m cap] 26)))
  have L3 := Lib.hid (L2.out.alloc L2.out.size (.cells #[.string s, .slice (some ⟨b, o, none⟩) m cap] 26))
  clear K2 C2 S2 L2
  go_upto_region 3 with (fail)
  generalize w2.alloc (.cells #[.string s, .slice (some ⟨b, o, none⟩) m cap] 26) = w3 at *
  generalize w2.heap.size = gb at *
  go_wp2_with fail
  refine (l1Once_any g 2 w3 C3.out (by omega) (by omega)).mono ?_
  rintro e w4 ⟨bb, rfl, hc4, hg4⟩
  have NZG : Hid (w.heap.size ≠ g) := show _ ≠ _ from fun e => by have h1 := N0.out; omega
  have WG : Hid (w.heap.size ≤ g) := Nat.le_of_lt N0.out
  have X4 := Lib.hid (X3.out.grown hg4 (fun e => by have h1 := GB.out; have h2 : gb = g := Option.some.inj e; omega))
  have K4 := Lib.hid (K3.out.grown hg4 (fun e => NZG.out (Option.some.inj e)))
  have S4 := Lib.hid (sr_grown S3.out hg4 NG.out (sr_lt S3.out))
  have L4 := Lib.hid (L3.out.grown hg4 L3.out.size (fun j hj => by cases hj; exact WG.out))
  have C4 := Lib.hid hc4
  clear hc4 hg4 X3 K3 S3 L3 C3
  have XD : Hid (Zx w4.drew gb s (.slice (some ⟨b, o, none⟩) m cap)) := X4.out
  have KD : Hid (Bk w4.drew w.heap.size 26 (zc ⟨#[]⟩ (.slice none 0 0))) := K4.out
  have LD : Hid (Below w.heap.size w w4.drew) := L4.out.drew
  have SD : Hid (Sr w4.drew w4.drew.heap.size (some ⟨b, o, none⟩) m L) := S4.out
  have CD := Lib.hid (C4.out.grown (w' := w4.drew) (grown_drewN (grown_refl w4 none) 1) (fun _ e => by cases e))
  cases bb with
  | true =>
    have HL : Hid ((uq (hl L)).length ≤ m) := show _ ≤ _ by have h1 := len_uq (hl L); have h2 := hl_len L; have h3 := S4.out.1; omega
    go_wp2
    have d0 : w4.drew.cell? ⟨gb, 0, none⟩ = some (.string s) := XD.out.1
    have d1 : w4.drew.cell? ⟨gb, 1, none⟩ = some (.slice (some ⟨b, o, none⟩) m cap) := XD.out.2
    go_region_law (first
      | (go_simp; go_at_call 51; refine (HostS.spec b o m cap L w4.drew SD.out (by omega)).mono ?_; rintro e w5 ⟨gh, nh, ch, rh, rfl, hnh, hch, hgh, hbh, hl5⟩; have X5 := Lib.hid (XD.out.below hl5); have y0 := X5.out.1; have y1 := X5.out.2; have K5 := Lib.hid (KD.out.below hl5 KD.out.lt); have k0 : w5.cell? ⟨w.heap.size, 0, none⟩ = some (.string ⟨#[]⟩) := K5.out.cell 0; have k1 : w5.cell? ⟨w.heap.size, 1, none⟩ = some (.slice none 0 0) := K5.out.cell 1; have f0 := K5.out.free 0; have f1 := K5.out.free 1))
    all_goals
      have FN := Lib.hid (ends1 K5.out (SD.out.on hl5) NB.out (LD.out.trans (hl5.mono LD.out.size)) (Nat.le_refl _) s (.slice (some ⟨b, o, none⟩) m cap))
      have HH := Lib.hid (ss_filZ (gz := w.heap.size) hbh hnh (fun e => by have h1 := KD.out.lt; omega) s (.slice (some ⟨b, o, none⟩) m cap))
      have hn9 : nh ≤ 9 := by have := HL.out; omega
      go_wp2
      exact bodyPost_ret (v := .tuple #[.agg #[.string s, .slice (some ⟨b, o, none⟩) m cap], .slice (some ⟨gh, 0, none⟩) nh ch]) (resZ2 rfl FN.out.1 rfl rfl) rfl ⟨s, b, o, m, cap, L, gh, nh, ch, _, rfl, hs20, hm9, hn9, SM.out, FN.out.2.1, HH.out, FN.out.2.2⟩
  | false =>
    go_wp2
    have d0 : w4.drew.cell? ⟨gb, 0, none⟩ = some (.string s) := XD.out.1
    have d1 : w4.drew.cell? ⟨gb, 1, none⟩ = some (.slice (some ⟨b, o, none⟩) m cap) := XD.out.2
    go_region_law (first
      | (go_simp; go_at_call 35; (with_reducible refine (l10Name_any g w4.drew CD.out).mono ?_); rintro e w5 ⟨n1, rfl, hn1, hc5, hg5⟩; have X5 := Lib.hid (XD.out.grown hg5 (fun e => by have h1 := GB.out; have h2 : gb = g := Option.some.inj e; omega)); have y0 := X5.out.1; have y1 := X5.out.2)
      | (go_simp; go_at_call 35; (with_reducible refine (l10Name_any g w5 hc5).mono ?_); rintro e w6 ⟨n2, rfl, hn2, hc6, hg6⟩; have X6 := Lib.hid (X5.out.grown hg6 (fun e => by have h1 := GB.out; have h2 : gb = g := Option.some.inj e; omega)); have x0 := X6.out.1; have x1 := X6.out.2; have X7 := Lib.hid (X6.out.alloc (.cells #[.string n1, .string n2] 9)); have z0 := X7.out.1; have z1 := X7.out.2; have K6 := Lib.hid ((KD.out.grown hg5 (fun e => NZG.out (Option.some.inj e))).grown hg6 (fun e => NZG.out (Option.some.inj e))); have K7 := Lib.hid (K6.out.alloc (.cells #[.string n1, .string n2] 9)); have k0 : (w6.alloc (.cells #[.string n1, .string n2] 9)).cell? ⟨w.heap.size, 0, none⟩ = some (.string ⟨#[]⟩) := K7.out.cell 0; have k1 : (w6.alloc (.cells #[.string n1, .string n2] 9)).cell? ⟨w.heap.size, 1, none⟩ = some (.slice none 0 0) := K7.out.cell 1; have f0 := K7.out.free 0; have f1 := K7.out.free 1; have j0 : w6.cell? ⟨w.heap.size, 0, none⟩ = some (.string ⟨#[]⟩) := K6.out.cell 0; have j1 : w6.cell? ⟨w.heap.size, 1, none⟩ = some (.slice none 0 0) := K6.out.cell 1; have g0 := K6.out.free 0; have g1 := K6.out.free 1))
    all_goals
      have S6 := Lib.hid (sr_grown (sr_grown SD.out hg5 NG.out (sr_lt SD.out)) hg6 NG.out (sr_lt (sr_grown SD.out hg5 NG.out (sr_lt SD.out))))
      have L6 := Lib.hid ((LD.out.grown hg5 LD.out.size (fun j hj => by cases hj; exact WG.out)).grown hg6 (Nat.le_trans LD.out.size hg5.size) (fun j hj => by cases hj; exact WG.out))
      have BN : Hid (Bk (w6.alloc (.cells #[.string n1, .string n2] 9)) w6.heap.size 9 ([n1, n2].map tv ++ [])) := heap_alloc_new w6 _
      have FN := Lib.hid (ends1 K7.out (S6.out.on ((Below.refl w6.heap.size w6).alloc (Nat.le_refl _) _)) NB.out (L6.out.alloc L6.out.size _) (Nat.le_refl _) s (.slice (some ⟨b, o, none⟩) m cap))
      have HH := Lib.hid (ss_filZ (nh := 2) (gz := w.heap.size) BN.out rfl (Nat.ne_of_gt K6.out.lt) s (.slice (some ⟨b, o, none⟩) m cap))
      have FM := Lib.hid (ends1 K6.out S6.out NB.out L6.out (Nat.le_refl _) s (.slice (some ⟨b, o, none⟩) m cap))
      have hsz : (filZ w6 w.heap.size s (.slice (some ⟨b, o, none⟩) m cap)).heap.size = w6.heap.size := by simp [filZ, World.setCell]
      have BM : Hid (Ss ((filZ w6 w.heap.size s (.slice (some ⟨b, o, none⟩) m cap)).alloc (.cells #[.string n1, .string n2] 9)) ((filZ w6 w.heap.size s (.slice (some ⟨b, o, none⟩) m cap)).alloc (.cells #[.string n1, .string n2] 9)).heap.size (some ⟨w6.heap.size, 0, none⟩) 2 [n1, n2]) := by
        show Ss _ _ _ _ _
        have h9 : Bk ((filZ w6 w.heap.size s (.slice (some ⟨b, o, none⟩) m cap)).alloc (.cells #[.string n1, .string n2] 9)) (filZ w6 w.heap.size s (.slice (some ⟨b, o, none⟩) m cap)).heap.size 9 ([n1, n2].map tv ++ []) := heap_alloc_new _ _
        rw [hsz] at h9
        exact bk_ssw h9 rfl
      have KM := Lib.hid (FM.out.1.alloc (.cells #[.string n1, .string n2] 9))
      have SMM := Lib.hid (FM.out.2.1.on ((Below.refl _ _).alloc (Nat.le_refl _) (.cells #[.string n1, .string n2] 9)))
      have LM := Lib.hid (FM.out.2.2.alloc (Nat.le_trans L6.out.size (Nat.le_of_eq hsz.symm)) (.cells #[.string n1, .string n2] 9))
      go_wp2
      first
        | exact bodyPost_ret (v := .tuple #[.agg #[.string s, .slice (some ⟨b, o, none⟩) m cap], .slice (some ⟨w6.heap.size, 0, none⟩) 2 2]) (resZ2 rfl FN.out.1 rfl rfl) rfl ⟨s, b, o, m, cap, L, w6.heap.size, 2, 2, _, rfl, hs20, hm9, (by decide), SM.out, FN.out.2.1, HH.out, FN.out.2.2⟩
        | exact bodyPost_ret (v := .tuple #[.agg #[.string s, .slice (some ⟨b, o, none⟩) m cap], .slice (some ⟨w6.heap.size, 0, none⟩) 2 2]) (resZ2 rfl KM.out rfl rfl) rfl ⟨s, b, o, m, cap, L, w6.heap.size, 2, 2, _, rfl, hs20, hm9, (by decide), SM.out, SMM.out, BM.out, LM.out⟩

end Go.Proofs.YtkpcanigdppegaaDoor.DrawZg

/- What recordsOk does in the program: at most so many records, all of them valid. Condition: fewer than 400000001 records, of at most 400000000 bytes a text. -/
namespace Go.Proofs.YtkpcanigdppegaaDoor.RecsOk
open Go.RowKit Go.Proofs.YtkpcanigdppegaaDoor.Mem Go.Proofs.YtkpcanigdppegaaDoor.MemR Go.Proofs.YtkpcanigdppegaaDoor.SetMath Go.Proofs.YtkpcanigdppegaaDoor.NameMath Go.Proofs.YtkpcanigdppegaaDoor.NameOk Go.Proofs.YtkpcanigdppegaaDoor.ZoneMath Go.Proofs.YtkpcanigdppegaaDoor.MemZ Go.Proofs.YtkpcanigdppegaaDoor.RecOk Go.Proofs.YtkpcanigdppegaaDoor.LessR Go.Proofs.YtkpcanigdppegaaDoor.ZokMath Go.Proofs.YtkpcanigdppegaaDoor.Labels

/-- At most m records, all valid. A def, so that no step of a walk opens it. -/
def Ro (m : Nat) (l : List Rec) : Prop := l.length ≤ m ∧ ∀ r ∈ l, rok r = true

set_option maxHeartbeats 4000000 in
theorem impl (m : Nat) (b0 o0 n c : Nat) (l : List Rec) (w : World) (hs : Sr w w.heap.size (some ⟨b0, o0, none⟩) n l) (hn : n ≤ 400000000) (he : Env w) (hm : ∀ r ∈ l, Mod r) :
    Calls Tryd.prog 39 #[.slice (some ⟨b0, o0, none⟩) n c, .int .i64 (m : Int)] w fun e w' => e = .returned (.bool (dec (Ro m l))) ∧ Below w.heap.size w w' := by
  have HE := Lib.hid he
  have HS := Lib.hid hs
  have HM := Lib.hid hm
  clear hs hm he
  by_cases h8 : ¬ n ≤ m
  · have h8' : (m : Int) < (n : Int) := by omega
    have HN : Hid (dec (Ro m l) = false) := dec_false (fun h => h8 (by rw [← HS.out.1]; exact h.1))
    go_enter Tryd.func39, Tryd.ntmps39
    go_wp2
    go_ret
    exact ⟨congrArg (fun b => Ending.returned (Value.bool b)) HN.out.symm, Below.refl _ _⟩
  have h8' : ¬ (m : Int) < (n : Int) := by omega
  go_enter Tryd.func39, Tryd.ntmps39
  go_wp2
  go_loopw [13] (fun i wr => ∃ k : Nat, k ≤ n ∧ i = .int .i64 k ∧ Hid (∀ r ∈ l.take k, rok r = true) ∧ Hid (Below w.heap.size w wr)) (fun i _ => n - (intOf i).toNat)
  case atStart => exact ⟨0, Nat.zero_le _, rfl, fun r hr => by simp at hr, Below.refl _ _⟩
  case round =>
    obtain ⟨k, hk, rfl, HK, HL⟩ := hrel
    by_cases hlt : k < n
    · obtain ⟨b, off, hA, hbB, hcs⟩ := HS.out.2 (by omega)
      obtain ⟨rfl, rfl⟩ : b0 = b ∧ o0 = off := by simp at hA; exact hA
      clear hA
      have hkl : k < l.length := by rw [HS.out.1]; exact hlt
      obtain ⟨e0, e1, e2, e3, e4, e5⟩ := (hcs k hkl).below HL.out hbB
      clear hcs
      have HR := Lib.hid (HM.out l[k] (List.getElem_mem hkl))
      have HIN : Hid (l[k] ∈ l) := List.getElem_mem hkl
      have HT := Lib.hid (List.take_succ_eq_append_getElem hkl)
      generalize l[k] = r at *
      have LA := Lib.hid (HL.out.alloc HL.out.size (.cells #[.string r.name, .int .i64 r.ty, .int .i64 r.ttl, .int .i64 r.n, .string r.host, .string r.text] 39))
      have CO := Lib.hid (fun W hW => RecOk.impl r W hW HR.out)
      cases hb : rok r with
      | false =>
        have HN : Hid (dec (Ro m l) = false) := dec_false (fun h => by have := h.2 r HIN.out; rw [hb] at this; cases this)
        rw [hb] at CO
        clear hb
        go_wp2_with fail
        refine (CO.out _ (HE.out.below LA.out)).mono ?_
        rintro e w1 ⟨rfl, hl⟩
        have L1 := Lib.hid (LA.out.trans (hl.mono LA.out.size))
        clear hl CO e0 e1 e2 e3 e4 e5
        go_wp2
        go_ret
        exact ⟨congrArg (fun b => Ending.returned (Value.bool b)) HN.out.symm, L1.out⟩
      | true =>
        have HN : Hid (∀ x ∈ l.take (k + 1), rok x = true) := fun x hx => by
          rw [HT.out, List.mem_append, List.mem_singleton] at hx
          rcases hx with hx | rfl
          · exact HK.out x hx
          · exact hb
        rw [hb] at CO
        clear hb
        go_wp2_with fail
        refine (CO.out _ (HE.out.below LA.out)).mono ?_
        rintro e w1 ⟨rfl, hl⟩
        have L1 := Lib.hid (LA.out.trans (hl.mono LA.out.size))
        clear hl CO e0 e1 e2 e3 e4 e5
        go_wp2
        go_roundw
        case rel => exact ⟨k + 1, by omega, by go_num, HN.out, L1.out⟩
        case measure => simp [intOf]; omega
    · obtain rfl : n = k := by omega
      have HF : Hid (dec (Ro m l) = true) := dec_true ⟨by rw [HS.out.1]; omega, by have := HK.out; rw [take_all HS.out.1] at this; exact this⟩
      go_wp2
      go_ret
      exact ⟨congrArg (fun b => Ending.returned (Value.bool b)) HF.out.symm, HL.out⟩

end Go.Proofs.YtkpcanigdppegaaDoor.RecsOk

/- What the program's Under does, by the library's proved contract of strings.HasSuffix: it tells whether the labels of its second text end those of its first. Condition: at most 400000000 bytes each. -/
namespace Go.Proofs.YtkpcanigdppegaaDoor.UnderImpl
open Go.RowKit Go.Proofs.YtkpcanigdppegaaDoor.Mem Go.Proofs.YtkpcanigdppegaaDoor.MemS Go.Proofs.YtkpcanigdppegaaDoor.Split Go.Proofs.YtkpcanigdppegaaDoor.NameMath

theorem hasSuffix (s p : ByteArray) (w : World) (hs : s.size ≤ 400000000) : Calls Tryd.prog 45 #[.string s, .string p] w fun e w' => e = .returned (.bool (Lib.hasSuffix s.data.toList p.data.toList)) ∧ w' = w :=
  Go.Proofs.Any.strings_HasSuffix Tryd.lays100 s p w (by omega)

set_option maxHeartbeats 1000000 in
theorem impl (a b : ByteArray) (w : World) (ha : a.size ≤ 400000000) (hb : b.size ≤ 400000000) : Calls Tryd.prog 12 #[.string a, .string b] w fun e w' => e = .returned (.bool (Un a b)) ∧ w = w' := by
  by_cases h0 : b.size = 0
  · have HU := Lib.hid (un_root (a := a) h0)
    obtain rfl : b = ⟨#[]⟩ := text_ext (List.eq_nil_of_length_eq_zero (by simpa using h0))
    clear h0 hb
    go_enter Tryd.func12, Tryd.ntmps12
    go_wp2
    go_ret
    rw [HU.out]
    exact ⟨rfl, rfl⟩
  · have hne : b.toList.isEmpty = false := Labels.not_empty b h0
    by_cases h : a = b
    · subst h
      have HU := Lib.hid (un_self a)
      clear h0
      go_enter Tryd.func12, Tryd.ntmps12
      go_wp2
      go_ret
      rw [HU.out]
      exact ⟨rfl, rfl⟩
    · have HU : Hid (Un a b = Lib.hasSuffix a.data.toList ((⟨#[46]⟩ : ByteArray) ++ b).data.toList) := by
        show _ = _
        rw [un_else h0 h, text_add]
        rfl
      have hq : (a.toList == b.toList) = false := by
        rw [beq_eq_false_iff_ne, ByteArray.toList_eq, ByteArray.toList_eq]
        exact fun e => h (text_ext e)
      have hq2 : (a.data.toList == b.data.toList) = false := by
        rw [beq_eq_false_iff_ne]
        exact fun e => h (text_ext e)
      clear h0 h
      have HS := Lib.hid (fun p w => hasSuffix a p w ha)
      go_enter Tryd.func12, Tryd.ntmps12
      go_wp2_with fail
      refine (HS.out _ w).mono ?_
      rintro e w1 ⟨rfl, rfl⟩
      go_wp2
      go_ret
      rw [HU.out]
      exact ⟨rfl, rfl⟩
end Go.Proofs.YtkpcanigdppegaaDoor.UnderImpl
