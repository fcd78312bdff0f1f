/- The law FnExactServe returns true at every zone and every message, and turns nothing that was there. No condition. -/
import Derived.Test.YtmabbeefeipnaaaKindS
import Derived.Test.YtmabbeefeipnaaaSetS
import Derived.Test.YtmabbeefeipnaaaZoneMath
import Derived.Test.YtmabbeefeipnaaaMemZ
import Derived.Test.YtmabbeefeipnaaaMemS
import Derived.Deep.RegionHeld3
import Derived.Test.YtmabbeefeipnaaaMorS
import Derived.Test.YtmabbeefeipnaaaHostS
import Derived.Test.YtmabbeefeipnaaaExactServeP3
import Derived.Test.YtmabbeefeipnaaaSzZ
import Derived.Test.YtmabbeefeipnaaaToZ
import Derived.Test.YtmabbeefeipnaaaEqZ
import Derived.Test.YtmabbeefeipnaaaMarkZ
import Derived.Test.YtmabbeefeipnaaaSzM
import Derived.Test.YtmabbeefeipnaaaToM
import Derived.Test.YtmabbeefeipnaaaEqM
import Derived.Test.YtmabbeefeipnaaaMarkM
import Derived.Test.YtmabbeefeipnaaaRowM
import Derived.Test.YtmabbeefeipnaaaRowR
import Derived.WalkKit
import Derived.ProofKit
import Derived.OpenShut
import Derived.ShutString
import Derived.ChangeOld
import Derived.Below
/- What AnswerIn does in the model: a new slice of the answers. Condition: fewer than 400000001 records, no name of more than 400000000 bytes. -/
namespace Go.Proofs.Ytmabbeefeipnaaa.AnsS
open Go.RowKit Go.Proofs.Ytmabbeefeipnaaa.Mem Go.Proofs.Ytmabbeefeipnaaa.MemR Go.Proofs.Ytmabbeefeipnaaa.SetMath Go.Proofs.Ytmabbeefeipnaaa.NameMath Go.Proofs.Ytmabbeefeipnaaa.ZoneMath Go.Proofs.Ytmabbeefeipnaaa.ServeMath Go.Proofs.Ytmabbeefeipnaaa.MemZ Go.Proofs.Ytmabbeefeipnaaa.MemM Go.Proofs.Ytmabbeefeipnaaa.Wt Go.Proofs.Ytmabbeefeipnaaa.KindS 

set_option maxHeartbeats 8000000 in
theorem spec (s nm : ByteArray) (ty : Int) (b0 o0 n c : Nat) (l : List Rec) (w : World) (hs : Sr w w.heap.size (some ⟨b0, o0, none⟩) n l) (hn : n ≤ 400000000) (hm : s.size ≤ 400000000) (hq : nm.size ≤ 400000000) (hz : ∀ r ∈ l, r.name.size ≤ 400000000) :
    Calls Try.prog 16 #[.agg #[.string s, .slice (some ⟨b0, o0, none⟩) n c], .agg #[.string nm, .int .i64 ty]] w (GivesL w (anl (kd s nm ty l) nm ty l)) := by
  obtain ⟨⟨hx, hy⟩, hl0⟩ := two w s nm ty (.slice (some ⟨b0, o0, none⟩) n c) 32 34
  have X0 := Lib.hid hx
  have Y0 := Lib.hid hy
  have L0 := Lib.hid hl0
  have S0 := Lib.hid (hs.on hl0)
  have KI := Lib.hid (fun W hW => KindS.spec s nm ty b0 o0 n c l W hW (by omega) hm hq hz)
  have AS := Lib.hid (fun W hW => SetS.spec nm 5 b0 o0 n c l W hW hn)
  have TS := Lib.hid (fun W hW => SetS.spec nm ty b0 o0 n c l W hW hn)
  clear hs hz hx hy hl0
  generalize kd s nm ty l = k at *
  obtain ⟨x0, x1⟩ := X0.out
  obtain ⟨y0, y1⟩ := Y0.out
  go_enter Try.func16, Try.ntmps16
  go_wp2_with fail
  refine (KI.out _ S0.out).mono ?_
  rintro e w1 ⟨rfl, hl⟩
  have X1 := Lib.hid (X0.out.below hl)
  have Y1 := Lib.hid (Y0.out.below hl)
  have S1 := Lib.hid (S0.out.on hl)
  have L1 := Lib.hid (L0.out.trans (hl.mono L0.out.size))
  clear hl KI X0 Y0 S0 L0 x0 x1 y0 y1
  obtain ⟨x0, x1⟩ := X1.out
  obtain ⟨y0, y1⟩ := Y1.out
  by_cases h2 : k = 2
  · have HA : Hid (anl k nm ty l = sf nm 5 l) := if_pos h2
    subst h2
    go_wp2_with fail
    refine (AS.out _ S1.out).mono ?_
    rintro e w2 ⟨g, m, cp, r, rfl, hm2, hc2, hg2, hb2, hl⟩
    have H2 := Lib.hid (And.intro hm2 (And.intro hc2 (And.intro (Nat.le_trans L1.out.size hg2) hb2)))
    have L2 := Lib.hid (L1.out.trans (hl.mono L1.out.size))
    clear hl hm2 hc2 hg2 hb2
    go_wp2
    go_ret
    exact ⟨g, m, cp, r, rfl, by rw [HA.out]; exact H2.out.1, H2.out.2.1, H2.out.2.2.1, by rw [HA.out]; exact H2.out.2.2.2, L2.out⟩
  · have t2 : (k == 2) = false := by simpa using h2
    by_cases h3 : k = 3
    · have HA : Hid (anl k nm ty l = sf nm ty l) := by show _ = _; unfold anl; rw [if_neg h2, if_pos h3]
      subst h3
      go_wp2_with fail
      refine (TS.out _ S1.out).mono ?_
      rintro e w2 ⟨g, m, cp, r, rfl, hm2, hc2, hg2, hb2, hl⟩
      have H2 := Lib.hid (And.intro hm2 (And.intro hc2 (And.intro (Nat.le_trans L1.out.size hg2) hb2)))
      have L2 := Lib.hid (L1.out.trans (hl.mono L1.out.size))
      clear hl hm2 hc2 hg2 hb2
      go_wp2
      go_ret
      exact ⟨g, m, cp, r, rfl, by rw [HA.out]; exact H2.out.1, H2.out.2.1, H2.out.2.2.1, by rw [HA.out]; exact H2.out.2.2.2, L2.out⟩
    · have t3 : (k == 3) = false := by simpa using h3
      have HA : Hid (anl k nm ty l = []) := by show _ = _; unfold anl; rw [if_neg h2, if_neg h3]
      clear h2 h3
      have B2 := Lib.hid (AppR.owns_new w1)
      have L2 := Lib.hid (L1.out.trans (((Below.refl w1.heap.size w1).alloc (Nat.le_refl _) (.cells #[] 68)).mono L1.out.size))
      have N2 := Lib.hid (heap_alloc_new w1 (.cells #[] 68))
      have G2 : Hid (w.heap.size ≤ w1.heap.size) := L1.out.size
      go_wp2
      go_ret
      exact ⟨w1.heap.size, 0, 0, [], rfl, by rw [HA.out]; rfl, Nat.le_refl _, G2.out, by rw [HA.out]; exact N2.out, L2.out⟩

end Go.Proofs.Ytmabbeefeipnaaa.AnsS

/- What Glue does in the model: the addresses of the hosts, in their order. Condition: at most 1048576 records and as many hosts (so the result may have many more). -/
namespace Go.Proofs.Ytmabbeefeipnaaa.GlueS
open Go.RowKit Go.Proofs.Ytmabbeefeipnaaa.Mem Go.Proofs.Ytmabbeefeipnaaa.MemR Go.Proofs.Ytmabbeefeipnaaa.SetMath Go.Proofs.Ytmabbeefeipnaaa.ZoneMath Go.Proofs.Ytmabbeefeipnaaa.MemZ Go.Proofs.Ytmabbeefeipnaaa.MemS Go.Proofs.Ytmabbeefeipnaaa.AppR Go.Proofs.Ytmabbeefeipnaaa.Wt

/-- append of records as one step of a region that draws, onto a row of the call's own. -/
theorem step_append_recs {ops : Array Oper} {o : Oper} {a : Act} {w : World} {K : Act → World → Prop} {Q : Exit → Act → World → Prop} {E : Prop} (hgd : o.guard = none) (s x : Operand)
    (ho : o.op = .call { callee := .builtin .append, args := #[s, x], argTypes := #[30, 30] })
    (base g n cap : Nat) (L : List Rec) (hs : a.eval s = .slice (some ⟨g, 0, none⟩) n cap) (hown : w.ownsRow base 68 6 (.slice (some ⟨g, 0, none⟩) n cap) n (fl L))
    (b off m c B : Nat) (l : List Rec) (hx : a.eval x = .slice (some ⟨b, off, none⟩) m c) (hl : Sr w B (some ⟨b, off, none⟩) m l)
    (hnm : n + m ≤ 1900000000000) (hbase : base ≤ w.heap.size)
    (h : ∀ g' cap' w', w'.ownsRow base 68 6 (.slice (some ⟨g', 0, none⟩) (n + m) cap') (n + m) (fl (L ++ l)) → w.grownBy w' (some g) → K (a.put o.dst (.slice (some ⟨g', 0, none⟩) (n + m) cap')) w') :
    if Region.wanted o (yielded ops a.tmps) = true then Oper.wp Try.prog o a w K Q else E := by
  have hw : Region.wanted o (yielded ops a.tmps) = true := by simp [Region.wanted, hgd]
  rw [if_pos hw]
  obtain ⟨i0, hi, hz0, hz1, hz2⟩ := info_parts CopyR.info
  exact wp_append_own w s x 30 ho base 68 i0 _ 6 72 Try.underlying30 hi hz0 hz1 hz2 rfl (by decide) _ n (fl L) hs hown ⟨b, off, none⟩ m c (fl l) hx (by rw [fl_len, hl.1]) (cells_of hl) (one_fl l) (by unfold maxLen; omega) (by omega) hbase
    (fun v' w' h1 h2 h3 => by
      rcases h1.2 with ⟨hv, _⟩ | ⟨g', cap', cur, hv, _⟩
      · have := (h3.1 hv).1
        cases this
      · subst hv
        exact h g' cap' w' (by rw [fl_append]; exact h1) h2)

section
variable {w0 w w' : World} {g : Nat} {s : ByteArray} {x v : Value} {p : Addr}
theorem keptH (m : (Zx w g s x ∧ w.cell? p = some v) ∧ Svz w0 w) (hl : Below w.heap.size w w') : (Zx w' g s x ∧ w'.cell? p = some v) ∧ Svz w0 w' := ⟨⟨m.1.1.below hl, (hl.cell (World.block_lt_of_cell? _ _ m.1.2)).trans m.1.2⟩, m.2.trans (hl.mono m.2.size)⟩
theorem keptH_draw (m : (Zx w g s x ∧ w.cell? p = some v) ∧ Svz w0 w) : (Zx w.drew g s x ∧ w.drew.cell? p = some v) ∧ Svz w0 w.drew := keptH m ((Below.refl _ _).drew)
end

set_option maxRecDepth 100000 in
set_option maxHeartbeats 8000000 in
theorem spec (s : ByteArray) (b0 o0 n c : Nat) (l : List Rec) (b1 o1 nh ch : Nat) (H : List ByteArray) (w : World) (hs : Sr w w.heap.size (some ⟨b0, o0, none⟩) n l) (hh : Ss w w.heap.size (some ⟨b1, o1, none⟩) nh H) (hn : n ≤ 1048576) (hnh : nh ≤ 1048576) :
    Calls Try.prog 49 #[.agg #[.string s, .slice (some ⟨b0, o0, none⟩) n c], .slice (some ⟨b1, o1, none⟩) nh ch] w (GivesL w (gl H l)) := by
  have Z0 := Lib.hid ((zx_new w 32 s (.slice (some ⟨b0, o0, none⟩) n c)).alloc (.cells #[] 68))
  have L0 := Lib.hid (((Below.refl w.heap.size w).alloc (Nat.le_refl _) (.cells #[.string s, .slice (some ⟨b0, o0, none⟩) n c] 32)).alloc (by simp) (.cells #[] 68))
  have P0 := Lib.hid (owns_new (w.alloc (.cells #[.string s, .slice (some ⟨b0, o0, none⟩) n c] 32)))
  rw [show (w.alloc (.cells #[.string s, .slice (some ⟨b0, o0, none⟩) n c] 32)).heap.size = w.heap.size + 1 by simp] at P0
  have HS := Lib.hid hs
  have HH := Lib.hid hh
  clear hs hh
  go_enter Try.func49, Try.ntmps49
  go_wp2
  generalize (w.alloc (.cells #[.string s, .slice (some ⟨b0, o0, none⟩) n c] 32)).alloc (.cells #[] 68) = w0 at *
  go_loopw [5, 6] (fun out i wr => ∃ k g m cap : Nat, k ≤ nh ∧ m ≤ k * n ∧ i = .int .i64 k ∧ out = .slice (some ⟨g, 0, none⟩) m cap ∧ Hid (wr.ownsRow (w.heap.size + 1) 68 6 (.slice (some ⟨g, 0, none⟩) m cap) m (fl (gl (H.take k) l))) ∧ Hid (Zx wr w.heap.size s (.slice (some ⟨b0, o0, none⟩) n c)) ∧ Hid (Below w.heap.size w wr)) (fun _ i _ => nh - (intOf i).toNat)
  case atStart => exact ⟨0, w.heap.size + 1, 0, 0, Nat.zero_le _, Nat.zero_le _, rfl, rfl, P0.out, Z0.out, L0.out⟩
  case round =>
    clear Z0 L0 P0
    obtain ⟨k, g, m, cap, hk, hm, rfl, rfl, HO, HX, HL⟩ := hrel
    by_cases hlt : k < nh
    · obtain ⟨b, off, hA, hbB, hcs⟩ := HH.out.2 (by omega)
      obtain ⟨rfl, rfl⟩ : b1 = b ∧ o1 = off := by simp at hA; exact hA
      clear hA
      have hkl : k < H.length := by rw [HH.out.1]; exact hlt
      have e0 : wr.cell? ⟨b1, o1 + k, none⟩ = some (.string H[k]) := (HL.out.cell (p := ⟨b1, o1 + k, none⟩) hbB).trans (hcs k hkl)
      have YH := Lib.hid (hcs k hkl)
      clear hcs
      have HT := Lib.hid (gl_take H l k hkl)
      generalize H[k] = y at *
      have hmm : Hid (m ≤ 1100000000000) := show _ ≤ _ from Nat.le_trans hm (Nat.le_trans (Nat.mul_le_mul (show k ≤ 1048576 by omega) hn) (by decide))
      have lg : Hid (w.heap.size + 1 ≤ g ∧ g < wr.heap.size) := by obtain ⟨r', hb, _, _, h⟩ := bk_of_owns6 HO.out; exact ⟨h, hb.lt⟩
      have OD : Hid (wr.drew.ownsRow (w.heap.size + 1) 68 6 (.slice (some ⟨g, 0, none⟩) m cap) m (fl (gl (H.take k) l))) := HO.out
      have LD : Hid (Below w.heap.size w wr.drew) := HL.out.drew
      have CD := Lib.hid (SetS.spec y 1 b0 o0 n c l wr.drew (HS.out.on LD.out) (by omega))
      have XA : Hid (∀ w1 w2 : World, Below wr.drew.heap.size wr.drew w1 → w1.grownBy w2 (some g) → (Zx w2 w.heap.size s (.slice (some ⟨b0, o0, none⟩) n c) ∧ w2.cell? ⟨b1, o1 + k, none⟩ = some (.string y)) ∧ Svz w w2) := fun w1 w2 hl hgrow => by
        have L2 : Below w.heap.size w w2 := (LD.out.trans (hl.mono LD.out.size)).grown hgrow (Nat.le_trans LD.out.size hl.size) (fun j hj => by cases hj; have := lg.out.1; omega)
        exact ⟨⟨((HX.out.below ((Below.refl _ _).drew)).below hl).grown hgrow (fun e => by have := Option.some.inj e; have := lg.out.1; omega), (L2.cell (p := ⟨b1, o1 + k, none⟩) hbB).trans YH.out⟩, L2⟩
      have OA : Hid (∀ w1 : World, Below wr.drew.heap.size wr.drew w1 → w1.ownsRow (w.heap.size + 1) 68 6 (.slice (some ⟨g, 0, none⟩) m cap) m (fl (gl (H.take k) l)) ∧ w.heap.size + 1 ≤ w1.heap.size) := fun w1 hl => ⟨OD.out.kept (row := none) ⟨hl.os, hl.tape, hl.output, hl.size, fun k hk _ => hl.block k hk⟩ (Or.inr (fun e => by cases e)), Nat.le_trans (show w.heap.size + 1 ≤ wr.drew.heap.size from Nat.le_trans lg.out.1 (Nat.le_of_lt lg.out.2)) hl.size⟩
      have MS : Hid ((sf y 1 l).length ≤ n) := show _ ≤ _ by have := sf_len y 1 l; have := HS.out.1; omega
      have S0 : (Zx wr w.heap.size s (.slice (some ⟨b0, o0, none⟩) n c) ∧ wr.cell? ⟨b1, o1 + k, none⟩ = some (.string y)) ∧ Svz w wr := ⟨⟨HX.out, e0⟩, HL.out⟩
      go_wp2
      go_region_held3 (fun w' => ((w'.cell? ⟨w.heap.size, 0, none⟩ = some (.string s) ∧ w'.cell? ⟨w.heap.size, 1, none⟩ = some (.slice (some ⟨b0, o0, none⟩) n c)) ∧ w'.cell? ⟨b1, o1 + k, none⟩ = some (.string y)) ∧ Svz w w')
        (first | exact S0 | with_reducible assumption | exact keptH_draw (by assumption) | exact keptH (by assumption) hl | exact SR | fail)
        (first
          | (go_at_call 38; (with_reducible refine CD.out.mono ?_); rintro e w1 ⟨gs, ms, cs, rs, rfl, hz, hc, hg, hb, hl⟩)
          | (refine step_append_recs rfl (.tmp 14) (.tmp 21) rfl (w.heap.size + 1) g m cap (gl (H.take k) l) rfl (OA.out _ hl).1 gs 0 ms cs _ (sf y 1 l) rfl (bk_sr hb hz) (by have := MS.out; have := hmm.out; omega) (OA.out _ hl).2 ?_; intro g2 cap2 w2 hown hgrow; have SR := XA.out w1 w2 hl hgrow)
          | fail)
      have O3 := Lib.hid hown
      have X3 : Hid (Zx w2 w.heap.size s (.slice (some ⟨b0, o0, none⟩) n c)) := SR.1.1
      have L3 : Hid (Below w.heap.size w w2) := SR.2
      have hmn : ms ≤ n := by have := MS.out; omega
      clear hown hgrow SR S0 OA XA CD OD LD hb hl hg hc hz
      go_wp2
      go_roundw
      case rel => exact ⟨k + 1, g2, m + ms, cap2, by omega, by rw [Nat.add_mul, Nat.one_mul]; omega, by go_num, rfl, by rw [HT.out]; exact O3.out, X3.out, L3.out⟩
      case measure => simp [intOf]; omega
    · obtain rfl : nh = k := by omega
      have HN := Lib.hid (take_all HH.out.1)
      go_wp2
      go_ret
      have ho := HO.out
      rw [HN.out] at ho
      obtain ⟨r', hb, _, hcap, hg⟩ := bk_of_owns6 ho
      have hz : (gl H l).length = m := by have := ho.1; rw [fl_len] at this; omega
      exact ⟨g, m, cap, r', rfl, hz, hcap, by omega, hb, HL.out⟩
end Go.Proofs.Ytmabbeefeipnaaa.GlueS

/- What HelpIn does in the model: a new slice of the addresses of the servers of the cut. Condition: at most 1048576 records, no name of more than 400000000 bytes. -/
namespace Go.Proofs.Ytmabbeefeipnaaa.HlpS
open Go.RowKit Go.Proofs.Ytmabbeefeipnaaa.Mem Go.Proofs.Ytmabbeefeipnaaa.MemR Go.Proofs.Ytmabbeefeipnaaa.SetMath Go.Proofs.Ytmabbeefeipnaaa.NameMath Go.Proofs.Ytmabbeefeipnaaa.ZoneMath Go.Proofs.Ytmabbeefeipnaaa.ServeMath Go.Proofs.Ytmabbeefeipnaaa.MemZ Go.Proofs.Ytmabbeefeipnaaa.MemM Go.Proofs.Ytmabbeefeipnaaa.Wt Go.Proofs.Ytmabbeefeipnaaa.KindS Go.Proofs.Ytmabbeefeipnaaa.AppS Go.Proofs.Ytmabbeefeipnaaa.MemS

theorem keptm {w0 w w' : World} {g k : Nat} {s nm : ByteArray} {x : Value} {ty : Int} (m : (Zx w g s x ∧ Qx w k nm ty) ∧ Svz w0 w) (hl : Below w.heap.size w w') : (Zx w' g s x ∧ Qx w' k nm ty) ∧ Svz w0 w' := ⟨⟨m.1.1.below hl, m.1.2.below hl⟩, m.2.trans (hl.mono m.2.size)⟩

theorem keptm_draw {w0 w : World} {g k : Nat} {s nm : ByteArray} {x : Value} {ty : Int} (m : (Zx w g s x ∧ Qx w k nm ty) ∧ Svz w0 w) : (Zx w.drew g s x ∧ Qx w.drew k nm ty) ∧ Svz w0 w.drew := keptm m ((Below.refl _ _).drew)

set_option maxRecDepth 100000 in
set_option maxHeartbeats 8000000 in
theorem spec (s nm : ByteArray) (ty : Int) (b0 o0 n c : Nat) (l : List Rec) (w : World) (hs : Sr w w.heap.size (some ⟨b0, o0, none⟩) n l) (hn : n ≤ 1048576) (hm : s.size ≤ 400000000) (hq : nm.size ≤ 400000000) (hz : ∀ r ∈ l, r.name.size ≤ 400000000) :
    Calls Try.prog 24 #[.agg #[.string s, .slice (some ⟨b0, o0, none⟩) n c], .agg #[.string nm, .int .i64 ty]] w (GivesL w (hel (kd s nm ty l) s nm l)) := by
  obtain ⟨⟨hx, hy⟩, hl0⟩ := two w s nm ty (.slice (some ⟨b0, o0, none⟩) n c) 32 34
  have X0 := Lib.hid hx
  have Y0 := Lib.hid hy
  have L0 := Lib.hid hl0
  have S0 := Lib.hid (hs.on hl0)
  have KI := Lib.hid (fun W hW => KindS.spec s nm ty b0 o0 n c l W hW (by omega) hm hq hz)
  have MS := Lib.hid (fun W hW => MorS.spec s nm ty b0 o0 n c l W hW (by omega) hm hq hz)
  have HLN := Lib.hid hs.1
  have HML := Lib.hid (sf_len (cu s nm l) 2 l)
  clear hs hz hx hy hl0
  generalize kd s nm ty l = k at *
  obtain ⟨x0, x1⟩ := X0.out
  obtain ⟨y0, y1⟩ := Y0.out
  go_enter Try.func24, Try.ntmps24
  go_wp2_with fail
  refine (KI.out _ S0.out).mono ?_
  rintro e w1 ⟨rfl, hl⟩
  have X1 := Lib.hid (X0.out.below hl)
  have Y1 := Lib.hid (Y0.out.below hl)
  have S1 := Lib.hid (S0.out.on hl)
  have L1 := Lib.hid (L0.out.trans (hl.mono L0.out.size))
  clear hl KI X0 Y0 S0 L0 x0 x1 y0 y1
  obtain ⟨x0, x1⟩ := X1.out
  obtain ⟨y0, y1⟩ := Y1.out
  by_cases h1 : k = 1
  · have HA : Hid (hel k s nm l = gl (uq (hl (sf (cu s nm l) 2 l))) l) := if_pos h1
    have HM : mol k s nm l = sf (cu s nm l) 2 l := if_pos h1
    rw [HM] at MS
    subst h1
    clear HM
    generalize sf (cu s nm l) 2 l = lm at *
    have LM : Hid (lm.length ≤ 1048576) := show _ ≤ _ by have := HML.out; have := HLN.out; omega
    have HHL : Hid ((uq (hl lm)).length ≤ 1048576) := show _ ≤ _ by have h1 := len_uq (hl lm); have h2 := hl_len lm; have := LM.out; omega
    have HS := Lib.hid (fun (b o m c : Nat) (W : World) (hW : Sr W W.heap.size (some ⟨b, o, none⟩) m lm) (hm : m ≤ 400000000) => HostS.spec b o m c lm W hW hm)
    generalize uq (hl lm) = H at *
    have GS := Lib.hid (fun (h m c' : Nat) (W : World) (hW : Sr W W.heap.size (some ⟨b0, o0, none⟩) n l) (hh : Ss W W.heap.size (some ⟨h, 0, none⟩) m H) (hm : m ≤ 1048576) => GlueS.spec s b0 o0 n c l h 0 m c' H W hW hh (by omega) hm)
    have MSR : Hid (∀ W : World, ((W.cell? ⟨w.heap.size, 0, none⟩ = some (.string s) ∧ W.cell? ⟨w.heap.size, 1, none⟩ = some (.slice (some ⟨b0, o0, none⟩) n c)) ∧ (W.cell? ⟨w.heap.size + 1, 0, none⟩ = some (.string nm) ∧ W.cell? ⟨w.heap.size + 1, 1, none⟩ = some (.int .i64 ty))) ∧ Svz w1 W → Calls Try.prog 22 #[.agg #[.string s, .slice (some ⟨b0, o0, none⟩) n c], .agg #[.string nm, .int .i64 ty]] W (GivesL W lm)) := fun W hW => MS.out W (S1.out.on hW.2)
    have SS0 : ((w1.cell? ⟨w.heap.size, 0, none⟩ = some (.string s) ∧ w1.cell? ⟨w.heap.size, 1, none⟩ = some (.slice (some ⟨b0, o0, none⟩) n c)) ∧ (w1.cell? ⟨w.heap.size + 1, 0, none⟩ = some (.string nm) ∧ w1.cell? ⟨w.heap.size + 1, 1, none⟩ = some (.int .i64 ty))) ∧ Svz w1 w1 := ⟨⟨X1.out, Y1.out⟩, Below.refl _ _⟩
    go_wp2
    go_region_held3 (fun w' => ((w'.cell? ⟨w.heap.size, 0, none⟩ = some (.string s) ∧ w'.cell? ⟨w.heap.size, 1, none⟩ = some (.slice (some ⟨b0, o0, none⟩) n c)) ∧ (w'.cell? ⟨w.heap.size + 1, 0, none⟩ = some (.string nm) ∧ w'.cell? ⟨w.heap.size + 1, 1, none⟩ = some (.int .i64 ty))) ∧ Svz w1 w')
      (first | with_reducible exact SS0 | with_reducible assumption | exact keptm (by assumption) hl | exact keptm_draw (by assumption) | fail)
      (first
        | (go_at_call 22; (with_reducible refine (MSR.out _ (by assumption)).mono ?_); rintro e w2 ⟨g2, m2, c2, r2, rfl, hz2, hc2, hg2, hb2, hl⟩; have hl2 := hl)
        | (go_at_call 50; (with_reducible refine (HS.out g2 0 m2 c2 _ (bk_sr hb2 hz2) (by have := LM.out; omega)).mono ?_); rintro e w3 ⟨g3, m3, c3, r3, rfl, hz3, hc3, hg3, hb3, hl⟩; have hl3 := hl)
        | (go_at_call 49; have hS3 : Below w1.heap.size w1 w3 := (by assumption : ((w3.cell? ⟨w.heap.size, 0, none⟩ = some (.string s) ∧ w3.cell? ⟨w.heap.size, 1, none⟩ = some (.slice (some ⟨b0, o0, none⟩) n c)) ∧ (w3.cell? ⟨w.heap.size + 1, 0, none⟩ = some (.string nm) ∧ w3.cell? ⟨w.heap.size + 1, 1, none⟩ = some (.int .i64 ty))) ∧ Svz w1 w3).2; (with_reducible refine (GS.out g3 m3 _ _ (S1.out.on hS3) (bk_ssw hb3 hz3) (by have := HHL.out; omega)).mono ?_); rintro e w4 ⟨g4, m4, c4, r4, rfl, hz4, hc4, hg4, hb4, hl⟩; have hl4 := hl)
        | fail)
    rename_i hH
    have F4 := Lib.hid (And.intro hz4 (And.intro hc4 (And.intro (Nat.le_trans (Nat.le_trans L1.out.size hS3.size) hg4) hb4)))
    have L4 := Lib.hid (L1.out.trans ((show Below w1.heap.size w1 w4 from hH.2).mono L1.out.size))
    clear hH hS3 hl hl2 hl3 hl4 hz4 hc4 hg4 hb4 hz3 hc3 hg3 hb3 hz2 hc2 hg2 hb2 SS0 MSR HS GS
    go_wp2
    go_ret
    exact ⟨g4, m4, c4, r4, rfl, by rw [HA.out]; exact F4.out.1, F4.out.2.1, F4.out.2.2.1, by rw [HA.out]; exact F4.out.2.2.2, L4.out⟩
  · have t1 : (k != 1) = true := by simpa using h1
    have HA : Hid (hel k s nm l = []) := if_neg h1
    clear h1
    have B2 := Lib.hid (AppR.owns_new w1)
    have L2 := Lib.hid (L1.out.trans (((Below.refl w1.heap.size w1).alloc (Nat.le_refl _) (.cells #[] 68)).mono L1.out.size))
    have N2 := Lib.hid (heap_alloc_new w1 (.cells #[] 68))
    have G2 : Hid (w.heap.size ≤ w1.heap.size) := L1.out.size
    go_wp2
    go_ret
    exact ⟨w1.heap.size, 0, 0, [], rfl, by rw [HA.out]; rfl, Nat.le_refl _, G2.out, by rw [HA.out]; exact N2.out, L2.out⟩

end Go.Proofs.Ytmabbeefeipnaaa.HlpS

/- What Serve does in the model: a reply with the code, the flag and the first eight records of each section. Condition: at most 1048576 records, no name of more than 400000000 bytes. -/
namespace Go.Proofs.Ytmabbeefeipnaaa.ServS
open Go.RowKit Go.Proofs.Ytmabbeefeipnaaa.Mem Go.Proofs.Ytmabbeefeipnaaa.MemR Go.Proofs.Ytmabbeefeipnaaa.SetMath Go.Proofs.Ytmabbeefeipnaaa.ZoneMath Go.Proofs.Ytmabbeefeipnaaa.ServeMath Go.Proofs.Ytmabbeefeipnaaa.MemZ Go.Proofs.Ytmabbeefeipnaaa.MemM Go.Proofs.Ytmabbeefeipnaaa.BoxR Go.Proofs.Ytmabbeefeipnaaa.CpyR Go.Proofs.Ytmabbeefeipnaaa.ResM Go.Proofs.Ytmabbeefeipnaaa.RepM Go.Proofs.Ytmabbeefeipnaaa.Wt Go.Proofs.Ytmabbeefeipnaaa.ShoS Go.Proofs.Ytmabbeefeipnaaa.ServI

theorem on {w w' : World} {g : Nat} {t : TypeId} {cs : List Value} (k : Bk w g t cs) (hl : Below w.heap.size w w') : Bk w' g t cs := k.below hl k.lt

section
variable {w0 w w1 w' : World} {k : Nat} {g j : Nat} {s : ByteArray} {x : Value} {h : Hd} {A1 A2 A3 : Option Addr} {n1 c1 n2 c2 n3 c3 : Nat}

theorem keptS (m : (((w.cell? ⟨j, 0, none⟩ = some (.string s) ∧ w.cell? ⟨j, 1, none⟩ = some x) ∧ (w.cell? ⟨g, 0, none⟩ = some (.int .i64 h.id) ∧ w.cell? ⟨g, 1, none⟩ = some (.bool h.rp) ∧ w.cell? ⟨g, 2, none⟩ = some (.bool h.au) ∧ w.cell? ⟨g, 3, none⟩ = some (.bool h.ct) ∧ w.cell? ⟨g, 4, none⟩ = some (.bool h.wa) ∧ w.cell? ⟨g, 5, none⟩ = some (.bool h.ca) ∧ w.cell? ⟨g, 6, none⟩ = some (.int .i64 h.code) ∧ w.cell? ⟨g, 7, none⟩ = some (.string h.qn) ∧ w.cell? ⟨g, 8, none⟩ = some (.int .i64 h.qt) ∧ w.cell? ⟨g, 9, none⟩ = some (.slice A1 n1 c1) ∧ w.cell? ⟨g, 10, none⟩ = some (.slice A2 n2 c2) ∧ w.cell? ⟨g, 11, none⟩ = some (.slice A3 n3 c3))) ∧ RB w k) ∧ Sv w0 w) (hl : Below w.heap.size w w') : (((w'.cell? ⟨j, 0, none⟩ = some (.string s) ∧ w'.cell? ⟨j, 1, none⟩ = some x) ∧ (w'.cell? ⟨g, 0, none⟩ = some (.int .i64 h.id) ∧ w'.cell? ⟨g, 1, none⟩ = some (.bool h.rp) ∧ w'.cell? ⟨g, 2, none⟩ = some (.bool h.au) ∧ w'.cell? ⟨g, 3, none⟩ = some (.bool h.ct) ∧ w'.cell? ⟨g, 4, none⟩ = some (.bool h.wa) ∧ w'.cell? ⟨g, 5, none⟩ = some (.bool h.ca) ∧ w'.cell? ⟨g, 6, none⟩ = some (.int .i64 h.code) ∧ w'.cell? ⟨g, 7, none⟩ = some (.string h.qn) ∧ w'.cell? ⟨g, 8, none⟩ = some (.int .i64 h.qt) ∧ w'.cell? ⟨g, 9, none⟩ = some (.slice A1 n1 c1) ∧ w'.cell? ⟨g, 10, none⟩ = some (.slice A2 n2 c2) ∧ w'.cell? ⟨g, 11, none⟩ = some (.slice A3 n3 c3))) ∧ RB w' k) ∧ Sv w0 w' :=
  ⟨⟨⟨Zx.below m.1.1.1 hl, Mx.below m.1.1.2 hl⟩, m.1.2.below hl⟩, m.2.trans (hl.mono m.2.size)⟩

theorem keptS_draw (m : (((w.cell? ⟨j, 0, none⟩ = some (.string s) ∧ w.cell? ⟨j, 1, none⟩ = some x) ∧ (w.cell? ⟨g, 0, none⟩ = some (.int .i64 h.id) ∧ w.cell? ⟨g, 1, none⟩ = some (.bool h.rp) ∧ w.cell? ⟨g, 2, none⟩ = some (.bool h.au) ∧ w.cell? ⟨g, 3, none⟩ = some (.bool h.ct) ∧ w.cell? ⟨g, 4, none⟩ = some (.bool h.wa) ∧ w.cell? ⟨g, 5, none⟩ = some (.bool h.ca) ∧ w.cell? ⟨g, 6, none⟩ = some (.int .i64 h.code) ∧ w.cell? ⟨g, 7, none⟩ = some (.string h.qn) ∧ w.cell? ⟨g, 8, none⟩ = some (.int .i64 h.qt) ∧ w.cell? ⟨g, 9, none⟩ = some (.slice A1 n1 c1) ∧ w.cell? ⟨g, 10, none⟩ = some (.slice A2 n2 c2) ∧ w.cell? ⟨g, 11, none⟩ = some (.slice A3 n3 c3))) ∧ RB w k) ∧ Sv w0 w) : (((w.drew.cell? ⟨j, 0, none⟩ = some (.string s) ∧ w.drew.cell? ⟨j, 1, none⟩ = some x) ∧ (w.drew.cell? ⟨g, 0, none⟩ = some (.int .i64 h.id) ∧ w.drew.cell? ⟨g, 1, none⟩ = some (.bool h.rp) ∧ w.drew.cell? ⟨g, 2, none⟩ = some (.bool h.au) ∧ w.drew.cell? ⟨g, 3, none⟩ = some (.bool h.ct) ∧ w.drew.cell? ⟨g, 4, none⟩ = some (.bool h.wa) ∧ w.drew.cell? ⟨g, 5, none⟩ = some (.bool h.ca) ∧ w.drew.cell? ⟨g, 6, none⟩ = some (.int .i64 h.code) ∧ w.drew.cell? ⟨g, 7, none⟩ = some (.string h.qn) ∧ w.drew.cell? ⟨g, 8, none⟩ = some (.int .i64 h.qt) ∧ w.drew.cell? ⟨g, 9, none⟩ = some (.slice A1 n1 c1) ∧ w.drew.cell? ⟨g, 10, none⟩ = some (.slice A2 n2 c2) ∧ w.drew.cell? ⟨g, 11, none⟩ = some (.slice A3 n3 c3))) ∧ RB w.drew k) ∧ Sv w0 w.drew := keptS m ((Below.refl _ _).drew)

theorem keptS_put (m : (((w.cell? ⟨j, 0, none⟩ = some (.string s) ∧ w.cell? ⟨j, 1, none⟩ = some x) ∧ (w.cell? ⟨g, 0, none⟩ = some (.int .i64 h.id) ∧ w.cell? ⟨g, 1, none⟩ = some (.bool h.rp) ∧ w.cell? ⟨g, 2, none⟩ = some (.bool h.au) ∧ w.cell? ⟨g, 3, none⟩ = some (.bool h.ct) ∧ w.cell? ⟨g, 4, none⟩ = some (.bool h.wa) ∧ w.cell? ⟨g, 5, none⟩ = some (.bool h.ca) ∧ w.cell? ⟨g, 6, none⟩ = some (.int .i64 h.code) ∧ w.cell? ⟨g, 7, none⟩ = some (.string h.qn) ∧ w.cell? ⟨g, 8, none⟩ = some (.int .i64 h.qt) ∧ w.cell? ⟨g, 9, none⟩ = some (.slice A1 n1 c1) ∧ w.cell? ⟨g, 10, none⟩ = some (.slice A2 n2 c2) ∧ w.cell? ⟨g, 11, none⟩ = some (.slice A3 n3 c3))) ∧ RB w k) ∧ Sv w0 w) (h0 : w0.heap.size ≤ k) (h1 : j ≠ k) (h2 : g ≠ k) (i : Nat) (v : Value) : ((((w.setCell ⟨k, i, none⟩ v).cell? ⟨j, 0, none⟩ = some (.string s) ∧ (w.setCell ⟨k, i, none⟩ v).cell? ⟨j, 1, none⟩ = some x) ∧ ((w.setCell ⟨k, i, none⟩ v).cell? ⟨g, 0, none⟩ = some (.int .i64 h.id) ∧ (w.setCell ⟨k, i, none⟩ v).cell? ⟨g, 1, none⟩ = some (.bool h.rp) ∧ (w.setCell ⟨k, i, none⟩ v).cell? ⟨g, 2, none⟩ = some (.bool h.au) ∧ (w.setCell ⟨k, i, none⟩ v).cell? ⟨g, 3, none⟩ = some (.bool h.ct) ∧ (w.setCell ⟨k, i, none⟩ v).cell? ⟨g, 4, none⟩ = some (.bool h.wa) ∧ (w.setCell ⟨k, i, none⟩ v).cell? ⟨g, 5, none⟩ = some (.bool h.ca) ∧ (w.setCell ⟨k, i, none⟩ v).cell? ⟨g, 6, none⟩ = some (.int .i64 h.code) ∧ (w.setCell ⟨k, i, none⟩ v).cell? ⟨g, 7, none⟩ = some (.string h.qn) ∧ (w.setCell ⟨k, i, none⟩ v).cell? ⟨g, 8, none⟩ = some (.int .i64 h.qt) ∧ (w.setCell ⟨k, i, none⟩ v).cell? ⟨g, 9, none⟩ = some (.slice A1 n1 c1) ∧ (w.setCell ⟨k, i, none⟩ v).cell? ⟨g, 10, none⟩ = some (.slice A2 n2 c2) ∧ (w.setCell ⟨k, i, none⟩ v).cell? ⟨g, 11, none⟩ = some (.slice A3 n3 c3))) ∧ RB (w.setCell ⟨k, i, none⟩ v) k) ∧ Sv w0 (w.setCell ⟨k, i, none⟩ v) :=
  ⟨⟨⟨Zx.set1 m.1.1.1 (p := ⟨k, i, none⟩) h1 v, Mx.set1 m.1.1.2 (p := ⟨k, i, none⟩) h2 v⟩, m.1.2.put i v⟩, Below.setCell m.2 (p := ⟨k, i, none⟩) h0 v⟩

theorem keptS_fil (m : (((w1.cell? ⟨j, 0, none⟩ = some (.string s) ∧ w1.cell? ⟨j, 1, none⟩ = some x) ∧ (w1.cell? ⟨g, 0, none⟩ = some (.int .i64 h.id) ∧ w1.cell? ⟨g, 1, none⟩ = some (.bool h.rp) ∧ w1.cell? ⟨g, 2, none⟩ = some (.bool h.au) ∧ w1.cell? ⟨g, 3, none⟩ = some (.bool h.ct) ∧ w1.cell? ⟨g, 4, none⟩ = some (.bool h.wa) ∧ w1.cell? ⟨g, 5, none⟩ = some (.bool h.ca) ∧ w1.cell? ⟨g, 6, none⟩ = some (.int .i64 h.code) ∧ w1.cell? ⟨g, 7, none⟩ = some (.string h.qn) ∧ w1.cell? ⟨g, 8, none⟩ = some (.int .i64 h.qt) ∧ w1.cell? ⟨g, 9, none⟩ = some (.slice A1 n1 c1) ∧ w1.cell? ⟨g, 10, none⟩ = some (.slice A2 n2 c2) ∧ w1.cell? ⟨g, 11, none⟩ = some (.slice A3 n3 c3))) ∧ RB w1 k) ∧ Sv w0 w1) (h0 : w0.heap.size ≤ k) (h1 : j ≠ k) (h2 : g ≠ k) (v0 v1 v2 v3 v4 v5 v6 v7 v8 v9 v10 v11 : Value) : (((((((((((((((w1.setCell ⟨k, 0, none⟩ v0).setCell ⟨k, 1, none⟩ v1).setCell ⟨k, 2, none⟩ v2).setCell ⟨k, 3, none⟩ v3).setCell ⟨k, 4, none⟩ v4).setCell ⟨k, 5, none⟩ v5).setCell ⟨k, 6, none⟩ v6).setCell ⟨k, 7, none⟩ v7).setCell ⟨k, 8, none⟩ v8).setCell ⟨k, 9, none⟩ v9).setCell ⟨k, 10, none⟩ v10).setCell ⟨k, 11, none⟩ v11).cell? ⟨j, 0, none⟩ = some (.string s) ∧ ((((((((((((w1.setCell ⟨k, 0, none⟩ v0).setCell ⟨k, 1, none⟩ v1).setCell ⟨k, 2, none⟩ v2).setCell ⟨k, 3, none⟩ v3).setCell ⟨k, 4, none⟩ v4).setCell ⟨k, 5, none⟩ v5).setCell ⟨k, 6, none⟩ v6).setCell ⟨k, 7, none⟩ v7).setCell ⟨k, 8, none⟩ v8).setCell ⟨k, 9, none⟩ v9).setCell ⟨k, 10, none⟩ v10).setCell ⟨k, 11, none⟩ v11).cell? ⟨j, 1, none⟩ = some x) ∧ (((((((((((((w1.setCell ⟨k, 0, none⟩ v0).setCell ⟨k, 1, none⟩ v1).setCell ⟨k, 2, none⟩ v2).setCell ⟨k, 3, none⟩ v3).setCell ⟨k, 4, none⟩ v4).setCell ⟨k, 5, none⟩ v5).setCell ⟨k, 6, none⟩ v6).setCell ⟨k, 7, none⟩ v7).setCell ⟨k, 8, none⟩ v8).setCell ⟨k, 9, none⟩ v9).setCell ⟨k, 10, none⟩ v10).setCell ⟨k, 11, none⟩ v11).cell? ⟨g, 0, none⟩ = some (.int .i64 h.id) ∧ ((((((((((((w1.setCell ⟨k, 0, none⟩ v0).setCell ⟨k, 1, none⟩ v1).setCell ⟨k, 2, none⟩ v2).setCell ⟨k, 3, none⟩ v3).setCell ⟨k, 4, none⟩ v4).setCell ⟨k, 5, none⟩ v5).setCell ⟨k, 6, none⟩ v6).setCell ⟨k, 7, none⟩ v7).setCell ⟨k, 8, none⟩ v8).setCell ⟨k, 9, none⟩ v9).setCell ⟨k, 10, none⟩ v10).setCell ⟨k, 11, none⟩ v11).cell? ⟨g, 1, none⟩ = some (.bool h.rp) ∧ ((((((((((((w1.setCell ⟨k, 0, none⟩ v0).setCell ⟨k, 1, none⟩ v1).setCell ⟨k, 2, none⟩ v2).setCell ⟨k, 3, none⟩ v3).setCell ⟨k, 4, none⟩ v4).setCell ⟨k, 5, none⟩ v5).setCell ⟨k, 6, none⟩ v6).setCell ⟨k, 7, none⟩ v7).setCell ⟨k, 8, none⟩ v8).setCell ⟨k, 9, none⟩ v9).setCell ⟨k, 10, none⟩ v10).setCell ⟨k, 11, none⟩ v11).cell? ⟨g, 2, none⟩ = some (.bool h.au) ∧ ((((((((((((w1.setCell ⟨k, 0, none⟩ v0).setCell ⟨k, 1, none⟩ v1).setCell ⟨k, 2, none⟩ v2).setCell ⟨k, 3, none⟩ v3).setCell ⟨k, 4, none⟩ v4).setCell ⟨k, 5, none⟩ v5).setCell ⟨k, 6, none⟩ v6).setCell ⟨k, 7, none⟩ v7).setCell ⟨k, 8, none⟩ v8).setCell ⟨k, 9, none⟩ v9).setCell ⟨k, 10, none⟩ v10).setCell ⟨k, 11, none⟩ v11).cell? ⟨g, 3, none⟩ = some (.bool h.ct) ∧ ((((((((((((w1.setCell ⟨k, 0, none⟩ v0).setCell ⟨k, 1, none⟩ v1).setCell ⟨k, 2, none⟩ v2).setCell ⟨k, 3, none⟩ v3).setCell ⟨k, 4, none⟩ v4).setCell ⟨k, 5, none⟩ v5).setCell ⟨k, 6, none⟩ v6).setCell ⟨k, 7, none⟩ v7).setCell ⟨k, 8, none⟩ v8).setCell ⟨k, 9, none⟩ v9).setCell ⟨k, 10, none⟩ v10).setCell ⟨k, 11, none⟩ v11).cell? ⟨g, 4, none⟩ = some (.bool h.wa) ∧ ((((((((((((w1.setCell ⟨k, 0, none⟩ v0).setCell ⟨k, 1, none⟩ v1).setCell ⟨k, 2, none⟩ v2).setCell ⟨k, 3, none⟩ v3).setCell ⟨k, 4, none⟩ v4).setCell ⟨k, 5, none⟩ v5).setCell ⟨k, 6, none⟩ v6).setCell ⟨k, 7, none⟩ v7).setCell ⟨k, 8, none⟩ v8).setCell ⟨k, 9, none⟩ v9).setCell ⟨k, 10, none⟩ v10).setCell ⟨k, 11, none⟩ v11).cell? ⟨g, 5, none⟩ = some (.bool h.ca) ∧ ((((((((((((w1.setCell ⟨k, 0, none⟩ v0).setCell ⟨k, 1, none⟩ v1).setCell ⟨k, 2, none⟩ v2).setCell ⟨k, 3, none⟩ v3).setCell ⟨k, 4, none⟩ v4).setCell ⟨k, 5, none⟩ v5).setCell ⟨k, 6, none⟩ v6).setCell ⟨k, 7, none⟩ v7).setCell ⟨k, 8, none⟩ v8).setCell ⟨k, 9, none⟩ v9).setCell ⟨k, 10, none⟩ v10).setCell ⟨k, 11, none⟩ v11).cell? ⟨g, 6, none⟩ = some (.int .i64 h.code) ∧ ((((((((((((w1.setCell ⟨k, 0, none⟩ v0).setCell ⟨k, 1, none⟩ v1).setCell ⟨k, 2, none⟩ v2).setCell ⟨k, 3, none⟩ v3).setCell ⟨k, 4, none⟩ v4).setCell ⟨k, 5, none⟩ v5).setCell ⟨k, 6, none⟩ v6).setCell ⟨k, 7, none⟩ v7).setCell ⟨k, 8, none⟩ v8).setCell ⟨k, 9, none⟩ v9).setCell ⟨k, 10, none⟩ v10).setCell ⟨k, 11, none⟩ v11).cell? ⟨g, 7, none⟩ = some (.string h.qn) ∧ ((((((((((((w1.setCell ⟨k, 0, none⟩ v0).setCell ⟨k, 1, none⟩ v1).setCell ⟨k, 2, none⟩ v2).setCell ⟨k, 3, none⟩ v3).setCell ⟨k, 4, none⟩ v4).setCell ⟨k, 5, none⟩ v5).setCell ⟨k, 6, none⟩ v6).setCell ⟨k, 7, none⟩ v7).setCell ⟨k, 8, none⟩ v8).setCell ⟨k, 9, none⟩ v9).setCell ⟨k, 10, none⟩ v10).setCell ⟨k, 11, none⟩ v11).cell? ⟨g, 8, none⟩ = some (.int .i64 h.qt) ∧ ((((((((((((w1.setCell ⟨k, 0, none⟩ v0).setCell ⟨k, 1, none⟩ v1).setCell ⟨k, 2, none⟩ v2).setCell ⟨k, 3, none⟩ v3).setCell ⟨k, 4, none⟩ v4).setCell ⟨k, 5, none⟩ v5).setCell ⟨k, 6, none⟩ v6).setCell ⟨k, 7, none⟩ v7).setCell ⟨k, 8, none⟩ v8).setCell ⟨k, 9, none⟩ v9).setCell ⟨k, 10, none⟩ v10).setCell ⟨k, 11, none⟩ v11).cell? ⟨g, 9, none⟩ = some (.slice A1 n1 c1) ∧ ((((((((((((w1.setCell ⟨k, 0, none⟩ v0).setCell ⟨k, 1, none⟩ v1).setCell ⟨k, 2, none⟩ v2).setCell ⟨k, 3, none⟩ v3).setCell ⟨k, 4, none⟩ v4).setCell ⟨k, 5, none⟩ v5).setCell ⟨k, 6, none⟩ v6).setCell ⟨k, 7, none⟩ v7).setCell ⟨k, 8, none⟩ v8).setCell ⟨k, 9, none⟩ v9).setCell ⟨k, 10, none⟩ v10).setCell ⟨k, 11, none⟩ v11).cell? ⟨g, 10, none⟩ = some (.slice A2 n2 c2) ∧ ((((((((((((w1.setCell ⟨k, 0, none⟩ v0).setCell ⟨k, 1, none⟩ v1).setCell ⟨k, 2, none⟩ v2).setCell ⟨k, 3, none⟩ v3).setCell ⟨k, 4, none⟩ v4).setCell ⟨k, 5, none⟩ v5).setCell ⟨k, 6, none⟩ v6).setCell ⟨k, 7, none⟩ v7).setCell ⟨k, 8, none⟩ v8).setCell ⟨k, 9, none⟩ v9).setCell ⟨k, 10, none⟩ v10).setCell ⟨k, 11, none⟩ v11).cell? ⟨g, 11, none⟩ = some (.slice A3 n3 c3))) ∧ RB ((((((((((((w1.setCell ⟨k, 0, none⟩ v0).setCell ⟨k, 1, none⟩ v1).setCell ⟨k, 2, none⟩ v2).setCell ⟨k, 3, none⟩ v3).setCell ⟨k, 4, none⟩ v4).setCell ⟨k, 5, none⟩ v5).setCell ⟨k, 6, none⟩ v6).setCell ⟨k, 7, none⟩ v7).setCell ⟨k, 8, none⟩ v8).setCell ⟨k, 9, none⟩ v9).setCell ⟨k, 10, none⟩ v10).setCell ⟨k, 11, none⟩ v11) k) ∧ Sv w0 ((((((((((((w1.setCell ⟨k, 0, none⟩ v0).setCell ⟨k, 1, none⟩ v1).setCell ⟨k, 2, none⟩ v2).setCell ⟨k, 3, none⟩ v3).setCell ⟨k, 4, none⟩ v4).setCell ⟨k, 5, none⟩ v5).setCell ⟨k, 6, none⟩ v6).setCell ⟨k, 7, none⟩ v7).setCell ⟨k, 8, none⟩ v8).setCell ⟨k, 9, none⟩ v9).setCell ⟨k, 10, none⟩ v10).setCell ⟨k, 11, none⟩ v11) :=
  (keptS_put (keptS_put (keptS_put (keptS_put (keptS_put (keptS_put (keptS_put (keptS_put (keptS_put (keptS_put (keptS_put (keptS_put m h0 h1 h2 0 v0) h0 h1 h2 1 v1) h0 h1 h2 2 v2) h0 h1 h2 3 v3) h0 h1 h2 4 v4) h0 h1 h2 5 v5) h0 h1 h2 6 v6) h0 h1 h2 7 v7) h0 h1 h2 8 v8) h0 h1 h2 9 v9) h0 h1 h2 10 v10) h0 h1 h2 11 v11)
end

set_option maxRecDepth 100000 in
set_option maxHeartbeats 4000000 in
theorem spec (s : ByteArray) (b0 o0 n c : Nat) (l : List Rec) (h : Hd) (A1 A2 A3 : Option Addr) (n1 c1 n2 c2 n3 c3 : Nat) (w : World) (hs : Sr w w.heap.size (some ⟨b0, o0, none⟩) n l) (hn : n ≤ 1048576) (hm : s.size ≤ 400000000) (hq : h.qn.size ≤ 400000000) (hz : ∀ r ∈ l, r.name.size ≤ 400000000) :
    Calls Try.prog 27 #[.agg #[.string s, .slice (some ⟨b0, o0, none⟩) n c], .agg #[.int .i64 h.id, .bool h.rp, .bool h.au, .bool h.ct, .bool h.wa, .bool h.ca, .int .i64 h.code, .string h.qn, .int .i64 h.qt, .slice A1 n1 c1, .slice A2 n2 c2, .slice A3 n3 c3]] w (GivesS8 w h (kd s h.qn h.qt l) (anl (kd s h.qn h.qt l) h.qn h.qt l) (mol (kd s h.qn h.qt l) s h.qn l) (hel (kd s h.qn h.qt l) s h.qn l)) := by
  obtain ⟨⟨hx, hy⟩, hb0, hl0⟩ := boxes w s (.slice (some ⟨b0, o0, none⟩) n c) h A1 A2 A3 n1 c1 n2 c2 n3 c3 32 46 46
  have X0 := Lib.hid hx
  have Y0 := Lib.hid hy
  have R0 := Lib.hid hb0
  have L0 := Lib.hid hl0
  have HS := Lib.hid hs
  have KI := Lib.hid (fun W hW => KindS.spec s h.qn h.qt b0 o0 n c l W hW (by omega) hm hq hz)
  have AS := Lib.hid (fun W hW => AnsS.spec s h.qn h.qt b0 o0 n c l W hW (by omega) hm hq hz)
  have MS := Lib.hid (fun W hW => MorS.spec s h.qn h.qt b0 o0 n c l W hW (by omega) hm hq hz)
  have HP := Lib.hid (fun W hW => HlpS.spec s h.qn h.qt b0 o0 n c l W hW hn hm hq hz)
  have K6 := kd_six s h.qn h.qt l
  clear hx hy hb0 hl0 hs hz
  generalize kd s h.qn h.qt l = kk at *
  generalize anl kk h.qn h.qt l = J1 at *
  generalize mol kk s h.qn l = J2 at *
  generalize hel kk s h.qn l = J3 at *
  obtain ⟨x0, x1⟩ := X0.out
  obtain ⟨y0, y1, y2, y3, y4, y5, y6, y7, y8, y9, y10, y11⟩ := Y0.out
  go_enter Try.func27, Try.ntmps27
  go_wp2_with fail
  refine (KI.out _ (HS.out.on L0.out)).mono ?_
  rintro e w2 ⟨rfl, hl⟩
  have X2 := Lib.hid (X0.out.below hl)
  have Y2 := Lib.hid (Y0.out.below hl)
  have R2 := Lib.hid (R0.out.below hl R0.out.lt)
  have L2 := Lib.hid (L0.out.trans (hl.mono L0.out.size))
  have ne0 : w.heap.size ≤ w.heap.size + 1 + 1 := by omega
  have ne1 : w.heap.size ≠ w.heap.size + 1 + 1 := by omega
  have ne2 : w.heap.size + 1 ≠ w.heap.size + 1 + 1 := by omega
  clear hl KI X0 Y0 R0 L0 x0 x1 y0 y1 y2 y3 y4 y5 y6 y7 y8 y9 y10 y11
  have ASR : Hid (∀ W : World, (((W.cell? ⟨w.heap.size, 0, none⟩ = some (.string s) ∧ W.cell? ⟨w.heap.size, 1, none⟩ = some (.slice (some ⟨b0, o0, none⟩) n c)) ∧ (W.cell? ⟨w.heap.size + 1, 0, none⟩ = some (.int .i64 h.id) ∧ W.cell? ⟨w.heap.size + 1, 1, none⟩ = some (.bool h.rp) ∧ W.cell? ⟨w.heap.size + 1, 2, none⟩ = some (.bool h.au) ∧ W.cell? ⟨w.heap.size + 1, 3, none⟩ = some (.bool h.ct) ∧ W.cell? ⟨w.heap.size + 1, 4, none⟩ = some (.bool h.wa) ∧ W.cell? ⟨w.heap.size + 1, 5, none⟩ = some (.bool h.ca) ∧ W.cell? ⟨w.heap.size + 1, 6, none⟩ = some (.int .i64 h.code) ∧ W.cell? ⟨w.heap.size + 1, 7, none⟩ = some (.string h.qn) ∧ W.cell? ⟨w.heap.size + 1, 8, none⟩ = some (.int .i64 h.qt) ∧ W.cell? ⟨w.heap.size + 1, 9, none⟩ = some (.slice A1 n1 c1) ∧ W.cell? ⟨w.heap.size + 1, 10, none⟩ = some (.slice A2 n2 c2) ∧ W.cell? ⟨w.heap.size + 1, 11, none⟩ = some (.slice A3 n3 c3))) ∧ RB W (w.heap.size + 1 + 1)) ∧ Sv w W → Calls Try.prog 16 #[.agg #[.string s, .slice (some ⟨b0, o0, none⟩) n c], .agg #[.string h.qn, .int .i64 h.qt]] W (GivesL W J1)) := fun W hW => AS.out W (HS.out.on hW.2)
  have MSR : Hid (∀ W : World, (((W.cell? ⟨w.heap.size, 0, none⟩ = some (.string s) ∧ W.cell? ⟨w.heap.size, 1, none⟩ = some (.slice (some ⟨b0, o0, none⟩) n c)) ∧ (W.cell? ⟨w.heap.size + 1, 0, none⟩ = some (.int .i64 h.id) ∧ W.cell? ⟨w.heap.size + 1, 1, none⟩ = some (.bool h.rp) ∧ W.cell? ⟨w.heap.size + 1, 2, none⟩ = some (.bool h.au) ∧ W.cell? ⟨w.heap.size + 1, 3, none⟩ = some (.bool h.ct) ∧ W.cell? ⟨w.heap.size + 1, 4, none⟩ = some (.bool h.wa) ∧ W.cell? ⟨w.heap.size + 1, 5, none⟩ = some (.bool h.ca) ∧ W.cell? ⟨w.heap.size + 1, 6, none⟩ = some (.int .i64 h.code) ∧ W.cell? ⟨w.heap.size + 1, 7, none⟩ = some (.string h.qn) ∧ W.cell? ⟨w.heap.size + 1, 8, none⟩ = some (.int .i64 h.qt) ∧ W.cell? ⟨w.heap.size + 1, 9, none⟩ = some (.slice A1 n1 c1) ∧ W.cell? ⟨w.heap.size + 1, 10, none⟩ = some (.slice A2 n2 c2) ∧ W.cell? ⟨w.heap.size + 1, 11, none⟩ = some (.slice A3 n3 c3))) ∧ RB W (w.heap.size + 1 + 1)) ∧ Sv w W → Calls Try.prog 22 #[.agg #[.string s, .slice (some ⟨b0, o0, none⟩) n c], .agg #[.string h.qn, .int .i64 h.qt]] W (GivesL W J2)) := fun W hW => MS.out W (HS.out.on hW.2)
  have HSR : Hid (∀ W : World, (((W.cell? ⟨w.heap.size, 0, none⟩ = some (.string s) ∧ W.cell? ⟨w.heap.size, 1, none⟩ = some (.slice (some ⟨b0, o0, none⟩) n c)) ∧ (W.cell? ⟨w.heap.size + 1, 0, none⟩ = some (.int .i64 h.id) ∧ W.cell? ⟨w.heap.size + 1, 1, none⟩ = some (.bool h.rp) ∧ W.cell? ⟨w.heap.size + 1, 2, none⟩ = some (.bool h.au) ∧ W.cell? ⟨w.heap.size + 1, 3, none⟩ = some (.bool h.ct) ∧ W.cell? ⟨w.heap.size + 1, 4, none⟩ = some (.bool h.wa) ∧ W.cell? ⟨w.heap.size + 1, 5, none⟩ = some (.bool h.ca) ∧ W.cell? ⟨w.heap.size + 1, 6, none⟩ = some (.int .i64 h.code) ∧ W.cell? ⟨w.heap.size + 1, 7, none⟩ = some (.string h.qn) ∧ W.cell? ⟨w.heap.size + 1, 8, none⟩ = some (.int .i64 h.qt) ∧ W.cell? ⟨w.heap.size + 1, 9, none⟩ = some (.slice A1 n1 c1) ∧ W.cell? ⟨w.heap.size + 1, 10, none⟩ = some (.slice A2 n2 c2) ∧ W.cell? ⟨w.heap.size + 1, 11, none⟩ = some (.slice A3 n3 c3))) ∧ RB W (w.heap.size + 1 + 1)) ∧ Sv w W → Calls Try.prog 24 #[.agg #[.string s, .slice (some ⟨b0, o0, none⟩) n c], .agg #[.string h.qn, .int .i64 h.qt]] W (GivesL W J3)) := fun W hW => HP.out W (HS.out.on hW.2)
  have F1 : Hid (∀ (W : World) (g c : Nat) (r : List Value), Bk W g 68 (fl J1 ++ r) → J1.length ≤ c → Calls Try.prog 52 #[.slice (some ⟨g, 0, none⟩) J1.length c] W (GivesC W (m8 J1.length) (J1.take 8))) := fun W g c r hb hc => first g J1.length c J1 W (bk_sr hb rfl) hc
  have F2 : Hid (∀ (W : World) (g c : Nat) (r : List Value), Bk W g 68 (fl J2 ++ r) → J2.length ≤ c → Calls Try.prog 52 #[.slice (some ⟨g, 0, none⟩) J2.length c] W (GivesC W (m8 J2.length) (J2.take 8))) := fun W g c r hb hc => first g J2.length c J2 W (bk_sr hb rfl) hc
  have F3 : Hid (∀ (W : World) (g c : Nat) (r : List Value), Bk W g 68 (fl J3 ++ r) → J3.length ≤ c → Calls Try.prog 52 #[.slice (some ⟨g, 0, none⟩) J3.length c] W (GivesC W (m8 J3.length) (J3.take 8))) := fun W g c r hb hc => first g J3.length c J3 W (bk_sr hb rfl) hc
  have RG : Hid (∀ (d : Int) (a : Bool) (W : World) (g1 u1 : Nat) (r1 : List Value) (g2 u2 : Nat) (r2 : List Value) (g3 u3 : Nat) (r3 : List Value), Bk W g1 68 (fl (J1.take 8) ++ r1) → Bk W g2 68 (fl (J2.take 8) ++ r2) → Bk W g3 68 (fl (J3.take 8) ++ r3) → Calls Try.prog 51 #[.agg #[.int .i64 h.id, .bool h.rp, .bool h.au, .bool h.ct, .bool h.wa, .bool h.ca, .int .i64 h.code, .string h.qn, .int .i64 h.qt, .slice A1 n1 c1, .slice A2 n2 c2, .slice A3 n3 c3], .int .i64 d, .bool a, .slice (some ⟨g1, 0, none⟩) (m8 J1.length) u1, .slice (some ⟨g2, 0, none⟩) (m8 J2.length) u2, .slice (some ⟨g3, 0, none⟩) (m8 J3.length) u3] W (GivesM W (rph h d a) (m8 J1.length) (m8 J2.length) (m8 J3.length) (J1.take 8) (J2.take 8) (J3.take 8))) := fun d a W g1 u1 r1 g2 u2 r2 g3 u3 r3 h1 h2 h3 => RepM.spec h A1 A2 A3 n1 c1 n2 c2 n3 c3 d a g1 0 _ u1 _ g2 0 _ u2 _ g3 0 _ u3 _ W (bk_sr h1 (m8_len J1 rfl)) (by have := m8_le J1.length; omega) (bk_sr h2 (m8_len J2 rfl)) (by have := m8_le J2.length; omega) (bk_sr h3 (m8_len J3 rfl)) (by have := m8_le J3.length; omega)
  clear AS MS HP
  by_cases k0 : kk = 0
  · subst k0
    have HD : Hid (rcd 0 = 5) := rfl
    have HA : Hid (aut 0 = false) := rfl
    have RR := Lib.hid (RG.out 5 false)
    clear RG
    
    have SS0 : (((w2.cell? ⟨w.heap.size, 0, none⟩ = some (.string s) ∧ w2.cell? ⟨w.heap.size, 1, none⟩ = some (.slice (some ⟨b0, o0, none⟩) n c)) ∧ (w2.cell? ⟨w.heap.size + 1, 0, none⟩ = some (.int .i64 h.id) ∧ w2.cell? ⟨w.heap.size + 1, 1, none⟩ = some (.bool h.rp) ∧ w2.cell? ⟨w.heap.size + 1, 2, none⟩ = some (.bool h.au) ∧ w2.cell? ⟨w.heap.size + 1, 3, none⟩ = some (.bool h.ct) ∧ w2.cell? ⟨w.heap.size + 1, 4, none⟩ = some (.bool h.wa) ∧ w2.cell? ⟨w.heap.size + 1, 5, none⟩ = some (.bool h.ca) ∧ w2.cell? ⟨w.heap.size + 1, 6, none⟩ = some (.int .i64 h.code) ∧ w2.cell? ⟨w.heap.size + 1, 7, none⟩ = some (.string h.qn) ∧ w2.cell? ⟨w.heap.size + 1, 8, none⟩ = some (.int .i64 h.qt) ∧ w2.cell? ⟨w.heap.size + 1, 9, none⟩ = some (.slice A1 n1 c1) ∧ w2.cell? ⟨w.heap.size + 1, 10, none⟩ = some (.slice A2 n2 c2) ∧ w2.cell? ⟨w.heap.size + 1, 11, none⟩ = some (.slice A3 n3 c3))) ∧ RB w2 (w.heap.size + 1 + 1)) ∧ Sv w w2 := ⟨⟨⟨X2.out, Y2.out⟩, ⟨_, rfl, R2.out⟩⟩, L2.out⟩
    clear X2 Y2
    go_wp2
    go_region_held3 (fun w' => (((w'.cell? ⟨w.heap.size, 0, none⟩ = some (.string s) ∧ w'.cell? ⟨w.heap.size, 1, none⟩ = some (.slice (some ⟨b0, o0, none⟩) n c)) ∧ (w'.cell? ⟨w.heap.size + 1, 0, none⟩ = some (.int .i64 h.id) ∧ w'.cell? ⟨w.heap.size + 1, 1, none⟩ = some (.bool h.rp) ∧ w'.cell? ⟨w.heap.size + 1, 2, none⟩ = some (.bool h.au) ∧ w'.cell? ⟨w.heap.size + 1, 3, none⟩ = some (.bool h.ct) ∧ w'.cell? ⟨w.heap.size + 1, 4, none⟩ = some (.bool h.wa) ∧ w'.cell? ⟨w.heap.size + 1, 5, none⟩ = some (.bool h.ca) ∧ w'.cell? ⟨w.heap.size + 1, 6, none⟩ = some (.int .i64 h.code) ∧ w'.cell? ⟨w.heap.size + 1, 7, none⟩ = some (.string h.qn) ∧ w'.cell? ⟨w.heap.size + 1, 8, none⟩ = some (.int .i64 h.qt) ∧ w'.cell? ⟨w.heap.size + 1, 9, none⟩ = some (.slice A1 n1 c1) ∧ w'.cell? ⟨w.heap.size + 1, 10, none⟩ = some (.slice A2 n2 c2) ∧ w'.cell? ⟨w.heap.size + 1, 11, none⟩ = some (.slice A3 n3 c3))) ∧ RB w' (w.heap.size + 1 + 1)) ∧ Sv w w')
      (first | with_reducible exact keptS_fil (w1 := w9) (by assumption) ne0 ne1 ne2 _ _ _ _ _ _ _ _ _ _ _ _ | with_reducible exact SS0 | with_reducible assumption | with_reducible exact keptS (by assumption) hl | with_reducible exact keptS_draw (by assumption) | fail)
      (first
        | (go_at_call 16; (with_reducible refine (ASR.out _ (by assumption)).mono ?_); rintro e w3 ⟨ga, ma, ca, ra, rfl, rfl, xa, ya, ba, hl⟩; have y3 := hl)
        | (go_at_call 22; (with_reducible refine (MSR.out _ (by assumption)).mono ?_); rintro e w5 ⟨gb, mb, cb, rb, rfl, rfl, xb, yb, bb, hl⟩; have y5 := hl)
        | (go_at_call 24; (with_reducible refine (HSR.out _ (by assumption)).mono ?_); rintro e w7 ⟨gc, mc, cc, rc, rfl, rfl, xc, yc, bc, hl⟩; have y7 := hl)
        | (go_at_call 52; (with_reducible refine (F1.out _ _ _ _ ba xa).mono ?_); rintro e w4 ⟨i1, u1, r1, rfl, vx, vy, k1, hl⟩; have y4 := hl)
        | (go_at_call 52; (with_reducible refine (F2.out _ _ _ _ bb xb).mono ?_); rintro e w6 ⟨i2, u2, r2, rfl, vx2, vy2, k2, hl⟩; have y6 := hl)
        | (go_at_call 52; (with_reducible refine (F3.out _ _ _ _ bc xc).mono ?_); rintro e w8 ⟨i3, u3, r3, rfl, vx3, vy3, k3, hl⟩; have y8 := hl)
        | (go_at_call 51; have e1 := on (on (on (on k1 y5) y6) y7) y8; have e2 := on (on k2 y7) y8; (with_reducible refine (RR.out _ _ _ _ _ _ _ _ _ _ e1 e2 k3).mono ?_); rintro e w9 ⟨g1, u1, r1, g2, u2, r2, g3, u3, r3, rfl, hb1, hb2, hb3, hg, h12, h23, hl⟩; have y9 := hl; have HR := (keptS (by assumption) hl).1.2; have p0 := HR.cell 0 (by decide); have f0 := HR.free 0; have p1 := HR.cell 1 (by decide); have f1 := HR.free 1; have p2 := HR.cell 2 (by decide); have f2 := HR.free 2; have p3 := HR.cell 3 (by decide); have f3 := HR.free 3; have p4 := HR.cell 4 (by decide); have f4 := HR.free 4; have p5 := HR.cell 5 (by decide); have f5 := HR.free 5; have p6 := HR.cell 6 (by decide); have f6 := HR.free 6; have p7 := HR.cell 7 (by decide); have f7 := HR.free 7; have p8 := HR.cell 8 (by decide); have f8 := HR.free 8; have p9 := HR.cell 9 (by decide); have f9 := HR.free 9; have p10 := HR.cell 10 (by decide); have f10 := HR.free 10; have p11 := HR.cell 11 (by decide); have f11 := HR.free 11; clear HR)
        | fail)
    rename_i hH
    have a0 : Below w.heap.size w w2.drew := L2.out.drew
    have a1 := a0.trans (y3.mono a0.size)
    have a2 := a1.trans (y4.mono a1.size)
    have a3 := a2.trans (y5.mono a2.size)
    have a4 := a3.trans (y6.mono a3.size)
    have a5 := a4.trans (y7.mono a4.size)
    have a6 := a5.trans (y8.mono a5.size)
    have a7 := a6.trans (y9.mono a6.size)
    have RA : RB w9 (w.heap.size + 1 + 1) := by
      have b0 : RB w2.drew (w.heap.size + 1 + 1) := ⟨_, rfl, R2.out⟩
      exact ((((((b0.below y3).below y4).below y5).below y6).below y7).below y8).below y9
    have G4 : w.heap.size + 1 + 1 < g1 := Nat.lt_of_lt_of_le (Nat.lt_of_lt_of_le (Nat.lt_of_lt_of_le (Nat.lt_of_lt_of_le (Nat.lt_of_lt_of_le (Nat.lt_of_lt_of_le (Nat.lt_of_lt_of_le (show w.heap.size + 1 + 1 < w2.drew.heap.size from R2.out.lt) y3.size) y4.size) y5.size) y6.size) y7.size) y8.size) hg
    have F := Lib.hid (RA.fil (rph h 5 false) (.slice (some ⟨g1, 0, none⟩) (m8 J1.length) u1) (.slice (some ⟨g2, 0, none⟩) (m8 J2.length) u2) (.slice (some ⟨g3, 0, none⟩) (m8 J3.length) u3))
    have E := Lib.hid (filM_below a7 (g := w.heap.size + 1 + 1) (by omega) (rph h 5 false) (.slice (some ⟨g1, 0, none⟩) (m8 J1.length) u1) (.slice (some ⟨g2, 0, none⟩) (m8 J2.length) u2) (.slice (some ⟨g3, 0, none⟩) (m8 J3.length) u3))
    have I1 := Lib.hid (filM_other hb1 (g := w.heap.size + 1 + 1) (by omega) (rph h 5 false) (.slice (some ⟨g1, 0, none⟩) (m8 J1.length) u1) (.slice (some ⟨g2, 0, none⟩) (m8 J2.length) u2) (.slice (some ⟨g3, 0, none⟩) (m8 J3.length) u3))
    have I2 := Lib.hid (filM_other hb2 (g := w.heap.size + 1 + 1) (by omega) (rph h 5 false) (.slice (some ⟨g1, 0, none⟩) (m8 J1.length) u1) (.slice (some ⟨g2, 0, none⟩) (m8 J2.length) u2) (.slice (some ⟨g3, 0, none⟩) (m8 J3.length) u3))
    have I3 := Lib.hid (filM_other hb3 (g := w.heap.size + 1 + 1) (by omega) (rph h 5 false) (.slice (some ⟨g1, 0, none⟩) (m8 J1.length) u1) (.slice (some ⟨g2, 0, none⟩) (m8 J2.length) u2) (.slice (some ⟨g3, 0, none⟩) (m8 J3.length) u3))
    clear hH SS0 a0 a1 a2 a3 a4 a5 a6 a7 RA R2 L2 y3 y4 y5 y6 y7 y8 y9 hl hb1 hb2 hb3 ba bb bc k1 k2 k3 e1 e2 vx vy vx2 vy2 vx3 vy3 xa ya xb yb xc yc ASR MSR HSR F1 F2 F3 RR p0 f0 p1 f1 p2 f2 p3 f3 p4 f4 p5 f5 p6 f6 p7 f7 p8 f8 p9 f9 p10 f10 p11 f11
    go_wp2
    refine bodyPost_ret (v := .agg #[.int .i64 (rph h 5 false).id, .bool (rph h 5 false).rp, .bool (rph h 5 false).au, .bool (rph h 5 false).ct, .bool (rph h 5 false).wa, .bool (rph h 5 false).ca, .int .i64 (rph h 5 false).code, .string (rph h 5 false).qn, .int .i64 (rph h 5 false).qt, .slice (some ⟨g1, 0, none⟩) (m8 J1.length) u1, .slice (some ⟨g2, 0, none⟩) (m8 J2.length) u2, .slice (some ⟨g3, 0, none⟩) (m8 J3.length) u3]) (res1M rfl F.out rfl) rfl ?_
    unfold GivesS8
    rw [HD.out, HA.out]
    exact ⟨g1, u1, r1, g2, u2, r2, g3, u3, r3, rfl, I1.out, I2.out, I3.out, by omega, h12, h23, E.out⟩
  · have t0 : (kk == 0) = false := by simpa using k0
    have u0 : (kk != 0) = true := by simpa using k0
    by_cases k5 : kk = 5
    · subst k5
      clear k0 t0 u0
      have HD : Hid (rcd 5 = 3) := rfl
      have HA : Hid (aut 5 = true) := rfl
      have RR := Lib.hid (RG.out 3 true)
      clear RG
      
      have SS0 : (((w2.cell? ⟨w.heap.size, 0, none⟩ = some (.string s) ∧ w2.cell? ⟨w.heap.size, 1, none⟩ = some (.slice (some ⟨b0, o0, none⟩) n c)) ∧ (w2.cell? ⟨w.heap.size + 1, 0, none⟩ = some (.int .i64 h.id) ∧ w2.cell? ⟨w.heap.size + 1, 1, none⟩ = some (.bool h.rp) ∧ w2.cell? ⟨w.heap.size + 1, 2, none⟩ = some (.bool h.au) ∧ w2.cell? ⟨w.heap.size + 1, 3, none⟩ = some (.bool h.ct) ∧ w2.cell? ⟨w.heap.size + 1, 4, none⟩ = some (.bool h.wa) ∧ w2.cell? ⟨w.heap.size + 1, 5, none⟩ = some (.bool h.ca) ∧ w2.cell? ⟨w.heap.size + 1, 6, none⟩ = some (.int .i64 h.code) ∧ w2.cell? ⟨w.heap.size + 1, 7, none⟩ = some (.string h.qn) ∧ w2.cell? ⟨w.heap.size + 1, 8, none⟩ = some (.int .i64 h.qt) ∧ w2.cell? ⟨w.heap.size + 1, 9, none⟩ = some (.slice A1 n1 c1) ∧ w2.cell? ⟨w.heap.size + 1, 10, none⟩ = some (.slice A2 n2 c2) ∧ w2.cell? ⟨w.heap.size + 1, 11, none⟩ = some (.slice A3 n3 c3))) ∧ RB w2 (w.heap.size + 1 + 1)) ∧ Sv w w2 := ⟨⟨⟨X2.out, Y2.out⟩, ⟨_, rfl, R2.out⟩⟩, L2.out⟩
      clear X2 Y2
      go_wp2
      go_region_held3 (fun w' => (((w'.cell? ⟨w.heap.size, 0, none⟩ = some (.string s) ∧ w'.cell? ⟨w.heap.size, 1, none⟩ = some (.slice (some ⟨b0, o0, none⟩) n c)) ∧ (w'.cell? ⟨w.heap.size + 1, 0, none⟩ = some (.int .i64 h.id) ∧ w'.cell? ⟨w.heap.size + 1, 1, none⟩ = some (.bool h.rp) ∧ w'.cell? ⟨w.heap.size + 1, 2, none⟩ = some (.bool h.au) ∧ w'.cell? ⟨w.heap.size + 1, 3, none⟩ = some (.bool h.ct) ∧ w'.cell? ⟨w.heap.size + 1, 4, none⟩ = some (.bool h.wa) ∧ w'.cell? ⟨w.heap.size + 1, 5, none⟩ = some (.bool h.ca) ∧ w'.cell? ⟨w.heap.size + 1, 6, none⟩ = some (.int .i64 h.code) ∧ w'.cell? ⟨w.heap.size + 1, 7, none⟩ = some (.string h.qn) ∧ w'.cell? ⟨w.heap.size + 1, 8, none⟩ = some (.int .i64 h.qt) ∧ w'.cell? ⟨w.heap.size + 1, 9, none⟩ = some (.slice A1 n1 c1) ∧ w'.cell? ⟨w.heap.size + 1, 10, none⟩ = some (.slice A2 n2 c2) ∧ w'.cell? ⟨w.heap.size + 1, 11, none⟩ = some (.slice A3 n3 c3))) ∧ RB w' (w.heap.size + 1 + 1)) ∧ Sv w w')
        (first | with_reducible exact keptS_fil (w1 := w9) (by assumption) ne0 ne1 ne2 _ _ _ _ _ _ _ _ _ _ _ _ | with_reducible exact SS0 | with_reducible assumption | with_reducible exact keptS (by assumption) hl | with_reducible exact keptS_draw (by assumption) | fail)
        (first
          | (go_at_call 16; (with_reducible refine (ASR.out _ (by assumption)).mono ?_); rintro e w3 ⟨ga, ma, ca, ra, rfl, rfl, xa, ya, ba, hl⟩; have y3 := hl)
          | (go_at_call 22; (with_reducible refine (MSR.out _ (by assumption)).mono ?_); rintro e w5 ⟨gb, mb, cb, rb, rfl, rfl, xb, yb, bb, hl⟩; have y5 := hl)
          | (go_at_call 24; (with_reducible refine (HSR.out _ (by assumption)).mono ?_); rintro e w7 ⟨gc, mc, cc, rc, rfl, rfl, xc, yc, bc, hl⟩; have y7 := hl)
          | (go_at_call 52; (with_reducible refine (F1.out _ _ _ _ ba xa).mono ?_); rintro e w4 ⟨i1, u1, r1, rfl, vx, vy, k1, hl⟩; have y4 := hl)
          | (go_at_call 52; (with_reducible refine (F2.out _ _ _ _ bb xb).mono ?_); rintro e w6 ⟨i2, u2, r2, rfl, vx2, vy2, k2, hl⟩; have y6 := hl)
          | (go_at_call 52; (with_reducible refine (F3.out _ _ _ _ bc xc).mono ?_); rintro e w8 ⟨i3, u3, r3, rfl, vx3, vy3, k3, hl⟩; have y8 := hl)
          | (go_at_call 51; have e1 := on (on (on (on k1 y5) y6) y7) y8; have e2 := on (on k2 y7) y8; (with_reducible refine (RR.out _ _ _ _ _ _ _ _ _ _ e1 e2 k3).mono ?_); rintro e w9 ⟨g1, u1, r1, g2, u2, r2, g3, u3, r3, rfl, hb1, hb2, hb3, hg, h12, h23, hl⟩; have y9 := hl; have HR := (keptS (by assumption) hl).1.2; have p0 := HR.cell 0 (by decide); have f0 := HR.free 0; have p1 := HR.cell 1 (by decide); have f1 := HR.free 1; have p2 := HR.cell 2 (by decide); have f2 := HR.free 2; have p3 := HR.cell 3 (by decide); have f3 := HR.free 3; have p4 := HR.cell 4 (by decide); have f4 := HR.free 4; have p5 := HR.cell 5 (by decide); have f5 := HR.free 5; have p6 := HR.cell 6 (by decide); have f6 := HR.free 6; have p7 := HR.cell 7 (by decide); have f7 := HR.free 7; have p8 := HR.cell 8 (by decide); have f8 := HR.free 8; have p9 := HR.cell 9 (by decide); have f9 := HR.free 9; have p10 := HR.cell 10 (by decide); have f10 := HR.free 10; have p11 := HR.cell 11 (by decide); have f11 := HR.free 11; clear HR)
          | fail)
      rename_i hH
      have a0 : Below w.heap.size w w2.drew := L2.out.drew
      have a1 := a0.trans (y3.mono a0.size)
      have a2 := a1.trans (y4.mono a1.size)
      have a3 := a2.trans (y5.mono a2.size)
      have a4 := a3.trans (y6.mono a3.size)
      have a5 := a4.trans (y7.mono a4.size)
      have a6 := a5.trans (y8.mono a5.size)
      have a7 := a6.trans (y9.mono a6.size)
      have RA : RB w9 (w.heap.size + 1 + 1) := by
        have b0 : RB w2.drew (w.heap.size + 1 + 1) := ⟨_, rfl, R2.out⟩
        exact ((((((b0.below y3).below y4).below y5).below y6).below y7).below y8).below y9
      have G4 : w.heap.size + 1 + 1 < g1 := Nat.lt_of_lt_of_le (Nat.lt_of_lt_of_le (Nat.lt_of_lt_of_le (Nat.lt_of_lt_of_le (Nat.lt_of_lt_of_le (Nat.lt_of_lt_of_le (Nat.lt_of_lt_of_le (show w.heap.size + 1 + 1 < w2.drew.heap.size from R2.out.lt) y3.size) y4.size) y5.size) y6.size) y7.size) y8.size) hg
      have F := Lib.hid (RA.fil (rph h 3 true) (.slice (some ⟨g1, 0, none⟩) (m8 J1.length) u1) (.slice (some ⟨g2, 0, none⟩) (m8 J2.length) u2) (.slice (some ⟨g3, 0, none⟩) (m8 J3.length) u3))
      have E := Lib.hid (filM_below a7 (g := w.heap.size + 1 + 1) (by omega) (rph h 3 true) (.slice (some ⟨g1, 0, none⟩) (m8 J1.length) u1) (.slice (some ⟨g2, 0, none⟩) (m8 J2.length) u2) (.slice (some ⟨g3, 0, none⟩) (m8 J3.length) u3))
      have I1 := Lib.hid (filM_other hb1 (g := w.heap.size + 1 + 1) (by omega) (rph h 3 true) (.slice (some ⟨g1, 0, none⟩) (m8 J1.length) u1) (.slice (some ⟨g2, 0, none⟩) (m8 J2.length) u2) (.slice (some ⟨g3, 0, none⟩) (m8 J3.length) u3))
      have I2 := Lib.hid (filM_other hb2 (g := w.heap.size + 1 + 1) (by omega) (rph h 3 true) (.slice (some ⟨g1, 0, none⟩) (m8 J1.length) u1) (.slice (some ⟨g2, 0, none⟩) (m8 J2.length) u2) (.slice (some ⟨g3, 0, none⟩) (m8 J3.length) u3))
      have I3 := Lib.hid (filM_other hb3 (g := w.heap.size + 1 + 1) (by omega) (rph h 3 true) (.slice (some ⟨g1, 0, none⟩) (m8 J1.length) u1) (.slice (some ⟨g2, 0, none⟩) (m8 J2.length) u2) (.slice (some ⟨g3, 0, none⟩) (m8 J3.length) u3))
      clear hH SS0 a0 a1 a2 a3 a4 a5 a6 a7 RA R2 L2 y3 y4 y5 y6 y7 y8 y9 hl hb1 hb2 hb3 ba bb bc k1 k2 k3 e1 e2 vx vy vx2 vy2 vx3 vy3 xa ya xb yb xc yc ASR MSR HSR F1 F2 F3 RR p0 f0 p1 f1 p2 f2 p3 f3 p4 f4 p5 f5 p6 f6 p7 f7 p8 f8 p9 f9 p10 f10 p11 f11
      go_wp2
      refine bodyPost_ret (v := .agg #[.int .i64 (rph h 3 true).id, .bool (rph h 3 true).rp, .bool (rph h 3 true).au, .bool (rph h 3 true).ct, .bool (rph h 3 true).wa, .bool (rph h 3 true).ca, .int .i64 (rph h 3 true).code, .string (rph h 3 true).qn, .int .i64 (rph h 3 true).qt, .slice (some ⟨g1, 0, none⟩) (m8 J1.length) u1, .slice (some ⟨g2, 0, none⟩) (m8 J2.length) u2, .slice (some ⟨g3, 0, none⟩) (m8 J3.length) u3]) (res1M rfl F.out rfl) rfl ?_
      unfold GivesS8
      rw [HD.out, HA.out]
      exact ⟨g1, u1, r1, g2, u2, r2, g3, u3, r3, rfl, I1.out, I2.out, I3.out, by omega, h12, h23, E.out⟩
    · have t5 : (kk == 5) = false := by simpa using k5
      by_cases k1 : kk = 1
      · subst k1
        clear k0 k5 t0 u0 t5
        have HD : Hid (rcd 1 = 0) := rfl
        have HA : Hid (aut 1 = false) := rfl
        have RR := Lib.hid (RG.out 0 false)
        clear RG
        
        have SS0 : (((w2.cell? ⟨w.heap.size, 0, none⟩ = some (.string s) ∧ w2.cell? ⟨w.heap.size, 1, none⟩ = some (.slice (some ⟨b0, o0, none⟩) n c)) ∧ (w2.cell? ⟨w.heap.size + 1, 0, none⟩ = some (.int .i64 h.id) ∧ w2.cell? ⟨w.heap.size + 1, 1, none⟩ = some (.bool h.rp) ∧ w2.cell? ⟨w.heap.size + 1, 2, none⟩ = some (.bool h.au) ∧ w2.cell? ⟨w.heap.size + 1, 3, none⟩ = some (.bool h.ct) ∧ w2.cell? ⟨w.heap.size + 1, 4, none⟩ = some (.bool h.wa) ∧ w2.cell? ⟨w.heap.size + 1, 5, none⟩ = some (.bool h.ca) ∧ w2.cell? ⟨w.heap.size + 1, 6, none⟩ = some (.int .i64 h.code) ∧ w2.cell? ⟨w.heap.size + 1, 7, none⟩ = some (.string h.qn) ∧ w2.cell? ⟨w.heap.size + 1, 8, none⟩ = some (.int .i64 h.qt) ∧ w2.cell? ⟨w.heap.size + 1, 9, none⟩ = some (.slice A1 n1 c1) ∧ w2.cell? ⟨w.heap.size + 1, 10, none⟩ = some (.slice A2 n2 c2) ∧ w2.cell? ⟨w.heap.size + 1, 11, none⟩ = some (.slice A3 n3 c3))) ∧ RB w2 (w.heap.size + 1 + 1)) ∧ Sv w w2 := ⟨⟨⟨X2.out, Y2.out⟩, ⟨_, rfl, R2.out⟩⟩, L2.out⟩
        clear X2 Y2
        go_wp2
        go_region_held3 (fun w' => (((w'.cell? ⟨w.heap.size, 0, none⟩ = some (.string s) ∧ w'.cell? ⟨w.heap.size, 1, none⟩ = some (.slice (some ⟨b0, o0, none⟩) n c)) ∧ (w'.cell? ⟨w.heap.size + 1, 0, none⟩ = some (.int .i64 h.id) ∧ w'.cell? ⟨w.heap.size + 1, 1, none⟩ = some (.bool h.rp) ∧ w'.cell? ⟨w.heap.size + 1, 2, none⟩ = some (.bool h.au) ∧ w'.cell? ⟨w.heap.size + 1, 3, none⟩ = some (.bool h.ct) ∧ w'.cell? ⟨w.heap.size + 1, 4, none⟩ = some (.bool h.wa) ∧ w'.cell? ⟨w.heap.size + 1, 5, none⟩ = some (.bool h.ca) ∧ w'.cell? ⟨w.heap.size + 1, 6, none⟩ = some (.int .i64 h.code) ∧ w'.cell? ⟨w.heap.size + 1, 7, none⟩ = some (.string h.qn) ∧ w'.cell? ⟨w.heap.size + 1, 8, none⟩ = some (.int .i64 h.qt) ∧ w'.cell? ⟨w.heap.size + 1, 9, none⟩ = some (.slice A1 n1 c1) ∧ w'.cell? ⟨w.heap.size + 1, 10, none⟩ = some (.slice A2 n2 c2) ∧ w'.cell? ⟨w.heap.size + 1, 11, none⟩ = some (.slice A3 n3 c3))) ∧ RB w' (w.heap.size + 1 + 1)) ∧ Sv w w')
          (first | with_reducible exact keptS_fil (w1 := w9) (by assumption) ne0 ne1 ne2 _ _ _ _ _ _ _ _ _ _ _ _ | with_reducible exact SS0 | with_reducible assumption | with_reducible exact keptS (by assumption) hl | with_reducible exact keptS_draw (by assumption) | fail)
          (first
            | (go_at_call 16; (with_reducible refine (ASR.out _ (by assumption)).mono ?_); rintro e w3 ⟨ga, ma, ca, ra, rfl, rfl, xa, ya, ba, hl⟩; have y3 := hl)
            | (go_at_call 22; (with_reducible refine (MSR.out _ (by assumption)).mono ?_); rintro e w5 ⟨gb, mb, cb, rb, rfl, rfl, xb, yb, bb, hl⟩; have y5 := hl)
            | (go_at_call 24; (with_reducible refine (HSR.out _ (by assumption)).mono ?_); rintro e w7 ⟨gc, mc, cc, rc, rfl, rfl, xc, yc, bc, hl⟩; have y7 := hl)
            | (go_at_call 52; (with_reducible refine (F1.out _ _ _ _ ba xa).mono ?_); rintro e w4 ⟨i1, u1, r1, rfl, vx, vy, k1, hl⟩; have y4 := hl)
            | (go_at_call 52; (with_reducible refine (F2.out _ _ _ _ bb xb).mono ?_); rintro e w6 ⟨i2, u2, r2, rfl, vx2, vy2, k2, hl⟩; have y6 := hl)
            | (go_at_call 52; (with_reducible refine (F3.out _ _ _ _ bc xc).mono ?_); rintro e w8 ⟨i3, u3, r3, rfl, vx3, vy3, k3, hl⟩; have y8 := hl)
            | (go_at_call 51; have e1 := on (on (on (on k1 y5) y6) y7) y8; have e2 := on (on k2 y7) y8; (with_reducible refine (RR.out _ _ _ _ _ _ _ _ _ _ e1 e2 k3).mono ?_); rintro e w9 ⟨g1, u1, r1, g2, u2, r2, g3, u3, r3, rfl, hb1, hb2, hb3, hg, h12, h23, hl⟩; have y9 := hl; have HR := (keptS (by assumption) hl).1.2; have p0 := HR.cell 0 (by decide); have f0 := HR.free 0; have p1 := HR.cell 1 (by decide); have f1 := HR.free 1; have p2 := HR.cell 2 (by decide); have f2 := HR.free 2; have p3 := HR.cell 3 (by decide); have f3 := HR.free 3; have p4 := HR.cell 4 (by decide); have f4 := HR.free 4; have p5 := HR.cell 5 (by decide); have f5 := HR.free 5; have p6 := HR.cell 6 (by decide); have f6 := HR.free 6; have p7 := HR.cell 7 (by decide); have f7 := HR.free 7; have p8 := HR.cell 8 (by decide); have f8 := HR.free 8; have p9 := HR.cell 9 (by decide); have f9 := HR.free 9; have p10 := HR.cell 10 (by decide); have f10 := HR.free 10; have p11 := HR.cell 11 (by decide); have f11 := HR.free 11; clear HR)
            | fail)
        rename_i hH
        have a0 : Below w.heap.size w w2.drew := L2.out.drew
        have a1 := a0.trans (y3.mono a0.size)
        have a2 := a1.trans (y4.mono a1.size)
        have a3 := a2.trans (y5.mono a2.size)
        have a4 := a3.trans (y6.mono a3.size)
        have a5 := a4.trans (y7.mono a4.size)
        have a6 := a5.trans (y8.mono a5.size)
        have a7 := a6.trans (y9.mono a6.size)
        have RA : RB w9 (w.heap.size + 1 + 1) := by
          have b0 : RB w2.drew (w.heap.size + 1 + 1) := ⟨_, rfl, R2.out⟩
          exact ((((((b0.below y3).below y4).below y5).below y6).below y7).below y8).below y9
        have G4 : w.heap.size + 1 + 1 < g1 := Nat.lt_of_lt_of_le (Nat.lt_of_lt_of_le (Nat.lt_of_lt_of_le (Nat.lt_of_lt_of_le (Nat.lt_of_lt_of_le (Nat.lt_of_lt_of_le (Nat.lt_of_lt_of_le (show w.heap.size + 1 + 1 < w2.drew.heap.size from R2.out.lt) y3.size) y4.size) y5.size) y6.size) y7.size) y8.size) hg
        have F := Lib.hid (RA.fil (rph h 0 false) (.slice (some ⟨g1, 0, none⟩) (m8 J1.length) u1) (.slice (some ⟨g2, 0, none⟩) (m8 J2.length) u2) (.slice (some ⟨g3, 0, none⟩) (m8 J3.length) u3))
        have E := Lib.hid (filM_below a7 (g := w.heap.size + 1 + 1) (by omega) (rph h 0 false) (.slice (some ⟨g1, 0, none⟩) (m8 J1.length) u1) (.slice (some ⟨g2, 0, none⟩) (m8 J2.length) u2) (.slice (some ⟨g3, 0, none⟩) (m8 J3.length) u3))
        have I1 := Lib.hid (filM_other hb1 (g := w.heap.size + 1 + 1) (by omega) (rph h 0 false) (.slice (some ⟨g1, 0, none⟩) (m8 J1.length) u1) (.slice (some ⟨g2, 0, none⟩) (m8 J2.length) u2) (.slice (some ⟨g3, 0, none⟩) (m8 J3.length) u3))
        have I2 := Lib.hid (filM_other hb2 (g := w.heap.size + 1 + 1) (by omega) (rph h 0 false) (.slice (some ⟨g1, 0, none⟩) (m8 J1.length) u1) (.slice (some ⟨g2, 0, none⟩) (m8 J2.length) u2) (.slice (some ⟨g3, 0, none⟩) (m8 J3.length) u3))
        have I3 := Lib.hid (filM_other hb3 (g := w.heap.size + 1 + 1) (by omega) (rph h 0 false) (.slice (some ⟨g1, 0, none⟩) (m8 J1.length) u1) (.slice (some ⟨g2, 0, none⟩) (m8 J2.length) u2) (.slice (some ⟨g3, 0, none⟩) (m8 J3.length) u3))
        clear hH SS0 a0 a1 a2 a3 a4 a5 a6 a7 RA R2 L2 y3 y4 y5 y6 y7 y8 y9 hl hb1 hb2 hb3 ba bb bc k1 k2 k3 e1 e2 vx vy vx2 vy2 vx3 vy3 xa ya xb yb xc yc ASR MSR HSR F1 F2 F3 RR p0 f0 p1 f1 p2 f2 p3 f3 p4 f4 p5 f5 p6 f6 p7 f7 p8 f8 p9 f9 p10 f10 p11 f11
        go_wp2
        refine bodyPost_ret (v := .agg #[.int .i64 (rph h 0 false).id, .bool (rph h 0 false).rp, .bool (rph h 0 false).au, .bool (rph h 0 false).ct, .bool (rph h 0 false).wa, .bool (rph h 0 false).ca, .int .i64 (rph h 0 false).code, .string (rph h 0 false).qn, .int .i64 (rph h 0 false).qt, .slice (some ⟨g1, 0, none⟩) (m8 J1.length) u1, .slice (some ⟨g2, 0, none⟩) (m8 J2.length) u2, .slice (some ⟨g3, 0, none⟩) (m8 J3.length) u3]) (res1M rfl F.out rfl) rfl ?_
        unfold GivesS8
        rw [HD.out, HA.out]
        exact ⟨g1, u1, r1, g2, u2, r2, g3, u3, r3, rfl, I1.out, I2.out, I3.out, by omega, h12, h23, E.out⟩
      · have u1 : (kk != 1) = true := by simpa using k1
        have HD : Hid (rcd kk = 0) := by show _ = _; unfold rcd; rw [if_neg k0, if_neg k5]
        have HA : Hid (aut kk = true) := by show _ = _; unfold aut; exact decide_eq_true ⟨k0, k1⟩
        have RR := Lib.hid (RG.out 0 true)
        clear RG
        clear k0 k1 k5 K6
        have SS0 : (((w2.cell? ⟨w.heap.size, 0, none⟩ = some (.string s) ∧ w2.cell? ⟨w.heap.size, 1, none⟩ = some (.slice (some ⟨b0, o0, none⟩) n c)) ∧ (w2.cell? ⟨w.heap.size + 1, 0, none⟩ = some (.int .i64 h.id) ∧ w2.cell? ⟨w.heap.size + 1, 1, none⟩ = some (.bool h.rp) ∧ w2.cell? ⟨w.heap.size + 1, 2, none⟩ = some (.bool h.au) ∧ w2.cell? ⟨w.heap.size + 1, 3, none⟩ = some (.bool h.ct) ∧ w2.cell? ⟨w.heap.size + 1, 4, none⟩ = some (.bool h.wa) ∧ w2.cell? ⟨w.heap.size + 1, 5, none⟩ = some (.bool h.ca) ∧ w2.cell? ⟨w.heap.size + 1, 6, none⟩ = some (.int .i64 h.code) ∧ w2.cell? ⟨w.heap.size + 1, 7, none⟩ = some (.string h.qn) ∧ w2.cell? ⟨w.heap.size + 1, 8, none⟩ = some (.int .i64 h.qt) ∧ w2.cell? ⟨w.heap.size + 1, 9, none⟩ = some (.slice A1 n1 c1) ∧ w2.cell? ⟨w.heap.size + 1, 10, none⟩ = some (.slice A2 n2 c2) ∧ w2.cell? ⟨w.heap.size + 1, 11, none⟩ = some (.slice A3 n3 c3))) ∧ RB w2 (w.heap.size + 1 + 1)) ∧ Sv w w2 := ⟨⟨⟨X2.out, Y2.out⟩, ⟨_, rfl, R2.out⟩⟩, L2.out⟩
        clear X2 Y2
        go_wp2
        go_region_held3 (fun w' => (((w'.cell? ⟨w.heap.size, 0, none⟩ = some (.string s) ∧ w'.cell? ⟨w.heap.size, 1, none⟩ = some (.slice (some ⟨b0, o0, none⟩) n c)) ∧ (w'.cell? ⟨w.heap.size + 1, 0, none⟩ = some (.int .i64 h.id) ∧ w'.cell? ⟨w.heap.size + 1, 1, none⟩ = some (.bool h.rp) ∧ w'.cell? ⟨w.heap.size + 1, 2, none⟩ = some (.bool h.au) ∧ w'.cell? ⟨w.heap.size + 1, 3, none⟩ = some (.bool h.ct) ∧ w'.cell? ⟨w.heap.size + 1, 4, none⟩ = some (.bool h.wa) ∧ w'.cell? ⟨w.heap.size + 1, 5, none⟩ = some (.bool h.ca) ∧ w'.cell? ⟨w.heap.size + 1, 6, none⟩ = some (.int .i64 h.code) ∧ w'.cell? ⟨w.heap.size + 1, 7, none⟩ = some (.string h.qn) ∧ w'.cell? ⟨w.heap.size + 1, 8, none⟩ = some (.int .i64 h.qt) ∧ w'.cell? ⟨w.heap.size + 1, 9, none⟩ = some (.slice A1 n1 c1) ∧ w'.cell? ⟨w.heap.size + 1, 10, none⟩ = some (.slice A2 n2 c2) ∧ w'.cell? ⟨w.heap.size + 1, 11, none⟩ = some (.slice A3 n3 c3))) ∧ RB w' (w.heap.size + 1 + 1)) ∧ Sv w w')
          (first | with_reducible exact keptS_fil (w1 := w9) (by assumption) ne0 ne1 ne2 _ _ _ _ _ _ _ _ _ _ _ _ | with_reducible exact SS0 | with_reducible assumption | with_reducible exact keptS (by assumption) hl | with_reducible exact keptS_draw (by assumption) | fail)
          (first
            | (go_at_call 16; (with_reducible refine (ASR.out _ (by assumption)).mono ?_); rintro e w3 ⟨ga, ma, ca, ra, rfl, rfl, xa, ya, ba, hl⟩; have y3 := hl)
            | (go_at_call 22; (with_reducible refine (MSR.out _ (by assumption)).mono ?_); rintro e w5 ⟨gb, mb, cb, rb, rfl, rfl, xb, yb, bb, hl⟩; have y5 := hl)
            | (go_at_call 24; (with_reducible refine (HSR.out _ (by assumption)).mono ?_); rintro e w7 ⟨gc, mc, cc, rc, rfl, rfl, xc, yc, bc, hl⟩; have y7 := hl)
            | (go_at_call 52; (with_reducible refine (F1.out _ _ _ _ ba xa).mono ?_); rintro e w4 ⟨i1, u1, r1, rfl, vx, vy, k1, hl⟩; have y4 := hl)
            | (go_at_call 52; (with_reducible refine (F2.out _ _ _ _ bb xb).mono ?_); rintro e w6 ⟨i2, u2, r2, rfl, vx2, vy2, k2, hl⟩; have y6 := hl)
            | (go_at_call 52; (with_reducible refine (F3.out _ _ _ _ bc xc).mono ?_); rintro e w8 ⟨i3, u3, r3, rfl, vx3, vy3, k3, hl⟩; have y8 := hl)
            | (go_at_call 51; have e1 := on (on (on (on k1 y5) y6) y7) y8; have e2 := on (on k2 y7) y8; (with_reducible refine (RR.out _ _ _ _ _ _ _ _ _ _ e1 e2 k3).mono ?_); rintro e w9 ⟨g1, u1, r1, g2, u2, r2, g3, u3, r3, rfl, hb1, hb2, hb3, hg, h12, h23, hl⟩; have y9 := hl; have HR := (keptS (by assumption) hl).1.2; have p0 := HR.cell 0 (by decide); have f0 := HR.free 0; have p1 := HR.cell 1 (by decide); have f1 := HR.free 1; have p2 := HR.cell 2 (by decide); have f2 := HR.free 2; have p3 := HR.cell 3 (by decide); have f3 := HR.free 3; have p4 := HR.cell 4 (by decide); have f4 := HR.free 4; have p5 := HR.cell 5 (by decide); have f5 := HR.free 5; have p6 := HR.cell 6 (by decide); have f6 := HR.free 6; have p7 := HR.cell 7 (by decide); have f7 := HR.free 7; have p8 := HR.cell 8 (by decide); have f8 := HR.free 8; have p9 := HR.cell 9 (by decide); have f9 := HR.free 9; have p10 := HR.cell 10 (by decide); have f10 := HR.free 10; have p11 := HR.cell 11 (by decide); have f11 := HR.free 11; clear HR)
            | fail)
        rename_i hH
        have a0 : Below w.heap.size w w2.drew := L2.out.drew
        have a1 := a0.trans (y3.mono a0.size)
        have a2 := a1.trans (y4.mono a1.size)
        have a3 := a2.trans (y5.mono a2.size)
        have a4 := a3.trans (y6.mono a3.size)
        have a5 := a4.trans (y7.mono a4.size)
        have a6 := a5.trans (y8.mono a5.size)
        have a7 := a6.trans (y9.mono a6.size)
        have RA : RB w9 (w.heap.size + 1 + 1) := by
          have b0 : RB w2.drew (w.heap.size + 1 + 1) := ⟨_, rfl, R2.out⟩
          exact ((((((b0.below y3).below y4).below y5).below y6).below y7).below y8).below y9
        have G4 : w.heap.size + 1 + 1 < g1 := Nat.lt_of_lt_of_le (Nat.lt_of_lt_of_le (Nat.lt_of_lt_of_le (Nat.lt_of_lt_of_le (Nat.lt_of_lt_of_le (Nat.lt_of_lt_of_le (Nat.lt_of_lt_of_le (show w.heap.size + 1 + 1 < w2.drew.heap.size from R2.out.lt) y3.size) y4.size) y5.size) y6.size) y7.size) y8.size) hg
        have F := Lib.hid (RA.fil (rph h 0 true) (.slice (some ⟨g1, 0, none⟩) (m8 J1.length) u1) (.slice (some ⟨g2, 0, none⟩) (m8 J2.length) u2) (.slice (some ⟨g3, 0, none⟩) (m8 J3.length) u3))
        have E := Lib.hid (filM_below a7 (g := w.heap.size + 1 + 1) (by omega) (rph h 0 true) (.slice (some ⟨g1, 0, none⟩) (m8 J1.length) u1) (.slice (some ⟨g2, 0, none⟩) (m8 J2.length) u2) (.slice (some ⟨g3, 0, none⟩) (m8 J3.length) u3))
        have I1 := Lib.hid (filM_other hb1 (g := w.heap.size + 1 + 1) (by omega) (rph h 0 true) (.slice (some ⟨g1, 0, none⟩) (m8 J1.length) u1) (.slice (some ⟨g2, 0, none⟩) (m8 J2.length) u2) (.slice (some ⟨g3, 0, none⟩) (m8 J3.length) u3))
        have I2 := Lib.hid (filM_other hb2 (g := w.heap.size + 1 + 1) (by omega) (rph h 0 true) (.slice (some ⟨g1, 0, none⟩) (m8 J1.length) u1) (.slice (some ⟨g2, 0, none⟩) (m8 J2.length) u2) (.slice (some ⟨g3, 0, none⟩) (m8 J3.length) u3))
        have I3 := Lib.hid (filM_other hb3 (g := w.heap.size + 1 + 1) (by omega) (rph h 0 true) (.slice (some ⟨g1, 0, none⟩) (m8 J1.length) u1) (.slice (some ⟨g2, 0, none⟩) (m8 J2.length) u2) (.slice (some ⟨g3, 0, none⟩) (m8 J3.length) u3))
        clear hH SS0 a0 a1 a2 a3 a4 a5 a6 a7 RA R2 L2 y3 y4 y5 y6 y7 y8 y9 hl hb1 hb2 hb3 ba bb bc k1 k2 k3 e1 e2 vx vy vx2 vy2 vx3 vy3 xa ya xb yb xc yc ASR MSR HSR F1 F2 F3 RR p0 f0 p1 f1 p2 f2 p3 f3 p4 f4 p5 f5 p6 f6 p7 f7 p8 f8 p9 f9 p10 f10 p11 f11
        go_wp2
        refine bodyPost_ret (v := .agg #[.int .i64 (rph h 0 true).id, .bool (rph h 0 true).rp, .bool (rph h 0 true).au, .bool (rph h 0 true).ct, .bool (rph h 0 true).wa, .bool (rph h 0 true).ca, .int .i64 (rph h 0 true).code, .string (rph h 0 true).qn, .int .i64 (rph h 0 true).qt, .slice (some ⟨g1, 0, none⟩) (m8 J1.length) u1, .slice (some ⟨g2, 0, none⟩) (m8 J2.length) u2, .slice (some ⟨g3, 0, none⟩) (m8 J3.length) u3]) (res1M rfl F.out rfl) rfl ?_
        unfold GivesS8
        rw [HD.out, HA.out]
        exact ⟨g1, u1, r1, g2, u2, r2, g3, u3, r3, rfl, I1.out, I2.out, I3.out, by omega, h12, h23, E.out⟩

end Go.Proofs.Ytmabbeefeipnaaa.ServS

/- The law FnExactServe returns true at every zone and every message, and turns nothing that was there: Serve answers as its model, and its answer owns its memory. -/
namespace Go.Proofs.Ytmabbeefeipnaaa.LawServe
open Go.RowKit Go.Proofs.Ytmabbeefeipnaaa.Mem Go.Proofs.Ytmabbeefeipnaaa.MemR Go.Proofs.Ytmabbeefeipnaaa.MemZ Go.Proofs.Ytmabbeefeipnaaa.BoxR Go.Proofs.Ytmabbeefeipnaaa.MemM Go.Proofs.Ytmabbeefeipnaaa.ResM Go.Proofs.Ytmabbeefeipnaaa.RowR Go.Proofs.Ytmabbeefeipnaaa.SzR Go.Proofs.Ytmabbeefeipnaaa.SzZ Go.Proofs.Ytmabbeefeipnaaa.SzM Go.Proofs.Ytmabbeefeipnaaa.ToZ Go.Proofs.Ytmabbeefeipnaaa.EqZ Go.Proofs.Ytmabbeefeipnaaa.EqM Go.Proofs.Ytmabbeefeipnaaa.EqR Go.Proofs.Ytmabbeefeipnaaa.MarkZ Go.Proofs.Ytmabbeefeipnaaa.MarkR3 Go.Proofs.Ytmabbeefeipnaaa.MarkM Go.Proofs.Ytmabbeefeipnaaa.RepM Go.Proofs.Ytmabbeefeipnaaa.ServeMath Go.Proofs.Ytmabbeefeipnaaa.ShoS Go.Proofs.Ytmabbeefeipnaaa.ServI

section
variable {w0 w w' : World} {g k : Nat} {s : ByteArray} {x a b c : Value} {h : Hd} {A1 A2 A3 : Option Addr} {n1 c1 n2 c2 n3 c3 : Nat}

theorem keptZ (m : ((w.cell? ⟨g, 0, none⟩ = some (.string s) ∧ w.cell? ⟨g, 1, none⟩ = some x) ∧ (w.cell? ⟨k, 0, none⟩ = some (.int .i64 h.id) ∧ w.cell? ⟨k, 1, none⟩ = some (.bool h.rp) ∧ w.cell? ⟨k, 2, none⟩ = some (.bool h.au) ∧ w.cell? ⟨k, 3, none⟩ = some (.bool h.ct) ∧ w.cell? ⟨k, 4, none⟩ = some (.bool h.wa) ∧ w.cell? ⟨k, 5, none⟩ = some (.bool h.ca) ∧ w.cell? ⟨k, 6, none⟩ = some (.int .i64 h.code) ∧ w.cell? ⟨k, 7, none⟩ = some (.string h.qn) ∧ w.cell? ⟨k, 8, none⟩ = some (.int .i64 h.qt) ∧ w.cell? ⟨k, 9, none⟩ = some (.slice A1 n1 c1) ∧ w.cell? ⟨k, 10, none⟩ = some (.slice A2 n2 c2) ∧ w.cell? ⟨k, 11, none⟩ = some (.slice A3 n3 c3))) ∧ Sv w0 w) (hl : Below w.heap.size w w') : ((w'.cell? ⟨g, 0, none⟩ = some (.string s) ∧ w'.cell? ⟨g, 1, none⟩ = some x) ∧ (w'.cell? ⟨k, 0, none⟩ = some (.int .i64 h.id) ∧ w'.cell? ⟨k, 1, none⟩ = some (.bool h.rp) ∧ w'.cell? ⟨k, 2, none⟩ = some (.bool h.au) ∧ w'.cell? ⟨k, 3, none⟩ = some (.bool h.ct) ∧ w'.cell? ⟨k, 4, none⟩ = some (.bool h.wa) ∧ w'.cell? ⟨k, 5, none⟩ = some (.bool h.ca) ∧ w'.cell? ⟨k, 6, none⟩ = some (.int .i64 h.code) ∧ w'.cell? ⟨k, 7, none⟩ = some (.string h.qn) ∧ w'.cell? ⟨k, 8, none⟩ = some (.int .i64 h.qt) ∧ w'.cell? ⟨k, 9, none⟩ = some (.slice A1 n1 c1) ∧ w'.cell? ⟨k, 10, none⟩ = some (.slice A2 n2 c2) ∧ w'.cell? ⟨k, 11, none⟩ = some (.slice A3 n3 c3))) ∧ Sv w0 w' :=
  ⟨⟨Zx.below m.1.1 hl, Mx.below m.1.2 hl⟩, m.2.trans (hl.mono m.2.size)⟩

theorem keptZ_draw (m : ((w.cell? ⟨g, 0, none⟩ = some (.string s) ∧ w.cell? ⟨g, 1, none⟩ = some x) ∧ (w.cell? ⟨k, 0, none⟩ = some (.int .i64 h.id) ∧ w.cell? ⟨k, 1, none⟩ = some (.bool h.rp) ∧ w.cell? ⟨k, 2, none⟩ = some (.bool h.au) ∧ w.cell? ⟨k, 3, none⟩ = some (.bool h.ct) ∧ w.cell? ⟨k, 4, none⟩ = some (.bool h.wa) ∧ w.cell? ⟨k, 5, none⟩ = some (.bool h.ca) ∧ w.cell? ⟨k, 6, none⟩ = some (.int .i64 h.code) ∧ w.cell? ⟨k, 7, none⟩ = some (.string h.qn) ∧ w.cell? ⟨k, 8, none⟩ = some (.int .i64 h.qt) ∧ w.cell? ⟨k, 9, none⟩ = some (.slice A1 n1 c1) ∧ w.cell? ⟨k, 10, none⟩ = some (.slice A2 n2 c2) ∧ w.cell? ⟨k, 11, none⟩ = some (.slice A3 n3 c3))) ∧ Sv w0 w) : ((w.drew.cell? ⟨g, 0, none⟩ = some (.string s) ∧ w.drew.cell? ⟨g, 1, none⟩ = some x) ∧ (w.drew.cell? ⟨k, 0, none⟩ = some (.int .i64 h.id) ∧ w.drew.cell? ⟨k, 1, none⟩ = some (.bool h.rp) ∧ w.drew.cell? ⟨k, 2, none⟩ = some (.bool h.au) ∧ w.drew.cell? ⟨k, 3, none⟩ = some (.bool h.ct) ∧ w.drew.cell? ⟨k, 4, none⟩ = some (.bool h.wa) ∧ w.drew.cell? ⟨k, 5, none⟩ = some (.bool h.ca) ∧ w.drew.cell? ⟨k, 6, none⟩ = some (.int .i64 h.code) ∧ w.drew.cell? ⟨k, 7, none⟩ = some (.string h.qn) ∧ w.drew.cell? ⟨k, 8, none⟩ = some (.int .i64 h.qt) ∧ w.drew.cell? ⟨k, 9, none⟩ = some (.slice A1 n1 c1) ∧ w.drew.cell? ⟨k, 10, none⟩ = some (.slice A2 n2 c2) ∧ w.drew.cell? ⟨k, 11, none⟩ = some (.slice A3 n3 c3))) ∧ Sv w0 w.drew := keptZ m ((Below.refl _ _).drew)

theorem keptZ_alloc (m : ((w.cell? ⟨g, 0, none⟩ = some (.string s) ∧ w.cell? ⟨g, 1, none⟩ = some x) ∧ (w.cell? ⟨k, 0, none⟩ = some (.int .i64 h.id) ∧ w.cell? ⟨k, 1, none⟩ = some (.bool h.rp) ∧ w.cell? ⟨k, 2, none⟩ = some (.bool h.au) ∧ w.cell? ⟨k, 3, none⟩ = some (.bool h.ct) ∧ w.cell? ⟨k, 4, none⟩ = some (.bool h.wa) ∧ w.cell? ⟨k, 5, none⟩ = some (.bool h.ca) ∧ w.cell? ⟨k, 6, none⟩ = some (.int .i64 h.code) ∧ w.cell? ⟨k, 7, none⟩ = some (.string h.qn) ∧ w.cell? ⟨k, 8, none⟩ = some (.int .i64 h.qt) ∧ w.cell? ⟨k, 9, none⟩ = some (.slice A1 n1 c1) ∧ w.cell? ⟨k, 10, none⟩ = some (.slice A2 n2 c2) ∧ w.cell? ⟨k, 11, none⟩ = some (.slice A3 n3 c3))) ∧ Sv w0 w) (o : Obj) : (((w.alloc o).cell? ⟨g, 0, none⟩ = some (.string s) ∧ (w.alloc o).cell? ⟨g, 1, none⟩ = some x) ∧ ((w.alloc o).cell? ⟨k, 0, none⟩ = some (.int .i64 h.id) ∧ (w.alloc o).cell? ⟨k, 1, none⟩ = some (.bool h.rp) ∧ (w.alloc o).cell? ⟨k, 2, none⟩ = some (.bool h.au) ∧ (w.alloc o).cell? ⟨k, 3, none⟩ = some (.bool h.ct) ∧ (w.alloc o).cell? ⟨k, 4, none⟩ = some (.bool h.wa) ∧ (w.alloc o).cell? ⟨k, 5, none⟩ = some (.bool h.ca) ∧ (w.alloc o).cell? ⟨k, 6, none⟩ = some (.int .i64 h.code) ∧ (w.alloc o).cell? ⟨k, 7, none⟩ = some (.string h.qn) ∧ (w.alloc o).cell? ⟨k, 8, none⟩ = some (.int .i64 h.qt) ∧ (w.alloc o).cell? ⟨k, 9, none⟩ = some (.slice A1 n1 c1) ∧ (w.alloc o).cell? ⟨k, 10, none⟩ = some (.slice A2 n2 c2) ∧ (w.alloc o).cell? ⟨k, 11, none⟩ = some (.slice A3 n3 c3))) ∧ Sv w0 (w.alloc o) := keptZ m ((Below.refl _ _).alloc (Nat.le_refl _) _)

theorem keptZ_put (m : ((w.cell? ⟨g, 0, none⟩ = some (.string s) ∧ w.cell? ⟨g, 1, none⟩ = some x) ∧ (w.cell? ⟨k, 0, none⟩ = some (.int .i64 h.id) ∧ w.cell? ⟨k, 1, none⟩ = some (.bool h.rp) ∧ w.cell? ⟨k, 2, none⟩ = some (.bool h.au) ∧ w.cell? ⟨k, 3, none⟩ = some (.bool h.ct) ∧ w.cell? ⟨k, 4, none⟩ = some (.bool h.wa) ∧ w.cell? ⟨k, 5, none⟩ = some (.bool h.ca) ∧ w.cell? ⟨k, 6, none⟩ = some (.int .i64 h.code) ∧ w.cell? ⟨k, 7, none⟩ = some (.string h.qn) ∧ w.cell? ⟨k, 8, none⟩ = some (.int .i64 h.qt) ∧ w.cell? ⟨k, 9, none⟩ = some (.slice A1 n1 c1) ∧ w.cell? ⟨k, 10, none⟩ = some (.slice A2 n2 c2) ∧ w.cell? ⟨k, 11, none⟩ = some (.slice A3 n3 c3))) ∧ Sv w0 w) {b : Nat} (h1 : g ≠ b) (h2 : k ≠ b) (h3 : w0.heap.size ≤ b) (i : Nat) (v : Value) : (((w.setCell ⟨b, i, none⟩ v).cell? ⟨g, 0, none⟩ = some (.string s) ∧ (w.setCell ⟨b, i, none⟩ v).cell? ⟨g, 1, none⟩ = some x) ∧ ((w.setCell ⟨b, i, none⟩ v).cell? ⟨k, 0, none⟩ = some (.int .i64 h.id) ∧ (w.setCell ⟨b, i, none⟩ v).cell? ⟨k, 1, none⟩ = some (.bool h.rp) ∧ (w.setCell ⟨b, i, none⟩ v).cell? ⟨k, 2, none⟩ = some (.bool h.au) ∧ (w.setCell ⟨b, i, none⟩ v).cell? ⟨k, 3, none⟩ = some (.bool h.ct) ∧ (w.setCell ⟨b, i, none⟩ v).cell? ⟨k, 4, none⟩ = some (.bool h.wa) ∧ (w.setCell ⟨b, i, none⟩ v).cell? ⟨k, 5, none⟩ = some (.bool h.ca) ∧ (w.setCell ⟨b, i, none⟩ v).cell? ⟨k, 6, none⟩ = some (.int .i64 h.code) ∧ (w.setCell ⟨b, i, none⟩ v).cell? ⟨k, 7, none⟩ = some (.string h.qn) ∧ (w.setCell ⟨b, i, none⟩ v).cell? ⟨k, 8, none⟩ = some (.int .i64 h.qt) ∧ (w.setCell ⟨b, i, none⟩ v).cell? ⟨k, 9, none⟩ = some (.slice A1 n1 c1) ∧ (w.setCell ⟨b, i, none⟩ v).cell? ⟨k, 10, none⟩ = some (.slice A2 n2 c2) ∧ (w.setCell ⟨b, i, none⟩ v).cell? ⟨k, 11, none⟩ = some (.slice A3 n3 c3))) ∧ Sv w0 (w.setCell ⟨b, i, none⟩ v) :=
  ⟨⟨Zx.set1 m.1.1 (p := ⟨b, i, none⟩) h1 v, Mx.set1 m.1.2 (p := ⟨b, i, none⟩) h2 v⟩, Below.setCell m.2 (p := ⟨b, i, none⟩) h3 v⟩

theorem keptZ_fil (m : ((w.cell? ⟨g, 0, none⟩ = some (.string s) ∧ w.cell? ⟨g, 1, none⟩ = some x) ∧ (w.cell? ⟨k, 0, none⟩ = some (.int .i64 h.id) ∧ w.cell? ⟨k, 1, none⟩ = some (.bool h.rp) ∧ w.cell? ⟨k, 2, none⟩ = some (.bool h.au) ∧ w.cell? ⟨k, 3, none⟩ = some (.bool h.ct) ∧ w.cell? ⟨k, 4, none⟩ = some (.bool h.wa) ∧ w.cell? ⟨k, 5, none⟩ = some (.bool h.ca) ∧ w.cell? ⟨k, 6, none⟩ = some (.int .i64 h.code) ∧ w.cell? ⟨k, 7, none⟩ = some (.string h.qn) ∧ w.cell? ⟨k, 8, none⟩ = some (.int .i64 h.qt) ∧ w.cell? ⟨k, 9, none⟩ = some (.slice A1 n1 c1) ∧ w.cell? ⟨k, 10, none⟩ = some (.slice A2 n2 c2) ∧ w.cell? ⟨k, 11, none⟩ = some (.slice A3 n3 c3))) ∧ Sv w0 w) {b : Nat} (h1 : g ≠ b) (h2 : k ≠ b) (h3 : w0.heap.size ≤ b) (v0 v1 v2 v3 v4 v5 v6 v7 v8 v9 v10 v11 : Value) : ((((((((((((((w.setCell ⟨b, 0, none⟩ v0).setCell ⟨b, 1, none⟩ v1).setCell ⟨b, 2, none⟩ v2).setCell ⟨b, 3, none⟩ v3).setCell ⟨b, 4, none⟩ v4).setCell ⟨b, 5, none⟩ v5).setCell ⟨b, 6, none⟩ v6).setCell ⟨b, 7, none⟩ v7).setCell ⟨b, 8, none⟩ v8).setCell ⟨b, 9, none⟩ v9).setCell ⟨b, 10, none⟩ v10).setCell ⟨b, 11, none⟩ v11).cell? ⟨g, 0, none⟩ = some (.string s) ∧ ((((((((((((w.setCell ⟨b, 0, none⟩ v0).setCell ⟨b, 1, none⟩ v1).setCell ⟨b, 2, none⟩ v2).setCell ⟨b, 3, none⟩ v3).setCell ⟨b, 4, none⟩ v4).setCell ⟨b, 5, none⟩ v5).setCell ⟨b, 6, none⟩ v6).setCell ⟨b, 7, none⟩ v7).setCell ⟨b, 8, none⟩ v8).setCell ⟨b, 9, none⟩ v9).setCell ⟨b, 10, none⟩ v10).setCell ⟨b, 11, none⟩ v11).cell? ⟨g, 1, none⟩ = some x) ∧ (((((((((((((w.setCell ⟨b, 0, none⟩ v0).setCell ⟨b, 1, none⟩ v1).setCell ⟨b, 2, none⟩ v2).setCell ⟨b, 3, none⟩ v3).setCell ⟨b, 4, none⟩ v4).setCell ⟨b, 5, none⟩ v5).setCell ⟨b, 6, none⟩ v6).setCell ⟨b, 7, none⟩ v7).setCell ⟨b, 8, none⟩ v8).setCell ⟨b, 9, none⟩ v9).setCell ⟨b, 10, none⟩ v10).setCell ⟨b, 11, none⟩ v11).cell? ⟨k, 0, none⟩ = some (.int .i64 h.id) ∧ ((((((((((((w.setCell ⟨b, 0, none⟩ v0).setCell ⟨b, 1, none⟩ v1).setCell ⟨b, 2, none⟩ v2).setCell ⟨b, 3, none⟩ v3).setCell ⟨b, 4, none⟩ v4).setCell ⟨b, 5, none⟩ v5).setCell ⟨b, 6, none⟩ v6).setCell ⟨b, 7, none⟩ v7).setCell ⟨b, 8, none⟩ v8).setCell ⟨b, 9, none⟩ v9).setCell ⟨b, 10, none⟩ v10).setCell ⟨b, 11, none⟩ v11).cell? ⟨k, 1, none⟩ = some (.bool h.rp) ∧ ((((((((((((w.setCell ⟨b, 0, none⟩ v0).setCell ⟨b, 1, none⟩ v1).setCell ⟨b, 2, none⟩ v2).setCell ⟨b, 3, none⟩ v3).setCell ⟨b, 4, none⟩ v4).setCell ⟨b, 5, none⟩ v5).setCell ⟨b, 6, none⟩ v6).setCell ⟨b, 7, none⟩ v7).setCell ⟨b, 8, none⟩ v8).setCell ⟨b, 9, none⟩ v9).setCell ⟨b, 10, none⟩ v10).setCell ⟨b, 11, none⟩ v11).cell? ⟨k, 2, none⟩ = some (.bool h.au) ∧ ((((((((((((w.setCell ⟨b, 0, none⟩ v0).setCell ⟨b, 1, none⟩ v1).setCell ⟨b, 2, none⟩ v2).setCell ⟨b, 3, none⟩ v3).setCell ⟨b, 4, none⟩ v4).setCell ⟨b, 5, none⟩ v5).setCell ⟨b, 6, none⟩ v6).setCell ⟨b, 7, none⟩ v7).setCell ⟨b, 8, none⟩ v8).setCell ⟨b, 9, none⟩ v9).setCell ⟨b, 10, none⟩ v10).setCell ⟨b, 11, none⟩ v11).cell? ⟨k, 3, none⟩ = some (.bool h.ct) ∧ ((((((((((((w.setCell ⟨b, 0, none⟩ v0).setCell ⟨b, 1, none⟩ v1).setCell ⟨b, 2, none⟩ v2).setCell ⟨b, 3, none⟩ v3).setCell ⟨b, 4, none⟩ v4).setCell ⟨b, 5, none⟩ v5).setCell ⟨b, 6, none⟩ v6).setCell ⟨b, 7, none⟩ v7).setCell ⟨b, 8, none⟩ v8).setCell ⟨b, 9, none⟩ v9).setCell ⟨b, 10, none⟩ v10).setCell ⟨b, 11, none⟩ v11).cell? ⟨k, 4, none⟩ = some (.bool h.wa) ∧ ((((((((((((w.setCell ⟨b, 0, none⟩ v0).setCell ⟨b, 1, none⟩ v1).setCell ⟨b, 2, none⟩ v2).setCell ⟨b, 3, none⟩ v3).setCell ⟨b, 4, none⟩ v4).setCell ⟨b, 5, none⟩ v5).setCell ⟨b, 6, none⟩ v6).setCell ⟨b, 7, none⟩ v7).setCell ⟨b, 8, none⟩ v8).setCell ⟨b, 9, none⟩ v9).setCell ⟨b, 10, none⟩ v10).setCell ⟨b, 11, none⟩ v11).cell? ⟨k, 5, none⟩ = some (.bool h.ca) ∧ ((((((((((((w.setCell ⟨b, 0, none⟩ v0).setCell ⟨b, 1, none⟩ v1).setCell ⟨b, 2, none⟩ v2).setCell ⟨b, 3, none⟩ v3).setCell ⟨b, 4, none⟩ v4).setCell ⟨b, 5, none⟩ v5).setCell ⟨b, 6, none⟩ v6).setCell ⟨b, 7, none⟩ v7).setCell ⟨b, 8, none⟩ v8).setCell ⟨b, 9, none⟩ v9).setCell ⟨b, 10, none⟩ v10).setCell ⟨b, 11, none⟩ v11).cell? ⟨k, 6, none⟩ = some (.int .i64 h.code) ∧ ((((((((((((w.setCell ⟨b, 0, none⟩ v0).setCell ⟨b, 1, none⟩ v1).setCell ⟨b, 2, none⟩ v2).setCell ⟨b, 3, none⟩ v3).setCell ⟨b, 4, none⟩ v4).setCell ⟨b, 5, none⟩ v5).setCell ⟨b, 6, none⟩ v6).setCell ⟨b, 7, none⟩ v7).setCell ⟨b, 8, none⟩ v8).setCell ⟨b, 9, none⟩ v9).setCell ⟨b, 10, none⟩ v10).setCell ⟨b, 11, none⟩ v11).cell? ⟨k, 7, none⟩ = some (.string h.qn) ∧ ((((((((((((w.setCell ⟨b, 0, none⟩ v0).setCell ⟨b, 1, none⟩ v1).setCell ⟨b, 2, none⟩ v2).setCell ⟨b, 3, none⟩ v3).setCell ⟨b, 4, none⟩ v4).setCell ⟨b, 5, none⟩ v5).setCell ⟨b, 6, none⟩ v6).setCell ⟨b, 7, none⟩ v7).setCell ⟨b, 8, none⟩ v8).setCell ⟨b, 9, none⟩ v9).setCell ⟨b, 10, none⟩ v10).setCell ⟨b, 11, none⟩ v11).cell? ⟨k, 8, none⟩ = some (.int .i64 h.qt) ∧ ((((((((((((w.setCell ⟨b, 0, none⟩ v0).setCell ⟨b, 1, none⟩ v1).setCell ⟨b, 2, none⟩ v2).setCell ⟨b, 3, none⟩ v3).setCell ⟨b, 4, none⟩ v4).setCell ⟨b, 5, none⟩ v5).setCell ⟨b, 6, none⟩ v6).setCell ⟨b, 7, none⟩ v7).setCell ⟨b, 8, none⟩ v8).setCell ⟨b, 9, none⟩ v9).setCell ⟨b, 10, none⟩ v10).setCell ⟨b, 11, none⟩ v11).cell? ⟨k, 9, none⟩ = some (.slice A1 n1 c1) ∧ ((((((((((((w.setCell ⟨b, 0, none⟩ v0).setCell ⟨b, 1, none⟩ v1).setCell ⟨b, 2, none⟩ v2).setCell ⟨b, 3, none⟩ v3).setCell ⟨b, 4, none⟩ v4).setCell ⟨b, 5, none⟩ v5).setCell ⟨b, 6, none⟩ v6).setCell ⟨b, 7, none⟩ v7).setCell ⟨b, 8, none⟩ v8).setCell ⟨b, 9, none⟩ v9).setCell ⟨b, 10, none⟩ v10).setCell ⟨b, 11, none⟩ v11).cell? ⟨k, 10, none⟩ = some (.slice A2 n2 c2) ∧ ((((((((((((w.setCell ⟨b, 0, none⟩ v0).setCell ⟨b, 1, none⟩ v1).setCell ⟨b, 2, none⟩ v2).setCell ⟨b, 3, none⟩ v3).setCell ⟨b, 4, none⟩ v4).setCell ⟨b, 5, none⟩ v5).setCell ⟨b, 6, none⟩ v6).setCell ⟨b, 7, none⟩ v7).setCell ⟨b, 8, none⟩ v8).setCell ⟨b, 9, none⟩ v9).setCell ⟨b, 10, none⟩ v10).setCell ⟨b, 11, none⟩ v11).cell? ⟨k, 11, none⟩ = some (.slice A3 n3 c3))) ∧ Sv w0 ((((((((((((w.setCell ⟨b, 0, none⟩ v0).setCell ⟨b, 1, none⟩ v1).setCell ⟨b, 2, none⟩ v2).setCell ⟨b, 3, none⟩ v3).setCell ⟨b, 4, none⟩ v4).setCell ⟨b, 5, none⟩ v5).setCell ⟨b, 6, none⟩ v6).setCell ⟨b, 7, none⟩ v7).setCell ⟨b, 8, none⟩ v8).setCell ⟨b, 9, none⟩ v9).setCell ⟨b, 10, none⟩ v10).setCell ⟨b, 11, none⟩ v11) :=
  keptZ_put (keptZ_put (keptZ_put (keptZ_put (keptZ_put (keptZ_put (keptZ_put (keptZ_put (keptZ_put (keptZ_put (keptZ_put (keptZ_put m h1 h2 h3 0 v0) h1 h2 h3 1 v1) h1 h2 h3 2 v2) h1 h2 h3 3 v3) h1 h2 h3 4 v4) h1 h2 h3 5 v5) h1 h2 h3 6 v6) h1 h2 h3 7 v7) h1 h2 h3 8 v8) h1 h2 h3 9 v9) h1 h2 h3 10 v10) h1 h2 h3 11 v11

theorem zx_turned {g1 g2 g3 : Nat} (k : Turned w w' g1 g2 g3) (m : Zx w g s x) (e1 : g ≠ g1) (e2 : g ≠ g2) (e3 : g ≠ g3) : Zx w' g s x := m.move fun _ => World.cell?_of_block (k.2.1 g m.lt e1 e2 e3)

theorem rb_new (w : World) : RB (w.alloc (.cells #[.int .i64 0, .bool false, .bool false, .bool false, .bool false, .bool false, .int .i64 0, .string ⟨#[]⟩, .int .i64 0, .slice none 0 0, .slice none 0 0, .slice none 0 0] 46)) w.heap.size := ⟨_, rfl, heap_alloc_new w _⟩

theorem rb_new1 (w : World) : RB (w.alloc (.cells #[.int .i64 0, .bool false, .bool false, .bool false, .bool false, .bool false, .int .i64 0, .string ⟨#[]⟩, .int .i64 0, .slice none 0 0, .slice none 0 0, .slice none 0 0] 46)).drew w.heap.size := (rb_new w).below ((Below.refl _ _).drew)

theorem rb_lt {w : World} {g : Nat} (k : RB w g) : g < w.heap.size := by
  obtain ⟨cs, _, k⟩ := k
  exact k.lt
end

set_option maxRecDepth 100000 in
set_option maxHeartbeats 16000000 in
theorem walk (z : ByteArray) (A : Option Addr) (n c : Nat) (l : List Rec) (h : Hd) (A1 : Option Addr) (n1 c1 : Nat) (l1 : List Rec) (A2 : Option Addr) (n2 c2 : Nat) (l2 : List Rec) (A3 : Option Addr) (n3 c3 : Nat) (l3 : List Rec) (w : World) (hzs : z.size ≤ 9223372036854775807) (hs : Sr w w.heap.size A n l) (hn : n ≤ 9223372036854775807) (hz : ∀ r ∈ l, r.name.size ≤ 9223372036854775807 ∧ r.host.size ≤ 9223372036854775807 ∧ r.text.size ≤ 9223372036854775807) (hq : h.qn.size ≤ 9223372036854775807) (i1 : IsRecs w A1 n1 l1) (i2 : IsRecs w A2 n2 l2) (i3 : IsRecs w A3 n3 l3) :
    Calls Try.prog 7 #[.agg #[.string z, .slice A n c], .agg #[.int .i64 h.id, .bool h.rp, .bool h.au, .bool h.ct, .bool h.wa, .bool h.ca, .int .i64 h.code, .string h.qn, .int .i64 h.qt, .slice A1 n1 c1, .slice A2 n2 c2, .slice A3 n3 c3]] w fun e w' => e = .returned (.bool true) ∧ Below w.heap.size w w' := by
  have L0 := Lib.hid (((Below.refl w.heap.size w).alloc (Nat.le_refl _) (.cells #[.string z, .slice A n c] 24)).alloc (by simp) (.cells #[.int .i64 h.id, .bool h.rp, .bool h.au, .bool h.ct, .bool h.wa, .bool h.ca, .int .i64 h.code, .string h.qn, .int .i64 h.qt, .slice A1 n1 c1, .slice A2 n2 c2, .slice A3 n3 c3] 43))
  have J0 := Lib.hid ((zx_new w 24 z (.slice A n c)).alloc (.cells #[.int .i64 h.id, .bool h.rp, .bool h.au, .bool h.ct, .bool h.wa, .bool h.ca, .int .i64 h.code, .string h.qn, .int .i64 h.qt, .slice A1 n1 c1, .slice A2 n2 c2, .slice A3 n3 c3] 43))
  have X0 : Hid (Mx ((w.alloc (.cells #[.string z, .slice A n c] 24)).alloc (.cells #[.int .i64 h.id, .bool h.rp, .bool h.au, .bool h.ct, .bool h.wa, .bool h.ca, .int .i64 h.code, .string h.qn, .int .i64 h.qt, .slice A1 n1 c1, .slice A2 n2 c2, .slice A3 n3 c3] 43)) (w.heap.size + 1) h (.slice A1 n1 c1) (.slice A2 n2 c2) (.slice A3 n3 c3)) := by
    have := mx_new (w.alloc (.cells #[.string z, .slice A n c] 24)) 43 h (.slice A1 n1 c1) (.slice A2 n2 c2) (.slice A3 n3 c3)
    rw [show (w.alloc (.cells #[.string z, .slice A n c] 24)).heap.size = w.heap.size + 1 by simp] at this
    exact this
  have S0 := Lib.hid hs
  have Z0 := Lib.hid hz
  have S1 := Lib.hid i1.1
  have m1 := i1.2.1
  have Z1 : Hid (Sms l1) := i1.2.2
  have B1 := Lib.hid i1.1.1
  have S2 := Lib.hid i2.1
  have m2 := i2.2.1
  have Z2 : Hid (Sms l2) := i2.2.2
  have B2 := Lib.hid i2.1.1
  have S3 := Lib.hid i3.1
  have m3 := i3.2.1
  have Z3 : Hid (Sms l3) := i3.2.2
  have B3 := Lib.hid i3.1.1
  clear i1 i2 i3 hs hz
  go_enter Try.func7, Try.ntmps7
  obtain ⟨z0, z1⟩ := J0.out
  go_wp2_with fail
  refine (szZone_any z A n c l 1048576 _ (by omega) (by omega) hzs (S0.out.on L0.out) hn Z0.out).mono ?_
  rintro e w1 ⟨y, rfl, hy0, hy1, hy, hl⟩
  have E0 := Lib.hid hy
  have L1 := Lib.hid (L0.out.trans (hl.mono L0.out.size))
  have J1 := Lib.hid (J0.out.below hl)
  have X1 := Lib.hid (X0.out.below hl)
  clear hl L0 J0 X0
  clear hy z0 z1 
  by_cases negy : y < 0
  · go_wp2
    go_ret
    exact ⟨rfl, L1.out⟩
  have E1 := Lib.hid (E0.out (by omega))
  clear E0
  have bm : n ≤ 1048576 := by have := E1.out; have := S0.out.1; omega
  have bn : n ≤ 400000000 := by omega
  have bz : z.size ≤ 400000000 := by have := E1.out; omega
  have HN : Hid (l.length = n) := S0.out.1
  have HR : Hid (∀ r ∈ l, r.name.size ≤ 400000000) := fun r hr => by
    have := E1.out
    have h1 := tot_le l r hr
    unfold rz at h1
    omega
  clear E1 Z0
  obtain ⟨x0_0, x0_1, x0_2, x0_3, x0_4, x0_5, x0_6, x0_7, x0_8, x0_9, x0_10, x0_11⟩ := X1.out
  go_wp2_with fail
  refine (szMsg_any h A1 n1 c1 l1 A2 n2 c2 l2 A3 n3 c3 l3 y _ (by omega) (by omega) hq (S1.out.on L1.out) m1 Z1.out (S2.out.on L1.out) m2 Z2.out (S3.out.on L1.out) m3 Z3.out).mono ?_
  rintro e w2 ⟨yy, rfl, ha0, ha1, ha, hl⟩
  have E2 := Lib.hid ha
  have L2 := Lib.hid (L1.out.trans (hl.mono L1.out.size))
  have J2 := Lib.hid (J1.out.below hl)
  have X2 := Lib.hid (X1.out.below hl)
  clear hl L1 J1 X1
  clear ha x0_0 x0_1 x0_2 x0_3 x0_4 x0_5 x0_6 x0_7 x0_8 x0_9 x0_10 x0_11
  by_cases negyy : yy < 0
  · go_wp2
    go_ret
    exact ⟨rfl, L2.out⟩
  have bq : h.qn.size ≤ 400000000 ∧ n1 + n2 + n3 ≤ 1048576 := by
    have e0 := E2.out (by omega)
    have a1 := B1.out
    have a2 := B2.out
    have a3 := B3.out
    unfold mz at e0
    omega
  clear E2
  have bm3 := bq.2
  have bqn := bq.1
  clear bq
  have TR : Hid (∀ W : World, Below w.heap.size w W → Calls Try.prog 12 #[.agg #[.string z, .slice A n c]] W fun e w' => ∃ g, e = .returned (.agg #[.string z, .slice (some ⟨g, 0, none⟩) n n]) ∧ Bk w' g 68 (fl l) ∧ W.heap.size ≤ g ∧ Below W.heap.size W w') :=
    fun W hW => toZone_any z A n c l W ((S0.out.below hW).wider hW.size) bn
  have TM : Hid (∀ W : World, Below w.heap.size w W → Calls Try.prog 28 #[.agg #[.int .i64 h.id, .bool h.rp, .bool h.au, .bool h.ct, .bool h.wa, .bool h.ca, .int .i64 h.code, .string h.qn, .int .i64 h.qt, .slice A1 n1 c1, .slice A2 n2 c2, .slice A3 n3 c3]] W (GivesM W h n1 n2 n3 l1 l2 l3)) := fun W hW => ToM.toMsg_any h A1 n1 c1 l1 A2 n2 c2 l2 A3 n3 c3 l3 W (S1.out.on hW) (by omega) (S2.out.on hW) (by omega) (S3.out.on hW) (by omega)
  have SP : Hid (∀ (g t1 f1 t2 f2 t3 f3 : Nat) (W : World), Bk W g 68 (fl l) → Calls Try.prog 27 #[.agg #[.string z, .slice (some ⟨g, 0, none⟩) n n], .agg #[.int .i64 h.id, .bool h.rp, .bool h.au, .bool h.ct, .bool h.wa, .bool h.ca, .int .i64 h.code, .string h.qn, .int .i64 h.qt, .slice (some ⟨t1, 0, none⟩) n1 f1, .slice (some ⟨t2, 0, none⟩) n2 f2, .slice (some ⟨t3, 0, none⟩) n3 f3]] W (GivesS8 W h (kd z h.qn h.qt l) (anl (kd z h.qn h.qt l) h.qn h.qt l) (mol (kd z h.qn h.qt l) z h.qn l) (hel (kd z h.qn h.qt l) z h.qn l))) :=
    fun g t1 f1 t2 f2 t3 f3 W hb => ServS.spec z g 0 n n l h (some ⟨t1, 0, none⟩) (some ⟨t2, 0, none⟩) (some ⟨t3, 0, none⟩) n1 f1 n2 f2 n3 f3 W (bk_sr0 hb HN.out) bm bz bqn HR.out
  have IM : Hid (∀ (g t1 f1 t2 f2 t3 f3 : Nat) (W : World), Bk W g 68 (fl l) → Calls Try.prog 29 #[.agg #[.string z, .slice (some ⟨g, 0, none⟩) n n], .agg #[.int .i64 h.id, .bool h.rp, .bool h.au, .bool h.ct, .bool h.wa, .bool h.ca, .int .i64 h.code, .string h.qn, .int .i64 h.qt, .slice (some ⟨t1, 0, none⟩) n1 f1, .slice (some ⟨t2, 0, none⟩) n2 f2, .slice (some ⟨t3, 0, none⟩) n3 f3]] W (GivesS8 W h (kd z h.qn h.qt l) (anl (kd z h.qn h.qt l) h.qn h.qt l) (mol (kd z h.qn h.qt l) z h.qn l) (hel (kd z h.qn h.qt l) z h.qn l))) :=
    fun g t1 f1 t2 f2 t3 f3 W hb => ServI.impl z g 0 n n l h (some ⟨t1, 0, none⟩) (some ⟨t2, 0, none⟩) (some ⟨t3, 0, none⟩) n1 f1 n2 f2 n3 f3 W (bk_sr0 hb HN.out) bm bz bqn HR.out
  unfold GivesS8 at SP IM
  generalize kd z h.qn h.qt l = kk at *
  generalize rph h (rcd kk) (aut kk) = H at *
  have D1 := Lib.hid (m8_len (anl kk h.qn h.qt l) rfl)
  have le1 := (m8_le (anl kk h.qn h.qt l).length).1
  generalize m8 (anl kk h.qn h.qt l).length = k1 at *
  generalize (anl kk h.qn h.qt l).take 8 = j1 at *
  have D2 := Lib.hid (m8_len (mol kk z h.qn l) rfl)
  have le2 := (m8_le (mol kk z h.qn l).length).1
  generalize m8 (mol kk z h.qn l).length = k2 at *
  generalize (mol kk z h.qn l).take 8 = j2 at *
  have D3 := Lib.hid (m8_len (hel kk z h.qn l) rfl)
  have le3 := (m8_le (hel kk z h.qn l).length).1
  generalize m8 (hel kk z h.qn l).length = k3 at *
  generalize (hel kk z h.qn l).take 8 = j3 at *
  clear HR S0 bz bqn
  have TZR : Hid (∀ W : World, (((W.cell? ⟨w.heap.size, 0, none⟩ = some (.string z) ∧ W.cell? ⟨w.heap.size, 1, none⟩ = some (.slice A n c)) ∧ (W.cell? ⟨w.heap.size + 1, 0, none⟩ = some (.int .i64 h.id) ∧ W.cell? ⟨w.heap.size + 1, 1, none⟩ = some (.bool h.rp) ∧ W.cell? ⟨w.heap.size + 1, 2, none⟩ = some (.bool h.au) ∧ W.cell? ⟨w.heap.size + 1, 3, none⟩ = some (.bool h.ct) ∧ W.cell? ⟨w.heap.size + 1, 4, none⟩ = some (.bool h.wa) ∧ W.cell? ⟨w.heap.size + 1, 5, none⟩ = some (.bool h.ca) ∧ W.cell? ⟨w.heap.size + 1, 6, none⟩ = some (.int .i64 h.code) ∧ W.cell? ⟨w.heap.size + 1, 7, none⟩ = some (.string h.qn) ∧ W.cell? ⟨w.heap.size + 1, 8, none⟩ = some (.int .i64 h.qt) ∧ W.cell? ⟨w.heap.size + 1, 9, none⟩ = some (.slice A1 n1 c1) ∧ W.cell? ⟨w.heap.size + 1, 10, none⟩ = some (.slice A2 n2 c2) ∧ W.cell? ⟨w.heap.size + 1, 11, none⟩ = some (.slice A3 n3 c3))) ∧ Sv w2 W) → Calls Try.prog 12 #[.agg #[.string z, .slice A n c]] W fun e w' => ∃ g, e = .returned (.agg #[.string z, .slice (some ⟨g, 0, none⟩) n n]) ∧ Bk w' g 68 (fl l) ∧ W.heap.size ≤ g ∧ Below W.heap.size W w') := fun W hW => TR.out W (L2.out.trans ((show Below w2.heap.size w2 W from hW.2).mono L2.out.size))
  have TMR : Hid (∀ W : World, (((W.cell? ⟨w.heap.size, 0, none⟩ = some (.string z) ∧ W.cell? ⟨w.heap.size, 1, none⟩ = some (.slice A n c)) ∧ (W.cell? ⟨w.heap.size + 1, 0, none⟩ = some (.int .i64 h.id) ∧ W.cell? ⟨w.heap.size + 1, 1, none⟩ = some (.bool h.rp) ∧ W.cell? ⟨w.heap.size + 1, 2, none⟩ = some (.bool h.au) ∧ W.cell? ⟨w.heap.size + 1, 3, none⟩ = some (.bool h.ct) ∧ W.cell? ⟨w.heap.size + 1, 4, none⟩ = some (.bool h.wa) ∧ W.cell? ⟨w.heap.size + 1, 5, none⟩ = some (.bool h.ca) ∧ W.cell? ⟨w.heap.size + 1, 6, none⟩ = some (.int .i64 h.code) ∧ W.cell? ⟨w.heap.size + 1, 7, none⟩ = some (.string h.qn) ∧ W.cell? ⟨w.heap.size + 1, 8, none⟩ = some (.int .i64 h.qt) ∧ W.cell? ⟨w.heap.size + 1, 9, none⟩ = some (.slice A1 n1 c1) ∧ W.cell? ⟨w.heap.size + 1, 10, none⟩ = some (.slice A2 n2 c2) ∧ W.cell? ⟨w.heap.size + 1, 11, none⟩ = some (.slice A3 n3 c3))) ∧ Sv w2 W) → Calls Try.prog 28 #[.agg #[.int .i64 h.id, .bool h.rp, .bool h.au, .bool h.ct, .bool h.wa, .bool h.ca, .int .i64 h.code, .string h.qn, .int .i64 h.qt, .slice A1 n1 c1, .slice A2 n2 c2, .slice A3 n3 c3]] W (GivesM W h n1 n2 n3 l1 l2 l3)) := fun W hW => TM.out W (L2.out.trans ((show Below w2.heap.size w2 W from hW.2).mono L2.out.size))
  have SS0 : ((w2.cell? ⟨w.heap.size, 0, none⟩ = some (.string z) ∧ w2.cell? ⟨w.heap.size, 1, none⟩ = some (.slice A n c)) ∧ (w2.cell? ⟨w.heap.size + 1, 0, none⟩ = some (.int .i64 h.id) ∧ w2.cell? ⟨w.heap.size + 1, 1, none⟩ = some (.bool h.rp) ∧ w2.cell? ⟨w.heap.size + 1, 2, none⟩ = some (.bool h.au) ∧ w2.cell? ⟨w.heap.size + 1, 3, none⟩ = some (.bool h.ct) ∧ w2.cell? ⟨w.heap.size + 1, 4, none⟩ = some (.bool h.wa) ∧ w2.cell? ⟨w.heap.size + 1, 5, none⟩ = some (.bool h.ca) ∧ w2.cell? ⟨w.heap.size + 1, 6, none⟩ = some (.int .i64 h.code) ∧ w2.cell? ⟨w.heap.size + 1, 7, none⟩ = some (.string h.qn) ∧ w2.cell? ⟨w.heap.size + 1, 8, none⟩ = some (.int .i64 h.qt) ∧ w2.cell? ⟨w.heap.size + 1, 9, none⟩ = some (.slice A1 n1 c1) ∧ w2.cell? ⟨w.heap.size + 1, 10, none⟩ = some (.slice A2 n2 c2) ∧ w2.cell? ⟨w.heap.size + 1, 11, none⟩ = some (.slice A3 n3 c3))) ∧ Sv w2 w2 := ⟨⟨J2.out, X2.out⟩, Below.refl _ _⟩
  have hgz : w.heap.size < w2.heap.size := J2.out.lt
  have hgx : w.heap.size + 1 < w2.heap.size := X2.out.lt
  go_wp2
  go_cut [6] (fun a wx => ∃ (gw v1 u1 : Nat) (r1 : List Value) (v2 u2 : Nat) (r2 : List Value) (v3 u3 : Nat) (r3 : List Value), a = .pointer (some ⟨gw, 0, none⟩) ∧ Hid (Mx wx gw H (.slice (some ⟨v1, 0, none⟩) k1 u1) (.slice (some ⟨v2, 0, none⟩) k2 u2) (.slice (some ⟨v3, 0, none⟩) k3 u3)) ∧ Hid (Bk wx v1 68 (fl j1 ++ r1)) ∧ Hid (Bk wx v2 68 (fl j2 ++ r2)) ∧ Hid (Bk wx v3 68 (fl j3 ++ r3)) ∧ Hid (w2.heap.size ≤ v1 ∧ v1 < v2 ∧ v2 < v3 ∧ w2.heap.size ≤ gw ∧ gw ≠ v1 ∧ gw ≠ v2 ∧ gw ≠ v3) ∧ Hid (Below w2.heap.size w2 wx))
  case first =>
    go_region_held3 (fun w' => ((w'.cell? ⟨w.heap.size, 0, none⟩ = some (.string z) ∧ w'.cell? ⟨w.heap.size, 1, none⟩ = some (.slice A n c)) ∧ (w'.cell? ⟨w.heap.size + 1, 0, none⟩ = some (.int .i64 h.id) ∧ w'.cell? ⟨w.heap.size + 1, 1, none⟩ = some (.bool h.rp) ∧ w'.cell? ⟨w.heap.size + 1, 2, none⟩ = some (.bool h.au) ∧ w'.cell? ⟨w.heap.size + 1, 3, none⟩ = some (.bool h.ct) ∧ w'.cell? ⟨w.heap.size + 1, 4, none⟩ = some (.bool h.wa) ∧ w'.cell? ⟨w.heap.size + 1, 5, none⟩ = some (.bool h.ca) ∧ w'.cell? ⟨w.heap.size + 1, 6, none⟩ = some (.int .i64 h.code) ∧ w'.cell? ⟨w.heap.size + 1, 7, none⟩ = some (.string h.qn) ∧ w'.cell? ⟨w.heap.size + 1, 8, none⟩ = some (.int .i64 h.qt) ∧ w'.cell? ⟨w.heap.size + 1, 9, none⟩ = some (.slice A1 n1 c1) ∧ w'.cell? ⟨w.heap.size + 1, 10, none⟩ = some (.slice A2 n2 c2) ∧ w'.cell? ⟨w.heap.size + 1, 11, none⟩ = some (.slice A3 n3 c3))) ∧ Sv w2 w')
      (first
        | with_reducible exact SS0
        | with_reducible exact hS5
        | with_reducible exact hSq
        | with_reducible exact hSt
        | with_reducible exact keptZ_alloc hS5 _
        | with_reducible exact keptZ_alloc hSq _
        | with_reducible exact keptZ_alloc hSt _
        | with_reducible exact keptZ_draw (keptZ_alloc SS0 _)
        | with_reducible exact keptZ_fil (w := w3) (b := wq2.heap.size) hS5 (Nat.ne_of_lt (Nat.lt_of_lt_of_le hgz hZq)) (Nat.ne_of_lt (Nat.lt_of_lt_of_le hgx hZq)) hZq _ _ _ _ _ _ _ _ _ _ _ _ 
        | with_reducible exact keptZ_fil (w := w3) (b := wt2.heap.size) hS5 (Nat.ne_of_lt (Nat.lt_of_lt_of_le hgz hZt)) (Nat.ne_of_lt (Nat.lt_of_lt_of_le hgx hZt)) hZt _ _ _ _ _ _ _ _ _ _ _ _ 
        | with_reducible exact keptZ_fil (w := w3) (b := w2.heap.size) hS5 (Nat.ne_of_lt hgz) (Nat.ne_of_lt hgx) (Nat.le_refl _) _ _ _ _ _ _ _ _ _ _ _ _ 
        | with_reducible exact keptZ_draw SS0
        | with_reducible assumption
        | with_reducible exact keptZ (by assumption) hl
        | fail)
      (first
        | (go_at_call 12; (with_reducible refine (TZR.out _ (by assumption)).mono ?_); rintro e wt2 ⟨t1, rfl, hbz, htz, hl⟩; have hl1 := hl; have hSt := keptZ (by assumption) hl; have hZt : w2.heap.size ≤ wt2.heap.size := Below.size hSt.2)
        | (go_at_call 28; (with_reducible refine (TMR.out _ (by assumption)).mono ?_); rintro e wq2 ⟨p1, f1, q1, p2, f2, q2, p3, f3, q3, rfl, -, -, -, -, -, -, hl⟩; have hl2 := hl; have hSq := keptZ (by assumption) hl; have hZq : w2.heap.size ≤ wq2.heap.size := Below.size hSq.2; first | with_reducible have hbq := hbz.below hl hbz.lt | with_reducible have hbq := (hbz.alloc (.cells #[.int .i64 0, .bool false, .bool false, .bool false, .bool false, .bool false, .int .i64 0, .string ⟨#[]⟩, .int .i64 0, .slice none 0 0, .slice none 0 0, .slice none 0 0] 46)).below hl (hbz.alloc (.cells #[.int .i64 0, .bool false, .bool false, .bool false, .bool false, .bool false, .int .i64 0, .string ⟨#[]⟩, .int .i64 0, .slice none 0 0, .slice none 0 0, .slice none 0 0] 46)).lt)
        | (go_at_call 27; (first | with_reducible refine (SP.out t1 _ _ _ _ _ _ _ hbq).mono ?_ | with_reducible refine (SP.out t1 _ _ _ _ _ _ _ (hbq.alloc (.cells #[.int .i64 0, .bool false, .bool false, .bool false, .bool false, .bool false, .int .i64 0, .string ⟨#[]⟩, .int .i64 0, .slice none 0 0, .slice none 0 0, .slice none 0 0] 46))).mono ?_); rintro e w3 ⟨v1, u1, r1, v2, u2, r2, v3, u3, r3, rfl, hb1, hb2, hb3, hg, h12, h23, hl⟩; have hl3 := hl; have hS5 := keptZ (by assumption) hl; first | (with_reducible have RBw : RB wq2 w2.heap.size := ((rb_new1 w2).below hl1).below hl2; have RBx := RBw.below hl3; have HLT := Nat.lt_of_lt_of_le (rb_lt RBw) hg; have HV1 := Nat.le_trans hZq hg; have p0 := RBx.cell 0 (by decide); have f0 := RBx.free 0; have p1 := RBx.cell 1 (by decide); have f1 := RBx.free 1; have p2 := RBx.cell 2 (by decide); have f2 := RBx.free 2; have p3 := RBx.cell 3 (by decide); have f3 := RBx.free 3; have p4 := RBx.cell 4 (by decide); have f4 := RBx.free 4; have p5 := RBx.cell 5 (by decide); have f5 := RBx.free 5; have p6 := RBx.cell 6 (by decide); have f6 := RBx.free 6; have p7 := RBx.cell 7 (by decide); have f7 := RBx.free 7; have p8 := RBx.cell 8 (by decide); have f8 := RBx.free 8; have p9 := RBx.cell 9 (by decide); have f9 := RBx.free 9; have p10 := RBx.cell 10 (by decide); have f10 := RBx.free 10; have p11 := RBx.cell 11 (by decide); have f11 := RBx.free 11) | (with_reducible have RBw : RB wq2 wt2.heap.size := (rb_new wt2).below hl2; have RBx := RBw.below hl3; have HLT := Nat.lt_of_lt_of_le (rb_lt RBw) hg; have HV1 := Nat.le_trans hZq hg; have p0 := RBx.cell 0 (by decide); have f0 := RBx.free 0; have p1 := RBx.cell 1 (by decide); have f1 := RBx.free 1; have p2 := RBx.cell 2 (by decide); have f2 := RBx.free 2; have p3 := RBx.cell 3 (by decide); have f3 := RBx.free 3; have p4 := RBx.cell 4 (by decide); have f4 := RBx.free 4; have p5 := RBx.cell 5 (by decide); have f5 := RBx.free 5; have p6 := RBx.cell 6 (by decide); have f6 := RBx.free 6; have p7 := RBx.cell 7 (by decide); have f7 := RBx.free 7; have p8 := RBx.cell 8 (by decide); have f8 := RBx.free 8; have p9 := RBx.cell 9 (by decide); have f9 := RBx.free 9; have p10 := RBx.cell 10 (by decide); have f10 := RBx.free 10; have p11 := RBx.cell 11 (by decide); have f11 := RBx.free 11) | (have RBw := rb_new wq2; with_reducible have RBx := RBw.below hl3; have HLT := Nat.lt_of_lt_of_le (rb_lt RBw) hg; have HV1 := Nat.le_trans hZq (Nat.le_of_lt HLT); have p0 := RBx.cell 0 (by decide); have f0 := RBx.free 0; have p1 := RBx.cell 1 (by decide); have f1 := RBx.free 1; have p2 := RBx.cell 2 (by decide); have f2 := RBx.free 2; have p3 := RBx.cell 3 (by decide); have f3 := RBx.free 3; have p4 := RBx.cell 4 (by decide); have f4 := RBx.free 4; have p5 := RBx.cell 5 (by decide); have f5 := RBx.free 5; have p6 := RBx.cell 6 (by decide); have f6 := RBx.free 6; have p7 := RBx.cell 7 (by decide); have f7 := RBx.free 7; have p8 := RBx.cell 8 (by decide); have f8 := RBx.free 8; have p9 := RBx.cell 9 (by decide); have f9 := RBx.free 9; have p10 := RBx.cell 10 (by decide); have f10 := RBx.free 10; have p11 := RBx.cell 11 (by decide); have f11 := RBx.free 11) | (have HV1 := Nat.le_trans hZq hg))
        | fail)
    · go_wp2_with fail
      go_meet
      case rel =>
        refine ⟨_, v1, u1, r1, v2, u2, r2, v3, u3, r3, rfl, ?_, ?_, ?_, ?_, ?_, ?_⟩
        · exact mx_new w3 _ H (.slice (some ⟨v1, 0, none⟩) k1 u1) (.slice (some ⟨v2, 0, none⟩) k2 u2) (.slice (some ⟨v3, 0, none⟩) k3 u3)
        · exact hb1.alloc _
        · exact hb2.alloc _
        · exact hb3.alloc _
        · exact ⟨HV1, h12, h23, Below.size hS5.2, Nat.ne_of_gt hb1.lt, Nat.ne_of_gt hb2.lt, Nat.ne_of_gt hb3.lt⟩
        · exact Below.alloc hS5.2 (Below.size hS5.2) _
    · go_wp2_with fail
      go_meet
      case rel =>
        refine ⟨_, v1, u1, r1, v2, u2, r2, v3, u3, r3, rfl, ?_, ?_, ?_, ?_, ?_, ?_⟩
        · exact mx_of (RBx.fil H (.slice (some ⟨v1, 0, none⟩) k1 u1) (.slice (some ⟨v2, 0, none⟩) k2 u2) (.slice (some ⟨v3, 0, none⟩) k3 u3))
        · exact filM_other hb1 (g := wq2.heap.size) (Nat.ne_of_gt HLT) H (.slice (some ⟨v1, 0, none⟩) k1 u1) (.slice (some ⟨v2, 0, none⟩) k2 u2) (.slice (some ⟨v3, 0, none⟩) k3 u3)
        · exact filM_other hb2 (g := wq2.heap.size) (Nat.ne_of_gt (Nat.lt_trans HLT h12)) H (.slice (some ⟨v1, 0, none⟩) k1 u1) (.slice (some ⟨v2, 0, none⟩) k2 u2) (.slice (some ⟨v3, 0, none⟩) k3 u3)
        · exact filM_other hb3 (g := wq2.heap.size) (Nat.ne_of_gt (Nat.lt_trans HLT (Nat.lt_trans h12 h23))) H (.slice (some ⟨v1, 0, none⟩) k1 u1) (.slice (some ⟨v2, 0, none⟩) k2 u2) (.slice (some ⟨v3, 0, none⟩) k3 u3)
        · exact ⟨HV1, h12, h23, hZq, Nat.ne_of_lt HLT, Nat.ne_of_lt (Nat.lt_trans HLT h12), Nat.ne_of_lt (Nat.lt_trans HLT (Nat.lt_trans h12 h23))⟩
        · exact filM_below (g := wq2.heap.size) hS5.2 hZq H (.slice (some ⟨v1, 0, none⟩) k1 u1) (.slice (some ⟨v2, 0, none⟩) k2 u2) (.slice (some ⟨v3, 0, none⟩) k3 u3)
    · go_wp2_with fail
      go_meet
      case rel =>
        refine ⟨_, v1, u1, r1, v2, u2, r2, v3, u3, r3, rfl, ?_, ?_, ?_, ?_, ?_, ?_⟩
        · exact mx_of (RBx.fil H (.slice (some ⟨v1, 0, none⟩) k1 u1) (.slice (some ⟨v2, 0, none⟩) k2 u2) (.slice (some ⟨v3, 0, none⟩) k3 u3))
        · exact filM_other hb1 (g := wt2.heap.size) (Nat.ne_of_gt HLT) H (.slice (some ⟨v1, 0, none⟩) k1 u1) (.slice (some ⟨v2, 0, none⟩) k2 u2) (.slice (some ⟨v3, 0, none⟩) k3 u3)
        · exact filM_other hb2 (g := wt2.heap.size) (Nat.ne_of_gt (Nat.lt_trans HLT h12)) H (.slice (some ⟨v1, 0, none⟩) k1 u1) (.slice (some ⟨v2, 0, none⟩) k2 u2) (.slice (some ⟨v3, 0, none⟩) k3 u3)
        · exact filM_other hb3 (g := wt2.heap.size) (Nat.ne_of_gt (Nat.lt_trans HLT (Nat.lt_trans h12 h23))) H (.slice (some ⟨v1, 0, none⟩) k1 u1) (.slice (some ⟨v2, 0, none⟩) k2 u2) (.slice (some ⟨v3, 0, none⟩) k3 u3)
        · exact ⟨HV1, h12, h23, hZt, Nat.ne_of_lt HLT, Nat.ne_of_lt (Nat.lt_trans HLT h12), Nat.ne_of_lt (Nat.lt_trans HLT (Nat.lt_trans h12 h23))⟩
        · exact filM_below (g := wt2.heap.size) hS5.2 hZt H (.slice (some ⟨v1, 0, none⟩) k1 u1) (.slice (some ⟨v2, 0, none⟩) k2 u2) (.slice (some ⟨v3, 0, none⟩) k3 u3)
    · go_wp2_with fail
      go_meet
      case rel =>
        refine ⟨_, v1, u1, r1, v2, u2, r2, v3, u3, r3, rfl, ?_, ?_, ?_, ?_, ?_, ?_⟩
        · exact mx_of (RBx.fil H (.slice (some ⟨v1, 0, none⟩) k1 u1) (.slice (some ⟨v2, 0, none⟩) k2 u2) (.slice (some ⟨v3, 0, none⟩) k3 u3))
        · exact filM_other hb1 (g := w2.heap.size) (Nat.ne_of_gt HLT) H (.slice (some ⟨v1, 0, none⟩) k1 u1) (.slice (some ⟨v2, 0, none⟩) k2 u2) (.slice (some ⟨v3, 0, none⟩) k3 u3)
        · exact filM_other hb2 (g := w2.heap.size) (Nat.ne_of_gt (Nat.lt_trans HLT h12)) H (.slice (some ⟨v1, 0, none⟩) k1 u1) (.slice (some ⟨v2, 0, none⟩) k2 u2) (.slice (some ⟨v3, 0, none⟩) k3 u3)
        · exact filM_other hb3 (g := w2.heap.size) (Nat.ne_of_gt (Nat.lt_trans HLT (Nat.lt_trans h12 h23))) H (.slice (some ⟨v1, 0, none⟩) k1 u1) (.slice (some ⟨v2, 0, none⟩) k2 u2) (.slice (some ⟨v3, 0, none⟩) k3 u3)
        · exact ⟨HV1, h12, h23, (Nat.le_refl _), Nat.ne_of_lt HLT, Nat.ne_of_lt (Nat.lt_trans HLT h12), Nat.ne_of_lt (Nat.lt_trans HLT (Nat.lt_trans h12 h23))⟩
        · exact filM_below (g := w2.heap.size) hS5.2 (Nat.le_refl _) H (.slice (some ⟨v1, 0, none⟩) k1 u1) (.slice (some ⟨v2, 0, none⟩) k2 u2) (.slice (some ⟨v3, 0, none⟩) k3 u3)
  case rest =>
    obtain ⟨gw, v1, f1, rv1, v2, f2, rv2, v3, f3, rv3, rfl, hmx, hb1, hb2, hb3, hord, hz⟩ := hcut
    have hl := hz.out
    clear hz
    generalize wc = w3 at *
    have W3 := Lib.hid hmx.out
    have V1_3 := Lib.hid hb1.out
    have V2_3 := Lib.hid hb2.out
    have V3_3 := Lib.hid hb3.out
    have OV := Lib.hid hord.out
    have OV_ := Lib.hid (show w2.heap.size ≤ w3.heap.size from hl.size)
    have L3 := Lib.hid (L2.out.trans (hl.mono L2.out.size))
    have J3 := Lib.hid (J2.out.below hl)
    have X3 := Lib.hid (X2.out.below hl)
    clear hl L2 J2 X2
    have OV__ : Hid (w.heap.size + 1 < w2.heap.size ∧ v3 < w3.heap.size ∧ gw < w3.heap.size) := ⟨hgx, V3_3.out.lt, W3.out.lt⟩
    clear hmx hb1 hb2 hb3 hord TZR TMR SS0 hgz hgx
    obtain ⟨z0, z1⟩ := J3.out
    go_wp2_with fail
    refine (TR.out _ L3.out).mono ?_
    rintro e w4 ⟨gx, rfl, hb, hg, hl⟩
    have XZ_4 := Lib.hid hb
    have OX : Hid (w3.heap.size ≤ gx) := hg
    have L4 := Lib.hid (L3.out.trans (hl.mono L3.out.size))
    have J4 := Lib.hid (J3.out.below hl)
    have X4 := Lib.hid (X3.out.below hl)
    have W4 := Lib.hid (W3.out.below hl)
    have V1_4 := Lib.hid (V1_3.out.below hl V1_3.out.lt)
    have V2_4 := Lib.hid (V2_3.out.below hl V2_3.out.lt)
    have V3_4 := Lib.hid (V3_3.out.below hl V3_3.out.lt)
    clear hl L3 J3 X3 W3 V1_3 V2_3 V3_3
    clear hb hg z0 z1 
    have OQ : Hid (gx < w4.heap.size) := XZ_4.out.lt
    have al : Below w4.heap.size w4 (w4.alloc (.cells #[.string z, .slice (some ⟨gx, 0, none⟩) n n] 32)) := (Below.refl _ _).alloc (Nat.le_refl _) _
    have Q5 := Lib.hid (zx_new w4 32 z (.slice (some ⟨gx, 0, none⟩) n n))
    have L5 := Lib.hid (L4.out.trans (al.mono L4.out.size))
    have J5 := Lib.hid (J4.out.below al)
    have X5 := Lib.hid (X4.out.below al)
    have W5 := Lib.hid (W4.out.below al)
    have V1_5 := Lib.hid (V1_4.out.below al V1_4.out.lt)
    have V2_5 := Lib.hid (V2_4.out.below al V2_4.out.lt)
    have V3_5 := Lib.hid (V3_4.out.below al V3_4.out.lt)
    have XZ_5 := Lib.hid (XZ_4.out.below al XZ_4.out.lt)
    clear al L4 J4 X4 W4 V1_4 V2_4 V3_4 XZ_4
    obtain ⟨x0_0, x0_1, x0_2, x0_3, x0_4, x0_5, x0_6, x0_7, x0_8, x0_9, x0_10, x0_11⟩ := X5.out
    go_wp2_with fail
    refine (TM.out _ L5.out).mono ?_
    rintro e w6 ⟨p1, e1, rp1, p2, e2, rp2, p3, e3, rp3, rfl, hb1, hb2, hb3, hg, h12, h23, hl⟩
    have P1_6 := Lib.hid hb1
    have P2_6 := Lib.hid hb2
    have P3_6 := Lib.hid hb3
    have OP : Hid (w4.heap.size < p1 ∧ p1 < p2 ∧ p2 < p3) := ⟨Nat.lt_of_lt_of_le Q5.out.lt hg, h12, h23⟩
    have L6 := Lib.hid (L5.out.trans (hl.mono L5.out.size))
    have J6 := Lib.hid (J5.out.below hl)
    have X6 := Lib.hid (X5.out.below hl)
    have W6 := Lib.hid (W5.out.below hl)
    have V1_6 := Lib.hid (V1_5.out.below hl V1_5.out.lt)
    have V2_6 := Lib.hid (V2_5.out.below hl V2_5.out.lt)
    have V3_6 := Lib.hid (V3_5.out.below hl V3_5.out.lt)
    have XZ_6 := Lib.hid (XZ_5.out.below hl XZ_5.out.lt)
    have Q6 := Lib.hid (Q5.out.below hl)
    clear hl L5 J5 X5 W5 V1_5 V2_5 V3_5 XZ_5 Q5
    clear hb1 hb2 hb3 hg h12 h23 x0_0 x0_1 x0_2 x0_3 x0_4 x0_5 x0_6 x0_7 x0_8 x0_9 x0_10 x0_11
    generalize w4.heap.size = gq at *
    have OP_ : Hid (p3 < w6.heap.size) := P3_6.out.lt
    have al : Below w6.heap.size w6 (w6.alloc (.cells #[.int .i64 h.id, .bool h.rp, .bool h.au, .bool h.ct, .bool h.wa, .bool h.ca, .int .i64 h.code, .string h.qn, .int .i64 h.qt, .slice (some ⟨p1, 0, none⟩) n1 e1, .slice (some ⟨p2, 0, none⟩) n2 e2, .slice (some ⟨p3, 0, none⟩) n3 e3] 46)) := (Below.refl _ _).alloc (Nat.le_refl _) _
    have P7 := Lib.hid (mx_new w6 46 h (.slice (some ⟨p1, 0, none⟩) n1 e1) (.slice (some ⟨p2, 0, none⟩) n2 e2) (.slice (some ⟨p3, 0, none⟩) n3 e3))
    have L7 := Lib.hid (L6.out.trans (al.mono L6.out.size))
    have J7 := Lib.hid (J6.out.below al)
    have X7 := Lib.hid (X6.out.below al)
    have W7 := Lib.hid (W6.out.below al)
    have V1_7 := Lib.hid (V1_6.out.below al V1_6.out.lt)
    have V2_7 := Lib.hid (V2_6.out.below al V2_6.out.lt)
    have V3_7 := Lib.hid (V3_6.out.below al V3_6.out.lt)
    have XZ_7 := Lib.hid (XZ_6.out.below al XZ_6.out.lt)
    have Q7 := Lib.hid (Q6.out.below al)
    have P1_7 := Lib.hid (P1_6.out.below al P1_6.out.lt)
    have P2_7 := Lib.hid (P2_6.out.below al P2_6.out.lt)
    have P3_7 := Lib.hid (P3_6.out.below al P3_6.out.lt)
    clear al L6 J6 X6 W6 V1_6 V2_6 V3_6 XZ_6 Q6 P1_6 P2_6 P3_6
    obtain ⟨z0, z1⟩ := Q7.out
    obtain ⟨x0_0, x0_1, x0_2, x0_3, x0_4, x0_5, x0_6, x0_7, x0_8, x0_9, x0_10, x0_11⟩ := P7.out
    go_wp2_with fail
    refine (IM.out gx p1 e1 p2 e2 p3 e3 _ XZ_7.out).mono ?_
    rintro e w8 ⟨g1, u1, rg1, g2, u2, rg2, g3, u3, rg3, rfl, hb1, hb2, hb3, hg, h12, h23, hl⟩
    have G1_8 := Lib.hid hb1
    have G2_8 := Lib.hid hb2
    have G3_8 := Lib.hid hb3
    have OG : Hid (w6.heap.size < g1 ∧ g1 < g2 ∧ g2 < g3) := ⟨Nat.lt_of_lt_of_le P7.out.lt hg, h12, h23⟩
    have L8 := Lib.hid (L7.out.trans (hl.mono L7.out.size))
    have J8 := Lib.hid (J7.out.below hl)
    have X8 := Lib.hid (X7.out.below hl)
    have W8 := Lib.hid (W7.out.below hl)
    have V1_8 := Lib.hid (V1_7.out.below hl V1_7.out.lt)
    have V2_8 := Lib.hid (V2_7.out.below hl V2_7.out.lt)
    have V3_8 := Lib.hid (V3_7.out.below hl V3_7.out.lt)
    have XZ_8 := Lib.hid (XZ_7.out.below hl XZ_7.out.lt)
    have Q8 := Lib.hid (Q7.out.below hl)
    have P1_8 := Lib.hid (P1_7.out.below hl P1_7.out.lt)
    have P2_8 := Lib.hid (P2_7.out.below hl P2_7.out.lt)
    have P3_8 := Lib.hid (P3_7.out.below hl P3_7.out.lt)
    have P8 := Lib.hid (P7.out.below hl)
    clear hl L7 J7 X7 W7 V1_7 V2_7 V3_7 XZ_7 Q7 P1_7 P2_7 P3_7 P7
    clear hb1 hb2 hb3 hg h12 h23 z0 z1 x0_0 x0_1 x0_2 x0_3 x0_4 x0_5 x0_6 x0_7 x0_8 x0_9 x0_10 x0_11
    generalize w6.heap.size = gp at *
    have OG_ : Hid (g3 < w8.heap.size) := G3_8.out.lt
    have al : Below w8.heap.size w8 (w8.alloc (.cells #[.int .i64 H.id, .bool H.rp, .bool H.au, .bool H.ct, .bool H.wa, .bool H.ca, .int .i64 H.code, .string H.qn, .int .i64 H.qt, .slice (some ⟨g1, 0, none⟩) k1 u1, .slice (some ⟨g2, 0, none⟩) k2 u2, .slice (some ⟨g3, 0, none⟩) k3 u3] 46)) := (Below.refl _ _).alloc (Nat.le_refl _) _
    have G9 := Lib.hid (mx_new w8 46 H (.slice (some ⟨g1, 0, none⟩) k1 u1) (.slice (some ⟨g2, 0, none⟩) k2 u2) (.slice (some ⟨g3, 0, none⟩) k3 u3))
    have L9 := Lib.hid (L8.out.trans (al.mono L8.out.size))
    have J9 := Lib.hid (J8.out.below al)
    have X9 := Lib.hid (X8.out.below al)
    have W9 := Lib.hid (W8.out.below al)
    have V1_9 := Lib.hid (V1_8.out.below al V1_8.out.lt)
    have V2_9 := Lib.hid (V2_8.out.below al V2_8.out.lt)
    have V3_9 := Lib.hid (V3_8.out.below al V3_8.out.lt)
    have XZ_9 := Lib.hid (XZ_8.out.below al XZ_8.out.lt)
    have Q9 := Lib.hid (Q8.out.below al)
    have P1_9 := Lib.hid (P1_8.out.below al P1_8.out.lt)
    have P2_9 := Lib.hid (P2_8.out.below al P2_8.out.lt)
    have P3_9 := Lib.hid (P3_8.out.below al P3_8.out.lt)
    have P9 := Lib.hid (P8.out.below al)
    have G1_9 := Lib.hid (G1_8.out.below al G1_8.out.lt)
    have G2_9 := Lib.hid (G2_8.out.below al G2_8.out.lt)
    have G3_9 := Lib.hid (G3_8.out.below al G3_8.out.lt)
    clear al L8 J8 X8 W8 V1_8 V2_8 V3_8 XZ_8 Q8 P1_8 P2_8 P3_8 P8 G1_8 G2_8 G3_8
    obtain ⟨x0_0, x0_1, x0_2, x0_3, x0_4, x0_5, x0_6, x0_7, x0_8, x0_9, x0_10, x0_11⟩ := G9.out
    obtain ⟨x1_0, x1_1, x1_2, x1_3, x1_4, x1_5, x1_6, x1_7, x1_8, x1_9, x1_10, x1_11⟩ := W9.out
    go_wp2_with fail
    refine (eqMsg_same H _ _ k1 u1 f1 j1 _ _ k2 u2 f2 j2 _ _ k3 u3 f3 j3 _ (bk_sr G1_9.out D1.out) (bk_sr V1_9.out D1.out) (by omega) (bk_sr G2_9.out D2.out) (bk_sr V2_9.out D2.out) (by omega) (bk_sr G3_9.out D3.out) (bk_sr V3_9.out D3.out) (by omega)).mono ?_
    rintro e w10 ⟨rfl, hl⟩
    have L10 := Lib.hid (L9.out.trans (hl.mono L9.out.size))
    have J10 := Lib.hid (J9.out.below hl)
    have X10 := Lib.hid (X9.out.below hl)
    have W10 := Lib.hid (W9.out.below hl)
    have V1_10 := Lib.hid (V1_9.out.below hl V1_9.out.lt)
    have V2_10 := Lib.hid (V2_9.out.below hl V2_9.out.lt)
    have V3_10 := Lib.hid (V3_9.out.below hl V3_9.out.lt)
    have XZ_10 := Lib.hid (XZ_9.out.below hl XZ_9.out.lt)
    have Q10 := Lib.hid (Q9.out.below hl)
    have P1_10 := Lib.hid (P1_9.out.below hl P1_9.out.lt)
    have P2_10 := Lib.hid (P2_9.out.below hl P2_9.out.lt)
    have P3_10 := Lib.hid (P3_9.out.below hl P3_9.out.lt)
    have P10 := Lib.hid (P9.out.below hl)
    have G1_10 := Lib.hid (G1_9.out.below hl G1_9.out.lt)
    have G2_10 := Lib.hid (G2_9.out.below hl G2_9.out.lt)
    have G3_10 := Lib.hid (G3_9.out.below hl G3_9.out.lt)
    have G10 := Lib.hid (G9.out.below hl)
    clear hl L9 J9 X9 W9 V1_9 V2_9 V3_9 XZ_9 Q9 P1_9 P2_9 P3_9 P9 G1_9 G2_9 G3_9 G9
    clear  x0_0 x0_1 x0_2 x0_3 x0_4 x0_5 x0_6 x0_7 x0_8 x0_9 x0_10 x0_11 x1_0 x1_1 x1_2 x1_3 x1_4 x1_5 x1_6 x1_7 x1_8 x1_9 x1_10 x1_11
    generalize w8.heap.size = gg at *
    have ORD : Hid (w.heap.size + 1 < w2.heap.size ∧ (w2.heap.size ≤ v1 ∧ v1 < v2 ∧ v2 < v3 ∧ w2.heap.size ≤ gw ∧ gw ≠ v1 ∧ gw ≠ v2 ∧ gw ≠ v3) ∧ v3 < w3.heap.size ∧ gw < w3.heap.size ∧ w3.heap.size ≤ gx ∧ gx < gq ∧ gq < p1 ∧ p1 < p2 ∧ p2 < p3 ∧ p3 < gp ∧ gp < g1 ∧ g1 < g2 ∧ g2 < g3 ∧ g3 < gg) := ⟨OV__.out.1, OV.out, OV__.out.2.1, OV__.out.2.2, OX.out, OQ.out, OP.out.1, OP.out.2.1, OP.out.2.2, OP_.out, OG.out.1, OG.out.2.1, OG.out.2.2, OG_.out⟩
    clear OV OV_ OV__ OX OQ OP OP_ OG OG_
    obtain ⟨ws2, hws2⟩ : ∃ x, w2.heap.size = x := ⟨_, rfl⟩
    obtain ⟨ws3, hws3⟩ : ∃ x, w3.heap.size = x := ⟨_, rfl⟩
    rw [hws2, hws3] at ORD
    clear hws2 hws3
    have TZ2 : Hid (∀ W : World, (((W.cell? ⟨w.heap.size, 0, none⟩ = some (.string z) ∧ W.cell? ⟨w.heap.size, 1, none⟩ = some (.slice A n c)) ∧ (W.cell? ⟨gq, 0, none⟩ = some (.string z) ∧ W.cell? ⟨gq, 1, none⟩ = some (.slice (some ⟨gx, 0, none⟩) n n))) ∧ Svz w10 W) → Calls Try.prog 12 #[.agg #[.string z, .slice A n c]] W fun e w' => ∃ g, e = .returned (.agg #[.string z, .slice (some ⟨g, 0, none⟩) n n]) ∧ Bk w' g 68 (fl l) ∧ W.heap.size ≤ g ∧ Below W.heap.size W w') := fun W hW => TR.out W (L10.out.trans ((show Below w10.heap.size w10 W from hW.2).mono L10.out.size))
    have EQZ : Hid (∀ (W : World) (t : Nat), (((W.cell? ⟨w.heap.size, 0, none⟩ = some (.string z) ∧ W.cell? ⟨w.heap.size, 1, none⟩ = some (.slice A n c)) ∧ (W.cell? ⟨gq, 0, none⟩ = some (.string z) ∧ W.cell? ⟨gq, 1, none⟩ = some (.slice (some ⟨gx, 0, none⟩) n n))) ∧ Svz w10 W) → Bk W t 68 (fl l) → Calls Try.prog 15 #[.agg #[.string z, .slice (some ⟨gx, 0, none⟩) n n], .agg #[.string z, .slice (some ⟨t, 0, none⟩) n n]] W fun e w' => e = .returned (.bool true) ∧ Below W.heap.size W w') := fun W t hW ht => eqZone_same z _ _ n n n l W (bk_sr0 (XZ_10.out.below hW.2 XZ_10.out.lt) HN.out) (bk_sr0 ht HN.out) bn
    have SS0 : ((w10.cell? ⟨w.heap.size, 0, none⟩ = some (.string z) ∧ w10.cell? ⟨w.heap.size, 1, none⟩ = some (.slice A n c)) ∧ (w10.cell? ⟨gq, 0, none⟩ = some (.string z) ∧ w10.cell? ⟨gq, 1, none⟩ = some (.slice (some ⟨gx, 0, none⟩) n n))) ∧ Svz w10 w10 := ⟨⟨J10.out, Q10.out⟩, Below.refl _ _⟩
    go_wp2
    go_region_held3 (fun w' => ((w'.cell? ⟨w.heap.size, 0, none⟩ = some (.string z) ∧ w'.cell? ⟨w.heap.size, 1, none⟩ = some (.slice A n c)) ∧ (w'.cell? ⟨gq, 0, none⟩ = some (.string z) ∧ w'.cell? ⟨gq, 1, none⟩ = some (.slice (some ⟨gx, 0, none⟩) n n))) ∧ Svz w10 w')
      (first | with_reducible exact SS0 | with_reducible assumption | exact kept2z (by assumption) hl | exact kept2z_draw (by assumption) | fail)
      (first
        | (go_at_call 12; (with_reducible refine (TZ2.out _ (by assumption)).mono ?_); rintro e wt10 ⟨t1, rfl, hb1, -, hl⟩)
        | (go_at_call 15; (with_reducible refine (EQZ.out _ _ (by assumption) hb1).mono ?_); rintro e w11 ⟨rfl, hl⟩)
        | fail)
    rename_i hH
    have hz : Below w10.heap.size w10 w11 := hH.2
    clear hH hb1 hl SS0 TZ2 EQZ
    have L11 := Lib.hid (L10.out.trans (hz.mono L10.out.size))
    have J11 := Lib.hid (J10.out.below hz)
    have X11 := Lib.hid (X10.out.below hz)
    have W11 := Lib.hid (W10.out.below hz)
    have V1_11 := Lib.hid (V1_10.out.below hz V1_10.out.lt)
    have V2_11 := Lib.hid (V2_10.out.below hz V2_10.out.lt)
    have V3_11 := Lib.hid (V3_10.out.below hz V3_10.out.lt)
    have XZ_11 := Lib.hid (XZ_10.out.below hz XZ_10.out.lt)
    have Q11 := Lib.hid (Q10.out.below hz)
    have P1_11 := Lib.hid (P1_10.out.below hz P1_10.out.lt)
    have P2_11 := Lib.hid (P2_10.out.below hz P2_10.out.lt)
    have P3_11 := Lib.hid (P3_10.out.below hz P3_10.out.lt)
    have P11 := Lib.hid (P10.out.below hz)
    have G1_11 := Lib.hid (G1_10.out.below hz G1_10.out.lt)
    have G2_11 := Lib.hid (G2_10.out.below hz G2_10.out.lt)
    have G3_11 := Lib.hid (G3_10.out.below hz G3_10.out.lt)
    have G11 := Lib.hid (G10.out.below hz)
    clear hz L10 J10 X10 W10 V1_10 V2_10 V3_10 XZ_10 Q10 P1_10 P2_10 P3_10 P10 G1_10 G2_10 G3_10 G10
    have TM2 : Hid (∀ W : World, (((W.cell? ⟨w.heap.size + 1, 0, none⟩ = some (.int .i64 h.id) ∧ W.cell? ⟨w.heap.size + 1, 1, none⟩ = some (.bool h.rp) ∧ W.cell? ⟨w.heap.size + 1, 2, none⟩ = some (.bool h.au) ∧ W.cell? ⟨w.heap.size + 1, 3, none⟩ = some (.bool h.ct) ∧ W.cell? ⟨w.heap.size + 1, 4, none⟩ = some (.bool h.wa) ∧ W.cell? ⟨w.heap.size + 1, 5, none⟩ = some (.bool h.ca) ∧ W.cell? ⟨w.heap.size + 1, 6, none⟩ = some (.int .i64 h.code) ∧ W.cell? ⟨w.heap.size + 1, 7, none⟩ = some (.string h.qn) ∧ W.cell? ⟨w.heap.size + 1, 8, none⟩ = some (.int .i64 h.qt) ∧ W.cell? ⟨w.heap.size + 1, 9, none⟩ = some (.slice A1 n1 c1) ∧ W.cell? ⟨w.heap.size + 1, 10, none⟩ = some (.slice A2 n2 c2) ∧ W.cell? ⟨w.heap.size + 1, 11, none⟩ = some (.slice A3 n3 c3)) ∧ (W.cell? ⟨gp, 0, none⟩ = some (.int .i64 h.id) ∧ W.cell? ⟨gp, 1, none⟩ = some (.bool h.rp) ∧ W.cell? ⟨gp, 2, none⟩ = some (.bool h.au) ∧ W.cell? ⟨gp, 3, none⟩ = some (.bool h.ct) ∧ W.cell? ⟨gp, 4, none⟩ = some (.bool h.wa) ∧ W.cell? ⟨gp, 5, none⟩ = some (.bool h.ca) ∧ W.cell? ⟨gp, 6, none⟩ = some (.int .i64 h.code) ∧ W.cell? ⟨gp, 7, none⟩ = some (.string h.qn) ∧ W.cell? ⟨gp, 8, none⟩ = some (.int .i64 h.qt) ∧ W.cell? ⟨gp, 9, none⟩ = some (.slice (some ⟨p1, 0, none⟩) n1 e1) ∧ W.cell? ⟨gp, 10, none⟩ = some (.slice (some ⟨p2, 0, none⟩) n2 e2) ∧ W.cell? ⟨gp, 11, none⟩ = some (.slice (some ⟨p3, 0, none⟩) n3 e3))) ∧ Sv w11 W) → Calls Try.prog 28 #[.agg #[.int .i64 h.id, .bool h.rp, .bool h.au, .bool h.ct, .bool h.wa, .bool h.ca, .int .i64 h.code, .string h.qn, .int .i64 h.qt, .slice A1 n1 c1, .slice A2 n2 c2, .slice A3 n3 c3]] W (GivesM W h n1 n2 n3 l1 l2 l3)) := fun W hW => TM.out W (L11.out.trans ((show Below w11.heap.size w11 W from hW.2).mono L11.out.size))
    have EQ : Hid (∀ (W : World) (t1 f1 : Nat) (q1 : List Value) (t2 f2 : Nat) (q2 : List Value) (t3 f3 : Nat) (q3 : List Value), (((W.cell? ⟨w.heap.size + 1, 0, none⟩ = some (.int .i64 h.id) ∧ W.cell? ⟨w.heap.size + 1, 1, none⟩ = some (.bool h.rp) ∧ W.cell? ⟨w.heap.size + 1, 2, none⟩ = some (.bool h.au) ∧ W.cell? ⟨w.heap.size + 1, 3, none⟩ = some (.bool h.ct) ∧ W.cell? ⟨w.heap.size + 1, 4, none⟩ = some (.bool h.wa) ∧ W.cell? ⟨w.heap.size + 1, 5, none⟩ = some (.bool h.ca) ∧ W.cell? ⟨w.heap.size + 1, 6, none⟩ = some (.int .i64 h.code) ∧ W.cell? ⟨w.heap.size + 1, 7, none⟩ = some (.string h.qn) ∧ W.cell? ⟨w.heap.size + 1, 8, none⟩ = some (.int .i64 h.qt) ∧ W.cell? ⟨w.heap.size + 1, 9, none⟩ = some (.slice A1 n1 c1) ∧ W.cell? ⟨w.heap.size + 1, 10, none⟩ = some (.slice A2 n2 c2) ∧ W.cell? ⟨w.heap.size + 1, 11, none⟩ = some (.slice A3 n3 c3)) ∧ (W.cell? ⟨gp, 0, none⟩ = some (.int .i64 h.id) ∧ W.cell? ⟨gp, 1, none⟩ = some (.bool h.rp) ∧ W.cell? ⟨gp, 2, none⟩ = some (.bool h.au) ∧ W.cell? ⟨gp, 3, none⟩ = some (.bool h.ct) ∧ W.cell? ⟨gp, 4, none⟩ = some (.bool h.wa) ∧ W.cell? ⟨gp, 5, none⟩ = some (.bool h.ca) ∧ W.cell? ⟨gp, 6, none⟩ = some (.int .i64 h.code) ∧ W.cell? ⟨gp, 7, none⟩ = some (.string h.qn) ∧ W.cell? ⟨gp, 8, none⟩ = some (.int .i64 h.qt) ∧ W.cell? ⟨gp, 9, none⟩ = some (.slice (some ⟨p1, 0, none⟩) n1 e1) ∧ W.cell? ⟨gp, 10, none⟩ = some (.slice (some ⟨p2, 0, none⟩) n2 e2) ∧ W.cell? ⟨gp, 11, none⟩ = some (.slice (some ⟨p3, 0, none⟩) n3 e3))) ∧ Sv w11 W) → Bk W t1 68 (fl l1 ++ q1) → Bk W t2 68 (fl l2 ++ q2) → Bk W t3 68 (fl l3 ++ q3) → Calls Try.prog 30 #[.agg #[.int .i64 h.id, .bool h.rp, .bool h.au, .bool h.ct, .bool h.wa, .bool h.ca, .int .i64 h.code, .string h.qn, .int .i64 h.qt, .slice (some ⟨p1, 0, none⟩) n1 e1, .slice (some ⟨p2, 0, none⟩) n2 e2, .slice (some ⟨p3, 0, none⟩) n3 e3], .agg #[.int .i64 h.id, .bool h.rp, .bool h.au, .bool h.ct, .bool h.wa, .bool h.ca, .int .i64 h.code, .string h.qn, .int .i64 h.qt, .slice (some ⟨t1, 0, none⟩) n1 f1, .slice (some ⟨t2, 0, none⟩) n2 f2, .slice (some ⟨t3, 0, none⟩) n3 f3]] W fun e w' => e = .returned (.bool true) ∧ Below W.heap.size W w') := fun W t1 f1 q1 t2 f2 q2 t3 f3 q3 hW b1 b2 b3 => eqMsg_same h _ _ n1 e1 f1 l1 _ _ n2 e2 f2 l2 _ _ n3 e3 f3 l3 W (bk_sr (P1_11.out.below hW.2 P1_11.out.lt) B1.out) (bk_sr b1 B1.out) (by omega) (bk_sr (P2_11.out.below hW.2 P2_11.out.lt) B2.out) (bk_sr b2 B2.out) (by omega) (bk_sr (P3_11.out.below hW.2 P3_11.out.lt) B3.out) (bk_sr b3 B3.out) (by omega)
    have SS0 : (((w11.cell? ⟨w.heap.size + 1, 0, none⟩ = some (.int .i64 h.id) ∧ w11.cell? ⟨w.heap.size + 1, 1, none⟩ = some (.bool h.rp) ∧ w11.cell? ⟨w.heap.size + 1, 2, none⟩ = some (.bool h.au) ∧ w11.cell? ⟨w.heap.size + 1, 3, none⟩ = some (.bool h.ct) ∧ w11.cell? ⟨w.heap.size + 1, 4, none⟩ = some (.bool h.wa) ∧ w11.cell? ⟨w.heap.size + 1, 5, none⟩ = some (.bool h.ca) ∧ w11.cell? ⟨w.heap.size + 1, 6, none⟩ = some (.int .i64 h.code) ∧ w11.cell? ⟨w.heap.size + 1, 7, none⟩ = some (.string h.qn) ∧ w11.cell? ⟨w.heap.size + 1, 8, none⟩ = some (.int .i64 h.qt) ∧ w11.cell? ⟨w.heap.size + 1, 9, none⟩ = some (.slice A1 n1 c1) ∧ w11.cell? ⟨w.heap.size + 1, 10, none⟩ = some (.slice A2 n2 c2) ∧ w11.cell? ⟨w.heap.size + 1, 11, none⟩ = some (.slice A3 n3 c3)) ∧ (w11.cell? ⟨gp, 0, none⟩ = some (.int .i64 h.id) ∧ w11.cell? ⟨gp, 1, none⟩ = some (.bool h.rp) ∧ w11.cell? ⟨gp, 2, none⟩ = some (.bool h.au) ∧ w11.cell? ⟨gp, 3, none⟩ = some (.bool h.ct) ∧ w11.cell? ⟨gp, 4, none⟩ = some (.bool h.wa) ∧ w11.cell? ⟨gp, 5, none⟩ = some (.bool h.ca) ∧ w11.cell? ⟨gp, 6, none⟩ = some (.int .i64 h.code) ∧ w11.cell? ⟨gp, 7, none⟩ = some (.string h.qn) ∧ w11.cell? ⟨gp, 8, none⟩ = some (.int .i64 h.qt) ∧ w11.cell? ⟨gp, 9, none⟩ = some (.slice (some ⟨p1, 0, none⟩) n1 e1) ∧ w11.cell? ⟨gp, 10, none⟩ = some (.slice (some ⟨p2, 0, none⟩) n2 e2) ∧ w11.cell? ⟨gp, 11, none⟩ = some (.slice (some ⟨p3, 0, none⟩) n3 e3))) ∧ Sv w11 w11) := ⟨⟨X11.out, P11.out⟩, Below.refl _ _⟩
    go_wp2
    go_region_held3 (fun w' => (((w'.cell? ⟨w.heap.size + 1, 0, none⟩ = some (.int .i64 h.id) ∧ w'.cell? ⟨w.heap.size + 1, 1, none⟩ = some (.bool h.rp) ∧ w'.cell? ⟨w.heap.size + 1, 2, none⟩ = some (.bool h.au) ∧ w'.cell? ⟨w.heap.size + 1, 3, none⟩ = some (.bool h.ct) ∧ w'.cell? ⟨w.heap.size + 1, 4, none⟩ = some (.bool h.wa) ∧ w'.cell? ⟨w.heap.size + 1, 5, none⟩ = some (.bool h.ca) ∧ w'.cell? ⟨w.heap.size + 1, 6, none⟩ = some (.int .i64 h.code) ∧ w'.cell? ⟨w.heap.size + 1, 7, none⟩ = some (.string h.qn) ∧ w'.cell? ⟨w.heap.size + 1, 8, none⟩ = some (.int .i64 h.qt) ∧ w'.cell? ⟨w.heap.size + 1, 9, none⟩ = some (.slice A1 n1 c1) ∧ w'.cell? ⟨w.heap.size + 1, 10, none⟩ = some (.slice A2 n2 c2) ∧ w'.cell? ⟨w.heap.size + 1, 11, none⟩ = some (.slice A3 n3 c3)) ∧ (w'.cell? ⟨gp, 0, none⟩ = some (.int .i64 h.id) ∧ w'.cell? ⟨gp, 1, none⟩ = some (.bool h.rp) ∧ w'.cell? ⟨gp, 2, none⟩ = some (.bool h.au) ∧ w'.cell? ⟨gp, 3, none⟩ = some (.bool h.ct) ∧ w'.cell? ⟨gp, 4, none⟩ = some (.bool h.wa) ∧ w'.cell? ⟨gp, 5, none⟩ = some (.bool h.ca) ∧ w'.cell? ⟨gp, 6, none⟩ = some (.int .i64 h.code) ∧ w'.cell? ⟨gp, 7, none⟩ = some (.string h.qn) ∧ w'.cell? ⟨gp, 8, none⟩ = some (.int .i64 h.qt) ∧ w'.cell? ⟨gp, 9, none⟩ = some (.slice (some ⟨p1, 0, none⟩) n1 e1) ∧ w'.cell? ⟨gp, 10, none⟩ = some (.slice (some ⟨p2, 0, none⟩) n2 e2) ∧ w'.cell? ⟨gp, 11, none⟩ = some (.slice (some ⟨p3, 0, none⟩) n3 e3))) ∧ Sv w11 w'))
      (first | with_reducible exact SS0 | with_reducible assumption | exact kept2 (by assumption) hl | exact kept2_draw (by assumption) | fail)
      (first
        | (go_at_call 28; (with_reducible refine (TM2.out _ (by assumption)).mono ?_); rintro e wt11 ⟨tt1, ff1, qq1, tt2, ff2, qq2, tt3, ff3, qq3, rfl, hb1, hb2, hb3, -, -, -, hl⟩)
        | (go_at_call 30; (with_reducible refine (EQ.out _ _ _ _ _ _ _ _ _ _ (by assumption) hb1 hb2 hb3).mono ?_); rintro e w12 ⟨rfl, hl⟩)
        | fail)
    rename_i hH
    have hz : Below w11.heap.size w11 w12 := hH.2
    clear hH hb1 hb2 hb3 hl SS0 TM2 EQ
    have L12 := Lib.hid (L11.out.trans (hz.mono L11.out.size))
    have J12 := Lib.hid (J11.out.below hz)
    have X12 := Lib.hid (X11.out.below hz)
    have W12 := Lib.hid (W11.out.below hz)
    have V1_12 := Lib.hid (V1_11.out.below hz V1_11.out.lt)
    have V2_12 := Lib.hid (V2_11.out.below hz V2_11.out.lt)
    have V3_12 := Lib.hid (V3_11.out.below hz V3_11.out.lt)
    have XZ_12 := Lib.hid (XZ_11.out.below hz XZ_11.out.lt)
    have Q12 := Lib.hid (Q11.out.below hz)
    have P1_12 := Lib.hid (P1_11.out.below hz P1_11.out.lt)
    have P2_12 := Lib.hid (P2_11.out.below hz P2_11.out.lt)
    have P3_12 := Lib.hid (P3_11.out.below hz P3_11.out.lt)
    have P12 := Lib.hid (P11.out.below hz)
    have G1_12 := Lib.hid (G1_11.out.below hz G1_11.out.lt)
    have G2_12 := Lib.hid (G2_11.out.below hz G2_11.out.lt)
    have G3_12 := Lib.hid (G3_11.out.below hz G3_11.out.lt)
    have G12 := Lib.hid (G11.out.below hz)
    clear hz L11 J11 X11 W11 V1_11 V2_11 V3_11 XZ_11 Q11 P1_11 P2_11 P3_11 P11 G1_11 G2_11 G3_11 G11
    obtain ⟨z0, z1⟩ := Q12.out
    go_wp2_with fail
    refine (markZone_one z gx n n l [] _ (by rw [List.append_nil]; exact XZ_12.out) HN.out (by omega)).mono ?_
    rintro e w13 ⟨rfl, ht⟩
    have L13 := Lib.hid (L12.out.grown ht L12.out.size (fun j hj => by cases hj; exact (by have := ORD.out; omega)))
    have J13 := Lib.hid (J12.out.grown ht (fun e => by have := Option.some.inj e; have := ORD.out; omega))
    have X13 := Lib.hid (X12.out.grown ht (fun e => by have := Option.some.inj e; have := ORD.out; omega))
    have W13 := Lib.hid (W12.out.grown ht (fun e => by have := Option.some.inj e; have := ORD.out; omega))
    have V1_13 := Lib.hid (V1_12.out.grown ht (fun e => by have := Option.some.inj e; have := ORD.out; omega))
    have V2_13 := Lib.hid (V2_12.out.grown ht (fun e => by have := Option.some.inj e; have := ORD.out; omega))
    have V3_13 := Lib.hid (V3_12.out.grown ht (fun e => by have := Option.some.inj e; have := ORD.out; omega))
    have P1_13 := Lib.hid (P1_12.out.grown ht (fun e => by have := Option.some.inj e; have := ORD.out; omega))
    have P2_13 := Lib.hid (P2_12.out.grown ht (fun e => by have := Option.some.inj e; have := ORD.out; omega))
    have P3_13 := Lib.hid (P3_12.out.grown ht (fun e => by have := Option.some.inj e; have := ORD.out; omega))
    have P13 := Lib.hid (P12.out.grown ht (fun e => by have := Option.some.inj e; have := ORD.out; omega))
    have G1_13 := Lib.hid (G1_12.out.grown ht (fun e => by have := Option.some.inj e; have := ORD.out; omega))
    have G2_13 := Lib.hid (G2_12.out.grown ht (fun e => by have := Option.some.inj e; have := ORD.out; omega))
    have G3_13 := Lib.hid (G3_12.out.grown ht (fun e => by have := Option.some.inj e; have := ORD.out; omega))
    have G13 := Lib.hid (G12.out.grown ht (fun e => by have := Option.some.inj e; have := ORD.out; omega))
    clear ht L12 J12 X12 W12 V1_12 V2_12 V3_12 XZ_12 Q12 P1_12 P2_12 P3_12 P12 G1_12 G2_12 G3_12 G12 z0 z1 
    have ea : (1 : Int) + 6 * (n : Int) = ((1 + 6 * n : Nat) : Int) := by omega
    rw [ea]
    obtain ⟨a1, ha1⟩ : ∃ a, 1 + 6 * n = a := ⟨_, rfl⟩
    rw [ha1]
    have zz1 : a1 ≤ 1 + 6 * n ∧ 0 < a1 := by omega
    clear ea ha1
    obtain ⟨x0_0, x0_1, x0_2, x0_3, x0_4, x0_5, x0_6, x0_7, x0_8, x0_9, x0_10, x0_11⟩ := P13.out
    go_wp2_with fail
    refine (markMsg_at h p1 n1 e1 p2 n2 e2 p3 n3 e3 a1 l1 l2 l3 rp1 rp2 rp3 _ P1_13.out P2_13.out P3_13.out B1.out B2.out B3.out (by have := ORD.out; omega) (by have := ORD.out; omega) (by omega) (by omega)).mono ?_
    rintro e w14 ⟨rfl, -, -, -, ht⟩
    have L14 := Lib.hid (ht.below L13.out (by have := ORD.out; omega) (by have := ORD.out; omega) (by have := ORD.out; omega))
    have J14 := Lib.hid (zx_turned ht J13.out (by have := ORD.out; omega) (by have := ORD.out; omega) (by have := ORD.out; omega))
    have X14 := Lib.hid (ht.mx X13.out (by have := ORD.out; omega) (by have := ORD.out; omega) (by have := ORD.out; omega))
    have W14 := Lib.hid (ht.mx W13.out (by have := ORD.out; omega) (by have := ORD.out; omega) (by have := ORD.out; omega))
    have V1_14 := Lib.hid (ht.bk V1_13.out (by have := ORD.out; omega) (by have := ORD.out; omega) (by have := ORD.out; omega))
    have V2_14 := Lib.hid (ht.bk V2_13.out (by have := ORD.out; omega) (by have := ORD.out; omega) (by have := ORD.out; omega))
    have V3_14 := Lib.hid (ht.bk V3_13.out (by have := ORD.out; omega) (by have := ORD.out; omega) (by have := ORD.out; omega))
    have G1_14 := Lib.hid (ht.bk G1_13.out (by have := ORD.out; omega) (by have := ORD.out; omega) (by have := ORD.out; omega))
    have G2_14 := Lib.hid (ht.bk G2_13.out (by have := ORD.out; omega) (by have := ORD.out; omega) (by have := ORD.out; omega))
    have G3_14 := Lib.hid (ht.bk G3_13.out (by have := ORD.out; omega) (by have := ORD.out; omega) (by have := ORD.out; omega))
    have G14 := Lib.hid (ht.mx G13.out (by have := ORD.out; omega) (by have := ORD.out; omega) (by have := ORD.out; omega))
    clear ht L13 J13 X13 W13 V1_13 V2_13 V3_13 P1_13 P2_13 P3_13 P13 G1_13 G2_13 G3_13 G13  x0_0 x0_1 x0_2 x0_3 x0_4 x0_5 x0_6 x0_7 x0_8 x0_9 x0_10 x0_11
    obtain ⟨a2, ha2⟩ : ∃ a, a1 + 6 * (n1 + n2 + n3) = a := ⟨_, rfl⟩
    rw [ha2]
    clear ha2
    have np : ¬ (a2 : Int) < 0 := by omega
    have np2 : decide ((a2 : Int) < 0) = false := decide_eq_false np
    obtain ⟨x0_0, x0_1, x0_2, x0_3, x0_4, x0_5, x0_6, x0_7, x0_8, x0_9, x0_10, x0_11⟩ := G14.out
    obtain ⟨x1_0, x1_1, x1_2, x1_3, x1_4, x1_5, x1_6, x1_7, x1_8, x1_9, x1_10, x1_11⟩ := W14.out
    go_wp2_with fail
    refine (eqMsg_same H _ _ k1 u1 f1 j1 _ _ k2 u2 f2 j2 _ _ k3 u3 f3 j3 _ (bk_sr G1_14.out D1.out) (bk_sr V1_14.out D1.out) (by omega) (bk_sr G2_14.out D2.out) (bk_sr V2_14.out D2.out) (by omega) (bk_sr G3_14.out D3.out) (bk_sr V3_14.out D3.out) (by omega)).mono ?_
    rintro e w15 ⟨rfl, hl⟩
    have L15 := Lib.hid (L14.out.trans (hl.mono L14.out.size))
    have J15 := Lib.hid (J14.out.below hl)
    have X15 := Lib.hid (X14.out.below hl)
    have W15 := Lib.hid (W14.out.below hl)
    have V1_15 := Lib.hid (V1_14.out.below hl V1_14.out.lt)
    have V2_15 := Lib.hid (V2_14.out.below hl V2_14.out.lt)
    have V3_15 := Lib.hid (V3_14.out.below hl V3_14.out.lt)
    have G1_15 := Lib.hid (G1_14.out.below hl G1_14.out.lt)
    have G2_15 := Lib.hid (G2_14.out.below hl G2_14.out.lt)
    have G3_15 := Lib.hid (G3_14.out.below hl G3_14.out.lt)
    have G15 := Lib.hid (G14.out.below hl)
    clear hl L14 J14 X14 W14 V1_14 V2_14 V3_14 G1_14 G2_14 G3_14 G14
    clear  x0_0 x0_1 x0_2 x0_3 x0_4 x0_5 x0_6 x0_7 x0_8 x0_9 x0_10 x0_11 x1_0 x1_1 x1_2 x1_3 x1_4 x1_5 x1_6 x1_7 x1_8 x1_9 x1_10 x1_11
    clear np np2
    obtain ⟨x0_0, x0_1, x0_2, x0_3, x0_4, x0_5, x0_6, x0_7, x0_8, x0_9, x0_10, x0_11⟩ := G15.out
    go_wp2_with fail
    refine (markMsg_one H g1 k1 u1 g2 k2 u2 g3 k3 u3 j1 j2 j3 rg1 rg2 rg3 _ G1_15.out G2_15.out G3_15.out D1.out D2.out D3.out (by have := ORD.out; omega) (by have := ORD.out; omega) (by omega)).mono ?_
    rintro e w16 ⟨rfl, hm1, hm2, hm3, ht⟩
    have M1_16 := Lib.hid hm1
    have M2_16 := Lib.hid hm2
    have M3_16 := Lib.hid hm3
    have L16 := Lib.hid (ht.below L15.out (by have := ORD.out; omega) (by have := ORD.out; omega) (by have := ORD.out; omega))
    have J16 := Lib.hid (zx_turned ht J15.out (by have := ORD.out; omega) (by have := ORD.out; omega) (by have := ORD.out; omega))
    have X16 := Lib.hid (ht.mx X15.out (by have := ORD.out; omega) (by have := ORD.out; omega) (by have := ORD.out; omega))
    have W16 := Lib.hid (ht.mx W15.out (by have := ORD.out; omega) (by have := ORD.out; omega) (by have := ORD.out; omega))
    have V1_16 := Lib.hid (ht.bk V1_15.out (by have := ORD.out; omega) (by have := ORD.out; omega) (by have := ORD.out; omega))
    have V2_16 := Lib.hid (ht.bk V2_15.out (by have := ORD.out; omega) (by have := ORD.out; omega) (by have := ORD.out; omega))
    have V3_16 := Lib.hid (ht.bk V3_15.out (by have := ORD.out; omega) (by have := ORD.out; omega) (by have := ORD.out; omega))
    have G16 := Lib.hid (ht.mx G15.out (by have := ORD.out; omega) (by have := ORD.out; omega) (by have := ORD.out; omega))
    clear ht L15 J15 X15 W15 V1_15 V2_15 V3_15 G1_15 G2_15 G3_15 G15 hm1 hm2 hm3 x0_0 x0_1 x0_2 x0_3 x0_4 x0_5 x0_6 x0_7 x0_8 x0_9 x0_10 x0_11
    have HU : Hid (∃ a : Nat, 1 + 6 * (k1 + k2 + k3) = a) := ⟨_, rfl⟩
    obtain ⟨u, hu⟩ := HU.out
    have UU := Lib.hid hu
    rw [hu]
    have nu : ¬ (u : Int) < 0 := by omega
    clear hu HU
    obtain ⟨x0_0, x0_1, x0_2, x0_3, x0_4, x0_5, x0_6, x0_7, x0_8, x0_9, x0_10, x0_11⟩ := G16.out
    go_wp2_with fail
    refine (heldMsg_one H g1 k1 u1 g2 k2 u2 g3 k3 u3 rg1 rg2 rg3 _ M1_16.out M2_16.out M3_16.out (by omega)).mono ?_
    rintro e w17 ⟨rfl, hl⟩
    rw [UU.out]
    have L17 := Lib.hid (L16.out.trans (hl.mono L16.out.size))
    have J17 := Lib.hid (J16.out.below hl)
    have X17 := Lib.hid (X16.out.below hl)
    have W17 := Lib.hid (W16.out.below hl)
    have V1_17 := Lib.hid (V1_16.out.below hl V1_16.out.lt)
    have V2_17 := Lib.hid (V2_16.out.below hl V2_16.out.lt)
    have V3_17 := Lib.hid (V3_16.out.below hl V3_16.out.lt)
    have G17 := Lib.hid (G16.out.below hl)
    have M1_17 := Lib.hid (M1_16.out.below hl M1_16.out.lt)
    have M2_17 := Lib.hid (M2_16.out.below hl M2_16.out.lt)
    have M3_17 := Lib.hid (M3_16.out.below hl M3_16.out.lt)
    clear hl L16 J16 X16 W16 V1_16 V2_16 V3_16 G16 M1_16 M2_16 M3_16
    clear  x0_0 x0_1 x0_2 x0_3 x0_4 x0_5 x0_6 x0_7 x0_8 x0_9 x0_10 x0_11
    go_upto_region 31 with (fail)
    have TZR : Hid (∀ W : World, (((W.cell? ⟨w.heap.size, 0, none⟩ = some (.string z) ∧ W.cell? ⟨w.heap.size, 1, none⟩ = some (.slice A n c)) ∧ (W.cell? ⟨w.heap.size + 1, 0, none⟩ = some (.int .i64 h.id) ∧ W.cell? ⟨w.heap.size + 1, 1, none⟩ = some (.bool h.rp) ∧ W.cell? ⟨w.heap.size + 1, 2, none⟩ = some (.bool h.au) ∧ W.cell? ⟨w.heap.size + 1, 3, none⟩ = some (.bool h.ct) ∧ W.cell? ⟨w.heap.size + 1, 4, none⟩ = some (.bool h.wa) ∧ W.cell? ⟨w.heap.size + 1, 5, none⟩ = some (.bool h.ca) ∧ W.cell? ⟨w.heap.size + 1, 6, none⟩ = some (.int .i64 h.code) ∧ W.cell? ⟨w.heap.size + 1, 7, none⟩ = some (.string h.qn) ∧ W.cell? ⟨w.heap.size + 1, 8, none⟩ = some (.int .i64 h.qt) ∧ W.cell? ⟨w.heap.size + 1, 9, none⟩ = some (.slice A1 n1 c1) ∧ W.cell? ⟨w.heap.size + 1, 10, none⟩ = some (.slice A2 n2 c2) ∧ W.cell? ⟨w.heap.size + 1, 11, none⟩ = some (.slice A3 n3 c3))) ∧ Sv w17 W) → Calls Try.prog 12 #[.agg #[.string z, .slice A n c]] W fun e w' => ∃ g, e = .returned (.agg #[.string z, .slice (some ⟨g, 0, none⟩) n n]) ∧ Bk w' g 68 (fl l) ∧ W.heap.size ≤ g ∧ Below W.heap.size W w') := fun W hW => TR.out W (L17.out.trans ((show Below w17.heap.size w17 W from hW.2).mono L17.out.size))
    have TMR : Hid (∀ W : World, (((W.cell? ⟨w.heap.size, 0, none⟩ = some (.string z) ∧ W.cell? ⟨w.heap.size, 1, none⟩ = some (.slice A n c)) ∧ (W.cell? ⟨w.heap.size + 1, 0, none⟩ = some (.int .i64 h.id) ∧ W.cell? ⟨w.heap.size + 1, 1, none⟩ = some (.bool h.rp) ∧ W.cell? ⟨w.heap.size + 1, 2, none⟩ = some (.bool h.au) ∧ W.cell? ⟨w.heap.size + 1, 3, none⟩ = some (.bool h.ct) ∧ W.cell? ⟨w.heap.size + 1, 4, none⟩ = some (.bool h.wa) ∧ W.cell? ⟨w.heap.size + 1, 5, none⟩ = some (.bool h.ca) ∧ W.cell? ⟨w.heap.size + 1, 6, none⟩ = some (.int .i64 h.code) ∧ W.cell? ⟨w.heap.size + 1, 7, none⟩ = some (.string h.qn) ∧ W.cell? ⟨w.heap.size + 1, 8, none⟩ = some (.int .i64 h.qt) ∧ W.cell? ⟨w.heap.size + 1, 9, none⟩ = some (.slice A1 n1 c1) ∧ W.cell? ⟨w.heap.size + 1, 10, none⟩ = some (.slice A2 n2 c2) ∧ W.cell? ⟨w.heap.size + 1, 11, none⟩ = some (.slice A3 n3 c3))) ∧ Sv w17 W) → Calls Try.prog 28 #[.agg #[.int .i64 h.id, .bool h.rp, .bool h.au, .bool h.ct, .bool h.wa, .bool h.ca, .int .i64 h.code, .string h.qn, .int .i64 h.qt, .slice A1 n1 c1, .slice A2 n2 c2, .slice A3 n3 c3]] W (GivesM W h n1 n2 n3 l1 l2 l3)) := fun W hW => TM.out W (L17.out.trans ((show Below w17.heap.size w17 W from hW.2).mono L17.out.size))
    have SS0 : ((w17.cell? ⟨w.heap.size, 0, none⟩ = some (.string z) ∧ w17.cell? ⟨w.heap.size, 1, none⟩ = some (.slice A n c)) ∧ (w17.cell? ⟨w.heap.size + 1, 0, none⟩ = some (.int .i64 h.id) ∧ w17.cell? ⟨w.heap.size + 1, 1, none⟩ = some (.bool h.rp) ∧ w17.cell? ⟨w.heap.size + 1, 2, none⟩ = some (.bool h.au) ∧ w17.cell? ⟨w.heap.size + 1, 3, none⟩ = some (.bool h.ct) ∧ w17.cell? ⟨w.heap.size + 1, 4, none⟩ = some (.bool h.wa) ∧ w17.cell? ⟨w.heap.size + 1, 5, none⟩ = some (.bool h.ca) ∧ w17.cell? ⟨w.heap.size + 1, 6, none⟩ = some (.int .i64 h.code) ∧ w17.cell? ⟨w.heap.size + 1, 7, none⟩ = some (.string h.qn) ∧ w17.cell? ⟨w.heap.size + 1, 8, none⟩ = some (.int .i64 h.qt) ∧ w17.cell? ⟨w.heap.size + 1, 9, none⟩ = some (.slice A1 n1 c1) ∧ w17.cell? ⟨w.heap.size + 1, 10, none⟩ = some (.slice A2 n2 c2) ∧ w17.cell? ⟨w.heap.size + 1, 11, none⟩ = some (.slice A3 n3 c3))) ∧ Sv w17 w17 := ⟨⟨J17.out, X17.out⟩, Below.refl _ _⟩
    have hgz : w.heap.size < w17.heap.size := J17.out.lt
    have hgx : w.heap.size + 1 < w17.heap.size := X17.out.lt
    go_wp2
    go_cut [13] (fun a wx => ∃ (gw v1 u1 : Nat) (r1 : List Value) (v2 u2 : Nat) (r2 : List Value) (v3 u3 : Nat) (r3 : List Value), a = .pointer (some ⟨gw, 0, none⟩) ∧ Hid (Mx wx gw H (.slice (some ⟨v1, 0, none⟩) k1 u1) (.slice (some ⟨v2, 0, none⟩) k2 u2) (.slice (some ⟨v3, 0, none⟩) k3 u3)) ∧ Hid (Bk wx v1 68 (fl j1 ++ r1)) ∧ Hid (Bk wx v2 68 (fl j2 ++ r2)) ∧ Hid (Bk wx v3 68 (fl j3 ++ r3)) ∧ Hid (w17.heap.size ≤ v1 ∧ v1 < v2 ∧ v2 < v3 ∧ w17.heap.size ≤ gw ∧ gw ≠ v1 ∧ gw ≠ v2 ∧ gw ≠ v3) ∧ Hid (Below w17.heap.size w17 wx))
    case first =>
      go_region_held3 (fun w' => ((w'.cell? ⟨w.heap.size, 0, none⟩ = some (.string z) ∧ w'.cell? ⟨w.heap.size, 1, none⟩ = some (.slice A n c)) ∧ (w'.cell? ⟨w.heap.size + 1, 0, none⟩ = some (.int .i64 h.id) ∧ w'.cell? ⟨w.heap.size + 1, 1, none⟩ = some (.bool h.rp) ∧ w'.cell? ⟨w.heap.size + 1, 2, none⟩ = some (.bool h.au) ∧ w'.cell? ⟨w.heap.size + 1, 3, none⟩ = some (.bool h.ct) ∧ w'.cell? ⟨w.heap.size + 1, 4, none⟩ = some (.bool h.wa) ∧ w'.cell? ⟨w.heap.size + 1, 5, none⟩ = some (.bool h.ca) ∧ w'.cell? ⟨w.heap.size + 1, 6, none⟩ = some (.int .i64 h.code) ∧ w'.cell? ⟨w.heap.size + 1, 7, none⟩ = some (.string h.qn) ∧ w'.cell? ⟨w.heap.size + 1, 8, none⟩ = some (.int .i64 h.qt) ∧ w'.cell? ⟨w.heap.size + 1, 9, none⟩ = some (.slice A1 n1 c1) ∧ w'.cell? ⟨w.heap.size + 1, 10, none⟩ = some (.slice A2 n2 c2) ∧ w'.cell? ⟨w.heap.size + 1, 11, none⟩ = some (.slice A3 n3 c3))) ∧ Sv w17 w')
        (first
          | with_reducible exact SS0
          | with_reducible exact hS5
          | with_reducible exact hSq
          | with_reducible exact hSt
          | with_reducible exact keptZ_alloc hS5 _
          | with_reducible exact keptZ_alloc hSq _
          | with_reducible exact keptZ_alloc hSt _
          | with_reducible exact keptZ_draw (keptZ_alloc SS0 _)
          | with_reducible exact keptZ_fil (w := w18) (b := wq17.heap.size) hS5 (Nat.ne_of_lt (Nat.lt_of_lt_of_le hgz hZq)) (Nat.ne_of_lt (Nat.lt_of_lt_of_le hgx hZq)) hZq _ _ _ _ _ _ _ _ _ _ _ _ 
          | with_reducible exact keptZ_fil (w := w18) (b := wt17.heap.size) hS5 (Nat.ne_of_lt (Nat.lt_of_lt_of_le hgz hZt)) (Nat.ne_of_lt (Nat.lt_of_lt_of_le hgx hZt)) hZt _ _ _ _ _ _ _ _ _ _ _ _ 
          | with_reducible exact keptZ_fil (w := w18) (b := w17.heap.size) hS5 (Nat.ne_of_lt hgz) (Nat.ne_of_lt hgx) (Nat.le_refl _) _ _ _ _ _ _ _ _ _ _ _ _ 
          | with_reducible exact keptZ_draw SS0
          | with_reducible assumption
          | with_reducible exact keptZ (by assumption) hl
          | fail)
        (first
          | (go_at_call 12; (with_reducible refine (TZR.out _ (by assumption)).mono ?_); rintro e wt17 ⟨t1, rfl, hbz, htz, hl⟩; have hl1 := hl; have hSt := keptZ (by assumption) hl; have hZt : w17.heap.size ≤ wt17.heap.size := Below.size hSt.2)
          | (go_at_call 28; (with_reducible refine (TMR.out _ (by assumption)).mono ?_); rintro e wq17 ⟨p1, f1, q1, p2, f2, q2, p3, f3, q3, rfl, -, -, -, -, -, -, hl⟩; have hl2 := hl; have hSq := keptZ (by assumption) hl; have hZq : w17.heap.size ≤ wq17.heap.size := Below.size hSq.2; first | with_reducible have hbq := hbz.below hl hbz.lt | with_reducible have hbq := (hbz.alloc (.cells #[.int .i64 0, .bool false, .bool false, .bool false, .bool false, .bool false, .int .i64 0, .string ⟨#[]⟩, .int .i64 0, .slice none 0 0, .slice none 0 0, .slice none 0 0] 46)).below hl (hbz.alloc (.cells #[.int .i64 0, .bool false, .bool false, .bool false, .bool false, .bool false, .int .i64 0, .string ⟨#[]⟩, .int .i64 0, .slice none 0 0, .slice none 0 0, .slice none 0 0] 46)).lt)
          | (go_at_call 29; (first | with_reducible refine (IM.out t1 _ _ _ _ _ _ _ hbq).mono ?_ | with_reducible refine (IM.out t1 _ _ _ _ _ _ _ (hbq.alloc (.cells #[.int .i64 0, .bool false, .bool false, .bool false, .bool false, .bool false, .int .i64 0, .string ⟨#[]⟩, .int .i64 0, .slice none 0 0, .slice none 0 0, .slice none 0 0] 46))).mono ?_); rintro e w18 ⟨v1, u1, r1, v2, u2, r2, v3, u3, r3, rfl, hb1, hb2, hb3, hg, h12, h23, hl⟩; have hl3 := hl; have hS5 := keptZ (by assumption) hl; first | (with_reducible have RBw : RB wq17 w17.heap.size := ((rb_new1 w17).below hl1).below hl2; have RBx := RBw.below hl3; have HLT := Nat.lt_of_lt_of_le (rb_lt RBw) hg; have HV1 := Nat.le_trans hZq hg; have p0 := RBx.cell 0 (by decide); have f0 := RBx.free 0; have p1 := RBx.cell 1 (by decide); have f1 := RBx.free 1; have p2 := RBx.cell 2 (by decide); have f2 := RBx.free 2; have p3 := RBx.cell 3 (by decide); have f3 := RBx.free 3; have p4 := RBx.cell 4 (by decide); have f4 := RBx.free 4; have p5 := RBx.cell 5 (by decide); have f5 := RBx.free 5; have p6 := RBx.cell 6 (by decide); have f6 := RBx.free 6; have p7 := RBx.cell 7 (by decide); have f7 := RBx.free 7; have p8 := RBx.cell 8 (by decide); have f8 := RBx.free 8; have p9 := RBx.cell 9 (by decide); have f9 := RBx.free 9; have p10 := RBx.cell 10 (by decide); have f10 := RBx.free 10; have p11 := RBx.cell 11 (by decide); have f11 := RBx.free 11) | (with_reducible have RBw : RB wq17 wt17.heap.size := (rb_new wt17).below hl2; have RBx := RBw.below hl3; have HLT := Nat.lt_of_lt_of_le (rb_lt RBw) hg; have HV1 := Nat.le_trans hZq hg; have p0 := RBx.cell 0 (by decide); have f0 := RBx.free 0; have p1 := RBx.cell 1 (by decide); have f1 := RBx.free 1; have p2 := RBx.cell 2 (by decide); have f2 := RBx.free 2; have p3 := RBx.cell 3 (by decide); have f3 := RBx.free 3; have p4 := RBx.cell 4 (by decide); have f4 := RBx.free 4; have p5 := RBx.cell 5 (by decide); have f5 := RBx.free 5; have p6 := RBx.cell 6 (by decide); have f6 := RBx.free 6; have p7 := RBx.cell 7 (by decide); have f7 := RBx.free 7; have p8 := RBx.cell 8 (by decide); have f8 := RBx.free 8; have p9 := RBx.cell 9 (by decide); have f9 := RBx.free 9; have p10 := RBx.cell 10 (by decide); have f10 := RBx.free 10; have p11 := RBx.cell 11 (by decide); have f11 := RBx.free 11) | (have RBw := rb_new wq17; with_reducible have RBx := RBw.below hl3; have HLT := Nat.lt_of_lt_of_le (rb_lt RBw) hg; have HV1 := Nat.le_trans hZq (Nat.le_of_lt HLT); have p0 := RBx.cell 0 (by decide); have f0 := RBx.free 0; have p1 := RBx.cell 1 (by decide); have f1 := RBx.free 1; have p2 := RBx.cell 2 (by decide); have f2 := RBx.free 2; have p3 := RBx.cell 3 (by decide); have f3 := RBx.free 3; have p4 := RBx.cell 4 (by decide); have f4 := RBx.free 4; have p5 := RBx.cell 5 (by decide); have f5 := RBx.free 5; have p6 := RBx.cell 6 (by decide); have f6 := RBx.free 6; have p7 := RBx.cell 7 (by decide); have f7 := RBx.free 7; have p8 := RBx.cell 8 (by decide); have f8 := RBx.free 8; have p9 := RBx.cell 9 (by decide); have f9 := RBx.free 9; have p10 := RBx.cell 10 (by decide); have f10 := RBx.free 10; have p11 := RBx.cell 11 (by decide); have f11 := RBx.free 11) | (have HV1 := Nat.le_trans hZq hg))
          | fail)
      · go_wp2_with fail
        go_meet
        case rel =>
          refine ⟨_, v1, u1, r1, v2, u2, r2, v3, u3, r3, rfl, ?_, ?_, ?_, ?_, ?_, ?_⟩
          · exact mx_new w18 _ H (.slice (some ⟨v1, 0, none⟩) k1 u1) (.slice (some ⟨v2, 0, none⟩) k2 u2) (.slice (some ⟨v3, 0, none⟩) k3 u3)
          · exact hb1.alloc _
          · exact hb2.alloc _
          · exact hb3.alloc _
          · exact ⟨HV1, h12, h23, Below.size hS5.2, Nat.ne_of_gt hb1.lt, Nat.ne_of_gt hb2.lt, Nat.ne_of_gt hb3.lt⟩
          · exact Below.alloc hS5.2 (Below.size hS5.2) _
      · go_wp2_with fail
        go_meet
        case rel =>
          refine ⟨_, v1, u1, r1, v2, u2, r2, v3, u3, r3, rfl, ?_, ?_, ?_, ?_, ?_, ?_⟩
          · exact mx_of (RBx.fil H (.slice (some ⟨v1, 0, none⟩) k1 u1) (.slice (some ⟨v2, 0, none⟩) k2 u2) (.slice (some ⟨v3, 0, none⟩) k3 u3))
          · exact filM_other hb1 (g := wq17.heap.size) (Nat.ne_of_gt HLT) H (.slice (some ⟨v1, 0, none⟩) k1 u1) (.slice (some ⟨v2, 0, none⟩) k2 u2) (.slice (some ⟨v3, 0, none⟩) k3 u3)
          · exact filM_other hb2 (g := wq17.heap.size) (Nat.ne_of_gt (Nat.lt_trans HLT h12)) H (.slice (some ⟨v1, 0, none⟩) k1 u1) (.slice (some ⟨v2, 0, none⟩) k2 u2) (.slice (some ⟨v3, 0, none⟩) k3 u3)
          · exact filM_other hb3 (g := wq17.heap.size) (Nat.ne_of_gt (Nat.lt_trans HLT (Nat.lt_trans h12 h23))) H (.slice (some ⟨v1, 0, none⟩) k1 u1) (.slice (some ⟨v2, 0, none⟩) k2 u2) (.slice (some ⟨v3, 0, none⟩) k3 u3)
          · exact ⟨HV1, h12, h23, hZq, Nat.ne_of_lt HLT, Nat.ne_of_lt (Nat.lt_trans HLT h12), Nat.ne_of_lt (Nat.lt_trans HLT (Nat.lt_trans h12 h23))⟩
          · exact filM_below (g := wq17.heap.size) hS5.2 hZq H (.slice (some ⟨v1, 0, none⟩) k1 u1) (.slice (some ⟨v2, 0, none⟩) k2 u2) (.slice (some ⟨v3, 0, none⟩) k3 u3)
      · go_wp2_with fail
        go_meet
        case rel =>
          refine ⟨_, v1, u1, r1, v2, u2, r2, v3, u3, r3, rfl, ?_, ?_, ?_, ?_, ?_, ?_⟩
          · exact mx_of (RBx.fil H (.slice (some ⟨v1, 0, none⟩) k1 u1) (.slice (some ⟨v2, 0, none⟩) k2 u2) (.slice (some ⟨v3, 0, none⟩) k3 u3))
          · exact filM_other hb1 (g := wt17.heap.size) (Nat.ne_of_gt HLT) H (.slice (some ⟨v1, 0, none⟩) k1 u1) (.slice (some ⟨v2, 0, none⟩) k2 u2) (.slice (some ⟨v3, 0, none⟩) k3 u3)
          · exact filM_other hb2 (g := wt17.heap.size) (Nat.ne_of_gt (Nat.lt_trans HLT h12)) H (.slice (some ⟨v1, 0, none⟩) k1 u1) (.slice (some ⟨v2, 0, none⟩) k2 u2) (.slice (some ⟨v3, 0, none⟩) k3 u3)
          · exact filM_other hb3 (g := wt17.heap.size) (Nat.ne_of_gt (Nat.lt_trans HLT (Nat.lt_trans h12 h23))) H (.slice (some ⟨v1, 0, none⟩) k1 u1) (.slice (some ⟨v2, 0, none⟩) k2 u2) (.slice (some ⟨v3, 0, none⟩) k3 u3)
          · exact ⟨HV1, h12, h23, hZt, Nat.ne_of_lt HLT, Nat.ne_of_lt (Nat.lt_trans HLT h12), Nat.ne_of_lt (Nat.lt_trans HLT (Nat.lt_trans h12 h23))⟩
          · exact filM_below (g := wt17.heap.size) hS5.2 hZt H (.slice (some ⟨v1, 0, none⟩) k1 u1) (.slice (some ⟨v2, 0, none⟩) k2 u2) (.slice (some ⟨v3, 0, none⟩) k3 u3)
      · go_wp2_with fail
        go_meet
        case rel =>
          refine ⟨_, v1, u1, r1, v2, u2, r2, v3, u3, r3, rfl, ?_, ?_, ?_, ?_, ?_, ?_⟩
          · exact mx_of (RBx.fil H (.slice (some ⟨v1, 0, none⟩) k1 u1) (.slice (some ⟨v2, 0, none⟩) k2 u2) (.slice (some ⟨v3, 0, none⟩) k3 u3))
          · exact filM_other hb1 (g := w17.heap.size) (Nat.ne_of_gt HLT) H (.slice (some ⟨v1, 0, none⟩) k1 u1) (.slice (some ⟨v2, 0, none⟩) k2 u2) (.slice (some ⟨v3, 0, none⟩) k3 u3)
          · exact filM_other hb2 (g := w17.heap.size) (Nat.ne_of_gt (Nat.lt_trans HLT h12)) H (.slice (some ⟨v1, 0, none⟩) k1 u1) (.slice (some ⟨v2, 0, none⟩) k2 u2) (.slice (some ⟨v3, 0, none⟩) k3 u3)
          · exact filM_other hb3 (g := w17.heap.size) (Nat.ne_of_gt (Nat.lt_trans HLT (Nat.lt_trans h12 h23))) H (.slice (some ⟨v1, 0, none⟩) k1 u1) (.slice (some ⟨v2, 0, none⟩) k2 u2) (.slice (some ⟨v3, 0, none⟩) k3 u3)
          · exact ⟨HV1, h12, h23, (Nat.le_refl _), Nat.ne_of_lt HLT, Nat.ne_of_lt (Nat.lt_trans HLT h12), Nat.ne_of_lt (Nat.lt_trans HLT (Nat.lt_trans h12 h23))⟩
          · exact filM_below (g := w17.heap.size) hS5.2 (Nat.le_refl _) H (.slice (some ⟨v1, 0, none⟩) k1 u1) (.slice (some ⟨v2, 0, none⟩) k2 u2) (.slice (some ⟨v3, 0, none⟩) k3 u3)
    case rest =>
      obtain ⟨gh, o1, s1, ro1, o2, s2, ro2, o3, s3, ro3, rfl, hmx, hb1, hb2, hb3, hord, hz⟩ := hcut
      have hl := hz.out
      clear hz
      generalize wc = w18 at *
      have Hh18 := Lib.hid hmx.out
      have O1_18 := Lib.hid hb1.out
      have O2_18 := Lib.hid hb2.out
      have O3_18 := Lib.hid hb3.out
      have OO := Lib.hid hord.out
      have OO_ := Lib.hid (show w17.heap.size ≤ w18.heap.size from hl.size)
      have L18 := Lib.hid (L17.out.trans (hl.mono L17.out.size))
      have J18 := Lib.hid (J17.out.below hl)
      have X18 := Lib.hid (X17.out.below hl)
      have W18 := Lib.hid (W17.out.below hl)
      have V1_18 := Lib.hid (V1_17.out.below hl V1_17.out.lt)
      have V2_18 := Lib.hid (V2_17.out.below hl V2_17.out.lt)
      have V3_18 := Lib.hid (V3_17.out.below hl V3_17.out.lt)
      have G18 := Lib.hid (G17.out.below hl)
      have M1_18 := Lib.hid (M1_17.out.below hl M1_17.out.lt)
      have M2_18 := Lib.hid (M2_17.out.below hl M2_17.out.lt)
      have M3_18 := Lib.hid (M3_17.out.below hl M3_17.out.lt)
      clear hl L17 J17 X17 W17 V1_17 V2_17 V3_17 G17 M1_17 M2_17 M3_17
      have OO__ : Hid (w.heap.size + 1 < w17.heap.size ∧ o3 < w18.heap.size ∧ gh < w18.heap.size) := ⟨hgx, O3_18.out.lt, Hh18.out.lt⟩
      clear hmx hb1 hb2 hb3 hord TZR TMR SS0 hgz hgx
      obtain ⟨x0_0, x0_1, x0_2, x0_3, x0_4, x0_5, x0_6, x0_7, x0_8, x0_9, x0_10, x0_11⟩ := Hh18.out
      obtain ⟨x1_0, x1_1, x1_2, x1_3, x1_4, x1_5, x1_6, x1_7, x1_8, x1_9, x1_10, x1_11⟩ := W18.out
      go_wp2_with fail
      refine (eqMsg_same H _ _ k1 s1 f1 j1 _ _ k2 s2 f2 j2 _ _ k3 s3 f3 j3 _ (bk_sr O1_18.out D1.out) (bk_sr V1_18.out D1.out) (by omega) (bk_sr O2_18.out D2.out) (bk_sr V2_18.out D2.out) (by omega) (bk_sr O3_18.out D3.out) (bk_sr V3_18.out D3.out) (by omega)).mono ?_
      rintro e w19 ⟨rfl, hl⟩
      have L19 := Lib.hid (L18.out.trans (hl.mono L18.out.size))
      have J19 := Lib.hid (J18.out.below hl)
      have X19 := Lib.hid (X18.out.below hl)
      have G19 := Lib.hid (G18.out.below hl)
      have M1_19 := Lib.hid (M1_18.out.below hl M1_18.out.lt)
      have M2_19 := Lib.hid (M2_18.out.below hl M2_18.out.lt)
      have M3_19 := Lib.hid (M3_18.out.below hl M3_18.out.lt)
      clear hl L18 J18 X18 W18 V1_18 V2_18 V3_18 G18 M1_18 M2_18 M3_18 Hh18 O1_18 O2_18 O3_18
      clear  x0_0 x0_1 x0_2 x0_3 x0_4 x0_5 x0_6 x0_7 x0_8 x0_9 x0_10 x0_11 x1_0 x1_1 x1_2 x1_3 x1_4 x1_5 x1_6 x1_7 x1_8 x1_9 x1_10 x1_11
      obtain ⟨x0_0, x0_1, x0_2, x0_3, x0_4, x0_5, x0_6, x0_7, x0_8, x0_9, x0_10, x0_11⟩ := G19.out
      go_wp2_with fail
      refine (heldMsg_one H g1 k1 u1 g2 k2 u2 g3 k3 u3 rg1 rg2 rg3 _ M1_19.out M2_19.out M3_19.out (by omega)).mono ?_
      rintro e w20 ⟨rfl, hl⟩
      rw [UU.out]
      have L20 := Lib.hid (L19.out.trans (hl.mono L19.out.size))
      have J20 := Lib.hid (J19.out.below hl)
      have X20 := Lib.hid (X19.out.below hl)
      clear hl L19 J19 X19 G19 M1_19 M2_19 M3_19
      clear  x0_0 x0_1 x0_2 x0_3 x0_4 x0_5 x0_6 x0_7 x0_8 x0_9 x0_10 x0_11
      go_wp2
      go_ret
      exact ⟨rfl, L20.out⟩

end Go.Proofs.Ytmabbeefeipnaaa.LawServe

/- What a zone that comes in reads as. -/
namespace Go.Proofs.Ytmabbeefeipnaaa.RowZ
open Go.Proofs.Ytmabbeefeipnaaa.Mem Go.Proofs.Ytmabbeefeipnaaa.MemR Go.Proofs.Ytmabbeefeipnaaa.RowR
open Go.ChangeShapes Go.WideShapes Go.ChangeAt Go.RowKit Go.Deep

section
variable {H : Type} {enc : TypeId × Value → H} {w : World} {base : Nat} {spare : Nat → Bool} {held : Bool}
theorem zone_cells {cs : List Value} {s0 : ByteArray} {v1 : Value} (h : cs.length = 2) (e0 : (cs.drop 0).take 1 = [.string s0]) (e1 : (cs.drop 1).take 1 = [v1]) : cs = [.string s0, v1] := by
  match cs, h with
  | [c0, c1], _ =>
    simp only [List.drop_zero, List.drop_succ_cons, List.take_succ_cons, List.take_zero, List.cons.injEq, and_true] at e0 e1
    subst e0 e1
    rfl

theorem slice_cells {fuel : Nat} {cs : List Value} {x : DataW H × List MemPlace} (h : DataW.trod enc Try.prog w base spare held fuel 22 cs = some x) : ∃ a len cap, cs = [.slice a len cap] := by
  rcases open_slice Try.underlying22 h with ⟨hcs, _⟩ | ⟨x, len', cap', m, n, D, Pl, hcs, _⟩
  · exact ⟨_, _, _, hcs⟩
  · exact ⟨_, _, _, hcs⟩
end

section
variable {H : Type} {enc : TypeId × Value → H} {w : World}

theorem recs_of {fuel : Nat} {cs : List Value} {x : DataW H × List MemPlace} (h : DataW.trod enc Try.prog w 0 (fun _ => true) true fuel 22 cs = some x) : ∃ a len cap l, cs = [.slice a len cap] ∧ IsRecs w a len l := by
  obtain ⟨a, len, cap, rfl⟩ := slice_cells h
  obtain ⟨d, p⟩ := x
  obtain ⟨l, hl⟩ := recs_in (a := a) (len := len) (cap := cap) (d := d) (p := p) ⟨fuel, h⟩
  exact ⟨a, len, cap, l, rfl, hl⟩

theorem zone_of {fuel : Nat} {cs : List Value} {x : DataW H × List MemPlace} (h : DataW.trod enc Try.prog w 0 (fun _ => true) true fuel 24 cs = some x) :
    ∃ (s : ByteArray) (a : Option Addr) (n c : Nat) (l : List Rec), cs = [.string s, .slice a n c] ∧ s.size ≤ 9223372036854775807 ∧ IsRecs w a n l := by
  obtain ⟨xs, n, _, _, hc, hl, hg⟩ := DataW.trod_struct Try.underlying24 h
  have h2 : cs.length = 2 := hc.trans (by kernel_rfl)
  have hx : xs.length = 2 := hl
  have ks : Try.prog.cellsOf 9 = 1 := by kernel_rfl
  have kr : Try.prog.cellsOf 22 = 1 := by kernel_rfl
  have g : ∀ i, i < 2 → xs[i]? = some (xs[i]!) := fun i hi => by rw [getElem!_pos xs i (by omega)]; exact List.getElem?_eq_getElem (by omega)
  have f0 := (hg 0 _ rfl).trans (g 0 (by omega))
  have f1 := (hg 1 _ rfl).trans (g 1 (by omega))
  obtain ⟨s0, e0, _, z0⟩ := DataW.trod_string Try.underlying9 f0
  obtain ⟨a1, n1, c1, l1, e1, z1⟩ := recs_of f1
  replace e0 : (cs.drop 0).take (Try.prog.cellsOf 9) = [.string s0] := e0
  replace e1 : (cs.drop 1).take (Try.prog.cellsOf 22) = [.slice a1 n1 c1] := e1
  rw [ks] at e0
  rw [kr] at e1
  unfold maxLen at z0
  exact ⟨s0, a1, n1, c1, l1, zone_cells h2 e0 e1, z0, z1⟩

set_option maxRecDepth 100000 in
/-- A zone that comes in. -/
theorem zone_in {r : Reach} {b0 : Nat} {v : Value} {d : DataW H} {p : List MemPlace} (hv : Value.okWide Try.prog w r b0 24 v) (h : DataW.Trod enc Try.prog w 0 (fun _ => true) true 24 v d p) :
    ∃ (s : ByteArray) (a : Option Addr) (n c : Nat) (l : List Rec), v = .agg #[.string s, .slice a n c] ∧ s.size ≤ 9223372036854775807 ∧ IsRecs w a n l := by
  obtain ⟨cs, rfl, _⟩ := okWide_struct Try.underlying24 hv
  obtain ⟨fuel, hf⟩ := h
  obtain ⟨s, a, n, c, l, hr, hz⟩ := zone_of hf
  refine ⟨s, a, n, c, l, ?_, hz⟩
  have e : cs.toList = [.string s, .slice a n c] := hr
  rw [show cs = ([.string s, .slice a n c] : List Value).toArray from by rw [← e]]

end
end Go.Proofs.Ytmabbeefeipnaaa.RowZ

/- The law FnExactServe returns true at every zone and every message, and turns nothing that was there. No condition. -/
namespace Go.Proofs.Ytmabbeefeipnaaa.exactServePlain
open Go.ChangeShapes Go.WideShapes Go.ChangeAt Go.RowKit Go.Proofs.Ytmabbeefeipnaaa.Mem Go.Proofs.Ytmabbeefeipnaaa.RowM Go.Proofs.Ytmabbeefeipnaaa.RowZ

theorem own : ownKnob Try.prog.godebug = none := by kernel_rfl
theorem laidOut : laidOutB Try.prog = true := by kernel_rfl

set_option maxRecDepth 100000 in
set_option linter.unusedVariables false in
theorem contract (H : Type) (enc : TypeId × Value → H) (W : World) (base : Nat) (args : Array Value) (ds gs : List (DataW H)) (before : List MemPlace)
    (hval0 : ∀ (j : Nat) t v, Try.f7.params[j]? = some t → args[j]? = some v → Value.okWide Try.prog W .any base t v)
    (hW : DataW.Whole enc Try.prog Try.f7.params.toList Rows.fnExactServeSpec.vars false W args.toList ds gs before)  :
    Calls Try.prog 7 args W fun e W' => ∃ v, e = .returned v ∧ Rows.fnExactServeSpec.post enc Try.prog Try.f7 false true false false W args v W' := by
  have hval : ∀ (j : Nat) t v, Try.f7.params[j]? = some t → args[j]? = some v → Value.okWide Try.prog W .any base t v := hval0
  have hW' := hW
  obtain ⟨p, q, hA0, hV, rfl, _, _⟩ := hW
  have hA : DataW.TrodAll enc Try.prog W 0 (fun _ => true) true Try.f7.params.toList args.toList ds p := hA0
  rw [Try.params7] at hA hval
  obtain ⟨v0, vs0, d0, ds0, p0, q0, _, rfl, rfl, h0, r0⟩ := trodAll_cons hA
  obtain ⟨v1, vs1, d1, ds1, p1, q1, _, rfl, rfl, h1, r1⟩ := trodAll_cons r0
  obtain ⟨rfl, rfl, rfl⟩ := trodAll_nil r1
  obtain rfl : args = #[v0, v1] := by cases args; simp_all
  obtain ⟨rfl, rfl⟩ := trodVars_none hV
  have k0 := h0
  have lt0 : ∀ x ∈ p0, x.block < W.heap.size := by obtain ⟨m, hm⟩ := k0; exact DataW.trod_lt m _ _ _ hm
  obtain ⟨x0, a0, len0, cap0, l0, rfl, z0, i0⟩ := zone_in (hval 0 24 v0 rfl rfl) h0
  have k1 := h1
  have lt1 : ∀ x ∈ p1, x.block < W.heap.size := by obtain ⟨m, hm⟩ := k1; exact DataW.trod_lt m _ _ _ hm
  obtain ⟨x1, a1_1, n1_1, c1_1, l1_1, a1_2, n1_2, c1_2, l1_2, a1_3, n1_3, c1_3, l1_3, rfl, z1, i1_1, i1_2, i1_3⟩ := msg_in (hval 1 43 v1 rfl rfl) h1
  clear hA0 hval0
  refine (LawServe.walk x0 a0 len0 cap0 l0 x1 a1_1 n1_1 c1_1 l1_1 a1_2 n1_2 c1_2 l1_2 a1_3 n1_3 c1_3 l1_3 W  z0 i0.1 i0.2.1 i0.2.2 z1 i1_1 i1_2 i1_3).mono fun e W' ⟨he, bel⟩ => ?_
  subst he
  exact ⟨_, rfl, _, _, _, [], _, [], hW', trodAll_mk1 (shut_bool Try.underlying4 _), (trodAll_cons_mk (Below.trod laidOut (by kernel_rfl) (of_decide_eq_true (by kernel_rfl)) k0 bel lt0) (trodAll_cons_mk (Below.trod laidOut (by kernel_rfl) (of_decide_eq_true (by kernel_rfl)) k1 bel lt1) trodAll_mk0)), rfl, bel.frame _, fun h => by cases h⟩

set_option maxRecDepth 100000 in
theorem lifted (os : Os) (started : os.Started) (H : Type) (enc : TypeId × Value → H) :
    ReturnsInHanded {} Try.checked os 7 .any (Rows.fnExactServeSpec.pre6 enc Try.prog Try.f7 Rows.fnExactServeRow.domain false) (Rows.fnExactServeSpec.post enc Try.prog Try.f7 false true false false) := by
  refine returnsInHanded_of_change (C := Try.checked) own started (by kernel_rfl) Try.func7
    (ChangeSpec.witness6 (enc := enc) (C := Try.checked) false ⟨#[], #[.agg #[.string ⟨#[]⟩, .slice none 0 0], .agg #[.int .i64 0, .bool false, .bool false, .bool false, .bool false, .bool false, .int .i64 0, .string ⟨#[]⟩, .int .i64 0, .slice none 0 0, .slice none 0 0, .slice none 0 0]], []⟩ 8 (by kernel_rfl) (by kernel_rfl) (by kernel_rfl) (by kernel_rfl)) ?_
  intro W base args ds gs before hval0 hW _ _
  exact contract H enc W base args ds gs before hval0 hW

theorem over : Rows.fnExactServeRow.holds Try.pinned (OpenSpec.ofChange Rows.fnExactServeSpec) :=
  OpenClaim.holds_of_wide 7 Try.f7 rfl rfl rfl rfl rfl rfl rfl ⟨rfl, rfl, rfl, rfl, rfl⟩ rfl rfl rfl rfl rfl (by kernel_rfl) Try.func7 (by kernel_rfl)
    (of_decide_eq_true (by kernel_rfl)) (by unfold Func.isWrapper; first | (rw [if_pos (by decide +kernel)]; kernel_rfl) | (rw [if_neg (by decide +kernel)]; exact ⟨rfl, rfl⟩))
    (fun os started H enc _ => lifted os started H enc)

theorem proved : Rows.FnExactServeSaid := over
end Go.Proofs.Ytmabbeefeipnaaa.exactServePlain
namespace Go.Proofs.Ytmabbeefeipnaaa
theorem fnExactServe_holds : Rows.FnExactServeSaid := exactServePlain.proved
end Go.Proofs.Ytmabbeefeipnaaa
