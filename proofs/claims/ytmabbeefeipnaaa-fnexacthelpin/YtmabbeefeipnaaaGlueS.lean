/- What Glue does in the model: the addresses of the hosts, in their order. Condition: at most 1048576 records and as many hosts (so the result may have many more). -/
import Derived.Test.YtmabbeefeipnaaaZoneMath
import Derived.Test.YtmabbeefeipnaaaMemZ
import Derived.Test.YtmabbeefeipnaaaSetS
import Derived.Test.YtmabbeefeipnaaaMemS
import Derived.Deep.RegionHeld3
namespace Go.Proofs.Ytmabbeefeipnaaa.GlueS
open Go.RowKit Go.Proofs.Ytmabbeefeipnaaa.Mem Go.Proofs.Ytmabbeefeipnaaa.MemR Go.Proofs.Ytmabbeefeipnaaa.SetMath Go.Proofs.Ytmabbeefeipnaaa.ZoneMath Go.Proofs.Ytmabbeefeipnaaa.MemZ Go.Proofs.Ytmabbeefeipnaaa.MemS Go.Proofs.Ytmabbeefeipnaaa.AppR Go.Proofs.Ytmabbeefeipnaaa.Wt

/-- append of records as one step of a region that draws, onto a row of the call's own. -/
theorem step_append_recs {ops : Array Oper} {o : Oper} {a : Act} {w : World} {K : Act → World → Prop} {Q : Exit → Act → World → Prop} {E : Prop} (hgd : o.guard = none) (s x : Operand)
    (ho : o.op = .call { callee := .builtin .append, args := #[s, x], argTypes := #[30, 30] })
    (base g n cap : Nat) (L : List Rec) (hs : a.eval s = .slice (some ⟨g, 0, none⟩) n cap) (hown : w.ownsRow base 68 6 (.slice (some ⟨g, 0, none⟩) n cap) n (fl L))
    (b off m c B : Nat) (l : List Rec) (hx : a.eval x = .slice (some ⟨b, off, none⟩) m c) (hl : Sr w B (some ⟨b, off, none⟩) m l)
    (hnm : n + m ≤ 1900000000000) (hbase : base ≤ w.heap.size)
    (h : ∀ g' cap' w', w'.ownsRow base 68 6 (.slice (some ⟨g', 0, none⟩) (n + m) cap') (n + m) (fl (L ++ l)) → w.grownBy w' (some g) → K (a.put o.dst (.slice (some ⟨g', 0, none⟩) (n + m) cap')) w') :
    if Region.wanted o (yielded ops a.tmps) = true then Oper.wp Try.prog o a w K Q else E := by
  have hw : Region.wanted o (yielded ops a.tmps) = true := by simp [Region.wanted, hgd]
  rw [if_pos hw]
  obtain ⟨i0, hi, hz0, hz1, hz2⟩ := info_parts CopyR.info
  exact wp_append_own w s x 30 ho base 68 i0 _ 6 72 Try.underlying30 hi hz0 hz1 hz2 rfl (by decide) _ n (fl L) hs hown ⟨b, off, none⟩ m c (fl l) hx (by rw [fl_len, hl.1]) (cells_of hl) (one_fl l) (by unfold maxLen; omega) (by omega) hbase
    (fun v' w' h1 h2 h3 => by
      rcases h1.2 with ⟨hv, _⟩ | ⟨g', cap', cur, hv, _⟩
      · have := (h3.1 hv).1
        cases this
      · subst hv
        exact h g' cap' w' (by rw [fl_append]; exact h1) h2)

section
variable {w0 w w' : World} {g : Nat} {s : ByteArray} {x v : Value} {p : Addr}
theorem keptH (m : (Zx w g s x ∧ w.cell? p = some v) ∧ Svz w0 w) (hl : Below w.heap.size w w') : (Zx w' g s x ∧ w'.cell? p = some v) ∧ Svz w0 w' := ⟨⟨m.1.1.below hl, (hl.cell (World.block_lt_of_cell? _ _ m.1.2)).trans m.1.2⟩, m.2.trans (hl.mono m.2.size)⟩
theorem keptH_draw (m : (Zx w g s x ∧ w.cell? p = some v) ∧ Svz w0 w) : (Zx w.drew g s x ∧ w.drew.cell? p = some v) ∧ Svz w0 w.drew := keptH m ((Below.refl _ _).drew)
end

set_option maxRecDepth 100000 in
set_option maxHeartbeats 8000000 in
theorem spec (s : ByteArray) (b0 o0 n c : Nat) (l : List Rec) (b1 o1 nh ch : Nat) (H : List ByteArray) (w : World) (hs : Sr w w.heap.size (some ⟨b0, o0, none⟩) n l) (hh : Ss w w.heap.size (some ⟨b1, o1, none⟩) nh H) (hn : n ≤ 1048576) (hnh : nh ≤ 1048576) :
    Calls Try.prog 49 #[.agg #[.string s, .slice (some ⟨b0, o0, none⟩) n c], .slice (some ⟨b1, o1, none⟩) nh ch] w (GivesL w (gl H l)) := by
  have Z0 := Lib.hid ((zx_new w 32 s (.slice (some ⟨b0, o0, none⟩) n c)).alloc (.cells #[] 68))
  have L0 := Lib.hid (((Below.refl w.heap.size w).alloc (Nat.le_refl _) (.cells #[.string s, .slice (some ⟨b0, o0, none⟩) n c] 32)).alloc (by simp) (.cells #[] 68))
  have P0 := Lib.hid (owns_new (w.alloc (.cells #[.string s, .slice (some ⟨b0, o0, none⟩) n c] 32)))
  rw [show (w.alloc (.cells #[.string s, .slice (some ⟨b0, o0, none⟩) n c] 32)).heap.size = w.heap.size + 1 by simp] at P0
  have HS := Lib.hid hs
  have HH := Lib.hid hh
  clear hs hh
  go_enter Try.func49, Try.ntmps49
  go_wp2
  generalize (w.alloc (.cells #[.string s, .slice (some ⟨b0, o0, none⟩) n c] 32)).alloc (.cells #[] 68) = w0 at *
  go_loopw [5, 6] (fun out i wr => ∃ k g m cap : Nat, k ≤ nh ∧ m ≤ k * n ∧ i = .int .i64 k ∧ out = .slice (some ⟨g, 0, none⟩) m cap ∧ Hid (wr.ownsRow (w.heap.size + 1) 68 6 (.slice (some ⟨g, 0, none⟩) m cap) m (fl (gl (H.take k) l))) ∧ Hid (Zx wr w.heap.size s (.slice (some ⟨b0, o0, none⟩) n c)) ∧ Hid (Below w.heap.size w wr)) (fun _ i _ => nh - (intOf i).toNat)
  case atStart => exact ⟨0, w.heap.size + 1, 0, 0, Nat.zero_le _, Nat.zero_le _, rfl, rfl, P0.out, Z0.out, L0.out⟩
  case round =>
    clear Z0 L0 P0
    obtain ⟨k, g, m, cap, hk, hm, rfl, rfl, HO, HX, HL⟩ := hrel
    by_cases hlt : k < nh
    · obtain ⟨b, off, hA, hbB, hcs⟩ := HH.out.2 (by omega)
      obtain ⟨rfl, rfl⟩ : b1 = b ∧ o1 = off := by simp at hA; exact hA
      clear hA
      have hkl : k < H.length := by rw [HH.out.1]; exact hlt
      have e0 : wr.cell? ⟨b1, o1 + k, none⟩ = some (.string H[k]) := (HL.out.cell (p := ⟨b1, o1 + k, none⟩) hbB).trans (hcs k hkl)
      have YH := Lib.hid (hcs k hkl)
      clear hcs
      have HT := Lib.hid (gl_take H l k hkl)
      generalize H[k] = y at *
      have hmm : Hid (m ≤ 1100000000000) := show _ ≤ _ from Nat.le_trans hm (Nat.le_trans (Nat.mul_le_mul (show k ≤ 1048576 by omega) hn) (by decide))
      have lg : Hid (w.heap.size + 1 ≤ g ∧ g < wr.heap.size) := by obtain ⟨r', hb, _, _, h⟩ := bk_of_owns6 HO.out; exact ⟨h, hb.lt⟩
      have OD : Hid (wr.drew.ownsRow (w.heap.size + 1) 68 6 (.slice (some ⟨g, 0, none⟩) m cap) m (fl (gl (H.take k) l))) := HO.out
      have LD : Hid (Below w.heap.size w wr.drew) := HL.out.drew
      have CD := Lib.hid (SetS.spec y 1 b0 o0 n c l wr.drew (HS.out.on LD.out) (by omega))
      have XA : Hid (∀ w1 w2 : World, Below wr.drew.heap.size wr.drew w1 → w1.grownBy w2 (some g) → (Zx w2 w.heap.size s (.slice (some ⟨b0, o0, none⟩) n c) ∧ w2.cell? ⟨b1, o1 + k, none⟩ = some (.string y)) ∧ Svz w w2) := fun w1 w2 hl hgrow => by
        have L2 : Below w.heap.size w w2 := (LD.out.trans (hl.mono LD.out.size)).grown hgrow (Nat.le_trans LD.out.size hl.size) (fun j hj => by cases hj; have := lg.out.1; omega)
        exact ⟨⟨((HX.out.below ((Below.refl _ _).drew)).below hl).grown hgrow (fun e => by have := Option.some.inj e; have := lg.out.1; omega), (L2.cell (p := ⟨b1, o1 + k, none⟩) hbB).trans YH.out⟩, L2⟩
      have OA : Hid (∀ w1 : World, Below wr.drew.heap.size wr.drew w1 → w1.ownsRow (w.heap.size + 1) 68 6 (.slice (some ⟨g, 0, none⟩) m cap) m (fl (gl (H.take k) l)) ∧ w.heap.size + 1 ≤ w1.heap.size) := fun w1 hl => ⟨OD.out.kept (row := none) ⟨hl.os, hl.tape, hl.output, hl.size, fun k hk _ => hl.block k hk⟩ (Or.inr (fun e => by cases e)), Nat.le_trans (show w.heap.size + 1 ≤ wr.drew.heap.size from Nat.le_trans lg.out.1 (Nat.le_of_lt lg.out.2)) hl.size⟩
      have MS : Hid ((sf y 1 l).length ≤ n) := show _ ≤ _ by have := sf_len y 1 l; have := HS.out.1; omega
      have S0 : (Zx wr w.heap.size s (.slice (some ⟨b0, o0, none⟩) n c) ∧ wr.cell? ⟨b1, o1 + k, none⟩ = some (.string y)) ∧ Svz w wr := ⟨⟨HX.out, e0⟩, HL.out⟩
      go_wp2
      go_region_held3 (fun w' => ((w'.cell? ⟨w.heap.size, 0, none⟩ = some (.string s) ∧ w'.cell? ⟨w.heap.size, 1, none⟩ = some (.slice (some ⟨b0, o0, none⟩) n c)) ∧ w'.cell? ⟨b1, o1 + k, none⟩ = some (.string y)) ∧ Svz w w')
        (first | exact S0 | with_reducible assumption | exact keptH_draw (by assumption) | exact keptH (by assumption) hl | exact SR | fail)
        (first
          | (go_at_call 38; (with_reducible refine CD.out.mono ?_); rintro e w1 ⟨gs, ms, cs, rs, rfl, hz, hc, hg, hb, hl⟩)
          | (refine step_append_recs rfl (.tmp 14) (.tmp 21) rfl (w.heap.size + 1) g m cap (gl (H.take k) l) rfl (OA.out _ hl).1 gs 0 ms cs _ (sf y 1 l) rfl (bk_sr hb hz) (by have := MS.out; have := hmm.out; omega) (OA.out _ hl).2 ?_; intro g2 cap2 w2 hown hgrow; have SR := XA.out w1 w2 hl hgrow)
          | fail)
      have O3 := Lib.hid hown
      have X3 : Hid (Zx w2 w.heap.size s (.slice (some ⟨b0, o0, none⟩) n c)) := SR.1.1
      have L3 : Hid (Below w.heap.size w w2) := SR.2
      have hmn : ms ≤ n := by have := MS.out; omega
      clear hown hgrow SR S0 OA XA CD OD LD hb hl hg hc hz
      go_wp2
      go_roundw
      case rel => exact ⟨k + 1, g2, m + ms, cap2, by omega, by rw [Nat.add_mul, Nat.one_mul]; omega, by go_num, rfl, by rw [HT.out]; exact O3.out, X3.out, L3.out⟩
      case measure => simp [intOf]; omega
    · obtain rfl : nh = k := by omega
      have HN := Lib.hid (take_all HH.out.1)
      go_wp2
      go_ret
      have ho := HO.out
      rw [HN.out] at ho
      obtain ⟨r', hb, _, hcap, hg⟩ := bk_of_owns6 ho
      have hz : (gl H l).length = m := by have := ho.1; rw [fl_len] at this; omega
      exact ⟨g, m, cap, r', rfl, hz, hcap, by omega, hb, HL.out⟩
end Go.Proofs.Ytmabbeefeipnaaa.GlueS
