/- What the program's GetRecords does: it reads records as FieldMath tells (grs), into a new row of its own, and turns nothing that was there. Conditions: at most 400000000 bytes; the library's variable internal/bytealg.MaxLen holds an int. -/
import Derived.Test.YtcpadkehalgddaaDoorGetsM
import Derived.Test.YtcpadkehalgddaaDoorGetRecI
namespace Go.Proofs.YtcpadkehalgddaaDoor.GetsI
open Go.RowKit Go.Proofs.YtcpadkehalgddaaDoor.Mem Go.Proofs.YtcpadkehalgddaaDoor.MemR Go.Proofs.YtcpadkehalgddaaDoor.Labels Go.Proofs.YtcpadkehalgddaaDoor.Label Go.Proofs.YtcpadkehalgddaaDoor.TextR Go.Proofs.YtcpadkehalgddaaDoor.App Go.Proofs.YtcpadkehalgddaaDoor.AppR Go.Proofs.YtcpadkehalgddaaDoor.FieldMath Go.Proofs.YtcpadkehalgddaaDoor.GetRecI Go.Proofs.YtcpadkehalgddaaDoor.GetsM

set_option maxRecDepth 100000 in
set_option maxHeartbeats 4000000 in
theorem recs (A : Option Addr) (n c : Nat) (l : List UInt8) (k q : Int) (w : World) (he : Env w) (hs : Sl w w.heap.size A n l) (hnc : n ≤ c) (hn : n ≤ 400000000) :
    Calls Tryd.prog 40 #[.slice A n c, .int .i64 k, .int .i64 q] w (Grs w (grA l k q)) := by
  have GR := Lib.hid (fun (a : Int) (W : World) (hW : Below w.heap.size w W) => GetRecI.record A n c l a W (he.below hW) ((hs.below hW).wider hW.size) hnc hn)
  unfold valR at GR
  clear hs he
  by_cases h : 0 ≤ q ∧ q ≤ 8
  · have HI : Hid (inn q 0 8 = true) := decide_eq_true h
    obtain ⟨h0, h8⟩ := h
    obtain ⟨m, rfl⟩ := Int.eq_ofNat_of_zero_le h0
    have hm8 : m ≤ 8 := by omega
    have HX : Hid (grs l m k [] = grA l k (m : Int)) := by show _ = _; rw [grA, if_pos ⟨by omega, by omega⟩, Int.toNat_natCast]
    generalize grA l k (m : Int) = X at *
    have GS := Lib.hid (grs_step l)
    go_enter Tryd.func40, Tryd.ntmps40
    go_wp2_with fail
    refine (upTo_any _ 8 _).mono ?_
    rw [HI.out]
    rintro e w1 ⟨rfl, rfl⟩
    go_wp2
    go_loopw [1, 9, 19] (fun a v i wr => ∃ (j g cap : Nat) (M : List Rec) (p : Int), j ≤ m ∧ i = .int .i64 (j : Int) ∧ a = .int .i64 p ∧ v = .slice (some ⟨g, 0, none⟩) j cap ∧ Hid (grs l (m - j) p M = X) ∧ Hid (wr.ownsRow w.heap.size 25 6 (.slice (some ⟨g, 0, none⟩) j cap) j (fl M)) ∧ Hid (Below w.heap.size w wr)) (fun _ _ i _ => m - (intOf i).toNat)
    case atStart => exact ⟨0, w.heap.size, 0, [], k, Nat.zero_le _, rfl, rfl, rfl, HX.out, AppR.owns_new w, (Below.refl _ _).alloc (Nat.le_refl _) _⟩
    case round =>
      clear HX
      obtain ⟨j, g, cap, M, p, hj, rfl, rfl, rfl, HG, HO, HB⟩ := hrel
      by_cases hlt : j < m
      · have HG2 : Hid ((if (gr l p).1 ≠ 0 then ((gr l p).1, 0, []) else grs l (m - (j + 1)) (gr l p).2.1 (M ++ [(gr l p).2.2])) = X) := by
          show _ = _
          rw [← HG.out, show m - j = m - (j + 1) + 1 by omega, GS.out]
        have G1 := Lib.hid (GR.out p wr HB.out)
        clear HG
        generalize gr l p = Y at *
        obtain ⟨yc, yp, r⟩ := Y
        dsimp only at G1 HG2
        go_wp2_with fail
        refine G1.out.mono ?_
        rintro e w2 ⟨rfl, hl⟩
        have B2 := Lib.hid (HB.out.trans (hl.mono HB.out.size))
        have O2 := Lib.hid (own_below HO.out hl)
        clear hl HB HO G1
        have B3 := Lib.hid (B2.out.alloc B2.out.size (.cells #[.string r.name, .int .i64 r.ty, .int .i64 r.ttl, .int .i64 r.n, .string r.host, .string r.text] 25))
        by_cases hc : yc = 0
        · subst hc
          have HG3 := Lib.hid ((if_neg (fun e => e rfl)).symm.trans HG2.out)
          clear HG2
          have O4 := Lib.hid ((O2.out.alloc (.cells #[.string r.name, .int .i64 r.ty, .int .i64 r.ttl, .int .i64 r.n, .string r.host, .string r.text] 25)).alloc (.cells #[.string r.name, .int .i64 r.ty, .int .i64 r.ttl, .int .i64 r.n, .string r.host, .string r.text] 25))
          have B4 := Lib.hid (B3.out.alloc B3.out.size (.cells #[.string r.name, .int .i64 r.ty, .int .i64 r.ttl, .int .i64 r.n, .string r.host, .string r.text] 25))
          have S4 := Lib.hid (one_sr (w2.alloc (.cells #[.string r.name, .int .i64 r.ty, .int .i64 r.ttl, .int .i64 r.n, .string r.host, .string r.text] 25)) r)
          rw [show (w2.alloc (.cells #[.string r.name, .int .i64 r.ty, .int .i64 r.ttl, .int .i64 r.n, .string r.host, .string r.text] 25)).heap.size = w2.heap.size + 1 by simp] at S4
          go_wp2_with (at_builtin; refine append_recs rfl (.tmp 32) (.tmp 34) rfl w.heap.size g j cap M rfl O4.out (w2.heap.size + 1) 0 1 1 _ [r] rfl S4.out ?d1 ?d2 ?d3 ?_)
          case d1 => omega
          case d2 => omega
          case d3 => exact B4.out.size
          intro g5 cap5 w5 hown hgrow
          have O5 := Lib.hid hown
          have B5 := Lib.hid (B4.out.grown hgrow B4.out.size (fun i hi => by cases hi; exact (O4.out.lt g rfl).1))
          clear hown hgrow O4 B4 S4 O2 B2 B3
          go_wp2
          go_roundw
          case rel => exact ⟨j + 1, g5, cap5, M ++ [r], yp, by omega, by go_num, rfl, rfl, HG3.out, O5.out, B5.out⟩
          case measure => simp [intOf]; omega
        · have HG3 := Lib.hid ((if_pos hc).symm.trans HG2.out)
          have hc2 : ((yc : Int) != 0) = true := by simp; omega
          clear HG2
          go_wp2
          go_ret3
          rw [← HG3.out]
          exact grs_nil2 B3.out 0 yc (by simp)
      · obtain rfl : j = m := by omega
        have HG2 : Hid ((0, p, M) = X) := by
          have := HG.out
          rw [Nat.sub_self] at this
          exact this
        go_wp2
        go_ret3
        rw [← HG2.out]
        exact grs_of HO.out HB.out p 0
  · have HI : Hid (inn q 0 8 = false) := decide_eq_false h
    have HX : Hid ((2, 0, []) = grA l k q) := by show _ = _; rw [grA, if_neg h]
    generalize grA l k q = X at *
    clear h GR
    go_enter Tryd.func40, Tryd.ntmps40
    go_wp2_with fail
    refine (upTo_any _ 8 _).mono ?_
    rw [HI.out]
    rintro e w1 ⟨rfl, rfl⟩
    go_wp2
    go_ret3
    rw [← HX.out]
    exact grs_nil (Below.refl _ _) 0 2
end Go.Proofs.YtcpadkehalgddaaDoor.GetsI
