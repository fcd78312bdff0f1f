/- The law FnExactAddrs returns true at every slice of records and every name, and turns nothing that was there: Addrs answers as its model. -/
import Derived.Test.YtaahaepgabcebaaSzR
import Derived.Test.YtaahaepgabcebaaCopyR
import Derived.Test.YtaahaepgabcebaaEqR
import Derived.Test.YtaahaepgabcebaaMarkR
import Derived.Test.YtaahaepgabcebaaAdrS
import Derived.Test.YtaahaepgabcebaaAdrI
import Derived.Test.YtaahaepgabcebaaEqI
import Derived.Test.YtaahaepgabcebaaMarkI
namespace Go.Proofs.Ytaahaepgabcebaa.LawAddrs
open Go.RowKit Go.Proofs.Ytaahaepgabcebaa.Mem Go.Proofs.Ytaahaepgabcebaa.MemR Go.Proofs.Ytaahaepgabcebaa.SzR Go.Proofs.Ytaahaepgabcebaa.CopyR Go.Proofs.Ytaahaepgabcebaa.EqR Go.Proofs.Ytaahaepgabcebaa.MarkR Go.Proofs.Ytaahaepgabcebaa.SetMath Go.Proofs.Ytaahaepgabcebaa.MemI Go.Proofs.Ytaahaepgabcebaa.EqI Go.Proofs.Ytaahaepgabcebaa.MarkI

set_option maxHeartbeats 8000000 in
theorem walk (A : Option Addr) (n c : Nat) (l : List Rec) (s : ByteArray) (w : World) (hs : Sr w w.heap.size A n l) (hn : n ≤ 9223372036854775807) (hz : ∀ r ∈ l, r.name.size ≤ 9223372036854775807 ∧ r.host.size ≤ 9223372036854775807 ∧ r.text.size ≤ 9223372036854775807) :
    Calls Try.prog 8 #[.slice A n c, .string s] w fun e w' => e = .returned (.bool true) ∧ Below w.heap.size w w' := by
  have S0 := Lib.hid hs
  have Z0 := Lib.hid hz
  clear hs hz
  by_cases hbig : 1048576 < s.size
  · have hb' : (1048576 : Int) < (s.size : Int) := by omega
    go_enter Try.func8, Try.ntmps8
    go_wp2
    go_ret
    exact ⟨rfl, Below.refl _ _⟩
  have hb' : ¬ (1048576 : Int) < (s.size : Int) := by omega
  go_enter Try.func8, Try.ntmps8
  go_wp2_with fail
  refine (szRecordS_any A n c l 1048576 w S0.out (by omega) (by omega) hn Z0.out).mono ?_
  rintro e w1 ⟨y, rfl, hy0, hy1, hy, hl⟩
  have Y0 := Lib.hid hy
  have L1 := Lib.hid hl
  clear hy hl
  by_cases hneg : y < 0
  · go_wp2
    go_ret
    exact ⟨rfl, L1.out⟩
  have Y1 := Lib.hid (Y0.out (by omega))
  clear Y0
  have bm : n ≤ 1048576 := by have := Y1.out; have := S0.out.1; omega
  have bn : n ≤ 400000000 := by omega
  have HN : Hid (l.length = n) := S0.out.1
  have HZ : Hid (MemR.tot l + l.length ≤ 1048576) := show _ ≤ _ by have := Y1.out; omega
  clear Y1 Z0
  have hk0 : ¬ (1 : Int) + 6 * (n : Int) < 0 := by omega
  have TR : Hid (∀ W : World, Below w.heap.size w W → Calls Try.prog 25 #[.slice A n c] W fun e w' => ∃ g, e = .returned (.slice (some ⟨g, 0, none⟩) n n) ∧ Bk w' g 37 (fl l) ∧ W.heap.size ≤ g ∧ Below W.heap.size W w') :=
    fun W hW => (toRecordS_any A n c l W ((S0.out.below hW).wider hW.size) (by omega)).mono fun e w' ⟨h1, h2, h3⟩ => ⟨_, h1, h2, Nat.le_refl _, h3⟩
  have SP : Hid (∀ (g : Nat) (W : World), Bk W g 37 (fl l) → Calls Try.prog 34 #[.slice (some ⟨g, 0, none⟩) n n, .string s] W fun e w' => ∃ g m c r, e = .returned (.slice (some ⟨g, 0, none⟩) m c) ∧ (uq (al s l)).length = m ∧ m ≤ c ∧ W.heap.size ≤ g ∧ Bk w' g 3 ((uq (al s l)).map iv ++ r) ∧ Below W.heap.size W w') :=
    fun g W h => AdrS.spec s g 0 n n l W (bk_sr0 h HN.out) (by omega)
  have IM : Hid (∀ (g : Nat) (W : World), Bk W g 37 (fl l) → Calls Try.prog 35 #[.slice (some ⟨g, 0, none⟩) n n, .string s] W fun e w' => ∃ g m c r, e = .returned (.slice (some ⟨g, 0, none⟩) m c) ∧ (uq (al s l)).length = m ∧ m ≤ c ∧ W.heap.size ≤ g ∧ Bk w' g 3 ((uq (al s l)).map iv ++ r) ∧ Below W.heap.size W w') :=
    fun g W h => AdrI.impl s g 0 n n l W (bk_sr0 h HN.out) (by omega)
  have HLL : Hid ((uq (al s l)).length ≤ n) := by
    show _ ≤ _
    have := HN.out
    have h1 := len_uq (al s l); have h2 := al_len s l; omega
  generalize uq (al s l) = L at *
  have EQ : Hid (∀ (g h m c c' : Nat) (r r' : List Value) (W : World), L.length = m → m ≤ n → Bk W g 3 (L.map iv ++ r) → Bk W h 3 (L.map iv ++ r') → Calls Try.prog 36 #[.slice (some ⟨g, 0, none⟩) m c, .slice (some ⟨h, 0, none⟩) m c'] W fun e w' => e = .returned (.bool true) ∧ Below W.heap.size W w') :=
    fun g h m c c' r r' W hm hmn h1 h2 => eqIntS_same _ _ m c c' L W (bk_si h1 hm) (bk_si h2 hm) (by omega)
  go_wp2_with fail
  refine (TR.out w1 L1.out).mono ?_
  rintro e w2 ⟨gv, rfl, hb, hg, hl⟩
  have V2 := Lib.hid hb
  have L2 := Lib.hid (L1.out.trans (hl.mono L1.out.size))
  clear hl L1 hb hg
  go_wp2_with fail
  refine (SP.out _ w2 V2.out).mono ?_
  rintro e w3 ⟨gw, m, cw, rw, rfl, hm, hcw, hg, hb, hl⟩
  have HM := Lib.hid hm
  have hmn : m ≤ n := by have := HLL.out; omega
  have W3 := Lib.hid hb
  have L3 := Lib.hid (L2.out.trans (hl.mono L2.out.size))
  clear hl L2 V2 hm hcw hg hb
  go_wp2_with fail
  refine (TR.out w3 L3.out).mono ?_
  rintro e w4 ⟨gx, rfl, hb, hg, hl⟩
  have X4 := Lib.hid hb
  have NWX := Lib.hid (show gw ≠ gx from fun e => by have := W3.out.lt; omega)
  have GX := Lib.hid (Nat.le_trans L3.out.size hg)
  have L4 := Lib.hid (L3.out.trans (hl.mono L3.out.size))
  have W4 := Lib.hid (W3.out.below hl W3.out.lt)
  clear hl L3 W3 hb hg
  go_wp2_with fail
  refine (IM.out _ w4 X4.out).mono ?_
  rintro e w5 ⟨gg, m', cg, rg, rfl, hm, hcg, hg, hb, hl⟩
  obtain rfl : m = m' := HM.out.symm.trans hm
  have G5 := Lib.hid hb
  have NWG := Lib.hid (show gw ≠ gg from fun e => by have := W4.out.lt; omega)
  have NXG := Lib.hid (show gx ≠ gg from fun e => by have := X4.out.lt; omega)
  have GG := Lib.hid (Nat.le_trans L4.out.size hg)
  have L5 := Lib.hid (L4.out.trans (hl.mono L4.out.size))
  have W5 := Lib.hid (W4.out.below hl W4.out.lt)
  have X5 := Lib.hid (X4.out.below hl X4.out.lt)
  clear hl L4 W4 X4 hm hcg hg hb
  go_wp2_with fail
  refine (EQ.out gg gw m cg cw rg rw w5 HM.out hmn G5.out W5.out).mono ?_
  rintro e w6 ⟨rfl, hl⟩
  have L6 := Lib.hid (L5.out.trans (hl.mono L5.out.size))
  have W6 := Lib.hid (W5.out.below hl W5.out.lt)
  have X6 := Lib.hid (X5.out.below hl X5.out.lt)
  have G6 := Lib.hid (G5.out.below hl G5.out.lt)
  clear hl L5 W5 X5 G5 
  go_wp2_with fail
  refine (TR.out w6 L6.out).mono ?_
  rintro e w7 ⟨gu, rfl, hb, hg, hl⟩
  have U7 := Lib.hid hb
  have L7 := Lib.hid (L6.out.trans (hl.mono L6.out.size))
  have W7 := Lib.hid (W6.out.below hl W6.out.lt)
  have X7 := Lib.hid (X6.out.below hl X6.out.lt)
  have G7 := Lib.hid (G6.out.below hl G6.out.lt)
  clear hl L6 W6 X6 G6 hb hg
  go_wp2_with fail
  refine (eqRecordS_same _ _ n n n l w7 (bk_sr0 X7.out HN.out) (bk_sr0 U7.out HN.out) bn).mono ?_
  rintro e w8 ⟨rfl, hl⟩
  have L8 := Lib.hid (L7.out.trans (hl.mono L7.out.size))
  have W8 := Lib.hid (W7.out.below hl W7.out.lt)
  have X8 := Lib.hid (X7.out.below hl X7.out.lt)
  have G8 := Lib.hid (G7.out.below hl G7.out.lt)
  clear hl L7 W7 X7 G7 U7 
  go_wp2_with fail
  refine (markRecordS_one gx n n l [] w8 (by rw [List.append_nil]; exact X8.out) HN.out (by omega)).mono ?_
  rintro e w9 ⟨rfl, mm, gr⟩
  have L9 := Lib.hid (L8.out.grown gr L8.out.size (fun j hj => by cases hj; exact GX.out))
  have W9 := Lib.hid (W8.out.grown gr (fun e => NWX.out (Option.some.inj e)))
  have G9 := Lib.hid (G8.out.grown gr (fun e => NXG.out (Option.some.inj e).symm))
  clear gr L8 W8 X8 G8 mm
  go_wp2_with fail
  refine (EQ.out gg gw m cg cw rg rw w9 HM.out hmn G9.out W9.out).mono ?_
  rintro e w10 ⟨rfl, hl⟩
  have L10 := Lib.hid (L9.out.trans (hl.mono L9.out.size))
  have W10 := Lib.hid (W9.out.below hl W9.out.lt)
  have G10 := Lib.hid (G9.out.below hl G9.out.lt)
  clear hl L9 W9 G9 
  go_wp2_with fail
  refine (markIntS_one gg m cg L rg w10 G10.out HM.out (by omega)).mono ?_
  rintro e w11 ⟨rfl, mm, gr⟩
  have M11 := Lib.hid mm
  have L11 := Lib.hid (L10.out.grown gr L10.out.size (fun j hj => by cases hj; exact GG.out))
  have W11 := Lib.hid (W10.out.grown gr (fun e => NWG.out (Option.some.inj e)))
  clear gr L10 W10 G10 mm
  have q0 : ¬ (1 : Int) + (m : Int) < 0 := by omega
  have q1 : ((1 : Int) + (m : Int) != 1 + (m : Int)) = false := by simp
  go_wp2_with fail
  refine (heldIntS_one gg m cg rg w11 M11.out (by omega)).mono ?_
  rintro e w12 ⟨rfl, hl⟩
  have L12 := Lib.hid (L11.out.trans (hl.mono L11.out.size))
  have W12 := Lib.hid (W11.out.below hl W11.out.lt)
  have M12 := Lib.hid (M11.out.below hl M11.out.lt)
  clear hl L11 W11 M11 
  go_wp2_with fail
  refine (TR.out w12 L12.out).mono ?_
  rintro e w13 ⟨gt, rfl, hb, hg, hl⟩
  have T13 := Lib.hid hb
  have L13 := Lib.hid (L12.out.trans (hl.mono L12.out.size))
  have W13 := Lib.hid (W12.out.below hl W12.out.lt)
  have M13 := Lib.hid (M12.out.below hl M12.out.lt)
  clear hl L12 W12 M12 hb hg
  go_wp2_with fail
  refine (IM.out _ w13 T13.out).mono ?_
  rintro e w14 ⟨gh, m', ch, rh, rfl, hm, hcg, hg, hb, hl⟩
  obtain rfl : m = m' := HM.out.symm.trans hm
  have H14 := Lib.hid hb
  have L14 := Lib.hid (L13.out.trans (hl.mono L13.out.size))
  have W14 := Lib.hid (W13.out.below hl W13.out.lt)
  have M14 := Lib.hid (M13.out.below hl M13.out.lt)
  clear hl L13 W13 M13 T13 hm hcg hg hb
  go_wp2_with fail
  refine (EQ.out gh gw m ch cw rh rw w14 HM.out hmn H14.out W14.out).mono ?_
  rintro e w15 ⟨rfl, hl⟩
  have L15 := Lib.hid (L14.out.trans (hl.mono L14.out.size))
  have M15 := Lib.hid (M14.out.below hl M14.out.lt)
  clear hl L14 W14 M14 H14 
  go_wp2_with fail
  refine (heldIntS_one gg m cg rg w15 M15.out (by omega)).mono ?_
  rintro e w16 ⟨rfl, hl⟩
  have L16 := Lib.hid (L15.out.trans (hl.mono L15.out.size))
  clear hl L15 M15 
  go_wp2
  go_ret
  exact ⟨rfl, L16.out⟩

end Go.Proofs.Ytaahaepgabcebaa.LawAddrs
