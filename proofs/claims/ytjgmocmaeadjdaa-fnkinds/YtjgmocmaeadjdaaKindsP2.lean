/- A message that a call gives back lies in a box of its own, made first and filled at the return: what the box reads as, and what the result is; and boxes made one behind the other. -/
import Derived.Test.YtjgmocmaeadjdaaZoneV
import Derived.Test.YtjgmocmaeadjdaaZoneH
import Derived.Test.YtjgmocmaeadjdaaResZ
import Derived.Test.YtjgmocmaeadjdaaKindsP1
import Derived.Deep.RegionLaw
import Derived.Test.YtjgmocmaeadjdaaZoneMath
import Derived.Test.YtjgmocmaeadjdaaMemZ
import Derived.Test.YtjgmocmaeadjdaaMemS
import Derived.Deep.RegionHeld3
import Derived.Test.YtjgmocmaeadjdaaBoxR
import Derived.IntWalk
import Derived.Test.YtjgmocmaeadjdaaResR
/- What the model's draw of a zone does: a zone of the records of ZoneL, in order, in a row of its own; nothing that was there is turned but the cursor. -/
namespace Go.Proofs.Ytjgmocmaeadjdaa.ZoneD
open Go.RowKit Go.Proofs.Ytjgmocmaeadjdaa.Mem Go.Proofs.Ytjgmocmaeadjdaa.MemR Go.Proofs.Ytjgmocmaeadjdaa.MemZ Go.Proofs.Ytjgmocmaeadjdaa.BoxR Go.Proofs.Ytjgmocmaeadjdaa.ResR Go.Proofs.Ytjgmocmaeadjdaa.ResZ Go.Proofs.Ytjgmocmaeadjdaa.Draw Go.Proofs.Ytjgmocmaeadjdaa.DrawL Go.Proofs.Ytjgmocmaeadjdaa.DrawR Go.Proofs.Ytjgmocmaeadjdaa.LessR Go.Proofs.Ytjgmocmaeadjdaa.SrtMath Go.Proofs.Ytjgmocmaeadjdaa.ZoneL Go.Proofs.Ytjgmocmaeadjdaa.ZoneV

/-- A zone that is drawn, in a row of its own behind the cursor; the cursor moved, nothing else turned. -/
def Zd (w : World) (g : Nat) (e : Ending) (w' : World) : Prop :=
  ∃ (t h : Int) (a b c : Bool) (gl m cap : Nat), (t, h) ∈ ts ∧ e = .returned (.agg #[.string ⟨#[99, 111, 109]⟩, .slice (some ⟨gl, 0, none⟩) m cap]) ∧ (zs t h a b c).length = m ∧ w'.ownsRow w.heap.size 56 6 (.slice (some ⟨gl, 0, none⟩) m cap) m (fl (zs t h a b c)) ∧ Cur w' g ∧ w.grownBy w' (some g)

def tl : List Int := [5, 60, 300]

theorem half {t : Int} (h : t ∈ tl) : ∃ x, (t, x) ∈ ts := by
  simp only [tl, List.mem_cons, List.not_mem_nil, or_false] at h
  rcases h with rfl | rfl | rfl
  · exact ⟨2, by simp [ts]⟩
  · exact ⟨30, by simp [ts]⟩
  · exact ⟨150, by simp [ts]⟩

theorem fine_all : ∀ p ∈ ts, ∀ a b c : Bool, ∀ r ∈ zb p.1 p.2 a b c, r.name.size ≤ 60 ∧ r.host.size ≤ 60 ∧ r.text.size ≤ 60 := by decide +kernel

theorem fine {t h : Int} (ht : (t, h) ∈ ts) (a b c : Bool) : ∀ r ∈ zb t h a b c, Fine r := fun r hr => by
  have := fine_all (t, h) ht a b c r hr
  exact ⟨by omega, by omega⟩

set_option maxRecDepth 100000 in
set_option maxHeartbeats 16000000 in
theorem zone_any (g : Nat) (w : World) (hc : Cur w g) : Calls Try.prog 65 #[.pointer (some ⟨g, 0, none⟩)] w (Zd w g) := by
  have GL := Lib.hid hc.lt
  have HC := Lib.hid hc
  clear hc
  have R0 : Hid (Bk (w.alloc (.cells #[.string ⟨#[]⟩, .slice none 0 0] 26)) w.heap.size 26 (zc ⟨#[]⟩ (.slice none 0 0))) := heap_alloc_new w _
  have G0 := Lib.hid (World.grownBy_alloc w (.cells #[.string ⟨#[]⟩, .slice none 0 0] 26) (some g))
  have C0 := Lib.hid (HC.out.alloc (.cells #[.string ⟨#[]⟩, .slice none 0 0] 26))
  have Z0 : Hid (w.heap.size < (w.alloc (.cells #[.string ⟨#[]⟩, .slice none 0 0] 26)).heap.size) := by show _ < _; simp
  clear HC
  go_enter Try.func65, Try.ntmps65
  go_upto_region 1 with (fail)
  generalize w.alloc (.cells #[.string ⟨#[]⟩, .slice none 0 0] 26) = w0 at *
  go_wp2_with fail
  refine (l1Int_any g w0.heap.size 3 tl _ (C0.out.alloc _) (bk_ints w0 tl _ rfl) (Nat.ne_of_gt C0.out.lt) rfl (by omega) (by omega)).mono ?_
  rintro e w1 ⟨t, rfl, ht, hc1, hg1⟩
  obtain ⟨h, hth⟩ := half ht
  have HT := Lib.hid hth
  have GA := Lib.hid (grown_trans (World.grownBy_alloc w0 _ (some g)) hg1)
  have C1 := Lib.hid hc1
  have G1 := Lib.hid (grown_trans G0.out GA.out)
  have R1 := Lib.hid (R0.out.grown GA.out (fun e => by have h1 := GL.out; have h2 : w.heap.size = g := Option.some.inj e; omega))
  have Z1 : Hid (w.heap.size < w1.heap.size) := Nat.lt_of_lt_of_le Z0.out GA.out.size
  clear ht hth hc1 hg1 GA C0 G0 R0 Z0
  go_wp2_with fail
  refine (ZoneH.l10Start ⟨#[99, 111, 109]⟩ t h (List.mem_cons_of_mem _ HT.out) w1).mono ?_
  rintro e w2 ⟨rfl, hl⟩
  have C2 := Lib.hid (cur_below C1.out hl)
  have G2 := Lib.hid (grown_below G1.out hl)
  have R2 := Lib.hid (R1.out.below hl R1.out.lt)
  have Z2 : Hid (w.heap.size < w2.heap.size) := Nat.lt_of_lt_of_le Z1.out hl.size
  clear hl C1 G1 R1 Z1
  go_wp2_with fail
  refine (ZoneH.l10Server ⟨#[99, 111, 109]⟩ ⟨#[110, 115, 46, 99, 111, 109]⟩ t w2).mono ?_
  rintro e w3 ⟨rfl, hl⟩
  have C3 := Lib.hid (cur_below C2.out hl)
  have G3 := Lib.hid (grown_below G2.out hl)
  have R3 := Lib.hid (R2.out.below hl R2.out.lt)
  have Z3 : Hid (w.heap.size < w3.heap.size) := Nat.lt_of_lt_of_le Z2.out hl.size
  clear hl C2 G2 R2 Z2
  go_wp2_with fail
  refine (ZoneH.l10Addr ⟨#[110, 115, 46, 99, 111, 109]⟩ 2 t w3).mono ?_
  rintro e w4 ⟨rfl, hl⟩
  have C4 := Lib.hid (cur_below C3.out hl)
  have G4 := Lib.hid (grown_below G3.out hl)
  have R4 := Lib.hid (R3.out.below hl R3.out.lt)
  have Z4 : Hid (w.heap.size < w4.heap.size) := Nat.lt_of_lt_of_le Z3.out hl.size
  clear hl C3 G3 R3 Z3
  have B5 : Hid (Bk (w4.alloc (.cells #[.string ⟨#[99, 111, 109]⟩, .int .i64 6, .int .i64 t, .int .i64 h, .string ⟨#[]⟩, .string ⟨#[]⟩, .string ⟨#[99, 111, 109]⟩, .int .i64 2, .int .i64 t, .int .i64 0, .string ⟨#[110, 115, 46, 99, 111, 109]⟩, .string ⟨#[]⟩, .string ⟨#[110, 115, 46, 99, 111, 109]⟩, .int .i64 1, .int .i64 t, .int .i64 2, .string ⟨#[]⟩, .string ⟨#[]⟩] 56)) w4.heap.size 56 (fl [(Rec.mk ⟨#[99, 111, 109]⟩ 6 t h ⟨#[]⟩ ⟨#[]⟩), (Rec.mk ⟨#[99, 111, 109]⟩ 2 t 0 ⟨#[110, 115, 46, 99, 111, 109]⟩ ⟨#[]⟩), (Rec.mk ⟨#[110, 115, 46, 99, 111, 109]⟩ 1 t 2 ⟨#[]⟩ ⟨#[]⟩)])) := heap_alloc_new w4 _
  have C5 := Lib.hid (C4.out.alloc (.cells #[.string ⟨#[99, 111, 109]⟩, .int .i64 6, .int .i64 t, .int .i64 h, .string ⟨#[]⟩, .string ⟨#[]⟩, .string ⟨#[99, 111, 109]⟩, .int .i64 2, .int .i64 t, .int .i64 0, .string ⟨#[110, 115, 46, 99, 111, 109]⟩, .string ⟨#[]⟩, .string ⟨#[110, 115, 46, 99, 111, 109]⟩, .int .i64 1, .int .i64 t, .int .i64 2, .string ⟨#[]⟩, .string ⟨#[]⟩] 56))
  have G5 := Lib.hid (grown_trans G4.out (World.grownBy_alloc w4 (.cells #[.string ⟨#[99, 111, 109]⟩, .int .i64 6, .int .i64 t, .int .i64 h, .string ⟨#[]⟩, .string ⟨#[]⟩, .string ⟨#[99, 111, 109]⟩, .int .i64 2, .int .i64 t, .int .i64 0, .string ⟨#[110, 115, 46, 99, 111, 109]⟩, .string ⟨#[]⟩, .string ⟨#[110, 115, 46, 99, 111, 109]⟩, .int .i64 1, .int .i64 t, .int .i64 2, .string ⟨#[]⟩, .string ⟨#[]⟩] 56) (some g)))
  have R5 := Lib.hid (R4.out.alloc (.cells #[.string ⟨#[99, 111, 109]⟩, .int .i64 6, .int .i64 t, .int .i64 h, .string ⟨#[]⟩, .string ⟨#[]⟩, .string ⟨#[99, 111, 109]⟩, .int .i64 2, .int .i64 t, .int .i64 0, .string ⟨#[110, 115, 46, 99, 111, 109]⟩, .string ⟨#[]⟩, .string ⟨#[110, 115, 46, 99, 111, 109]⟩, .int .i64 1, .int .i64 t, .int .i64 2, .string ⟨#[]⟩, .string ⟨#[]⟩] 56))
  have Z5 : Hid (w.heap.size < (w4.alloc (.cells #[.string ⟨#[99, 111, 109]⟩, .int .i64 6, .int .i64 t, .int .i64 h, .string ⟨#[]⟩, .string ⟨#[]⟩, .string ⟨#[99, 111, 109]⟩, .int .i64 2, .int .i64 t, .int .i64 0, .string ⟨#[110, 115, 46, 99, 111, 109]⟩, .string ⟨#[]⟩, .string ⟨#[110, 115, 46, 99, 111, 109]⟩, .int .i64 1, .int .i64 t, .int .i64 2, .string ⟨#[]⟩, .string ⟨#[]⟩] 56)).heap.size) := by show _ < _; have := Z4.out; simp; omega
  have O5 : Hid ((w4.alloc (.cells #[.string ⟨#[99, 111, 109]⟩, .int .i64 6, .int .i64 t, .int .i64 h, .string ⟨#[]⟩, .string ⟨#[]⟩, .string ⟨#[99, 111, 109]⟩, .int .i64 2, .int .i64 t, .int .i64 0, .string ⟨#[110, 115, 46, 99, 111, 109]⟩, .string ⟨#[]⟩, .string ⟨#[110, 115, 46, 99, 111, 109]⟩, .int .i64 1, .int .i64 t, .int .i64 2, .string ⟨#[]⟩, .string ⟨#[]⟩] 56)).ownsRow (w.heap.size + 1) 56 6 (.slice (some ⟨w4.heap.size, 0, none⟩) 3 3) 3 (fl (zb t h false false false))) := owns6 B5.out Z4.out rfl (by decide)
  clear C4 G4 R4 Z4 B5
  go_upto_region 3 with (fail)
  generalize w4.alloc (.cells #[.string ⟨#[99, 111, 109]⟩, .int .i64 6, .int .i64 t, .int .i64 h, .string ⟨#[]⟩, .string ⟨#[]⟩, .string ⟨#[99, 111, 109]⟩, .int .i64 2, .int .i64 t, .int .i64 0, .string ⟨#[110, 115, 46, 99, 111, 109]⟩, .string ⟨#[]⟩, .string ⟨#[110, 115, 46, 99, 111, 109]⟩, .int .i64 1, .int .i64 t, .int .i64 2, .string ⟨#[]⟩, .string ⟨#[]⟩] 56) = w5 at *
  generalize w4.heap.size = gl at *
  go_wp2_with fail
  refine (l1Once_any g 2 _ C5.out (by omega) (by omega)).mono ?_
  rintro e w6 ⟨bb, rfl, hc9, hg9⟩
  have C6 := Lib.hid hc9
  have G6 := Lib.hid (grown_trans G5.out hg9)
  have R6 := Lib.hid (R5.out.grown hg9 (fun e => by have h1 := GL.out; have h2 : w.heap.size = g := Option.some.inj e; omega))
  have O6 := Lib.hid (own_far O5.out hg9 (Nat.lt_succ_of_lt GL.out))
  have Z6 : Hid (w.heap.size < w6.heap.size) := Nat.lt_of_lt_of_le Z5.out hg9.size
  clear hc9 hg9 C5 G5 R5 O5 Z5
  cases bb with
  | true =>
    go_wp2_with fail
    refine (ZoneH.l10Server ⟨#[101, 120, 46, 99, 111, 109]⟩ ⟨#[110, 115, 46, 101, 120, 46, 99, 111, 109]⟩ t w6).mono ?_
    rintro e w7 ⟨rfl, hl⟩
    have C7 := Lib.hid (cur_below C6.out hl)
    have G7 := Lib.hid (grown_below G6.out hl)
    have R7 := Lib.hid (R6.out.below hl R6.out.lt)
    have Z7 : Hid (w.heap.size < w7.heap.size) := Nat.lt_of_lt_of_le Z6.out hl.size
    have O7 := Lib.hid (own_below O6.out hl)
    clear hl C6 G6 R6 Z6 O6
    go_wp2_with fail
    refine (ZoneH.l10Addr ⟨#[110, 115, 46, 101, 120, 46, 99, 111, 109]⟩ 3 t w7).mono ?_
    rintro e w8 ⟨rfl, hl⟩
    have C8 := Lib.hid (cur_below C7.out hl)
    have G8 := Lib.hid (grown_below G7.out hl)
    have R8 := Lib.hid (R7.out.below hl R7.out.lt)
    have Z8 : Hid (w.heap.size < w8.heap.size) := Nat.lt_of_lt_of_le Z7.out hl.size
    have O8 := Lib.hid (own_below O7.out hl)
    clear hl C7 G7 R7 Z7 O7
    have B9 : Hid (Bk (w8.alloc (.cells #[.string ⟨#[101, 120, 46, 99, 111, 109]⟩, .int .i64 2, .int .i64 t, .int .i64 0, .string ⟨#[110, 115, 46, 101, 120, 46, 99, 111, 109]⟩, .string ⟨#[]⟩, .string ⟨#[110, 115, 46, 101, 120, 46, 99, 111, 109]⟩, .int .i64 1, .int .i64 t, .int .i64 3, .string ⟨#[]⟩, .string ⟨#[]⟩] 56)) w8.heap.size 56 (fl [(Rec.mk ⟨#[101, 120, 46, 99, 111, 109]⟩ 2 t 0 ⟨#[110, 115, 46, 101, 120, 46, 99, 111, 109]⟩ ⟨#[]⟩), (Rec.mk ⟨#[110, 115, 46, 101, 120, 46, 99, 111, 109]⟩ 1 t 3 ⟨#[]⟩ ⟨#[]⟩)])) := heap_alloc_new w8 _
    have C9 := Lib.hid (C8.out.alloc (.cells #[.string ⟨#[101, 120, 46, 99, 111, 109]⟩, .int .i64 2, .int .i64 t, .int .i64 0, .string ⟨#[110, 115, 46, 101, 120, 46, 99, 111, 109]⟩, .string ⟨#[]⟩, .string ⟨#[110, 115, 46, 101, 120, 46, 99, 111, 109]⟩, .int .i64 1, .int .i64 t, .int .i64 3, .string ⟨#[]⟩, .string ⟨#[]⟩] 56))
    have G9 := Lib.hid (grown_trans G8.out (World.grownBy_alloc w8 (.cells #[.string ⟨#[101, 120, 46, 99, 111, 109]⟩, .int .i64 2, .int .i64 t, .int .i64 0, .string ⟨#[110, 115, 46, 101, 120, 46, 99, 111, 109]⟩, .string ⟨#[]⟩, .string ⟨#[110, 115, 46, 101, 120, 46, 99, 111, 109]⟩, .int .i64 1, .int .i64 t, .int .i64 3, .string ⟨#[]⟩, .string ⟨#[]⟩] 56) (some g)))
    have R9 := Lib.hid (R8.out.alloc (.cells #[.string ⟨#[101, 120, 46, 99, 111, 109]⟩, .int .i64 2, .int .i64 t, .int .i64 0, .string ⟨#[110, 115, 46, 101, 120, 46, 99, 111, 109]⟩, .string ⟨#[]⟩, .string ⟨#[110, 115, 46, 101, 120, 46, 99, 111, 109]⟩, .int .i64 1, .int .i64 t, .int .i64 3, .string ⟨#[]⟩, .string ⟨#[]⟩] 56))
    have Z9 : Hid (w.heap.size < (w8.alloc (.cells #[.string ⟨#[101, 120, 46, 99, 111, 109]⟩, .int .i64 2, .int .i64 t, .int .i64 0, .string ⟨#[110, 115, 46, 101, 120, 46, 99, 111, 109]⟩, .string ⟨#[]⟩, .string ⟨#[110, 115, 46, 101, 120, 46, 99, 111, 109]⟩, .int .i64 1, .int .i64 t, .int .i64 3, .string ⟨#[]⟩, .string ⟨#[]⟩] 56)).heap.size) := by show _ < _; have := Z8.out; simp; omega
    have O9 := Lib.hid (O8.out.alloc (.cells #[.string ⟨#[101, 120, 46, 99, 111, 109]⟩, .int .i64 2, .int .i64 t, .int .i64 0, .string ⟨#[110, 115, 46, 101, 120, 46, 99, 111, 109]⟩, .string ⟨#[]⟩, .string ⟨#[110, 115, 46, 101, 120, 46, 99, 111, 109]⟩, .int .i64 1, .int .i64 t, .int .i64 3, .string ⟨#[]⟩, .string ⟨#[]⟩] 56))
    have S9 : Hid (Sr (w8.alloc (.cells #[.string ⟨#[101, 120, 46, 99, 111, 109]⟩, .int .i64 2, .int .i64 t, .int .i64 0, .string ⟨#[110, 115, 46, 101, 120, 46, 99, 111, 109]⟩, .string ⟨#[]⟩, .string ⟨#[110, 115, 46, 101, 120, 46, 99, 111, 109]⟩, .int .i64 1, .int .i64 t, .int .i64 3, .string ⟨#[]⟩, .string ⟨#[]⟩] 56)) (w8.alloc (.cells #[.string ⟨#[101, 120, 46, 99, 111, 109]⟩, .int .i64 2, .int .i64 t, .int .i64 0, .string ⟨#[110, 115, 46, 101, 120, 46, 99, 111, 109]⟩, .string ⟨#[]⟩, .string ⟨#[110, 115, 46, 101, 120, 46, 99, 111, 109]⟩, .int .i64 1, .int .i64 t, .int .i64 3, .string ⟨#[]⟩, .string ⟨#[]⟩] 56)).heap.size (some ⟨w8.heap.size, 0, none⟩) 2 [(Rec.mk ⟨#[101, 120, 46, 99, 111, 109]⟩ 2 t 0 ⟨#[110, 115, 46, 101, 120, 46, 99, 111, 109]⟩ ⟨#[]⟩), (Rec.mk ⟨#[110, 115, 46, 101, 120, 46, 99, 111, 109]⟩ 1 t 3 ⟨#[]⟩ ⟨#[]⟩)]) := bk_sr0 B9.out rfl
    go_wp2_with (at_builtin; refine AppR.append_recs (w := w8.alloc (.cells #[.string ⟨#[101, 120, 46, 99, 111, 109]⟩, .int .i64 2, .int .i64 t, .int .i64 0, .string ⟨#[110, 115, 46, 101, 120, 46, 99, 111, 109]⟩, .string ⟨#[]⟩, .string ⟨#[110, 115, 46, 101, 120, 46, 99, 111, 109]⟩, .int .i64 1, .int .i64 t, .int .i64 3, .string ⟨#[]⟩, .string ⟨#[]⟩] 56)) rfl (.tmp 17) (.tmp 22) rfl (w.heap.size + 1) gl 3 3 (zb t h false false false) rfl O9.out w8.heap.size 0 2 2 _ [(Rec.mk ⟨#[101, 120, 46, 99, 111, 109]⟩ 2 t 0 ⟨#[110, 115, 46, 101, 120, 46, 99, 111, 109]⟩ ⟨#[]⟩), (Rec.mk ⟨#[110, 115, 46, 101, 120, 46, 99, 111, 109]⟩ 1 t 3 ⟨#[]⟩ ⟨#[]⟩)] rfl S9.out (by omega) (by omega) (by have := Z9.out; omega) ?_)
    intro gq10 cq10 w10 hown hgrow
    have O10 := Lib.hid hown
    have C10 := Lib.hid (cur_far C9.out O9.out hgrow (by have := GL.out; omega))
    have gge : w.heap.size + 1 ≤ gl := (O9.out.lt gl rfl).1
    have G10 := Lib.hid (grown_far G9.out hgrow (by omega))
    have R10 := Lib.hid (R9.out.grown hgrow (fun e => by have h2 : w.heap.size = gl := Option.some.inj e; omega))
    have Z10 : Hid (w.heap.size < w10.heap.size) := Nat.lt_of_lt_of_le Z9.out hgrow.size
    clear hown hgrow gge C9 G9 R9 Z9 O9 B9 S9 C8 G8 R8 Z8 O8
    have OE : Hid (w10.ownsRow (w.heap.size + 1) 56 6 (.slice (some ⟨gq10, 0, none⟩) 5 cq10) 5 (fl (zb t h true false false))) := O10.out
    clear O10
    have O10 := OE
    clear OE
    go_wp2_with fail
    refine (l1Once_any g 2 _ C10.out (by omega) (by omega)).mono ?_
    rintro e w11 ⟨bb, rfl, hc9, hg9⟩
    have C11 := Lib.hid hc9
    have G11 := Lib.hid (grown_trans G10.out hg9)
    have R11 := Lib.hid (R10.out.grown hg9 (fun e => by have h1 := GL.out; have h2 : w.heap.size = g := Option.some.inj e; omega))
    have O11 := Lib.hid (own_far O10.out hg9 (Nat.lt_succ_of_lt GL.out))
    have Z11 : Hid (w.heap.size < w11.heap.size) := Nat.lt_of_lt_of_le Z10.out hg9.size
    clear hc9 hg9 C10 G10 R10 O10 Z10
    cases bb with
    | true =>
      have B12 : Hid (Bk (w11.alloc (.cells #[.string ⟨#[119, 119, 119, 46, 99, 111, 109]⟩, .int .i64 5, .int .i64 9, .int .i64 0, .string ⟨#[97, 46, 111, 114, 103]⟩, .string ⟨#[]⟩] 56)) w11.heap.size 56 (fl [(Rec.mk ⟨#[119, 119, 119, 46, 99, 111, 109]⟩ 5 9 0 ⟨#[97, 46, 111, 114, 103]⟩ ⟨#[]⟩)])) := heap_alloc_new w11 _
      have C12 := Lib.hid (C11.out.alloc (.cells #[.string ⟨#[119, 119, 119, 46, 99, 111, 109]⟩, .int .i64 5, .int .i64 9, .int .i64 0, .string ⟨#[97, 46, 111, 114, 103]⟩, .string ⟨#[]⟩] 56))
      have G12 := Lib.hid (grown_trans G11.out (World.grownBy_alloc w11 (.cells #[.string ⟨#[119, 119, 119, 46, 99, 111, 109]⟩, .int .i64 5, .int .i64 9, .int .i64 0, .string ⟨#[97, 46, 111, 114, 103]⟩, .string ⟨#[]⟩] 56) (some g)))
      have R12 := Lib.hid (R11.out.alloc (.cells #[.string ⟨#[119, 119, 119, 46, 99, 111, 109]⟩, .int .i64 5, .int .i64 9, .int .i64 0, .string ⟨#[97, 46, 111, 114, 103]⟩, .string ⟨#[]⟩] 56))
      have Z12 : Hid (w.heap.size < (w11.alloc (.cells #[.string ⟨#[119, 119, 119, 46, 99, 111, 109]⟩, .int .i64 5, .int .i64 9, .int .i64 0, .string ⟨#[97, 46, 111, 114, 103]⟩, .string ⟨#[]⟩] 56)).heap.size) := by show _ < _; have := Z11.out; simp; omega
      have O12 := Lib.hid (O11.out.alloc (.cells #[.string ⟨#[119, 119, 119, 46, 99, 111, 109]⟩, .int .i64 5, .int .i64 9, .int .i64 0, .string ⟨#[97, 46, 111, 114, 103]⟩, .string ⟨#[]⟩] 56))
      have S12 : Hid (Sr (w11.alloc (.cells #[.string ⟨#[119, 119, 119, 46, 99, 111, 109]⟩, .int .i64 5, .int .i64 9, .int .i64 0, .string ⟨#[97, 46, 111, 114, 103]⟩, .string ⟨#[]⟩] 56)) (w11.alloc (.cells #[.string ⟨#[119, 119, 119, 46, 99, 111, 109]⟩, .int .i64 5, .int .i64 9, .int .i64 0, .string ⟨#[97, 46, 111, 114, 103]⟩, .string ⟨#[]⟩] 56)).heap.size (some ⟨w11.heap.size, 0, none⟩) 1 [(Rec.mk ⟨#[119, 119, 119, 46, 99, 111, 109]⟩ 5 9 0 ⟨#[97, 46, 111, 114, 103]⟩ ⟨#[]⟩)]) := bk_sr0 B12.out rfl
      go_wp2_with (at_builtin; refine AppR.append_recs (w := w11.alloc (.cells #[.string ⟨#[119, 119, 119, 46, 99, 111, 109]⟩, .int .i64 5, .int .i64 9, .int .i64 0, .string ⟨#[97, 46, 111, 114, 103]⟩, .string ⟨#[]⟩] 56)) rfl (.tmp 26) (.tmp 28) rfl (w.heap.size + 1) gq10 5 cq10 (zb t h true false false) rfl O12.out w11.heap.size 0 1 1 _ [(Rec.mk ⟨#[119, 119, 119, 46, 99, 111, 109]⟩ 5 9 0 ⟨#[97, 46, 111, 114, 103]⟩ ⟨#[]⟩)] rfl S12.out (by omega) (by omega) (by have := Z12.out; omega) ?_)
      intro gq13 cq13 w13 hown hgrow
      have O13 := Lib.hid hown
      have C13 := Lib.hid (cur_far C12.out O12.out hgrow (by have := GL.out; omega))
      have gge : w.heap.size + 1 ≤ gq10 := (O12.out.lt gq10 rfl).1
      have G13 := Lib.hid (grown_far G12.out hgrow (by omega))
      have R13 := Lib.hid (R12.out.grown hgrow (fun e => by have h2 : w.heap.size = gq10 := Option.some.inj e; omega))
      have Z13 : Hid (w.heap.size < w13.heap.size) := Nat.lt_of_lt_of_le Z12.out hgrow.size
      clear hown hgrow gge C12 G12 R12 Z12 O12 B12 S12 C11 G11 R11 Z11 O11
      have OE : Hid (w13.ownsRow (w.heap.size + 1) 56 6 (.slice (some ⟨gq13, 0, none⟩) 6 cq13) 6 (fl (zb t h true true false))) := O13.out
      clear O13
      have O13 := OE
      clear OE
      go_wp2_with fail
      refine (l1Once_any g 2 _ C13.out (by omega) (by omega)).mono ?_
      rintro e w14 ⟨bb, rfl, hc9, hg9⟩
      have C14 := Lib.hid hc9
      have G14 := Lib.hid (grown_trans G13.out hg9)
      have R14 := Lib.hid (R13.out.grown hg9 (fun e => by have h1 := GL.out; have h2 : w.heap.size = g := Option.some.inj e; omega))
      have O14 := Lib.hid (own_far O13.out hg9 (Nat.lt_succ_of_lt GL.out))
      have Z14 : Hid (w.heap.size < w14.heap.size) := Nat.lt_of_lt_of_le Z13.out hg9.size
      clear hc9 hg9 C13 G13 R13 O13 Z13
      cases bb with
      | true =>
        go_wp2_with fail
        refine (ZoneH.l10Addr ⟨#[98, 46, 97, 46, 99, 111, 109]⟩ 8 9 w14).mono ?_
        rintro e w15 ⟨rfl, hl⟩
        have C15 := Lib.hid (cur_below C14.out hl)
        have G15 := Lib.hid (grown_below G14.out hl)
        have R15 := Lib.hid (R14.out.below hl R14.out.lt)
        have Z15 : Hid (w.heap.size < w15.heap.size) := Nat.lt_of_lt_of_le Z14.out hl.size
        have O15 := Lib.hid (own_below O14.out hl)
        clear hl C14 G14 R14 Z14 O14
        have B16 : Hid (Bk (w15.alloc (.cells #[.string ⟨#[116, 46, 99, 111, 109]⟩, .int .i64 16, .int .i64 7, .int .i64 0, .string ⟨#[]⟩, .string ⟨#[104, 105]⟩, .string ⟨#[98, 46, 97, 46, 99, 111, 109]⟩, .int .i64 1, .int .i64 9, .int .i64 8, .string ⟨#[]⟩, .string ⟨#[]⟩] 56)) w15.heap.size 56 (fl [(Rec.mk ⟨#[116, 46, 99, 111, 109]⟩ 16 7 0 ⟨#[]⟩ ⟨#[104, 105]⟩), (Rec.mk ⟨#[98, 46, 97, 46, 99, 111, 109]⟩ 1 9 8 ⟨#[]⟩ ⟨#[]⟩)])) := heap_alloc_new w15 _
        have C16 := Lib.hid (C15.out.alloc (.cells #[.string ⟨#[116, 46, 99, 111, 109]⟩, .int .i64 16, .int .i64 7, .int .i64 0, .string ⟨#[]⟩, .string ⟨#[104, 105]⟩, .string ⟨#[98, 46, 97, 46, 99, 111, 109]⟩, .int .i64 1, .int .i64 9, .int .i64 8, .string ⟨#[]⟩, .string ⟨#[]⟩] 56))
        have G16 := Lib.hid (grown_trans G15.out (World.grownBy_alloc w15 (.cells #[.string ⟨#[116, 46, 99, 111, 109]⟩, .int .i64 16, .int .i64 7, .int .i64 0, .string ⟨#[]⟩, .string ⟨#[104, 105]⟩, .string ⟨#[98, 46, 97, 46, 99, 111, 109]⟩, .int .i64 1, .int .i64 9, .int .i64 8, .string ⟨#[]⟩, .string ⟨#[]⟩] 56) (some g)))
        have R16 := Lib.hid (R15.out.alloc (.cells #[.string ⟨#[116, 46, 99, 111, 109]⟩, .int .i64 16, .int .i64 7, .int .i64 0, .string ⟨#[]⟩, .string ⟨#[104, 105]⟩, .string ⟨#[98, 46, 97, 46, 99, 111, 109]⟩, .int .i64 1, .int .i64 9, .int .i64 8, .string ⟨#[]⟩, .string ⟨#[]⟩] 56))
        have Z16 : Hid (w.heap.size < (w15.alloc (.cells #[.string ⟨#[116, 46, 99, 111, 109]⟩, .int .i64 16, .int .i64 7, .int .i64 0, .string ⟨#[]⟩, .string ⟨#[104, 105]⟩, .string ⟨#[98, 46, 97, 46, 99, 111, 109]⟩, .int .i64 1, .int .i64 9, .int .i64 8, .string ⟨#[]⟩, .string ⟨#[]⟩] 56)).heap.size) := by show _ < _; have := Z15.out; simp; omega
        have O16 := Lib.hid (O15.out.alloc (.cells #[.string ⟨#[116, 46, 99, 111, 109]⟩, .int .i64 16, .int .i64 7, .int .i64 0, .string ⟨#[]⟩, .string ⟨#[104, 105]⟩, .string ⟨#[98, 46, 97, 46, 99, 111, 109]⟩, .int .i64 1, .int .i64 9, .int .i64 8, .string ⟨#[]⟩, .string ⟨#[]⟩] 56))
        have S16 : Hid (Sr (w15.alloc (.cells #[.string ⟨#[116, 46, 99, 111, 109]⟩, .int .i64 16, .int .i64 7, .int .i64 0, .string ⟨#[]⟩, .string ⟨#[104, 105]⟩, .string ⟨#[98, 46, 97, 46, 99, 111, 109]⟩, .int .i64 1, .int .i64 9, .int .i64 8, .string ⟨#[]⟩, .string ⟨#[]⟩] 56)) (w15.alloc (.cells #[.string ⟨#[116, 46, 99, 111, 109]⟩, .int .i64 16, .int .i64 7, .int .i64 0, .string ⟨#[]⟩, .string ⟨#[104, 105]⟩, .string ⟨#[98, 46, 97, 46, 99, 111, 109]⟩, .int .i64 1, .int .i64 9, .int .i64 8, .string ⟨#[]⟩, .string ⟨#[]⟩] 56)).heap.size (some ⟨w15.heap.size, 0, none⟩) 2 [(Rec.mk ⟨#[116, 46, 99, 111, 109]⟩ 16 7 0 ⟨#[]⟩ ⟨#[104, 105]⟩), (Rec.mk ⟨#[98, 46, 97, 46, 99, 111, 109]⟩ 1 9 8 ⟨#[]⟩ ⟨#[]⟩)]) := bk_sr0 B16.out rfl
        go_wp2_with (at_builtin; refine AppR.append_recs (w := w15.alloc (.cells #[.string ⟨#[116, 46, 99, 111, 109]⟩, .int .i64 16, .int .i64 7, .int .i64 0, .string ⟨#[]⟩, .string ⟨#[104, 105]⟩, .string ⟨#[98, 46, 97, 46, 99, 111, 109]⟩, .int .i64 1, .int .i64 9, .int .i64 8, .string ⟨#[]⟩, .string ⟨#[]⟩] 56)) rfl (.tmp 32) (.tmp 35) rfl (w.heap.size + 1) gq13 6 cq13 (zb t h true true false) rfl O16.out w15.heap.size 0 2 2 _ [(Rec.mk ⟨#[116, 46, 99, 111, 109]⟩ 16 7 0 ⟨#[]⟩ ⟨#[104, 105]⟩), (Rec.mk ⟨#[98, 46, 97, 46, 99, 111, 109]⟩ 1 9 8 ⟨#[]⟩ ⟨#[]⟩)] rfl S16.out (by omega) (by omega) (by have := Z16.out; omega) ?_)
        intro gq17 cq17 w17 hown hgrow
        have O17 := Lib.hid hown
        have C17 := Lib.hid (cur_far C16.out O16.out hgrow (by have := GL.out; omega))
        have gge : w.heap.size + 1 ≤ gq13 := (O16.out.lt gq13 rfl).1
        have G17 := Lib.hid (grown_far G16.out hgrow (by omega))
        have R17 := Lib.hid (R16.out.grown hgrow (fun e => by have h2 : w.heap.size = gq13 := Option.some.inj e; omega))
        have Z17 : Hid (w.heap.size < w17.heap.size) := Nat.lt_of_lt_of_le Z16.out hgrow.size
        clear hown hgrow gge C16 G16 R16 Z16 O16 B16 S16 C15 G15 R15 Z15 O15
        have OE : Hid (w17.ownsRow (w.heap.size + 1) 56 6 (.slice (some ⟨gq17, 0, none⟩) 8 cq17) 8 (fl (zb t h true true true))) := O17.out
        clear O17
        have O17 := OE
        clear OE
        have SL : Hid (Sr w17 w17.heap.size (some ⟨gq17, 0, none⟩) 8 (zb t h true true true)) := own_sr O17.out
        go_wp2_with fail
        refine (UniqZ.spec gq17 0 8 cq17 (zb t h true true true) w17 SL.out (by omega) (fine HT.out true true true)).mono ?_
        rintro e w18 ⟨S, gs, ms, cs, hsrt, rfl, hlm, hown, hl⟩
        have hS : S = zs t h true true true := hsrt.unique (srt HT.out true true true)
        subst hS
        rw [thin HT.out] at hlm hown
        have HM := Lib.hid hlm
        have O18 := Lib.hid hown
        have C18 := Lib.hid (cur_below C17.out hl)
        have G18 := Lib.hid (grown_below G17.out hl)
        have R18 := Lib.hid (R17.out.below hl R17.out.lt)
        have NG : Hid (gs ≠ w.heap.size) := show _ ≠ _ from fun e => by have h1 := (O18.out.lt gs rfl).1; have h2 := Z17.out; omega
        have BG : Hid (w.heap.size ≤ w17.heap.size) := Nat.le_of_lt Z17.out
        clear hsrt hlm hown hl SL O17 C17 G17 R17 Z17
        have r0 : w18.cell? ⟨w.heap.size, 0, none⟩ = some (.string ⟨#[]⟩) := R18.out.cell 0
        have r1 : w18.cell? ⟨w.heap.size, 1, none⟩ = some (.slice none 0 0) := R18.out.cell 1
        have q0 := R18.out.free 0
        have q1 := R18.out.free 1
        have F := Lib.hid (filZ_bk R18.out ⟨#[99, 111, 109]⟩ (.slice (some ⟨gs, 0, none⟩) ms cs))
        have OF := Lib.hid (own_filZ O18.out NG.out ⟨#[99, 111, 109]⟩ (.slice (some ⟨gs, 0, none⟩) ms cs))
        have CF := Lib.hid (cur_filZ C18.out GL.out ⟨#[99, 111, 109]⟩ (.slice (some ⟨gs, 0, none⟩) ms cs))
        have GF := Lib.hid (grown_filZ G18.out (Nat.le_refl _) ⟨#[99, 111, 109]⟩ (.slice (some ⟨gs, 0, none⟩) ms cs))
        go_wp2
        exact bodyPost_ret (v := .agg #[.string ⟨#[99, 111, 109]⟩, .slice (some ⟨gs, 0, none⟩) ms cs]) (resZ1 rfl F.out rfl) rfl ⟨t, h, true, true, true, gs, ms, cs, HT.out, rfl, HM.out, MapK.own_mono OF.out BG.out, CF.out, GF.out⟩
      | false =>

        have SL : Hid (Sr w14 w14.heap.size (some ⟨gq13, 0, none⟩) 6 (zb t h true true false)) := own_sr O14.out
        go_wp2_with fail
        refine (UniqZ.spec gq13 0 6 cq13 (zb t h true true false) w14 SL.out (by omega) (fine HT.out true true false)).mono ?_
        rintro e w19 ⟨S, gs, ms, cs, hsrt, rfl, hlm, hown, hl⟩
        have hS : S = zs t h true true false := hsrt.unique (srt HT.out true true false)
        subst hS
        rw [thin HT.out] at hlm hown
        have HM := Lib.hid hlm
        have O19 := Lib.hid hown
        have C19 := Lib.hid (cur_below C14.out hl)
        have G19 := Lib.hid (grown_below G14.out hl)
        have R19 := Lib.hid (R14.out.below hl R14.out.lt)
        have NG : Hid (gs ≠ w.heap.size) := show _ ≠ _ from fun e => by have h1 := (O19.out.lt gs rfl).1; have h2 := Z14.out; omega
        have BG : Hid (w.heap.size ≤ w14.heap.size) := Nat.le_of_lt Z14.out
        clear hsrt hlm hown hl SL O14 C14 G14 R14 Z14
        have r0 : w19.cell? ⟨w.heap.size, 0, none⟩ = some (.string ⟨#[]⟩) := R19.out.cell 0
        have r1 : w19.cell? ⟨w.heap.size, 1, none⟩ = some (.slice none 0 0) := R19.out.cell 1
        have q0 := R19.out.free 0
        have q1 := R19.out.free 1
        have F := Lib.hid (filZ_bk R19.out ⟨#[99, 111, 109]⟩ (.slice (some ⟨gs, 0, none⟩) ms cs))
        have OF := Lib.hid (own_filZ O19.out NG.out ⟨#[99, 111, 109]⟩ (.slice (some ⟨gs, 0, none⟩) ms cs))
        have CF := Lib.hid (cur_filZ C19.out GL.out ⟨#[99, 111, 109]⟩ (.slice (some ⟨gs, 0, none⟩) ms cs))
        have GF := Lib.hid (grown_filZ G19.out (Nat.le_refl _) ⟨#[99, 111, 109]⟩ (.slice (some ⟨gs, 0, none⟩) ms cs))
        go_wp2
        exact bodyPost_ret (v := .agg #[.string ⟨#[99, 111, 109]⟩, .slice (some ⟨gs, 0, none⟩) ms cs]) (resZ1 rfl F.out rfl) rfl ⟨t, h, true, true, false, gs, ms, cs, HT.out, rfl, HM.out, MapK.own_mono OF.out BG.out, CF.out, GF.out⟩
    | false =>

      go_wp2_with fail
      refine (l1Once_any g 2 _ C11.out (by omega) (by omega)).mono ?_
      rintro e w20 ⟨bb, rfl, hc9, hg9⟩
      have C20 := Lib.hid hc9
      have G20 := Lib.hid (grown_trans G11.out hg9)
      have R20 := Lib.hid (R11.out.grown hg9 (fun e => by have h1 := GL.out; have h2 : w.heap.size = g := Option.some.inj e; omega))
      have O20 := Lib.hid (own_far O11.out hg9 (Nat.lt_succ_of_lt GL.out))
      have Z20 : Hid (w.heap.size < w20.heap.size) := Nat.lt_of_lt_of_le Z11.out hg9.size
      clear hc9 hg9 C11 G11 R11 O11 Z11
      cases bb with
      | true =>
        go_wp2_with fail
        refine (ZoneH.l10Addr ⟨#[98, 46, 97, 46, 99, 111, 109]⟩ 8 9 w20).mono ?_
        rintro e w21 ⟨rfl, hl⟩
        have C21 := Lib.hid (cur_below C20.out hl)
        have G21 := Lib.hid (grown_below G20.out hl)
        have R21 := Lib.hid (R20.out.below hl R20.out.lt)
        have Z21 : Hid (w.heap.size < w21.heap.size) := Nat.lt_of_lt_of_le Z20.out hl.size
        have O21 := Lib.hid (own_below O20.out hl)
        clear hl C20 G20 R20 Z20 O20
        have B22 : Hid (Bk (w21.alloc (.cells #[.string ⟨#[116, 46, 99, 111, 109]⟩, .int .i64 16, .int .i64 7, .int .i64 0, .string ⟨#[]⟩, .string ⟨#[104, 105]⟩, .string ⟨#[98, 46, 97, 46, 99, 111, 109]⟩, .int .i64 1, .int .i64 9, .int .i64 8, .string ⟨#[]⟩, .string ⟨#[]⟩] 56)) w21.heap.size 56 (fl [(Rec.mk ⟨#[116, 46, 99, 111, 109]⟩ 16 7 0 ⟨#[]⟩ ⟨#[104, 105]⟩), (Rec.mk ⟨#[98, 46, 97, 46, 99, 111, 109]⟩ 1 9 8 ⟨#[]⟩ ⟨#[]⟩)])) := heap_alloc_new w21 _
        have C22 := Lib.hid (C21.out.alloc (.cells #[.string ⟨#[116, 46, 99, 111, 109]⟩, .int .i64 16, .int .i64 7, .int .i64 0, .string ⟨#[]⟩, .string ⟨#[104, 105]⟩, .string ⟨#[98, 46, 97, 46, 99, 111, 109]⟩, .int .i64 1, .int .i64 9, .int .i64 8, .string ⟨#[]⟩, .string ⟨#[]⟩] 56))
        have G22 := Lib.hid (grown_trans G21.out (World.grownBy_alloc w21 (.cells #[.string ⟨#[116, 46, 99, 111, 109]⟩, .int .i64 16, .int .i64 7, .int .i64 0, .string ⟨#[]⟩, .string ⟨#[104, 105]⟩, .string ⟨#[98, 46, 97, 46, 99, 111, 109]⟩, .int .i64 1, .int .i64 9, .int .i64 8, .string ⟨#[]⟩, .string ⟨#[]⟩] 56) (some g)))
        have R22 := Lib.hid (R21.out.alloc (.cells #[.string ⟨#[116, 46, 99, 111, 109]⟩, .int .i64 16, .int .i64 7, .int .i64 0, .string ⟨#[]⟩, .string ⟨#[104, 105]⟩, .string ⟨#[98, 46, 97, 46, 99, 111, 109]⟩, .int .i64 1, .int .i64 9, .int .i64 8, .string ⟨#[]⟩, .string ⟨#[]⟩] 56))
        have Z22 : Hid (w.heap.size < (w21.alloc (.cells #[.string ⟨#[116, 46, 99, 111, 109]⟩, .int .i64 16, .int .i64 7, .int .i64 0, .string ⟨#[]⟩, .string ⟨#[104, 105]⟩, .string ⟨#[98, 46, 97, 46, 99, 111, 109]⟩, .int .i64 1, .int .i64 9, .int .i64 8, .string ⟨#[]⟩, .string ⟨#[]⟩] 56)).heap.size) := by show _ < _; have := Z21.out; simp; omega
        have O22 := Lib.hid (O21.out.alloc (.cells #[.string ⟨#[116, 46, 99, 111, 109]⟩, .int .i64 16, .int .i64 7, .int .i64 0, .string ⟨#[]⟩, .string ⟨#[104, 105]⟩, .string ⟨#[98, 46, 97, 46, 99, 111, 109]⟩, .int .i64 1, .int .i64 9, .int .i64 8, .string ⟨#[]⟩, .string ⟨#[]⟩] 56))
        have S22 : Hid (Sr (w21.alloc (.cells #[.string ⟨#[116, 46, 99, 111, 109]⟩, .int .i64 16, .int .i64 7, .int .i64 0, .string ⟨#[]⟩, .string ⟨#[104, 105]⟩, .string ⟨#[98, 46, 97, 46, 99, 111, 109]⟩, .int .i64 1, .int .i64 9, .int .i64 8, .string ⟨#[]⟩, .string ⟨#[]⟩] 56)) (w21.alloc (.cells #[.string ⟨#[116, 46, 99, 111, 109]⟩, .int .i64 16, .int .i64 7, .int .i64 0, .string ⟨#[]⟩, .string ⟨#[104, 105]⟩, .string ⟨#[98, 46, 97, 46, 99, 111, 109]⟩, .int .i64 1, .int .i64 9, .int .i64 8, .string ⟨#[]⟩, .string ⟨#[]⟩] 56)).heap.size (some ⟨w21.heap.size, 0, none⟩) 2 [(Rec.mk ⟨#[116, 46, 99, 111, 109]⟩ 16 7 0 ⟨#[]⟩ ⟨#[104, 105]⟩), (Rec.mk ⟨#[98, 46, 97, 46, 99, 111, 109]⟩ 1 9 8 ⟨#[]⟩ ⟨#[]⟩)]) := bk_sr0 B22.out rfl
        go_wp2_with (at_builtin; refine AppR.append_recs (w := w21.alloc (.cells #[.string ⟨#[116, 46, 99, 111, 109]⟩, .int .i64 16, .int .i64 7, .int .i64 0, .string ⟨#[]⟩, .string ⟨#[104, 105]⟩, .string ⟨#[98, 46, 97, 46, 99, 111, 109]⟩, .int .i64 1, .int .i64 9, .int .i64 8, .string ⟨#[]⟩, .string ⟨#[]⟩] 56)) rfl (.tmp 32) (.tmp 35) rfl (w.heap.size + 1) gq10 5 cq10 (zb t h true false false) rfl O22.out w21.heap.size 0 2 2 _ [(Rec.mk ⟨#[116, 46, 99, 111, 109]⟩ 16 7 0 ⟨#[]⟩ ⟨#[104, 105]⟩), (Rec.mk ⟨#[98, 46, 97, 46, 99, 111, 109]⟩ 1 9 8 ⟨#[]⟩ ⟨#[]⟩)] rfl S22.out (by omega) (by omega) (by have := Z22.out; omega) ?_)
        intro gq23 cq23 w23 hown hgrow
        have O23 := Lib.hid hown
        have C23 := Lib.hid (cur_far C22.out O22.out hgrow (by have := GL.out; omega))
        have gge : w.heap.size + 1 ≤ gq10 := (O22.out.lt gq10 rfl).1
        have G23 := Lib.hid (grown_far G22.out hgrow (by omega))
        have R23 := Lib.hid (R22.out.grown hgrow (fun e => by have h2 : w.heap.size = gq10 := Option.some.inj e; omega))
        have Z23 : Hid (w.heap.size < w23.heap.size) := Nat.lt_of_lt_of_le Z22.out hgrow.size
        clear hown hgrow gge C22 G22 R22 Z22 O22 B22 S22 C21 G21 R21 Z21 O21
        have OE : Hid (w23.ownsRow (w.heap.size + 1) 56 6 (.slice (some ⟨gq23, 0, none⟩) 7 cq23) 7 (fl (zb t h true false true))) := O23.out
        clear O23
        have O23 := OE
        clear OE
        have SL : Hid (Sr w23 w23.heap.size (some ⟨gq23, 0, none⟩) 7 (zb t h true false true)) := own_sr O23.out
        go_wp2_with fail
        refine (UniqZ.spec gq23 0 7 cq23 (zb t h true false true) w23 SL.out (by omega) (fine HT.out true false true)).mono ?_
        rintro e w24 ⟨S, gs, ms, cs, hsrt, rfl, hlm, hown, hl⟩
        have hS : S = zs t h true false true := hsrt.unique (srt HT.out true false true)
        subst hS
        rw [thin HT.out] at hlm hown
        have HM := Lib.hid hlm
        have O24 := Lib.hid hown
        have C24 := Lib.hid (cur_below C23.out hl)
        have G24 := Lib.hid (grown_below G23.out hl)
        have R24 := Lib.hid (R23.out.below hl R23.out.lt)
        have NG : Hid (gs ≠ w.heap.size) := show _ ≠ _ from fun e => by have h1 := (O24.out.lt gs rfl).1; have h2 := Z23.out; omega
        have BG : Hid (w.heap.size ≤ w23.heap.size) := Nat.le_of_lt Z23.out
        clear hsrt hlm hown hl SL O23 C23 G23 R23 Z23
        have r0 : w24.cell? ⟨w.heap.size, 0, none⟩ = some (.string ⟨#[]⟩) := R24.out.cell 0
        have r1 : w24.cell? ⟨w.heap.size, 1, none⟩ = some (.slice none 0 0) := R24.out.cell 1
        have q0 := R24.out.free 0
        have q1 := R24.out.free 1
        have F := Lib.hid (filZ_bk R24.out ⟨#[99, 111, 109]⟩ (.slice (some ⟨gs, 0, none⟩) ms cs))
        have OF := Lib.hid (own_filZ O24.out NG.out ⟨#[99, 111, 109]⟩ (.slice (some ⟨gs, 0, none⟩) ms cs))
        have CF := Lib.hid (cur_filZ C24.out GL.out ⟨#[99, 111, 109]⟩ (.slice (some ⟨gs, 0, none⟩) ms cs))
        have GF := Lib.hid (grown_filZ G24.out (Nat.le_refl _) ⟨#[99, 111, 109]⟩ (.slice (some ⟨gs, 0, none⟩) ms cs))
        go_wp2
        exact bodyPost_ret (v := .agg #[.string ⟨#[99, 111, 109]⟩, .slice (some ⟨gs, 0, none⟩) ms cs]) (resZ1 rfl F.out rfl) rfl ⟨t, h, true, false, true, gs, ms, cs, HT.out, rfl, HM.out, MapK.own_mono OF.out BG.out, CF.out, GF.out⟩
      | false =>

        have SL : Hid (Sr w20 w20.heap.size (some ⟨gq10, 0, none⟩) 5 (zb t h true false false)) := own_sr O20.out
        go_wp2_with fail
        refine (UniqZ.spec gq10 0 5 cq10 (zb t h true false false) w20 SL.out (by omega) (fine HT.out true false false)).mono ?_
        rintro e w25 ⟨S, gs, ms, cs, hsrt, rfl, hlm, hown, hl⟩
        have hS : S = zs t h true false false := hsrt.unique (srt HT.out true false false)
        subst hS
        rw [thin HT.out] at hlm hown
        have HM := Lib.hid hlm
        have O25 := Lib.hid hown
        have C25 := Lib.hid (cur_below C20.out hl)
        have G25 := Lib.hid (grown_below G20.out hl)
        have R25 := Lib.hid (R20.out.below hl R20.out.lt)
        have NG : Hid (gs ≠ w.heap.size) := show _ ≠ _ from fun e => by have h1 := (O25.out.lt gs rfl).1; have h2 := Z20.out; omega
        have BG : Hid (w.heap.size ≤ w20.heap.size) := Nat.le_of_lt Z20.out
        clear hsrt hlm hown hl SL O20 C20 G20 R20 Z20
        have r0 : w25.cell? ⟨w.heap.size, 0, none⟩ = some (.string ⟨#[]⟩) := R25.out.cell 0
        have r1 : w25.cell? ⟨w.heap.size, 1, none⟩ = some (.slice none 0 0) := R25.out.cell 1
        have q0 := R25.out.free 0
        have q1 := R25.out.free 1
        have F := Lib.hid (filZ_bk R25.out ⟨#[99, 111, 109]⟩ (.slice (some ⟨gs, 0, none⟩) ms cs))
        have OF := Lib.hid (own_filZ O25.out NG.out ⟨#[99, 111, 109]⟩ (.slice (some ⟨gs, 0, none⟩) ms cs))
        have CF := Lib.hid (cur_filZ C25.out GL.out ⟨#[99, 111, 109]⟩ (.slice (some ⟨gs, 0, none⟩) ms cs))
        have GF := Lib.hid (grown_filZ G25.out (Nat.le_refl _) ⟨#[99, 111, 109]⟩ (.slice (some ⟨gs, 0, none⟩) ms cs))
        go_wp2
        exact bodyPost_ret (v := .agg #[.string ⟨#[99, 111, 109]⟩, .slice (some ⟨gs, 0, none⟩) ms cs]) (resZ1 rfl F.out rfl) rfl ⟨t, h, true, false, false, gs, ms, cs, HT.out, rfl, HM.out, MapK.own_mono OF.out BG.out, CF.out, GF.out⟩
  | false =>

    go_wp2_with fail
    refine (l1Once_any g 2 _ C6.out (by omega) (by omega)).mono ?_
    rintro e w26 ⟨bb, rfl, hc9, hg9⟩
    have C26 := Lib.hid hc9
    have G26 := Lib.hid (grown_trans G6.out hg9)
    have R26 := Lib.hid (R6.out.grown hg9 (fun e => by have h1 := GL.out; have h2 : w.heap.size = g := Option.some.inj e; omega))
    have O26 := Lib.hid (own_far O6.out hg9 (Nat.lt_succ_of_lt GL.out))
    have Z26 : Hid (w.heap.size < w26.heap.size) := Nat.lt_of_lt_of_le Z6.out hg9.size
    clear hc9 hg9 C6 G6 R6 O6 Z6
    cases bb with
    | true =>
      have B27 : Hid (Bk (w26.alloc (.cells #[.string ⟨#[119, 119, 119, 46, 99, 111, 109]⟩, .int .i64 5, .int .i64 9, .int .i64 0, .string ⟨#[97, 46, 111, 114, 103]⟩, .string ⟨#[]⟩] 56)) w26.heap.size 56 (fl [(Rec.mk ⟨#[119, 119, 119, 46, 99, 111, 109]⟩ 5 9 0 ⟨#[97, 46, 111, 114, 103]⟩ ⟨#[]⟩)])) := heap_alloc_new w26 _
      have C27 := Lib.hid (C26.out.alloc (.cells #[.string ⟨#[119, 119, 119, 46, 99, 111, 109]⟩, .int .i64 5, .int .i64 9, .int .i64 0, .string ⟨#[97, 46, 111, 114, 103]⟩, .string ⟨#[]⟩] 56))
      have G27 := Lib.hid (grown_trans G26.out (World.grownBy_alloc w26 (.cells #[.string ⟨#[119, 119, 119, 46, 99, 111, 109]⟩, .int .i64 5, .int .i64 9, .int .i64 0, .string ⟨#[97, 46, 111, 114, 103]⟩, .string ⟨#[]⟩] 56) (some g)))
      have R27 := Lib.hid (R26.out.alloc (.cells #[.string ⟨#[119, 119, 119, 46, 99, 111, 109]⟩, .int .i64 5, .int .i64 9, .int .i64 0, .string ⟨#[97, 46, 111, 114, 103]⟩, .string ⟨#[]⟩] 56))
      have Z27 : Hid (w.heap.size < (w26.alloc (.cells #[.string ⟨#[119, 119, 119, 46, 99, 111, 109]⟩, .int .i64 5, .int .i64 9, .int .i64 0, .string ⟨#[97, 46, 111, 114, 103]⟩, .string ⟨#[]⟩] 56)).heap.size) := by show _ < _; have := Z26.out; simp; omega
      have O27 := Lib.hid (O26.out.alloc (.cells #[.string ⟨#[119, 119, 119, 46, 99, 111, 109]⟩, .int .i64 5, .int .i64 9, .int .i64 0, .string ⟨#[97, 46, 111, 114, 103]⟩, .string ⟨#[]⟩] 56))
      have S27 : Hid (Sr (w26.alloc (.cells #[.string ⟨#[119, 119, 119, 46, 99, 111, 109]⟩, .int .i64 5, .int .i64 9, .int .i64 0, .string ⟨#[97, 46, 111, 114, 103]⟩, .string ⟨#[]⟩] 56)) (w26.alloc (.cells #[.string ⟨#[119, 119, 119, 46, 99, 111, 109]⟩, .int .i64 5, .int .i64 9, .int .i64 0, .string ⟨#[97, 46, 111, 114, 103]⟩, .string ⟨#[]⟩] 56)).heap.size (some ⟨w26.heap.size, 0, none⟩) 1 [(Rec.mk ⟨#[119, 119, 119, 46, 99, 111, 109]⟩ 5 9 0 ⟨#[97, 46, 111, 114, 103]⟩ ⟨#[]⟩)]) := bk_sr0 B27.out rfl
      go_wp2_with (at_builtin; refine AppR.append_recs (w := w26.alloc (.cells #[.string ⟨#[119, 119, 119, 46, 99, 111, 109]⟩, .int .i64 5, .int .i64 9, .int .i64 0, .string ⟨#[97, 46, 111, 114, 103]⟩, .string ⟨#[]⟩] 56)) rfl (.tmp 26) (.tmp 28) rfl (w.heap.size + 1) gl 3 3 (zb t h false false false) rfl O27.out w26.heap.size 0 1 1 _ [(Rec.mk ⟨#[119, 119, 119, 46, 99, 111, 109]⟩ 5 9 0 ⟨#[97, 46, 111, 114, 103]⟩ ⟨#[]⟩)] rfl S27.out (by omega) (by omega) (by have := Z27.out; omega) ?_)
      intro gq28 cq28 w28 hown hgrow
      have O28 := Lib.hid hown
      have C28 := Lib.hid (cur_far C27.out O27.out hgrow (by have := GL.out; omega))
      have gge : w.heap.size + 1 ≤ gl := (O27.out.lt gl rfl).1
      have G28 := Lib.hid (grown_far G27.out hgrow (by omega))
      have R28 := Lib.hid (R27.out.grown hgrow (fun e => by have h2 : w.heap.size = gl := Option.some.inj e; omega))
      have Z28 : Hid (w.heap.size < w28.heap.size) := Nat.lt_of_lt_of_le Z27.out hgrow.size
      clear hown hgrow gge C27 G27 R27 Z27 O27 B27 S27 C26 G26 R26 Z26 O26
      have OE : Hid (w28.ownsRow (w.heap.size + 1) 56 6 (.slice (some ⟨gq28, 0, none⟩) 4 cq28) 4 (fl (zb t h false true false))) := O28.out
      clear O28
      have O28 := OE
      clear OE
      go_wp2_with fail
      refine (l1Once_any g 2 _ C28.out (by omega) (by omega)).mono ?_
      rintro e w29 ⟨bb, rfl, hc9, hg9⟩
      have C29 := Lib.hid hc9
      have G29 := Lib.hid (grown_trans G28.out hg9)
      have R29 := Lib.hid (R28.out.grown hg9 (fun e => by have h1 := GL.out; have h2 : w.heap.size = g := Option.some.inj e; omega))
      have O29 := Lib.hid (own_far O28.out hg9 (Nat.lt_succ_of_lt GL.out))
      have Z29 : Hid (w.heap.size < w29.heap.size) := Nat.lt_of_lt_of_le Z28.out hg9.size
      clear hc9 hg9 C28 G28 R28 O28 Z28
      cases bb with
      | true =>
        go_wp2_with fail
        refine (ZoneH.l10Addr ⟨#[98, 46, 97, 46, 99, 111, 109]⟩ 8 9 w29).mono ?_
        rintro e w30 ⟨rfl, hl⟩
        have C30 := Lib.hid (cur_below C29.out hl)
        have G30 := Lib.hid (grown_below G29.out hl)
        have R30 := Lib.hid (R29.out.below hl R29.out.lt)
        have Z30 : Hid (w.heap.size < w30.heap.size) := Nat.lt_of_lt_of_le Z29.out hl.size
        have O30 := Lib.hid (own_below O29.out hl)
        clear hl C29 G29 R29 Z29 O29
        have B31 : Hid (Bk (w30.alloc (.cells #[.string ⟨#[116, 46, 99, 111, 109]⟩, .int .i64 16, .int .i64 7, .int .i64 0, .string ⟨#[]⟩, .string ⟨#[104, 105]⟩, .string ⟨#[98, 46, 97, 46, 99, 111, 109]⟩, .int .i64 1, .int .i64 9, .int .i64 8, .string ⟨#[]⟩, .string ⟨#[]⟩] 56)) w30.heap.size 56 (fl [(Rec.mk ⟨#[116, 46, 99, 111, 109]⟩ 16 7 0 ⟨#[]⟩ ⟨#[104, 105]⟩), (Rec.mk ⟨#[98, 46, 97, 46, 99, 111, 109]⟩ 1 9 8 ⟨#[]⟩ ⟨#[]⟩)])) := heap_alloc_new w30 _
        have C31 := Lib.hid (C30.out.alloc (.cells #[.string ⟨#[116, 46, 99, 111, 109]⟩, .int .i64 16, .int .i64 7, .int .i64 0, .string ⟨#[]⟩, .string ⟨#[104, 105]⟩, .string ⟨#[98, 46, 97, 46, 99, 111, 109]⟩, .int .i64 1, .int .i64 9, .int .i64 8, .string ⟨#[]⟩, .string ⟨#[]⟩] 56))
        have G31 := Lib.hid (grown_trans G30.out (World.grownBy_alloc w30 (.cells #[.string ⟨#[116, 46, 99, 111, 109]⟩, .int .i64 16, .int .i64 7, .int .i64 0, .string ⟨#[]⟩, .string ⟨#[104, 105]⟩, .string ⟨#[98, 46, 97, 46, 99, 111, 109]⟩, .int .i64 1, .int .i64 9, .int .i64 8, .string ⟨#[]⟩, .string ⟨#[]⟩] 56) (some g)))
        have R31 := Lib.hid (R30.out.alloc (.cells #[.string ⟨#[116, 46, 99, 111, 109]⟩, .int .i64 16, .int .i64 7, .int .i64 0, .string ⟨#[]⟩, .string ⟨#[104, 105]⟩, .string ⟨#[98, 46, 97, 46, 99, 111, 109]⟩, .int .i64 1, .int .i64 9, .int .i64 8, .string ⟨#[]⟩, .string ⟨#[]⟩] 56))
        have Z31 : Hid (w.heap.size < (w30.alloc (.cells #[.string ⟨#[116, 46, 99, 111, 109]⟩, .int .i64 16, .int .i64 7, .int .i64 0, .string ⟨#[]⟩, .string ⟨#[104, 105]⟩, .string ⟨#[98, 46, 97, 46, 99, 111, 109]⟩, .int .i64 1, .int .i64 9, .int .i64 8, .string ⟨#[]⟩, .string ⟨#[]⟩] 56)).heap.size) := by show _ < _; have := Z30.out; simp; omega
        have O31 := Lib.hid (O30.out.alloc (.cells #[.string ⟨#[116, 46, 99, 111, 109]⟩, .int .i64 16, .int .i64 7, .int .i64 0, .string ⟨#[]⟩, .string ⟨#[104, 105]⟩, .string ⟨#[98, 46, 97, 46, 99, 111, 109]⟩, .int .i64 1, .int .i64 9, .int .i64 8, .string ⟨#[]⟩, .string ⟨#[]⟩] 56))
        have S31 : Hid (Sr (w30.alloc (.cells #[.string ⟨#[116, 46, 99, 111, 109]⟩, .int .i64 16, .int .i64 7, .int .i64 0, .string ⟨#[]⟩, .string ⟨#[104, 105]⟩, .string ⟨#[98, 46, 97, 46, 99, 111, 109]⟩, .int .i64 1, .int .i64 9, .int .i64 8, .string ⟨#[]⟩, .string ⟨#[]⟩] 56)) (w30.alloc (.cells #[.string ⟨#[116, 46, 99, 111, 109]⟩, .int .i64 16, .int .i64 7, .int .i64 0, .string ⟨#[]⟩, .string ⟨#[104, 105]⟩, .string ⟨#[98, 46, 97, 46, 99, 111, 109]⟩, .int .i64 1, .int .i64 9, .int .i64 8, .string ⟨#[]⟩, .string ⟨#[]⟩] 56)).heap.size (some ⟨w30.heap.size, 0, none⟩) 2 [(Rec.mk ⟨#[116, 46, 99, 111, 109]⟩ 16 7 0 ⟨#[]⟩ ⟨#[104, 105]⟩), (Rec.mk ⟨#[98, 46, 97, 46, 99, 111, 109]⟩ 1 9 8 ⟨#[]⟩ ⟨#[]⟩)]) := bk_sr0 B31.out rfl
        go_wp2_with (at_builtin; refine AppR.append_recs (w := w30.alloc (.cells #[.string ⟨#[116, 46, 99, 111, 109]⟩, .int .i64 16, .int .i64 7, .int .i64 0, .string ⟨#[]⟩, .string ⟨#[104, 105]⟩, .string ⟨#[98, 46, 97, 46, 99, 111, 109]⟩, .int .i64 1, .int .i64 9, .int .i64 8, .string ⟨#[]⟩, .string ⟨#[]⟩] 56)) rfl (.tmp 32) (.tmp 35) rfl (w.heap.size + 1) gq28 4 cq28 (zb t h false true false) rfl O31.out w30.heap.size 0 2 2 _ [(Rec.mk ⟨#[116, 46, 99, 111, 109]⟩ 16 7 0 ⟨#[]⟩ ⟨#[104, 105]⟩), (Rec.mk ⟨#[98, 46, 97, 46, 99, 111, 109]⟩ 1 9 8 ⟨#[]⟩ ⟨#[]⟩)] rfl S31.out (by omega) (by omega) (by have := Z31.out; omega) ?_)
        intro gq32 cq32 w32 hown hgrow
        have O32 := Lib.hid hown
        have C32 := Lib.hid (cur_far C31.out O31.out hgrow (by have := GL.out; omega))
        have gge : w.heap.size + 1 ≤ gq28 := (O31.out.lt gq28 rfl).1
        have G32 := Lib.hid (grown_far G31.out hgrow (by omega))
        have R32 := Lib.hid (R31.out.grown hgrow (fun e => by have h2 : w.heap.size = gq28 := Option.some.inj e; omega))
        have Z32 : Hid (w.heap.size < w32.heap.size) := Nat.lt_of_lt_of_le Z31.out hgrow.size
        clear hown hgrow gge C31 G31 R31 Z31 O31 B31 S31 C30 G30 R30 Z30 O30
        have OE : Hid (w32.ownsRow (w.heap.size + 1) 56 6 (.slice (some ⟨gq32, 0, none⟩) 6 cq32) 6 (fl (zb t h false true true))) := O32.out
        clear O32
        have O32 := OE
        clear OE
        have SL : Hid (Sr w32 w32.heap.size (some ⟨gq32, 0, none⟩) 6 (zb t h false true true)) := own_sr O32.out
        go_wp2_with fail
        refine (UniqZ.spec gq32 0 6 cq32 (zb t h false true true) w32 SL.out (by omega) (fine HT.out false true true)).mono ?_
        rintro e w33 ⟨S, gs, ms, cs, hsrt, rfl, hlm, hown, hl⟩
        have hS : S = zs t h false true true := hsrt.unique (srt HT.out false true true)
        subst hS
        rw [thin HT.out] at hlm hown
        have HM := Lib.hid hlm
        have O33 := Lib.hid hown
        have C33 := Lib.hid (cur_below C32.out hl)
        have G33 := Lib.hid (grown_below G32.out hl)
        have R33 := Lib.hid (R32.out.below hl R32.out.lt)
        have NG : Hid (gs ≠ w.heap.size) := show _ ≠ _ from fun e => by have h1 := (O33.out.lt gs rfl).1; have h2 := Z32.out; omega
        have BG : Hid (w.heap.size ≤ w32.heap.size) := Nat.le_of_lt Z32.out
        clear hsrt hlm hown hl SL O32 C32 G32 R32 Z32
        have r0 : w33.cell? ⟨w.heap.size, 0, none⟩ = some (.string ⟨#[]⟩) := R33.out.cell 0
        have r1 : w33.cell? ⟨w.heap.size, 1, none⟩ = some (.slice none 0 0) := R33.out.cell 1
        have q0 := R33.out.free 0
        have q1 := R33.out.free 1
        have F := Lib.hid (filZ_bk R33.out ⟨#[99, 111, 109]⟩ (.slice (some ⟨gs, 0, none⟩) ms cs))
        have OF := Lib.hid (own_filZ O33.out NG.out ⟨#[99, 111, 109]⟩ (.slice (some ⟨gs, 0, none⟩) ms cs))
        have CF := Lib.hid (cur_filZ C33.out GL.out ⟨#[99, 111, 109]⟩ (.slice (some ⟨gs, 0, none⟩) ms cs))
        have GF := Lib.hid (grown_filZ G33.out (Nat.le_refl _) ⟨#[99, 111, 109]⟩ (.slice (some ⟨gs, 0, none⟩) ms cs))
        go_wp2
        exact bodyPost_ret (v := .agg #[.string ⟨#[99, 111, 109]⟩, .slice (some ⟨gs, 0, none⟩) ms cs]) (resZ1 rfl F.out rfl) rfl ⟨t, h, false, true, true, gs, ms, cs, HT.out, rfl, HM.out, MapK.own_mono OF.out BG.out, CF.out, GF.out⟩
      | false =>

        have SL : Hid (Sr w29 w29.heap.size (some ⟨gq28, 0, none⟩) 4 (zb t h false true false)) := own_sr O29.out
        go_wp2_with fail
        refine (UniqZ.spec gq28 0 4 cq28 (zb t h false true false) w29 SL.out (by omega) (fine HT.out false true false)).mono ?_
        rintro e w34 ⟨S, gs, ms, cs, hsrt, rfl, hlm, hown, hl⟩
        have hS : S = zs t h false true false := hsrt.unique (srt HT.out false true false)
        subst hS
        rw [thin HT.out] at hlm hown
        have HM := Lib.hid hlm
        have O34 := Lib.hid hown
        have C34 := Lib.hid (cur_below C29.out hl)
        have G34 := Lib.hid (grown_below G29.out hl)
        have R34 := Lib.hid (R29.out.below hl R29.out.lt)
        have NG : Hid (gs ≠ w.heap.size) := show _ ≠ _ from fun e => by have h1 := (O34.out.lt gs rfl).1; have h2 := Z29.out; omega
        have BG : Hid (w.heap.size ≤ w29.heap.size) := Nat.le_of_lt Z29.out
        clear hsrt hlm hown hl SL O29 C29 G29 R29 Z29
        have r0 : w34.cell? ⟨w.heap.size, 0, none⟩ = some (.string ⟨#[]⟩) := R34.out.cell 0
        have r1 : w34.cell? ⟨w.heap.size, 1, none⟩ = some (.slice none 0 0) := R34.out.cell 1
        have q0 := R34.out.free 0
        have q1 := R34.out.free 1
        have F := Lib.hid (filZ_bk R34.out ⟨#[99, 111, 109]⟩ (.slice (some ⟨gs, 0, none⟩) ms cs))
        have OF := Lib.hid (own_filZ O34.out NG.out ⟨#[99, 111, 109]⟩ (.slice (some ⟨gs, 0, none⟩) ms cs))
        have CF := Lib.hid (cur_filZ C34.out GL.out ⟨#[99, 111, 109]⟩ (.slice (some ⟨gs, 0, none⟩) ms cs))
        have GF := Lib.hid (grown_filZ G34.out (Nat.le_refl _) ⟨#[99, 111, 109]⟩ (.slice (some ⟨gs, 0, none⟩) ms cs))
        go_wp2
        exact bodyPost_ret (v := .agg #[.string ⟨#[99, 111, 109]⟩, .slice (some ⟨gs, 0, none⟩) ms cs]) (resZ1 rfl F.out rfl) rfl ⟨t, h, false, true, false, gs, ms, cs, HT.out, rfl, HM.out, MapK.own_mono OF.out BG.out, CF.out, GF.out⟩
    | false =>

      go_wp2_with fail
      refine (l1Once_any g 2 _ C26.out (by omega) (by omega)).mono ?_
      rintro e w35 ⟨bb, rfl, hc9, hg9⟩
      have C35 := Lib.hid hc9
      have G35 := Lib.hid (grown_trans G26.out hg9)
      have R35 := Lib.hid (R26.out.grown hg9 (fun e => by have h1 := GL.out; have h2 : w.heap.size = g := Option.some.inj e; omega))
      have O35 := Lib.hid (own_far O26.out hg9 (Nat.lt_succ_of_lt GL.out))
      have Z35 : Hid (w.heap.size < w35.heap.size) := Nat.lt_of_lt_of_le Z26.out hg9.size
      clear hc9 hg9 C26 G26 R26 O26 Z26
      cases bb with
      | true =>
        go_wp2_with fail
        refine (ZoneH.l10Addr ⟨#[98, 46, 97, 46, 99, 111, 109]⟩ 8 9 w35).mono ?_
        rintro e w36 ⟨rfl, hl⟩
        have C36 := Lib.hid (cur_below C35.out hl)
        have G36 := Lib.hid (grown_below G35.out hl)
        have R36 := Lib.hid (R35.out.below hl R35.out.lt)
        have Z36 : Hid (w.heap.size < w36.heap.size) := Nat.lt_of_lt_of_le Z35.out hl.size
        have O36 := Lib.hid (own_below O35.out hl)
        clear hl C35 G35 R35 Z35 O35
        have B37 : Hid (Bk (w36.alloc (.cells #[.string ⟨#[116, 46, 99, 111, 109]⟩, .int .i64 16, .int .i64 7, .int .i64 0, .string ⟨#[]⟩, .string ⟨#[104, 105]⟩, .string ⟨#[98, 46, 97, 46, 99, 111, 109]⟩, .int .i64 1, .int .i64 9, .int .i64 8, .string ⟨#[]⟩, .string ⟨#[]⟩] 56)) w36.heap.size 56 (fl [(Rec.mk ⟨#[116, 46, 99, 111, 109]⟩ 16 7 0 ⟨#[]⟩ ⟨#[104, 105]⟩), (Rec.mk ⟨#[98, 46, 97, 46, 99, 111, 109]⟩ 1 9 8 ⟨#[]⟩ ⟨#[]⟩)])) := heap_alloc_new w36 _
        have C37 := Lib.hid (C36.out.alloc (.cells #[.string ⟨#[116, 46, 99, 111, 109]⟩, .int .i64 16, .int .i64 7, .int .i64 0, .string ⟨#[]⟩, .string ⟨#[104, 105]⟩, .string ⟨#[98, 46, 97, 46, 99, 111, 109]⟩, .int .i64 1, .int .i64 9, .int .i64 8, .string ⟨#[]⟩, .string ⟨#[]⟩] 56))
        have G37 := Lib.hid (grown_trans G36.out (World.grownBy_alloc w36 (.cells #[.string ⟨#[116, 46, 99, 111, 109]⟩, .int .i64 16, .int .i64 7, .int .i64 0, .string ⟨#[]⟩, .string ⟨#[104, 105]⟩, .string ⟨#[98, 46, 97, 46, 99, 111, 109]⟩, .int .i64 1, .int .i64 9, .int .i64 8, .string ⟨#[]⟩, .string ⟨#[]⟩] 56) (some g)))
        have R37 := Lib.hid (R36.out.alloc (.cells #[.string ⟨#[116, 46, 99, 111, 109]⟩, .int .i64 16, .int .i64 7, .int .i64 0, .string ⟨#[]⟩, .string ⟨#[104, 105]⟩, .string ⟨#[98, 46, 97, 46, 99, 111, 109]⟩, .int .i64 1, .int .i64 9, .int .i64 8, .string ⟨#[]⟩, .string ⟨#[]⟩] 56))
        have Z37 : Hid (w.heap.size < (w36.alloc (.cells #[.string ⟨#[116, 46, 99, 111, 109]⟩, .int .i64 16, .int .i64 7, .int .i64 0, .string ⟨#[]⟩, .string ⟨#[104, 105]⟩, .string ⟨#[98, 46, 97, 46, 99, 111, 109]⟩, .int .i64 1, .int .i64 9, .int .i64 8, .string ⟨#[]⟩, .string ⟨#[]⟩] 56)).heap.size) := by show _ < _; have := Z36.out; simp; omega
        have O37 := Lib.hid (O36.out.alloc (.cells #[.string ⟨#[116, 46, 99, 111, 109]⟩, .int .i64 16, .int .i64 7, .int .i64 0, .string ⟨#[]⟩, .string ⟨#[104, 105]⟩, .string ⟨#[98, 46, 97, 46, 99, 111, 109]⟩, .int .i64 1, .int .i64 9, .int .i64 8, .string ⟨#[]⟩, .string ⟨#[]⟩] 56))
        have S37 : Hid (Sr (w36.alloc (.cells #[.string ⟨#[116, 46, 99, 111, 109]⟩, .int .i64 16, .int .i64 7, .int .i64 0, .string ⟨#[]⟩, .string ⟨#[104, 105]⟩, .string ⟨#[98, 46, 97, 46, 99, 111, 109]⟩, .int .i64 1, .int .i64 9, .int .i64 8, .string ⟨#[]⟩, .string ⟨#[]⟩] 56)) (w36.alloc (.cells #[.string ⟨#[116, 46, 99, 111, 109]⟩, .int .i64 16, .int .i64 7, .int .i64 0, .string ⟨#[]⟩, .string ⟨#[104, 105]⟩, .string ⟨#[98, 46, 97, 46, 99, 111, 109]⟩, .int .i64 1, .int .i64 9, .int .i64 8, .string ⟨#[]⟩, .string ⟨#[]⟩] 56)).heap.size (some ⟨w36.heap.size, 0, none⟩) 2 [(Rec.mk ⟨#[116, 46, 99, 111, 109]⟩ 16 7 0 ⟨#[]⟩ ⟨#[104, 105]⟩), (Rec.mk ⟨#[98, 46, 97, 46, 99, 111, 109]⟩ 1 9 8 ⟨#[]⟩ ⟨#[]⟩)]) := bk_sr0 B37.out rfl
        go_wp2_with (at_builtin; refine AppR.append_recs (w := w36.alloc (.cells #[.string ⟨#[116, 46, 99, 111, 109]⟩, .int .i64 16, .int .i64 7, .int .i64 0, .string ⟨#[]⟩, .string ⟨#[104, 105]⟩, .string ⟨#[98, 46, 97, 46, 99, 111, 109]⟩, .int .i64 1, .int .i64 9, .int .i64 8, .string ⟨#[]⟩, .string ⟨#[]⟩] 56)) rfl (.tmp 32) (.tmp 35) rfl (w.heap.size + 1) gl 3 3 (zb t h false false false) rfl O37.out w36.heap.size 0 2 2 _ [(Rec.mk ⟨#[116, 46, 99, 111, 109]⟩ 16 7 0 ⟨#[]⟩ ⟨#[104, 105]⟩), (Rec.mk ⟨#[98, 46, 97, 46, 99, 111, 109]⟩ 1 9 8 ⟨#[]⟩ ⟨#[]⟩)] rfl S37.out (by omega) (by omega) (by have := Z37.out; omega) ?_)
        intro gq38 cq38 w38 hown hgrow
        have O38 := Lib.hid hown
        have C38 := Lib.hid (cur_far C37.out O37.out hgrow (by have := GL.out; omega))
        have gge : w.heap.size + 1 ≤ gl := (O37.out.lt gl rfl).1
        have G38 := Lib.hid (grown_far G37.out hgrow (by omega))
        have R38 := Lib.hid (R37.out.grown hgrow (fun e => by have h2 : w.heap.size = gl := Option.some.inj e; omega))
        have Z38 : Hid (w.heap.size < w38.heap.size) := Nat.lt_of_lt_of_le Z37.out hgrow.size
        clear hown hgrow gge C37 G37 R37 Z37 O37 B37 S37 C36 G36 R36 Z36 O36
        have OE : Hid (w38.ownsRow (w.heap.size + 1) 56 6 (.slice (some ⟨gq38, 0, none⟩) 5 cq38) 5 (fl (zb t h false false true))) := O38.out
        clear O38
        have O38 := OE
        clear OE
        have SL : Hid (Sr w38 w38.heap.size (some ⟨gq38, 0, none⟩) 5 (zb t h false false true)) := own_sr O38.out
        go_wp2_with fail
        refine (UniqZ.spec gq38 0 5 cq38 (zb t h false false true) w38 SL.out (by omega) (fine HT.out false false true)).mono ?_
        rintro e w39 ⟨S, gs, ms, cs, hsrt, rfl, hlm, hown, hl⟩
        have hS : S = zs t h false false true := hsrt.unique (srt HT.out false false true)
        subst hS
        rw [thin HT.out] at hlm hown
        have HM := Lib.hid hlm
        have O39 := Lib.hid hown
        have C39 := Lib.hid (cur_below C38.out hl)
        have G39 := Lib.hid (grown_below G38.out hl)
        have R39 := Lib.hid (R38.out.below hl R38.out.lt)
        have NG : Hid (gs ≠ w.heap.size) := show _ ≠ _ from fun e => by have h1 := (O39.out.lt gs rfl).1; have h2 := Z38.out; omega
        have BG : Hid (w.heap.size ≤ w38.heap.size) := Nat.le_of_lt Z38.out
        clear hsrt hlm hown hl SL O38 C38 G38 R38 Z38
        have r0 : w39.cell? ⟨w.heap.size, 0, none⟩ = some (.string ⟨#[]⟩) := R39.out.cell 0
        have r1 : w39.cell? ⟨w.heap.size, 1, none⟩ = some (.slice none 0 0) := R39.out.cell 1
        have q0 := R39.out.free 0
        have q1 := R39.out.free 1
        have F := Lib.hid (filZ_bk R39.out ⟨#[99, 111, 109]⟩ (.slice (some ⟨gs, 0, none⟩) ms cs))
        have OF := Lib.hid (own_filZ O39.out NG.out ⟨#[99, 111, 109]⟩ (.slice (some ⟨gs, 0, none⟩) ms cs))
        have CF := Lib.hid (cur_filZ C39.out GL.out ⟨#[99, 111, 109]⟩ (.slice (some ⟨gs, 0, none⟩) ms cs))
        have GF := Lib.hid (grown_filZ G39.out (Nat.le_refl _) ⟨#[99, 111, 109]⟩ (.slice (some ⟨gs, 0, none⟩) ms cs))
        go_wp2
        exact bodyPost_ret (v := .agg #[.string ⟨#[99, 111, 109]⟩, .slice (some ⟨gs, 0, none⟩) ms cs]) (resZ1 rfl F.out rfl) rfl ⟨t, h, false, false, true, gs, ms, cs, HT.out, rfl, HM.out, MapK.own_mono OF.out BG.out, CF.out, GF.out⟩
      | false =>

        have SL : Hid (Sr w35 w35.heap.size (some ⟨gl, 0, none⟩) 3 (zb t h false false false)) := own_sr O35.out
        go_wp2_with fail
        refine (UniqZ.spec gl 0 3 3 (zb t h false false false) w35 SL.out (by omega) (fine HT.out false false false)).mono ?_
        rintro e w40 ⟨S, gs, ms, cs, hsrt, rfl, hlm, hown, hl⟩
        have hS : S = zs t h false false false := hsrt.unique (srt HT.out false false false)
        subst hS
        rw [thin HT.out] at hlm hown
        have HM := Lib.hid hlm
        have O40 := Lib.hid hown
        have C40 := Lib.hid (cur_below C35.out hl)
        have G40 := Lib.hid (grown_below G35.out hl)
        have R40 := Lib.hid (R35.out.below hl R35.out.lt)
        have NG : Hid (gs ≠ w.heap.size) := show _ ≠ _ from fun e => by have h1 := (O40.out.lt gs rfl).1; have h2 := Z35.out; omega
        have BG : Hid (w.heap.size ≤ w35.heap.size) := Nat.le_of_lt Z35.out
        clear hsrt hlm hown hl SL O35 C35 G35 R35 Z35
        have r0 : w40.cell? ⟨w.heap.size, 0, none⟩ = some (.string ⟨#[]⟩) := R40.out.cell 0
        have r1 : w40.cell? ⟨w.heap.size, 1, none⟩ = some (.slice none 0 0) := R40.out.cell 1
        have q0 := R40.out.free 0
        have q1 := R40.out.free 1
        have F := Lib.hid (filZ_bk R40.out ⟨#[99, 111, 109]⟩ (.slice (some ⟨gs, 0, none⟩) ms cs))
        have OF := Lib.hid (own_filZ O40.out NG.out ⟨#[99, 111, 109]⟩ (.slice (some ⟨gs, 0, none⟩) ms cs))
        have CF := Lib.hid (cur_filZ C40.out GL.out ⟨#[99, 111, 109]⟩ (.slice (some ⟨gs, 0, none⟩) ms cs))
        have GF := Lib.hid (grown_filZ G40.out (Nat.le_refl _) ⟨#[99, 111, 109]⟩ (.slice (some ⟨gs, 0, none⟩) ms cs))
        go_wp2
        exact bodyPost_ret (v := .agg #[.string ⟨#[99, 111, 109]⟩, .slice (some ⟨gs, 0, none⟩) ms cs]) (resZ1 rfl F.out rfl) rfl ⟨t, h, false, false, false, gs, ms, cs, HT.out, rfl, HM.out, MapK.own_mono OF.out BG.out, CF.out, GF.out⟩

end Go.Proofs.Ytjgmocmaeadjdaa.ZoneD

/- What the model's draws of a name and of a zone with a question do: nothing that was there is turned. -/
namespace Go.Proofs.Ytjgmocmaeadjdaa.DrawZ
open Go.RowKit Go.Proofs.Ytjgmocmaeadjdaa.Mem Go.Proofs.Ytjgmocmaeadjdaa.MemR Go.Proofs.Ytjgmocmaeadjdaa.MemZ Go.Proofs.Ytjgmocmaeadjdaa.BoxR Go.Proofs.Ytjgmocmaeadjdaa.ResR Go.Proofs.Ytjgmocmaeadjdaa.ResZ Go.Proofs.Ytjgmocmaeadjdaa.Draw Go.Proofs.Ytjgmocmaeadjdaa.DrawS Go.Proofs.Ytjgmocmaeadjdaa.DrawL Go.Proofs.Ytjgmocmaeadjdaa.DrawN Go.Proofs.Ytjgmocmaeadjdaa.DrawR Go.Proofs.Ytjgmocmaeadjdaa.ZoneL Go.Proofs.Ytjgmocmaeadjdaa.ZoneV Go.Proofs.Ytjgmocmaeadjdaa.ZoneD

def znames : List ByteArray := [⟨#[]⟩, ⟨#[99, 111, 109]⟩, ⟨#[110, 115, 46, 99, 111, 109]⟩, ⟨#[101, 120, 46, 99, 111, 109]⟩, ⟨#[119, 119, 119, 46, 101, 120, 46, 99, 111, 109]⟩, ⟨#[110, 115, 46, 101, 120, 46, 99, 111, 109]⟩, ⟨#[119, 119, 119, 46, 99, 111, 109]⟩, ⟨#[116, 46, 99, 111, 109]⟩, ⟨#[97, 46, 99, 111, 109]⟩, ⟨#[98, 46, 97, 46, 99, 111, 109]⟩, ⟨#[110, 111, 46, 99, 111, 109]⟩, ⟨#[111, 114, 103]⟩]

theorem znames_short : ∀ x ∈ znames, Short x := all_short _ (by decide)

set_option maxHeartbeats 1000000 in
theorem l10Name_any (g : Nat) (w : World) (hc : Cur w g) : Calls Try.prog 46 #[.pointer (some ⟨g, 0, none⟩)] w (Txt w g Short) := by
  have HC := Lib.hid hc
  clear hc
  go_enter Try.func46, Try.ntmps46
  go_wp2_with fail
  refine (l1Str_any g w.heap.size 12 znames _ (HC.out.alloc _) (bk_texts w znames _ rfl) (Nat.ne_of_gt HC.out.lt) rfl (by omega) (by omega)).mono ?_
  rintro e w1 ⟨x, rfl, hx, hc1, hg1⟩
  have HX := Lib.hid (znames_short x hx)
  have HC1 := Lib.hid hc1
  have HG1 := Lib.hid (grown_trans (World.grownBy_alloc w _ (some g)) hg1)
  clear hc1 hg1 hx
  go_wp2
  go_ret
  exact ⟨x, rfl, HX.out, HC1.out, HG1.out⟩

/-- What is kept while a zone and a question are drawn. -/
def Dz (w : World) (g gz gk gb : Nat) (s : ByteArray) (x : Value) (base gl m cap : Nat) (L : List Rec) (v : World) : Prop :=
  (w.heap.size ≤ gz ∧ gz < gk ∧ gk < g ∧ g < base ∧ g < gb) ∧ Cur v g ∧ Below w.heap.size w v ∧ Bk v gz 26 (zc ⟨#[]⟩ (.slice none 0 0)) ∧ Bk v gk 28 [.string ⟨#[]⟩, .int .i64 0] ∧ Zx v gb s x ∧ v.ownsRow base 56 6 (.slice (some ⟨gl, 0, none⟩) m cap) m (fl L)

theorem Dz.step {w v v' : World} {g gz gk gb base gl m cap : Nat} {s : ByteArray} {x : Value} {L : List Rec} (h : Dz w g gz gk gb s x base gl m cap L v) (hc : Cur v' g) (hg : v.grownBy v' (some g)) : Dz w g gz gk gb s x base gl m cap L v' := by
  obtain ⟨⟨h1, h2, h3, h4, h5⟩, _, hb, k1, k2, k3, ko⟩ := h
  exact ⟨⟨h1, h2, h3, h4, h5⟩, hc, hb.grown hg hb.size (fun j hj => by cases hj; omega), k1.grown hg (fun e => by have := Option.some.inj e; omega), k2.grown hg (fun e => by have := Option.some.inj e; omega), k3.grown hg (fun e => by have := Option.some.inj e; omega), own_far ko hg h4⟩

/-- The call returned a zone that is drawn and a question, and turned nothing that was there. -/
def Zq (w : World) (e : Ending) (w' : World) : Prop :=
  ∃ (t h : Int) (a b c : Bool) (gl m cap : Nat) (nm : ByteArray) (ty : Int), (t, h) ∈ ts ∧ e = .returned (.tuple #[.agg #[.string ⟨#[99, 111, 109]⟩, .slice (some ⟨gl, 0, none⟩) m cap], .agg #[.string nm, .int .i64 ty]]) ∧ nm.size ≤ 20 ∧ (zs t h a b c).length = m ∧ Sr w' w'.heap.size (some ⟨gl, 0, none⟩) m (zs t h a b c) ∧ Below w.heap.size w w'

theorem own_sr2 {w : World} {base gl n cap : Nat} {L : List Rec} (h : w.ownsRow base 56 6 (.slice (some ⟨gl, 0, none⟩) n cap) n (fl L)) : Sr w w.heap.size (some ⟨gl, 0, none⟩) n L := own_sr h

/-- The box g filled with a question. -/
def filK (w : World) (g : Nat) (s : ByteArray) (n : Int) : World := (w.setCell ⟨g, 0, none⟩ (.string s)).setCell ⟨g, 1, none⟩ (.int .i64 n)

theorem ends {w v : World} {g gz gk gb base gl m cap : Nat} {s : ByteArray} {x : Value} {L : List Rec} (h : Dz w g gz gk gb s x base gl m cap L v) (nm : ByteArray) (ty : Int) :
    Bk (filK (filZ v gz s x) gk nm ty) gz 26 (zc s x) ∧ Bk (filK (filZ v gz s x) gk nm ty) gk 28 [.string nm, .int .i64 ty] ∧ Sr (filK (filZ v gz s x) gk nm ty) (filK (filZ v gz s x) gk nm ty).heap.size (some ⟨gl, 0, none⟩) m L ∧ Below w.heap.size w (filK (filZ v gz s x) gk nm ty) := by
  obtain ⟨⟨h1, h2, h3, h4, h5⟩, _, hb, k1, k2, k3, ko⟩ := h
  have lg : base ≤ gl := (ko.lt gl rfl).1
  have n1 : gk ≠ gz := by omega
  have n2 : gz ≠ gk := by omega
  have n3 : gl ≠ gz := by omega
  have n4 : gl ≠ gk := by omega
  have n5 : w.heap.size ≤ gk := by omega
  have b1 := filZ_bk k1 s x
  have b2 := filZ_other (g := gz) k2 n1 s x
  have l1 := filZ_below hb h1 s x
  have o1 := own_filZ (gz := gz) ko n3 s x
  unfold filK
  generalize filZ v gz s x = u at *
  have o2 := own_set (gb := gk) o1 n4 0 (.string nm)
  have e1 := b1.other (p := ⟨gk, 0, none⟩) n2 (.string nm)
  have f1 := b2.set 0 (.string nm)
  have l2 := l1.setCell (p := ⟨gk, 0, none⟩) n5 (.string nm)
  generalize u.setCell ⟨gk, 0, none⟩ (.string nm) = u2 at *
  exact ⟨e1.other (p := ⟨gk, 1, none⟩) n2 (.int .i64 ty), f1.set 1 (.int .i64 ty), own_sr (own_set (gb := gk) o2 n4 1 (.int .i64 ty)), l2.setCell (p := ⟨gk, 1, none⟩) n5 (.int .i64 ty)⟩

end Go.Proofs.Ytjgmocmaeadjdaa.DrawZ

/- What Glue does in the model: the addresses of the hosts, in their order. Condition: at most 1048576 records and as many hosts (so the result may have many more). -/
namespace Go.Proofs.Ytjgmocmaeadjdaa.GlueS
open Go.RowKit Go.Proofs.Ytjgmocmaeadjdaa.Mem Go.Proofs.Ytjgmocmaeadjdaa.MemR Go.Proofs.Ytjgmocmaeadjdaa.SetMath Go.Proofs.Ytjgmocmaeadjdaa.ZoneMath Go.Proofs.Ytjgmocmaeadjdaa.MemZ Go.Proofs.Ytjgmocmaeadjdaa.MemS Go.Proofs.Ytjgmocmaeadjdaa.AppR Go.Proofs.Ytjgmocmaeadjdaa.Wt

/-- append of records as one step of a region that draws, onto a row of the call's own. -/
theorem step_append_recs {ops : Array Oper} {o : Oper} {a : Act} {w : World} {K : Act → World → Prop} {Q : Exit → Act → World → Prop} {E : Prop} (hgd : o.guard = none) (s x : Operand)
    (ho : o.op = .call { callee := .builtin .append, args := #[s, x], argTypes := #[24, 24] })
    (base g n cap : Nat) (L : List Rec) (hs : a.eval s = .slice (some ⟨g, 0, none⟩) n cap) (hown : w.ownsRow base 56 6 (.slice (some ⟨g, 0, none⟩) n cap) n (fl L))
    (b off m c B : Nat) (l : List Rec) (hx : a.eval x = .slice (some ⟨b, off, none⟩) m c) (hl : Sr w B (some ⟨b, off, none⟩) m l)
    (hnm : n + m ≤ 1900000000000) (hbase : base ≤ w.heap.size)
    (h : ∀ g' cap' w', w'.ownsRow base 56 6 (.slice (some ⟨g', 0, none⟩) (n + m) cap') (n + m) (fl (L ++ l)) → w.grownBy w' (some g) → K (a.put o.dst (.slice (some ⟨g', 0, none⟩) (n + m) cap')) w') :
    if Region.wanted o (yielded ops a.tmps) = true then Oper.wp Try.prog o a w K Q else E := by
  have hw : Region.wanted o (yielded ops a.tmps) = true := by simp [Region.wanted, hgd]
  rw [if_pos hw]
  obtain ⟨i0, hi, hz0, hz1, hz2⟩ := info_parts CopyR.info
  exact wp_append_own w s x 24 ho base 56 i0 _ 6 72 Try.underlying24 hi hz0 hz1 hz2 rfl (by decide) _ n (fl L) hs hown ⟨b, off, none⟩ m c (fl l) hx (by rw [fl_len, hl.1]) (cells_of hl) (one_fl l) (by unfold maxLen; omega) (by omega) hbase
    (fun v' w' h1 h2 h3 => by
      rcases h1.2 with ⟨hv, _⟩ | ⟨g', cap', cur, hv, _⟩
      · have := (h3.1 hv).1
        cases this
      · subst hv
        exact h g' cap' w' (by rw [fl_append]; exact h1) h2)

section
variable {w0 w w' : World} {g : Nat} {s : ByteArray} {x v : Value} {p : Addr}
theorem keptH (m : (Zx w g s x ∧ w.cell? p = some v) ∧ Svz w0 w) (hl : Below w.heap.size w w') : (Zx w' g s x ∧ w'.cell? p = some v) ∧ Svz w0 w' := ⟨⟨m.1.1.below hl, (hl.cell (World.block_lt_of_cell? _ _ m.1.2)).trans m.1.2⟩, m.2.trans (hl.mono m.2.size)⟩
theorem keptH_draw (m : (Zx w g s x ∧ w.cell? p = some v) ∧ Svz w0 w) : (Zx w.drew g s x ∧ w.drew.cell? p = some v) ∧ Svz w0 w.drew := keptH m ((Below.refl _ _).drew)
end

set_option maxRecDepth 100000 in
set_option maxHeartbeats 8000000 in
theorem spec (s : ByteArray) (b0 o0 n c : Nat) (l : List Rec) (b1 o1 nh ch : Nat) (H : List ByteArray) (w : World) (hs : Sr w w.heap.size (some ⟨b0, o0, none⟩) n l) (hh : Ss w w.heap.size (some ⟨b1, o1, none⟩) nh H) (hn : n ≤ 1048576) (hnh : nh ≤ 1048576) :
    Calls Try.prog 37 #[.agg #[.string s, .slice (some ⟨b0, o0, none⟩) n c], .slice (some ⟨b1, o1, none⟩) nh ch] w (GivesL w (gl H l)) := by
  have Z0 := Lib.hid ((zx_new w 26 s (.slice (some ⟨b0, o0, none⟩) n c)).alloc (.cells #[] 56))
  have L0 := Lib.hid (((Below.refl w.heap.size w).alloc (Nat.le_refl _) (.cells #[.string s, .slice (some ⟨b0, o0, none⟩) n c] 26)).alloc (by simp) (.cells #[] 56))
  have P0 := Lib.hid (owns_new (w.alloc (.cells #[.string s, .slice (some ⟨b0, o0, none⟩) n c] 26)))
  rw [show (w.alloc (.cells #[.string s, .slice (some ⟨b0, o0, none⟩) n c] 26)).heap.size = w.heap.size + 1 by simp] at P0
  have HS := Lib.hid hs
  have HH := Lib.hid hh
  clear hs hh
  go_enter Try.func37, Try.ntmps37
  go_wp2
  generalize (w.alloc (.cells #[.string s, .slice (some ⟨b0, o0, none⟩) n c] 26)).alloc (.cells #[] 56) = w0 at *
  go_loopw [5, 6] (fun out i wr => ∃ k g m cap : Nat, k ≤ nh ∧ m ≤ k * n ∧ i = .int .i64 k ∧ out = .slice (some ⟨g, 0, none⟩) m cap ∧ Hid (wr.ownsRow (w.heap.size + 1) 56 6 (.slice (some ⟨g, 0, none⟩) m cap) m (fl (gl (H.take k) l))) ∧ Hid (Zx wr w.heap.size s (.slice (some ⟨b0, o0, none⟩) n c)) ∧ Hid (Below w.heap.size w wr)) (fun _ i _ => nh - (intOf i).toNat)
  case atStart => exact ⟨0, w.heap.size + 1, 0, 0, Nat.zero_le _, Nat.zero_le _, rfl, rfl, P0.out, Z0.out, L0.out⟩
  case round =>
    clear Z0 L0 P0
    obtain ⟨k, g, m, cap, hk, hm, rfl, rfl, HO, HX, HL⟩ := hrel
    by_cases hlt : k < nh
    · obtain ⟨b, off, hA, hbB, hcs⟩ := HH.out.2 (by omega)
      obtain ⟨rfl, rfl⟩ : b1 = b ∧ o1 = off := by simp at hA; exact hA
      clear hA
      have hkl : k < H.length := by rw [HH.out.1]; exact hlt
      have e0 : wr.cell? ⟨b1, o1 + k, none⟩ = some (.string H[k]) := (HL.out.cell (p := ⟨b1, o1 + k, none⟩) hbB).trans (hcs k hkl)
      have YH := Lib.hid (hcs k hkl)
      clear hcs
      have HT := Lib.hid (gl_take H l k hkl)
      generalize H[k] = y at *
      have hmm : Hid (m ≤ 1100000000000) := show _ ≤ _ from Nat.le_trans hm (Nat.le_trans (Nat.mul_le_mul (show k ≤ 1048576 by omega) hn) (by decide))
      have lg : Hid (w.heap.size + 1 ≤ g ∧ g < wr.heap.size) := by obtain ⟨r', hb, _, _, h⟩ := bk_of_owns6 HO.out; exact ⟨h, hb.lt⟩
      have OD : Hid (wr.drew.ownsRow (w.heap.size + 1) 56 6 (.slice (some ⟨g, 0, none⟩) m cap) m (fl (gl (H.take k) l))) := HO.out
      have LD : Hid (Below w.heap.size w wr.drew) := HL.out.drew
      have CD := Lib.hid (SetS.spec y 1 b0 o0 n c l wr.drew (HS.out.on LD.out) (by omega))
      have XA : Hid (∀ w1 w2 : World, Below wr.drew.heap.size wr.drew w1 → w1.grownBy w2 (some g) → (Zx w2 w.heap.size s (.slice (some ⟨b0, o0, none⟩) n c) ∧ w2.cell? ⟨b1, o1 + k, none⟩ = some (.string y)) ∧ Svz w w2) := fun w1 w2 hl hgrow => by
        have L2 : Below w.heap.size w w2 := (LD.out.trans (hl.mono LD.out.size)).grown hgrow (Nat.le_trans LD.out.size hl.size) (fun j hj => by cases hj; have := lg.out.1; omega)
        exact ⟨⟨((HX.out.below ((Below.refl _ _).drew)).below hl).grown hgrow (fun e => by have := Option.some.inj e; have := lg.out.1; omega), (L2.cell (p := ⟨b1, o1 + k, none⟩) hbB).trans YH.out⟩, L2⟩
      have OA : Hid (∀ w1 : World, Below wr.drew.heap.size wr.drew w1 → w1.ownsRow (w.heap.size + 1) 56 6 (.slice (some ⟨g, 0, none⟩) m cap) m (fl (gl (H.take k) l)) ∧ w.heap.size + 1 ≤ w1.heap.size) := fun w1 hl => ⟨OD.out.kept (row := none) ⟨hl.os, hl.tape, hl.output, hl.size, fun k hk _ => hl.block k hk⟩ (Or.inr (fun e => by cases e)), Nat.le_trans (show w.heap.size + 1 ≤ wr.drew.heap.size from Nat.le_trans lg.out.1 (Nat.le_of_lt lg.out.2)) hl.size⟩
      have MS : Hid ((sf y 1 l).length ≤ n) := show _ ≤ _ by have := sf_len y 1 l; have := HS.out.1; omega
      have S0 : (Zx wr w.heap.size s (.slice (some ⟨b0, o0, none⟩) n c) ∧ wr.cell? ⟨b1, o1 + k, none⟩ = some (.string y)) ∧ Svz w wr := ⟨⟨HX.out, e0⟩, HL.out⟩
      go_wp2
      go_region_held3 (fun w' => ((w'.cell? ⟨w.heap.size, 0, none⟩ = some (.string s) ∧ w'.cell? ⟨w.heap.size, 1, none⟩ = some (.slice (some ⟨b0, o0, none⟩) n c)) ∧ w'.cell? ⟨b1, o1 + k, none⟩ = some (.string y)) ∧ Svz w w')
        (first | exact S0 | with_reducible assumption | exact keptH_draw (by assumption) | exact keptH (by assumption) hl | exact SR | fail)
        (first
          | (go_at_call 33; (with_reducible refine CD.out.mono ?_); rintro e w1 ⟨gs, ms, cs, rs, rfl, hz, hc, hg, hb, hl⟩)
          | (refine step_append_recs rfl (.tmp 14) (.tmp 21) rfl (w.heap.size + 1) g m cap (gl (H.take k) l) rfl (OA.out _ hl).1 gs 0 ms cs _ (sf y 1 l) rfl (bk_sr hb hz) (by have := MS.out; have := hmm.out; omega) (OA.out _ hl).2 ?_; intro g2 cap2 w2 hown hgrow; have SR := XA.out w1 w2 hl hgrow)
          | fail)
      have O3 := Lib.hid hown
      have X3 : Hid (Zx w2 w.heap.size s (.slice (some ⟨b0, o0, none⟩) n c)) := SR.1.1
      have L3 : Hid (Below w.heap.size w w2) := SR.2
      have hmn : ms ≤ n := by have := MS.out; omega
      clear hown hgrow SR S0 OA XA CD OD LD hb hl hg hc hz
      go_wp2
      go_roundw
      case rel => exact ⟨k + 1, g2, m + ms, cap2, by omega, by rw [Nat.add_mul, Nat.one_mul]; omega, by go_num, rfl, by rw [HT.out]; exact O3.out, X3.out, L3.out⟩
      case measure => simp [intOf]; omega
    · obtain rfl : nh = k := by omega
      have HN := Lib.hid (take_all HH.out.1)
      go_wp2
      go_ret
      have ho := HO.out
      rw [HN.out] at ho
      obtain ⟨r', hb, _, hcap, hg⟩ := bk_of_owns6 ho
      have hz : (gl H l).length = m := by have := ho.1; rw [fl_len] at this; omega
      exact ⟨g, m, cap, r', rfl, hz, hcap, by omega, hb, HL.out⟩
end Go.Proofs.Ytjgmocmaeadjdaa.GlueS

/- What the model's draw of any zone does: a zone of at most 9 records of short texts; nothing that was there is turned but the cursor. -/
namespace Go.Proofs.Ytjgmocmaeadjdaa.DrawY
open Go.RowKit Go.Proofs.Ytjgmocmaeadjdaa.Mem Go.Proofs.Ytjgmocmaeadjdaa.MemR Go.Proofs.Ytjgmocmaeadjdaa.MemZ Go.Proofs.Ytjgmocmaeadjdaa.BoxR Go.Proofs.Ytjgmocmaeadjdaa.ResR Go.Proofs.Ytjgmocmaeadjdaa.ResZ Go.Proofs.Ytjgmocmaeadjdaa.Draw Go.Proofs.Ytjgmocmaeadjdaa.DrawS Go.Proofs.Ytjgmocmaeadjdaa.DrawL Go.Proofs.Ytjgmocmaeadjdaa.DrawN Go.Proofs.Ytjgmocmaeadjdaa.DrawR Go.Proofs.Ytjgmocmaeadjdaa.LessR Go.Proofs.Ytjgmocmaeadjdaa.SrtMath Go.Proofs.Ytjgmocmaeadjdaa.ZoneL Go.Proofs.Ytjgmocmaeadjdaa.ZoneV Go.Proofs.Ytjgmocmaeadjdaa.ZoneD Go.Proofs.Ytjgmocmaeadjdaa.UqzMath

/-- Any zone that is drawn, behind the cursor; the cursor moved, nothing else turned. -/
def Za (w : World) (g : Nat) (e : Ending) (w' : World) : Prop :=
  ∃ (s : ByteArray) (b o n c : Nat) (L : List Rec), e = .returned (.agg #[.string s, .slice (some ⟨b, o, none⟩) n c]) ∧ s.size ≤ 20 ∧ n ≤ 9 ∧ L.length = n ∧ (∀ r ∈ L, Sml r) ∧ w.heap.size ≤ b ∧ Sr w' w'.heap.size (some ⟨b, o, none⟩) n L ∧ Cur w' g ∧ w.grownBy w' (some g)

def apexes : List ByteArray := [⟨#[]⟩, ⟨#[111, 114, 103]⟩, ⟨#[101, 120, 46, 99, 111, 109]⟩, ⟨#[65]⟩]

theorem apexes_short : ∀ x ∈ apexes, Short x := all_short _ (by decide)

theorem sml_all : ∀ p ∈ ts, ∀ a b c : Bool, ∀ r ∈ zs p.1 p.2 a b c, r.name.size ≤ 60 ∧ r.host.size ≤ 60 ∧ r.text.size ≤ 60 := by decide +kernel

theorem sml_of {t h : Int} (ht : (t, h) ∈ ts) (a b c : Bool) : ∀ r ∈ zs t h a b c, Sml r := fun r hr => sml_all (t, h) ht a b c r hr

theorem sml_fine {l : List Rec} (h : ∀ r ∈ l, Sml r) : ∀ r ∈ l, Fine r := fun r hr => by
  have := h r hr
  exact ⟨by have := this.1; omega, by have := this.2.1; omega⟩

theorem sml_uqz {l S : List Rec} (h : ∀ r ∈ l, Sml r) (hs : Srt l S) : ∀ r ∈ uqz S, Sml r :=
  uqz_mem (fun _ _ hr => hr) (fun r hr => h r (hs.1.mem_iff.1 hr))

theorem uqz_short {l S : List Rec} (hs : Srt l S) : (uqz S).length ≤ l.length := by
  have h1 := uqz_len_take S S.length (Nat.le_refl _)
  rw [List.take_length] at h1
  rw [hs.length] at h1
  exact h1

/-- What is kept while any zone is drawn: the cursor, the result's box, the zone's box, the row. -/
def Da (w : World) (g gb : Nat) (s : ByteArray) (x : Value) (base gl m cap : Nat) (L : List Rec) (v : World) : Prop :=
  (g < w.heap.size ∧ w.heap.size < base ∧ base ≤ gb ∧ gl < gb) ∧ Cur v g ∧ w.grownBy v (some g) ∧ Bk v w.heap.size 26 (zc ⟨#[]⟩ (.slice none 0 0)) ∧ Bk v gb 26 (zc s x) ∧ v.ownsRow base 56 6 (.slice (some ⟨gl, 0, none⟩) m cap) m (fl L)

theorem Da.step {w v v' : World} {g gb base gl m cap : Nat} {s : ByteArray} {x : Value} {L : List Rec} (h : Da w g gb s x base gl m cap L v) (hc : Cur v' g) (hg : v.grownBy v' (some g)) : Da w g gb s x base gl m cap L v' := by
  obtain ⟨⟨h1, h2, h3, h4⟩, _, hb, k1, k2, ko⟩ := h
  exact ⟨⟨h1, h2, h3, h4⟩, hc, grown_trans hb hg, k1.grown hg (fun e => by have := Option.some.inj e; omega), k2.grown hg (fun e => by have := Option.some.inj e; omega), own_far ko hg (by omega)⟩

theorem Da.row {w v v' : World} {g gb base gl m cap : Nat} {s : ByteArray} {x : Value} {L : List Rec} (h : Da w g gb s x base gl m cap L v) (hg : v.grownBy v' (some gl)) : Cur v' g ∧ w.grownBy v' (some g) ∧ Bk v' w.heap.size 26 (zc ⟨#[]⟩ (.slice none 0 0)) ∧ Bk v' gb 26 (zc s x) := by
  obtain ⟨⟨h1, h2, h3, h4⟩, hc, hb, k1, k2, ko⟩ := h
  have lg : base ≤ gl := (ko.lt gl rfl).1
  exact ⟨cur_far hc ko hg (by omega), grown_far hb hg (by omega), k1.grown hg (fun e => by have := Option.some.inj e; omega), k2.grown hg (fun e => by have := Option.some.inj e; omega)⟩

theorem sr_tail {w : World} {B g m : Nat} {l : List Rec} (h : Sr w B (some ⟨g, 0, none⟩) (m + 1) l) : Sr w B (some ⟨g, 6, none⟩) m l.tail := by
  refine ⟨by rw [List.length_tail, h.1]; omega, fun _ => ?_⟩
  obtain ⟨b, off, hA, hb, hc⟩ := h.2 (by omega)
  obtain ⟨rfl, rfl⟩ : g = b ∧ 0 = off := by simpa using hA
  refine ⟨g, 6, rfl, hb, fun j hj => ?_⟩
  have h1 : j + 1 < l.length := by rw [List.length_tail] at hj; omega
  have := hc (j + 1) h1
  rw [List.getElem_tail]
  rw [show 6 + j * 6 = 0 + (j + 1) * 6 by omega]
  exact this

theorem apart {w : World} {base g n cap gb : Nat} {L : List Rec} {cs : List Value} (ho : w.ownsRow base 56 6 (.slice (some ⟨g, 0, none⟩) n cap) n (fl L)) (hb : Bk w gb 26 cs) : g ≠ gb := by
  intro e
  subst e
  rcases ho.2 with ⟨hv, _⟩ | ⟨g', cap', cur, hv, _, hh, _⟩
  · cases hv
  · have e1 : g = g' := by simp at hv; exact hv.1
    subst e1
    unfold Bk at hb
    rw [hh] at hb
    simp at hb

theorem below_grown {v v' : World} {g : Nat} (hb : Below v.heap.size v v') : v.grownBy v' (some g) := ⟨hb.os, hb.tape, hb.output, hb.size, fun k hk _ => hb.block k hk⟩

theorem one_sr (w : World) (r : Rec) : Sr (w.alloc (.cells #[.string r.name, .int .i64 r.ty, .int .i64 r.ttl, .int .i64 r.n, .string r.host, .string r.text] 56)) (w.alloc (.cells #[.string r.name, .int .i64 r.ty, .int .i64 r.ttl, .int .i64 r.n, .string r.host, .string r.text] 56)).heap.size (some ⟨w.heap.size, 0, none⟩) 1 [r] := by
  have hb : Bk (w.alloc (.cells #[.string r.name, .int .i64 r.ty, .int .i64 r.ttl, .int .i64 r.n, .string r.host, .string r.text] 56)) w.heap.size 56 (fl [r]) := heap_alloc_new w _
  exact bk_sr0 hb rfl

/-- The end: the zone's box is copied into the result's. -/
theorem done {w v : World} {g b o n : Nat} {s' : ByteArray} {M : List Rec} (hc : Cur v g) (hg : w.grownBy v (some g)) (hgw : g < w.heap.size) (hk : Bk v w.heap.size 26 (zc ⟨#[]⟩ (.slice none 0 0))) (hr : Sr v v.heap.size (some ⟨b, o, none⟩) n M) (hb : w.heap.size < b) (y : Value) :
    Bk (filZ v w.heap.size s' y) w.heap.size 26 (zc s' y) ∧ Cur (filZ v w.heap.size s' y) g ∧ w.grownBy (filZ v w.heap.size s' y) (some g) ∧ Sr (filZ v w.heap.size s' y) (filZ v w.heap.size s' y).heap.size (some ⟨b, o, none⟩) n M := by
  refine ⟨filZ_bk hk s' y, cur_filZ hc hgw s' y, grown_filZ hg (Nat.le_refl _) s' y, ?_⟩
  have hne : b ≠ w.heap.size := by omega
  obtain ⟨h1, h2⟩ := hr
  refine ⟨h1, fun hn => ?_⟩
  obtain ⟨b', o', hA, hlt, hcs⟩ := h2 hn
  refine ⟨b', o', hA, by show b' < _; simpa [filZ, World.setCell] using hlt, fun j hj => (hcs j hj).move fun p hp => ?_⟩
  have hb' : b' = b := by simp at hA; exact hA.1.symm
  unfold filZ
  rw [World.cell?_of_block (Below.heap_setCell _ _ _ _ (by rw [hp, hb']; exact hne)), World.cell?_of_block (Below.heap_setCell _ _ _ _ (by rw [hp, hb']; exact hne))]

set_option maxHeartbeats 16000000 in
set_option maxRecDepth 100000 in
theorem any_any (g : Nat) (w : World) (hc : Cur w g) : Calls Try.prog 45 #[.pointer (some ⟨g, 0, none⟩)] w (Za w g) := by
  have mixed : Try.prog.follows .mixedOrders = true := by kernel_rfl
  have GW := Lib.hid hc.lt
  have C0 := Lib.hid (hc.alloc (.cells #[.string ⟨#[]⟩, .slice none 0 0] 26))
  have K0 : Hid (Bk (w.alloc (.cells #[.string ⟨#[]⟩, .slice none 0 0] 26)) w.heap.size 26 (zc ⟨#[]⟩ (.slice none 0 0))) := heap_alloc_new w _
  have G0 := Lib.hid (World.grownBy_alloc w (.cells #[.string ⟨#[]⟩, .slice none 0 0] 26) (some g))
  have N0 : Hid (w.heap.size < (w.alloc (.cells #[.string ⟨#[]⟩, .slice none 0 0] 26)).heap.size) := by show _ < _; simp
  clear hc
  go_enter Try.func45, Try.ntmps45
  go_upto_region 1 with (fail)
  generalize w.alloc (.cells #[.string ⟨#[]⟩, .slice none 0 0] 26) = w0 at *
  go_wp2_with fail
  refine (zone_any g w0 C0.out).mono ?_
  rintro e w1 ⟨t, h, a, b, c', gl, m, cap, hth, rfl, hlm, hown, hc1, hg1⟩
  have HM := Lib.hid hlm
  have hm3 : 3 ≤ m ∧ m ≤ 8 := by
    have := zs_len t h a b c'
    have h3 : 3 ≤ (zs t h a b c').length := by simp [zs]; omega
    omega
  have HS := Lib.hid (sml_of hth a b c')
  have D2 : Hid (Da w g w1.heap.size ⟨#[99, 111, 109]⟩ (.slice (some ⟨gl, 0, none⟩) m cap) w0.heap.size gl m cap (zs t h a b c') (w1.alloc (.cells #[.string ⟨#[99, 111, 109]⟩, .slice (some ⟨gl, 0, none⟩) m cap] 26))) :=
    ⟨⟨GW.out, N0.out, hg1.size, (hown.lt gl rfl).2⟩, hc1.alloc _, grown_trans (grown_trans G0.out hg1) (World.grownBy_alloc _ _ _), (K0.out.grown hg1 (fun e => by have h1 := GW.out; have h2 : w.heap.size = g := Option.some.inj e; omega)).alloc _, heap_alloc_new w1 _, hown.alloc _⟩
  have hgb : w1.heap.size = w1.heap.size := rfl
  clear hth hlm hown hc1 hg1 C0 K0 G0 hgb
  generalize zs t h a b c' = L at *
  go_upto_region 2 with (fail)
  generalize w1.alloc (.cells #[.string ⟨#[99, 111, 109]⟩, .slice (some ⟨gl, 0, none⟩) m cap] 26) = w2 at *
  generalize w1.heap.size = gb at *
  generalize w0.heap.size = base at *
  go_wp2_with fail
  refine (l1Below_any g 12 w2 D2.out.2.1 (by omega) (by omega)).mono ?_
  rintro e w3 ⟨x, rfl, hx0, hx1, hc3, hg3⟩
  have D3 := Lib.hid (D2.out.step hc3 hg3)
  have hbl : w.heap.size < gl := by have h1 := D3.out.1.2.1; have h2 := (D3.out.2.2.2.2.2.lt gl rfl).1; omega
  clear hc3 hg3 D2
  by_cases c0 : x = 0
  · subst c0
    clear hx0 hx1
    go_wp2_with fail
    refine (l1Str_any g w3.heap.size 4 apexes _ (D3.out.2.1.alloc _) (bk_texts w3 apexes _ rfl) (Nat.ne_of_gt D3.out.2.1.lt) rfl (by omega) (by omega)).mono ?_
    rintro e w4 ⟨s, rfl, hs, hc4, hg4⟩
    have D4 := Lib.hid (D3.out.step hc4 (grown_trans (World.grownBy_alloc w3 _ (some g)) hg4))
    have S20 : s.size ≤ 20 := apexes_short s hs
    have b0 : w4.cell? ⟨gb, 0, none⟩ = some (.string ⟨#[99, 111, 109]⟩) := D4.out.2.2.2.2.1.cell 0
    have f0 := D4.out.2.2.2.2.1.free 0
    have nz : w.heap.size ≠ gb := by have h1 := D4.out.1.2.1; have h2 := D4.out.1.2.2.1; omega
    have KB : Hid (Bk (w4.setCell ⟨gb, 0, none⟩ (.string s)) gb 26 (zc s (.slice (some ⟨gl, 0, none⟩) m cap))) := D4.out.2.2.2.2.1.set 0 _
    have K5 := Lib.hid (D4.out.2.2.2.1.other (p := ⟨gb, 0, none⟩) nz (.string s))
    have C5 := Lib.hid (cur_new D4.out.2.1 (show g < gb by have h1 := D4.out.1.1; have h2 := D4.out.1.2.1; have h3 := D4.out.1.2.2.1; omega) 0 (.string s))
    have G5 := Lib.hid (grown_new D4.out.2.2.1 (show w.heap.size ≤ gb by have h2 := D4.out.1.2.1; have h3 := D4.out.1.2.2.1; omega) 0 (.string s))
    have O5 := Lib.hid (own_set D4.out.2.2.2.2.2 (Nat.ne_of_lt D4.out.1.2.2.2) 0 (.string s))
    clear hs hc4 hg4 D3
    go_upto_region 17 with (fail)
    clear b0 f0 D4
    generalize w4.setCell ⟨gb, 0, none⟩ (.string s) = w5 at *
    have SR := Lib.hid (own_sr O5.out)
    have FN := Lib.hid (done (s' := s) C5.out G5.out GW.out K5.out SR.out hbl (.slice (some ⟨gl, 0, none⟩) m cap))
    have r0 : w5.cell? ⟨w.heap.size, 0, none⟩ = some (.string ⟨#[]⟩) := K5.out.cell 0
    have r1 : w5.cell? ⟨w.heap.size, 1, none⟩ = some (.slice none 0 0) := K5.out.cell 1
    have q0 := K5.out.free 0
    have q1 := K5.out.free 1
    have z0 : w5.cell? ⟨gb, 0, none⟩ = some (.string s) := KB.out.cell 0
    have z1 : w5.cell? ⟨gb, 1, none⟩ = some (.slice (some ⟨gl, 0, none⟩) m cap) := KB.out.cell 1
    go_wp2
    exact bodyPost_ret (v := .agg #[.string s, .slice (some ⟨gl, 0, none⟩) m cap]) (resZ1 rfl FN.out.1 rfl) rfl ⟨s, gl, 0, m, cap, L, rfl, S20, (by omega), HM.out, HS.out, Nat.le_of_lt hbl, FN.out.2.2.2, FN.out.2.1, FN.out.2.2.1⟩
  by_cases c1 : x = 1
  · subst c1
    clear c0 hx0 hx1
    have DD := Lib.hid (D3.out.step (v' := w3.drew) (D3.out.2.1.grown (grown_drewN (grown_refl w3 none) 1) (fun _ e => by cases e)) (grown_drewN (grown_refl w3 (some g)) 1))
    have b1 : w3.drew.cell? ⟨gb, 1, none⟩ = some (.slice (some ⟨gl, 0, none⟩) m cap) := DD.out.2.2.2.2.1.cell 1
    have NZ : Hid (w.heap.size < gb) := by show _ < _; have h1 := D3.out.1.2.1; have h2 := D3.out.1.2.2.1; omega
    have NB := Lib.hid D3.out.1.2.1
    clear D3
    go_wp2
    go_region_law (first
      | (go_simp; go_at_call 67; refine (l5Draw_any g w3.drew DD.out.2.1).mono ?_; rintro e w4 ⟨r, rfl, hr, hc4, hg4⟩; have D4 := Lib.hid (DD.out.step hc4 hg4); have y1 : w4.cell? ⟨gb, 1, none⟩ = some (.slice (some ⟨gl, 0, none⟩) m cap) := D4.out.2.2.2.2.1.cell 1; have D5 := Lib.hid (D4.out.step (D4.out.2.1.alloc (.cells #[.string r.name, .int .i64 r.ty, .int .i64 r.ttl, .int .i64 r.n, .string r.host, .string r.text] 56)) (World.grownBy_alloc w4 (.cells #[.string r.name, .int .i64 r.ty, .int .i64 r.ttl, .int .i64 r.n, .string r.host, .string r.text] 56) (some g))); have y2 : (w4.alloc (.cells #[.string r.name, .int .i64 r.ty, .int .i64 r.ttl, .int .i64 r.n, .string r.host, .string r.text] 56)).cell? ⟨gb, 1, none⟩ = some (.slice (some ⟨gl, 0, none⟩) m cap) := D5.out.2.2.2.2.1.cell 1; have HB : Hid (base ≤ (w4.alloc (.cells #[.string r.name, .int .i64 r.ty, .int .i64 r.ttl, .int .i64 r.n, .string r.host, .string r.text] 56)).heap.size) := (by show _ ≤ _; have h1 := (D5.out.2.2.2.2.2.lt gl rfl); omega); clear hc4 hg4)
      | (refine GlueS.step_append_recs rfl (.tmp 17) (.tmp 20) rfl base gl m cap L rfl D5.out.2.2.2.2.2 w4.heap.size 0 1 1 (w4.alloc (.cells #[.string r.name, .int .i64 r.ty, .int .i64 r.ttl, .int .i64 r.n, .string r.host, .string r.text] 56)).heap.size [r] rfl (one_sr w4 r) (by omega) HB.out ?_; intro g6 cap6 w6 hown hgrow; have D6 := Lib.hid (D5.out.row hgrow); have k1 : w6.cell? ⟨gb, 1, none⟩ = some (.slice (some ⟨gl, 0, none⟩) m cap) := D6.out.2.2.2.cell 1; have kf := D6.out.2.2.2.free 1))
    all_goals
      have SM : Hid (∀ x ∈ L ++ [r], Sml x) := fun x hx => by
        rcases List.mem_append.1 hx with hx | hx
        · exact HS.out x hx
        · rw [List.mem_singleton.1 hx]; exact hr
      have LN : Hid ((L ++ [r]).length = m + 1) := show _ = _ by rw [List.length_append, HM.out]; rfl
      have ng : g6 ≠ gb := apart hown D6.out.2.2.2
      have hbs : w.heap.size < g6 := Nat.lt_of_lt_of_le NB.out (hown.lt g6 rfl).1
      have nz : w.heap.size ≠ gb := Nat.ne_of_lt NZ.out
      have KB : Hid (Bk (w6.setCell ⟨gb, 1, none⟩ (.slice (some ⟨g6, 0, none⟩) (m + 1) cap6)) gb 26 (zc ⟨#[99, 111, 109]⟩ (.slice (some ⟨g6, 0, none⟩) (m + 1) cap6))) := D6.out.2.2.2.set 1 _
      have K6 := Lib.hid (D6.out.2.2.1.other (p := ⟨gb, 1, none⟩) nz (.slice (some ⟨g6, 0, none⟩) (m + 1) cap6))
      have C6 := Lib.hid (cur_new D6.out.1 (Nat.lt_trans GW.out NZ.out) 1 (.slice (some ⟨g6, 0, none⟩) (m + 1) cap6))
      have G6 := Lib.hid (grown_new D6.out.2.1 (Nat.le_of_lt NZ.out) 1 (.slice (some ⟨g6, 0, none⟩) (m + 1) cap6))
      have O6 := Lib.hid (own_set hown ng 1 (.slice (some ⟨g6, 0, none⟩) (m + 1) cap6))
      go_upto_region 17 with (fail)
      clear hown hgrow D4 D5 D6 y1 y2 HB k1 kf b1 DD hr
      generalize w6.setCell ⟨gb, 1, none⟩ (.slice (some ⟨g6, 0, none⟩) (m + 1) cap6) = w7 at *
      have SR := Lib.hid (own_sr O6.out)
      have FN := Lib.hid (done (s' := ⟨#[99, 111, 109]⟩) C6.out G6.out GW.out K6.out SR.out hbs (.slice (some ⟨g6, 0, none⟩) (m + 1) cap6))
      have r0 : w7.cell? ⟨w.heap.size, 0, none⟩ = some (.string ⟨#[]⟩) := K6.out.cell 0
      have r1 : w7.cell? ⟨w.heap.size, 1, none⟩ = some (.slice none 0 0) := K6.out.cell 1
      have q0 := K6.out.free 0
      have q1 := K6.out.free 1
      have z0 : w7.cell? ⟨gb, 0, none⟩ = some (.string ⟨#[99, 111, 109]⟩) := KB.out.cell 0
      have z1 : w7.cell? ⟨gb, 1, none⟩ = some (.slice (some ⟨g6, 0, none⟩) (m + 1) cap6) := KB.out.cell 1
      go_wp2
      exact bodyPost_ret (v := .agg #[.string ⟨#[99, 111, 109]⟩, .slice (some ⟨g6, 0, none⟩) (m + 1) cap6]) (resZ1 rfl FN.out.1 rfl) rfl ⟨⟨#[99, 111, 109]⟩, g6, 0, (m + 1), cap6, (L ++ [r]), rfl, (by decide), (by omega), LN.out, SM.out, Nat.le_of_lt hbs, FN.out.2.2.2, FN.out.2.1, FN.out.2.2.1⟩
  by_cases c2 : x = 2
  · subst c2
    clear c0 c1 hx0 hx1
    have b1 : w3.cell? ⟨gb, 1, none⟩ = some (.slice (some ⟨gl, 0, none⟩) m cap) := D3.out.2.2.2.2.1.cell 1
    have f1 := D3.out.2.2.2.2.1.free 1
    have nz : w.heap.size ≠ gb := by have h1 := D3.out.1.2.1; have h2 := D3.out.1.2.2.1; omega
    have cm : m ≤ cap := (bk_of_owns6 D3.out.2.2.2.2.2).choose_spec.2.2.1
    obtain ⟨q, rfl⟩ : ∃ q, m = q + 1 := ⟨m - 1, by omega⟩
    have KB : Hid (Bk (w3.setCell ⟨gb, 1, none⟩ (.slice (some ⟨gl, 6, none⟩) q (cap - 1))) gb 26 (zc ⟨#[99, 111, 109]⟩ (.slice (some ⟨gl, 6, none⟩) q (cap - 1)))) := D3.out.2.2.2.2.1.set 1 _
    have K5 := Lib.hid (D3.out.2.2.2.1.other (p := ⟨gb, 1, none⟩) nz (.slice (some ⟨gl, 6, none⟩) q (cap - 1)))
    have C5 := Lib.hid (cur_new D3.out.2.1 (show g < gb by have h1 := D3.out.1.1; have h2 := D3.out.1.2.1; have h3 := D3.out.1.2.2.1; omega) 1 (.slice (some ⟨gl, 6, none⟩) q (cap - 1)))
    have G5 := Lib.hid (grown_new D3.out.2.2.1 (show w.heap.size ≤ gb by have h2 := D3.out.1.2.1; have h3 := D3.out.1.2.2.1; omega) 1 (.slice (some ⟨gl, 6, none⟩) q (cap - 1)))
    have O5 := Lib.hid (own_set D3.out.2.2.2.2.2 (Nat.ne_of_lt D3.out.1.2.2.2) 1 (.slice (some ⟨gl, 6, none⟩) q (cap - 1)))
    have c1' : ¬ cap = 1 := by omega
    have i1 : (1 : Int) ≤ ((q + 1 : Nat) : Int) := by omega
    have SR0 := Lib.hid (own_sr O5.out)
    go_upto_region 17 with (fail)
    clear b1 f1 D3 c1' i1 cm
    generalize w3.setCell ⟨gb, 1, none⟩ (.slice (some ⟨gl, 6, none⟩) q (cap - 1)) = w5 at *
    have SR := Lib.hid (sr_tail SR0.out)
    have HL := Lib.hid (show L.tail.length = q by rw [List.length_tail, HM.out]; omega)
    have HT : Hid (∀ r ∈ L.tail, Sml r) := fun r hr => HS.out r (List.mem_of_mem_tail hr)
    have FN := Lib.hid (done (s' := ⟨#[99, 111, 109]⟩) C5.out G5.out GW.out K5.out SR.out hbl (.slice (some ⟨gl, 6, none⟩) q (cap - 1)))
    have r0 : w5.cell? ⟨w.heap.size, 0, none⟩ = some (.string ⟨#[]⟩) := K5.out.cell 0
    have r1 : w5.cell? ⟨w.heap.size, 1, none⟩ = some (.slice none 0 0) := K5.out.cell 1
    have q0 := K5.out.free 0
    have q1 := K5.out.free 1
    have z0 : w5.cell? ⟨gb, 0, none⟩ = some (.string ⟨#[99, 111, 109]⟩) := KB.out.cell 0
    have z1 : w5.cell? ⟨gb, 1, none⟩ = some (.slice (some ⟨gl, 6, none⟩) q (cap - 1)) := KB.out.cell 1
    go_wp2
    exact bodyPost_ret (v := .agg #[.string ⟨#[99, 111, 109]⟩, .slice (some ⟨gl, 6, none⟩) q (cap - 1)]) (resZ1 rfl FN.out.1 rfl) rfl ⟨⟨#[99, 111, 109]⟩, gl, 6, q, (cap - 1), L.tail, rfl, (by decide), (by omega), HL.out, HT.out, Nat.le_of_lt hbl, FN.out.2.2.2, FN.out.2.1, FN.out.2.2.1⟩
  by_cases c3 : x = 3
  · subst c3
    clear c0 c1 c2 hx0 hx1
    have b1 : w3.cell? ⟨gb, 1, none⟩ = some (.slice (some ⟨gl, 0, none⟩) m cap) := D3.out.2.2.2.2.1.cell 1
    have DA := Lib.hid (D3.out.step (D3.out.2.1.alloc (.cells #[.string ⟨#[120, 46, 101, 120, 46, 99, 111, 109]⟩, .int .i64 16, .int .i64 0, .int .i64 0, .string ⟨#[]⟩, .string ⟨#[110, 111]⟩] 56)) (World.grownBy_alloc w3 (.cells #[.string ⟨#[120, 46, 101, 120, 46, 99, 111, 109]⟩, .int .i64 16, .int .i64 0, .int .i64 0, .string ⟨#[]⟩, .string ⟨#[110, 111]⟩] 56) (some g)))
    have SX : Hid (Sr (w3.alloc (.cells #[.string ⟨#[120, 46, 101, 120, 46, 99, 111, 109]⟩, .int .i64 16, .int .i64 0, .int .i64 0, .string ⟨#[]⟩, .string ⟨#[110, 111]⟩] 56)) (w3.alloc (.cells #[.string ⟨#[120, 46, 101, 120, 46, 99, 111, 109]⟩, .int .i64 16, .int .i64 0, .int .i64 0, .string ⟨#[]⟩, .string ⟨#[110, 111]⟩] 56)).heap.size (some ⟨w3.heap.size, 0, none⟩) 1 [(Rec.mk ⟨#[120, 46, 101, 120, 46, 99, 111, 109]⟩ 16 0 0 ⟨#[]⟩ ⟨#[110, 111]⟩)]) := one_sr w3 (Rec.mk ⟨#[120, 46, 101, 120, 46, 99, 111, 109]⟩ 16 0 0 ⟨#[]⟩ ⟨#[110, 111]⟩)
    have HB : Hid (base ≤ (w3.alloc (.cells #[.string ⟨#[120, 46, 101, 120, 46, 99, 111, 109]⟩, .int .i64 16, .int .i64 0, .int .i64 0, .string ⟨#[]⟩, .string ⟨#[110, 111]⟩] 56)).heap.size) := by show _ ≤ _; have h1 := (DA.out.2.2.2.2.2.lt gl rfl); omega
    have GB : Hid (gb < (w3.alloc (.cells #[.string ⟨#[120, 46, 101, 120, 46, 99, 111, 109]⟩, .int .i64 16, .int .i64 0, .int .i64 0, .string ⟨#[]⟩, .string ⟨#[110, 111]⟩] 56)).heap.size) := DA.out.2.2.2.2.1.lt
    have NZ : Hid (w.heap.size < gb) := by show _ < _; have h1 := D3.out.1.2.1; have h2 := D3.out.1.2.2.1; omega
    clear D3
    go_wp2_with (at_builtin; refine AppR.append_recs (w := w3.alloc (.cells #[.string ⟨#[120, 46, 101, 120, 46, 99, 111, 109]⟩, .int .i64 16, .int .i64 0, .int .i64 0, .string ⟨#[]⟩, .string ⟨#[110, 111]⟩] 56)) rfl (.tmp 32) (.tmp 34) rfl base gl m cap L rfl DA.out.2.2.2.2.2 w3.heap.size 0 1 1 _ [(Rec.mk ⟨#[120, 46, 101, 120, 46, 99, 111, 109]⟩ 16 0 0 ⟨#[]⟩ ⟨#[110, 111]⟩)] rfl SX.out (by omega) (by omega) HB.out ?_)
    intro g4 cap4 w4 hown hgrow
    have D4 := Lib.hid (DA.out.row hgrow)
    have O4 := Lib.hid hown
    have GB4 : Hid (gb < w4.heap.size) := Nat.lt_of_lt_of_le GB.out hgrow.size
    have SM : Hid (∀ r ∈ L ++ [(Rec.mk ⟨#[120, 46, 101, 120, 46, 99, 111, 109]⟩ 16 0 0 ⟨#[]⟩ ⟨#[110, 111]⟩)], Sml r) := fun r hr => by
      rcases List.mem_append.1 hr with hr | hr
      · exact HS.out r hr
      · rw [List.mem_singleton.1 hr]; exact ⟨by decide, by decide, by decide⟩
    have LN : Hid ((L ++ [(Rec.mk ⟨#[120, 46, 101, 120, 46, 99, 111, 109]⟩ 16 0 0 ⟨#[]⟩ ⟨#[110, 111]⟩)]).length = m + 1) := show _ = _ by rw [List.length_append, HM.out]; rfl
    have SU := Lib.hid (own_sr O4.out)
    clear hown hgrow DA SX HB GB b1
    go_wp2_with fail
    refine (UniqZ.spec g4 0 (m + 1) cap4 (L ++ [(Rec.mk ⟨#[120, 46, 101, 120, 46, 99, 111, 109]⟩ 16 0 0 ⟨#[]⟩ ⟨#[110, 111]⟩)]) w4 SU.out (by omega) (sml_fine SM.out)).mono ?_
    rintro e w5 ⟨S, gs, ms, cs, hsrt, rfl, hlu, hou, hl⟩
    have HT := Lib.hid (sml_uqz SM.out hsrt)
    have HL := Lib.hid hlu
    have N9 : ms ≤ 9 := by have h1 := uqz_short hsrt; rw [LN.out] at h1; omega
    have C5 := Lib.hid (cur_below D4.out.1 hl)
    have G5 := Lib.hid (grown_below D4.out.2.1 hl)
    have K5 := Lib.hid (D4.out.2.2.1.below hl D4.out.2.2.1.lt)
    have B5 := Lib.hid (D4.out.2.2.2.below hl GB4.out)
    have O5 := Lib.hid hou
    have NG : Hid (gb < gs) := show _ < _ from Nat.lt_of_lt_of_le GB4.out (hou.lt gs rfl).1
    clear hsrt hlu hou hl D4 O4 SU SM LN GB4
    have b1 : w5.cell? ⟨gb, 1, none⟩ = some (.slice (some ⟨gl, 0, none⟩) m cap) := B5.out.cell 1
    have f1 := B5.out.free 1
    have nz : w.heap.size ≠ gb := Nat.ne_of_lt NZ.out
    have ng : gs ≠ gb := Nat.ne_of_gt NG.out
    have hbs : w.heap.size < gs := Nat.lt_trans NZ.out NG.out
    have KB : Hid (Bk (w5.setCell ⟨gb, 1, none⟩ (.slice (some ⟨gs, 0, none⟩) ms cs)) gb 26 (zc ⟨#[99, 111, 109]⟩ (.slice (some ⟨gs, 0, none⟩) ms cs))) := B5.out.set 1 _
    have K6 := Lib.hid (K5.out.other (p := ⟨gb, 1, none⟩) nz (.slice (some ⟨gs, 0, none⟩) ms cs))
    have C6 := Lib.hid (cur_new C5.out (Nat.lt_trans GW.out NZ.out) 1 (.slice (some ⟨gs, 0, none⟩) ms cs))
    have G6 := Lib.hid (grown_new G5.out (Nat.le_of_lt NZ.out) 1 (.slice (some ⟨gs, 0, none⟩) ms cs))
    have O6 := Lib.hid (own_set O5.out ng 1 (.slice (some ⟨gs, 0, none⟩) ms cs))
    go_upto_region 17 with (fail)
    clear b1 f1 B5 K5 C5 G5 O5
    generalize w5.setCell ⟨gb, 1, none⟩ (.slice (some ⟨gs, 0, none⟩) ms cs) = w6 at *
    have SR := Lib.hid (own_sr O6.out)
    have FN := Lib.hid (done (s' := ⟨#[99, 111, 109]⟩) C6.out G6.out GW.out K6.out SR.out hbs (.slice (some ⟨gs, 0, none⟩) ms cs))
    have r0 : w6.cell? ⟨w.heap.size, 0, none⟩ = some (.string ⟨#[]⟩) := K6.out.cell 0
    have r1 : w6.cell? ⟨w.heap.size, 1, none⟩ = some (.slice none 0 0) := K6.out.cell 1
    have q0 := K6.out.free 0
    have q1 := K6.out.free 1
    have z0 : w6.cell? ⟨gb, 0, none⟩ = some (.string ⟨#[99, 111, 109]⟩) := KB.out.cell 0
    have z1 : w6.cell? ⟨gb, 1, none⟩ = some (.slice (some ⟨gs, 0, none⟩) ms cs) := KB.out.cell 1
    go_wp2
    exact bodyPost_ret (v := .agg #[.string ⟨#[99, 111, 109]⟩, .slice (some ⟨gs, 0, none⟩) ms cs]) (resZ1 rfl FN.out.1 rfl) rfl ⟨⟨#[99, 111, 109]⟩, gs, 0, ms, cs, (uqz S), rfl, (by decide), N9, HL.out, HT.out, Nat.le_of_lt hbs, FN.out.2.2.2, FN.out.2.1, FN.out.2.2.1⟩
  by_cases c4 : x = 4
  · subst c4
    clear c0 c1 c2 c3 hx0 hx1
    have b1 : w3.cell? ⟨gb, 1, none⟩ = some (.slice (some ⟨gl, 0, none⟩) m cap) := D3.out.2.2.2.2.1.cell 1
    have DA := Lib.hid (D3.out.step (D3.out.2.1.alloc (.cells #[.string ⟨#[116, 46, 99, 111, 109]⟩, .int .i64 5, .int .i64 0, .int .i64 0, .string ⟨#[99, 111, 109]⟩, .string ⟨#[]⟩] 56)) (World.grownBy_alloc w3 (.cells #[.string ⟨#[116, 46, 99, 111, 109]⟩, .int .i64 5, .int .i64 0, .int .i64 0, .string ⟨#[99, 111, 109]⟩, .string ⟨#[]⟩] 56) (some g)))
    have SX : Hid (Sr (w3.alloc (.cells #[.string ⟨#[116, 46, 99, 111, 109]⟩, .int .i64 5, .int .i64 0, .int .i64 0, .string ⟨#[99, 111, 109]⟩, .string ⟨#[]⟩] 56)) (w3.alloc (.cells #[.string ⟨#[116, 46, 99, 111, 109]⟩, .int .i64 5, .int .i64 0, .int .i64 0, .string ⟨#[99, 111, 109]⟩, .string ⟨#[]⟩] 56)).heap.size (some ⟨w3.heap.size, 0, none⟩) 1 [(Rec.mk ⟨#[116, 46, 99, 111, 109]⟩ 5 0 0 ⟨#[99, 111, 109]⟩ ⟨#[]⟩)]) := one_sr w3 (Rec.mk ⟨#[116, 46, 99, 111, 109]⟩ 5 0 0 ⟨#[99, 111, 109]⟩ ⟨#[]⟩)
    have HB : Hid (base ≤ (w3.alloc (.cells #[.string ⟨#[116, 46, 99, 111, 109]⟩, .int .i64 5, .int .i64 0, .int .i64 0, .string ⟨#[99, 111, 109]⟩, .string ⟨#[]⟩] 56)).heap.size) := by show _ ≤ _; have h1 := (DA.out.2.2.2.2.2.lt gl rfl); omega
    have GB : Hid (gb < (w3.alloc (.cells #[.string ⟨#[116, 46, 99, 111, 109]⟩, .int .i64 5, .int .i64 0, .int .i64 0, .string ⟨#[99, 111, 109]⟩, .string ⟨#[]⟩] 56)).heap.size) := DA.out.2.2.2.2.1.lt
    have NZ : Hid (w.heap.size < gb) := by show _ < _; have h1 := D3.out.1.2.1; have h2 := D3.out.1.2.2.1; omega
    clear D3
    go_wp2_with (at_builtin; refine AppR.append_recs (w := w3.alloc (.cells #[.string ⟨#[116, 46, 99, 111, 109]⟩, .int .i64 5, .int .i64 0, .int .i64 0, .string ⟨#[99, 111, 109]⟩, .string ⟨#[]⟩] 56)) rfl (.tmp 41) (.tmp 43) rfl base gl m cap L rfl DA.out.2.2.2.2.2 w3.heap.size 0 1 1 _ [(Rec.mk ⟨#[116, 46, 99, 111, 109]⟩ 5 0 0 ⟨#[99, 111, 109]⟩ ⟨#[]⟩)] rfl SX.out (by omega) (by omega) HB.out ?_)
    intro g4 cap4 w4 hown hgrow
    have D4 := Lib.hid (DA.out.row hgrow)
    have O4 := Lib.hid hown
    have GB4 : Hid (gb < w4.heap.size) := Nat.lt_of_lt_of_le GB.out hgrow.size
    have SM : Hid (∀ r ∈ L ++ [(Rec.mk ⟨#[116, 46, 99, 111, 109]⟩ 5 0 0 ⟨#[99, 111, 109]⟩ ⟨#[]⟩)], Sml r) := fun r hr => by
      rcases List.mem_append.1 hr with hr | hr
      · exact HS.out r hr
      · rw [List.mem_singleton.1 hr]; exact ⟨by decide, by decide, by decide⟩
    have LN : Hid ((L ++ [(Rec.mk ⟨#[116, 46, 99, 111, 109]⟩ 5 0 0 ⟨#[99, 111, 109]⟩ ⟨#[]⟩)]).length = m + 1) := show _ = _ by rw [List.length_append, HM.out]; rfl
    have SU := Lib.hid (own_sr O4.out)
    clear hown hgrow DA SX HB GB b1
    go_wp2_with fail
    refine (UniqZ.spec g4 0 (m + 1) cap4 (L ++ [(Rec.mk ⟨#[116, 46, 99, 111, 109]⟩ 5 0 0 ⟨#[99, 111, 109]⟩ ⟨#[]⟩)]) w4 SU.out (by omega) (sml_fine SM.out)).mono ?_
    rintro e w5 ⟨S, gs, ms, cs, hsrt, rfl, hlu, hou, hl⟩
    have HT := Lib.hid (sml_uqz SM.out hsrt)
    have HL := Lib.hid hlu
    have N9 : ms ≤ 9 := by have h1 := uqz_short hsrt; rw [LN.out] at h1; omega
    have C5 := Lib.hid (cur_below D4.out.1 hl)
    have G5 := Lib.hid (grown_below D4.out.2.1 hl)
    have K5 := Lib.hid (D4.out.2.2.1.below hl D4.out.2.2.1.lt)
    have B5 := Lib.hid (D4.out.2.2.2.below hl GB4.out)
    have O5 := Lib.hid hou
    have NG : Hid (gb < gs) := show _ < _ from Nat.lt_of_lt_of_le GB4.out (hou.lt gs rfl).1
    clear hsrt hlu hou hl D4 O4 SU SM LN GB4
    have b1 : w5.cell? ⟨gb, 1, none⟩ = some (.slice (some ⟨gl, 0, none⟩) m cap) := B5.out.cell 1
    have f1 := B5.out.free 1
    have nz : w.heap.size ≠ gb := Nat.ne_of_lt NZ.out
    have ng : gs ≠ gb := Nat.ne_of_gt NG.out
    have hbs : w.heap.size < gs := Nat.lt_trans NZ.out NG.out
    have KB : Hid (Bk (w5.setCell ⟨gb, 1, none⟩ (.slice (some ⟨gs, 0, none⟩) ms cs)) gb 26 (zc ⟨#[99, 111, 109]⟩ (.slice (some ⟨gs, 0, none⟩) ms cs))) := B5.out.set 1 _
    have K6 := Lib.hid (K5.out.other (p := ⟨gb, 1, none⟩) nz (.slice (some ⟨gs, 0, none⟩) ms cs))
    have C6 := Lib.hid (cur_new C5.out (Nat.lt_trans GW.out NZ.out) 1 (.slice (some ⟨gs, 0, none⟩) ms cs))
    have G6 := Lib.hid (grown_new G5.out (Nat.le_of_lt NZ.out) 1 (.slice (some ⟨gs, 0, none⟩) ms cs))
    have O6 := Lib.hid (own_set O5.out ng 1 (.slice (some ⟨gs, 0, none⟩) ms cs))
    go_upto_region 17 with (fail)
    clear b1 f1 B5 K5 C5 G5 O5
    generalize w5.setCell ⟨gb, 1, none⟩ (.slice (some ⟨gs, 0, none⟩) ms cs) = w6 at *
    have SR := Lib.hid (own_sr O6.out)
    have FN := Lib.hid (done (s' := ⟨#[99, 111, 109]⟩) C6.out G6.out GW.out K6.out SR.out hbs (.slice (some ⟨gs, 0, none⟩) ms cs))
    have r0 : w6.cell? ⟨w.heap.size, 0, none⟩ = some (.string ⟨#[]⟩) := K6.out.cell 0
    have r1 : w6.cell? ⟨w.heap.size, 1, none⟩ = some (.slice none 0 0) := K6.out.cell 1
    have q0 := K6.out.free 0
    have q1 := K6.out.free 1
    have z0 : w6.cell? ⟨gb, 0, none⟩ = some (.string ⟨#[99, 111, 109]⟩) := KB.out.cell 0
    have z1 : w6.cell? ⟨gb, 1, none⟩ = some (.slice (some ⟨gs, 0, none⟩) ms cs) := KB.out.cell 1
    go_wp2
    exact bodyPost_ret (v := .agg #[.string ⟨#[99, 111, 109]⟩, .slice (some ⟨gs, 0, none⟩) ms cs]) (resZ1 rfl FN.out.1 rfl) rfl ⟨⟨#[99, 111, 109]⟩, gs, 0, ms, cs, (uqz S), rfl, (by decide), N9, HL.out, HT.out, Nat.le_of_lt hbs, FN.out.2.2.2, FN.out.2.1, FN.out.2.2.1⟩
  by_cases c5 : x = 5
  · subst c5
    clear c0 c1 c2 c3 c4 hx0 hx1
    have DD := Lib.hid (D3.out.step (v' := w3.drew) (D3.out.2.1.grown (grown_drewN (grown_refl w3 none) 1) (fun _ e => by cases e)) (grown_drewN (grown_refl w3 (some g)) 1))
    have b1 : w3.drew.cell? ⟨gb, 1, none⟩ = some (.slice (some ⟨gl, 0, none⟩) m cap) := DD.out.2.2.2.2.1.cell 1
    have NZ : Hid (w.heap.size < gb) := by show _ < _; have h1 := D3.out.1.2.1; have h2 := D3.out.1.2.2.1; omega
    have NB := Lib.hid D3.out.1.2.1
    clear D3
    go_wp2
    have SM : Hid (∀ x ∈ L ++ [(Rec.mk ⟨#[97, 46, 99, 111, 109]⟩ 6 5 2 ⟨#[]⟩ ⟨#[]⟩)], Sml x) := fun x hx => by
      rcases List.mem_append.1 hx with hx | hx
      · exact HS.out x hx
      · rw [List.mem_singleton.1 hx]; exact ⟨by decide, by decide, by decide⟩
    have LN : Hid ((L ++ [(Rec.mk ⟨#[97, 46, 99, 111, 109]⟩ 6 5 2 ⟨#[]⟩ ⟨#[]⟩)]).length = m + 1) := show _ = _ by rw [List.length_append, HM.out]; rfl
    go_region_law (first
      | (go_simp; go_at_call 69; refine (ZoneH.l10Start ⟨#[97, 46, 99, 111, 109]⟩ 5 2 (by simp) w3.drew).mono ?_; rintro e w4 ⟨rfl, hl4⟩; have D4 := Lib.hid (DD.out.step (cur_below DD.out.2.1 hl4) (below_grown hl4)); have y1 : w4.cell? ⟨gb, 1, none⟩ = some (.slice (some ⟨gl, 0, none⟩) m cap) := D4.out.2.2.2.2.1.cell 1; have D5 := Lib.hid (D4.out.step (D4.out.2.1.alloc (.cells #[.string ⟨#[97, 46, 99, 111, 109]⟩, .int .i64 6, .int .i64 5, .int .i64 2, .string ⟨#[]⟩, .string ⟨#[]⟩] 56)) (World.grownBy_alloc w4 (.cells #[.string ⟨#[97, 46, 99, 111, 109]⟩, .int .i64 6, .int .i64 5, .int .i64 2, .string ⟨#[]⟩, .string ⟨#[]⟩] 56) (some g))); have y2 : (w4.alloc (.cells #[.string ⟨#[97, 46, 99, 111, 109]⟩, .int .i64 6, .int .i64 5, .int .i64 2, .string ⟨#[]⟩, .string ⟨#[]⟩] 56)).cell? ⟨gb, 1, none⟩ = some (.slice (some ⟨gl, 0, none⟩) m cap) := D5.out.2.2.2.2.1.cell 1; have HB : Hid (base ≤ (w4.alloc (.cells #[.string ⟨#[97, 46, 99, 111, 109]⟩, .int .i64 6, .int .i64 5, .int .i64 2, .string ⟨#[]⟩, .string ⟨#[]⟩] 56)).heap.size) := (by show _ ≤ _; have h1 := (D5.out.2.2.2.2.2.lt gl rfl); omega); clear hl4)
      | (refine GlueS.step_append_recs rfl (.tmp 50) (.tmp 52) rfl base gl m cap L rfl D5.out.2.2.2.2.2 w4.heap.size 0 1 1 (w4.alloc (.cells #[.string ⟨#[97, 46, 99, 111, 109]⟩, .int .i64 6, .int .i64 5, .int .i64 2, .string ⟨#[]⟩, .string ⟨#[]⟩] 56)).heap.size [(Rec.mk ⟨#[97, 46, 99, 111, 109]⟩ 6 5 2 ⟨#[]⟩ ⟨#[]⟩)] rfl (one_sr w4 (Rec.mk ⟨#[97, 46, 99, 111, 109]⟩ 6 5 2 ⟨#[]⟩ ⟨#[]⟩)) (by omega) HB.out ?_; intro g6 cap6 w6 hown hgrow; have D6 := Lib.hid (D5.out.row hgrow); have k1 : w6.cell? ⟨gb, 1, none⟩ = some (.slice (some ⟨gl, 0, none⟩) m cap) := D6.out.2.2.2.cell 1)
      | (go_simp; go_at_call 68; refine (UniqZ.spec g6 0 (m + 1) cap6 (L ++ [(Rec.mk ⟨#[97, 46, 99, 111, 109]⟩ 6 5 2 ⟨#[]⟩ ⟨#[]⟩)]) w6 (own_sr hown) (by omega) (sml_fine SM.out)).mono ?_; rintro e w7 ⟨S, gs, ms, cs, hsrt, rfl, hlu, hou, hl7⟩; have B7 := Lib.hid (D6.out.2.2.2.below hl7 D6.out.2.2.2.lt); have x1 : w7.cell? ⟨gb, 1, none⟩ = some (.slice (some ⟨gl, 0, none⟩) m cap) := B7.out.cell 1; have xf := B7.out.free 1))
    all_goals
      have HT := Lib.hid (sml_uqz SM.out hsrt)
      have HL := Lib.hid hlu
      have N9 : ms ≤ 9 := by have h1 := uqz_short hsrt; rw [LN.out] at h1; omega
      have ng : gs ≠ gb := apart hou B7.out
      have hbs : w.heap.size < gs := by have h1 := NB.out; have h2 := (hou.lt gs rfl).1; have h3 := (hown.lt g6 rfl); omega
      have K7 := Lib.hid (D6.out.2.2.1.below hl7 D6.out.2.2.1.lt)
      have C7 := Lib.hid (cur_below D6.out.1 hl7)
      have G7 := Lib.hid (grown_below D6.out.2.1 hl7)
      have nz : w.heap.size ≠ gb := Nat.ne_of_lt NZ.out
      have KB : Hid (Bk (w7.setCell ⟨gb, 1, none⟩ (.slice (some ⟨gs, 0, none⟩) ms cs)) gb 26 (zc ⟨#[99, 111, 109]⟩ (.slice (some ⟨gs, 0, none⟩) ms cs))) := B7.out.set 1 _
      have K6 := Lib.hid (K7.out.other (p := ⟨gb, 1, none⟩) nz (.slice (some ⟨gs, 0, none⟩) ms cs))
      have C6 := Lib.hid (cur_new C7.out (Nat.lt_trans GW.out NZ.out) 1 (.slice (some ⟨gs, 0, none⟩) ms cs))
      have G6 := Lib.hid (grown_new G7.out (Nat.le_of_lt NZ.out) 1 (.slice (some ⟨gs, 0, none⟩) ms cs))
      have O6 := Lib.hid (own_set hou ng 1 (.slice (some ⟨gs, 0, none⟩) ms cs))
      go_upto_region 17 with (fail)
      clear hown hgrow D4 D5 D6 y1 y2 HB k1 b1 DD B7 x1 xf hou hlu hsrt hl7 K7 C7 G7
      generalize w7.setCell ⟨gb, 1, none⟩ (.slice (some ⟨gs, 0, none⟩) ms cs) = w8 at *
      have SR := Lib.hid (own_sr O6.out)
      have FN := Lib.hid (done (s' := ⟨#[99, 111, 109]⟩) C6.out G6.out GW.out K6.out SR.out hbs (.slice (some ⟨gs, 0, none⟩) ms cs))
      have r0 : w8.cell? ⟨w.heap.size, 0, none⟩ = some (.string ⟨#[]⟩) := K6.out.cell 0
      have r1 : w8.cell? ⟨w.heap.size, 1, none⟩ = some (.slice none 0 0) := K6.out.cell 1
      have q0 := K6.out.free 0
      have q1 := K6.out.free 1
      have z0 : w8.cell? ⟨gb, 0, none⟩ = some (.string ⟨#[99, 111, 109]⟩) := KB.out.cell 0
      have z1 : w8.cell? ⟨gb, 1, none⟩ = some (.slice (some ⟨gs, 0, none⟩) ms cs) := KB.out.cell 1
      go_wp2
      exact bodyPost_ret (v := .agg #[.string ⟨#[99, 111, 109]⟩, .slice (some ⟨gs, 0, none⟩) ms cs]) (resZ1 rfl FN.out.1 rfl) rfl ⟨⟨#[99, 111, 109]⟩, gs, 0, ms, cs, (uqz S), rfl, (by decide), N9, HL.out, HT.out, Nat.le_of_lt hbs, FN.out.2.2.2, FN.out.2.1, FN.out.2.2.1⟩
  by_cases c6 : x = 6
  · subst c6
    clear c0 c1 c2 c3 c4 c5 hx0 hx1
    have b1 : w3.cell? ⟨gb, 1, none⟩ = some (.slice (some ⟨gl, 0, none⟩) m cap) := D3.out.2.2.2.2.1.cell 1
    obtain ⟨rs, hbk, -, -, -⟩ := bk_of_owns6 D3.out.2.2.2.2.2
    have BK := Lib.hid hbk
    have hl0 : 0 < L.length := by rw [HM.out]; omega
    have t2 : w3.cell? ⟨gl, 2, none⟩ = some (.int .i64 L[0].ttl) := (bk_ce hbk 0 hl0).2.2.1
    have f2 := hbk.free 2
    have i1 : (0 : Int) < (m : Int) := by omega
    have NZ : Hid (w.heap.size < gb) := by show _ < _; have h1 := D3.out.1.2.1; have h2 := D3.out.1.2.2.1; omega
    have nl : gl ≠ gb := Nat.ne_of_lt D3.out.1.2.2.2
    have nw : gl ≠ w.heap.size := Nat.ne_of_gt hbl
    clear hbk
    go_wp2
    go_region
    generalize wrap64 (L[0].ttl + 1) = y at *
    have BR : Hid (Bk (w3.setCell ⟨gl, 2, none⟩ (.int .i64 y)) gl 56 (fl ((L.take 1).map (SetMath.wr y) ++ L.drop 1) ++ rs)) := by
      have h1 := BK.out.set 2 (.int .i64 y)
      have h2 := Wt.put_ttl y L rs 0 hl0
      simp only [List.take_zero, List.map_nil, List.nil_append, List.drop_zero, Nat.zero_mul, Nat.zero_add] at h2
      rw [h2] at h1
      exact h1
    have KB : Hid (Bk (w3.setCell ⟨gl, 2, none⟩ (.int .i64 y)) gb 26 (zc ⟨#[99, 111, 109]⟩ (.slice (some ⟨gl, 0, none⟩) m cap))) := D3.out.2.2.2.2.1.other (p := ⟨gl, 2, none⟩) (Ne.symm nl) _
    have K5 : Hid (Bk (w3.setCell ⟨gl, 2, none⟩ (.int .i64 y)) w.heap.size 26 (zc ⟨#[]⟩ (.slice none 0 0))) := D3.out.2.2.2.1.other (p := ⟨gl, 2, none⟩) (Ne.symm nw) _
    have C5 := Lib.hid (cur_new D3.out.2.1 (Nat.lt_trans GW.out hbl) 2 (.int .i64 y))
    have G5 := Lib.hid (grown_new D3.out.2.2.1 (Nat.le_of_lt hbl) 2 (.int .i64 y))
    have LN : Hid (((L.take 1).map (SetMath.wr y) ++ L.drop 1).length = m) := show _ = _ by
      rw [List.length_append, List.length_map, List.length_take, List.length_drop, HM.out]; omega
    have SM : Hid (∀ x ∈ (L.take 1).map (SetMath.wr y) ++ L.drop 1, Sml x) := fun x hx => by
      rcases List.mem_append.1 hx with hx | hx
      · obtain ⟨z, hz, rfl⟩ := List.mem_map.1 hx
        exact HS.out z (List.mem_of_mem_take hz)
      · exact HS.out x (List.mem_of_mem_drop hx)
    have SR0 := Lib.hid (bk_sr BR.out LN.out)
    generalize (L.take 1).map (SetMath.wr y) ++ L.drop 1 = M at *
    clear b1 t2 f2 i1 BK BR D3
    have CD : Hid (Cur (w3.setCell ⟨gl, 2, none⟩ (.int .i64 y)).drew g) := C5.out.grown (grown_drewN (grown_refl _ none) 1) (fun _ e => by cases e)
    have GD : Hid (w.grownBy (w3.setCell ⟨gl, 2, none⟩ (.int .i64 y)).drew (some g)) := grown_trans G5.out (grown_drewN (grown_refl _ (some g)) 1)
    have KD : Hid (Bk (w3.setCell ⟨gl, 2, none⟩ (.int .i64 y)).drew w.heap.size 26 (zc ⟨#[]⟩ (.slice none 0 0))) := K5.out
    have BD : Hid (Bk (w3.setCell ⟨gl, 2, none⟩ (.int .i64 y)).drew gb 26 (zc ⟨#[99, 111, 109]⟩ (.slice (some ⟨gl, 0, none⟩) m cap))) := KB.out
    have SR : Hid (Sr (w3.setCell ⟨gl, 2, none⟩ (.int .i64 y)).drew (w3.setCell ⟨gl, 2, none⟩ (.int .i64 y)).drew.heap.size (some ⟨gl, 0, none⟩) m M) := SR0.out
    go_upto_region 17 with (fail)
    clear C5 G5 K5 KB SR0
    generalize (w3.setCell ⟨gl, 2, none⟩ (.int .i64 y)).drew = w5 at *
    have FN := Lib.hid (done (s' := ⟨#[99, 111, 109]⟩) CD.out GD.out GW.out KD.out SR.out hbl (.slice (some ⟨gl, 0, none⟩) m cap))
    have r0 : w5.cell? ⟨w.heap.size, 0, none⟩ = some (.string ⟨#[]⟩) := KD.out.cell 0
    have r1 : w5.cell? ⟨w.heap.size, 1, none⟩ = some (.slice none 0 0) := KD.out.cell 1
    have q0 := KD.out.free 0
    have q1 := KD.out.free 1
    have z0 : w5.cell? ⟨gb, 0, none⟩ = some (.string ⟨#[99, 111, 109]⟩) := BD.out.cell 0
    have z1 : w5.cell? ⟨gb, 1, none⟩ = some (.slice (some ⟨gl, 0, none⟩) m cap) := BD.out.cell 1
    go_wp2
    exact bodyPost_ret (v := .agg #[.string ⟨#[99, 111, 109]⟩, .slice (some ⟨gl, 0, none⟩) m cap]) (resZ1 rfl FN.out.1 rfl) rfl ⟨⟨#[99, 111, 109]⟩, gl, 0, m, cap, M, rfl, (by decide), (by omega), LN.out, SM.out, Nat.le_of_lt hbl, FN.out.2.2.2, FN.out.2.1, FN.out.2.2.1⟩
  have e0 : (x == 0) = false := by simpa using c0
  have e1 : (x == 1) = false := by simpa using c1
  have e2 : (x == 2) = false := by simpa using c2
  have e3 : (x == 3) = false := by simpa using c3
  have e4 : (x == 4) = false := by simpa using c4
  have e5 : (x == 5) = false := by simpa using c5
  have e6 : (x == 6) = false := by simpa using c6
  clear c0 c1 c2 c3 c4 c5 c6 hx0 hx1
  have SR := Lib.hid (own_sr D3.out.2.2.2.2.2)
  have FN := Lib.hid (done (s' := ⟨#[99, 111, 109]⟩) D3.out.2.1 D3.out.2.2.1 GW.out D3.out.2.2.2.1 SR.out hbl (.slice (some ⟨gl, 0, none⟩) m cap))
  have r0 : w3.cell? ⟨w.heap.size, 0, none⟩ = some (.string ⟨#[]⟩) := D3.out.2.2.2.1.cell 0
  have r1 : w3.cell? ⟨w.heap.size, 1, none⟩ = some (.slice none 0 0) := D3.out.2.2.2.1.cell 1
  have q0 := D3.out.2.2.2.1.free 0
  have q1 := D3.out.2.2.2.1.free 1
  have z0 : w3.cell? ⟨gb, 0, none⟩ = some (.string ⟨#[99, 111, 109]⟩) := D3.out.2.2.2.2.1.cell 0
  have z1 : w3.cell? ⟨gb, 1, none⟩ = some (.slice (some ⟨gl, 0, none⟩) m cap) := D3.out.2.2.2.2.1.cell 1
  go_wp2
  exact bodyPost_ret (v := .agg #[.string ⟨#[99, 111, 109]⟩, .slice (some ⟨gl, 0, none⟩) m cap]) (resZ1 rfl FN.out.1 rfl) rfl ⟨⟨#[99, 111, 109]⟩, gl, 0, m, cap, L, rfl, (by decide), (by omega), HM.out, HS.out, Nat.le_of_lt hbl, FN.out.2.2.2, FN.out.2.1, FN.out.2.2.1⟩

end Go.Proofs.Ytjgmocmaeadjdaa.DrawY

/- What the model's draws of zones of chapter 10 do: zones of at most 9 records of short texts, and names; nothing that was there is turned. -/
namespace Go.Proofs.Ytjgmocmaeadjdaa.DrawZk
open Go.RowKit Go.Proofs.Ytjgmocmaeadjdaa.Mem Go.Proofs.Ytjgmocmaeadjdaa.MemR Go.Proofs.Ytjgmocmaeadjdaa.MemZ Go.Proofs.Ytjgmocmaeadjdaa.ResR Go.Proofs.Ytjgmocmaeadjdaa.ResZ Go.Proofs.Ytjgmocmaeadjdaa.Draw Go.Proofs.Ytjgmocmaeadjdaa.DrawS Go.Proofs.Ytjgmocmaeadjdaa.DrawL Go.Proofs.Ytjgmocmaeadjdaa.DrawN Go.Proofs.Ytjgmocmaeadjdaa.DrawR Go.Proofs.Ytjgmocmaeadjdaa.DrawZ Go.Proofs.Ytjgmocmaeadjdaa.DrawY

/-- A zone that is drawn; nothing that was there is turned. -/
def Zo (w : World) (e : Ending) (w' : World) : Prop :=
  ∃ (s : ByteArray) (b o n c : Nat) (L : List Rec), e = .returned (.agg #[.string s, .slice (some ⟨b, o, none⟩) n c]) ∧ s.size ≤ 20 ∧ n ≤ 9 ∧ (∀ r ∈ L, Sml r) ∧ Sr w' w'.heap.size (some ⟨b, o, none⟩) n L ∧ Below w.heap.size w w'

/-- A zone and a name that are drawn; nothing that was there is turned. -/
def Zn (w : World) (e : Ending) (w' : World) : Prop :=
  ∃ (s : ByteArray) (b o n c : Nat) (L : List Rec) (nm : ByteArray), e = .returned (.tuple #[.agg #[.string s, .slice (some ⟨b, o, none⟩) n c], .string nm]) ∧ s.size ≤ 20 ∧ nm.size ≤ 20 ∧ n ≤ 9 ∧ (∀ r ∈ L, Sml r) ∧ Sr w' w'.heap.size (some ⟨b, o, none⟩) n L ∧ Below w.heap.size w w'

theorem sr_move {w w' : World} {B b o n : Nat} {L : List Rec} (h : Sr w B (some ⟨b, o, none⟩) n L) (hB : B ≤ w'.heap.size) (hk : ∀ p : Addr, p.block = b → w'.cell? p = w.cell? p) : Sr w' w'.heap.size (some ⟨b, o, none⟩) n L := by
  obtain ⟨h1, h2⟩ := h
  refine ⟨h1, fun hn => ?_⟩
  obtain ⟨b', o', hA, hlt, hcs⟩ := h2 hn
  obtain ⟨rfl, rfl⟩ : b = b' ∧ o = o' := by simpa using hA
  exact ⟨b, o, rfl, Nat.lt_of_lt_of_le hlt hB, fun j hj => (hcs j hj).move hk⟩

theorem sr_grown {w w' : World} {b o n g : Nat} {L : List Rec} (h : Sr w w.heap.size (some ⟨b, o, none⟩) n L) (hg : w.grownBy w' (some g)) (hne : b ≠ g) (hb : 0 < n → b < w.heap.size) : Sr w' w'.heap.size (some ⟨b, o, none⟩) n L := by
  by_cases hn : 0 < n
  · exact sr_move h hg.size fun p hp => World.cell?_of_block (hg.block _ (by rw [hp]; exact hb hn) (fun e => hne (by rw [← hp]; exact Option.some.inj e)))
  · exact ⟨h.1, fun h0 => absurd h0 hn⟩

theorem sr_lt {w : World} {b o n : Nat} {L : List Rec} (h : Sr w w.heap.size (some ⟨b, o, none⟩) n L) : 0 < n → b < w.heap.size := fun hn => by
  obtain ⟨b', o', hA, hlt, _⟩ := h.2 hn
  obtain ⟨rfl, rfl⟩ : b = b' ∧ o = o' := by simpa using hA
  exact hlt

/-- The end: the result's box is filled with the zone. -/
theorem ends1 {w v : World} {gz b o n : Nat} {M : List Rec} (hk : Bk v gz 26 (zc ⟨#[]⟩ (.slice none 0 0))) (hr : Sr v v.heap.size (some ⟨b, o, none⟩) n M) (hb : b ≠ gz) (hB : Below w.heap.size w v) (hz : w.heap.size ≤ gz) (s' : ByteArray) (y : Value) :
    Bk (filZ v gz s' y) gz 26 (zc s' y) ∧ Sr (filZ v gz s' y) (filZ v gz s' y).heap.size (some ⟨b, o, none⟩) n M ∧ Below w.heap.size w (filZ v gz s' y) := by
  refine ⟨filZ_bk hk s' y, sr_move hr (by simp [filZ, World.setCell]) fun p hp => ?_, filZ_below hB hz s' y⟩
  unfold filZ
  rw [World.cell?_of_block (Below.heap_setCell _ _ _ _ (by rw [hp]; exact hb)), World.cell?_of_block (Below.heap_setCell _ _ _ _ (by rw [hp]; exact hb))]

end Go.Proofs.Ytjgmocmaeadjdaa.DrawZk

/- Plain facts on memory: messages, and what a message in a box of its own reads as. -/
namespace Go.Proofs.Ytjgmocmaeadjdaa.MemM
open Go.RowKit Go.Proofs.Ytjgmocmaeadjdaa.Mem Go.Proofs.Ytjgmocmaeadjdaa.MemR Go.Proofs.Ytjgmocmaeadjdaa.BoxR

/-- A message without its sections. -/
structure Hd where
  id : Int
  rp : Bool
  au : Bool
  ct : Bool
  wa : Bool
  ca : Bool
  code : Int
  qn : ByteArray
  qt : Int
/-- The cells that hold a message. -/
def mc (h : Hd) (x y z : Value) : List Value := [.int .i64 h.id, .bool h.rp, .bool h.au, .bool h.ct, .bool h.wa, .bool h.ca, .int .i64 h.code, .string h.qn, .int .i64 h.qt, x, y, z]
/-- The head with nothing in it. -/
def zh : Hd := ⟨0, false, false, false, false, false, 0, ⟨#[]⟩, 0⟩
/-- The message in a box of its own: its cells. -/
def Mx (w : World) (g : Nat) (h : Hd) (x y z : Value) : Prop :=
  w.cell? ⟨g, 0, none⟩ = some (.int .i64 h.id) ∧ w.cell? ⟨g, 1, none⟩ = some (.bool h.rp) ∧ w.cell? ⟨g, 2, none⟩ = some (.bool h.au) ∧ w.cell? ⟨g, 3, none⟩ = some (.bool h.ct) ∧ w.cell? ⟨g, 4, none⟩ = some (.bool h.wa) ∧ w.cell? ⟨g, 5, none⟩ = some (.bool h.ca) ∧ w.cell? ⟨g, 6, none⟩ = some (.int .i64 h.code) ∧ w.cell? ⟨g, 7, none⟩ = some (.string h.qn) ∧ w.cell? ⟨g, 8, none⟩ = some (.int .i64 h.qt) ∧ w.cell? ⟨g, 9, none⟩ = some (x) ∧ w.cell? ⟨g, 10, none⟩ = some (y) ∧ w.cell? ⟨g, 11, none⟩ = some (z)
section
variable {w w' : World} {g B : Nat} {t : TypeId} {h : Hd} {x y z : Value}
theorem mx_of (k : Bk w g t (mc h x y z)) : Mx w g h x y z := ⟨k.cell 0, k.cell 1, k.cell 2, k.cell 3, k.cell 4, k.cell 5, k.cell 6, k.cell 7, k.cell 8, k.cell 9, k.cell 10, k.cell 11⟩
theorem Mx.lt (k : Mx w g h x y z) : g < w.heap.size := World.block_lt_of_cell? _ _ k.1
theorem Mx.move (k : Mx w g h x y z) (e : ∀ j, w'.cell? ⟨g, j, none⟩ = w.cell? ⟨g, j, none⟩) : Mx w' g h x y z :=
  ⟨(e 0).trans k.1, (e 1).trans k.2.1, (e 2).trans k.2.2.1, (e 3).trans k.2.2.2.1, (e 4).trans k.2.2.2.2.1, (e 5).trans k.2.2.2.2.2.1, (e 6).trans k.2.2.2.2.2.2.1, (e 7).trans k.2.2.2.2.2.2.2.1, (e 8).trans k.2.2.2.2.2.2.2.2.1, (e 9).trans k.2.2.2.2.2.2.2.2.2.1, (e 10).trans k.2.2.2.2.2.2.2.2.2.2.1, (e 11).trans k.2.2.2.2.2.2.2.2.2.2.2⟩
theorem Mx.below (k : Mx w g h x y z) (hb : Below w.heap.size w w') : Mx w' g h x y z := k.move fun j => hb.cell (p := ⟨g, j, none⟩) k.lt
theorem mx_new (w : World) (t : TypeId) (h : Hd) (x y z : Value) : Mx (w.alloc (.cells #[.int .i64 h.id, .bool h.rp, .bool h.au, .bool h.ct, .bool h.wa, .bool h.ca, .int .i64 h.code, .string h.qn, .int .i64 h.qt, x, y, z] t)) w.heap.size h x y z :=
  mx_of (t := t) (heap_alloc_new w _)
theorem Mx.alloc (k : Mx w g h x y z) (o : Obj) : Mx (w.alloc o) g h x y z := k.below ((Below.refl _ _).alloc (Nat.le_refl _) _)
theorem Mx.grown {row : Option Nat} (k : Mx w g h x y z) (hb : w.grownBy w' row) (hg : some g ≠ row) : Mx w' g h x y z :=
  k.move fun _ => World.cell?_of_block (hb.block g k.lt hg)
theorem Mx.set1 (k : Mx w g h x y z) {p : Addr} (hp : g ≠ p.block) (u : Value) : Mx (w.setCell p u) g h x y z := k.move fun _ => World.cell?_of_block (Below.heap_setCell w p u g hp)
theorem Mx.set2 (k : Mx w g h x y z) {p q : Addr} (hp : g ≠ p.block) (hq : g ≠ q.block) (u v : Value) : Mx ((w.setCell p u).setCell q v) g h x y z := (k.set1 hp u).set1 hq v
theorem Mx.drawn (k : Mx w g h x y z) (d : Nat) (os : Array Obj) : Mx (Sort.grow (redrawn w d) os) g h x y z := k.below (below_regrown w d os)
end
/-- A question in a box of its own: its cells. -/
def Qx (w : World) (g : Nat) (s : ByteArray) (n : Int) : Prop := w.cell? ⟨g, 0, none⟩ = some (.string s) ∧ w.cell? ⟨g, 1, none⟩ = some (.int .i64 n)
section
variable {w w' : World} {g : Nat} {s : ByteArray} {n : Int}
theorem Qx.lt (k : Qx w g s n) : g < w.heap.size := World.block_lt_of_cell? _ _ k.1
theorem Qx.below (k : Qx w g s n) (hb : Below w.heap.size w w') : Qx w' g s n := ⟨(hb.cell (p := ⟨g, 0, none⟩) k.lt).trans k.1, (hb.cell (p := ⟨g, 1, none⟩) k.lt).trans k.2⟩
theorem qx_new (w : World) (t : TypeId) (s : ByteArray) (n : Int) : Qx (w.alloc (.cells #[.string s, .int .i64 n] t)) w.heap.size s n := by
  have b : Bk (w.alloc (.cells #[.string s, .int .i64 n] t)) w.heap.size t [.string s, .int .i64 n] := heap_alloc_new w _
  exact ⟨b.cell 0, b.cell 1⟩
end
/-- The call returned a message with the head h and three new slices that read as these records, and turned nothing that was there. -/
def GivesM (w : World) (h : Hd) (n1 n2 n3 : Nat) (l1 l2 l3 : List Rec) (e : Ending) (w' : World) : Prop :=
  ∃ g1 c1 r1 g2 c2 r2 g3 c3 r3, e = .returned (.agg #[.int .i64 h.id, .bool h.rp, .bool h.au, .bool h.ct, .bool h.wa, .bool h.ca, .int .i64 h.code, .string h.qn, .int .i64 h.qt, .slice (some ⟨g1, 0, none⟩) n1 c1, .slice (some ⟨g2, 0, none⟩) n2 c2, .slice (some ⟨g3, 0, none⟩) n3 c3]) ∧
    Bk w' g1 56 (fl l1 ++ r1) ∧ Bk w' g2 56 (fl l2 ++ r2) ∧ Bk w' g3 56 (fl l3 ++ r3) ∧ w.heap.size ≤ g1 ∧ g1 < g2 ∧ g2 < g3 ∧ Below w.heap.size w w'
/-- Nothing of w has been turned. A def, so that no step of a walk opens it. -/
def Sv (w w' : World) : Prop := Below w.heap.size w w'
section
variable {w0 w w' : World} {g k : Nat} {h j : Hd} {x y z a b c : Value}
/-- Two boxes with messages, kept through a call that turns nothing. -/
theorem kept2 (m : (Mx w g h x y z ∧ Mx w k j a b c) ∧ Sv w0 w) (hl : Below w.heap.size w w') : (Mx w' g h x y z ∧ Mx w' k j a b c) ∧ Sv w0 w' := ⟨⟨m.1.1.below hl, m.1.2.below hl⟩, m.2.trans (hl.mono m.2.size)⟩
theorem kept2_draw (m : (Mx w g h x y z ∧ Mx w k j a b c) ∧ Sv w0 w) : (Mx w.drew g h x y z ∧ Mx w.drew k j a b c) ∧ Sv w0 w.drew := kept2 m ((Below.refl _ _).drew)
end
end Go.Proofs.Ytjgmocmaeadjdaa.MemM

/- What the model's draws of zones and questions of chapter 11 do: zones of at most 9 records of short texts, questions of short names; nothing that was there is turned but the cursor. -/
namespace Go.Proofs.Ytjgmocmaeadjdaa.DrawPr
open Go.RowKit Go.Proofs.Ytjgmocmaeadjdaa.Mem Go.Proofs.Ytjgmocmaeadjdaa.MemR Go.Proofs.Ytjgmocmaeadjdaa.MemZ Go.Proofs.Ytjgmocmaeadjdaa.BoxR Go.Proofs.Ytjgmocmaeadjdaa.ResR Go.Proofs.Ytjgmocmaeadjdaa.ResZ Go.Proofs.Ytjgmocmaeadjdaa.Draw Go.Proofs.Ytjgmocmaeadjdaa.DrawS Go.Proofs.Ytjgmocmaeadjdaa.DrawL Go.Proofs.Ytjgmocmaeadjdaa.DrawN Go.Proofs.Ytjgmocmaeadjdaa.DrawR Go.Proofs.Ytjgmocmaeadjdaa.ZoneL Go.Proofs.Ytjgmocmaeadjdaa.DrawZ Go.Proofs.Ytjgmocmaeadjdaa.DrawY Go.Proofs.Ytjgmocmaeadjdaa.DrawZk

theorem sr_cell {v : World} {b o m k i : Nat} {L : List Rec} (h : Sr v v.heap.size (some ⟨b, o, none⟩) m L) (hk : 0 < m → b ≠ k) (u : Value) : Sr (v.setCell ⟨k, i, none⟩ u) (v.setCell ⟨k, i, none⟩ u).heap.size (some ⟨b, o, none⟩) m L := by
  by_cases hm : 0 < m
  · exact sr_move h (by simp [World.setCell]) fun p hp => World.cell?_of_block (Below.heap_setCell _ _ _ _ (by rw [hp]; exact hk hm))
  · exact ⟨h.1, fun h0 => absurd h0 hm⟩

theorem sr_ce {v : World} {B b o m : Nat} {L : List Rec} (h : Sr v B (some ⟨b, o, none⟩) m L) (k : Nat) (hk : k < L.length) : Ce v b (o + k * 6) L[k] := by
  obtain ⟨b', o', hA, _, hc⟩ := h.2 (by have := h.1; omega)
  obtain ⟨rfl, rfl⟩ : b = b' ∧ o = o' := by simpa using hA
  exact hc k hk

theorem sr_gr {v v' : World} {b o m g : Nat} {L : List Rec} (h : Sr v v.heap.size (some ⟨b, o, none⟩) m L) (hg : v.grownBy v' (some g)) (hne : 0 < m → b ≠ g) : Sr v' v'.heap.size (some ⟨b, o, none⟩) m L := by
  by_cases hm : 0 < m
  · exact sr_grown h hg (hne hm) (sr_lt h)
  · exact ⟨h.1, fun h0 => absurd h0 hm⟩

/-- What is kept while a zone and a question are drawn: the cursor, the results' boxes, the zone's box, the question's box, the records. -/
def Dp (w : World) (g gb gq : Nat) (s : ByteArray) (b o m cap : Nat) (L : List Rec) (nm : ByteArray) (ty : Int) (v : World) : Prop :=
  (g < w.heap.size ∧ w.heap.size + 1 < gb ∧ gb < gq ∧ w.heap.size + 1 < b ∧ (0 < m → b < gb)) ∧ Cur v g ∧ w.grownBy v (some g) ∧ Bk v w.heap.size 26 (zc ⟨#[]⟩ (.slice none 0 0)) ∧ Bk v (w.heap.size + 1) 28 [.string ⟨#[]⟩, .int .i64 0] ∧ Zx v gb s (.slice (some ⟨b, o, none⟩) m cap) ∧ Bk v gq 28 [.string nm, .int .i64 ty] ∧ Sr v v.heap.size (some ⟨b, o, none⟩) m L

section
variable {w v v' : World} {g gb gq b o m cap : Nat} {s nm : ByteArray} {L : List Rec} {ty : Int}

theorem Dp.step (h : Dp w g gb gq s b o m cap L nm ty v) (hc : Cur v' g) (hg : v.grownBy v' (some g)) : Dp w g gb gq s b o m cap L nm ty v' := by
  obtain ⟨⟨h1, h2, h3, h4, h5⟩, _, hb, k1, k2, k3, k4, ks⟩ := h
  exact ⟨⟨h1, h2, h3, h4, h5⟩, hc, grown_trans hb hg, k1.grown hg (fun e => by have := Option.some.inj e; omega), k2.grown hg (fun e => by have := Option.some.inj e; omega), k3.grown hg (fun e => by have := Option.some.inj e; omega), k4.grown hg (fun e => by have := Option.some.inj e; omega), sr_gr ks hg (fun _ => by omega)⟩

theorem Dp.alloc (h : Dp w g gb gq s b o m cap L nm ty v) (x : Obj) : Dp w g gb gq s b o m cap L nm ty (v.alloc x) := by
  obtain ⟨h0, hc, hb, k1, k2, k3, k4, ks⟩ := h
  exact ⟨h0, hc.alloc _, grown_trans hb (World.grownBy_alloc v x (some g)), k1.alloc _, k2.alloc _, k3.alloc _, k4.alloc _, ks.on ((Below.refl _ _).alloc (Nat.le_refl _) _)⟩

theorem Dp.drew (h : Dp w g gb gq s b o m cap L nm ty v) : Dp w g gb gq s b o m cap L nm ty v.drew :=
  h.step (h.2.1.grown (grown_drewN (grown_refl v none) 1) (fun _ e => by cases e)) (grown_drewN (grown_refl v (some g)) 1)

theorem Dp.fil (h : Dp w g gb gq s b o m cap L nm ty v) {gr : Nat} (hr : gq < gr) (r : Rec) : Dp w g gb gq s b o m cap L nm ty (fil v gr r) := by
  obtain ⟨⟨h1, h2, h3, h4, h5⟩, hc, hb, k1, k2, k3, k4, ks⟩ := h
  have nb : 0 < m → b ≠ gr := fun hm => by have := h5 hm; omega
  have hne : gb ≠ gr := by omega
  have kz : Zx (ResR.fil v gr r) gb s (.slice (some ⟨b, o, none⟩) m cap) := by
    unfold ResR.fil
    exact (((((k3.set1 (p := ⟨gr, 0, none⟩) hne _).set1 (p := ⟨gr, 1, none⟩) hne _).set1 (p := ⟨gr, 2, none⟩) hne _).set1 (p := ⟨gr, 3, none⟩) hne _).set1 (p := ⟨gr, 4, none⟩) hne _).set1 (p := ⟨gr, 5, none⟩) hne _
  refine ⟨⟨h1, h2, h3, h4, h5⟩, cur_fil hc (by omega) r, grown_fil hb (by omega) r, fil_other k1 (by omega) r, fil_other k2 (by omega) r, kz, fil_other k4 (by omega) r, ?_⟩
  unfold ResR.fil
  exact sr_cell (sr_cell (sr_cell (sr_cell (sr_cell (sr_cell ks nb _) nb _) nb _) nb _) nb _) nb _

theorem Dp.setq (h : Dp w g gb gq s b o m cap L nm ty v) (nm' : ByteArray) (ty' : Int) : Dp w g gb gq s b o m cap L nm' ty' (filK v gq nm' ty') := by
  obtain ⟨⟨h1, h2, h3, h4, h5⟩, hc, hb, k1, k2, k3, k4, ks⟩ := h
  have nb : 0 < m → b ≠ gq := fun hm => by have := h5 hm; omega
  unfold filK
  exact ⟨⟨h1, h2, h3, h4, h5⟩, cur_new (cur_new hc (by omega) 0 _) (by omega) 1 _, grown_new (grown_new hb (by omega) 0 _) (by omega) 1 _,
    (k1.other (p := ⟨gq, 0, none⟩) (show w.heap.size ≠ gq by omega) _).other (p := ⟨gq, 1, none⟩) (show w.heap.size ≠ gq by omega) _,
    (k2.other (p := ⟨gq, 0, none⟩) (show w.heap.size + 1 ≠ gq by omega) _).other (p := ⟨gq, 1, none⟩) (show w.heap.size + 1 ≠ gq by omega) _,
    (k3.set1 (p := ⟨gq, 0, none⟩) (show gb ≠ gq by omega) _).set1 (p := ⟨gq, 1, none⟩) (show gb ≠ gq by omega) _,
    (k4.set 0 (.string nm')).set 1 (.int .i64 ty'), sr_cell (sr_cell ks nb _) nb _⟩

/-- The end: the results' boxes are filled. -/
theorem Dp.ends (h : Dp w g gb gq s b o m cap L nm ty v) : Bk (filK (filZ v w.heap.size s (.slice (some ⟨b, o, none⟩) m cap)) (w.heap.size + 1) nm ty) w.heap.size 26 (zc s (.slice (some ⟨b, o, none⟩) m cap)) ∧ Bk (filK (filZ v w.heap.size s (.slice (some ⟨b, o, none⟩) m cap)) (w.heap.size + 1) nm ty) (w.heap.size + 1) 28 [.string nm, .int .i64 ty] ∧ Sr (filK (filZ v w.heap.size s (.slice (some ⟨b, o, none⟩) m cap)) (w.heap.size + 1) nm ty) (filK (filZ v w.heap.size s (.slice (some ⟨b, o, none⟩) m cap)) (w.heap.size + 1) nm ty).heap.size (some ⟨b, o, none⟩) m L ∧ Cur (filK (filZ v w.heap.size s (.slice (some ⟨b, o, none⟩) m cap)) (w.heap.size + 1) nm ty) g ∧ w.grownBy (filK (filZ v w.heap.size s (.slice (some ⟨b, o, none⟩) m cap)) (w.heap.size + 1) nm ty) (some g) := by
  obtain ⟨⟨h1, h2, h3, h4, h5⟩, hc, hb, k1, k2, k3, k4, ks⟩ := h
  have n1 : 0 < m → b ≠ w.heap.size := fun _ => by omega
  have n2 : 0 < m → b ≠ w.heap.size + 1 := fun _ => by omega
  unfold filK filZ
  refine ⟨(((k1.set 0 (.string s)).set 1 _).other (p := ⟨w.heap.size + 1, 0, none⟩) (show w.heap.size ≠ w.heap.size + 1 by omega) _).other (p := ⟨w.heap.size + 1, 1, none⟩) (show w.heap.size ≠ w.heap.size + 1 by omega) _, ?_, sr_cell (sr_cell (sr_cell (sr_cell ks n1 _) n1 _) n2 _) n2 _, cur_new (cur_new (cur_new (cur_new hc (by omega) 0 _) (by omega) 1 _) (by omega) 0 _) (by omega) 1 _, grown_new (grown_new (grown_new (grown_new hb (by omega) 0 _) (by omega) 1 _) (by omega) 0 _) (by omega) 1 _⟩
  exact (((k2.other (p := ⟨w.heap.size, 0, none⟩) (show w.heap.size + 1 ≠ w.heap.size by omega) _).other (p := ⟨w.heap.size, 1, none⟩) (show w.heap.size + 1 ≠ w.heap.size by omega) _).set 0 (.string nm)).set 1 (.int .i64 ty)
end

theorem bk_drew {w : World} {g : Nat} {t : TypeId} {cs : List Value} (h : Bk w g t cs) : Bk w.drew g t cs := h

theorem sr_drew {w : World} {A : Option Addr} {m : Nat} {L : List Rec} (h : Sr w w.heap.size A m L) : Sr w.drew w.drew.heap.size A m L := h

theorem endsD {w v : World} {g gb gq b o m cap : Nat} {s nm : ByteArray} {L : List Rec} {ty : Int} (h : Dp w g gb gq s b o m cap L nm ty v) : Bk (filK (filZ v w.heap.size s (.slice (some ⟨b, o, none⟩) m cap)) (w.heap.size + 1) nm ty).drew w.heap.size 26 (zc s (.slice (some ⟨b, o, none⟩) m cap)) ∧ Bk (filK (filZ v w.heap.size s (.slice (some ⟨b, o, none⟩) m cap)) (w.heap.size + 1) nm ty).drew (w.heap.size + 1) 28 [.string nm, .int .i64 ty] ∧ Sr (filK (filZ v w.heap.size s (.slice (some ⟨b, o, none⟩) m cap)) (w.heap.size + 1) nm ty).drew (filK (filZ v w.heap.size s (.slice (some ⟨b, o, none⟩) m cap)) (w.heap.size + 1) nm ty).drew.heap.size (some ⟨b, o, none⟩) m L ∧ Cur (filK (filZ v w.heap.size s (.slice (some ⟨b, o, none⟩) m cap)) (w.heap.size + 1) nm ty).drew g ∧ w.grownBy (filK (filZ v w.heap.size s (.slice (some ⟨b, o, none⟩) m cap)) (w.heap.size + 1) nm ty).drew (some g) := by
  obtain ⟨e1, e2, e3, e4, e5⟩ := h.ends
  exact ⟨bk_drew e1, bk_drew e2, sr_drew e3, e4.grown (grown_drewN (grown_refl _ none) 1) (fun _ e => by cases e), grown_drewN e5 1⟩

/-- A zone and a question that are drawn; the cursor moved, nothing else turned. -/
def Zp (w : World) (g : Nat) (e : Ending) (w' : World) : Prop :=
  ∃ (s : ByteArray) (b o n c : Nat) (L : List Rec) (nm : ByteArray) (ty : Int), e = .returned (.tuple #[.agg #[.string s, .slice (some ⟨b, o, none⟩) n c], .agg #[.string nm, .int .i64 ty]]) ∧ s.size ≤ 20 ∧ nm.size ≤ 60 ∧ n ≤ 9 ∧ (∀ r ∈ L, Sml r) ∧ w.heap.size < b ∧ Sr w' w'.heap.size (some ⟨b, o, none⟩) n L ∧ Cur w' g ∧ w.grownBy w' (some g)

set_option maxHeartbeats 4000000 in
set_option maxRecDepth 100000 in
theorem pair_any (g : Nat) (w : World) (hc : Cur w g) : Calls Try.prog 23 #[.pointer (some ⟨g, 0, none⟩)] w (Zp w g) := by
  have mixed : Try.prog.follows .mixedOrders = true := by kernel_rfl
  have hz1 : (w.alloc (.cells #[.string ⟨#[]⟩, .slice none 0 0] 26)).heap.size = w.heap.size + 1 := by simp
  have K0 : Hid (Bk ((w.alloc (.cells #[.string ⟨#[]⟩, .slice none 0 0] 26)).alloc (.cells #[.string ⟨#[]⟩, .int .i64 0] 28)) w.heap.size 26 (zc ⟨#[]⟩ (.slice none 0 0))) := (show Bk (w.alloc (.cells #[.string ⟨#[]⟩, .slice none 0 0] 26)) w.heap.size 26 (zc ⟨#[]⟩ (.slice none 0 0)) from heap_alloc_new w _).alloc _
  have Q0 : Hid (Bk ((w.alloc (.cells #[.string ⟨#[]⟩, .slice none 0 0] 26)).alloc (.cells #[.string ⟨#[]⟩, .int .i64 0] 28)) (w.heap.size + 1) 28 [.string ⟨#[]⟩, .int .i64 0]) := by
    show Bk _ _ _ _
    rw [← hz1]
    exact heap_alloc_new _ _
  have C0 := Lib.hid ((hc.alloc (.cells #[.string ⟨#[]⟩, .slice none 0 0] 26)).alloc (.cells #[.string ⟨#[]⟩, .int .i64 0] 28))
  have G0 : Hid (w.grownBy ((w.alloc (.cells #[.string ⟨#[]⟩, .slice none 0 0] 26)).alloc (.cells #[.string ⟨#[]⟩, .int .i64 0] 28)) (some g)) := grown_trans (World.grownBy_alloc w _ (some g)) (World.grownBy_alloc _ _ (some g))
  have N0 : Hid (w.heap.size + 1 < ((w.alloc (.cells #[.string ⟨#[]⟩, .slice none 0 0] 26)).alloc (.cells #[.string ⟨#[]⟩, .int .i64 0] 28)).heap.size) := by show _ < _; simp
  have NG := hc.lt
  clear hz1 hc
  go_enter Try.func23, Try.ntmps23
  go_upto_region 1 with (fail)
  generalize (w.alloc (.cells #[.string ⟨#[]⟩, .slice none 0 0] 26)).alloc (.cells #[.string ⟨#[]⟩, .int .i64 0] 28) = w0 at *
  go_wp2_with fail
  refine (any_any g w0 C0.out).mono ?_
  rintro e w1 ⟨s, b, o, m, cap, L, rfl, hs20, hm9, hlm, hsm, hbw, hsr, hc1, hg1⟩
  have SM := Lib.hid hsm
  have N1 : Hid (w.heap.size + 1 < w1.heap.size) := Nat.lt_of_lt_of_le N0.out hg1.size
  have NB1 : Hid (w.heap.size + 1 < b) := Nat.lt_of_lt_of_le N0.out hbw
  have NBW : Hid (w.heap.size < b) := Nat.lt_of_succ_lt NB1.out
  have LT := Lib.hid (sr_lt hsr)
  have K1 := Lib.hid (K0.out.grown hg1 (fun e => by have := Option.some.inj e; omega))
  have Q1 := Lib.hid (Q0.out.grown hg1 (fun e => by have := Option.some.inj e; omega))
  have G1 := Lib.hid (grown_trans G0.out hg1)
  have X2 := Lib.hid (zx_new w1 26 s (.slice (some ⟨b, o, none⟩) m cap))
  have K2 := Lib.hid (K1.out.alloc (.cells #[.string s, .slice (some ⟨b, o, none⟩) m cap] 26))
  have Q2 := Lib.hid (Q1.out.alloc (.cells #[.string s, .slice (some ⟨b, o, none⟩) m cap] 26))
  have C2 := Lib.hid (hc1.alloc (.cells #[.string s, .slice (some ⟨b, o, none⟩) m cap] 26))
  have G2 : Hid (w.grownBy (w1.alloc (.cells #[.string s, .slice (some ⟨b, o, none⟩) m cap] 26)) (some g)) := grown_trans G1.out (World.grownBy_alloc w1 _ (some g))
  have S2 := Lib.hid (hsr.on ((Below.refl w1.heap.size w1).alloc (Nat.le_refl _) (.cells #[.string s, .slice (some ⟨b, o, none⟩) m cap] 26)))
  have GE : Hid (w1.heap.size < (w1.alloc (.cells #[.string s, .slice (some ⟨b, o, none⟩) m cap] 26)).heap.size) := by show _ < _; simp
  clear hlm hsm hbw hsr hc1 hg1 K0 Q0 C0 G0 N0 K1 Q1 G1
  go_upto_region 2 with (fail)
  generalize w1.alloc (.cells #[.string s, .slice (some ⟨b, o, none⟩) m cap] 26) = w2 at *
  generalize w1.heap.size = gb at *
  go_wp2_with fail
  refine (l10Name_any g w2 C2.out).mono ?_
  rintro e w3 ⟨nm, rfl, hnm, hc3, hg3⟩
  go_wp2_with fail
  refine (l5Type_any g w3 hc3).mono ?_
  rintro e w4 ⟨ty, rfl, -, hc4, hg4⟩
  have HNM : Hid (nm.size ≤ 60) := by have : nm.size ≤ 20 := hnm; show _ ≤ _; omega
  have g24 := grown_trans hg3 hg4
  have D5 : Hid (Dp w g gb w4.heap.size s b o m cap L nm ty (w4.alloc (.cells #[.string nm, .int .i64 ty] 28))) :=
    ⟨⟨NG, N1.out, Nat.lt_of_lt_of_le GE.out g24.size, NB1.out, LT.out⟩, hc4.alloc _, grown_trans (grown_trans G2.out g24) (World.grownBy_alloc w4 _ (some g)), (K2.out.grown g24 (fun e => by have := Option.some.inj e; omega)).alloc _, (Q2.out.grown g24 (fun e => by have := Option.some.inj e; omega)).alloc _, (X2.out.grown g24 (fun e => by have := Option.some.inj e; have := N1.out; omega)).alloc _, heap_alloc_new w4 _, (sr_gr S2.out g24 (fun _ => by have := NB1.out; omega)).on ((Below.refl w4.heap.size w4).alloc (Nat.le_refl _) _)⟩
  clear hnm hc3 hg3 hc4 hg4 g24 X2 K2 Q2 C2 G2 S2 GE LT NB1 N1
  go_upto_region 3 with (fail)
  generalize w4.alloc (.cells #[.string nm, .int .i64 ty] 28) = w5 at *
  generalize w4.heap.size = gq at *
  have z1 := D5.out.2.2.2.2.2.1.2
  by_cases hm0 : m = 0
  · subst hm0
    clear z1
    have z1 := D5.out.2.2.2.2.2.1.2
    go_upto_region 6 with (fail)
    have DE := Lib.hid D5.out
    clear D5
    obtain ⟨⟨-, i2, i3, -, -⟩, -, -, k1, k2, k3, k4, -⟩ := DE.out
    have j1 : gq ≠ w.heap.size := by omega
    have j2 : gq ≠ w.heap.size + 1 := by omega
    have j3 : gb ≠ w.heap.size := by omega
    have j4 : gb ≠ w.heap.size + 1 := by omega
    obtain ⟨z0, z1⟩ := k3
    have q0 := k4.cell 0
    have q1 := k4.cell 1
    have a0 := k1.cell 0
    have a1 := k1.cell 1
    have c0 := k1.free 0
    have c1 := k1.free 1
    have b0 := k2.cell 0
    have b1 := k2.cell 1
    have d0 := k2.free 0
    have d1 := k2.free 1
    simp only [zc, List.getElem?_cons_zero, List.getElem?_cons_succ] at q0 q1 a0 a1 b0 b1
    clear k1 k2 k4
    go_region
    all_goals
      have FN := Lib.hid (endsD DE.out)
      go_wp2
      exact bodyPost_ret (v := .tuple #[.agg #[.string s, .slice (some ⟨b, o, none⟩) 0 cap], .agg #[.string nm, .int .i64 ty]]) (resZQ rfl FN.out.1 FN.out.2.1 rfl rfl) rfl ⟨s, b, o, 0, cap, L, nm, ty, rfl, hs20, HNM.out, hm9, SM.out, NBW.out, FN.out.2.2.1, FN.out.2.2.2.1, FN.out.2.2.2.2⟩
  have hmp : (0 : Int) < (m : Int) := by omega
  have hm2 : (m : Int) ≤ 100000 := by omega
  go_wp2_with fail
  refine (l1Once_any g 2 w5 D5.out.2.1 (by omega) (by omega)).mono ?_
  rintro e w6 ⟨bb, rfl, hc6, hg6⟩
  have D6 := Lib.hid (D5.out.step hc6 hg6)
  clear hc6 hg6 D5 z1
  cases bb with
  | false =>
    go_upto_region 6 with (fail)
    have DE := Lib.hid D6.out
    clear D6
    obtain ⟨⟨-, i2, i3, -, -⟩, -, -, k1, k2, k3, k4, -⟩ := DE.out
    have j1 : gq ≠ w.heap.size := by omega
    have j2 : gq ≠ w.heap.size + 1 := by omega
    have j3 : gb ≠ w.heap.size := by omega
    have j4 : gb ≠ w.heap.size + 1 := by omega
    obtain ⟨z0, z1⟩ := k3
    have q0 := k4.cell 0
    have q1 := k4.cell 1
    have a0 := k1.cell 0
    have a1 := k1.cell 1
    have c0 := k1.free 0
    have c1 := k1.free 1
    have b0 := k2.cell 0
    have b1 := k2.cell 1
    have d0 := k2.free 0
    have d1 := k2.free 1
    simp only [zc, List.getElem?_cons_zero, List.getElem?_cons_succ] at q0 q1 a0 a1 b0 b1
    clear k1 k2 k4
    go_region
    all_goals
      have FN := Lib.hid (endsD DE.out)
      go_wp2
      exact bodyPost_ret (v := .tuple #[.agg #[.string s, .slice (some ⟨b, o, none⟩) m cap], .agg #[.string nm, .int .i64 ty]]) (resZQ rfl FN.out.1 FN.out.2.1 rfl rfl) rfl ⟨s, b, o, m, cap, L, nm, ty, rfl, hs20, HNM.out, hm9, SM.out, NBW.out, FN.out.2.2.1, FN.out.2.2.2.1, FN.out.2.2.2.2⟩
  | true =>
    have DD := Lib.hid D6.out.drew
    have DA := Lib.hid (D6.out.alloc (.cells #[.string ⟨#[]⟩, .int .i64 0, .int .i64 0, .int .i64 0, .string ⟨#[]⟩, .string ⟨#[]⟩] 56)).drew
    have CD := Lib.hid DD.out.2.1
    have CA := Lib.hid DA.out.2.1
    have A6 : Hid (Bk (w6.alloc (.cells #[.string ⟨#[]⟩, .int .i64 0, .int .i64 0, .int .i64 0, .string ⟨#[]⟩, .string ⟨#[]⟩] 56)).drew w6.heap.size 56 (rc zr)) := heap_alloc_new w6 _
    have NGA : some w6.heap.size ≠ some g := fun e => by have h1 := D6.out.2.1.lt; have := Option.some.inj e; omega
    have LQ : Hid (gq < w6.heap.size) := D6.out.2.2.2.2.2.2.1.lt
    go_wp2
    have z1 : w6.drew.cell? ⟨gb, 1, none⟩ = some (.slice (some ⟨b, o, none⟩) m cap) := DD.out.2.2.2.2.2.1.2
    have y1 : (w6.alloc (.cells #[.string ⟨#[]⟩, .int .i64 0, .int .i64 0, .int .i64 0, .string ⟨#[]⟩, .string ⟨#[]⟩] 56)).drew.cell? ⟨gb, 1, none⟩ = some (.slice (some ⟨b, o, none⟩) m cap) := DA.out.2.2.2.2.2.1.2
    go_cut [6] (fun a wx => ∃ (gr : Nat) (r : Rec), a = .pointer (some ⟨gr, 0, none⟩) ∧ Hid (Sml r) ∧ Hid (Bx wx gr r) ∧ Hid (Dp w g gb gq s b o m cap L nm ty wx))
    case first =>
      go_region_law (first
        | (go_simp; go_at_call 25; (first | with_reducible refine (l1Below_any g (m : Int) w6.drew CD.out hmp hm2).mono ?_ | with_reducible refine (l1Below_any g (m : Int) (w6.alloc (.cells #[.string ⟨#[]⟩, .int .i64 0, .int .i64 0, .int .i64 0, .string ⟨#[]⟩, .string ⟨#[]⟩] 56)).drew CA.out hmp hm2).mono ?_); rintro e w7 ⟨x, rfl, hx0, hx1, hc7, hg7⟩; obtain ⟨k, rfl⟩ : ∃ k : Nat, x = (k : Int) := ⟨x.toNat, by omega⟩; (first | with_reducible have D7 := Lib.hid (DD.out.step hc7 hg7) | with_reducible have D7 := Lib.hid (DA.out.step hc7 hg7)); have x1 := D7.out.2.2.2.2.2.1.2; have hkl : k < L.length := (by have := D7.out.2.2.2.2.2.2.2.1; omega); have SMK : Hid (Sml L[k]) := SM.out _ (List.getElem_mem hkl); obtain ⟨e0, e1, e2, e3, e4, e5⟩ := sr_ce D7.out.2.2.2.2.2.2.2 k hkl; have D8 := Lib.hid (D7.out.alloc (.cells #[.string ⟨#[]⟩, .int .i64 0, .int .i64 0, .int .i64 0, .string ⟨#[]⟩, .string ⟨#[]⟩] 56)); have x2 := D8.out.2.2.2.2.2.1.2; obtain ⟨h0, h1, h2, h3, h4, h5⟩ := sr_ce D8.out.2.2.2.2.2.2.2 k hkl; try (with_reducible have A7 := Lib.hid (A6.out.grown hg7 NGA); have p0 := A7.out.cell 0; have p1 := A7.out.cell 1; have p2 := A7.out.cell 2; have p3 := A7.out.cell 3; have p4 := A7.out.cell 4; have p5 := A7.out.cell 5; have f0 := A7.out.free 0; have f1 := A7.out.free 1; have f2 := A7.out.free 2; have f3 := A7.out.free 3; have f4 := A7.out.free 4; have f5 := A7.out.free 5; simp only [rc, List.getElem?_cons_zero, List.getElem?_cons_succ] at p0 p1 p2 p3 p4 p5)))
      all_goals
        go_wp2_with fail
        go_meet
        case rel =>
          first
            | (refine ⟨w7.heap.size, L[k], rfl, SMK, ?_, ?_⟩
               · exact bx_new w7 56 L[k]
               · exact D7.out.alloc _)
            | (refine ⟨w6.heap.size, L[k], rfl, SMK, ?_, ?_⟩
               · exact bx_of (fil_bk A7.out L[k])
               · exact D7.out.fil LQ.out L[k])
    case rest =>
      obtain ⟨gr, r, rfl, HSR, HX, HD⟩ := hcut
      clear DD DA CD CA A6 NGA LQ D6 z1 y1 HNM
      have HNM : Hid (r.name.size ≤ 60) := HSR.out.1
      obtain ⟨r0, r1, -, -, -, -⟩ := HX.out
      have q0 : wc.cell? ⟨gq, 0, none⟩ = some (.string nm) := HD.out.2.2.2.2.2.2.1.cell 0
      have q1 : wc.cell? ⟨gq, 1, none⟩ = some (.int .i64 ty) := HD.out.2.2.2.2.2.2.1.cell 1
      have f0 := HD.out.2.2.2.2.2.2.1.free 0
      have f1 := HD.out.2.2.2.2.2.2.1.free 1
      have D9 : Hid (Dp w g gb gq s b o m cap L r.name r.ty ((wc.setCell ⟨gq, 0, none⟩ (.string r.name)).setCell ⟨gq, 1, none⟩ (.int .i64 r.ty))) := HD.out.setq r.name r.ty
      clear HX HD HSR
      go_upto_region 6 with (fail)
      clear r0 r1 q0 q1 f0 f1
      generalize (wc.setCell ⟨gq, 0, none⟩ (.string r.name)).setCell ⟨gq, 1, none⟩ (.int .i64 r.ty) = w9 at *
      go_upto_region 6 with (fail)
      have DE := Lib.hid D9.out
      clear D9
      obtain ⟨⟨-, i2, i3, -, -⟩, -, -, k1, k2, k3, k4, -⟩ := DE.out
      have j1 : gq ≠ w.heap.size := by omega
      have j2 : gq ≠ w.heap.size + 1 := by omega
      have j3 : gb ≠ w.heap.size := by omega
      have j4 : gb ≠ w.heap.size + 1 := by omega
      obtain ⟨z0, z1⟩ := k3
      have q0 := k4.cell 0
      have q1 := k4.cell 1
      have a0 := k1.cell 0
      have a1 := k1.cell 1
      have c0 := k1.free 0
      have c1 := k1.free 1
      have b0 := k2.cell 0
      have b1 := k2.cell 1
      have d0 := k2.free 0
      have d1 := k2.free 1
      simp only [zc, List.getElem?_cons_zero, List.getElem?_cons_succ] at q0 q1 a0 a1 b0 b1
      clear k1 k2 k4
      go_region
      all_goals
        have FN := Lib.hid (endsD DE.out)
        go_wp2
        exact bodyPost_ret (v := .tuple #[.agg #[.string s, .slice (some ⟨b, o, none⟩) m cap], .agg #[.string r.name, .int .i64 r.ty]]) (resZQ rfl FN.out.1 FN.out.2.1 rfl rfl) rfl ⟨s, b, o, m, cap, L, r.name, r.ty, rfl, hs20, HNM.out, hm9, SM.out, NBW.out, FN.out.2.2.1, FN.out.2.2.2.1, FN.out.2.2.2.2⟩

/-- A zone and a question that are drawn; nothing that was there is turned. -/
def Zk (w : World) (e : Ending) (w' : World) : Prop :=
  ∃ (s : ByteArray) (b o n c : Nat) (L : List Rec) (nm : ByteArray) (ty : Int), e = .returned (.tuple #[.agg #[.string s, .slice (some ⟨b, o, none⟩) n c], .agg #[.string nm, .int .i64 ty]]) ∧ s.size ≤ 20 ∧ nm.size ≤ 60 ∧ n ≤ 9 ∧ (∀ r ∈ L, Sml r) ∧ Sr w' w'.heap.size (some ⟨b, o, none⟩) n L ∧ Below w.heap.size w w'

theorem ends3 {w v : World} {b o m cap : Nat} {s nm : ByteArray} {L : List Rec} {ty : Int} (k1 : Bk v w.heap.size 26 (zc ⟨#[]⟩ (.slice none 0 0))) (k2 : Bk v (w.heap.size + 1) 28 [.string ⟨#[]⟩, .int .i64 0]) (ks : Sr v v.heap.size (some ⟨b, o, none⟩) m L) (hb : Below w.heap.size w v) (h4 : w.heap.size + 1 < b) : Bk (filK (filZ v w.heap.size s (.slice (some ⟨b, o, none⟩) m cap)) (w.heap.size + 1) nm ty) w.heap.size 26 (zc s (.slice (some ⟨b, o, none⟩) m cap)) ∧ Bk (filK (filZ v w.heap.size s (.slice (some ⟨b, o, none⟩) m cap)) (w.heap.size + 1) nm ty) (w.heap.size + 1) 28 [.string nm, .int .i64 ty] ∧ Sr (filK (filZ v w.heap.size s (.slice (some ⟨b, o, none⟩) m cap)) (w.heap.size + 1) nm ty) (filK (filZ v w.heap.size s (.slice (some ⟨b, o, none⟩) m cap)) (w.heap.size + 1) nm ty).heap.size (some ⟨b, o, none⟩) m L ∧ Below w.heap.size w (filK (filZ v w.heap.size s (.slice (some ⟨b, o, none⟩) m cap)) (w.heap.size + 1) nm ty) := by
  have n1 : 0 < m → b ≠ w.heap.size := fun _ => by omega
  have n2 : 0 < m → b ≠ w.heap.size + 1 := fun _ => by omega
  unfold filK filZ
  refine ⟨(((k1.set 0 (.string s)).set 1 _).other (p := ⟨w.heap.size + 1, 0, none⟩) (show w.heap.size ≠ w.heap.size + 1 by omega) _).other (p := ⟨w.heap.size + 1, 1, none⟩) (show w.heap.size ≠ w.heap.size + 1 by omega) _, ?_, sr_cell (sr_cell (sr_cell (sr_cell ks n1 _) n1 _) n2 _) n2 _, (((hb.setCell (p := ⟨w.heap.size, 0, none⟩) (Nat.le_refl _) _).setCell (p := ⟨w.heap.size, 1, none⟩) (Nat.le_refl _) _).setCell (p := ⟨w.heap.size + 1, 0, none⟩) (Nat.le_succ _) _).setCell (p := ⟨w.heap.size + 1, 1, none⟩) (Nat.le_succ _) _⟩
  exact (((k2.other (p := ⟨w.heap.size, 0, none⟩) (show w.heap.size + 1 ≠ w.heap.size by omega) _).other (p := ⟨w.heap.size, 1, none⟩) (show w.heap.size + 1 ≠ w.heap.size by omega) _).set 0 (.string nm)).set 1 (.int .i64 ty)

set_option maxHeartbeats 4000000 in
set_option maxRecDepth 100000 in
theorem drawKindIn_any (A : Option Addr) (n c : Nat) (l : List UInt8) (w : World) (hs : Sl w w.heap.size A n l) (hn : n ≤ 1048576) : Calls Try.prog 5 #[.slice A n c] w (Zk w) := by
  have HS := Lib.hid hs
  have hz1 : (w.alloc (.cells #[.string ⟨#[]⟩, .slice none 0 0] 26)).heap.size = w.heap.size + 1 := by simp
  have K0 : Hid (Bk ((w.alloc (.cells #[.string ⟨#[]⟩, .slice none 0 0] 26)).alloc (.cells #[.string ⟨#[]⟩, .int .i64 0] 28)) w.heap.size 26 (zc ⟨#[]⟩ (.slice none 0 0))) := (show Bk (w.alloc (.cells #[.string ⟨#[]⟩, .slice none 0 0] 26)) w.heap.size 26 (zc ⟨#[]⟩ (.slice none 0 0)) from heap_alloc_new w _).alloc _
  have Q0 : Hid (Bk ((w.alloc (.cells #[.string ⟨#[]⟩, .slice none 0 0] 26)).alloc (.cells #[.string ⟨#[]⟩, .int .i64 0] 28)) (w.heap.size + 1) 28 [.string ⟨#[]⟩, .int .i64 0]) := by
    show Bk _ _ _ _
    rw [← hz1]
    exact heap_alloc_new _ _
  have L0 := Lib.hid (((Below.refl w.heap.size w).alloc (Nat.le_refl _) (.cells #[.string ⟨#[]⟩, .slice none 0 0] 26)).alloc (by simp) (.cells #[.string ⟨#[]⟩, .int .i64 0] 28))
  have N0 : Hid (w.heap.size + 1 < ((w.alloc (.cells #[.string ⟨#[]⟩, .slice none 0 0] 26)).alloc (.cells #[.string ⟨#[]⟩, .int .i64 0] 28)).heap.size) := by show _ < _; simp
  clear hs hz1
  go_enter Try.func5, Try.ntmps5
  go_upto_region 1 with (fail)
  generalize (w.alloc (.cells #[.string ⟨#[]⟩, .slice none 0 0] 26)).alloc (.cells #[.string ⟨#[]⟩, .int .i64 0] 28) = w0 at *
  go_wp2_with fail
  refine (l1New_any A n c l w0 ((HS.out.below L0.out).wider L0.out.size) hn).mono ?_
  rintro e w1 ⟨rfl, hc1, hg1⟩
  have C1 := Lib.hid hc1
  have L1 := Lib.hid (L0.out.trans ((below_of_grown hg1).mono L0.out.size))
  have K1 := Lib.hid (K0.out.grown hg1 (fun e => by cases e))
  have Q1 := Lib.hid (Q0.out.grown hg1 (fun e => by cases e))
  clear hc1 hg1 K0 Q0 L0 HS
  generalize w0.heap.size = g at *
  have NG := N0.out
  have GA := C1.out.lt
  go_wp2_with fail
  refine (pair_any g w1 C1.out).mono ?_
  rintro e w2 ⟨s, b, o, m, cap, L, nm, ty, rfl, hs20, hn60, hm9, hsm, hbw, hsr, hc2, hg2⟩
  have SM := Lib.hid hsm
  have HNM := Lib.hid hn60
  have K2 := Lib.hid (K1.out.grown hg2 (fun e => by have := Option.some.inj e; omega))
  have Q2 := Lib.hid (Q1.out.grown hg2 (fun e => by have := Option.some.inj e; omega))
  have L2 := Lib.hid (L1.out.grown hg2 L1.out.size (fun j hj => by cases hj; omega))
  have FN := Lib.hid (ends3 (s := s) (nm := nm) (ty := ty) (cap := cap) K2.out Q2.out hsr L2.out (by omega))
  have r0 : w2.cell? ⟨w.heap.size, 0, none⟩ = some (.string ⟨#[]⟩) := K2.out.cell 0
  have r1 : w2.cell? ⟨w.heap.size, 1, none⟩ = some (.slice none 0 0) := K2.out.cell 1
  have q0 := K2.out.free 0
  have q1 := K2.out.free 1
  have t0 : w2.cell? ⟨w.heap.size + 1, 0, none⟩ = some (.string ⟨#[]⟩) := Q2.out.cell 0
  have t1 : w2.cell? ⟨w.heap.size + 1, 1, none⟩ = some (.int .i64 0) := Q2.out.cell 1
  have p0 := Q2.out.free 0
  have p1 := Q2.out.free 1
  clear hsm hsr hc2 hg2 hn60 hbw C1 L1 K1 Q1 K2 Q2 L2
  go_wp2
  exact bodyPost_ret (v := .tuple #[.agg #[.string s, .slice (some ⟨b, o, none⟩) m cap], .agg #[.string nm, .int .i64 ty]]) (resZQ rfl FN.out.1 FN.out.2.1 rfl rfl) rfl ⟨s, b, o, m, cap, L, nm, ty, rfl, hs20, HNM.out, hm9, SM.out, FN.out.2.2.1, FN.out.2.2.2⟩

set_option maxHeartbeats 1000000 in
theorem drawKindText_any (A : Option Addr) (n c : Nat) (l : List UInt8) (w : World) (hs : Sl w w.heap.size A n l) (hn : n ≤ 1048576) : Calls Try.prog 7 #[.slice A n c] w fun e w' => ∃ v : Int, e = .returned (.int .i64 v) ∧ Below w.heap.size w w' := by
  have HS := Lib.hid hs
  clear hs
  go_enter Try.func7, Try.ntmps7
  go_wp2_with fail
  refine (l1New_any A n c l w HS.out hn).mono ?_
  rintro e w1 ⟨rfl, hc1, hg1⟩
  have L1 := Lib.hid (below_of_grown hg1)
  have C1 := Lib.hid hc1
  clear hc1 hg1
  go_wp2_with fail
  refine (l1Below_any w.heap.size 8 w1 C1.out (by omega) (by omega)).mono ?_
  rintro e w2 ⟨x, rfl, hx0, hx1, hc2, hg2⟩
  have L2 := Lib.hid (L1.out.grown hg2 L1.out.size (fun j hj => by cases hj; exact Nat.le_refl _))
  clear hc2 hg2
  have hx : IntKind.i64.wrap (x - 1) = x - 1 := IntWalk.i64_in _ (by omega)
  go_wp2
  go_ret
  exact ⟨_, rfl, L2.out⟩

end Go.Proofs.Ytjgmocmaeadjdaa.DrawPr

/- A message that a call gives back lies in a box of its own, made first and filled at the return: what the box reads as, and what the result is; and boxes made one behind the other. -/
namespace Go.Proofs.Ytjgmocmaeadjdaa.ResM
open Go.RowKit Go.Proofs.Ytjgmocmaeadjdaa.Mem Go.Proofs.Ytjgmocmaeadjdaa.MemR Go.Proofs.Ytjgmocmaeadjdaa.BoxR Go.Proofs.Ytjgmocmaeadjdaa.MemM Go.Proofs.Ytjgmocmaeadjdaa.ResR

/-- The box g filled with a message. -/
def filM (w : World) (g : Nat) (h : Hd) (x y z : Value) : World := ((((((((((((w.setCell ⟨g, 0, none⟩ (.int .i64 h.id)).setCell ⟨g, 1, none⟩ (.bool h.rp)).setCell ⟨g, 2, none⟩ (.bool h.au)).setCell ⟨g, 3, none⟩ (.bool h.ct)).setCell ⟨g, 4, none⟩ (.bool h.wa)).setCell ⟨g, 5, none⟩ (.bool h.ca)).setCell ⟨g, 6, none⟩ (.int .i64 h.code)).setCell ⟨g, 7, none⟩ (.string h.qn)).setCell ⟨g, 8, none⟩ (.int .i64 h.qt)).setCell ⟨g, 9, none⟩ (x)).setCell ⟨g, 10, none⟩ (y)).setCell ⟨g, 11, none⟩ (z))
section
variable {w w1 : World} {g B : Nat} {t : TypeId} {h h0 : Hd} {x y z x0 y0 z0 : Value} {a b : Obj} {cs : Array Value}
theorem at1 : Bk (w.alloc (.cells cs t)) w.heap.size t cs.toList := heap_alloc_new w _
theorem at2 : Bk ((w.alloc a).alloc (.cells cs t)) (w.heap.size + 1) t cs.toList := by
  have := heap_alloc_new (w.alloc a) (.cells cs t)
  rw [show (w.alloc a).heap.size = w.heap.size + 1 by simp] at this
  exact this
theorem at3 : Bk (((w.alloc a).alloc b).alloc (.cells cs t)) (w.heap.size + 1 + 1) t cs.toList := by
  have := heap_alloc_new ((w.alloc a).alloc b) (.cells cs t)
  rw [show ((w.alloc a).alloc b).heap.size = w.heap.size + 1 + 1 by simp] at this
  exact this
theorem filM_bk (k : Bk w g t (mc h0 x0 y0 z0)) (h : Hd) (x y z : Value) : Bk (filM w g h x y z) g t (mc h x y z) := ((((((((((((k.set 0 (.int .i64 h.id)).set 1 (.bool h.rp)).set 2 (.bool h.au)).set 3 (.bool h.ct)).set 4 (.bool h.wa)).set 5 (.bool h.ca)).set 6 (.int .i64 h.code)).set 7 (.string h.qn)).set 8 (.int .i64 h.qt)).set 9 (x)).set 10 (y)).set 11 (z))
theorem filM_below (k : Below B w w1) (hg : B ≤ g) (h : Hd) (x y z : Value) : Below B w (filM w1 g h x y z) := ((((((((((((k.setCell (p := ⟨g, 0, none⟩) hg (.int .i64 h.id)).setCell (p := ⟨g, 1, none⟩) hg (.bool h.rp)).setCell (p := ⟨g, 2, none⟩) hg (.bool h.au)).setCell (p := ⟨g, 3, none⟩) hg (.bool h.ct)).setCell (p := ⟨g, 4, none⟩) hg (.bool h.wa)).setCell (p := ⟨g, 5, none⟩) hg (.bool h.ca)).setCell (p := ⟨g, 6, none⟩) hg (.int .i64 h.code)).setCell (p := ⟨g, 7, none⟩) hg (.string h.qn)).setCell (p := ⟨g, 8, none⟩) hg (.int .i64 h.qt)).setCell (p := ⟨g, 9, none⟩) hg (x)).setCell (p := ⟨g, 10, none⟩) hg (y)).setCell (p := ⟨g, 11, none⟩) hg (z))
theorem filM_other {j : Nat} {u : TypeId} {cs : List Value} (k : Bk w j u cs) (hk : j ≠ g) (h : Hd) (x y z : Value) : Bk (filM w g h x y z) j u cs := ((((((((((((k.other (p := ⟨g, 0, none⟩) hk (.int .i64 h.id)).other (p := ⟨g, 1, none⟩) hk (.bool h.rp)).other (p := ⟨g, 2, none⟩) hk (.bool h.au)).other (p := ⟨g, 3, none⟩) hk (.bool h.ct)).other (p := ⟨g, 4, none⟩) hk (.bool h.wa)).other (p := ⟨g, 5, none⟩) hk (.bool h.ca)).other (p := ⟨g, 6, none⟩) hk (.int .i64 h.code)).other (p := ⟨g, 7, none⟩) hk (.string h.qn)).other (p := ⟨g, 8, none⟩) hk (.int .i64 h.qt)).other (p := ⟨g, 9, none⟩) hk (x)).other (p := ⟨g, 10, none⟩) hk (y)).other (p := ⟨g, 11, none⟩) hk (z))
end
theorem load_msg {w : World} {g : Nat} {t : TypeId} {h : Hd} {A1 A2 A3 : Option Addr} {n1 c1 n2 c2 n3 c3 : Nat} (k : Bk w g t (mc h (.slice A1 n1 c1) (.slice A2 n2 c2) (.slice A3 n3 c3))) :
    (loadVar 32 ⟨g, 0, none⟩).run Try.prog w = .ok (.agg #[.int .i64 h.id, .bool h.rp, .bool h.au, .bool h.ct, .bool h.wa, .bool h.ca, .int .i64 h.code, .string h.qn, .int .i64 h.qt, .slice A1 n1 c1, .slice A2 n2 c2, .slice A3 n3 c3]) w := by
  obtain ⟨c0, d1, d2, d3, c4, c5, c6, c7, c8, c9, c10, c11⟩ := mx_of k
  simp [go_sem, c0, d1, d2, d3, c4, c5, c6, c7, c8, c9, c10, c11]
theorem res1M {fn : Func} {p : Tmp} {w : World} {g : Nat} {t : TypeId} {h : Hd} {A1 A2 A3 : Option Addr} {n1 c1 n2 c2 n3 c3 : Nat} {tmps : Array Value} (hf : fn.results = #[.cell p 32])
    (k : Bk w g t (mc h (.slice A1 n1 c1) (.slice A2 n2 c2) (.slice A3 n3 c3))) (h4 : tmps.getD p undef = .pointer (some ⟨g, 0, none⟩)) :
    (results fn tmps).run Try.prog w = .ok (.agg #[.int .i64 h.id, .bool h.rp, .bool h.au, .bool h.ct, .bool h.wa, .bool h.ca, .int .i64 h.code, .string h.qn, .int .i64 h.qt, .slice A1 n1 c1, .slice A2 n2 c2, .slice A3 n3 c3]) w := by
  rw [results_cell hf, h4, as_addr]
  simp only [Result.andThen, load_msg k]
end Go.Proofs.Ytjgmocmaeadjdaa.ResM
