/- What the model's draws of bytes with names in them do: new slices of at most 400 bytes, offsets, short texts; nothing that was there is turned. -/
import Derived.Test.YtcpadkehalgddaaGreatDoorDrawN
import Derived.Test.YtcpadkehalgddaaGreatDoorBent
import Derived.Test.YtcpadkehalgddaaGreatDoorPutSpec
namespace Go.Proofs.YtcpadkehalgddaaGreatDoor.DrawW
open Go.RowKit Go.Proofs.YtcpadkehalgddaaGreatDoor.Mem Go.Proofs.YtcpadkehalgddaaGreatDoor.Draw Go.Proofs.YtcpadkehalgddaaGreatDoor.DrawS Go.Proofs.YtcpadkehalgddaaGreatDoor.DrawL Go.Proofs.YtcpadkehalgddaaGreatDoor.DrawN Go.Proofs.YtcpadkehalgddaaGreatDoor.App Go.Proofs.YtcpadkehalgddaaGreatDoor.Draw2 Go.Proofs.YtcpadkehalgddaaGreatDoor.Bent Go.Proofs.YtcpadkehalgddaaGreatDoor.PutSpec

theorem cur_below {w w' : World} {g : Nat} (h : Cur w g) (hb : Below w.heap.size w w') : Cur w' g :=
  h.grown (row := none) ⟨hb.os, hb.tape, hb.output, hb.size, fun k hk _ => hb.block k hk⟩ (fun k hk => by cases hk)
theorem grown_below {a w w' : World} {r : Option Nat} (h : a.grownBy w r) (hb : Below w.heap.size w w') : a.grownBy w' r :=
  grown_trans h ⟨hb.os, hb.tape, hb.output, hb.size, fun k hk _ => hb.block k hk⟩
/-- A row of bytes of one's own at or beyond base, m of them. -/
def Ro (w : World) (base gb m cap : Nat) : Prop := ∃ l : List UInt8, w.ownsRow base 5 1 (.slice (some ⟨gb, 0, none⟩) m cap) m (l.map bv)
section
variable {w w' : World} {base gb m cap : Nat}
theorem Ro.far {g : Nat} (h : Ro w base gb m cap) (hg : w.grownBy w' (some g)) (hb : g < base) : Ro w' base gb m cap := by
  obtain ⟨l, h⟩ := h
  exact ⟨l, h.kept hg (Or.inr (fun e => by have h1 := (h.lt gb rfl).1; have h2 := Option.some.inj e; simp at h2; omega))⟩
theorem Ro.below (h : Ro w base gb m cap) (hb : Below w.heap.size w w') : Ro w' base gb m cap := by
  obtain ⟨l, h⟩ := h
  exact ⟨l, h.kept (row := none) ⟨hb.os, hb.tape, hb.output, hb.size, fun k hk _ => hb.block k hk⟩ (Or.inr (by simp [Value.ownBlock]))⟩
theorem Ro.alloc (h : Ro w base gb m cap) (o : Obj) : Ro (w.alloc o) base gb m cap := by
  obtain ⟨l, h⟩ := h
  exact ⟨l, h.alloc o⟩
theorem Ro.sl (h : Ro w base gb m cap) : ∃ l : List UInt8, Sl w w.heap.size (some ⟨gb, 0, none⟩) m l ∧ m ≤ cap := by
  obtain ⟨l, h⟩ := h
  have hl : l.length = m := by have := h.1; simpa using this
  obtain ⟨r, hb, hr, _⟩ := bk_of_owns h
  exact ⟨l, hl ▸ (hb.sl'.wider hb.lt), by rw [← hr, List.length_append, List.length_map, hl]; omega⟩
end
/-- Two bytes. A def, so that no step of a walk opens it. -/
def duo (y z : Int) : List UInt8 := [UInt8.ofNat y.toNat, UInt8.ofNat z.toNat]
theorem duo_len (y z : Int) : (duo y z).length = 2 := rfl
theorem duo_cells (y z : Int) (h0 : 0 ≤ y) (h1 : y < 256) (k0 : 0 ≤ z) (k1 : z < 256) : (#[.int .u8 y, .int .u8 z] : Array Value).toList = (duo y z).map bv := by
  simp only [duo, List.map_cons, List.map_nil]
  rw [bv_of y h0 h1, bv_of z k0 k1]
def heads : List Int := [192, 193, 255, 3, 13, 0]
theorem heads_byte (x : Int) (h : x ∈ heads) : 0 ≤ x ∧ x < 256 := by simp [heads] at h; omega

/-- Bytes with names in them, and an offset; the cursor moved, nothing else turned. -/
def L4 (w : World) (g : Nat) (e : Ending) (w' : World) : Prop :=
  ∃ (gb m cap a : Nat), e = .returned (.tuple #[.slice (some ⟨gb, 0, none⟩) m cap, .int .i64 (a : Int)]) ∧ m ≤ 340 ∧ a ≤ 340 ∧ Ro w' w.heap.size gb m cap ∧ Cur w' g ∧ w.grownBy w' (some g)

set_option maxRecDepth 100000 in
set_option maxHeartbeats 4000000 in
theorem l4Bytes_any (g : Nat) (w : World) (hc : Cur w g) : Calls Tryz.prog 30 #[.pointer (some ⟨g, 0, none⟩)] w (L4 w g) := by
  obtain ⟨i0, hi, hz0, hz1, hz2⟩ := info_parts Copy.info
  have HC := Lib.hid hc
  have GW := Lib.hid hc.lt
  clear hc
  go_enter Tryz.func30, Tryz.ntmps30
  go_wp2_with fail
  refine (l1Below_any g 3 w HC.out (by omega) (by omega)).mono ?_
  rintro e w1 ⟨x, rfl, hx0, hx1, hc1, hg1⟩
  obtain ⟨m0, rfl⟩ := Int.eq_ofNat_of_zero_le hx0
  have C1 := Lib.hid hc1
  have G1 := Lib.hid hg1
  clear hc1 hg1 HC
  go_wp2_with fail
  refine (l1BytesO_any g m0 w1 C1.out (by omega)).mono ?_
  rintro e w2 ⟨gb, cap, lb, rfl, _, ho, hc2, hg2⟩
  have O2 : Hid (Ro w2 w.heap.size gb m0 cap) := ⟨lb, owns_base ho G1.out.size⟩
  have C2 := Lib.hid hc2
  have G2 := Lib.hid (grown_trans G1.out hg2)
  clear hc2 hg2 ho C1 G1
  go_wp2_with fail
  refine (l1Below_any g 4 w2 C2.out (by omega) (by omega)).mono ?_
  rintro e w3 ⟨y, rfl, hy0, hy1, hc3, hg3⟩
  obtain ⟨q0, rfl⟩ := Int.eq_ofNat_of_zero_le hy0
  have O3 := Lib.hid (O2.out.far hg3 GW.out)
  have C3 := Lib.hid hc3
  have G3 := Lib.hid (grown_trans G2.out hg3)
  clear hc3 hg3 C2 G2 O2
  go_wp2
  go_loopw [4, 5, 6] (fun v a i wr => ∃ (gb m cap a' q : Nat), q ≤ 4 ∧ m + 82 * q ≤ 330 ∧ a' ≤ 330 ∧ i = .int .i64 ((q : Int) - 1) ∧ a = .int .i64 (a' : Int) ∧ v = .slice (some ⟨gb, 0, none⟩) m cap ∧ Hid (Ro wr w.heap.size gb m cap) ∧ Hid (Cur wr g) ∧ Hid (w.grownBy wr (some g))) (fun _ _ i _ => (intOf i + 1).toNat)
  case atStart => exact ⟨gb, m0, cap, m0, q0 + 1, by omega, by omega, by omega, by go_num, rfl, rfl, O3.out, C3.out, G3.out⟩
  case round =>
    clear O3 C3 G3
    obtain ⟨gb, m, cap, a, q, hq, hm, ha, rfl, rfl, rfl, HO, HC, HG⟩ := hrel
    by_cases hq0 : 0 < q
    · obtain ⟨p, rfl⟩ : ∃ p, q = p + 1 := ⟨q - 1, by omega⟩
      have hp0 : (0 : Int) ≤ ((p + 1 : Nat) : Int) - 1 := by omega
      go_wp2_with fail
      refine (l3Name_any g wr HC.out).mono ?_
      rintro e w4 ⟨x, rfl, hx, hc4, hg4⟩
      have hxs : x.size ≤ 20 := hx
      have O4 := Lib.hid (HO.out.far hg4 GW.out)
      have C4 := Lib.hid hc4
      have G4 := Lib.hid (grown_trans HG.out hg4)
      clear hx hc4 hg4 HO HC HG
      obtain ⟨lb, hsl, hmc⟩ := O4.out.sl
      have SL := Lib.hid hsl
      clear hsl
      go_wp2_with fail
      refine (PutSpec.spec (some ⟨gb, 0, none⟩) m cap lb x w4 SL.out hmc (fun h => by cases h) (by omega) (by omega)).mono ?_
      rintro e w5 ⟨g5, cap5, rfl, ho5, hl⟩
      have hm5 : (lb ++ tailN lb x).length ≤ m + 80 := by rw [List.length_append, SL.out.1]; have := tailN_len lb x; omega
      have O5 : Hid (Ro w5 w.heap.size g5 (lb ++ tailN lb x).length cap5) := ⟨_, owns_base ho5 G4.out.size⟩
      have C5 := Lib.hid (cur_below C4.out hl)
      have G5 := Lib.hid (grown_below G4.out hl)
      clear ho5 hl C4 G4 O4 SL
      generalize (lb ++ tailN lb x).length = m5 at *
      go_wp2_with fail
      refine (l1Once_any g 5 w5 C5.out (by omega) (by omega)).mono ?_
      rintro e w6 ⟨b, rfl, hc6, hg6⟩
      have O6 := Lib.hid (O5.out.far hg6 GW.out)
      have C6 := Lib.hid hc6
      have G6 := Lib.hid (grown_trans G5.out hg6)
      clear hc6 hg6 C5 G5 O5
      cases b
      · go_wp2
        go_roundw
        case rel => exact ⟨g5, m5, cap5, m, p, by omega, by omega, by omega, by go_num, rfl, rfl, O6.out, C6.out, G6.out⟩
        case measure => first | (simp [intOf]; done) | (simp [intOf]; omega)
      · go_wp2_with fail
        refine (l1Int_any g w6.heap.size 6 heads _ (C6.out.alloc _) (bk_ints w6 heads _ rfl) (Nat.ne_of_gt C6.out.lt) rfl (by omega) (by omega)).mono ?_
        rintro e w7 ⟨y, rfl, hy, hc7, hg7⟩
        obtain ⟨y0, y1⟩ := heads_byte y hy
        have O7 := Lib.hid ((O6.out.alloc _).far hg7 GW.out)
        have C7 := Lib.hid hc7
        have G7 := Lib.hid (grown_trans (grown_trans G6.out (World.grownBy_alloc w6 _ (some g))) hg7)
        clear hy hc7 hg7 C6 G6 O6
        go_wp2_with fail
        refine (l1Below_any g 12 w7 C7.out (by omega) (by omega)).mono ?_
        rintro e w8 ⟨z, rfl, z0, z1, hc8, hg8⟩
        have O8 := Lib.hid (O7.out.far hg8 GW.out)
        have C8 := Lib.hid hc8
        have G8 := Lib.hid (grown_trans G7.out hg8)
        clear hc8 hg8 C7 G7 O7
        obtain ⟨l8, ho8⟩ := O8.out
        have P8 := Lib.hid ho8
        clear ho8
        have DC := Lib.hid (duo_cells y z y0 y1 z0 (by omega))
        go_wp2_with (at_builtin; refine append_src rfl (.tmp 27) (.tmp 35) 22 rfl w.heap.size 5 i0 (.int .u8 0) Tryz.underlying22 hi hz0 hz1 hz2 rfl g5 m5 cap5 _ rfl (P8.out.alloc _) _ 2 2 _ (duo y z) rfl (sl_new w8 _ (duo y z) DC.out) (fun h => by cases h) ?d1 ?d2 ?d3 ?_)
        case d1 => omega
        case d2 => omega
        case d3 => have := G8.out.size; simp; omega
        intro g9 cap9 w9 hown hgrow
        have O9 : Hid (Ro w9 w.heap.size g9 (m5 + 2) cap9) := ⟨l8 ++ duo y z, by rw [List.map_append]; exact hown⟩
        have C9 := Lib.hid ((C8.out.alloc _).grown hgrow (fun j hj => by have h1 := (P8.out.lt g5 rfl).1; have h2 := GW.out; cases hj; omega))
        have G9 := Lib.hid (grown_more (grown_trans G8.out (World.grownBy_alloc w8 _ (some g))) hgrow (P8.out.lt g5 rfl).1)
        clear hown hgrow P8 C8 G8 O8 DC
        go_wp2
        go_roundw
        case rel => exact ⟨g9, m5 + 2, cap9, m, p, by omega, by omega, by omega, by go_num, rfl, rfl, O9.out, C9.out, G9.out⟩
        case measure => first | (simp [intOf]; done) | (simp [intOf]; omega)
    · have hq1 : q = 0 := by omega
      subst hq1
      have hneg : ¬ (0 : Int) ≤ ((0 : Nat) : Int) - 1 := by omega
      go_wp2_with fail
      refine (l1Once_any g 4 wr HC.out (by omega) (by omega)).mono ?_
      rintro e w4 ⟨b, rfl, hc4, hg4⟩
      have O4 := Lib.hid (HO.out.far hg4 GW.out)
      have C4 := Lib.hid hc4
      have G4 := Lib.hid (grown_trans HG.out hg4)
      clear hc4 hg4 HO HC HG
      cases b
      · go_wp2
        go_ret2
        exact ⟨gb, m, cap, a, rfl, by omega, by omega, O4.out, C4.out, G4.out⟩
      · obtain ⟨lb, hsl, hmc⟩ := O4.out.sl
        have SL := Lib.hid hsl
        clear hsl
        go_wp2_with fail
        refine (l1BentO_any g (some ⟨gb, 0, none⟩) m cap lb w4 C4.out SL.out (fun h => by cases h) (by omega)).mono ?_
        rintro e w5 ⟨g5, m5, cap5, l5, rfl, hm5, ho5, hc5, hg5⟩
        have O5 : Hid (Ro w5 w.heap.size g5 m5 cap5) := ⟨l5, owns_base ho5 G4.out.size⟩
        have C5 := Lib.hid hc5
        have G5 := Lib.hid (grown_trans G4.out hg5)
        clear hc5 hg5 ho5 C4 G4 O4 SL
        go_wp2
        go_ret2
        exact ⟨g5, m5, cap5, a, rfl, by omega, by omega, O5.out, C5.out, G5.out⟩

/-- Bytes and a text; nothing that was there is turned. -/
def ByTx (w : World) (e : Ending) (w' : World) : Prop :=
  ∃ (gb m cap : Nat) (x : ByteArray), e = .returned (.tuple #[.slice (some ⟨gb, 0, none⟩) m cap, .string x]) ∧ m ≤ 400 ∧ x.size ≤ 60 ∧ Ro w' w.heap.size gb m cap ∧ Below w.heap.size w w'
/-- Bytes and an offset; nothing that was there is turned. -/
def ByIn (w : World) (e : Ending) (w' : World) : Prop :=
  ∃ (gb m cap : Nat) (x : Int), e = .returned (.tuple #[.slice (some ⟨gb, 0, none⟩) m cap, .int .i64 x]) ∧ m ≤ 400 ∧ -1 ≤ x ∧ x ≤ 400 ∧ Ro w' w.heap.size gb m cap ∧ Below w.heap.size w w'
theorem Ro.down {w : World} {b base gb m cap : Nat} (h : Ro w base gb m cap) (hb : b ≤ base) : Ro w b gb m cap := by
  obtain ⟨l, h⟩ := h
  exact ⟨l, owns_base h hb⟩

def ats : List Int := [-1, 0, 1, 99]
theorem ats_in (x : Int) (h : x ∈ ats) : -1 ≤ x ∧ x ≤ 99 := by simp [ats] at h; omega

end Go.Proofs.YtcpadkehalgddaaGreatDoor.DrawW
