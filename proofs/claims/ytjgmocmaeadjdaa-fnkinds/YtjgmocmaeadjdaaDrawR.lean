/- What the model's draws of records do: records whose texts have at most 60 bytes; nothing that was there is turned but the cursor. -/
import Derived.Test.YtjgmocmaeadjdaaDrawN
import Derived.Test.YtjgmocmaeadjdaaMemR
import Derived.Test.YtjgmocmaeadjdaaBoxR
import Derived.Test.YtjgmocmaeadjdaaAppR
import Derived.Test.YtjgmocmaeadjdaaResR
namespace Go.Proofs.Ytjgmocmaeadjdaa.DrawR
open Go.RowKit Go.Proofs.Ytjgmocmaeadjdaa.Mem Go.Proofs.Ytjgmocmaeadjdaa.MemS Go.Proofs.Ytjgmocmaeadjdaa.MemR Go.Proofs.Ytjgmocmaeadjdaa.BoxR Go.Proofs.Ytjgmocmaeadjdaa.Draw Go.Proofs.Ytjgmocmaeadjdaa.DrawS Go.Proofs.Ytjgmocmaeadjdaa.DrawL Go.Proofs.Ytjgmocmaeadjdaa.DrawN Go.Proofs.Ytjgmocmaeadjdaa.AppR Go.Proofs.Ytjgmocmaeadjdaa.ResR

/-- A record of short texts. -/
def Sml (r : Rec) : Prop := r.name.size ≤ 60 ∧ r.host.size ≤ 60 ∧ r.text.size ≤ 60
def Rcd (w : World) (g : Nat) (e : Ending) (w' : World) : Prop := ∃ r : Rec, e = .returned (.agg #[.string r.name, .int .i64 r.ty, .int .i64 r.ttl, .int .i64 r.n, .string r.host, .string r.text]) ∧ Sml r ∧ Cur w' g ∧ w.grownBy w' (some g)
theorem grown_new {w wr : World} {g gr : Nat} (h : w.grownBy wr (some g)) (hr : w.heap.size ≤ gr) (j : Nat) (u : Value) : w.grownBy (wr.setCell ⟨gr, j, none⟩ u) (some g) :=
  ⟨h.os, h.tape, h.output, by simpa [World.setCell] using h.size, fun k hk hne => by
    rw [Below.heap_setCell _ _ _ _ (fun e => by have : gr = k := by simpa using e.symm
                                                omega)]; exact h.block k hk hne⟩
theorem cur_new {w : World} {g gr : Nat} (h : Cur w g) (hr : g < gr) (j : Nat) (u : Value) : Cur (w.setCell ⟨gr, j, none⟩ u) g :=
  h.grown (grown_set (grown_refl _ _) j u) (fun k hk => by cases hk; exact hr)

def types : List Int := [1, 1, 1, 2, 2, 5, 6, 16]
def ttls : List Int := [0, 1, 5, 60, 300, 100000]

set_option maxHeartbeats 1000000 in
theorem l5Type_any (g : Nat) (w : World) (hc : Cur w g) : Calls Try.prog 47 #[.pointer (some ⟨g, 0, none⟩)] w (Val w g (· ∈ types)) := by
  have HC := Lib.hid hc
  clear hc
  go_enter Try.func47, Try.ntmps47
  go_wp2_with fail
  refine (l1Int_any g w.heap.size 8 types _ (HC.out.alloc _) (bk_ints w types _ rfl) (Nat.ne_of_gt HC.out.lt) rfl (by omega) (by omega)).mono ?_
  rintro e w1 ⟨x, rfl, hx, hc1, hg1⟩
  have HX := Lib.hid hx
  have HC1 := Lib.hid hc1
  have HG1 := Lib.hid (grown_trans (World.grownBy_alloc w _ (some g)) hg1)
  clear hc1 hg1 hx
  go_wp2
  go_ret
  exact ⟨x, rfl, HX.out, HC1.out, HG1.out⟩

theorem types_or {t : Int} (h : t ∈ types) : t = 1 ∨ t = 2 ∨ t = 5 ∨ t = 6 ∨ t = 16 := by
  simp [types] at h
  omega

/-- The cursor, a box of the call's own that holds r, and nothing else turned. -/
def Bo (w : World) (g gr : Nat) (r : Rec) (v : World) : Prop := g < gr ∧ w.heap.size ≤ gr ∧ Cur v g ∧ w.grownBy v (some g) ∧ Bk v gr 56 (rc r)
theorem Bo.start {w v : World} {g : Nat} (h : Cur v g) (k : w.grownBy v (some g)) (r : Rec) : Bo w g v.heap.size r (v.alloc (.cells #[.string r.name, .int .i64 r.ty, .int .i64 r.ttl, .int .i64 r.n, .string r.host, .string r.text] 56)) :=
  ⟨h.lt, k.size, h.alloc _, grown_trans k (World.grownBy_alloc v _ _), heap_alloc_new v _⟩
theorem Bo.step {w v v' : World} {g gr : Nat} {r : Rec} (h : Bo w g gr r v) (hc : Cur v' g) (hg : v.grownBy v' (some g)) : Bo w g gr r v' :=
  ⟨h.1, h.2.1, hc, grown_trans h.2.2.2.1 hg, h.2.2.2.2.grown hg (fun e => by have := h.1; have := Option.some.inj e; omega)⟩
theorem Bo.alloc {w v : World} {g gr : Nat} {r : Rec} (h : Bo w g gr r v) (o : Obj) : Bo w g gr r (v.alloc o) := h.step (h.2.2.1.alloc o) (World.grownBy_alloc v o _)
theorem Bo.set {w v : World} {g gr : Nat} {r : Rec} (h : Bo w g gr r v) (j : Nat) (u : Value) (r' : Rec) (e : (rc r).set j u = rc r') : Bo w g gr r' (v.setCell ⟨gr, j, none⟩ u) :=
  ⟨h.1, h.2.1, cur_new h.2.2.1 h.1 j u, grown_new h.2.2.2.1 h.2.1 j u, by rw [← e]; exact h.2.2.2.2.set j u⟩
theorem Bo.bx {w v : World} {g gr : Nat} {r : Rec} (h : Bo w g gr r v) : Bx v gr r := bx_of h.2.2.2.2

def serials : List Int := [0, 5, 60]
def texts : List ByteArray := [⟨#[]⟩, ⟨#[104, 105]⟩, ⟨#[116, 119, 101, 108, 118, 101, 98, 121, 116, 101, 115, 33]⟩]
theorem texts_short : ∀ x ∈ texts, Short x := all_short _ (by decide)
theorem short_mid {x : ByteArray} (h : Short x) : x.size ≤ 60 := Nat.le_trans h (by decide)

/-- As Bo, with the box of the result besides, made first and still empty. -/
def Bp (w : World) (g gr : Nat) (r : Rec) (v : World) : Prop := Bo w g gr r v ∧ w.heap.size < gr ∧ g < w.heap.size ∧ Bk v w.heap.size 56 (rc zr)
section
variable {w v v' : World} {g gr : Nat} {r : Rec}
theorem Bp.step (h : Bp w g gr r v) (hc : Cur v' g) (hg : v.grownBy v' (some g)) : Bp w g gr r v' :=
  ⟨h.1.step hc hg, h.2.1, h.2.2.1, h.2.2.2.grown hg (fun e => by have := h.2.2.1; have := Option.some.inj e; omega)⟩
theorem Bp.alloc (h : Bp w g gr r v) (o : Obj) : Bp w g gr r (v.alloc o) := ⟨h.1.alloc o, h.2.1, h.2.2.1, h.2.2.2.alloc o⟩
theorem Bp.set (h : Bp w g gr r v) (j : Nat) (u : Value) (r' : Rec) (e : (rc r).set j u = rc r') : Bp w g gr r' (v.setCell ⟨gr, j, none⟩ u) :=
  ⟨h.1.set j u r' e, h.2.1, h.2.2.1, h.2.2.2.other (p := ⟨gr, j, none⟩) (by have := h.2.1; show w.heap.size ≠ gr; omega) u⟩
theorem Bp.cur (h : Bp w g gr r v) : Cur v g := h.1.2.2.1
theorem Bp.start (hc : Cur v g) (k : w.grownBy v (some g)) (hg : g < w.heap.size) (hz : Bk v w.heap.size 56 (rc zr)) (r : Rec) : Bp w g v.heap.size r (v.alloc (.cells #[.string r.name, .int .i64 r.ty, .int .i64 r.ttl, .int .i64 r.n, .string r.host, .string r.text] 56)) :=
  ⟨Bo.start hc k r, hz.lt, hg, hz.alloc _⟩
theorem cur_fil (h : Cur v g) (hg : g < gr) (r : Rec) : Cur (fil v gr r) g :=
  cur_new (cur_new (cur_new (cur_new (cur_new (cur_new h hg 0 (.string r.name)) hg 1 (.int .i64 r.ty)) hg 2 (.int .i64 r.ttl)) hg 3 (.int .i64 r.n)) hg 4 (.string r.host)) hg 5 (.string r.text)
theorem grown_fil (h : w.grownBy v (some g)) (hr : w.heap.size ≤ gr) (r : Rec) : w.grownBy (fil v gr r) (some g) :=
  grown_new (grown_new (grown_new (grown_new (grown_new (grown_new h hr 0 (.string r.name)) hr 1 (.int .i64 r.ty)) hr 2 (.int .i64 r.ttl)) hr 3 (.int .i64 r.n)) hr 4 (.string r.host)) hr 5 (.string r.text)
theorem rcd_of (h : Bp w g gr r v) (hs : Sml r) : Rcd w g (.returned (.agg #[.string r.name, .int .i64 r.ty, .int .i64 r.ttl, .int .i64 r.n, .string r.host, .string r.text])) (fil v w.heap.size r) :=
  ⟨r, rfl, hs, cur_fil h.cur h.2.2.1 r, grown_fil h.1.2.2.2.1 (Nat.le_refl _) r⟩
end
theorem zero_box (w : World) : Bk (w.alloc (.cells #[.string ⟨#[]⟩, .int .i64 0, .int .i64 0, .int .i64 0, .string ⟨#[]⟩, .string ⟨#[]⟩] 56)) w.heap.size 56 (rc zr) := heap_alloc_new w _

set_option maxHeartbeats 4000000 in
set_option maxRecDepth 100000 in
theorem l5Draw_any (g : Nat) (w : World) (hc : Cur w g) : Calls Try.prog 67 #[.pointer (some ⟨g, 0, none⟩)] w (Rcd w g) := by
  have HC := Lib.hid hc
  have GL := Lib.hid hc.lt
  have Z0 := Lib.hid (zero_box w)
  clear hc
  go_enter Try.func67, Try.ntmps67
  go_wp2_with fail
  refine (l3Name_any g _ (HC.out.alloc _)).mono ?_
  rintro e w1 ⟨x, rfl, hx, hc1, hg1⟩
  have HX := Lib.hid hx
  have C1 := Lib.hid hc1
  have Z1 := Lib.hid (Z0.out.grown hg1 (fun e => by have := GL.out; have := Option.some.inj e; omega))
  have G1 := Lib.hid (grown_trans (World.grownBy_alloc w _ (some g)) hg1)
  clear hx hc1 hg1 HC Z0
  go_wp2_with fail
  refine (l5Type_any g w1 C1.out).mono ?_
  rintro e w2 ⟨t, rfl, ht, hc2, hg2⟩
  have HT := Lib.hid (types_or ht)
  have C2 := Lib.hid hc2
  have Z2 := Lib.hid (Z1.out.grown hg2 (fun e => by have := GL.out; have := Option.some.inj e; omega))
  have G2 := Lib.hid (grown_trans G1.out hg2)
  clear ht hc2 hg2 C1 G1 Z1
  go_wp2_with fail
  refine (l1Int_any g w2.heap.size 6 ttls _ (C2.out.alloc _) (bk_ints w2 ttls _ rfl) (Nat.ne_of_gt C2.out.lt) rfl (by omega) (by omega)).mono ?_
  rintro e w3 ⟨z, rfl, hz, hc3, hg3⟩
  have C3 := Lib.hid hc3
  have Z3 := Lib.hid ((Z2.out.alloc _).grown hg3 (fun e => by have := GL.out; have := Option.some.inj e; omega))
  have G3 := Lib.hid (grown_trans (grown_trans G2.out (World.grownBy_alloc w2 _ (some g))) hg3)
  clear hz hc3 hg3 C2 G2 Z2
  have B3 := fun t => Lib.hid (Bp.start C3.out G3.out GL.out Z3.out ⟨x, t, z, 0, ⟨#[]⟩, ⟨#[]⟩⟩)
  clear C3 G3 Z3
  have hx60 : Hid (x.size ≤ 60) := short_mid HX.out
  rcases HT.out with rfl | rfl | rfl | rfl | rfl
  · have B4 := B3 1
    clear B3
    go_wp2_with fail
    refine (l1Below_any g 9 _ B4.out.cur (by omega) (by omega)).mono ?_
    rintro e w4 ⟨y, rfl, hy0, hy1, hc4, hg4⟩
    have B5 := Lib.hid (B4.out.step hc4 hg4)
    clear hc4 hg4 B4
    generalize w3.heap.size = gr at *
    have B6 := Lib.hid (B5.out.set 3 (.int .i64 (1 + y)) ⟨x, 1, z, 1 + y, ⟨#[]⟩, ⟨#[]⟩⟩ rfl)
    obtain ⟨c0, c1, c2, c3, c4, c5⟩ := B5.out.1.bx
    have fc3 := B5.out.1.2.2.2.2.free 3
    obtain ⟨d0, d1, d2, d3, d4, d5⟩ := B6.out.1.bx
    obtain ⟨z0, z1, z2, z3, z4, z5⟩ := bx_of B6.out.2.2.2
    have fz0 := B6.out.2.2.2.free 0
    have fz1 := B6.out.2.2.2.free 1
    have fz2 := B6.out.2.2.2.free 2
    have fz3 := B6.out.2.2.2.free 3
    have fz4 := B6.out.2.2.2.free 4
    have fz5 := B6.out.2.2.2.free 5
    go_wp2
    exact bodyPost_ret (v := .agg #[.string ((Rec.mk x 1 z (1 + y) ⟨#[]⟩ ⟨#[]⟩)).name, .int .i64 ((Rec.mk x 1 z (1 + y) ⟨#[]⟩ ⟨#[]⟩)).ty, .int .i64 ((Rec.mk x 1 z (1 + y) ⟨#[]⟩ ⟨#[]⟩)).ttl, .int .i64 ((Rec.mk x 1 z (1 + y) ⟨#[]⟩ ⟨#[]⟩)).n, .string ((Rec.mk x 1 z (1 + y) ⟨#[]⟩ ⟨#[]⟩)).host, .string ((Rec.mk x 1 z (1 + y) ⟨#[]⟩ ⟨#[]⟩)).text]) (res1 rfl (fil_bk B6.out.2.2.2 (Rec.mk x 1 z (1 + y) ⟨#[]⟩ ⟨#[]⟩)) rfl) rfl (rcd_of (r := Rec.mk x 1 z (1 + y) ⟨#[]⟩ ⟨#[]⟩) B6.out ⟨hx60.out, Nat.zero_le _, Nat.zero_le _⟩)
  · have B4 := B3 2
    clear B3
    go_wp2_with fail
    refine (l3Name_any g _ B4.out.cur).mono ?_
    rintro e w4 ⟨y, rfl, hy, hc4, hg4⟩
    have HY := Lib.hid hy
    have B5 := Lib.hid (B4.out.step hc4 hg4)
    clear hy hc4 hg4 B4
    generalize w3.heap.size = gr at *
    have B6 := Lib.hid (B5.out.set 4 (.string y) ⟨x, 2, z, 0, y, ⟨#[]⟩⟩ rfl)
    obtain ⟨c0, c1, c2, c3, c4, c5⟩ := B5.out.1.bx
    have fc4 := B5.out.1.2.2.2.2.free 4
    obtain ⟨d0, d1, d2, d3, d4, d5⟩ := B6.out.1.bx
    obtain ⟨z0, z1, z2, z3, z4, z5⟩ := bx_of B6.out.2.2.2
    have fz0 := B6.out.2.2.2.free 0
    have fz1 := B6.out.2.2.2.free 1
    have fz2 := B6.out.2.2.2.free 2
    have fz3 := B6.out.2.2.2.free 3
    have fz4 := B6.out.2.2.2.free 4
    have fz5 := B6.out.2.2.2.free 5
    go_wp2
    exact bodyPost_ret (v := .agg #[.string ((Rec.mk x 2 z 0 y ⟨#[]⟩)).name, .int .i64 ((Rec.mk x 2 z 0 y ⟨#[]⟩)).ty, .int .i64 ((Rec.mk x 2 z 0 y ⟨#[]⟩)).ttl, .int .i64 ((Rec.mk x 2 z 0 y ⟨#[]⟩)).n, .string ((Rec.mk x 2 z 0 y ⟨#[]⟩)).host, .string ((Rec.mk x 2 z 0 y ⟨#[]⟩)).text]) (res1 rfl (fil_bk B6.out.2.2.2 (Rec.mk x 2 z 0 y ⟨#[]⟩)) rfl) rfl (rcd_of (r := Rec.mk x 2 z 0 y ⟨#[]⟩) B6.out ⟨hx60.out, short_mid HY.out, Nat.zero_le _⟩)
  · have B4 := B3 5
    clear B3
    go_wp2_with fail
    refine (l3Name_any g _ B4.out.cur).mono ?_
    rintro e w4 ⟨y, rfl, hy, hc4, hg4⟩
    have HY := Lib.hid hy
    have B5 := Lib.hid (B4.out.step hc4 hg4)
    clear hy hc4 hg4 B4
    generalize w3.heap.size = gr at *
    have B6 := Lib.hid (B5.out.set 4 (.string y) ⟨x, 5, z, 0, y, ⟨#[]⟩⟩ rfl)
    obtain ⟨c0, c1, c2, c3, c4, c5⟩ := B5.out.1.bx
    have fc4 := B5.out.1.2.2.2.2.free 4
    obtain ⟨d0, d1, d2, d3, d4, d5⟩ := B6.out.1.bx
    obtain ⟨z0, z1, z2, z3, z4, z5⟩ := bx_of B6.out.2.2.2
    have fz0 := B6.out.2.2.2.free 0
    have fz1 := B6.out.2.2.2.free 1
    have fz2 := B6.out.2.2.2.free 2
    have fz3 := B6.out.2.2.2.free 3
    have fz4 := B6.out.2.2.2.free 4
    have fz5 := B6.out.2.2.2.free 5
    go_wp2
    exact bodyPost_ret (v := .agg #[.string ((Rec.mk x 5 z 0 y ⟨#[]⟩)).name, .int .i64 ((Rec.mk x 5 z 0 y ⟨#[]⟩)).ty, .int .i64 ((Rec.mk x 5 z 0 y ⟨#[]⟩)).ttl, .int .i64 ((Rec.mk x 5 z 0 y ⟨#[]⟩)).n, .string ((Rec.mk x 5 z 0 y ⟨#[]⟩)).host, .string ((Rec.mk x 5 z 0 y ⟨#[]⟩)).text]) (res1 rfl (fil_bk B6.out.2.2.2 (Rec.mk x 5 z 0 y ⟨#[]⟩)) rfl) rfl (rcd_of (r := Rec.mk x 5 z 0 y ⟨#[]⟩) B6.out ⟨hx60.out, short_mid HY.out, Nat.zero_le _⟩)
  · have B4 := B3 6
    clear B3
    go_wp2_with fail
    refine (l3Name_any g _ B4.out.cur).mono ?_
    rintro e w4 ⟨y, rfl, hy, hc4, hg4⟩
    have HY := Lib.hid hy
    have B5 := Lib.hid (B4.out.step hc4 hg4)
    clear hy hc4 hg4 B4
    generalize w3.heap.size = gr at *
    have B6 := Lib.hid (B5.out.set 4 (.string y) ⟨x, 6, z, 0, y, ⟨#[]⟩⟩ rfl)
    obtain ⟨c0, c1, c2, c3, c4, c5⟩ := B5.out.1.bx
    have fc4 := B5.out.1.2.2.2.2.free 4
    have hsz : (w4.setCell ⟨gr, 4, none⟩ (.string y)).heap.size = w4.heap.size := by simp [World.setCell]
    have K := Lib.hid (l1Int_any g (w4.setCell ⟨gr, 4, none⟩ (.string y)).heap.size 3 serials _ (B6.out.cur.alloc _) (bk_ints (w4.setCell ⟨gr, 4, none⟩ (.string y)) serials _ rfl) (Nat.ne_of_gt B6.out.cur.lt) rfl (by omega) (by omega))
    rw [hsz] at K
    clear hsz
    go_wp2_with fail
    refine K.out.mono ?_
    rintro e w5 ⟨k, rfl, hk, hc5, hg5⟩
    have B7 := Lib.hid ((B6.out.alloc _).step hc5 hg5)
    clear hk hc5 hg5 B6 B5 K c0 c1 c2 c3 c4 c5 fc4
    have B8 := Lib.hid (B7.out.set 3 (.int .i64 k) ⟨x, 6, z, k, y, ⟨#[]⟩⟩ rfl)
    obtain ⟨c0, c1, c2, c3, c4, c5⟩ := B7.out.1.bx
    have fc3 := B7.out.1.2.2.2.2.free 3
    obtain ⟨d0, d1, d2, d3, d4, d5⟩ := B8.out.1.bx
    obtain ⟨z0, z1, z2, z3, z4, z5⟩ := bx_of B8.out.2.2.2
    have fz0 := B8.out.2.2.2.free 0
    have fz1 := B8.out.2.2.2.free 1
    have fz2 := B8.out.2.2.2.free 2
    have fz3 := B8.out.2.2.2.free 3
    have fz4 := B8.out.2.2.2.free 4
    have fz5 := B8.out.2.2.2.free 5
    go_wp2
    exact bodyPost_ret (v := .agg #[.string ((Rec.mk x 6 z k y ⟨#[]⟩)).name, .int .i64 ((Rec.mk x 6 z k y ⟨#[]⟩)).ty, .int .i64 ((Rec.mk x 6 z k y ⟨#[]⟩)).ttl, .int .i64 ((Rec.mk x 6 z k y ⟨#[]⟩)).n, .string ((Rec.mk x 6 z k y ⟨#[]⟩)).host, .string ((Rec.mk x 6 z k y ⟨#[]⟩)).text]) (res1 rfl (fil_bk B8.out.2.2.2 (Rec.mk x 6 z k y ⟨#[]⟩)) rfl) rfl (rcd_of (r := Rec.mk x 6 z k y ⟨#[]⟩) B8.out ⟨hx60.out, short_mid HY.out, Nat.zero_le _⟩)
  · have B4 := B3 16
    clear B3
    have hsz : (w3.alloc (.cells #[.string x, .int .i64 16, .int .i64 z, .int .i64 0, .string ⟨#[]⟩, .string ⟨#[]⟩] 56)).heap.size = w3.heap.size + 1 := by simp
    have K := Lib.hid (l1Str_any g (w3.alloc (.cells #[.string x, .int .i64 16, .int .i64 z, .int .i64 0, .string ⟨#[]⟩, .string ⟨#[]⟩] 56)).heap.size 3 texts _ (B4.out.cur.alloc _) (bk_texts (w3.alloc (.cells #[.string x, .int .i64 16, .int .i64 z, .int .i64 0, .string ⟨#[]⟩, .string ⟨#[]⟩] 56)) texts _ rfl) (Nat.ne_of_gt B4.out.cur.lt) rfl (by omega) (by omega))
    rw [hsz] at K
    clear hsz
    go_wp2_with fail
    refine K.out.mono ?_
    rintro e w5 ⟨y, rfl, hy, hc5, hg5⟩
    have HY := Lib.hid (texts_short y hy)
    have B7 := Lib.hid ((B4.out.alloc _).step hc5 hg5)
    clear hy hc5 hg5 B4 K
    generalize w3.heap.size = gr at *
    have B8 := Lib.hid (B7.out.set 5 (.string y) ⟨x, 16, z, 0, ⟨#[]⟩, y⟩ rfl)
    obtain ⟨c0, c1, c2, c3, c4, c5⟩ := B7.out.1.bx
    have fc5 := B7.out.1.2.2.2.2.free 5
    obtain ⟨d0, d1, d2, d3, d4, d5⟩ := B8.out.1.bx
    obtain ⟨z0, z1, z2, z3, z4, z5⟩ := bx_of B8.out.2.2.2
    have fz0 := B8.out.2.2.2.free 0
    have fz1 := B8.out.2.2.2.free 1
    have fz2 := B8.out.2.2.2.free 2
    have fz3 := B8.out.2.2.2.free 3
    have fz4 := B8.out.2.2.2.free 4
    have fz5 := B8.out.2.2.2.free 5
    go_wp2
    exact bodyPost_ret (v := .agg #[.string ((Rec.mk x 16 z 0 ⟨#[]⟩ y)).name, .int .i64 ((Rec.mk x 16 z 0 ⟨#[]⟩ y)).ty, .int .i64 ((Rec.mk x 16 z 0 ⟨#[]⟩ y)).ttl, .int .i64 ((Rec.mk x 16 z 0 ⟨#[]⟩ y)).n, .string ((Rec.mk x 16 z 0 ⟨#[]⟩ y)).host, .string ((Rec.mk x 16 z 0 ⟨#[]⟩ y)).text]) (res1 rfl (fil_bk B8.out.2.2.2 (Rec.mk x 16 z 0 ⟨#[]⟩ y)) rfl) rfl (rcd_of (r := Rec.mk x 16 z 0 ⟨#[]⟩ y) B8.out ⟨hx60.out, Nat.zero_le _, short_mid HY.out⟩)

end Go.Proofs.Ytjgmocmaeadjdaa.DrawR
