/- What the model's draws of records do: records whose texts have at most 60 bytes; nothing that was there is turned but the cursor. -/
import Derived.Test.YtmabbeefeipnaaaGreatDoorDrawN
import Derived.Test.YtmabbeefeipnaaaGreatDoorMemR
import Derived.Test.YtmabbeefeipnaaaGreatDoorBoxR
import Derived.Test.YtmabbeefeipnaaaGreatDoorAppR
import Derived.Test.YtmabbeefeipnaaaGreatDoorResR
namespace Go.Proofs.YtmabbeefeipnaaaGreatDoor.DrawR
open Go.RowKit Go.Proofs.YtmabbeefeipnaaaGreatDoor.Mem Go.Proofs.YtmabbeefeipnaaaGreatDoor.MemS Go.Proofs.YtmabbeefeipnaaaGreatDoor.MemR Go.Proofs.YtmabbeefeipnaaaGreatDoor.BoxR Go.Proofs.YtmabbeefeipnaaaGreatDoor.Draw Go.Proofs.YtmabbeefeipnaaaGreatDoor.DrawS Go.Proofs.YtmabbeefeipnaaaGreatDoor.DrawL Go.Proofs.YtmabbeefeipnaaaGreatDoor.DrawN Go.Proofs.YtmabbeefeipnaaaGreatDoor.AppR Go.Proofs.YtmabbeefeipnaaaGreatDoor.ResR

/-- A record of short texts. -/
def Sml (r : Rec) : Prop := r.name.size ≤ 60 ∧ r.host.size ≤ 60 ∧ r.text.size ≤ 60
def Rcd (w : World) (g : Nat) (e : Ending) (w' : World) : Prop := ∃ r : Rec, e = .returned (.agg #[.string r.name, .int .i64 r.ty, .int .i64 r.ttl, .int .i64 r.n, .string r.host, .string r.text]) ∧ Sml r ∧ Cur w' g ∧ w.grownBy w' (some g)
theorem grown_new {w wr : World} {g gr : Nat} (h : w.grownBy wr (some g)) (hr : w.heap.size ≤ gr) (j : Nat) (u : Value) : w.grownBy (wr.setCell ⟨gr, j, none⟩ u) (some g) :=
  ⟨h.os, h.tape, h.output, by simpa [World.setCell] using h.size, fun k hk hne => by
    rw [Below.heap_setCell _ _ _ _ (fun e => by have : gr = k := by simpa using e.symm
                                                omega)]; exact h.block k hk hne⟩
theorem cur_new {w : World} {g gr : Nat} (h : Cur w g) (hr : g < gr) (j : Nat) (u : Value) : Cur (w.setCell ⟨gr, j, none⟩ u) g :=
  h.grown (grown_set (grown_refl _ _) j u) (fun k hk => by cases hk; exact hr)

def types : List Int := [1, 1, 1, 2, 2, 5, 6, 16]
def ttls : List Int := [0, 1, 5, 60, 300, 100000]

set_option maxHeartbeats 1000000 in
theorem l5Type_any (g : Nat) (w : World) (hc : Cur w g) : Calls Tryz.prog 18 #[.pointer (some ⟨g, 0, none⟩)] w (Val w g (· ∈ types)) := by
  have HC := Lib.hid hc
  clear hc
  go_enter Tryz.func18, Tryz.ntmps18
  go_wp2_with fail
  refine (l1Int_any g w.heap.size 8 types _ (HC.out.alloc _) (bk_ints w types _ rfl) (Nat.ne_of_gt HC.out.lt) rfl (by omega) (by omega)).mono ?_
  rintro e w1 ⟨x, rfl, hx, hc1, hg1⟩
  have HX := Lib.hid hx
  have HC1 := Lib.hid hc1
  have HG1 := Lib.hid (grown_trans (World.grownBy_alloc w _ (some g)) hg1)
  clear hc1 hg1 hx
  go_wp2
  go_ret
  exact ⟨x, rfl, HX.out, HC1.out, HG1.out⟩

theorem types_or {t : Int} (h : t ∈ types) : t = 1 ∨ t = 2 ∨ t = 5 ∨ t = 6 ∨ t = 16 := by
  simp [types] at h
  omega

/-- The cursor, a box of the call's own that holds r, and nothing else turned. -/
def Bo (w : World) (g gr : Nat) (r : Rec) (v : World) : Prop := g < gr ∧ w.heap.size ≤ gr ∧ Cur v g ∧ w.grownBy v (some g) ∧ Bk v gr 40 (rc r)
theorem Bo.start {w v : World} {g : Nat} (h : Cur v g) (k : w.grownBy v (some g)) (r : Rec) : Bo w g v.heap.size r (v.alloc (.cells #[.string r.name, .int .i64 r.ty, .int .i64 r.ttl, .int .i64 r.n, .string r.host, .string r.text] 40)) :=
  ⟨h.lt, k.size, h.alloc _, grown_trans k (World.grownBy_alloc v _ _), heap_alloc_new v _⟩
theorem Bo.step {w v v' : World} {g gr : Nat} {r : Rec} (h : Bo w g gr r v) (hc : Cur v' g) (hg : v.grownBy v' (some g)) : Bo w g gr r v' :=
  ⟨h.1, h.2.1, hc, grown_trans h.2.2.2.1 hg, h.2.2.2.2.grown hg (fun e => by have := h.1; have := Option.some.inj e; omega)⟩
theorem Bo.alloc {w v : World} {g gr : Nat} {r : Rec} (h : Bo w g gr r v) (o : Obj) : Bo w g gr r (v.alloc o) := h.step (h.2.2.1.alloc o) (World.grownBy_alloc v o _)
theorem Bo.set {w v : World} {g gr : Nat} {r : Rec} (h : Bo w g gr r v) (j : Nat) (u : Value) (r' : Rec) (e : (rc r).set j u = rc r') : Bo w g gr r' (v.setCell ⟨gr, j, none⟩ u) :=
  ⟨h.1, h.2.1, cur_new h.2.2.1 h.1 j u, grown_new h.2.2.2.1 h.2.1 j u, by rw [← e]; exact h.2.2.2.2.set j u⟩
theorem Bo.bx {w v : World} {g gr : Nat} {r : Rec} (h : Bo w g gr r v) : Bx v gr r := bx_of h.2.2.2.2

def serials : List Int := [0, 5, 60]
def texts : List ByteArray := [⟨#[]⟩, ⟨#[104, 105]⟩, ⟨#[116, 119, 101, 108, 118, 101, 98, 121, 116, 101, 115, 33]⟩]
theorem texts_short : ∀ x ∈ texts, Short x := all_short _ (by decide)
theorem short_mid {x : ByteArray} (h : Short x) : x.size ≤ 60 := Nat.le_trans h (by decide)

/-- As Bo, with the box of the result besides, made first and still empty. -/
def Bp (w : World) (g gr : Nat) (r : Rec) (v : World) : Prop := Bo w g gr r v ∧ w.heap.size < gr ∧ g < w.heap.size ∧ Bk v w.heap.size 40 (rc zr)
section
variable {w v v' : World} {g gr : Nat} {r : Rec}
theorem Bp.step (h : Bp w g gr r v) (hc : Cur v' g) (hg : v.grownBy v' (some g)) : Bp w g gr r v' :=
  ⟨h.1.step hc hg, h.2.1, h.2.2.1, h.2.2.2.grown hg (fun e => by have := h.2.2.1; have := Option.some.inj e; omega)⟩
theorem Bp.alloc (h : Bp w g gr r v) (o : Obj) : Bp w g gr r (v.alloc o) := ⟨h.1.alloc o, h.2.1, h.2.2.1, h.2.2.2.alloc o⟩
theorem Bp.set (h : Bp w g gr r v) (j : Nat) (u : Value) (r' : Rec) (e : (rc r).set j u = rc r') : Bp w g gr r' (v.setCell ⟨gr, j, none⟩ u) :=
  ⟨h.1.set j u r' e, h.2.1, h.2.2.1, h.2.2.2.other (p := ⟨gr, j, none⟩) (by have := h.2.1; show w.heap.size ≠ gr; omega) u⟩
theorem Bp.cur (h : Bp w g gr r v) : Cur v g := h.1.2.2.1
theorem Bp.start (hc : Cur v g) (k : w.grownBy v (some g)) (hg : g < w.heap.size) (hz : Bk v w.heap.size 40 (rc zr)) (r : Rec) : Bp w g v.heap.size r (v.alloc (.cells #[.string r.name, .int .i64 r.ty, .int .i64 r.ttl, .int .i64 r.n, .string r.host, .string r.text] 40)) :=
  ⟨Bo.start hc k r, hz.lt, hg, hz.alloc _⟩
theorem cur_fil (h : Cur v g) (hg : g < gr) (r : Rec) : Cur (fil v gr r) g :=
  cur_new (cur_new (cur_new (cur_new (cur_new (cur_new h hg 0 (.string r.name)) hg 1 (.int .i64 r.ty)) hg 2 (.int .i64 r.ttl)) hg 3 (.int .i64 r.n)) hg 4 (.string r.host)) hg 5 (.string r.text)
theorem grown_fil (h : w.grownBy v (some g)) (hr : w.heap.size ≤ gr) (r : Rec) : w.grownBy (fil v gr r) (some g) :=
  grown_new (grown_new (grown_new (grown_new (grown_new (grown_new h hr 0 (.string r.name)) hr 1 (.int .i64 r.ty)) hr 2 (.int .i64 r.ttl)) hr 3 (.int .i64 r.n)) hr 4 (.string r.host)) hr 5 (.string r.text)
theorem rcd_of (h : Bp w g gr r v) (hs : Sml r) : Rcd w g (.returned (.agg #[.string r.name, .int .i64 r.ty, .int .i64 r.ttl, .int .i64 r.n, .string r.host, .string r.text])) (fil v w.heap.size r) :=
  ⟨r, rfl, hs, cur_fil h.cur h.2.2.1 r, grown_fil h.1.2.2.2.1 (Nat.le_refl _) r⟩
end
theorem zero_box (w : World) : Bk (w.alloc (.cells #[.string ⟨#[]⟩, .int .i64 0, .int .i64 0, .int .i64 0, .string ⟨#[]⟩, .string ⟨#[]⟩] 40)) w.heap.size 40 (rc zr) := heap_alloc_new w _

end Go.Proofs.YtmabbeefeipnaaaGreatDoor.DrawR
