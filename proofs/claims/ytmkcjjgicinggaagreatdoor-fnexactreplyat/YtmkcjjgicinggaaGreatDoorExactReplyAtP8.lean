/- What HelpIn does in the model: a new slice of the addresses of the servers of the cut. Condition: at most 1048576 records, no name of more than 400000000 bytes. -/
import Derived.Test.YtmkcjjgicinggaaGreatDoorExactReplyAtP7
import Derived.Test.YtmkcjjgicinggaaGreatDoorExactReplyAtP3
import Derived.Test.YtmkcjjgicinggaaGreatDoorExactReplyAtP2
import Derived.Test.YtmkcjjgicinggaaGreatDoorExactReplyAtP4
import Derived.Lib.QuietBelow
import Derived.Deep.DeepCutAuto
import Derived.BigQuiet
import Derived.Test.YtmkcjjgicinggaaGreatDoorExactReplyAtP5
import Derived.Test.YtmkcjjgicinggaaGreatDoorMemZ
import Derived.Test.YtmkcjjgicinggaaGreatDoorMemS
import Derived.Deep.RegionHeld3
/- What Serve does in the program: a reply with the code, the flag and the first eight records of each section of the content. Condition: at most 1048576 records, no name of more than 400000000 bytes. -/
namespace Go.Proofs.YtmkcjjgicinggaaGreatDoor.ServI
open Go.RowKit Go.Proofs.YtmkcjjgicinggaaGreatDoor.Mem Go.Proofs.YtmkcjjgicinggaaGreatDoor.MemR Go.Proofs.YtmkcjjgicinggaaGreatDoor.SetMath Go.Proofs.YtmkcjjgicinggaaGreatDoor.ZoneMath Go.Proofs.YtmkcjjgicinggaaGreatDoor.ServeMath Go.Proofs.YtmkcjjgicinggaaGreatDoor.MemZ Go.Proofs.YtmkcjjgicinggaaGreatDoor.MemM Go.Proofs.YtmkcjjgicinggaaGreatDoor.BoxR Go.Proofs.YtmkcjjgicinggaaGreatDoor.CpyR Go.Proofs.YtmkcjjgicinggaaGreatDoor.ResM Go.Proofs.YtmkcjjgicinggaaGreatDoor.RepM Go.Proofs.YtmkcjjgicinggaaGreatDoor.Wt Go.Proofs.YtmkcjjgicinggaaGreatDoor.ShoS Go.Proofs.YtmkcjjgicinggaaGreatDoor.ResC Go.Proofs.YtmkcjjgicinggaaGreatDoor.ContI

theorem Sec.put {B k : Nat} {w : World} {A : Option Addr} {m c : Nat} {L : List Rec} (h : Sec B w A m c L) (hk : k < B) (i : Nat) (v : Value) : Sec B (w.setCell ⟨k, i, none⟩ v) A m c L := by
  rcases h with h | ⟨g, r, h1, h2, h3, h4, h5⟩
  · exact .inl h
  · exact .inr ⟨g, r, h1, h2, h3, h4, h5.other (p := ⟨k, i, none⟩) (show g ≠ k by omega) v⟩

theorem cells5 {w w' : World} {b : Nat} {x0 x1 x2 x3 x4 : Value} (m : w.cell? ⟨b, 0, none⟩ = some x0 ∧ w.cell? ⟨b, 1, none⟩ = some x1 ∧ w.cell? ⟨b, 2, none⟩ = some x2 ∧ w.cell? ⟨b, 3, none⟩ = some x3 ∧ w.cell? ⟨b, 4, none⟩ = some x4) (e : ∀ j, w'.cell? ⟨b, j, none⟩ = w.cell? ⟨b, j, none⟩) : w'.cell? ⟨b, 0, none⟩ = some x0 ∧ w'.cell? ⟨b, 1, none⟩ = some x1 ∧ w'.cell? ⟨b, 2, none⟩ = some x2 ∧ w'.cell? ⟨b, 3, none⟩ = some x3 ∧ w'.cell? ⟨b, 4, none⟩ = some x4 :=
  ⟨(e 0).trans m.1, (e 1).trans m.2.1, (e 2).trans m.2.2.1, (e 3).trans m.2.2.2.1, (e 4).trans m.2.2.2.2⟩

theorem alt {B : Nat} {w : World} {A : Option Addr} {m c : Nat} {L : List Rec} (h : Sec B w A m c L) : ((A = none ∧ m = 0 ∧ c = 0) ∨ ∃ g, A = some ⟨g, 0, none⟩) ∧ ((A = none ∧ m8 m = 0 ∧ c = 0) ∨ ∃ g, A = some ⟨g, 0, none⟩) := by
  rcases h with ⟨h1, rfl, h2, _⟩ | ⟨g, r, h1, _⟩
  · exact ⟨.inl ⟨h1, rfl, h2⟩, .inl ⟨h1, rfl, h2⟩⟩
  · exact ⟨.inr ⟨g, h1⟩, .inr ⟨g, h1⟩⟩

section
variable {w0 w w1 w' : World} {k : Nat} {g b : Nat} {h : Hd} {A1 A2 A3 B1 B2 B3 : Option Addr} {n1 c1 n2 c2 n3 c3 m1 e1 m2 e2 m3 e3 : Nat} {d : Int} {a : Bool} {J1 J2 J3 : List Rec}

theorem keptI (m : ((((w.cell? ⟨g, 0, none⟩ = some (.int .i64 h.id) ∧ w.cell? ⟨g, 1, none⟩ = some (.bool h.rp) ∧ w.cell? ⟨g, 2, none⟩ = some (.bool h.au) ∧ w.cell? ⟨g, 3, none⟩ = some (.bool h.ct) ∧ w.cell? ⟨g, 4, none⟩ = some (.bool h.wa) ∧ w.cell? ⟨g, 5, none⟩ = some (.bool h.ca) ∧ w.cell? ⟨g, 6, none⟩ = some (.int .i64 h.code) ∧ w.cell? ⟨g, 7, none⟩ = some (.string h.qn) ∧ w.cell? ⟨g, 8, none⟩ = some (.int .i64 h.qt) ∧ w.cell? ⟨g, 9, none⟩ = some (.slice A1 n1 c1) ∧ w.cell? ⟨g, 10, none⟩ = some (.slice A2 n2 c2) ∧ w.cell? ⟨g, 11, none⟩ = some (.slice A3 n3 c3)) ∧ (w.cell? ⟨b, 0, none⟩ = some (.int .i64 d) ∧ w.cell? ⟨b, 1, none⟩ = some (.bool a) ∧ w.cell? ⟨b, 2, none⟩ = some (.slice B1 m1 e1) ∧ w.cell? ⟨b, 3, none⟩ = some (.slice B2 m2 e2) ∧ w.cell? ⟨b, 4, none⟩ = some (.slice B3 m3 e3))) ∧ Sec (k + 1) w B1 m1 e1 J1 ∧ Sec (k + 1) w B2 m2 e2 J2 ∧ Sec (k + 1) w B3 m3 e3 J3) ∧ RB w k) ∧ Sv w0 w) (hl : Below w.heap.size w w') : ((((w'.cell? ⟨g, 0, none⟩ = some (.int .i64 h.id) ∧ w'.cell? ⟨g, 1, none⟩ = some (.bool h.rp) ∧ w'.cell? ⟨g, 2, none⟩ = some (.bool h.au) ∧ w'.cell? ⟨g, 3, none⟩ = some (.bool h.ct) ∧ w'.cell? ⟨g, 4, none⟩ = some (.bool h.wa) ∧ w'.cell? ⟨g, 5, none⟩ = some (.bool h.ca) ∧ w'.cell? ⟨g, 6, none⟩ = some (.int .i64 h.code) ∧ w'.cell? ⟨g, 7, none⟩ = some (.string h.qn) ∧ w'.cell? ⟨g, 8, none⟩ = some (.int .i64 h.qt) ∧ w'.cell? ⟨g, 9, none⟩ = some (.slice A1 n1 c1) ∧ w'.cell? ⟨g, 10, none⟩ = some (.slice A2 n2 c2) ∧ w'.cell? ⟨g, 11, none⟩ = some (.slice A3 n3 c3)) ∧ (w'.cell? ⟨b, 0, none⟩ = some (.int .i64 d) ∧ w'.cell? ⟨b, 1, none⟩ = some (.bool a) ∧ w'.cell? ⟨b, 2, none⟩ = some (.slice B1 m1 e1) ∧ w'.cell? ⟨b, 3, none⟩ = some (.slice B2 m2 e2) ∧ w'.cell? ⟨b, 4, none⟩ = some (.slice B3 m3 e3))) ∧ Sec (k + 1) w' B1 m1 e1 J1 ∧ Sec (k + 1) w' B2 m2 e2 J2 ∧ Sec (k + 1) w' B3 m3 e3 J3) ∧ RB w' k) ∧ Sv w0 w' :=
  ⟨⟨⟨⟨Mx.below m.1.1.1.1 hl, cells5 m.1.1.1.2 fun j => hl.cell (p := ⟨b, j, none⟩) (World.block_lt_of_cell? w ⟨b, 0, none⟩ m.1.1.1.2.1)⟩, m.1.1.2.1.below hl, m.1.1.2.2.1.below hl, m.1.1.2.2.2.below hl⟩, m.1.2.below hl⟩, m.2.trans (hl.mono m.2.size)⟩

theorem keptI_draw (m : ((((w.cell? ⟨g, 0, none⟩ = some (.int .i64 h.id) ∧ w.cell? ⟨g, 1, none⟩ = some (.bool h.rp) ∧ w.cell? ⟨g, 2, none⟩ = some (.bool h.au) ∧ w.cell? ⟨g, 3, none⟩ = some (.bool h.ct) ∧ w.cell? ⟨g, 4, none⟩ = some (.bool h.wa) ∧ w.cell? ⟨g, 5, none⟩ = some (.bool h.ca) ∧ w.cell? ⟨g, 6, none⟩ = some (.int .i64 h.code) ∧ w.cell? ⟨g, 7, none⟩ = some (.string h.qn) ∧ w.cell? ⟨g, 8, none⟩ = some (.int .i64 h.qt) ∧ w.cell? ⟨g, 9, none⟩ = some (.slice A1 n1 c1) ∧ w.cell? ⟨g, 10, none⟩ = some (.slice A2 n2 c2) ∧ w.cell? ⟨g, 11, none⟩ = some (.slice A3 n3 c3)) ∧ (w.cell? ⟨b, 0, none⟩ = some (.int .i64 d) ∧ w.cell? ⟨b, 1, none⟩ = some (.bool a) ∧ w.cell? ⟨b, 2, none⟩ = some (.slice B1 m1 e1) ∧ w.cell? ⟨b, 3, none⟩ = some (.slice B2 m2 e2) ∧ w.cell? ⟨b, 4, none⟩ = some (.slice B3 m3 e3))) ∧ Sec (k + 1) w B1 m1 e1 J1 ∧ Sec (k + 1) w B2 m2 e2 J2 ∧ Sec (k + 1) w B3 m3 e3 J3) ∧ RB w k) ∧ Sv w0 w) : ((((w.drew.cell? ⟨g, 0, none⟩ = some (.int .i64 h.id) ∧ w.drew.cell? ⟨g, 1, none⟩ = some (.bool h.rp) ∧ w.drew.cell? ⟨g, 2, none⟩ = some (.bool h.au) ∧ w.drew.cell? ⟨g, 3, none⟩ = some (.bool h.ct) ∧ w.drew.cell? ⟨g, 4, none⟩ = some (.bool h.wa) ∧ w.drew.cell? ⟨g, 5, none⟩ = some (.bool h.ca) ∧ w.drew.cell? ⟨g, 6, none⟩ = some (.int .i64 h.code) ∧ w.drew.cell? ⟨g, 7, none⟩ = some (.string h.qn) ∧ w.drew.cell? ⟨g, 8, none⟩ = some (.int .i64 h.qt) ∧ w.drew.cell? ⟨g, 9, none⟩ = some (.slice A1 n1 c1) ∧ w.drew.cell? ⟨g, 10, none⟩ = some (.slice A2 n2 c2) ∧ w.drew.cell? ⟨g, 11, none⟩ = some (.slice A3 n3 c3)) ∧ (w.drew.cell? ⟨b, 0, none⟩ = some (.int .i64 d) ∧ w.drew.cell? ⟨b, 1, none⟩ = some (.bool a) ∧ w.drew.cell? ⟨b, 2, none⟩ = some (.slice B1 m1 e1) ∧ w.drew.cell? ⟨b, 3, none⟩ = some (.slice B2 m2 e2) ∧ w.drew.cell? ⟨b, 4, none⟩ = some (.slice B3 m3 e3))) ∧ Sec (k + 1) w.drew B1 m1 e1 J1 ∧ Sec (k + 1) w.drew B2 m2 e2 J2 ∧ Sec (k + 1) w.drew B3 m3 e3 J3) ∧ RB w.drew k) ∧ Sv w0 w.drew := keptI m ((Below.refl _ _).drew)

theorem keptI_put (m : ((((w.cell? ⟨g, 0, none⟩ = some (.int .i64 h.id) ∧ w.cell? ⟨g, 1, none⟩ = some (.bool h.rp) ∧ w.cell? ⟨g, 2, none⟩ = some (.bool h.au) ∧ w.cell? ⟨g, 3, none⟩ = some (.bool h.ct) ∧ w.cell? ⟨g, 4, none⟩ = some (.bool h.wa) ∧ w.cell? ⟨g, 5, none⟩ = some (.bool h.ca) ∧ w.cell? ⟨g, 6, none⟩ = some (.int .i64 h.code) ∧ w.cell? ⟨g, 7, none⟩ = some (.string h.qn) ∧ w.cell? ⟨g, 8, none⟩ = some (.int .i64 h.qt) ∧ w.cell? ⟨g, 9, none⟩ = some (.slice A1 n1 c1) ∧ w.cell? ⟨g, 10, none⟩ = some (.slice A2 n2 c2) ∧ w.cell? ⟨g, 11, none⟩ = some (.slice A3 n3 c3)) ∧ (w.cell? ⟨b, 0, none⟩ = some (.int .i64 d) ∧ w.cell? ⟨b, 1, none⟩ = some (.bool a) ∧ w.cell? ⟨b, 2, none⟩ = some (.slice B1 m1 e1) ∧ w.cell? ⟨b, 3, none⟩ = some (.slice B2 m2 e2) ∧ w.cell? ⟨b, 4, none⟩ = some (.slice B3 m3 e3))) ∧ Sec (k + 1) w B1 m1 e1 J1 ∧ Sec (k + 1) w B2 m2 e2 J2 ∧ Sec (k + 1) w B3 m3 e3 J3) ∧ RB w k) ∧ Sv w0 w) (h0 : w0.heap.size ≤ k) (h1 : g ≠ k) (h2 : b ≠ k) (i : Nat) (v : Value) : (((((w.setCell ⟨k, i, none⟩ v).cell? ⟨g, 0, none⟩ = some (.int .i64 h.id) ∧ (w.setCell ⟨k, i, none⟩ v).cell? ⟨g, 1, none⟩ = some (.bool h.rp) ∧ (w.setCell ⟨k, i, none⟩ v).cell? ⟨g, 2, none⟩ = some (.bool h.au) ∧ (w.setCell ⟨k, i, none⟩ v).cell? ⟨g, 3, none⟩ = some (.bool h.ct) ∧ (w.setCell ⟨k, i, none⟩ v).cell? ⟨g, 4, none⟩ = some (.bool h.wa) ∧ (w.setCell ⟨k, i, none⟩ v).cell? ⟨g, 5, none⟩ = some (.bool h.ca) ∧ (w.setCell ⟨k, i, none⟩ v).cell? ⟨g, 6, none⟩ = some (.int .i64 h.code) ∧ (w.setCell ⟨k, i, none⟩ v).cell? ⟨g, 7, none⟩ = some (.string h.qn) ∧ (w.setCell ⟨k, i, none⟩ v).cell? ⟨g, 8, none⟩ = some (.int .i64 h.qt) ∧ (w.setCell ⟨k, i, none⟩ v).cell? ⟨g, 9, none⟩ = some (.slice A1 n1 c1) ∧ (w.setCell ⟨k, i, none⟩ v).cell? ⟨g, 10, none⟩ = some (.slice A2 n2 c2) ∧ (w.setCell ⟨k, i, none⟩ v).cell? ⟨g, 11, none⟩ = some (.slice A3 n3 c3)) ∧ ((w.setCell ⟨k, i, none⟩ v).cell? ⟨b, 0, none⟩ = some (.int .i64 d) ∧ (w.setCell ⟨k, i, none⟩ v).cell? ⟨b, 1, none⟩ = some (.bool a) ∧ (w.setCell ⟨k, i, none⟩ v).cell? ⟨b, 2, none⟩ = some (.slice B1 m1 e1) ∧ (w.setCell ⟨k, i, none⟩ v).cell? ⟨b, 3, none⟩ = some (.slice B2 m2 e2) ∧ (w.setCell ⟨k, i, none⟩ v).cell? ⟨b, 4, none⟩ = some (.slice B3 m3 e3))) ∧ Sec (k + 1) (w.setCell ⟨k, i, none⟩ v) B1 m1 e1 J1 ∧ Sec (k + 1) (w.setCell ⟨k, i, none⟩ v) B2 m2 e2 J2 ∧ Sec (k + 1) (w.setCell ⟨k, i, none⟩ v) B3 m3 e3 J3) ∧ RB (w.setCell ⟨k, i, none⟩ v) k) ∧ Sv w0 (w.setCell ⟨k, i, none⟩ v) :=
  ⟨⟨⟨⟨Mx.set1 m.1.1.1.1 (p := ⟨k, i, none⟩) h1 v, cells5 m.1.1.1.2 fun _ => World.cell?_of_block (Below.heap_setCell w ⟨k, i, none⟩ v b h2)⟩, Sec.put m.1.1.2.1 (Nat.lt_succ_self k) i v, Sec.put m.1.1.2.2.1 (Nat.lt_succ_self k) i v, Sec.put m.1.1.2.2.2 (Nat.lt_succ_self k) i v⟩, m.1.2.put i v⟩, Below.setCell m.2 (p := ⟨k, i, none⟩) h0 v⟩

theorem keptI_fil (m : ((((w1.cell? ⟨g, 0, none⟩ = some (.int .i64 h.id) ∧ w1.cell? ⟨g, 1, none⟩ = some (.bool h.rp) ∧ w1.cell? ⟨g, 2, none⟩ = some (.bool h.au) ∧ w1.cell? ⟨g, 3, none⟩ = some (.bool h.ct) ∧ w1.cell? ⟨g, 4, none⟩ = some (.bool h.wa) ∧ w1.cell? ⟨g, 5, none⟩ = some (.bool h.ca) ∧ w1.cell? ⟨g, 6, none⟩ = some (.int .i64 h.code) ∧ w1.cell? ⟨g, 7, none⟩ = some (.string h.qn) ∧ w1.cell? ⟨g, 8, none⟩ = some (.int .i64 h.qt) ∧ w1.cell? ⟨g, 9, none⟩ = some (.slice A1 n1 c1) ∧ w1.cell? ⟨g, 10, none⟩ = some (.slice A2 n2 c2) ∧ w1.cell? ⟨g, 11, none⟩ = some (.slice A3 n3 c3)) ∧ (w1.cell? ⟨b, 0, none⟩ = some (.int .i64 d) ∧ w1.cell? ⟨b, 1, none⟩ = some (.bool a) ∧ w1.cell? ⟨b, 2, none⟩ = some (.slice B1 m1 e1) ∧ w1.cell? ⟨b, 3, none⟩ = some (.slice B2 m2 e2) ∧ w1.cell? ⟨b, 4, none⟩ = some (.slice B3 m3 e3))) ∧ Sec (k + 1) w1 B1 m1 e1 J1 ∧ Sec (k + 1) w1 B2 m2 e2 J2 ∧ Sec (k + 1) w1 B3 m3 e3 J3) ∧ RB w1 k) ∧ Sv w0 w1) (h0 : w0.heap.size ≤ k) (h1 : g ≠ k) (h2 : b ≠ k) (v0 v1 v2 v3 v4 v5 v6 v7 v8 v9 v10 v11 : Value) : ((((((((((((((((w1.setCell ⟨k, 0, none⟩ v0).setCell ⟨k, 1, none⟩ v1).setCell ⟨k, 2, none⟩ v2).setCell ⟨k, 3, none⟩ v3).setCell ⟨k, 4, none⟩ v4).setCell ⟨k, 5, none⟩ v5).setCell ⟨k, 6, none⟩ v6).setCell ⟨k, 7, none⟩ v7).setCell ⟨k, 8, none⟩ v8).setCell ⟨k, 9, none⟩ v9).setCell ⟨k, 10, none⟩ v10).setCell ⟨k, 11, none⟩ v11).cell? ⟨g, 0, none⟩ = some (.int .i64 h.id) ∧ ((((((((((((w1.setCell ⟨k, 0, none⟩ v0).setCell ⟨k, 1, none⟩ v1).setCell ⟨k, 2, none⟩ v2).setCell ⟨k, 3, none⟩ v3).setCell ⟨k, 4, none⟩ v4).setCell ⟨k, 5, none⟩ v5).setCell ⟨k, 6, none⟩ v6).setCell ⟨k, 7, none⟩ v7).setCell ⟨k, 8, none⟩ v8).setCell ⟨k, 9, none⟩ v9).setCell ⟨k, 10, none⟩ v10).setCell ⟨k, 11, none⟩ v11).cell? ⟨g, 1, none⟩ = some (.bool h.rp) ∧ ((((((((((((w1.setCell ⟨k, 0, none⟩ v0).setCell ⟨k, 1, none⟩ v1).setCell ⟨k, 2, none⟩ v2).setCell ⟨k, 3, none⟩ v3).setCell ⟨k, 4, none⟩ v4).setCell ⟨k, 5, none⟩ v5).setCell ⟨k, 6, none⟩ v6).setCell ⟨k, 7, none⟩ v7).setCell ⟨k, 8, none⟩ v8).setCell ⟨k, 9, none⟩ v9).setCell ⟨k, 10, none⟩ v10).setCell ⟨k, 11, none⟩ v11).cell? ⟨g, 2, none⟩ = some (.bool h.au) ∧ ((((((((((((w1.setCell ⟨k, 0, none⟩ v0).setCell ⟨k, 1, none⟩ v1).setCell ⟨k, 2, none⟩ v2).setCell ⟨k, 3, none⟩ v3).setCell ⟨k, 4, none⟩ v4).setCell ⟨k, 5, none⟩ v5).setCell ⟨k, 6, none⟩ v6).setCell ⟨k, 7, none⟩ v7).setCell ⟨k, 8, none⟩ v8).setCell ⟨k, 9, none⟩ v9).setCell ⟨k, 10, none⟩ v10).setCell ⟨k, 11, none⟩ v11).cell? ⟨g, 3, none⟩ = some (.bool h.ct) ∧ ((((((((((((w1.setCell ⟨k, 0, none⟩ v0).setCell ⟨k, 1, none⟩ v1).setCell ⟨k, 2, none⟩ v2).setCell ⟨k, 3, none⟩ v3).setCell ⟨k, 4, none⟩ v4).setCell ⟨k, 5, none⟩ v5).setCell ⟨k, 6, none⟩ v6).setCell ⟨k, 7, none⟩ v7).setCell ⟨k, 8, none⟩ v8).setCell ⟨k, 9, none⟩ v9).setCell ⟨k, 10, none⟩ v10).setCell ⟨k, 11, none⟩ v11).cell? ⟨g, 4, none⟩ = some (.bool h.wa) ∧ ((((((((((((w1.setCell ⟨k, 0, none⟩ v0).setCell ⟨k, 1, none⟩ v1).setCell ⟨k, 2, none⟩ v2).setCell ⟨k, 3, none⟩ v3).setCell ⟨k, 4, none⟩ v4).setCell ⟨k, 5, none⟩ v5).setCell ⟨k, 6, none⟩ v6).setCell ⟨k, 7, none⟩ v7).setCell ⟨k, 8, none⟩ v8).setCell ⟨k, 9, none⟩ v9).setCell ⟨k, 10, none⟩ v10).setCell ⟨k, 11, none⟩ v11).cell? ⟨g, 5, none⟩ = some (.bool h.ca) ∧ ((((((((((((w1.setCell ⟨k, 0, none⟩ v0).setCell ⟨k, 1, none⟩ v1).setCell ⟨k, 2, none⟩ v2).setCell ⟨k, 3, none⟩ v3).setCell ⟨k, 4, none⟩ v4).setCell ⟨k, 5, none⟩ v5).setCell ⟨k, 6, none⟩ v6).setCell ⟨k, 7, none⟩ v7).setCell ⟨k, 8, none⟩ v8).setCell ⟨k, 9, none⟩ v9).setCell ⟨k, 10, none⟩ v10).setCell ⟨k, 11, none⟩ v11).cell? ⟨g, 6, none⟩ = some (.int .i64 h.code) ∧ ((((((((((((w1.setCell ⟨k, 0, none⟩ v0).setCell ⟨k, 1, none⟩ v1).setCell ⟨k, 2, none⟩ v2).setCell ⟨k, 3, none⟩ v3).setCell ⟨k, 4, none⟩ v4).setCell ⟨k, 5, none⟩ v5).setCell ⟨k, 6, none⟩ v6).setCell ⟨k, 7, none⟩ v7).setCell ⟨k, 8, none⟩ v8).setCell ⟨k, 9, none⟩ v9).setCell ⟨k, 10, none⟩ v10).setCell ⟨k, 11, none⟩ v11).cell? ⟨g, 7, none⟩ = some (.string h.qn) ∧ ((((((((((((w1.setCell ⟨k, 0, none⟩ v0).setCell ⟨k, 1, none⟩ v1).setCell ⟨k, 2, none⟩ v2).setCell ⟨k, 3, none⟩ v3).setCell ⟨k, 4, none⟩ v4).setCell ⟨k, 5, none⟩ v5).setCell ⟨k, 6, none⟩ v6).setCell ⟨k, 7, none⟩ v7).setCell ⟨k, 8, none⟩ v8).setCell ⟨k, 9, none⟩ v9).setCell ⟨k, 10, none⟩ v10).setCell ⟨k, 11, none⟩ v11).cell? ⟨g, 8, none⟩ = some (.int .i64 h.qt) ∧ ((((((((((((w1.setCell ⟨k, 0, none⟩ v0).setCell ⟨k, 1, none⟩ v1).setCell ⟨k, 2, none⟩ v2).setCell ⟨k, 3, none⟩ v3).setCell ⟨k, 4, none⟩ v4).setCell ⟨k, 5, none⟩ v5).setCell ⟨k, 6, none⟩ v6).setCell ⟨k, 7, none⟩ v7).setCell ⟨k, 8, none⟩ v8).setCell ⟨k, 9, none⟩ v9).setCell ⟨k, 10, none⟩ v10).setCell ⟨k, 11, none⟩ v11).cell? ⟨g, 9, none⟩ = some (.slice A1 n1 c1) ∧ ((((((((((((w1.setCell ⟨k, 0, none⟩ v0).setCell ⟨k, 1, none⟩ v1).setCell ⟨k, 2, none⟩ v2).setCell ⟨k, 3, none⟩ v3).setCell ⟨k, 4, none⟩ v4).setCell ⟨k, 5, none⟩ v5).setCell ⟨k, 6, none⟩ v6).setCell ⟨k, 7, none⟩ v7).setCell ⟨k, 8, none⟩ v8).setCell ⟨k, 9, none⟩ v9).setCell ⟨k, 10, none⟩ v10).setCell ⟨k, 11, none⟩ v11).cell? ⟨g, 10, none⟩ = some (.slice A2 n2 c2) ∧ ((((((((((((w1.setCell ⟨k, 0, none⟩ v0).setCell ⟨k, 1, none⟩ v1).setCell ⟨k, 2, none⟩ v2).setCell ⟨k, 3, none⟩ v3).setCell ⟨k, 4, none⟩ v4).setCell ⟨k, 5, none⟩ v5).setCell ⟨k, 6, none⟩ v6).setCell ⟨k, 7, none⟩ v7).setCell ⟨k, 8, none⟩ v8).setCell ⟨k, 9, none⟩ v9).setCell ⟨k, 10, none⟩ v10).setCell ⟨k, 11, none⟩ v11).cell? ⟨g, 11, none⟩ = some (.slice A3 n3 c3)) ∧ (((((((((((((w1.setCell ⟨k, 0, none⟩ v0).setCell ⟨k, 1, none⟩ v1).setCell ⟨k, 2, none⟩ v2).setCell ⟨k, 3, none⟩ v3).setCell ⟨k, 4, none⟩ v4).setCell ⟨k, 5, none⟩ v5).setCell ⟨k, 6, none⟩ v6).setCell ⟨k, 7, none⟩ v7).setCell ⟨k, 8, none⟩ v8).setCell ⟨k, 9, none⟩ v9).setCell ⟨k, 10, none⟩ v10).setCell ⟨k, 11, none⟩ v11).cell? ⟨b, 0, none⟩ = some (.int .i64 d) ∧ ((((((((((((w1.setCell ⟨k, 0, none⟩ v0).setCell ⟨k, 1, none⟩ v1).setCell ⟨k, 2, none⟩ v2).setCell ⟨k, 3, none⟩ v3).setCell ⟨k, 4, none⟩ v4).setCell ⟨k, 5, none⟩ v5).setCell ⟨k, 6, none⟩ v6).setCell ⟨k, 7, none⟩ v7).setCell ⟨k, 8, none⟩ v8).setCell ⟨k, 9, none⟩ v9).setCell ⟨k, 10, none⟩ v10).setCell ⟨k, 11, none⟩ v11).cell? ⟨b, 1, none⟩ = some (.bool a) ∧ ((((((((((((w1.setCell ⟨k, 0, none⟩ v0).setCell ⟨k, 1, none⟩ v1).setCell ⟨k, 2, none⟩ v2).setCell ⟨k, 3, none⟩ v3).setCell ⟨k, 4, none⟩ v4).setCell ⟨k, 5, none⟩ v5).setCell ⟨k, 6, none⟩ v6).setCell ⟨k, 7, none⟩ v7).setCell ⟨k, 8, none⟩ v8).setCell ⟨k, 9, none⟩ v9).setCell ⟨k, 10, none⟩ v10).setCell ⟨k, 11, none⟩ v11).cell? ⟨b, 2, none⟩ = some (.slice B1 m1 e1) ∧ ((((((((((((w1.setCell ⟨k, 0, none⟩ v0).setCell ⟨k, 1, none⟩ v1).setCell ⟨k, 2, none⟩ v2).setCell ⟨k, 3, none⟩ v3).setCell ⟨k, 4, none⟩ v4).setCell ⟨k, 5, none⟩ v5).setCell ⟨k, 6, none⟩ v6).setCell ⟨k, 7, none⟩ v7).setCell ⟨k, 8, none⟩ v8).setCell ⟨k, 9, none⟩ v9).setCell ⟨k, 10, none⟩ v10).setCell ⟨k, 11, none⟩ v11).cell? ⟨b, 3, none⟩ = some (.slice B2 m2 e2) ∧ ((((((((((((w1.setCell ⟨k, 0, none⟩ v0).setCell ⟨k, 1, none⟩ v1).setCell ⟨k, 2, none⟩ v2).setCell ⟨k, 3, none⟩ v3).setCell ⟨k, 4, none⟩ v4).setCell ⟨k, 5, none⟩ v5).setCell ⟨k, 6, none⟩ v6).setCell ⟨k, 7, none⟩ v7).setCell ⟨k, 8, none⟩ v8).setCell ⟨k, 9, none⟩ v9).setCell ⟨k, 10, none⟩ v10).setCell ⟨k, 11, none⟩ v11).cell? ⟨b, 4, none⟩ = some (.slice B3 m3 e3))) ∧ Sec (k + 1) ((((((((((((w1.setCell ⟨k, 0, none⟩ v0).setCell ⟨k, 1, none⟩ v1).setCell ⟨k, 2, none⟩ v2).setCell ⟨k, 3, none⟩ v3).setCell ⟨k, 4, none⟩ v4).setCell ⟨k, 5, none⟩ v5).setCell ⟨k, 6, none⟩ v6).setCell ⟨k, 7, none⟩ v7).setCell ⟨k, 8, none⟩ v8).setCell ⟨k, 9, none⟩ v9).setCell ⟨k, 10, none⟩ v10).setCell ⟨k, 11, none⟩ v11) B1 m1 e1 J1 ∧ Sec (k + 1) ((((((((((((w1.setCell ⟨k, 0, none⟩ v0).setCell ⟨k, 1, none⟩ v1).setCell ⟨k, 2, none⟩ v2).setCell ⟨k, 3, none⟩ v3).setCell ⟨k, 4, none⟩ v4).setCell ⟨k, 5, none⟩ v5).setCell ⟨k, 6, none⟩ v6).setCell ⟨k, 7, none⟩ v7).setCell ⟨k, 8, none⟩ v8).setCell ⟨k, 9, none⟩ v9).setCell ⟨k, 10, none⟩ v10).setCell ⟨k, 11, none⟩ v11) B2 m2 e2 J2 ∧ Sec (k + 1) ((((((((((((w1.setCell ⟨k, 0, none⟩ v0).setCell ⟨k, 1, none⟩ v1).setCell ⟨k, 2, none⟩ v2).setCell ⟨k, 3, none⟩ v3).setCell ⟨k, 4, none⟩ v4).setCell ⟨k, 5, none⟩ v5).setCell ⟨k, 6, none⟩ v6).setCell ⟨k, 7, none⟩ v7).setCell ⟨k, 8, none⟩ v8).setCell ⟨k, 9, none⟩ v9).setCell ⟨k, 10, none⟩ v10).setCell ⟨k, 11, none⟩ v11) B3 m3 e3 J3) ∧ RB ((((((((((((w1.setCell ⟨k, 0, none⟩ v0).setCell ⟨k, 1, none⟩ v1).setCell ⟨k, 2, none⟩ v2).setCell ⟨k, 3, none⟩ v3).setCell ⟨k, 4, none⟩ v4).setCell ⟨k, 5, none⟩ v5).setCell ⟨k, 6, none⟩ v6).setCell ⟨k, 7, none⟩ v7).setCell ⟨k, 8, none⟩ v8).setCell ⟨k, 9, none⟩ v9).setCell ⟨k, 10, none⟩ v10).setCell ⟨k, 11, none⟩ v11) k) ∧ Sv w0 ((((((((((((w1.setCell ⟨k, 0, none⟩ v0).setCell ⟨k, 1, none⟩ v1).setCell ⟨k, 2, none⟩ v2).setCell ⟨k, 3, none⟩ v3).setCell ⟨k, 4, none⟩ v4).setCell ⟨k, 5, none⟩ v5).setCell ⟨k, 6, none⟩ v6).setCell ⟨k, 7, none⟩ v7).setCell ⟨k, 8, none⟩ v8).setCell ⟨k, 9, none⟩ v9).setCell ⟨k, 10, none⟩ v10).setCell ⟨k, 11, none⟩ v11) :=
  (keptI_put (keptI_put (keptI_put (keptI_put (keptI_put (keptI_put (keptI_put (keptI_put (keptI_put (keptI_put (keptI_put (keptI_put m h0 h1 h2 0 v0) h0 h1 h2 1 v1) h0 h1 h2 2 v2) h0 h1 h2 3 v3) h0 h1 h2 4 v4) h0 h1 h2 5 v5) h0 h1 h2 6 v6) h0 h1 h2 7 v7) h0 h1 h2 8 v8) h0 h1 h2 9 v9) h0 h1 h2 10 v10) h0 h1 h2 11 v11)
end

/-- The boxes of a zone, a message and the result. -/
theorem boxes (w : World) (s : ByteArray) (x : Value) (h : Hd) (A1 A2 A3 : Option Addr) (n1 c1 n2 c2 n3 c3 : Nat) (t u v : TypeId) : (Zx (((w.alloc (.cells #[.string s, x] t)).alloc (.cells #[.int .i64 h.id, .bool h.rp, .bool h.au, .bool h.ct, .bool h.wa, .bool h.ca, .int .i64 h.code, .string h.qn, .int .i64 h.qt, .slice A1 n1 c1, .slice A2 n2 c2, .slice A3 n3 c3] u)).alloc (.cells #[.int .i64 0, .bool false, .bool false, .bool false, .bool false, .bool false, .int .i64 0, .string ⟨#[]⟩, .int .i64 0, .slice none 0 0, .slice none 0 0, .slice none 0 0] v)) w.heap.size s x ∧ Mx (((w.alloc (.cells #[.string s, x] t)).alloc (.cells #[.int .i64 h.id, .bool h.rp, .bool h.au, .bool h.ct, .bool h.wa, .bool h.ca, .int .i64 h.code, .string h.qn, .int .i64 h.qt, .slice A1 n1 c1, .slice A2 n2 c2, .slice A3 n3 c3] u)).alloc (.cells #[.int .i64 0, .bool false, .bool false, .bool false, .bool false, .bool false, .int .i64 0, .string ⟨#[]⟩, .int .i64 0, .slice none 0 0, .slice none 0 0, .slice none 0 0] v)) (w.heap.size + 1) h (.slice A1 n1 c1) (.slice A2 n2 c2) (.slice A3 n3 c3)) ∧ Bk (((w.alloc (.cells #[.string s, x] t)).alloc (.cells #[.int .i64 h.id, .bool h.rp, .bool h.au, .bool h.ct, .bool h.wa, .bool h.ca, .int .i64 h.code, .string h.qn, .int .i64 h.qt, .slice A1 n1 c1, .slice A2 n2 c2, .slice A3 n3 c3] u)).alloc (.cells #[.int .i64 0, .bool false, .bool false, .bool false, .bool false, .bool false, .int .i64 0, .string ⟨#[]⟩, .int .i64 0, .slice none 0 0, .slice none 0 0, .slice none 0 0] v)) (w.heap.size + 1 + 1) v (mc zh (.slice none 0 0) (.slice none 0 0) (.slice none 0 0)) ∧ Below w.heap.size w (((w.alloc (.cells #[.string s, x] t)).alloc (.cells #[.int .i64 h.id, .bool h.rp, .bool h.au, .bool h.ct, .bool h.wa, .bool h.ca, .int .i64 h.code, .string h.qn, .int .i64 h.qt, .slice A1 n1 c1, .slice A2 n2 c2, .slice A3 n3 c3] u)).alloc (.cells #[.int .i64 0, .bool false, .bool false, .bool false, .bool false, .bool false, .int .i64 0, .string ⟨#[]⟩, .int .i64 0, .slice none 0 0, .slice none 0 0, .slice none 0 0] v)) := by
  have e1 : (w.alloc (.cells #[.string s, x] t)).heap.size = w.heap.size + 1 := by simp
  have e2 : ((w.alloc (.cells #[.string s, x] t)).alloc (.cells #[.int .i64 h.id, .bool h.rp, .bool h.au, .bool h.ct, .bool h.wa, .bool h.ca, .int .i64 h.code, .string h.qn, .int .i64 h.qt, .slice A1 n1 c1, .slice A2 n2 c2, .slice A3 n3 c3] u)).heap.size = w.heap.size + 1 + 1 := by simp
  have al : Below (w.alloc (.cells #[.string s, x] t)).heap.size (w.alloc (.cells #[.string s, x] t)) ((w.alloc (.cells #[.string s, x] t)).alloc (.cells #[.int .i64 h.id, .bool h.rp, .bool h.au, .bool h.ct, .bool h.wa, .bool h.ca, .int .i64 h.code, .string h.qn, .int .i64 h.qt, .slice A1 n1 c1, .slice A2 n2 c2, .slice A3 n3 c3] u)) := (Below.refl _ _).alloc (Nat.le_refl _) _
  have al2 : Below ((w.alloc (.cells #[.string s, x] t)).alloc (.cells #[.int .i64 h.id, .bool h.rp, .bool h.au, .bool h.ct, .bool h.wa, .bool h.ca, .int .i64 h.code, .string h.qn, .int .i64 h.qt, .slice A1 n1 c1, .slice A2 n2 c2, .slice A3 n3 c3] u)).heap.size ((w.alloc (.cells #[.string s, x] t)).alloc (.cells #[.int .i64 h.id, .bool h.rp, .bool h.au, .bool h.ct, .bool h.wa, .bool h.ca, .int .i64 h.code, .string h.qn, .int .i64 h.qt, .slice A1 n1 c1, .slice A2 n2 c2, .slice A3 n3 c3] u)) (((w.alloc (.cells #[.string s, x] t)).alloc (.cells #[.int .i64 h.id, .bool h.rp, .bool h.au, .bool h.ct, .bool h.wa, .bool h.ca, .int .i64 h.code, .string h.qn, .int .i64 h.qt, .slice A1 n1 c1, .slice A2 n2 c2, .slice A3 n3 c3] u)).alloc (.cells #[.int .i64 0, .bool false, .bool false, .bool false, .bool false, .bool false, .int .i64 0, .string ⟨#[]⟩, .int .i64 0, .slice none 0 0, .slice none 0 0, .slice none 0 0] v)) := (Below.refl _ _).alloc (Nat.le_refl _) _
  have l1 : Below w.heap.size w (w.alloc (.cells #[.string s, x] t)) := (Below.refl _ _).alloc (Nat.le_refl _) _
  have l2 := l1.trans (al.mono l1.size)
  have m := mx_new (w.alloc (.cells #[.string s, x] t)) u h (.slice A1 n1 c1) (.slice A2 n2 c2) (.slice A3 n3 c3)
  rw [e1] at m
  have b := heap_alloc_new ((w.alloc (.cells #[.string s, x] t)).alloc (.cells #[.int .i64 h.id, .bool h.rp, .bool h.au, .bool h.ct, .bool h.wa, .bool h.ca, .int .i64 h.code, .string h.qn, .int .i64 h.qt, .slice A1 n1 c1, .slice A2 n2 c2, .slice A3 n3 c3] u)) (.cells #[.int .i64 0, .bool false, .bool false, .bool false, .bool false, .bool false, .int .i64 0, .string ⟨#[]⟩, .int .i64 0, .slice none 0 0, .slice none 0 0, .slice none 0 0] v)
  rw [e2] at b
  exact ⟨⟨((zx_new w t s x).below al).below al2, m.below al2⟩, b, l2.trans (al2.mono l2.size)⟩

/-- The call returned a reply of the kind k: the first eight records of each section, and turned nothing that was there. -/
def GivesS8 (w : World) (h : Hd) (k : Int) (J1 J2 J3 : List Rec) (e : Ending) (w' : World) : Prop := GivesM w (rph h (rcd k) (aut k)) (m8 J1.length) (m8 J2.length) (m8 J3.length) (J1.take 8) (J2.take 8) (J3.take 8) e w'

set_option maxRecDepth 100000 in
set_option maxHeartbeats 8000000 in
theorem impl (s : ByteArray) (b0 o0 n c : Nat) (l : List Rec) (h : Hd) (A1 A2 A3 : Option Addr) (n1 c1 n2 c2 n3 c3 : Nat) (w : World) (hs : Sr w w.heap.size (some ⟨b0, o0, none⟩) n l) (hn : n ≤ 1048576) (hm : s.size ≤ 400000000) (hq : h.qn.size ≤ 400000000) (hz : ∀ r ∈ l, r.name.size ≤ 400000000) :
    Calls Tryz.prog 65 #[.agg #[.string s, .slice (some ⟨b0, o0, none⟩) n c], .agg #[.int .i64 h.id, .bool h.rp, .bool h.au, .bool h.ct, .bool h.wa, .bool h.ca, .int .i64 h.code, .string h.qn, .int .i64 h.qt, .slice A1 n1 c1, .slice A2 n2 c2, .slice A3 n3 c3]] w (GivesS8 w h (kd s h.qn h.qt l) (anl (kd s h.qn h.qt l) h.qn h.qt l) (mol (kd s h.qn h.qt l) s h.qn l) (hel (kd s h.qn h.qt l) s h.qn l)) := by
  obtain ⟨⟨hx, hy⟩, hb0, hl0⟩ := boxes w s (.slice (some ⟨b0, o0, none⟩) n c) h A1 A2 A3 n1 c1 n2 c2 n3 c3 37 45 45
  have X0 := Lib.hid hx
  have Y0 := Lib.hid hy
  have R0 := Lib.hid hb0
  have L0 := Lib.hid hl0
  have HS := Lib.hid hs
  have CI := Lib.hid (fun W hW => ContI.impl s h.qn h.qt b0 o0 n c l W hW hn hm hq hz)
  have LA : Hid ((anl (kd s h.qn h.qt l) h.qn h.qt l).length ≤ 1100000000000) := Nat.le_trans (anl_len _ _ _ _) (by have := hs.1; omega)
  have LM : Hid ((mol (kd s h.qn h.qt l) s h.qn l).length ≤ 1100000000000) := Nat.le_trans (mol_len _ _ _ _) (by have := hs.1; omega)
  have LH : Hid ((hel (kd s h.qn h.qt l) s h.qn l).length ≤ 1100000000000) := Nat.le_trans (hel_len _ _ _ _) (by rw [hs.1]; exact Nat.le_trans (Nat.mul_le_mul hn hn) (by decide))
  clear hx hy hb0 hl0 hs hz
  unfold GivesQ at CI
  generalize kd s h.qn h.qt l = kk at *
  generalize anl kk h.qn h.qt l = J1 at *
  generalize mol kk s h.qn l = J2 at *
  generalize hel kk s h.qn l = J3 at *
  generalize hd : rcd kk = d at *
  generalize ha : aut kk = a at *
  have HD := Lib.hid hd
  have HA := Lib.hid ha
  clear hd ha
  obtain ⟨x0, x1⟩ := X0.out
  obtain ⟨y0, y1, y2, y3, y4, y5, y6, y7, y8, y9, y10, y11⟩ := Y0.out
  go_enter Tryz.func65, Tryz.ntmps65
  go_wp2_with fail
  refine (CI.out _ (HS.out.on L0.out)).mono ?_
  rintro e w1 ⟨B1, m1, e1, B2, m2, e2, B3, m3, e3, rfl, q1, q2, q3, hl⟩
  have al : Below w1.heap.size w1 (w1.alloc (.cells #[.int .i64 d, .bool a, .slice B1 m1 e1, .slice B2 m2 e2, .slice B3 m3 e3] 148)) := (Below.refl _ _).alloc (Nat.le_refl _) _
  have L1 := Lib.hid (L0.out.trans (hl.mono L0.out.size))
  have L2 := Lib.hid (L1.out.trans (al.mono L1.out.size))
  have Y2 := Lib.hid ((Y0.out.below hl).below al)
  have R2 := Lib.hid ((R0.out.below hl R0.out.lt).below al (R0.out.below hl R0.out.lt).lt)
  have GC : Hid (w.heap.size + 1 + 1 < w1.heap.size) := (R0.out.below hl R0.out.lt).lt
  have C2 : Hid (Bk (w1.alloc (.cells #[.int .i64 d, .bool a, .slice B1 m1 e1, .slice B2 m2 e2, .slice B3 m3 e3] 148)) w1.heap.size 148 [.int .i64 d, .bool a, .slice B1 m1 e1, .slice B2 m2 e2, .slice B3 m3 e3]) := heap_alloc_new w1 _
  have Q1 := Lib.hid ((q1.below al).low (show w.heap.size + 1 + 1 + 1 ≤ _ from R0.out.lt))
  have Q2 := Lib.hid ((q2.below al).low (show w.heap.size + 1 + 1 + 1 ≤ _ from R0.out.lt))
  have Q3 := Lib.hid ((q3.below al).low (show w.heap.size + 1 + 1 + 1 ≤ _ from R0.out.lt))
  clear hl al q1 q2 q3 CI X0 Y0 R0 L0 L1 x0 x1 y0 y1 y2 y3 y4 y5 y6 y7 y8 y9 y10 y11
  go_upto_region 2 with (fail)
  generalize w1.alloc (.cells #[.int .i64 d, .bool a, .slice B1 m1 e1, .slice B2 m2 e2, .slice B3 m3 e3] 148) = w2 at *
  generalize w1.heap.size = gc at *
  have N1 := Q1.out.len
  have N2 := Q2.out.len
  have N3 := Q3.out.len
  have SH1 : Hid (∀ W : World, Calls Tryz.prog 122 #[.slice B1 m1 e1] W fun e w' => e = .returned (.slice B1 (m8 m1) e1) ∧ Below W.heap.size W w') := fun W => (shortened B1 m1 e1 W (alt Q1.out).1 Q1.out.cap (by have := LA.out; omega)).mono fun e w' ⟨h1, h2⟩ => ⟨h1, h2 ▸ Below.refl _ _⟩
  have SH2 : Hid (∀ W : World, Calls Tryz.prog 122 #[.slice B2 m2 e2] W fun e w' => e = .returned (.slice B2 (m8 m2) e2) ∧ Below W.heap.size W w') := fun W => (shortened B2 m2 e2 W (alt Q2.out).1 Q2.out.cap (by have := LM.out; omega)).mono fun e w' ⟨h1, h2⟩ => ⟨h1, h2 ▸ Below.refl _ _⟩
  have SH3 : Hid (∀ W : World, Calls Tryz.prog 122 #[.slice B3 m3 e3] W fun e w' => e = .returned (.slice B3 (m8 m3) e3) ∧ Below W.heap.size W w') := fun W => (shortened B3 m3 e3 W (alt Q3.out).1 Q3.out.cap (by have := LH.out; omega)).mono fun e w' ⟨h1, h2⟩ => ⟨h1, h2 ▸ Below.refl _ _⟩
  have RR : Hid (∀ W : World, ((((W.cell? ⟨w.heap.size + 1, 0, none⟩ = some (.int .i64 h.id) ∧ W.cell? ⟨w.heap.size + 1, 1, none⟩ = some (.bool h.rp) ∧ W.cell? ⟨w.heap.size + 1, 2, none⟩ = some (.bool h.au) ∧ W.cell? ⟨w.heap.size + 1, 3, none⟩ = some (.bool h.ct) ∧ W.cell? ⟨w.heap.size + 1, 4, none⟩ = some (.bool h.wa) ∧ W.cell? ⟨w.heap.size + 1, 5, none⟩ = some (.bool h.ca) ∧ W.cell? ⟨w.heap.size + 1, 6, none⟩ = some (.int .i64 h.code) ∧ W.cell? ⟨w.heap.size + 1, 7, none⟩ = some (.string h.qn) ∧ W.cell? ⟨w.heap.size + 1, 8, none⟩ = some (.int .i64 h.qt) ∧ W.cell? ⟨w.heap.size + 1, 9, none⟩ = some (.slice A1 n1 c1) ∧ W.cell? ⟨w.heap.size + 1, 10, none⟩ = some (.slice A2 n2 c2) ∧ W.cell? ⟨w.heap.size + 1, 11, none⟩ = some (.slice A3 n3 c3)) ∧ (W.cell? ⟨gc, 0, none⟩ = some (.int .i64 d) ∧ W.cell? ⟨gc, 1, none⟩ = some (.bool a) ∧ W.cell? ⟨gc, 2, none⟩ = some (.slice B1 m1 e1) ∧ W.cell? ⟨gc, 3, none⟩ = some (.slice B2 m2 e2) ∧ W.cell? ⟨gc, 4, none⟩ = some (.slice B3 m3 e3))) ∧ Sec (w.heap.size + 1 + 1 + 1) W B1 m1 e1 J1 ∧ Sec (w.heap.size + 1 + 1 + 1) W B2 m2 e2 J2 ∧ Sec (w.heap.size + 1 + 1 + 1) W B3 m3 e3 J3) ∧ RB W (w.heap.size + 1 + 1)) ∧ Sv w W → Calls Tryz.prog 64 #[.agg #[.int .i64 h.id, .bool h.rp, .bool h.au, .bool h.ct, .bool h.wa, .bool h.ca, .int .i64 h.code, .string h.qn, .int .i64 h.qt, .slice A1 n1 c1, .slice A2 n2 c2, .slice A3 n3 c3], .int .i64 d, .bool a, .slice B1 (m8 m1) e1, .slice B2 (m8 m2) e2, .slice B3 (m8 m3) e3] W (GivesM W (rph h d a) (m8 m1) (m8 m2) (m8 m3) (J1.take 8) (J2.take 8) (J3.take 8))) := fun W hW => RepN.impl h A1 A2 A3 n1 c1 n2 c2 n3 c3 d a B1 (m8 m1) e1 (J1.take 8) B2 (m8 m2) e2 (J2.take 8) B3 (m8 m3) e3 (J3.take 8) W (sr_take hW.1.1.2.1.sr) (by have := m8_le m1; omega) (alt Q1.out).2 (sr_take hW.1.1.2.2.1.sr) (by have := m8_le m2; omega) (alt Q2.out).2 (sr_take hW.1.1.2.2.2.sr) (by have := m8_le m3; omega) (alt Q3.out).2
  have SS0 : ((((w2.cell? ⟨w.heap.size + 1, 0, none⟩ = some (.int .i64 h.id) ∧ w2.cell? ⟨w.heap.size + 1, 1, none⟩ = some (.bool h.rp) ∧ w2.cell? ⟨w.heap.size + 1, 2, none⟩ = some (.bool h.au) ∧ w2.cell? ⟨w.heap.size + 1, 3, none⟩ = some (.bool h.ct) ∧ w2.cell? ⟨w.heap.size + 1, 4, none⟩ = some (.bool h.wa) ∧ w2.cell? ⟨w.heap.size + 1, 5, none⟩ = some (.bool h.ca) ∧ w2.cell? ⟨w.heap.size + 1, 6, none⟩ = some (.int .i64 h.code) ∧ w2.cell? ⟨w.heap.size + 1, 7, none⟩ = some (.string h.qn) ∧ w2.cell? ⟨w.heap.size + 1, 8, none⟩ = some (.int .i64 h.qt) ∧ w2.cell? ⟨w.heap.size + 1, 9, none⟩ = some (.slice A1 n1 c1) ∧ w2.cell? ⟨w.heap.size + 1, 10, none⟩ = some (.slice A2 n2 c2) ∧ w2.cell? ⟨w.heap.size + 1, 11, none⟩ = some (.slice A3 n3 c3)) ∧ (w2.cell? ⟨gc, 0, none⟩ = some (.int .i64 d) ∧ w2.cell? ⟨gc, 1, none⟩ = some (.bool a) ∧ w2.cell? ⟨gc, 2, none⟩ = some (.slice B1 m1 e1) ∧ w2.cell? ⟨gc, 3, none⟩ = some (.slice B2 m2 e2) ∧ w2.cell? ⟨gc, 4, none⟩ = some (.slice B3 m3 e3))) ∧ Sec (w.heap.size + 1 + 1 + 1) w2 B1 m1 e1 J1 ∧ Sec (w.heap.size + 1 + 1 + 1) w2 B2 m2 e2 J2 ∧ Sec (w.heap.size + 1 + 1 + 1) w2 B3 m3 e3 J3) ∧ RB w2 (w.heap.size + 1 + 1)) ∧ Sv w w2 := ⟨⟨⟨⟨Y2.out, C2.out.cell 0, C2.out.cell 1, C2.out.cell 2, C2.out.cell 3, C2.out.cell 4⟩, Q1.out, Q2.out, Q3.out⟩, ⟨_, rfl, R2.out⟩⟩, L2.out⟩
  have ne0 : w.heap.size ≤ w.heap.size + 1 + 1 := by omega
  have ne1 : w.heap.size + 1 ≠ w.heap.size + 1 + 1 := by omega
  have ne2 : gc ≠ w.heap.size + 1 + 1 := by have := GC.out; omega
  clear Y2 C2 Q1 Q2 Q3
  go_region_held3 (fun w' => ((((w'.cell? ⟨w.heap.size + 1, 0, none⟩ = some (.int .i64 h.id) ∧ w'.cell? ⟨w.heap.size + 1, 1, none⟩ = some (.bool h.rp) ∧ w'.cell? ⟨w.heap.size + 1, 2, none⟩ = some (.bool h.au) ∧ w'.cell? ⟨w.heap.size + 1, 3, none⟩ = some (.bool h.ct) ∧ w'.cell? ⟨w.heap.size + 1, 4, none⟩ = some (.bool h.wa) ∧ w'.cell? ⟨w.heap.size + 1, 5, none⟩ = some (.bool h.ca) ∧ w'.cell? ⟨w.heap.size + 1, 6, none⟩ = some (.int .i64 h.code) ∧ w'.cell? ⟨w.heap.size + 1, 7, none⟩ = some (.string h.qn) ∧ w'.cell? ⟨w.heap.size + 1, 8, none⟩ = some (.int .i64 h.qt) ∧ w'.cell? ⟨w.heap.size + 1, 9, none⟩ = some (.slice A1 n1 c1) ∧ w'.cell? ⟨w.heap.size + 1, 10, none⟩ = some (.slice A2 n2 c2) ∧ w'.cell? ⟨w.heap.size + 1, 11, none⟩ = some (.slice A3 n3 c3)) ∧ (w'.cell? ⟨gc, 0, none⟩ = some (.int .i64 d) ∧ w'.cell? ⟨gc, 1, none⟩ = some (.bool a) ∧ w'.cell? ⟨gc, 2, none⟩ = some (.slice B1 m1 e1) ∧ w'.cell? ⟨gc, 3, none⟩ = some (.slice B2 m2 e2) ∧ w'.cell? ⟨gc, 4, none⟩ = some (.slice B3 m3 e3))) ∧ Sec (w.heap.size + 1 + 1 + 1) w' B1 m1 e1 J1 ∧ Sec (w.heap.size + 1 + 1 + 1) w' B2 m2 e2 J2 ∧ Sec (w.heap.size + 1 + 1 + 1) w' B3 m3 e3 J3) ∧ RB w' (w.heap.size + 1 + 1)) ∧ Sv w w')
    (first | with_reducible exact keptI_fil (w1 := w6) (by assumption) ne0 ne1 ne2 _ _ _ _ _ _ _ _ _ _ _ _ | with_reducible exact SS0 | with_reducible assumption | with_reducible exact keptI (by assumption) hl | with_reducible exact keptI_draw (by assumption) | fail)
    (first
      | (go_at_call 122; (with_reducible refine (SH1.out _).mono ?_); rintro e w3 ⟨rfl, hl⟩; have y1 := hl)
      | (go_at_call 122; (with_reducible refine (SH2.out _).mono ?_); rintro e w4 ⟨rfl, hl⟩; have y2 := hl)
      | (go_at_call 122; (with_reducible refine (SH3.out _).mono ?_); rintro e w5 ⟨rfl, hl⟩; have y3 := hl)
      | (go_at_call 64; (with_reducible refine (RR.out _ (by assumption)).mono ?_); rintro e w6 ⟨g1, u1, r1, g2, u2, r2, g3, u3, r3, rfl, hb1, hb2, hb3, hg, h12, h23, hl⟩; have y4 := hl; have HR := (keptI (by assumption) hl).1.2; have p0 := HR.cell 0 (by decide); have f0 := HR.free 0; have p1 := HR.cell 1 (by decide); have f1 := HR.free 1; have p2 := HR.cell 2 (by decide); have f2 := HR.free 2; have p3 := HR.cell 3 (by decide); have f3 := HR.free 3; have p4 := HR.cell 4 (by decide); have f4 := HR.free 4; have p5 := HR.cell 5 (by decide); have f5 := HR.free 5; have p6 := HR.cell 6 (by decide); have f6 := HR.free 6; have p7 := HR.cell 7 (by decide); have f7 := HR.free 7; have p8 := HR.cell 8 (by decide); have f8 := HR.free 8; have p9 := HR.cell 9 (by decide); have f9 := HR.free 9; have p10 := HR.cell 10 (by decide); have f10 := HR.free 10; have p11 := HR.cell 11 (by decide); have f11 := HR.free 11; clear HR)
      | fail)
  rename_i hH
  have a0 : Below w.heap.size w w2.drew := L2.out.drew
  have a1 := a0.trans (y1.mono a0.size)
  have a2 := a1.trans (y2.mono a1.size)
  have a3 := a2.trans (y3.mono a2.size)
  have a4 := a3.trans (y4.mono a3.size)
  have RA : RB w6 (w.heap.size + 1 + 1) := by
    have b0 : RB w2.drew (w.heap.size + 1 + 1) := ⟨_, rfl, R2.out⟩
    exact (((b0.below y1).below y2).below y3).below y4
  have G4 : w.heap.size + 1 + 1 < g1 := Nat.lt_of_lt_of_le (Nat.lt_of_lt_of_le (Nat.lt_of_lt_of_le (Nat.lt_of_lt_of_le (show w.heap.size + 1 + 1 < w2.drew.heap.size from R2.out.lt) y1.size) y2.size) y3.size) hg
  have F := Lib.hid (RA.fil (rph h d a) (.slice (some ⟨g1, 0, none⟩) (m8 m1) u1) (.slice (some ⟨g2, 0, none⟩) (m8 m2) u2) (.slice (some ⟨g3, 0, none⟩) (m8 m3) u3))
  have E := Lib.hid (filM_below a4 (g := w.heap.size + 1 + 1) (by omega) (rph h d a) (.slice (some ⟨g1, 0, none⟩) (m8 m1) u1) (.slice (some ⟨g2, 0, none⟩) (m8 m2) u2) (.slice (some ⟨g3, 0, none⟩) (m8 m3) u3))
  have I1 := Lib.hid (filM_other hb1 (g := w.heap.size + 1 + 1) (by omega) (rph h d a) (.slice (some ⟨g1, 0, none⟩) (m8 m1) u1) (.slice (some ⟨g2, 0, none⟩) (m8 m2) u2) (.slice (some ⟨g3, 0, none⟩) (m8 m3) u3))
  have I2 := Lib.hid (filM_other hb2 (g := w.heap.size + 1 + 1) (by omega) (rph h d a) (.slice (some ⟨g1, 0, none⟩) (m8 m1) u1) (.slice (some ⟨g2, 0, none⟩) (m8 m2) u2) (.slice (some ⟨g3, 0, none⟩) (m8 m3) u3))
  have I3 := Lib.hid (filM_other hb3 (g := w.heap.size + 1 + 1) (by omega) (rph h d a) (.slice (some ⟨g1, 0, none⟩) (m8 m1) u1) (.slice (some ⟨g2, 0, none⟩) (m8 m2) u2) (.slice (some ⟨g3, 0, none⟩) (m8 m3) u3))
  clear hH SS0 SH1 SH2 SH3 RR a0 a1 a2 a3 a4 RA R2 L2 y1 y2 y3 y4 hl hb1 hb2 hb3 p0 f0 p1 f1 p2 f2 p3 f3 p4 f4 p5 f5 p6 f6 p7 f7 p8 f8 p9 f9 p10 f10 p11 f11
  go_wp2
  refine bodyPost_ret (v := .agg #[.int .i64 (rph h d a).id, .bool (rph h d a).rp, .bool (rph h d a).au, .bool (rph h d a).ct, .bool (rph h d a).wa, .bool (rph h d a).ca, .int .i64 (rph h d a).code, .string (rph h d a).qn, .int .i64 (rph h d a).qt, .slice (some ⟨g1, 0, none⟩) (m8 m1) u1, .slice (some ⟨g2, 0, none⟩) (m8 m2) u2, .slice (some ⟨g3, 0, none⟩) (m8 m3) u3]) (res1M rfl F.out rfl) rfl ?_
  unfold GivesS8
  rw [HD.out, HA.out, N1, N2, N3]
  exact ⟨g1, u1, r1, g2, u2, r2, g3, u3, r3, rfl, I1.out, I2.out, I3.out, by omega, h12, h23, E.out⟩

end Go.Proofs.YtmkcjjgicinggaaGreatDoor.ServI

/- Plain facts for ReplyAt: the zone by its number; the boxes of a name space, a message and the result; what is kept. -/
namespace Go.Proofs.YtmkcjjgicinggaaGreatDoor.RatM
open Go.RowKit Go.Proofs.YtmkcjjgicinggaaGreatDoor.Mem Go.Proofs.YtmkcjjgicinggaaGreatDoor.MemR Go.Proofs.YtmkcjjgicinggaaGreatDoor.BoxR Go.Proofs.YtmkcjjgicinggaaGreatDoor.MemM Go.Proofs.YtmkcjjgicinggaaGreatDoor.ResM Go.Proofs.YtmkcjjgicinggaaGreatDoor.RepM Go.Proofs.YtmkcjjgicinggaaGreatDoor.MemF Go.Proofs.YtmkcjjgicinggaaGreatDoor.SetMath Go.Proofs.YtmkcjjgicinggaaGreatDoor.ForMath Go.Proofs.YtmkcjjgicinggaaGreatDoor.ServeMath Go.Proofs.YtmkcjjgicinggaaGreatDoor.ServI

/-- The zone with this number. -/
def zn (zs : List Zn) (k : Nat) : Zn := match zs[k]? with | some z => z | none => ⟨⟨#[]⟩, []⟩
theorem zn_at {zs : List Zn} {k : Nat} (h : k < zs.length) : zn zs k = zs[k] := by unfold zn; rw [List.getElem?_eq_getElem h]
/-- The zone that answers at an address. -/
noncomputable def za (zs : List Zn) (ps : List Pst) (a : Int) (nm : ByteArray) : Zn := zn zs (zo nm (psd a ps) (aps zs)).toNat
/-- The kind of the answer at an address. -/
noncomputable def ka (zs : List Zn) (ps : List Pst) (a : Int) (nm : ByteArray) (ty : Int) : Int := @ite _ (zo nm (psd a ps) (aps zs) < 0) (Int.decLt _ _) 0 (kd (za zs ps a nm).apex nm ty (za zs ps a nm).l)
/-- The call returned the reply at an address, and turned nothing that was there. -/
def GivesA (w : World) (h : Hd) (zs : List Zn) (ps : List Pst) (a : Int) (e : Ending) (w' : World) : Prop :=
  GivesS8 w h (ka zs ps a h.qn h.qt) (anl (ka zs ps a h.qn h.qt) h.qn h.qt (za zs ps a h.qn).l) (mol (ka zs ps a h.qn h.qt) (za zs ps a h.qn).apex h.qn (za zs ps a h.qn).l) (hel (ka zs ps a h.qn h.qt) (za zs ps a h.qn).apex h.qn (za zs ps a h.qn).l) e w'

theorem ga_no {w w' : World} {h : Hd} {zs : List Zn} {ps : List Pst} {a : Int} {e : Ending} (hv : zo h.qn (psd a ps) (aps zs) < 0) (hg : GivesM w (rph h 5 false) 0 0 0 [] [] [] e w') : GivesA w h zs ps a e w' := by
  have hk : ka zs ps a h.qn h.qt = 0 := by unfold ka; rw [if_pos hv]
  unfold GivesA GivesS8
  rw [hk]
  exact hg
theorem ga_yes {w w' : World} {h : Hd} {zs : List Zn} {ps : List Pst} {a : Int} {e : Ending} {k : Nat} (hv : zo h.qn (psd a ps) (aps zs) = (k : Int)) (hk : k < zs.length)
    (hg : GivesS8 w h (kd zs[k].apex h.qn h.qt zs[k].l) (anl (kd zs[k].apex h.qn h.qt zs[k].l) h.qn h.qt zs[k].l) (mol (kd zs[k].apex h.qn h.qt zs[k].l) zs[k].apex h.qn zs[k].l) (hel (kd zs[k].apex h.qn h.qt zs[k].l) zs[k].apex h.qn zs[k].l) e w') : GivesA w h zs ps a e w' := by
  have hz : za zs ps a h.qn = zs[k] := by unfold za; rw [hv, Int.toNat_natCast, zn_at hk]
  have hka : ka zs ps a h.qn h.qt = kd zs[k].apex h.qn h.qt zs[k].l := by unfold ka; rw [if_neg (by omega), hz]
  unfold GivesA
  rw [hka, hz]
  exact hg

section
variable {w0 w1 w2 : World} {g b o : Nat} {h : Hd} {A A' A1 A2 A3 : Option Addr} {n c n' c' n1 c1 n2 c2 n3 c3 : Nat} {ap : ByteArray}
theorem keptA (m : (((w1.cell? ⟨g, 0, none⟩ = some (.slice A n c) ∧ (w1.cell? ⟨b, o, none⟩ = some (.string ap) ∧ w1.cell? ⟨b, o + 1, none⟩ = some (.slice A' n' c'))) ∧ (w1.cell? ⟨g + 1, 0, none⟩ = some (.int .i64 h.id) ∧ w1.cell? ⟨g + 1, 1, none⟩ = some (.bool h.rp) ∧ w1.cell? ⟨g + 1, 2, none⟩ = some (.bool h.au) ∧ w1.cell? ⟨g + 1, 3, none⟩ = some (.bool h.ct) ∧ w1.cell? ⟨g + 1, 4, none⟩ = some (.bool h.wa) ∧ w1.cell? ⟨g + 1, 5, none⟩ = some (.bool h.ca) ∧ w1.cell? ⟨g + 1, 6, none⟩ = some (.int .i64 h.code) ∧ w1.cell? ⟨g + 1, 7, none⟩ = some (.string h.qn) ∧ w1.cell? ⟨g + 1, 8, none⟩ = some (.int .i64 h.qt) ∧ w1.cell? ⟨g + 1, 9, none⟩ = some (.slice A1 n1 c1) ∧ w1.cell? ⟨g + 1, 10, none⟩ = some (.slice A2 n2 c2) ∧ w1.cell? ⟨g + 1, 11, none⟩ = some (.slice A3 n3 c3))) ∧ RB w1 (g + 1 + 1)) ∧ Sv w0 w1) (hl : Below w1.heap.size w1 w2) : (((w2.cell? ⟨g, 0, none⟩ = some (.slice A n c) ∧ (w2.cell? ⟨b, o, none⟩ = some (.string ap) ∧ w2.cell? ⟨b, o + 1, none⟩ = some (.slice A' n' c'))) ∧ (w2.cell? ⟨g + 1, 0, none⟩ = some (.int .i64 h.id) ∧ w2.cell? ⟨g + 1, 1, none⟩ = some (.bool h.rp) ∧ w2.cell? ⟨g + 1, 2, none⟩ = some (.bool h.au) ∧ w2.cell? ⟨g + 1, 3, none⟩ = some (.bool h.ct) ∧ w2.cell? ⟨g + 1, 4, none⟩ = some (.bool h.wa) ∧ w2.cell? ⟨g + 1, 5, none⟩ = some (.bool h.ca) ∧ w2.cell? ⟨g + 1, 6, none⟩ = some (.int .i64 h.code) ∧ w2.cell? ⟨g + 1, 7, none⟩ = some (.string h.qn) ∧ w2.cell? ⟨g + 1, 8, none⟩ = some (.int .i64 h.qt) ∧ w2.cell? ⟨g + 1, 9, none⟩ = some (.slice A1 n1 c1) ∧ w2.cell? ⟨g + 1, 10, none⟩ = some (.slice A2 n2 c2) ∧ w2.cell? ⟨g + 1, 11, none⟩ = some (.slice A3 n3 c3))) ∧ RB w2 (g + 1 + 1)) ∧ Sv w0 w2 :=
  ⟨⟨⟨⟨(hl.cell (p := ⟨g, 0, none⟩) (World.block_lt_of_cell? w1 ⟨g, 0, none⟩ m.1.1.1.1)).trans m.1.1.1.1, (hl.cell (p := ⟨b, o, none⟩) (World.block_lt_of_cell? w1 ⟨b, o, none⟩ m.1.1.1.2.1)).trans m.1.1.1.2.1, (hl.cell (p := ⟨b, o + 1, none⟩) (World.block_lt_of_cell? w1 ⟨b, o + 1, none⟩ m.1.1.1.2.2)).trans m.1.1.1.2.2⟩, Mx.below m.1.1.2 hl⟩, m.1.2.below hl⟩, m.2.trans (hl.mono m.2.size)⟩
theorem keptA_draw (m : (((w1.cell? ⟨g, 0, none⟩ = some (.slice A n c) ∧ (w1.cell? ⟨b, o, none⟩ = some (.string ap) ∧ w1.cell? ⟨b, o + 1, none⟩ = some (.slice A' n' c'))) ∧ (w1.cell? ⟨g + 1, 0, none⟩ = some (.int .i64 h.id) ∧ w1.cell? ⟨g + 1, 1, none⟩ = some (.bool h.rp) ∧ w1.cell? ⟨g + 1, 2, none⟩ = some (.bool h.au) ∧ w1.cell? ⟨g + 1, 3, none⟩ = some (.bool h.ct) ∧ w1.cell? ⟨g + 1, 4, none⟩ = some (.bool h.wa) ∧ w1.cell? ⟨g + 1, 5, none⟩ = some (.bool h.ca) ∧ w1.cell? ⟨g + 1, 6, none⟩ = some (.int .i64 h.code) ∧ w1.cell? ⟨g + 1, 7, none⟩ = some (.string h.qn) ∧ w1.cell? ⟨g + 1, 8, none⟩ = some (.int .i64 h.qt) ∧ w1.cell? ⟨g + 1, 9, none⟩ = some (.slice A1 n1 c1) ∧ w1.cell? ⟨g + 1, 10, none⟩ = some (.slice A2 n2 c2) ∧ w1.cell? ⟨g + 1, 11, none⟩ = some (.slice A3 n3 c3))) ∧ RB w1 (g + 1 + 1)) ∧ Sv w0 w1) : (((w1.drew.cell? ⟨g, 0, none⟩ = some (.slice A n c) ∧ (w1.drew.cell? ⟨b, o, none⟩ = some (.string ap) ∧ w1.drew.cell? ⟨b, o + 1, none⟩ = some (.slice A' n' c'))) ∧ (w1.drew.cell? ⟨g + 1, 0, none⟩ = some (.int .i64 h.id) ∧ w1.drew.cell? ⟨g + 1, 1, none⟩ = some (.bool h.rp) ∧ w1.drew.cell? ⟨g + 1, 2, none⟩ = some (.bool h.au) ∧ w1.drew.cell? ⟨g + 1, 3, none⟩ = some (.bool h.ct) ∧ w1.drew.cell? ⟨g + 1, 4, none⟩ = some (.bool h.wa) ∧ w1.drew.cell? ⟨g + 1, 5, none⟩ = some (.bool h.ca) ∧ w1.drew.cell? ⟨g + 1, 6, none⟩ = some (.int .i64 h.code) ∧ w1.drew.cell? ⟨g + 1, 7, none⟩ = some (.string h.qn) ∧ w1.drew.cell? ⟨g + 1, 8, none⟩ = some (.int .i64 h.qt) ∧ w1.drew.cell? ⟨g + 1, 9, none⟩ = some (.slice A1 n1 c1) ∧ w1.drew.cell? ⟨g + 1, 10, none⟩ = some (.slice A2 n2 c2) ∧ w1.drew.cell? ⟨g + 1, 11, none⟩ = some (.slice A3 n3 c3))) ∧ RB w1.drew (g + 1 + 1)) ∧ Sv w0 w1.drew := keptA m ((Below.refl _ _).drew)
theorem keptA_put (m : (((w1.cell? ⟨g, 0, none⟩ = some (.slice A n c) ∧ (w1.cell? ⟨b, o, none⟩ = some (.string ap) ∧ w1.cell? ⟨b, o + 1, none⟩ = some (.slice A' n' c'))) ∧ (w1.cell? ⟨g + 1, 0, none⟩ = some (.int .i64 h.id) ∧ w1.cell? ⟨g + 1, 1, none⟩ = some (.bool h.rp) ∧ w1.cell? ⟨g + 1, 2, none⟩ = some (.bool h.au) ∧ w1.cell? ⟨g + 1, 3, none⟩ = some (.bool h.ct) ∧ w1.cell? ⟨g + 1, 4, none⟩ = some (.bool h.wa) ∧ w1.cell? ⟨g + 1, 5, none⟩ = some (.bool h.ca) ∧ w1.cell? ⟨g + 1, 6, none⟩ = some (.int .i64 h.code) ∧ w1.cell? ⟨g + 1, 7, none⟩ = some (.string h.qn) ∧ w1.cell? ⟨g + 1, 8, none⟩ = some (.int .i64 h.qt) ∧ w1.cell? ⟨g + 1, 9, none⟩ = some (.slice A1 n1 c1) ∧ w1.cell? ⟨g + 1, 10, none⟩ = some (.slice A2 n2 c2) ∧ w1.cell? ⟨g + 1, 11, none⟩ = some (.slice A3 n3 c3))) ∧ RB w1 (g + 1 + 1)) ∧ Sv w0 w1) (h0 : w0.heap.size ≤ g) (h1 : b < g + 1 + 1) (i : Nat) (v : Value) : ((((w1.setCell ⟨g + 1 + 1, i, none⟩ v).cell? ⟨g, 0, none⟩ = some (.slice A n c) ∧ ((w1.setCell ⟨g + 1 + 1, i, none⟩ v).cell? ⟨b, o, none⟩ = some (.string ap) ∧ (w1.setCell ⟨g + 1 + 1, i, none⟩ v).cell? ⟨b, o + 1, none⟩ = some (.slice A' n' c'))) ∧ ((w1.setCell ⟨g + 1 + 1, i, none⟩ v).cell? ⟨g + 1, 0, none⟩ = some (.int .i64 h.id) ∧ (w1.setCell ⟨g + 1 + 1, i, none⟩ v).cell? ⟨g + 1, 1, none⟩ = some (.bool h.rp) ∧ (w1.setCell ⟨g + 1 + 1, i, none⟩ v).cell? ⟨g + 1, 2, none⟩ = some (.bool h.au) ∧ (w1.setCell ⟨g + 1 + 1, i, none⟩ v).cell? ⟨g + 1, 3, none⟩ = some (.bool h.ct) ∧ (w1.setCell ⟨g + 1 + 1, i, none⟩ v).cell? ⟨g + 1, 4, none⟩ = some (.bool h.wa) ∧ (w1.setCell ⟨g + 1 + 1, i, none⟩ v).cell? ⟨g + 1, 5, none⟩ = some (.bool h.ca) ∧ (w1.setCell ⟨g + 1 + 1, i, none⟩ v).cell? ⟨g + 1, 6, none⟩ = some (.int .i64 h.code) ∧ (w1.setCell ⟨g + 1 + 1, i, none⟩ v).cell? ⟨g + 1, 7, none⟩ = some (.string h.qn) ∧ (w1.setCell ⟨g + 1 + 1, i, none⟩ v).cell? ⟨g + 1, 8, none⟩ = some (.int .i64 h.qt) ∧ (w1.setCell ⟨g + 1 + 1, i, none⟩ v).cell? ⟨g + 1, 9, none⟩ = some (.slice A1 n1 c1) ∧ (w1.setCell ⟨g + 1 + 1, i, none⟩ v).cell? ⟨g + 1, 10, none⟩ = some (.slice A2 n2 c2) ∧ (w1.setCell ⟨g + 1 + 1, i, none⟩ v).cell? ⟨g + 1, 11, none⟩ = some (.slice A3 n3 c3))) ∧ RB (w1.setCell ⟨g + 1 + 1, i, none⟩ v) (g + 1 + 1)) ∧ Sv w0 (w1.setCell ⟨g + 1 + 1, i, none⟩ v) := by
  have e : ∀ (j i' : Nat), j ≠ g + 1 + 1 → (w1.setCell ⟨g + 1 + 1, i, none⟩ v).cell? ⟨j, i', none⟩ = w1.cell? ⟨j, i', none⟩ := fun j i' hj => World.cell?_of_block (Below.heap_setCell w1 ⟨g + 1 + 1, i, none⟩ v j hj)
  exact ⟨⟨⟨⟨(e g 0 (by omega)).trans m.1.1.1.1, (e b o (by omega)).trans m.1.1.1.2.1, (e b (o + 1) (by omega)).trans m.1.1.1.2.2⟩, Mx.set1 m.1.1.2 (p := ⟨g + 1 + 1, i, none⟩) (by show g + 1 ≠ g + 1 + 1; omega) v⟩, m.1.2.put i v⟩, Below.setCell m.2 (p := ⟨g + 1 + 1, i, none⟩) (by show w0.heap.size ≤ g + 1 + 1; omega) v⟩
theorem keptA_fil (m : (((w1.cell? ⟨g, 0, none⟩ = some (.slice A n c) ∧ (w1.cell? ⟨b, o, none⟩ = some (.string ap) ∧ w1.cell? ⟨b, o + 1, none⟩ = some (.slice A' n' c'))) ∧ (w1.cell? ⟨g + 1, 0, none⟩ = some (.int .i64 h.id) ∧ w1.cell? ⟨g + 1, 1, none⟩ = some (.bool h.rp) ∧ w1.cell? ⟨g + 1, 2, none⟩ = some (.bool h.au) ∧ w1.cell? ⟨g + 1, 3, none⟩ = some (.bool h.ct) ∧ w1.cell? ⟨g + 1, 4, none⟩ = some (.bool h.wa) ∧ w1.cell? ⟨g + 1, 5, none⟩ = some (.bool h.ca) ∧ w1.cell? ⟨g + 1, 6, none⟩ = some (.int .i64 h.code) ∧ w1.cell? ⟨g + 1, 7, none⟩ = some (.string h.qn) ∧ w1.cell? ⟨g + 1, 8, none⟩ = some (.int .i64 h.qt) ∧ w1.cell? ⟨g + 1, 9, none⟩ = some (.slice A1 n1 c1) ∧ w1.cell? ⟨g + 1, 10, none⟩ = some (.slice A2 n2 c2) ∧ w1.cell? ⟨g + 1, 11, none⟩ = some (.slice A3 n3 c3))) ∧ RB w1 (g + 1 + 1)) ∧ Sv w0 w1) (h0 : w0.heap.size ≤ g) (h1 : b < g + 1 + 1) (v0 v1 v2 v3 v4 v5 v6 v7 v8 v9 v10 v11 : Value) : (((((((((((((((w1.setCell ⟨g + 1 + 1, 0, none⟩ v0).setCell ⟨g + 1 + 1, 1, none⟩ v1).setCell ⟨g + 1 + 1, 2, none⟩ v2).setCell ⟨g + 1 + 1, 3, none⟩ v3).setCell ⟨g + 1 + 1, 4, none⟩ v4).setCell ⟨g + 1 + 1, 5, none⟩ v5).setCell ⟨g + 1 + 1, 6, none⟩ v6).setCell ⟨g + 1 + 1, 7, none⟩ v7).setCell ⟨g + 1 + 1, 8, none⟩ v8).setCell ⟨g + 1 + 1, 9, none⟩ v9).setCell ⟨g + 1 + 1, 10, none⟩ v10).setCell ⟨g + 1 + 1, 11, none⟩ v11).cell? ⟨g, 0, none⟩ = some (.slice A n c) ∧ (((((((((((((w1.setCell ⟨g + 1 + 1, 0, none⟩ v0).setCell ⟨g + 1 + 1, 1, none⟩ v1).setCell ⟨g + 1 + 1, 2, none⟩ v2).setCell ⟨g + 1 + 1, 3, none⟩ v3).setCell ⟨g + 1 + 1, 4, none⟩ v4).setCell ⟨g + 1 + 1, 5, none⟩ v5).setCell ⟨g + 1 + 1, 6, none⟩ v6).setCell ⟨g + 1 + 1, 7, none⟩ v7).setCell ⟨g + 1 + 1, 8, none⟩ v8).setCell ⟨g + 1 + 1, 9, none⟩ v9).setCell ⟨g + 1 + 1, 10, none⟩ v10).setCell ⟨g + 1 + 1, 11, none⟩ v11).cell? ⟨b, o, none⟩ = some (.string ap) ∧ ((((((((((((w1.setCell ⟨g + 1 + 1, 0, none⟩ v0).setCell ⟨g + 1 + 1, 1, none⟩ v1).setCell ⟨g + 1 + 1, 2, none⟩ v2).setCell ⟨g + 1 + 1, 3, none⟩ v3).setCell ⟨g + 1 + 1, 4, none⟩ v4).setCell ⟨g + 1 + 1, 5, none⟩ v5).setCell ⟨g + 1 + 1, 6, none⟩ v6).setCell ⟨g + 1 + 1, 7, none⟩ v7).setCell ⟨g + 1 + 1, 8, none⟩ v8).setCell ⟨g + 1 + 1, 9, none⟩ v9).setCell ⟨g + 1 + 1, 10, none⟩ v10).setCell ⟨g + 1 + 1, 11, none⟩ v11).cell? ⟨b, o + 1, none⟩ = some (.slice A' n' c'))) ∧ (((((((((((((w1.setCell ⟨g + 1 + 1, 0, none⟩ v0).setCell ⟨g + 1 + 1, 1, none⟩ v1).setCell ⟨g + 1 + 1, 2, none⟩ v2).setCell ⟨g + 1 + 1, 3, none⟩ v3).setCell ⟨g + 1 + 1, 4, none⟩ v4).setCell ⟨g + 1 + 1, 5, none⟩ v5).setCell ⟨g + 1 + 1, 6, none⟩ v6).setCell ⟨g + 1 + 1, 7, none⟩ v7).setCell ⟨g + 1 + 1, 8, none⟩ v8).setCell ⟨g + 1 + 1, 9, none⟩ v9).setCell ⟨g + 1 + 1, 10, none⟩ v10).setCell ⟨g + 1 + 1, 11, none⟩ v11).cell? ⟨g + 1, 0, none⟩ = some (.int .i64 h.id) ∧ ((((((((((((w1.setCell ⟨g + 1 + 1, 0, none⟩ v0).setCell ⟨g + 1 + 1, 1, none⟩ v1).setCell ⟨g + 1 + 1, 2, none⟩ v2).setCell ⟨g + 1 + 1, 3, none⟩ v3).setCell ⟨g + 1 + 1, 4, none⟩ v4).setCell ⟨g + 1 + 1, 5, none⟩ v5).setCell ⟨g + 1 + 1, 6, none⟩ v6).setCell ⟨g + 1 + 1, 7, none⟩ v7).setCell ⟨g + 1 + 1, 8, none⟩ v8).setCell ⟨g + 1 + 1, 9, none⟩ v9).setCell ⟨g + 1 + 1, 10, none⟩ v10).setCell ⟨g + 1 + 1, 11, none⟩ v11).cell? ⟨g + 1, 1, none⟩ = some (.bool h.rp) ∧ ((((((((((((w1.setCell ⟨g + 1 + 1, 0, none⟩ v0).setCell ⟨g + 1 + 1, 1, none⟩ v1).setCell ⟨g + 1 + 1, 2, none⟩ v2).setCell ⟨g + 1 + 1, 3, none⟩ v3).setCell ⟨g + 1 + 1, 4, none⟩ v4).setCell ⟨g + 1 + 1, 5, none⟩ v5).setCell ⟨g + 1 + 1, 6, none⟩ v6).setCell ⟨g + 1 + 1, 7, none⟩ v7).setCell ⟨g + 1 + 1, 8, none⟩ v8).setCell ⟨g + 1 + 1, 9, none⟩ v9).setCell ⟨g + 1 + 1, 10, none⟩ v10).setCell ⟨g + 1 + 1, 11, none⟩ v11).cell? ⟨g + 1, 2, none⟩ = some (.bool h.au) ∧ ((((((((((((w1.setCell ⟨g + 1 + 1, 0, none⟩ v0).setCell ⟨g + 1 + 1, 1, none⟩ v1).setCell ⟨g + 1 + 1, 2, none⟩ v2).setCell ⟨g + 1 + 1, 3, none⟩ v3).setCell ⟨g + 1 + 1, 4, none⟩ v4).setCell ⟨g + 1 + 1, 5, none⟩ v5).setCell ⟨g + 1 + 1, 6, none⟩ v6).setCell ⟨g + 1 + 1, 7, none⟩ v7).setCell ⟨g + 1 + 1, 8, none⟩ v8).setCell ⟨g + 1 + 1, 9, none⟩ v9).setCell ⟨g + 1 + 1, 10, none⟩ v10).setCell ⟨g + 1 + 1, 11, none⟩ v11).cell? ⟨g + 1, 3, none⟩ = some (.bool h.ct) ∧ ((((((((((((w1.setCell ⟨g + 1 + 1, 0, none⟩ v0).setCell ⟨g + 1 + 1, 1, none⟩ v1).setCell ⟨g + 1 + 1, 2, none⟩ v2).setCell ⟨g + 1 + 1, 3, none⟩ v3).setCell ⟨g + 1 + 1, 4, none⟩ v4).setCell ⟨g + 1 + 1, 5, none⟩ v5).setCell ⟨g + 1 + 1, 6, none⟩ v6).setCell ⟨g + 1 + 1, 7, none⟩ v7).setCell ⟨g + 1 + 1, 8, none⟩ v8).setCell ⟨g + 1 + 1, 9, none⟩ v9).setCell ⟨g + 1 + 1, 10, none⟩ v10).setCell ⟨g + 1 + 1, 11, none⟩ v11).cell? ⟨g + 1, 4, none⟩ = some (.bool h.wa) ∧ ((((((((((((w1.setCell ⟨g + 1 + 1, 0, none⟩ v0).setCell ⟨g + 1 + 1, 1, none⟩ v1).setCell ⟨g + 1 + 1, 2, none⟩ v2).setCell ⟨g + 1 + 1, 3, none⟩ v3).setCell ⟨g + 1 + 1, 4, none⟩ v4).setCell ⟨g + 1 + 1, 5, none⟩ v5).setCell ⟨g + 1 + 1, 6, none⟩ v6).setCell ⟨g + 1 + 1, 7, none⟩ v7).setCell ⟨g + 1 + 1, 8, none⟩ v8).setCell ⟨g + 1 + 1, 9, none⟩ v9).setCell ⟨g + 1 + 1, 10, none⟩ v10).setCell ⟨g + 1 + 1, 11, none⟩ v11).cell? ⟨g + 1, 5, none⟩ = some (.bool h.ca) ∧ ((((((((((((w1.setCell ⟨g + 1 + 1, 0, none⟩ v0).setCell ⟨g + 1 + 1, 1, none⟩ v1).setCell ⟨g + 1 + 1, 2, none⟩ v2).setCell ⟨g + 1 + 1, 3, none⟩ v3).setCell ⟨g + 1 + 1, 4, none⟩ v4).setCell ⟨g + 1 + 1, 5, none⟩ v5).setCell ⟨g + 1 + 1, 6, none⟩ v6).setCell ⟨g + 1 + 1, 7, none⟩ v7).setCell ⟨g + 1 + 1, 8, none⟩ v8).setCell ⟨g + 1 + 1, 9, none⟩ v9).setCell ⟨g + 1 + 1, 10, none⟩ v10).setCell ⟨g + 1 + 1, 11, none⟩ v11).cell? ⟨g + 1, 6, none⟩ = some (.int .i64 h.code) ∧ ((((((((((((w1.setCell ⟨g + 1 + 1, 0, none⟩ v0).setCell ⟨g + 1 + 1, 1, none⟩ v1).setCell ⟨g + 1 + 1, 2, none⟩ v2).setCell ⟨g + 1 + 1, 3, none⟩ v3).setCell ⟨g + 1 + 1, 4, none⟩ v4).setCell ⟨g + 1 + 1, 5, none⟩ v5).setCell ⟨g + 1 + 1, 6, none⟩ v6).setCell ⟨g + 1 + 1, 7, none⟩ v7).setCell ⟨g + 1 + 1, 8, none⟩ v8).setCell ⟨g + 1 + 1, 9, none⟩ v9).setCell ⟨g + 1 + 1, 10, none⟩ v10).setCell ⟨g + 1 + 1, 11, none⟩ v11).cell? ⟨g + 1, 7, none⟩ = some (.string h.qn) ∧ ((((((((((((w1.setCell ⟨g + 1 + 1, 0, none⟩ v0).setCell ⟨g + 1 + 1, 1, none⟩ v1).setCell ⟨g + 1 + 1, 2, none⟩ v2).setCell ⟨g + 1 + 1, 3, none⟩ v3).setCell ⟨g + 1 + 1, 4, none⟩ v4).setCell ⟨g + 1 + 1, 5, none⟩ v5).setCell ⟨g + 1 + 1, 6, none⟩ v6).setCell ⟨g + 1 + 1, 7, none⟩ v7).setCell ⟨g + 1 + 1, 8, none⟩ v8).setCell ⟨g + 1 + 1, 9, none⟩ v9).setCell ⟨g + 1 + 1, 10, none⟩ v10).setCell ⟨g + 1 + 1, 11, none⟩ v11).cell? ⟨g + 1, 8, none⟩ = some (.int .i64 h.qt) ∧ ((((((((((((w1.setCell ⟨g + 1 + 1, 0, none⟩ v0).setCell ⟨g + 1 + 1, 1, none⟩ v1).setCell ⟨g + 1 + 1, 2, none⟩ v2).setCell ⟨g + 1 + 1, 3, none⟩ v3).setCell ⟨g + 1 + 1, 4, none⟩ v4).setCell ⟨g + 1 + 1, 5, none⟩ v5).setCell ⟨g + 1 + 1, 6, none⟩ v6).setCell ⟨g + 1 + 1, 7, none⟩ v7).setCell ⟨g + 1 + 1, 8, none⟩ v8).setCell ⟨g + 1 + 1, 9, none⟩ v9).setCell ⟨g + 1 + 1, 10, none⟩ v10).setCell ⟨g + 1 + 1, 11, none⟩ v11).cell? ⟨g + 1, 9, none⟩ = some (.slice A1 n1 c1) ∧ ((((((((((((w1.setCell ⟨g + 1 + 1, 0, none⟩ v0).setCell ⟨g + 1 + 1, 1, none⟩ v1).setCell ⟨g + 1 + 1, 2, none⟩ v2).setCell ⟨g + 1 + 1, 3, none⟩ v3).setCell ⟨g + 1 + 1, 4, none⟩ v4).setCell ⟨g + 1 + 1, 5, none⟩ v5).setCell ⟨g + 1 + 1, 6, none⟩ v6).setCell ⟨g + 1 + 1, 7, none⟩ v7).setCell ⟨g + 1 + 1, 8, none⟩ v8).setCell ⟨g + 1 + 1, 9, none⟩ v9).setCell ⟨g + 1 + 1, 10, none⟩ v10).setCell ⟨g + 1 + 1, 11, none⟩ v11).cell? ⟨g + 1, 10, none⟩ = some (.slice A2 n2 c2) ∧ ((((((((((((w1.setCell ⟨g + 1 + 1, 0, none⟩ v0).setCell ⟨g + 1 + 1, 1, none⟩ v1).setCell ⟨g + 1 + 1, 2, none⟩ v2).setCell ⟨g + 1 + 1, 3, none⟩ v3).setCell ⟨g + 1 + 1, 4, none⟩ v4).setCell ⟨g + 1 + 1, 5, none⟩ v5).setCell ⟨g + 1 + 1, 6, none⟩ v6).setCell ⟨g + 1 + 1, 7, none⟩ v7).setCell ⟨g + 1 + 1, 8, none⟩ v8).setCell ⟨g + 1 + 1, 9, none⟩ v9).setCell ⟨g + 1 + 1, 10, none⟩ v10).setCell ⟨g + 1 + 1, 11, none⟩ v11).cell? ⟨g + 1, 11, none⟩ = some (.slice A3 n3 c3))) ∧ RB ((((((((((((w1.setCell ⟨g + 1 + 1, 0, none⟩ v0).setCell ⟨g + 1 + 1, 1, none⟩ v1).setCell ⟨g + 1 + 1, 2, none⟩ v2).setCell ⟨g + 1 + 1, 3, none⟩ v3).setCell ⟨g + 1 + 1, 4, none⟩ v4).setCell ⟨g + 1 + 1, 5, none⟩ v5).setCell ⟨g + 1 + 1, 6, none⟩ v6).setCell ⟨g + 1 + 1, 7, none⟩ v7).setCell ⟨g + 1 + 1, 8, none⟩ v8).setCell ⟨g + 1 + 1, 9, none⟩ v9).setCell ⟨g + 1 + 1, 10, none⟩ v10).setCell ⟨g + 1 + 1, 11, none⟩ v11) (g + 1 + 1)) ∧ Sv w0 ((((((((((((w1.setCell ⟨g + 1 + 1, 0, none⟩ v0).setCell ⟨g + 1 + 1, 1, none⟩ v1).setCell ⟨g + 1 + 1, 2, none⟩ v2).setCell ⟨g + 1 + 1, 3, none⟩ v3).setCell ⟨g + 1 + 1, 4, none⟩ v4).setCell ⟨g + 1 + 1, 5, none⟩ v5).setCell ⟨g + 1 + 1, 6, none⟩ v6).setCell ⟨g + 1 + 1, 7, none⟩ v7).setCell ⟨g + 1 + 1, 8, none⟩ v8).setCell ⟨g + 1 + 1, 9, none⟩ v9).setCell ⟨g + 1 + 1, 10, none⟩ v10).setCell ⟨g + 1 + 1, 11, none⟩ v11) :=
  (keptA_put (keptA_put (keptA_put (keptA_put (keptA_put (keptA_put (keptA_put (keptA_put (keptA_put (keptA_put (keptA_put (keptA_put m h0 h1 0 v0) h0 h1 1 v1) h0 h1 2 v2) h0 h1 3 v3) h0 h1 4 v4) h0 h1 5 v5) h0 h1 6 v6) h0 h1 7 v7) h0 h1 8 v8) h0 h1 9 v9) h0 h1 10 v10) h0 h1 11 v11)
end

/-- The boxes of a name space, a message and the result. -/
theorem boxesF (w : World) (s x : Value) (h : Hd) (A1 A2 A3 : Option Addr) (n1 c1 n2 c2 n3 c3 : Nat) (t u v : TypeId) (W : World) (hW : W = (((w.alloc (.cells #[s, x] t)).alloc (.cells #[.int .i64 h.id, .bool h.rp, .bool h.au, .bool h.ct, .bool h.wa, .bool h.ca, .int .i64 h.code, .string h.qn, .int .i64 h.qt, .slice A1 n1 c1, .slice A2 n2 c2, .slice A3 n3 c3] u)).alloc (.cells #[.int .i64 0, .bool false, .bool false, .bool false, .bool false, .bool false, .int .i64 0, .string ⟨#[]⟩, .int .i64 0, .slice none 0 0, .slice none 0 0, .slice none 0 0] v))) : Fx W w.heap.size s x ∧ Mx W (w.heap.size + 1) h (.slice A1 n1 c1) (.slice A2 n2 c2) (.slice A3 n3 c3) ∧ Bk W (w.heap.size + 1 + 1) v (mc zh (.slice none 0 0) (.slice none 0 0) (.slice none 0 0)) ∧ Below w.heap.size w W := by
  subst hW
  have e1 : (w.alloc (.cells #[s, x] t)).heap.size = w.heap.size + 1 := by simp
  have e2 : ((w.alloc (.cells #[s, x] t)).alloc (.cells #[.int .i64 h.id, .bool h.rp, .bool h.au, .bool h.ct, .bool h.wa, .bool h.ca, .int .i64 h.code, .string h.qn, .int .i64 h.qt, .slice A1 n1 c1, .slice A2 n2 c2, .slice A3 n3 c3] u)).heap.size = w.heap.size + 1 + 1 := by simp
  have al : Below (w.alloc (.cells #[s, x] t)).heap.size (w.alloc (.cells #[s, x] t)) ((w.alloc (.cells #[s, x] t)).alloc (.cells #[.int .i64 h.id, .bool h.rp, .bool h.au, .bool h.ct, .bool h.wa, .bool h.ca, .int .i64 h.code, .string h.qn, .int .i64 h.qt, .slice A1 n1 c1, .slice A2 n2 c2, .slice A3 n3 c3] u)) := (Below.refl _ _).alloc (Nat.le_refl _) _
  have al2 : Below ((w.alloc (.cells #[s, x] t)).alloc (.cells #[.int .i64 h.id, .bool h.rp, .bool h.au, .bool h.ct, .bool h.wa, .bool h.ca, .int .i64 h.code, .string h.qn, .int .i64 h.qt, .slice A1 n1 c1, .slice A2 n2 c2, .slice A3 n3 c3] u)).heap.size ((w.alloc (.cells #[s, x] t)).alloc (.cells #[.int .i64 h.id, .bool h.rp, .bool h.au, .bool h.ct, .bool h.wa, .bool h.ca, .int .i64 h.code, .string h.qn, .int .i64 h.qt, .slice A1 n1 c1, .slice A2 n2 c2, .slice A3 n3 c3] u)) (((w.alloc (.cells #[s, x] t)).alloc (.cells #[.int .i64 h.id, .bool h.rp, .bool h.au, .bool h.ct, .bool h.wa, .bool h.ca, .int .i64 h.code, .string h.qn, .int .i64 h.qt, .slice A1 n1 c1, .slice A2 n2 c2, .slice A3 n3 c3] u)).alloc (.cells #[.int .i64 0, .bool false, .bool false, .bool false, .bool false, .bool false, .int .i64 0, .string ⟨#[]⟩, .int .i64 0, .slice none 0 0, .slice none 0 0, .slice none 0 0] v)) := (Below.refl _ _).alloc (Nat.le_refl _) _
  have l1 : Below w.heap.size w (w.alloc (.cells #[s, x] t)) := (Below.refl _ _).alloc (Nat.le_refl _) _
  have l2 := l1.trans (al.mono l1.size)
  have m := mx_new (w.alloc (.cells #[s, x] t)) u h (.slice A1 n1 c1) (.slice A2 n2 c2) (.slice A3 n3 c3)
  rw [e1] at m
  have b := heap_alloc_new ((w.alloc (.cells #[s, x] t)).alloc (.cells #[.int .i64 h.id, .bool h.rp, .bool h.au, .bool h.ct, .bool h.wa, .bool h.ca, .int .i64 h.code, .string h.qn, .int .i64 h.qt, .slice A1 n1 c1, .slice A2 n2 c2, .slice A3 n3 c3] u)) (.cells #[.int .i64 0, .bool false, .bool false, .bool false, .bool false, .bool false, .int .i64 0, .string ⟨#[]⟩, .int .i64 0, .slice none 0 0, .slice none 0 0, .slice none 0 0] v)
  rw [e2] at b
  exact ⟨((fx_new w t s x).below al).below al2, m.below al2, b, l2.trans (al2.mono l2.size)⟩
end Go.Proofs.YtmkcjjgicinggaaGreatDoor.RatM

/- What ReplyAt does in the program: the answer of the zone that is served at the address, or a refusal. -/
namespace Go.Proofs.YtmkcjjgicinggaaGreatDoor.RatI
open Go.RowKit Go.Proofs.YtmkcjjgicinggaaGreatDoor.Mem Go.Proofs.YtmkcjjgicinggaaGreatDoor.MemR Go.Proofs.YtmkcjjgicinggaaGreatDoor.BoxR Go.Proofs.YtmkcjjgicinggaaGreatDoor.MemM Go.Proofs.YtmkcjjgicinggaaGreatDoor.ResM Go.Proofs.YtmkcjjgicinggaaGreatDoor.RepM Go.Proofs.YtmkcjjgicinggaaGreatDoor.MemF Go.Proofs.YtmkcjjgicinggaaGreatDoor.SetMath Go.Proofs.YtmkcjjgicinggaaGreatDoor.ForMath Go.Proofs.YtmkcjjgicinggaaGreatDoor.ServeMath Go.Proofs.YtmkcjjgicinggaaGreatDoor.ServI Go.Proofs.YtmkcjjgicinggaaGreatDoor.ShoS Go.Proofs.YtmkcjjgicinggaaGreatDoor.RatM Go.Proofs.YtmkcjjgicinggaaGreatDoor.Labels

set_option maxRecDepth 100000 in
set_option maxHeartbeats 8000000 in
theorem impl (A : Option Addr) (n c : Nat) (zs : List Zn) (P : Option Addr) (m d : Nat) (ps : List Pst) (a : Int) (h : Hd) (A1 A2 A3 : Option Addr) (n1 c1 n2 c2 n3 c3 : Nat) (w : World) (he : Env w) (hs : Sf True w A n zs P m ps) (hn : n ≤ 100000000) (hm : m ≤ 100000000) (hz : ∀ z ∈ zs, z.apex.size ≤ 400000000 ∧ z.l.length ≤ 1048576 ∧ ∀ r ∈ z.l, r.name.size ≤ 400000000) (hq : h.qn.size ≤ 400000000) :
    Calls Tryz.prog 17 #[.agg #[.slice A n c, .slice P m d], .int .i64 a, .agg #[.int .i64 h.id, .bool h.rp, .bool h.au, .bool h.ct, .bool h.wa, .bool h.ca, .int .i64 h.code, .string h.qn, .int .i64 h.qt, .slice A1 n1 c1, .slice A2 n2 c2, .slice A3 n3 c3]] w (GivesA w h zs ps a) := by
  obtain ⟨hx, hy, hb0, hl0⟩ := boxesF w (.slice A n c) (.slice P m d) h A1 A2 A3 n1 c1 n2 c2 n3 c3 27 45 45 _ rfl
  have X0 := Lib.hid hx
  have Y0 := Lib.hid hy
  have R0 := Lib.hid hb0
  have L0 := Lib.hid hl0
  have C1 := Lib.hid (ZonI.zoneAt True A n c zs P m d ps a h.qn (((w.alloc (.cells #[.slice A n c, .slice P m d] 27)).alloc (.cells #[.int .i64 h.id, .bool h.rp, .bool h.au, .bool h.ct, .bool h.wa, .bool h.ca, .int .i64 h.code, .string h.qn, .int .i64 h.qt, .slice A1 n1 c1, .slice A2 n2 c2, .slice A3 n3 c3] 45)).alloc (.cells #[.int .i64 0, .bool false, .bool false, .bool false, .bool false, .bool false, .int .i64 0, .string ⟨#[]⟩, .int .i64 0, .slice none 0 0, .slice none 0 0, .slice none 0 0] 45)) (he.below hl0) (hs.on hl0).1 (hs.on hl0).2 (by omega) (by omega) (fun z hz' => (hz z hz').1) hq)
  have HS := Lib.hid hs
  have HZ := Lib.hid hz
  have HB := Lib.hid (zo_bound h.qn (psd a ps) (aps zs))
  have HA : Hid ((aps zs).length = n) := show _ = _ by rw [aps, List.length_map]; exact hs.1.1
  have HNo : Hid (zo h.qn (psd a ps) (aps zs) < 0 → ∀ e w', GivesM w (rph h 5 false) 0 0 0 [] [] [] e w' → GivesA w h zs ps a e w') := fun h e w' g => ga_no h g
  have HYes : Hid (∀ k : Nat, zo h.qn (psd a ps) (aps zs) = (k : Int) → ∀ hk : k < zs.length, ∀ e w', GivesS8 w h (kd zs[k].apex h.qn h.qt zs[k].l) (anl (kd zs[k].apex h.qn h.qt zs[k].l) h.qn h.qt zs[k].l) (mol (kd zs[k].apex h.qn h.qt zs[k].l) zs[k].apex h.qn zs[k].l) (hel (kd zs[k].apex h.qn h.qt zs[k].l) zs[k].apex h.qn zs[k].l) e w' → GivesA w h zs ps a e w') := fun k h hk e w' g => ga_yes h hk g
  clear hx hy hb0 hl0 hs hz
  generalize GivesA w h zs ps a = GA at *
  generalize zo h.qn (psd a ps) (aps zs) = v at *
  obtain ⟨x0, x1⟩ := X0.out
  obtain ⟨y0, y1, y2, y3, y4, y5, y6, y7, y8, y9, y10, y11⟩ := Y0.out
  go_enter Tryz.func17, Tryz.ntmps17
  go_wp2_with fail
  refine C1.out.mono ?_
  rintro e w1 ⟨rfl, hl⟩
  have L1 := Lib.hid (L0.out.trans (hl.mono L0.out.size))
  have X1 := Lib.hid (X0.out.below hl)
  have Y1 := Lib.hid (Y0.out.below hl)
  have R1 := Lib.hid (R0.out.below hl R0.out.lt)
  clear hl L0 X0 Y0 R0 x0 x1 C1 y0 y1 y2 y3 y4 y5 y6 y7 y8 y9 y10 y11
  obtain ⟨x0, x1⟩ := X1.out
  by_cases hneg : v < 0
  · have HG := Lib.hid (HNo.out hneg)
    clear HYes HNo HZ HB HS
    obtain ⟨y0, y1, y2, y3, y4, y5, y6, y7, y8, y9, y10, y11⟩ := Y1.out
    have C2 := Lib.hid (show Calls Tryz.prog 64 _ _ _ from RepN.impl h A1 A2 A3 n1 c1 n2 c2 n3 c3 5 false none 0 0 [] none 0 0 [] none 0 0 [] w1 Sr.nil (by omega) (.inl ⟨rfl, rfl, rfl⟩) Sr.nil (by omega) (.inl ⟨rfl, rfl, rfl⟩) Sr.nil (by omega) (.inl ⟨rfl, rfl, rfl⟩))
    go_wp2_with fail
    refine C2.out.mono ?_
    rintro e w3 ⟨g1, u1, r1, g2, u2, r2, g3, u3, r3, rfl, hb1, hb2, hb3, hg, h12, h23, hl⟩
    have hl' : Below w1.heap.size w1 w3 := hl
    have hg' : w1.heap.size ≤ g1 := hg
    have RA : RB w3 (w.heap.size + 1 + 1) := (show RB w1 (w.heap.size + 1 + 1) from ⟨_, rfl, R1.out⟩).below hl'
    have a4 : Below w.heap.size w w3 := L1.out.trans (hl'.mono L1.out.size)
    have G4 : w.heap.size + 1 + 1 < g1 := Nat.lt_of_lt_of_le R1.out.lt hg'
    have HR := RA
    have p0 := HR.cell 0 (by decide)
    have f0 := HR.free 0
    have p1 := HR.cell 1 (by decide)
    have f1 := HR.free 1
    have p2 := HR.cell 2 (by decide)
    have f2 := HR.free 2
    have p3 := HR.cell 3 (by decide)
    have f3 := HR.free 3
    have p4 := HR.cell 4 (by decide)
    have f4 := HR.free 4
    have p5 := HR.cell 5 (by decide)
    have f5 := HR.free 5
    have p6 := HR.cell 6 (by decide)
    have f6 := HR.free 6
    have p7 := HR.cell 7 (by decide)
    have f7 := HR.free 7
    have p8 := HR.cell 8 (by decide)
    have f8 := HR.free 8
    have p9 := HR.cell 9 (by decide)
    have f9 := HR.free 9
    have p10 := HR.cell 10 (by decide)
    have f10 := HR.free 10
    have p11 := HR.cell 11 (by decide)
    have f11 := HR.free 11
    clear HR
    have F := Lib.hid (RA.fil (rph h 5 false) (.slice (some ⟨g1, 0, none⟩) 0 u1) (.slice (some ⟨g2, 0, none⟩) 0 u2) (.slice (some ⟨g3, 0, none⟩) 0 u3))
    have E := Lib.hid (filM_below a4 (g := w.heap.size + 1 + 1) (by omega) (rph h 5 false) (.slice (some ⟨g1, 0, none⟩) 0 u1) (.slice (some ⟨g2, 0, none⟩) 0 u2) (.slice (some ⟨g3, 0, none⟩) 0 u3))
    have I1 := Lib.hid (filM_other hb1 (g := w.heap.size + 1 + 1) (by omega) (rph h 5 false) (.slice (some ⟨g1, 0, none⟩) 0 u1) (.slice (some ⟨g2, 0, none⟩) 0 u2) (.slice (some ⟨g3, 0, none⟩) 0 u3))
    have I2 := Lib.hid (filM_other hb2 (g := w.heap.size + 1 + 1) (by omega) (rph h 5 false) (.slice (some ⟨g1, 0, none⟩) 0 u1) (.slice (some ⟨g2, 0, none⟩) 0 u2) (.slice (some ⟨g3, 0, none⟩) 0 u3))
    have I3 := Lib.hid (filM_other hb3 (g := w.heap.size + 1 + 1) (by omega) (rph h 5 false) (.slice (some ⟨g1, 0, none⟩) 0 u1) (.slice (some ⟨g2, 0, none⟩) 0 u2) (.slice (some ⟨g3, 0, none⟩) 0 u3))
    clear RA a4 hl hl' hb1 hb2 hb3 hg hg' R1 L1 X1 Y1 C2 x0 x1 y0 y1 y2 y3 y4 y5 y6 y7 y8 y9 y10 y11
    go_wp2
    exact bodyPost_ret (v := .agg #[.int .i64 (rph h 5 false).id, .bool (rph h 5 false).rp, .bool (rph h 5 false).au, .bool (rph h 5 false).ct, .bool (rph h 5 false).wa, .bool (rph h 5 false).ca, .int .i64 (rph h 5 false).code, .string (rph h 5 false).qn, .int .i64 (rph h 5 false).qt, .slice (some ⟨g1, 0, none⟩) 0 u1, .slice (some ⟨g2, 0, none⟩) 0 u2, .slice (some ⟨g3, 0, none⟩) 0 u3]) (res1M rfl F.out rfl) rfl (HG.out _ _ ⟨g1, u1, r1, g2, u2, r2, g3, u3, r3, rfl, I1.out, I2.out, I3.out, by omega, h12, h23, E.out⟩)
  · obtain ⟨k, rfl⟩ : ∃ k : Nat, v = (k : Int) := ⟨v.toNat, by omega⟩
    have hkn : k < n := by have := HB.out.2; have := HA.out; omega
    obtain ⟨b, off, rfl, hbB, hcs⟩ := HS.out.1.2 (by omega)
    have hkz : k < zs.length := by rw [HS.out.1.1]; exact hkn
    have HG := Lib.hid (HYes.out k rfl hkz)
    obtain ⟨e0', A', n', c', e1', hr, ho⟩ := hcs k hkz
    have e0 := (L1.out.cell (p := ⟨b, off + k * 2, none⟩) hbB).trans e0'
    have e1 := (L1.out.cell (p := ⟨b, off + k * 2 + 1, none⟩) hbB).trans e1'
    clear e0' e1'
    obtain ⟨g', o', rfl⟩ := ho trivial
    have HZk := HZ.out _ (List.getElem_mem hkz)
    clear hcs HNo HYes HZ HB
    generalize zs[k] = z at *
    obtain ⟨ap, l⟩ := z
    simp only at HG HZk hr e0
    have SE : Hid (∀ W : World, (((W.cell? ⟨w.heap.size, 0, none⟩ = some (.slice (some ⟨b, off, none⟩) n c) ∧ (W.cell? ⟨b, off + k * 2, none⟩ = some (.string ap) ∧ W.cell? ⟨b, off + k * 2 + 1, none⟩ = some (.slice (some ⟨g', o', none⟩) n' c'))) ∧ (W.cell? ⟨w.heap.size + 1, 0, none⟩ = some (.int .i64 h.id) ∧ W.cell? ⟨w.heap.size + 1, 1, none⟩ = some (.bool h.rp) ∧ W.cell? ⟨w.heap.size + 1, 2, none⟩ = some (.bool h.au) ∧ W.cell? ⟨w.heap.size + 1, 3, none⟩ = some (.bool h.ct) ∧ W.cell? ⟨w.heap.size + 1, 4, none⟩ = some (.bool h.wa) ∧ W.cell? ⟨w.heap.size + 1, 5, none⟩ = some (.bool h.ca) ∧ W.cell? ⟨w.heap.size + 1, 6, none⟩ = some (.int .i64 h.code) ∧ W.cell? ⟨w.heap.size + 1, 7, none⟩ = some (.string h.qn) ∧ W.cell? ⟨w.heap.size + 1, 8, none⟩ = some (.int .i64 h.qt) ∧ W.cell? ⟨w.heap.size + 1, 9, none⟩ = some (.slice A1 n1 c1) ∧ W.cell? ⟨w.heap.size + 1, 10, none⟩ = some (.slice A2 n2 c2) ∧ W.cell? ⟨w.heap.size + 1, 11, none⟩ = some (.slice A3 n3 c3))) ∧ RB W (w.heap.size + 1 + 1)) ∧ Sv w W → Calls Tryz.prog 65 #[.agg #[.string ap, .slice (some ⟨g', o', none⟩) n' c'], .agg #[.int .i64 h.id, .bool h.rp, .bool h.au, .bool h.ct, .bool h.wa, .bool h.ca, .int .i64 h.code, .string h.qn, .int .i64 h.qt, .slice A1 n1 c1, .slice A2 n2 c2, .slice A3 n3 c3]] W (GivesS8 W h (kd ap h.qn h.qt l) (anl (kd ap h.qn h.qt l) h.qn h.qt l) (mol (kd ap h.qn h.qt l) ap h.qn l) (hel (kd ap h.qn h.qt l) ap h.qn l))) := fun W hW =>
      ServI.impl ap g' o' n' c' l h A1 A2 A3 n1 c1 n2 c2 n3 c3 W ((hr.below (w' := W) hW.2).wider hW.2.size) (by have := hr.1; have := HZk.2.1; omega) HZk.1 hq HZk.2.2
    clear hr HZk HS
    unfold GivesS8 at SE HG
    generalize rph h (rcd (kd ap h.qn h.qt l)) (aut (kd ap h.qn h.qt l)) = H at *
    generalize (anl (kd ap h.qn h.qt l) h.qn h.qt l).take 8 = j1 at *
    generalize m8 (anl (kd ap h.qn h.qt l) h.qn h.qt l).length = k1 at *
    generalize (mol (kd ap h.qn h.qt l) ap h.qn l).take 8 = j2 at *
    generalize m8 (mol (kd ap h.qn h.qt l) ap h.qn l).length = k2 at *
    generalize (hel (kd ap h.qn h.qt l) ap h.qn l).take 8 = j3 at *
    generalize m8 (hel (kd ap h.qn h.qt l) ap h.qn l).length = k3 at *
    have SS0 : (((w1.cell? ⟨w.heap.size, 0, none⟩ = some (.slice (some ⟨b, off, none⟩) n c) ∧ (w1.cell? ⟨b, off + k * 2, none⟩ = some (.string ap) ∧ w1.cell? ⟨b, off + k * 2 + 1, none⟩ = some (.slice (some ⟨g', o', none⟩) n' c'))) ∧ (w1.cell? ⟨w.heap.size + 1, 0, none⟩ = some (.int .i64 h.id) ∧ w1.cell? ⟨w.heap.size + 1, 1, none⟩ = some (.bool h.rp) ∧ w1.cell? ⟨w.heap.size + 1, 2, none⟩ = some (.bool h.au) ∧ w1.cell? ⟨w.heap.size + 1, 3, none⟩ = some (.bool h.ct) ∧ w1.cell? ⟨w.heap.size + 1, 4, none⟩ = some (.bool h.wa) ∧ w1.cell? ⟨w.heap.size + 1, 5, none⟩ = some (.bool h.ca) ∧ w1.cell? ⟨w.heap.size + 1, 6, none⟩ = some (.int .i64 h.code) ∧ w1.cell? ⟨w.heap.size + 1, 7, none⟩ = some (.string h.qn) ∧ w1.cell? ⟨w.heap.size + 1, 8, none⟩ = some (.int .i64 h.qt) ∧ w1.cell? ⟨w.heap.size + 1, 9, none⟩ = some (.slice A1 n1 c1) ∧ w1.cell? ⟨w.heap.size + 1, 10, none⟩ = some (.slice A2 n2 c2) ∧ w1.cell? ⟨w.heap.size + 1, 11, none⟩ = some (.slice A3 n3 c3))) ∧ RB w1 (w.heap.size + 1 + 1)) ∧ Sv w w1 := ⟨⟨⟨⟨x0, e0, e1⟩, Y1.out⟩, ⟨_, rfl, R1.out⟩⟩, L1.out⟩
    have nb : b < w.heap.size + 1 + 1 := by omega
    have n0 : w.heap.size ≤ w.heap.size := Nat.le_refl _
    clear x0 x1 e0 e1 X1 Y1
    go_wp2
    go_region_held3 (fun w' => (((w'.cell? ⟨w.heap.size, 0, none⟩ = some (.slice (some ⟨b, off, none⟩) n c) ∧ (w'.cell? ⟨b, off + k * 2, none⟩ = some (.string ap) ∧ w'.cell? ⟨b, off + k * 2 + 1, none⟩ = some (.slice (some ⟨g', o', none⟩) n' c'))) ∧ (w'.cell? ⟨w.heap.size + 1, 0, none⟩ = some (.int .i64 h.id) ∧ w'.cell? ⟨w.heap.size + 1, 1, none⟩ = some (.bool h.rp) ∧ w'.cell? ⟨w.heap.size + 1, 2, none⟩ = some (.bool h.au) ∧ w'.cell? ⟨w.heap.size + 1, 3, none⟩ = some (.bool h.ct) ∧ w'.cell? ⟨w.heap.size + 1, 4, none⟩ = some (.bool h.wa) ∧ w'.cell? ⟨w.heap.size + 1, 5, none⟩ = some (.bool h.ca) ∧ w'.cell? ⟨w.heap.size + 1, 6, none⟩ = some (.int .i64 h.code) ∧ w'.cell? ⟨w.heap.size + 1, 7, none⟩ = some (.string h.qn) ∧ w'.cell? ⟨w.heap.size + 1, 8, none⟩ = some (.int .i64 h.qt) ∧ w'.cell? ⟨w.heap.size + 1, 9, none⟩ = some (.slice A1 n1 c1) ∧ w'.cell? ⟨w.heap.size + 1, 10, none⟩ = some (.slice A2 n2 c2) ∧ w'.cell? ⟨w.heap.size + 1, 11, none⟩ = some (.slice A3 n3 c3))) ∧ RB w' (w.heap.size + 1 + 1)) ∧ Sv w w')
      (first | with_reducible exact keptA_fil (w1 := w6) (by assumption) n0 nb _ _ _ _ _ _ _ _ _ _ _ _ | with_reducible exact SS0 | with_reducible assumption | with_reducible exact keptA (by assumption) hl | with_reducible exact keptA_draw (by assumption) | fail)
      (first
        | (go_at_call 65; (with_reducible refine (SE.out _ (by assumption)).mono ?_); rintro e w6 ⟨g1, u1, r1, g2, u2, r2, g3, u3, r3, rfl, hb1, hb2, hb3, hg, h12, h23, hl⟩; have y4 := hl; have HR := (keptA (by assumption) hl).1.2; have p0 := HR.cell 0 (by decide); have f0 := HR.free 0; have p1 := HR.cell 1 (by decide); have f1 := HR.free 1; have p2 := HR.cell 2 (by decide); have f2 := HR.free 2; have p3 := HR.cell 3 (by decide); have f3 := HR.free 3; have p4 := HR.cell 4 (by decide); have f4 := HR.free 4; have p5 := HR.cell 5 (by decide); have f5 := HR.free 5; have p6 := HR.cell 6 (by decide); have f6 := HR.free 6; have p7 := HR.cell 7 (by decide); have f7 := HR.free 7; have p8 := HR.cell 8 (by decide); have f8 := HR.free 8; have p9 := HR.cell 9 (by decide); have f9 := HR.free 9; have p10 := HR.cell 10 (by decide); have f10 := HR.free 10; have p11 := HR.cell 11 (by decide); have f11 := HR.free 11; clear HR)
        | fail)
    rename_i hH
    have a0 : Below w.heap.size w w1.drew := L1.out.drew
    have a4 := a0.trans (y4.mono a0.size)
    have RA : RB w6 (w.heap.size + 1 + 1) := (show RB w1.drew (w.heap.size + 1 + 1) from ⟨_, rfl, R1.out⟩).below y4
    have G4 : w.heap.size + 1 + 1 < g1 := Nat.lt_of_lt_of_le (show w.heap.size + 1 + 1 < w1.drew.heap.size from R1.out.lt) hg
    have F := Lib.hid (RA.fil (H) (.slice (some ⟨g1, 0, none⟩) k1 u1) (.slice (some ⟨g2, 0, none⟩) k2 u2) (.slice (some ⟨g3, 0, none⟩) k3 u3))
    have E := Lib.hid (filM_below a4 (g := w.heap.size + 1 + 1) (by omega) (H) (.slice (some ⟨g1, 0, none⟩) k1 u1) (.slice (some ⟨g2, 0, none⟩) k2 u2) (.slice (some ⟨g3, 0, none⟩) k3 u3))
    have I1 := Lib.hid (filM_other hb1 (g := w.heap.size + 1 + 1) (by omega) (H) (.slice (some ⟨g1, 0, none⟩) k1 u1) (.slice (some ⟨g2, 0, none⟩) k2 u2) (.slice (some ⟨g3, 0, none⟩) k3 u3))
    have I2 := Lib.hid (filM_other hb2 (g := w.heap.size + 1 + 1) (by omega) (H) (.slice (some ⟨g1, 0, none⟩) k1 u1) (.slice (some ⟨g2, 0, none⟩) k2 u2) (.slice (some ⟨g3, 0, none⟩) k3 u3))
    have I3 := Lib.hid (filM_other hb3 (g := w.heap.size + 1 + 1) (by omega) (H) (.slice (some ⟨g1, 0, none⟩) k1 u1) (.slice (some ⟨g2, 0, none⟩) k2 u2) (.slice (some ⟨g3, 0, none⟩) k3 u3))
    clear hH SS0 SE RA a0 a4 y4 hl hb1 hb2 hb3 hg R1 L1 p0 f0 p1 f1 p2 f2 p3 f3 p4 f4 p5 f5 p6 f6 p7 f7 p8 f8 p9 f9 p10 f10 p11 f11
    go_wp2
    exact bodyPost_ret (v := .agg #[.int .i64 H.id, .bool H.rp, .bool H.au, .bool H.ct, .bool H.wa, .bool H.ca, .int .i64 H.code, .string H.qn, .int .i64 H.qt, .slice (some ⟨g1, 0, none⟩) k1 u1, .slice (some ⟨g2, 0, none⟩) k2 u2, .slice (some ⟨g3, 0, none⟩) k3 u3]) (res1M rfl F.out rfl) rfl (HG.out _ _ ⟨g1, u1, r1, g2, u2, r2, g3, u3, r3, rfl, I1.out, I2.out, I3.out, by omega, h12, h23, E.out⟩)
end Go.Proofs.YtmkcjjgicinggaaGreatDoor.RatI

/- What PartsOf does in the program and in the model: it returns the number of labels. Condition: at most 400000000 bytes; for the program: the library's variable internal/bytealg.MaxLen holds an int. -/
namespace Go.Proofs.YtmkcjjgicinggaaGreatDoor.Parts
open Go.RowKit Go.Proofs.YtmkcjjgicinggaaGreatDoor.Mem Go.Proofs.YtmkcjjgicinggaaGreatDoor.MemS Go.Proofs.YtmkcjjgicinggaaGreatDoor.AppS Go.Proofs.YtmkcjjgicinggaaGreatDoor.Split Go.Proofs.YtmkcjjgicinggaaGreatDoor.Labels

set_option maxHeartbeats 1000000 in
theorem spec (s : ByteArray) (w : World) (hs : s.size ≤ 400000000) : Calls Tryz.prog 80 #[.string s] w fun e w' => e = .returned (.int .i64 ((Lab s).length : Int)) ∧ Below w.heap.size w w' := by
  have SP := Lib.hid (fun w => Labels.spec s w hs)
  generalize Lab s = L at *
  go_enter Tryz.func80, Tryz.ntmps80
  go_wp2_with fail
  refine (SP.out w).mono ?_
  rintro e w1 ⟨g, n, c, r, rfl, hm, hc, hg, hk, hl⟩
  have NL := Lib.hid hm
  have L1 := Lib.hid hl
  clear hm hg hk hl
  go_wp2
  go_ret
  rw [NL.out]
  exact ⟨rfl, L1.out⟩

set_option maxHeartbeats 1000000 in
theorem impl (s : ByteArray) (w : World) (he : Env w) (hs : s.size ≤ 400000000) : Calls Tryz.prog 210 #[.string s] w fun e w' => e = .returned (.int .i64 ((Lab s).length : Int)) ∧ Below w.heap.size w w' := by
  have SP := Lib.hid (Labels.impl s w he hs)
  clear he
  generalize Lab s = L at *
  go_enter Tryz.func210, Tryz.ntmps210
  go_wp2_with fail
  refine SP.out.mono ?_
  rintro e w1 ⟨g, n, c, r, rfl, hm, hc, hg, hk, hl⟩
  have NL := Lib.hid hm
  have L1 := Lib.hid hl
  clear hm hg hk hl
  go_wp2
  go_ret
  rw [NL.out]
  exact ⟨rfl, L1.out⟩
end Go.Proofs.YtmkcjjgicinggaaGreatDoor.Parts

/- What ZoneOf, ZoneAt and l12Posted do in the model. Condition: fewer than 400000001 zones and posts, at most 400000000 bytes in each name. -/
namespace Go.Proofs.YtmkcjjgicinggaaGreatDoor.ZonS
open Go.RowKit Go.Proofs.YtmkcjjgicinggaaGreatDoor.Mem Go.Proofs.YtmkcjjgicinggaaGreatDoor.MemR Go.Proofs.YtmkcjjgicinggaaGreatDoor.MemS Go.Proofs.YtmkcjjgicinggaaGreatDoor.MemZ Go.Proofs.YtmkcjjgicinggaaGreatDoor.MemF Go.Proofs.YtmkcjjgicinggaaGreatDoor.SetMath Go.Proofs.YtmkcjjgicinggaaGreatDoor.NameMath Go.Proofs.YtmkcjjgicinggaaGreatDoor.ForMath Go.Proofs.YtmkcjjgicinggaaGreatDoor.Split

theorem aps_len (zs : List Zn) : (aps zs).length = zs.length := List.length_map _

theorem aps_txt (zs : List Zn) (k : Nat) (h : k < zs.length) : txt (aps zs) k = zs[k].apex := by
  rw [txt_get (by rw [aps_len]; exact h)]
  simp [aps]

set_option maxHeartbeats 16000000 in
set_option maxRecDepth 100000 in
theorem zoneOf (own : Prop) (A : Option Addr) (n c : Nat) (zs : List Zn) (P : Option Addr) (m d : Nat) (nm : ByteArray) (w : World) (hs : Rz own w w.heap.size A n zs) (hn : n ≤ 400000000) (hz : ∀ z ∈ zs, z.apex.size ≤ 400000000) (hnm : nm.size ≤ 400000000) :
    Calls Tryz.prog 28 #[.agg #[.slice A n c, .slice P m d], .string nm] w fun e w' => e = .returned (.int .i64 (zo nm (fun _ => true) (aps zs))) ∧ Below w.heap.size w w' := by
  have mixed : Tryz.prog.follows .mixedOrders = true := by kernel_rfl
  have HS := Lib.hid hs
  have HZ := Lib.hid hz
  have HN := Lib.hid hnm
  have X0 := Lib.hid (fx_new w 27 (.slice A n c) (.slice P m d))
  have L0 := Lib.hid ((Below.refl w.heap.size w).alloc (Nat.le_refl _) (.cells #[.slice A n c, .slice P m d] 27))
  clear hs hz hnm
  go_enter Tryz.func28, Tryz.ntmps28
  go_wp2
  generalize w.alloc (.cells #[.slice A n c, .slice P m d] 27) = w1 at *
  go_loopw [5, 6] (fun a i wr => ∃ (k : Nat) (r : Int), k ≤ n ∧ i = .int .i64 k ∧ a = .int .i64 r ∧ Hid (Bs nm (fun _ => true) (aps zs) k r) ∧ Hid (Fx wr w.heap.size (.slice A n c) (.slice P m d)) ∧ Hid (Below w.heap.size w wr)) (fun _ i _ => n - (intOf i).toNat)
  case atStart => exact ⟨0, -1, Nat.zero_le _, rfl, rfl, bs_zero, X0.out, L0.out⟩
  case round =>
    clear X0 L0
    obtain ⟨k, r, hk, rfl, rfl, HB, HX, HL⟩ := hrel
    obtain ⟨x0, x1⟩ := HX.out
    by_cases hlt : k < n
    · obtain ⟨b, off, rfl, hbB, hcs⟩ := HS.out.2 (by omega)
      have hkl : k < zs.length := by rw [HS.out.1]; exact hlt
      obtain ⟨e0, _⟩ := (hcs k hkl).below HL.out hbB
      have ZK := Lib.hid (HZ.out _ (List.getElem_mem hkl))
      have TK := Lib.hid (aps_txt zs k hkl)
      have HU := Lib.hid (fun (W : World) => Under.spec nm zs[k].apex W HN.out ZK.out)
      have E0 := Lib.hid e0
      clear e0
      cases hu : Un nm zs[k].apex with
      | false =>
        rw [hu] at HU
        have HB2 := Lib.hid (bs_skip HB.out (fun c => by have := c.1; rw [TK.out, hu] at this; cases this))
        clear hu hcs HB TK
        generalize zs[k] = z at *
        go_upto_region 5 with (fail)
        have y0 : ∀ d os, (Sort.grow (redrawn wr d) os).cell? _ = some _ := cell_regrown x0
        have y2 : ∀ d os, (Sort.grow (redrawn wr d) os).cell? _ = some _ := cell_regrown E0.out
        clear x0 x1
        refine wp_region_quiet_below (by assumption) (by kernel_rfl) ?_
        repeat (go_big_quiet_step (first | (go_at_call 79; exact Calls.regrown_of (HU.out _))))
        refine wpQuiet_nil ?_
        intro w2 hw2
        have hb2 : Below wr.heap.size wr w2 := by obtain ⟨p, rfl⟩ := hw2; exact below_regrown _ _ _
        have L2 := Lib.hid (HL.out.trans (hb2.mono HL.out.size))
        have X2 := Lib.hid (HX.out.below hb2)
        clear hw2 y0 y2 hb2
        go_wp2
        go_roundw
        case rel => exact ⟨k + 1, r, by omega, by go_num, rfl, HB2.out, X2.out, L2.out⟩
        case measure => (simp [intOf] <;> omega)
      | true =>
        rw [hu] at HU
        have hcd : Cd nm (fun _ => true) (aps zs) k := ⟨by rw [TK.out]; exact hu, rfl⟩
        clear hu
        by_cases hr0 : r < 0
        · have HB2 := Lib.hid (bs_first HB.out hr0 hcd)
          clear hcs HB TK hcd
          generalize zs[k] = z at *
          go_upto_region 5 with (fail)
          have y0 : ∀ d os, (Sort.grow (redrawn wr d) os).cell? _ = some _ := cell_regrown x0
          have y2 : ∀ d os, (Sort.grow (redrawn wr d) os).cell? _ = some _ := cell_regrown E0.out
          clear x0 x1
          refine wp_region_quiet_below (by assumption) (by kernel_rfl) ?_
          repeat (go_big_quiet_step (first | (go_at_call 79; exact Calls.regrown_of (HU.out _))))
          refine wpQuiet_nil ?_
          intro w2 hw2
          have hb2 : Below wr.heap.size wr w2 := by obtain ⟨p, rfl⟩ := hw2; exact below_regrown _ _ _
          have L2 := Lib.hid (HL.out.trans (hb2.mono HL.out.size))
          have X2 := Lib.hid (HX.out.below hb2)
          clear hw2 y0 y2 hb2
          go_wp2
          go_roundw
          case rel => exact ⟨k + 1, k, by omega, by go_num, rfl, HB2.out, X2.out, L2.out⟩
          case measure => (simp [intOf] <;> omega)
        · obtain ⟨j, rfl⟩ : ∃ j : Nat, r = (j : Int) := ⟨r.toNat, by omega⟩
          have hj : j < n := by have := (bs_bound HB.out).2; omega
          have hjl : j < zs.length := by rw [HS.out.1]; exact hj
          obtain ⟨f0, _⟩ := (hcs j hjl).below HL.out hbB
          have ZJ := Lib.hid (HZ.out _ (List.getElem_mem hjl))
          have TJ := Lib.hid (aps_txt zs j hjl)
          have C1 := Lib.hid (fun (W : World) => Parts.spec zs[k].apex W ZK.out)
          have C2 := Lib.hid (fun (W : World) => Parts.spec zs[j].apex W ZJ.out)
          have PK : Hid (pts (txt (aps zs) k) = (Lab zs[k].apex).length) := show _ = _ by rw [TK.out]; rfl
          have PJ : Hid (pts (txt (aps zs) j) = (Lab zs[j].apex).length) := show _ = _ by rw [TJ.out]; rfl
          have F0 := Lib.hid f0
          clear f0 hcs TK TJ
          generalize zs[k] = z at *
          generalize zs[j] = y at *
          generalize (Lab z.apex).length = pa at *
          generalize (Lab y.apex).length = pb at *
          by_cases hgt : pb < pa
          · have HB2 := Lib.hid (bs_more HB.out (by omega) hcd (by rw [Int.toNat_natCast, PK.out, PJ.out]; exact hgt))
            have hgz : (pa : Int) > (pb : Int) := by omega
            clear HB hcd
            go_upto_region 5 with (fail)
            have y0 : ∀ d os, (Sort.grow (redrawn wr d) os).cell? _ = some _ := cell_regrown x0
            have y2 : ∀ d os, (Sort.grow (redrawn wr d) os).cell? _ = some _ := cell_regrown E0.out
            have y3 : ∀ d os, (Sort.grow (redrawn wr d) os).cell? _ = some _ := cell_regrown F0.out
            clear x0 x1
            refine wp_region_quiet_below (by assumption) (by kernel_rfl) ?_
            iterate 19 (go_big_quiet_step (first | (go_at_call 79; exact Calls.regrown_of (HU.out _)) | (go_at_call 80; exact Calls.regrown_of (C1.out _))))
            repeat (go_big_quiet_step (first | (go_at_call 80; exact Calls.regrown_of (C2.out _))))
            refine wpQuiet_nil ?_
            intro w2 hw2
            have hb2 : Below wr.heap.size wr w2 := by obtain ⟨p, rfl⟩ := hw2; exact below_regrown _ _ _
            have L2 := Lib.hid (HL.out.trans (hb2.mono HL.out.size))
            have X2 := Lib.hid (HX.out.below hb2)
            clear hw2 y0 y2 y3 hb2
            go_wp2
            go_roundw
            case rel => exact ⟨k + 1, k, by omega, by go_num, rfl, HB2.out, X2.out, L2.out⟩
            case measure => (simp [intOf] <;> omega)
          · have HB2 := Lib.hid (bs_less HB.out (by omega) (by rw [Int.toNat_natCast, PK.out, PJ.out]; exact hgt))
            have hgz : ¬ (pa : Int) > (pb : Int) := by omega
            clear HB hcd
            go_upto_region 5 with (fail)
            have y0 : ∀ d os, (Sort.grow (redrawn wr d) os).cell? _ = some _ := cell_regrown x0
            have y2 : ∀ d os, (Sort.grow (redrawn wr d) os).cell? _ = some _ := cell_regrown E0.out
            have y3 : ∀ d os, (Sort.grow (redrawn wr d) os).cell? _ = some _ := cell_regrown F0.out
            clear x0 x1
            refine wp_region_quiet_below (by assumption) (by kernel_rfl) ?_
            iterate 19 (go_big_quiet_step (first | (go_at_call 79; exact Calls.regrown_of (HU.out _)) | (go_at_call 80; exact Calls.regrown_of (C1.out _))))
            repeat (go_big_quiet_step (first | (go_at_call 80; exact Calls.regrown_of (C2.out _))))
            refine wpQuiet_nil ?_
            intro w2 hw2
            have hb2 : Below wr.heap.size wr w2 := by obtain ⟨p, rfl⟩ := hw2; exact below_regrown _ _ _
            have L2 := Lib.hid (HL.out.trans (hb2.mono HL.out.size))
            have X2 := Lib.hid (HX.out.below hb2)
            clear hw2 y0 y2 y3 hb2
            go_wp2
            go_roundw
            case rel => exact ⟨k + 1, j, by omega, by go_num, rfl, HB2.out, X2.out, L2.out⟩
            case measure => (simp [intOf] <;> omega)
    · obtain rfl : n = k := by omega
      have HF := Lib.hid (zo_of (by rw [aps_len, HS.out.1]; exact HB.out))
      go_wp2
      go_ret
      exact ⟨by rw [HF.out]; rfl, HL.out⟩

theorem psd_take (addr : Int) (ps : List Pst) (a : ByteArray) (k : Nat) (h : k < ps.length) : psd addr (ps.take (k + 1)) a = (psd addr (ps.take k) a || (decide (ps[k].addr = addr) && ps[k].apex.data.toList == a.data.toList)) := by
  unfold psd
  rw [List.take_succ_eq_append_getElem h, List.any_append]
  simp

theorem psd_hit (addr : Int) (ps : List Pst) (a : ByteArray) (k : Nat) (h : k < ps.length) (e1 : ps[k].addr = addr) (e2 : ps[k].apex = a) : psd addr ps a = true := psd_iff.2 ⟨ps[k], List.getElem_mem h, e1, e2⟩

theorem bytes_ne {a b : ByteArray} (h : ¬ a = b) : (a.data.toList == b.data.toList) = false := by
  cases e : (a.data.toList == b.data.toList) with
  | false => rfl
  | true => exact absurd ((same_iff _ _).1 e) h

set_option maxHeartbeats 4000000 in
theorem posted (own : Prop) (A : Option Addr) (n c : Nat) (zs : List Zn) (P : Option Addr) (m d : Nat) (ps : List Pst) (addr : Int) (a : ByteArray) (w : World) (hs : Sf own w A n zs P m ps) (hm : m ≤ 400000000) :
    Calls Tryz.prog 82 #[.agg #[.slice A n c, .slice P m d], .int .i64 addr, .string a] w fun e w' => e = .returned (.bool (psd addr ps a)) ∧ Below w.heap.size w w' := by
  have HP := Lib.hid hs.2
  have X0 := Lib.hid (fx_new w 27 (.slice A n c) (.slice P m d))
  have L0 := Lib.hid ((Below.refl w.heap.size w).alloc (Nat.le_refl _) (.cells #[.slice A n c, .slice P m d] 27))
  clear hs
  go_enter Tryz.func82, Tryz.ntmps82
  go_wp2
  generalize w.alloc (.cells #[.slice A n c, .slice P m d] 27) = w1 at *
  obtain ⟨x0, x1⟩ := X0.out
  go_loop [7] (fun i => ∃ k : Nat, k ≤ m ∧ i = .int .i64 k ∧ Hid (psd addr (ps.take k) a = false)) (fun i => m - (intOf i).toNat)
  case atStart => exact ⟨0, Nat.zero_le _, rfl, by show _ = _; simp [psd]⟩
  case round =>
    obtain ⟨k, hk, rfl, HF⟩ := hrel
    by_cases hlt : k < m
    · obtain ⟨b, off, rfl, hbB, hcs⟩ := HP.out.2 (by omega)
      have hkl : k < ps.length := by rw [HP.out.1]; exact hlt
      obtain ⟨e0, e1⟩ := (hcs k hkl).below L0.out hbB
      have HT := Lib.hid (psd_take addr ps a k hkl)
      have HH := Lib.hid (psd_hit addr ps a k hkl)
      clear hcs
      generalize ps[k] = p at *
      by_cases had : p.addr = addr
      · have q0 : (p.addr == addr) = true := by simpa using had
        by_cases hap : p.apex = a
        · have HR := Lib.hid (HH.out had hap)
          have q1 : (p.apex.toList == a.toList) = true := by rw [hap]; simp
          have q2 : (p.apex.data.toList == a.data.toList) = true := by rw [hap]; simp
          clear had hap
          go_wp2
          go_ret
          exact ⟨by rw [HR.out]; rfl, L0.out⟩
        · have q2 : (p.apex.data.toList == a.data.toList) = false := bytes_ne hap
          have q1 : (p.apex.toList == a.toList) = false := by rw [ByteArray.toList_eq, ByteArray.toList_eq]; exact q2
          have HF2 : Hid (psd addr (ps.take (k + 1)) a = false) := show _ = _ by rw [HT.out, HF.out, q2]; simp
          clear had hap
          go_wp2
          go_round
          case rel => exact ⟨k + 1, by omega, by go_num, HF2.out⟩
          case measure => (simp [intOf] <;> omega)
      · have q0 : (p.addr == addr) = false := by simpa using had
        have HF2 : Hid (psd addr (ps.take (k + 1)) a = false) := show _ = _ by rw [HT.out, HF.out, decide_eq_false had]; rfl
        clear had
        go_wp2
        go_round
        case rel => exact ⟨k + 1, by omega, by go_num, HF2.out⟩
        case measure => (simp [intOf] <;> omega)
    · obtain rfl : m = k := by omega
      have HR : Hid (psd addr ps a = false) := show _ = _ by have := HF.out; rwa [take_all HP.out.1] at this
      go_wp2
      go_ret
      exact ⟨by rw [HR.out]; rfl, L0.out⟩

set_option maxHeartbeats 16000000 in
set_option maxRecDepth 100000 in
theorem zoneAt (own : Prop) (A : Option Addr) (n c : Nat) (zs : List Zn) (P : Option Addr) (m d : Nat) (ps : List Pst) (addr : Int) (nm : ByteArray) (w : World) (hs : Sf own w A n zs P m ps) (hn : n ≤ 400000000) (hm : m ≤ 400000000) (hz : ∀ z ∈ zs, z.apex.size ≤ 400000000) (hnm : nm.size ≤ 400000000) :
    Calls Tryz.prog 31 #[.agg #[.slice A n c, .slice P m d], .int .i64 addr, .string nm] w fun e w' => e = .returned (.int .i64 (zo nm (psd addr ps) (aps zs))) ∧ Below w.heap.size w w' := by
  have mixed : Tryz.prog.follows .mixedOrders = true := by kernel_rfl
  have HF0 := Lib.hid hs
  have HS := Lib.hid hs.1
  have HZ := Lib.hid hz
  have HN := Lib.hid hnm
  have X0 := Lib.hid (fx_new w 27 (.slice A n c) (.slice P m d))
  have L0 := Lib.hid ((Below.refl w.heap.size w).alloc (Nat.le_refl _) (.cells #[.slice A n c, .slice P m d] 27))
  clear hs hz hnm
  go_enter Tryz.func31, Tryz.ntmps31
  go_wp2
  generalize w.alloc (.cells #[.slice A n c, .slice P m d] 27) = w1 at *
  go_loopw [7, 8] (fun a i wr => ∃ (k : Nat) (r : Int), k ≤ n ∧ i = .int .i64 k ∧ a = .int .i64 r ∧ Hid (Bs nm (psd addr ps) (aps zs) k r) ∧ Hid (Fx wr w.heap.size (.slice A n c) (.slice P m d)) ∧ Hid (Below w.heap.size w wr)) (fun _ i _ => n - (intOf i).toNat)
  case atStart => exact ⟨0, -1, Nat.zero_le _, rfl, rfl, bs_zero, X0.out, L0.out⟩
  case round =>
    clear X0 L0
    obtain ⟨k, r, hk, rfl, rfl, HB, HX, HL⟩ := hrel
    obtain ⟨x0, x1⟩ := HX.out
    by_cases hlt : k < n
    · obtain ⟨b, off, rfl, hbB, hcs⟩ := HS.out.2 (by omega)
      have hkl : k < zs.length := by rw [HS.out.1]; exact hlt
      obtain ⟨e0, _⟩ := (hcs k hkl).below HL.out hbB
      have ZK := Lib.hid (HZ.out _ (List.getElem_mem hkl))
      have TK := Lib.hid (aps_txt zs k hkl)
      have HU := Lib.hid (fun (W : World) => Under.spec nm zs[k].apex W HN.out ZK.out)
      have HPo := Lib.hid (fun (W : World) (hW : Below wr.heap.size wr W) => posted own (some ⟨b, off, none⟩) n c zs P m d ps addr zs[k].apex W (HF0.out.on (HL.out.trans (hW.mono HL.out.size))) hm)
      have CD : Hid (Cd nm (psd addr ps) (aps zs) k ↔ Un nm zs[k].apex = true ∧ psd addr ps zs[k].apex = true) := show _ ↔ _ by unfold Cd; rw [TK.out]
      by_cases hj0 : 0 ≤ r
      · obtain ⟨j, rfl⟩ : ∃ j : Nat, r = (j : Int) := ⟨r.toNat, by omega⟩
        have hj : j < n := by have := (bs_bound HB.out).2; omega
        have hjl : j < zs.length := by rw [HS.out.1]; exact hj
        obtain ⟨f0, _⟩ := (hcs j hjl).below HL.out hbB
        have ZJ := Lib.hid (HZ.out _ (List.getElem_mem hjl))
        have TJ := Lib.hid (aps_txt zs j hjl)
        have C1 := Lib.hid (fun (W : World) => Parts.spec zs[k].apex W ZK.out)
        have C2 := Lib.hid (fun (W : World) => Parts.spec zs[j].apex W ZJ.out)
        have PK : Hid (pts (txt (aps zs) k) = (Lab zs[k].apex).length) := show _ = _ by rw [TK.out]; rfl
        have PJ : Hid (pts (txt (aps zs) j) = (Lab zs[j].apex).length) := show _ = _ by rw [TJ.out]; rfl
        clear hcs TK TJ
        generalize zs[k] = z at *
        generalize zs[j] = y at *
        generalize (Lab z.apex).length = pa at *
        generalize (Lab y.apex).length = pb at *
        have hneg : ¬ (j : Int) < 0 := by omega
        cases hp : psd addr ps z.apex with
        | false =>
          have HB2 := Lib.hid (bs_skip HB.out (fun e => by have := (CD.out.1 e).2; rw [hp] at this; cases this))
          rw [hp] at HPo
          clear hp CD HB
          go_upto_region 6 with (fail)
          have y0 : ∀ d os, (Sort.grow (redrawn wr d) os).cell? _ = some _ := cell_regrown x0
          have y1 : ∀ d os, (Sort.grow (redrawn wr d) os).cell? _ = some _ := cell_regrown x1
          clear x0 x1 e0 f0
          refine wp_region_quiet_below (by assumption) (by kernel_rfl) ?_
          repeat (go_big_quiet_step (first | (go_at_call 82; exact Calls.regrown_of (HPo.out _ (below_regrown _ _ _)))))
          refine wpQuiet_nil ?_
          intro w2 hw2
          have hb2 : Below wr.heap.size wr w2 := by obtain ⟨p, rfl⟩ := hw2; exact below_regrown _ _ _
          have L2 := Lib.hid (HL.out.trans (hb2.mono HL.out.size))
          have X2 := Lib.hid (HX.out.below hb2)
          clear hw2 y0 y1 hb2
          go_wp2
          go_roundw
          case rel => exact ⟨k + 1, j, by omega, by go_num, rfl, HB2.out, X2.out, L2.out⟩
          case measure => (simp [intOf] <;> omega)
        | true =>
          rw [hp] at HPo
          cases hu : Un nm z.apex with
          | false =>
            have HB2 := Lib.hid (bs_skip HB.out (fun e => by have := (CD.out.1 e).1; rw [hu] at this; cases this))
            rw [hu] at HU
            clear hu hp CD HB
            go_upto_region 6 with (fail)
            have y0 : ∀ d os, (Sort.grow (redrawn wr d) os).cell? _ = some _ := cell_regrown x0
            have y1 : ∀ d os, (Sort.grow (redrawn wr d) os).cell? _ = some _ := cell_regrown x1
            clear x0 x1 e0 f0
            refine wp_region_quiet_below (by assumption) (by kernel_rfl) ?_
            repeat (go_big_quiet_step (first | (go_at_call 82; exact Calls.regrown_of (HPo.out _ (below_regrown _ _ _))) | (go_at_call 79; exact Calls.regrown_of (HU.out _))))
            refine wpQuiet_nil ?_
            intro w2 hw2
            have hb2 : Below wr.heap.size wr w2 := by obtain ⟨p, rfl⟩ := hw2; exact below_regrown _ _ _
            have L2 := Lib.hid (HL.out.trans (hb2.mono HL.out.size))
            have X2 := Lib.hid (HX.out.below hb2)
            clear hw2 y0 y1 hb2
            go_wp2
            go_roundw
            case rel => exact ⟨k + 1, j, by omega, by go_num, rfl, HB2.out, X2.out, L2.out⟩
            case measure => (simp [intOf] <;> omega)
          | true =>
            have hcd : Cd nm (psd addr ps) (aps zs) k := CD.out.2 ⟨hu, hp⟩
            rw [hu] at HU
            clear hu hp CD
            by_cases hgt : pb < pa
            · have HB2 := Lib.hid (bs_more HB.out (by omega) hcd (by rw [Int.toNat_natCast, PK.out, PJ.out]; exact hgt))
              have hgz : (pa : Int) > (pb : Int) := by omega
              clear HB hcd
              go_upto_region 6 with (fail)
              have y0 : ∀ d os, (Sort.grow (redrawn wr d) os).cell? _ = some _ := cell_regrown x0
              have y1 : ∀ d os, (Sort.grow (redrawn wr d) os).cell? _ = some _ := cell_regrown x1
              have y3 : ∀ d os, (Sort.grow (redrawn wr d) os).cell? _ = some _ := cell_regrown f0
              clear x0 x1 e0 f0
              refine wp_region_quiet_below (by assumption) (by kernel_rfl) ?_
              iterate 15 (go_big_quiet_step (first | (go_at_call 82; exact Calls.regrown_of (HPo.out _ (below_regrown _ _ _))) | (go_at_call 79; exact Calls.regrown_of (HU.out _)) | (go_at_call 80; exact Calls.regrown_of (C1.out _))))
              repeat (go_big_quiet_step (first | (go_at_call 80; exact Calls.regrown_of (C2.out _))))
              refine wpQuiet_nil ?_
              intro w2 hw2
              have hb2 : Below wr.heap.size wr w2 := by obtain ⟨p, rfl⟩ := hw2; exact below_regrown _ _ _
              have L2 := Lib.hid (HL.out.trans (hb2.mono HL.out.size))
              have X2 := Lib.hid (HX.out.below hb2)
              clear hw2 y0 y1 y3 hb2
              go_wp2
              go_roundw
              case rel => exact ⟨k + 1, k, by omega, by go_num, rfl, HB2.out, X2.out, L2.out⟩
              case measure => (simp [intOf] <;> omega)
            · have HB2 := Lib.hid (bs_less HB.out (by omega) (by rw [Int.toNat_natCast, PK.out, PJ.out]; exact hgt))
              have hgz : ¬ (pa : Int) > (pb : Int) := by omega
              clear HB hcd
              go_upto_region 6 with (fail)
              have y0 : ∀ d os, (Sort.grow (redrawn wr d) os).cell? _ = some _ := cell_regrown x0
              have y1 : ∀ d os, (Sort.grow (redrawn wr d) os).cell? _ = some _ := cell_regrown x1
              have y3 : ∀ d os, (Sort.grow (redrawn wr d) os).cell? _ = some _ := cell_regrown f0
              clear x0 x1 e0 f0
              refine wp_region_quiet_below (by assumption) (by kernel_rfl) ?_
              iterate 15 (go_big_quiet_step (first | (go_at_call 82; exact Calls.regrown_of (HPo.out _ (below_regrown _ _ _))) | (go_at_call 79; exact Calls.regrown_of (HU.out _)) | (go_at_call 80; exact Calls.regrown_of (C1.out _))))
              repeat (go_big_quiet_step (first | (go_at_call 80; exact Calls.regrown_of (C2.out _))))
              refine wpQuiet_nil ?_
              intro w2 hw2
              have hb2 : Below wr.heap.size wr w2 := by obtain ⟨p, rfl⟩ := hw2; exact below_regrown _ _ _
              have L2 := Lib.hid (HL.out.trans (hb2.mono HL.out.size))
              have X2 := Lib.hid (HX.out.below hb2)
              clear hw2 y0 y1 y3 hb2
              go_wp2
              go_roundw
              case rel => exact ⟨k + 1, j, by omega, by go_num, rfl, HB2.out, X2.out, L2.out⟩
              case measure => (simp [intOf] <;> omega)
      · have hr0 : r < 0 := by omega
        clear hj0 hcs TK
        generalize zs[k] = z at *
        cases hp : psd addr ps z.apex with
        | false =>
          have HB2 := Lib.hid (bs_skip HB.out (fun e => by have := (CD.out.1 e).2; rw [hp] at this; cases this))
          rw [hp] at HPo
          clear hp CD HB
          go_upto_region 6 with (fail)
          have y0 : ∀ d os, (Sort.grow (redrawn wr d) os).cell? _ = some _ := cell_regrown x0
          have y1 : ∀ d os, (Sort.grow (redrawn wr d) os).cell? _ = some _ := cell_regrown x1
          clear x0 x1 e0
          refine wp_region_quiet_below (by assumption) (by kernel_rfl) ?_
          repeat (go_big_quiet_step (first | (go_at_call 82; exact Calls.regrown_of (HPo.out _ (below_regrown _ _ _)))))
          refine wpQuiet_nil ?_
          intro w2 hw2
          have hb2 : Below wr.heap.size wr w2 := by obtain ⟨p, rfl⟩ := hw2; exact below_regrown _ _ _
          have L2 := Lib.hid (HL.out.trans (hb2.mono HL.out.size))
          have X2 := Lib.hid (HX.out.below hb2)
          clear hw2 y0 y1 hb2
          go_wp2
          go_roundw
          case rel => exact ⟨k + 1, r, by omega, by go_num, rfl, HB2.out, X2.out, L2.out⟩
          case measure => (simp [intOf] <;> omega)
        | true =>
          rw [hp] at HPo
          cases hu : Un nm z.apex with
          | false =>
            have HB2 := Lib.hid (bs_skip HB.out (fun e => by have := (CD.out.1 e).1; rw [hu] at this; cases this))
            rw [hu] at HU
            clear hu hp CD HB
            go_upto_region 6 with (fail)
            have y0 : ∀ d os, (Sort.grow (redrawn wr d) os).cell? _ = some _ := cell_regrown x0
            have y1 : ∀ d os, (Sort.grow (redrawn wr d) os).cell? _ = some _ := cell_regrown x1
            clear x0 x1 e0
            refine wp_region_quiet_below (by assumption) (by kernel_rfl) ?_
            repeat (go_big_quiet_step (first | (go_at_call 82; exact Calls.regrown_of (HPo.out _ (below_regrown _ _ _))) | (go_at_call 79; exact Calls.regrown_of (HU.out _))))
            refine wpQuiet_nil ?_
            intro w2 hw2
            have hb2 : Below wr.heap.size wr w2 := by obtain ⟨p, rfl⟩ := hw2; exact below_regrown _ _ _
            have L2 := Lib.hid (HL.out.trans (hb2.mono HL.out.size))
            have X2 := Lib.hid (HX.out.below hb2)
            clear hw2 y0 y1 hb2
            go_wp2
            go_roundw
            case rel => exact ⟨k + 1, r, by omega, by go_num, rfl, HB2.out, X2.out, L2.out⟩
            case measure => (simp [intOf] <;> omega)
          | true =>
            have HB2 := Lib.hid (bs_first HB.out hr0 (CD.out.2 ⟨hu, hp⟩))
            rw [hu] at HU
            clear hu hp CD HB
            go_upto_region 6 with (fail)
            have y0 : ∀ d os, (Sort.grow (redrawn wr d) os).cell? _ = some _ := cell_regrown x0
            have y1 : ∀ d os, (Sort.grow (redrawn wr d) os).cell? _ = some _ := cell_regrown x1
            clear x0 x1 e0
            refine wp_region_quiet_below (by assumption) (by kernel_rfl) ?_
            repeat (go_big_quiet_step (first | (go_at_call 82; exact Calls.regrown_of (HPo.out _ (below_regrown _ _ _))) | (go_at_call 79; exact Calls.regrown_of (HU.out _))))
            refine wpQuiet_nil ?_
            intro w2 hw2
            have hb2 : Below wr.heap.size wr w2 := by obtain ⟨p, rfl⟩ := hw2; exact below_regrown _ _ _
            have L2 := Lib.hid (HL.out.trans (hb2.mono HL.out.size))
            have X2 := Lib.hid (HX.out.below hb2)
            clear hw2 y0 y1 hb2
            go_wp2
            go_roundw
            case rel => exact ⟨k + 1, k, by omega, by go_num, rfl, HB2.out, X2.out, L2.out⟩
            case measure => (simp [intOf] <;> omega)
    · obtain rfl : n = k := by omega
      have HF := Lib.hid (zo_of (by rw [aps_len, HS.out.1]; exact HB.out))
      go_wp2
      go_ret
      exact ⟨by rw [HF.out]; rfl, HL.out⟩
end Go.Proofs.YtmkcjjgicinggaaGreatDoor.ZonS

/- What AnswerIn does in the model: a new slice of the answers. Condition: fewer than 400000001 records, no name of more than 400000000 bytes. -/
namespace Go.Proofs.YtmkcjjgicinggaaGreatDoor.AnsS
open Go.RowKit Go.Proofs.YtmkcjjgicinggaaGreatDoor.Mem Go.Proofs.YtmkcjjgicinggaaGreatDoor.MemR Go.Proofs.YtmkcjjgicinggaaGreatDoor.SetMath Go.Proofs.YtmkcjjgicinggaaGreatDoor.NameMath Go.Proofs.YtmkcjjgicinggaaGreatDoor.ZoneMath Go.Proofs.YtmkcjjgicinggaaGreatDoor.ServeMath Go.Proofs.YtmkcjjgicinggaaGreatDoor.MemZ Go.Proofs.YtmkcjjgicinggaaGreatDoor.MemM Go.Proofs.YtmkcjjgicinggaaGreatDoor.Wt Go.Proofs.YtmkcjjgicinggaaGreatDoor.KindS 

set_option maxHeartbeats 8000000 in
theorem spec (s nm : ByteArray) (ty : Int) (b0 o0 n c : Nat) (l : List Rec) (w : World) (hs : Sr w w.heap.size (some ⟨b0, o0, none⟩) n l) (hn : n ≤ 400000000) (hm : s.size ≤ 400000000) (hq : nm.size ≤ 400000000) (hz : ∀ r ∈ l, r.name.size ≤ 400000000) :
    Calls Tryz.prog 137 #[.agg #[.string s, .slice (some ⟨b0, o0, none⟩) n c], .agg #[.string nm, .int .i64 ty]] w (GivesL w (anl (kd s nm ty l) nm ty l)) := by
  obtain ⟨⟨hx, hy⟩, hl0⟩ := two w s nm ty (.slice (some ⟨b0, o0, none⟩) n c) 37 29
  have X0 := Lib.hid hx
  have Y0 := Lib.hid hy
  have L0 := Lib.hid hl0
  have S0 := Lib.hid (hs.on hl0)
  have KI := Lib.hid (fun W hW => KindS.spec s nm ty b0 o0 n c l W hW (by omega) hm hq hz)
  have AS := Lib.hid (fun W hW => SetS.spec nm 5 b0 o0 n c l W hW hn)
  have TS := Lib.hid (fun W hW => SetS.spec nm ty b0 o0 n c l W hW hn)
  clear hs hz hx hy hl0
  generalize kd s nm ty l = k at *
  obtain ⟨x0, x1⟩ := X0.out
  obtain ⟨y0, y1⟩ := Y0.out
  go_enter Tryz.func137, Tryz.ntmps137
  go_wp2_with fail
  refine (KI.out _ S0.out).mono ?_
  rintro e w1 ⟨rfl, hl⟩
  have X1 := Lib.hid (X0.out.below hl)
  have Y1 := Lib.hid (Y0.out.below hl)
  have S1 := Lib.hid (S0.out.on hl)
  have L1 := Lib.hid (L0.out.trans (hl.mono L0.out.size))
  clear hl KI X0 Y0 S0 L0 x0 x1 y0 y1
  obtain ⟨x0, x1⟩ := X1.out
  obtain ⟨y0, y1⟩ := Y1.out
  by_cases h2 : k = 2
  · have HA : Hid (anl k nm ty l = sf nm 5 l) := if_pos h2
    subst h2
    go_wp2_with fail
    refine (AS.out _ S1.out).mono ?_
    rintro e w2 ⟨g, m, cp, r, rfl, hm2, hc2, hg2, hb2, hl⟩
    have H2 := Lib.hid (And.intro hm2 (And.intro hc2 (And.intro (Nat.le_trans L1.out.size hg2) hb2)))
    have L2 := Lib.hid (L1.out.trans (hl.mono L1.out.size))
    clear hl hm2 hc2 hg2 hb2
    go_wp2
    go_ret
    exact ⟨g, m, cp, r, rfl, by rw [HA.out]; exact H2.out.1, H2.out.2.1, H2.out.2.2.1, by rw [HA.out]; exact H2.out.2.2.2, L2.out⟩
  · have t2 : (k == 2) = false := by simpa using h2
    by_cases h3 : k = 3
    · have HA : Hid (anl k nm ty l = sf nm ty l) := by show _ = _; unfold anl; rw [if_neg h2, if_pos h3]
      subst h3
      go_wp2_with fail
      refine (TS.out _ S1.out).mono ?_
      rintro e w2 ⟨g, m, cp, r, rfl, hm2, hc2, hg2, hb2, hl⟩
      have H2 := Lib.hid (And.intro hm2 (And.intro hc2 (And.intro (Nat.le_trans L1.out.size hg2) hb2)))
      have L2 := Lib.hid (L1.out.trans (hl.mono L1.out.size))
      clear hl hm2 hc2 hg2 hb2
      go_wp2
      go_ret
      exact ⟨g, m, cp, r, rfl, by rw [HA.out]; exact H2.out.1, H2.out.2.1, H2.out.2.2.1, by rw [HA.out]; exact H2.out.2.2.2, L2.out⟩
    · have t3 : (k == 3) = false := by simpa using h3
      have HA : Hid (anl k nm ty l = []) := by show _ = _; unfold anl; rw [if_neg h2, if_neg h3]
      clear h2 h3
      have B2 := Lib.hid (AppR.owns_new w1)
      have L2 := Lib.hid (L1.out.trans (((Below.refl w1.heap.size w1).alloc (Nat.le_refl _) (.cells #[] 93)).mono L1.out.size))
      have N2 := Lib.hid (heap_alloc_new w1 (.cells #[] 93))
      have G2 : Hid (w.heap.size ≤ w1.heap.size) := L1.out.size
      go_wp2
      go_ret
      exact ⟨w1.heap.size, 0, 0, [], rfl, by rw [HA.out]; rfl, Nat.le_refl _, G2.out, by rw [HA.out]; exact N2.out, L2.out⟩

end Go.Proofs.YtmkcjjgicinggaaGreatDoor.AnsS

/- What Glue does in the model: the addresses of the hosts, in their order. Condition: at most 1048576 records and as many hosts (so the result may have many more). -/
namespace Go.Proofs.YtmkcjjgicinggaaGreatDoor.GlueS
open Go.RowKit Go.Proofs.YtmkcjjgicinggaaGreatDoor.Mem Go.Proofs.YtmkcjjgicinggaaGreatDoor.MemR Go.Proofs.YtmkcjjgicinggaaGreatDoor.SetMath Go.Proofs.YtmkcjjgicinggaaGreatDoor.ZoneMath Go.Proofs.YtmkcjjgicinggaaGreatDoor.MemZ Go.Proofs.YtmkcjjgicinggaaGreatDoor.MemS Go.Proofs.YtmkcjjgicinggaaGreatDoor.AppR Go.Proofs.YtmkcjjgicinggaaGreatDoor.Wt

/-- append of records as one step of a region that draws, onto a row of the call's own. -/
theorem step_append_recs {ops : Array Oper} {o : Oper} {a : Act} {w : World} {K : Act → World → Prop} {Q : Exit → Act → World → Prop} {E : Prop} (hgd : o.guard = none) (s x : Operand)
    (ho : o.op = .call { callee := .builtin .append, args := #[s, x], argTypes := #[35, 35] })
    (base g n cap : Nat) (L : List Rec) (hs : a.eval s = .slice (some ⟨g, 0, none⟩) n cap) (hown : w.ownsRow base 93 6 (.slice (some ⟨g, 0, none⟩) n cap) n (fl L))
    (b off m c B : Nat) (l : List Rec) (hx : a.eval x = .slice (some ⟨b, off, none⟩) m c) (hl : Sr w B (some ⟨b, off, none⟩) m l)
    (hnm : n + m ≤ 1900000000000) (hbase : base ≤ w.heap.size)
    (h : ∀ g' cap' w', w'.ownsRow base 93 6 (.slice (some ⟨g', 0, none⟩) (n + m) cap') (n + m) (fl (L ++ l)) → w.grownBy w' (some g) → K (a.put o.dst (.slice (some ⟨g', 0, none⟩) (n + m) cap')) w') :
    if Region.wanted o (yielded ops a.tmps) = true then Oper.wp Tryz.prog o a w K Q else E := by
  have hw : Region.wanted o (yielded ops a.tmps) = true := by simp [Region.wanted, hgd]
  rw [if_pos hw]
  obtain ⟨i0, hi, hz0, hz1, hz2⟩ := info_parts CopyR.info
  exact wp_append_own w s x 35 ho base 93 i0 _ 6 72 Tryz.underlying35 hi hz0 hz1 hz2 rfl (by decide) _ n (fl L) hs hown ⟨b, off, none⟩ m c (fl l) hx (by rw [fl_len, hl.1]) (cells_of hl) (one_fl l) (by unfold maxLen; omega) (by omega) hbase
    (fun v' w' h1 h2 h3 => by
      rcases h1.2 with ⟨hv, _⟩ | ⟨g', cap', cur, hv, _⟩
      · have := (h3.1 hv).1
        cases this
      · subst hv
        exact h g' cap' w' (by rw [fl_append]; exact h1) h2)

section
variable {w0 w w' : World} {g : Nat} {s : ByteArray} {x v : Value} {p : Addr}
theorem keptH (m : (Zx w g s x ∧ w.cell? p = some v) ∧ Svz w0 w) (hl : Below w.heap.size w w') : (Zx w' g s x ∧ w'.cell? p = some v) ∧ Svz w0 w' := ⟨⟨m.1.1.below hl, (hl.cell (World.block_lt_of_cell? _ _ m.1.2)).trans m.1.2⟩, m.2.trans (hl.mono m.2.size)⟩
theorem keptH_draw (m : (Zx w g s x ∧ w.cell? p = some v) ∧ Svz w0 w) : (Zx w.drew g s x ∧ w.drew.cell? p = some v) ∧ Svz w0 w.drew := keptH m ((Below.refl _ _).drew)
end

set_option maxRecDepth 100000 in
set_option maxHeartbeats 8000000 in
theorem spec (s : ByteArray) (b0 o0 n c : Nat) (l : List Rec) (b1 o1 nh ch : Nat) (H : List ByteArray) (w : World) (hs : Sr w w.heap.size (some ⟨b0, o0, none⟩) n l) (hh : Ss w w.heap.size (some ⟨b1, o1, none⟩) nh H) (hn : n ≤ 1048576) (hnh : nh ≤ 1048576) :
    Calls Tryz.prog 189 #[.agg #[.string s, .slice (some ⟨b0, o0, none⟩) n c], .slice (some ⟨b1, o1, none⟩) nh ch] w (GivesL w (gl H l)) := by
  have Z0 := Lib.hid ((zx_new w 37 s (.slice (some ⟨b0, o0, none⟩) n c)).alloc (.cells #[] 93))
  have L0 := Lib.hid (((Below.refl w.heap.size w).alloc (Nat.le_refl _) (.cells #[.string s, .slice (some ⟨b0, o0, none⟩) n c] 37)).alloc (by simp) (.cells #[] 93))
  have P0 := Lib.hid (owns_new (w.alloc (.cells #[.string s, .slice (some ⟨b0, o0, none⟩) n c] 37)))
  rw [show (w.alloc (.cells #[.string s, .slice (some ⟨b0, o0, none⟩) n c] 37)).heap.size = w.heap.size + 1 by simp] at P0
  have HS := Lib.hid hs
  have HH := Lib.hid hh
  clear hs hh
  go_enter Tryz.func189, Tryz.ntmps189
  go_wp2
  generalize (w.alloc (.cells #[.string s, .slice (some ⟨b0, o0, none⟩) n c] 37)).alloc (.cells #[] 93) = w0 at *
  go_loopw [5, 6] (fun out i wr => ∃ k g m cap : Nat, k ≤ nh ∧ m ≤ k * n ∧ i = .int .i64 k ∧ out = .slice (some ⟨g, 0, none⟩) m cap ∧ Hid (wr.ownsRow (w.heap.size + 1) 93 6 (.slice (some ⟨g, 0, none⟩) m cap) m (fl (gl (H.take k) l))) ∧ Hid (Zx wr w.heap.size s (.slice (some ⟨b0, o0, none⟩) n c)) ∧ Hid (Below w.heap.size w wr)) (fun _ i _ => nh - (intOf i).toNat)
  case atStart => exact ⟨0, w.heap.size + 1, 0, 0, Nat.zero_le _, Nat.zero_le _, rfl, rfl, P0.out, Z0.out, L0.out⟩
  case round =>
    clear Z0 L0 P0
    obtain ⟨k, g, m, cap, hk, hm, rfl, rfl, HO, HX, HL⟩ := hrel
    by_cases hlt : k < nh
    · obtain ⟨b, off, hA, hbB, hcs⟩ := HH.out.2 (by omega)
      obtain ⟨rfl, rfl⟩ : b1 = b ∧ o1 = off := by simp at hA; exact hA
      clear hA
      have hkl : k < H.length := by rw [HH.out.1]; exact hlt
      have e0 : wr.cell? ⟨b1, o1 + k, none⟩ = some (.string H[k]) := (HL.out.cell (p := ⟨b1, o1 + k, none⟩) hbB).trans (hcs k hkl)
      have YH := Lib.hid (hcs k hkl)
      clear hcs
      have HT := Lib.hid (gl_take H l k hkl)
      generalize H[k] = y at *
      have hmm : Hid (m ≤ 1100000000000) := show _ ≤ _ from Nat.le_trans hm (Nat.le_trans (Nat.mul_le_mul (show k ≤ 1048576 by omega) hn) (by decide))
      have lg : Hid (w.heap.size + 1 ≤ g ∧ g < wr.heap.size) := by obtain ⟨r', hb, _, _, h⟩ := bk_of_owns6 HO.out; exact ⟨h, hb.lt⟩
      have OD : Hid (wr.drew.ownsRow (w.heap.size + 1) 93 6 (.slice (some ⟨g, 0, none⟩) m cap) m (fl (gl (H.take k) l))) := HO.out
      have LD : Hid (Below w.heap.size w wr.drew) := HL.out.drew
      have CD := Lib.hid (SetS.spec y 1 b0 o0 n c l wr.drew (HS.out.on LD.out) (by omega))
      have XA : Hid (∀ w1 w2 : World, Below wr.drew.heap.size wr.drew w1 → w1.grownBy w2 (some g) → (Zx w2 w.heap.size s (.slice (some ⟨b0, o0, none⟩) n c) ∧ w2.cell? ⟨b1, o1 + k, none⟩ = some (.string y)) ∧ Svz w w2) := fun w1 w2 hl hgrow => by
        have L2 : Below w.heap.size w w2 := (LD.out.trans (hl.mono LD.out.size)).grown hgrow (Nat.le_trans LD.out.size hl.size) (fun j hj => by cases hj; have := lg.out.1; omega)
        exact ⟨⟨((HX.out.below ((Below.refl _ _).drew)).below hl).grown hgrow (fun e => by have := Option.some.inj e; have := lg.out.1; omega), (L2.cell (p := ⟨b1, o1 + k, none⟩) hbB).trans YH.out⟩, L2⟩
      have OA : Hid (∀ w1 : World, Below wr.drew.heap.size wr.drew w1 → w1.ownsRow (w.heap.size + 1) 93 6 (.slice (some ⟨g, 0, none⟩) m cap) m (fl (gl (H.take k) l)) ∧ w.heap.size + 1 ≤ w1.heap.size) := fun w1 hl => ⟨OD.out.kept (row := none) ⟨hl.os, hl.tape, hl.output, hl.size, fun k hk _ => hl.block k hk⟩ (Or.inr (fun e => by cases e)), Nat.le_trans (show w.heap.size + 1 ≤ wr.drew.heap.size from Nat.le_trans lg.out.1 (Nat.le_of_lt lg.out.2)) hl.size⟩
      have MS : Hid ((sf y 1 l).length ≤ n) := show _ ≤ _ by have := sf_len y 1 l; have := HS.out.1; omega
      have S0 : (Zx wr w.heap.size s (.slice (some ⟨b0, o0, none⟩) n c) ∧ wr.cell? ⟨b1, o1 + k, none⟩ = some (.string y)) ∧ Svz w wr := ⟨⟨HX.out, e0⟩, HL.out⟩
      go_wp2
      go_region_held3 (fun w' => ((w'.cell? ⟨w.heap.size, 0, none⟩ = some (.string s) ∧ w'.cell? ⟨w.heap.size, 1, none⟩ = some (.slice (some ⟨b0, o0, none⟩) n c)) ∧ w'.cell? ⟨b1, o1 + k, none⟩ = some (.string y)) ∧ Svz w w')
        (first | exact S0 | with_reducible assumption | exact keptH_draw (by assumption) | exact keptH (by assumption) hl | exact SR | fail)
        (first
          | (go_at_call 130; (with_reducible refine CD.out.mono ?_); rintro e w1 ⟨gs, ms, cs, rs, rfl, hz, hc, hg, hb, hl⟩)
          | (refine step_append_recs rfl (.tmp 14) (.tmp 21) rfl (w.heap.size + 1) g m cap (gl (H.take k) l) rfl (OA.out _ hl).1 gs 0 ms cs _ (sf y 1 l) rfl (bk_sr hb hz) (by have := MS.out; have := hmm.out; omega) (OA.out _ hl).2 ?_; intro g2 cap2 w2 hown hgrow; have SR := XA.out w1 w2 hl hgrow)
          | fail)
      have O3 := Lib.hid hown
      have X3 : Hid (Zx w2 w.heap.size s (.slice (some ⟨b0, o0, none⟩) n c)) := SR.1.1
      have L3 : Hid (Below w.heap.size w w2) := SR.2
      have hmn : ms ≤ n := by have := MS.out; omega
      clear hown hgrow SR S0 OA XA CD OD LD hb hl hg hc hz
      go_wp2
      go_roundw
      case rel => exact ⟨k + 1, g2, m + ms, cap2, by omega, by rw [Nat.add_mul, Nat.one_mul]; omega, by go_num, rfl, by rw [HT.out]; exact O3.out, X3.out, L3.out⟩
      case measure => simp [intOf]; omega
    · obtain rfl : nh = k := by omega
      have HN := Lib.hid (take_all HH.out.1)
      go_wp2
      go_ret
      have ho := HO.out
      rw [HN.out] at ho
      obtain ⟨r', hb, _, hcap, hg⟩ := bk_of_owns6 ho
      have hz : (gl H l).length = m := by have := ho.1; rw [fl_len] at this; omega
      exact ⟨g, m, cap, r', rfl, hz, hcap, by omega, hb, HL.out⟩
end Go.Proofs.YtmkcjjgicinggaaGreatDoor.GlueS

/- What HelpIn does in the model: a new slice of the addresses of the servers of the cut. Condition: at most 1048576 records, no name of more than 400000000 bytes. -/
namespace Go.Proofs.YtmkcjjgicinggaaGreatDoor.HlpS
open Go.RowKit Go.Proofs.YtmkcjjgicinggaaGreatDoor.Mem Go.Proofs.YtmkcjjgicinggaaGreatDoor.MemR Go.Proofs.YtmkcjjgicinggaaGreatDoor.SetMath Go.Proofs.YtmkcjjgicinggaaGreatDoor.NameMath Go.Proofs.YtmkcjjgicinggaaGreatDoor.ZoneMath Go.Proofs.YtmkcjjgicinggaaGreatDoor.ServeMath Go.Proofs.YtmkcjjgicinggaaGreatDoor.MemZ Go.Proofs.YtmkcjjgicinggaaGreatDoor.MemM Go.Proofs.YtmkcjjgicinggaaGreatDoor.Wt Go.Proofs.YtmkcjjgicinggaaGreatDoor.KindS Go.Proofs.YtmkcjjgicinggaaGreatDoor.AppS Go.Proofs.YtmkcjjgicinggaaGreatDoor.MemS

theorem keptm {w0 w w' : World} {g k : Nat} {s nm : ByteArray} {x : Value} {ty : Int} (m : (Zx w g s x ∧ Qx w k nm ty) ∧ Svz w0 w) (hl : Below w.heap.size w w') : (Zx w' g s x ∧ Qx w' k nm ty) ∧ Svz w0 w' := ⟨⟨m.1.1.below hl, m.1.2.below hl⟩, m.2.trans (hl.mono m.2.size)⟩

theorem keptm_draw {w0 w : World} {g k : Nat} {s nm : ByteArray} {x : Value} {ty : Int} (m : (Zx w g s x ∧ Qx w k nm ty) ∧ Svz w0 w) : (Zx w.drew g s x ∧ Qx w.drew k nm ty) ∧ Svz w0 w.drew := keptm m ((Below.refl _ _).drew)

set_option maxRecDepth 100000 in
set_option maxHeartbeats 8000000 in
theorem spec (s nm : ByteArray) (ty : Int) (b0 o0 n c : Nat) (l : List Rec) (w : World) (hs : Sr w w.heap.size (some ⟨b0, o0, none⟩) n l) (hn : n ≤ 1048576) (hm : s.size ≤ 400000000) (hq : nm.size ≤ 400000000) (hz : ∀ r ∈ l, r.name.size ≤ 400000000) :
    Calls Tryz.prog 139 #[.agg #[.string s, .slice (some ⟨b0, o0, none⟩) n c], .agg #[.string nm, .int .i64 ty]] w (GivesL w (hel (kd s nm ty l) s nm l)) := by
  obtain ⟨⟨hx, hy⟩, hl0⟩ := two w s nm ty (.slice (some ⟨b0, o0, none⟩) n c) 37 29
  have X0 := Lib.hid hx
  have Y0 := Lib.hid hy
  have L0 := Lib.hid hl0
  have S0 := Lib.hid (hs.on hl0)
  have KI := Lib.hid (fun W hW => KindS.spec s nm ty b0 o0 n c l W hW (by omega) hm hq hz)
  have MS := Lib.hid (fun W hW => MorS.spec s nm ty b0 o0 n c l W hW (by omega) hm hq hz)
  have HLN := Lib.hid hs.1
  have HML := Lib.hid (sf_len (cu s nm l) 2 l)
  clear hs hz hx hy hl0
  generalize kd s nm ty l = k at *
  obtain ⟨x0, x1⟩ := X0.out
  obtain ⟨y0, y1⟩ := Y0.out
  go_enter Tryz.func139, Tryz.ntmps139
  go_wp2_with fail
  refine (KI.out _ S0.out).mono ?_
  rintro e w1 ⟨rfl, hl⟩
  have X1 := Lib.hid (X0.out.below hl)
  have Y1 := Lib.hid (Y0.out.below hl)
  have S1 := Lib.hid (S0.out.on hl)
  have L1 := Lib.hid (L0.out.trans (hl.mono L0.out.size))
  clear hl KI X0 Y0 S0 L0 x0 x1 y0 y1
  obtain ⟨x0, x1⟩ := X1.out
  obtain ⟨y0, y1⟩ := Y1.out
  by_cases h1 : k = 1
  · have HA : Hid (hel k s nm l = gl (uq (hl (sf (cu s nm l) 2 l))) l) := if_pos h1
    have HM : mol k s nm l = sf (cu s nm l) 2 l := if_pos h1
    rw [HM] at MS
    subst h1
    clear HM
    generalize sf (cu s nm l) 2 l = lm at *
    have LM : Hid (lm.length ≤ 1048576) := show _ ≤ _ by have := HML.out; have := HLN.out; omega
    have HHL : Hid ((uq (hl lm)).length ≤ 1048576) := show _ ≤ _ by have h1 := len_uq (hl lm); have h2 := hl_len lm; have := LM.out; omega
    have HS := Lib.hid (fun (b o m c : Nat) (W : World) (hW : Sr W W.heap.size (some ⟨b, o, none⟩) m lm) (hm : m ≤ 400000000) => HostS.spec b o m c lm W hW hm)
    generalize uq (hl lm) = H at *
    have GS := Lib.hid (fun (h m c' : Nat) (W : World) (hW : Sr W W.heap.size (some ⟨b0, o0, none⟩) n l) (hh : Ss W W.heap.size (some ⟨h, 0, none⟩) m H) (hm : m ≤ 1048576) => GlueS.spec s b0 o0 n c l h 0 m c' H W hW hh (by omega) hm)
    have MSR : Hid (∀ W : World, ((W.cell? ⟨w.heap.size, 0, none⟩ = some (.string s) ∧ W.cell? ⟨w.heap.size, 1, none⟩ = some (.slice (some ⟨b0, o0, none⟩) n c)) ∧ (W.cell? ⟨w.heap.size + 1, 0, none⟩ = some (.string nm) ∧ W.cell? ⟨w.heap.size + 1, 1, none⟩ = some (.int .i64 ty))) ∧ Svz w1 W → Calls Tryz.prog 138 #[.agg #[.string s, .slice (some ⟨b0, o0, none⟩) n c], .agg #[.string nm, .int .i64 ty]] W (GivesL W lm)) := fun W hW => MS.out W (S1.out.on hW.2)
    have SS0 : ((w1.cell? ⟨w.heap.size, 0, none⟩ = some (.string s) ∧ w1.cell? ⟨w.heap.size, 1, none⟩ = some (.slice (some ⟨b0, o0, none⟩) n c)) ∧ (w1.cell? ⟨w.heap.size + 1, 0, none⟩ = some (.string nm) ∧ w1.cell? ⟨w.heap.size + 1, 1, none⟩ = some (.int .i64 ty))) ∧ Svz w1 w1 := ⟨⟨X1.out, Y1.out⟩, Below.refl _ _⟩
    go_wp2
    go_region_held3 (fun w' => ((w'.cell? ⟨w.heap.size, 0, none⟩ = some (.string s) ∧ w'.cell? ⟨w.heap.size, 1, none⟩ = some (.slice (some ⟨b0, o0, none⟩) n c)) ∧ (w'.cell? ⟨w.heap.size + 1, 0, none⟩ = some (.string nm) ∧ w'.cell? ⟨w.heap.size + 1, 1, none⟩ = some (.int .i64 ty))) ∧ Svz w1 w')
      (first | with_reducible exact SS0 | with_reducible assumption | exact keptm (by assumption) hl | exact keptm_draw (by assumption) | fail)
      (first
        | (go_at_call 138; (with_reducible refine (MSR.out _ (by assumption)).mono ?_); rintro e w2 ⟨g2, m2, c2, r2, rfl, hz2, hc2, hg2, hb2, hl⟩; have hl2 := hl)
        | (go_at_call 131; (with_reducible refine (HS.out g2 0 m2 c2 _ (bk_sr hb2 hz2) (by have := LM.out; omega)).mono ?_); rintro e w3 ⟨g3, m3, c3, r3, rfl, hz3, hc3, hg3, hb3, hl⟩; have hl3 := hl)
        | (go_at_call 189; have hS3 : Below w1.heap.size w1 w3 := (by assumption : ((w3.cell? ⟨w.heap.size, 0, none⟩ = some (.string s) ∧ w3.cell? ⟨w.heap.size, 1, none⟩ = some (.slice (some ⟨b0, o0, none⟩) n c)) ∧ (w3.cell? ⟨w.heap.size + 1, 0, none⟩ = some (.string nm) ∧ w3.cell? ⟨w.heap.size + 1, 1, none⟩ = some (.int .i64 ty))) ∧ Svz w1 w3).2; (with_reducible refine (GS.out g3 m3 _ _ (S1.out.on hS3) (bk_ssw hb3 hz3) (by have := HHL.out; omega)).mono ?_); rintro e w4 ⟨g4, m4, c4, r4, rfl, hz4, hc4, hg4, hb4, hl⟩; have hl4 := hl)
        | fail)
    rename_i hH
    have F4 := Lib.hid (And.intro hz4 (And.intro hc4 (And.intro (Nat.le_trans (Nat.le_trans L1.out.size hS3.size) hg4) hb4)))
    have L4 := Lib.hid (L1.out.trans ((show Below w1.heap.size w1 w4 from hH.2).mono L1.out.size))
    clear hH hS3 hl hl2 hl3 hl4 hz4 hc4 hg4 hb4 hz3 hc3 hg3 hb3 hz2 hc2 hg2 hb2 SS0 MSR HS GS
    go_wp2
    go_ret
    exact ⟨g4, m4, c4, r4, rfl, by rw [HA.out]; exact F4.out.1, F4.out.2.1, F4.out.2.2.1, by rw [HA.out]; exact F4.out.2.2.2, L4.out⟩
  · have t1 : (k != 1) = true := by simpa using h1
    have HA : Hid (hel k s nm l = []) := if_neg h1
    clear h1
    have B2 := Lib.hid (AppR.owns_new w1)
    have L2 := Lib.hid (L1.out.trans (((Below.refl w1.heap.size w1).alloc (Nat.le_refl _) (.cells #[] 93)).mono L1.out.size))
    have N2 := Lib.hid (heap_alloc_new w1 (.cells #[] 93))
    have G2 : Hid (w.heap.size ≤ w1.heap.size) := L1.out.size
    go_wp2
    go_ret
    exact ⟨w1.heap.size, 0, 0, [], rfl, by rw [HA.out]; rfl, Nat.le_refl _, G2.out, by rw [HA.out]; exact N2.out, L2.out⟩

end Go.Proofs.YtmkcjjgicinggaaGreatDoor.HlpS
