/- The law FnExactReplyAt returns true at every name space, every address and every message, where the library variable internal/bytealg.MaxLen holds an int: ReplyAt answers as its model. -/
import Derived.Test.YtmkcjjgicinggaaGreatDoorExactReplyAtP8
import Derived.Test.YtmkcjjgicinggaaGreatDoorExactReplyAtP5
import Derived.Test.YtmkcjjgicinggaaGreatDoorExactReplyAtP7
import Derived.Test.YtmkcjjgicinggaaGreatDoorSzF
import Derived.Test.YtmkcjjgicinggaaGreatDoorToF
import Derived.Test.YtmkcjjgicinggaaGreatDoorEqF
import Derived.Test.YtmkcjjgicinggaaGreatDoorMarkV
import Derived.Test.YtmkcjjgicinggaaGreatDoorSzM
import Derived.Test.YtmkcjjgicinggaaGreatDoorToM
import Derived.Test.YtmkcjjgicinggaaGreatDoorEqM
import Derived.Test.YtmkcjjgicinggaaGreatDoorMarkM
import Derived.Test.YtmkcjjgicinggaaGreatDoorRowM
import Derived.Deep.RegionHeld3
import Derived.Test.YtmkcjjgicinggaaGreatDoorExactReplyAtP2
import Derived.LaidLaws
import Derived.Test.YtmkcjjgicinggaaGreatDoorRowR
import Derived.Test.YtmkcjjgicinggaaGreatDoorCards
import Derived.Test.YtmkcjjgicinggaaGreatDoorTie
import Derived.ProofKit
import Derived.OpenShut
import Derived.ShutString
import Derived.ChangeOld
import Derived.Below
import Derived.Deep.DeepHandedRow
/- What Serve does in the model: a reply with the code, the flag and the first eight records of each section. Condition: at most 1048576 records, no name of more than 400000000 bytes. -/
namespace Go.Proofs.YtmkcjjgicinggaaGreatDoor.ServS
open Go.RowKit Go.Proofs.YtmkcjjgicinggaaGreatDoor.Mem Go.Proofs.YtmkcjjgicinggaaGreatDoor.MemR Go.Proofs.YtmkcjjgicinggaaGreatDoor.SetMath Go.Proofs.YtmkcjjgicinggaaGreatDoor.ZoneMath Go.Proofs.YtmkcjjgicinggaaGreatDoor.ServeMath Go.Proofs.YtmkcjjgicinggaaGreatDoor.MemZ Go.Proofs.YtmkcjjgicinggaaGreatDoor.MemM Go.Proofs.YtmkcjjgicinggaaGreatDoor.BoxR Go.Proofs.YtmkcjjgicinggaaGreatDoor.CpyR Go.Proofs.YtmkcjjgicinggaaGreatDoor.ResM Go.Proofs.YtmkcjjgicinggaaGreatDoor.RepM Go.Proofs.YtmkcjjgicinggaaGreatDoor.Wt Go.Proofs.YtmkcjjgicinggaaGreatDoor.ShoS Go.Proofs.YtmkcjjgicinggaaGreatDoor.ServI

theorem on {w w' : World} {g : Nat} {t : TypeId} {cs : List Value} (k : Bk w g t cs) (hl : Below w.heap.size w w') : Bk w' g t cs := k.below hl k.lt

section
variable {w0 w w1 w' : World} {k : Nat} {g j : Nat} {s : ByteArray} {x : Value} {h : Hd} {A1 A2 A3 : Option Addr} {n1 c1 n2 c2 n3 c3 : Nat}

theorem keptS (m : (((w.cell? ⟨j, 0, none⟩ = some (.string s) ∧ w.cell? ⟨j, 1, none⟩ = some x) ∧ (w.cell? ⟨g, 0, none⟩ = some (.int .i64 h.id) ∧ w.cell? ⟨g, 1, none⟩ = some (.bool h.rp) ∧ w.cell? ⟨g, 2, none⟩ = some (.bool h.au) ∧ w.cell? ⟨g, 3, none⟩ = some (.bool h.ct) ∧ w.cell? ⟨g, 4, none⟩ = some (.bool h.wa) ∧ w.cell? ⟨g, 5, none⟩ = some (.bool h.ca) ∧ w.cell? ⟨g, 6, none⟩ = some (.int .i64 h.code) ∧ w.cell? ⟨g, 7, none⟩ = some (.string h.qn) ∧ w.cell? ⟨g, 8, none⟩ = some (.int .i64 h.qt) ∧ w.cell? ⟨g, 9, none⟩ = some (.slice A1 n1 c1) ∧ w.cell? ⟨g, 10, none⟩ = some (.slice A2 n2 c2) ∧ w.cell? ⟨g, 11, none⟩ = some (.slice A3 n3 c3))) ∧ RB w k) ∧ Sv w0 w) (hl : Below w.heap.size w w') : (((w'.cell? ⟨j, 0, none⟩ = some (.string s) ∧ w'.cell? ⟨j, 1, none⟩ = some x) ∧ (w'.cell? ⟨g, 0, none⟩ = some (.int .i64 h.id) ∧ w'.cell? ⟨g, 1, none⟩ = some (.bool h.rp) ∧ w'.cell? ⟨g, 2, none⟩ = some (.bool h.au) ∧ w'.cell? ⟨g, 3, none⟩ = some (.bool h.ct) ∧ w'.cell? ⟨g, 4, none⟩ = some (.bool h.wa) ∧ w'.cell? ⟨g, 5, none⟩ = some (.bool h.ca) ∧ w'.cell? ⟨g, 6, none⟩ = some (.int .i64 h.code) ∧ w'.cell? ⟨g, 7, none⟩ = some (.string h.qn) ∧ w'.cell? ⟨g, 8, none⟩ = some (.int .i64 h.qt) ∧ w'.cell? ⟨g, 9, none⟩ = some (.slice A1 n1 c1) ∧ w'.cell? ⟨g, 10, none⟩ = some (.slice A2 n2 c2) ∧ w'.cell? ⟨g, 11, none⟩ = some (.slice A3 n3 c3))) ∧ RB w' k) ∧ Sv w0 w' :=
  ⟨⟨⟨Zx.below m.1.1.1 hl, Mx.below m.1.1.2 hl⟩, m.1.2.below hl⟩, m.2.trans (hl.mono m.2.size)⟩

theorem keptS_draw (m : (((w.cell? ⟨j, 0, none⟩ = some (.string s) ∧ w.cell? ⟨j, 1, none⟩ = some x) ∧ (w.cell? ⟨g, 0, none⟩ = some (.int .i64 h.id) ∧ w.cell? ⟨g, 1, none⟩ = some (.bool h.rp) ∧ w.cell? ⟨g, 2, none⟩ = some (.bool h.au) ∧ w.cell? ⟨g, 3, none⟩ = some (.bool h.ct) ∧ w.cell? ⟨g, 4, none⟩ = some (.bool h.wa) ∧ w.cell? ⟨g, 5, none⟩ = some (.bool h.ca) ∧ w.cell? ⟨g, 6, none⟩ = some (.int .i64 h.code) ∧ w.cell? ⟨g, 7, none⟩ = some (.string h.qn) ∧ w.cell? ⟨g, 8, none⟩ = some (.int .i64 h.qt) ∧ w.cell? ⟨g, 9, none⟩ = some (.slice A1 n1 c1) ∧ w.cell? ⟨g, 10, none⟩ = some (.slice A2 n2 c2) ∧ w.cell? ⟨g, 11, none⟩ = some (.slice A3 n3 c3))) ∧ RB w k) ∧ Sv w0 w) : (((w.drew.cell? ⟨j, 0, none⟩ = some (.string s) ∧ w.drew.cell? ⟨j, 1, none⟩ = some x) ∧ (w.drew.cell? ⟨g, 0, none⟩ = some (.int .i64 h.id) ∧ w.drew.cell? ⟨g, 1, none⟩ = some (.bool h.rp) ∧ w.drew.cell? ⟨g, 2, none⟩ = some (.bool h.au) ∧ w.drew.cell? ⟨g, 3, none⟩ = some (.bool h.ct) ∧ w.drew.cell? ⟨g, 4, none⟩ = some (.bool h.wa) ∧ w.drew.cell? ⟨g, 5, none⟩ = some (.bool h.ca) ∧ w.drew.cell? ⟨g, 6, none⟩ = some (.int .i64 h.code) ∧ w.drew.cell? ⟨g, 7, none⟩ = some (.string h.qn) ∧ w.drew.cell? ⟨g, 8, none⟩ = some (.int .i64 h.qt) ∧ w.drew.cell? ⟨g, 9, none⟩ = some (.slice A1 n1 c1) ∧ w.drew.cell? ⟨g, 10, none⟩ = some (.slice A2 n2 c2) ∧ w.drew.cell? ⟨g, 11, none⟩ = some (.slice A3 n3 c3))) ∧ RB w.drew k) ∧ Sv w0 w.drew := keptS m ((Below.refl _ _).drew)

theorem keptS_put (m : (((w.cell? ⟨j, 0, none⟩ = some (.string s) ∧ w.cell? ⟨j, 1, none⟩ = some x) ∧ (w.cell? ⟨g, 0, none⟩ = some (.int .i64 h.id) ∧ w.cell? ⟨g, 1, none⟩ = some (.bool h.rp) ∧ w.cell? ⟨g, 2, none⟩ = some (.bool h.au) ∧ w.cell? ⟨g, 3, none⟩ = some (.bool h.ct) ∧ w.cell? ⟨g, 4, none⟩ = some (.bool h.wa) ∧ w.cell? ⟨g, 5, none⟩ = some (.bool h.ca) ∧ w.cell? ⟨g, 6, none⟩ = some (.int .i64 h.code) ∧ w.cell? ⟨g, 7, none⟩ = some (.string h.qn) ∧ w.cell? ⟨g, 8, none⟩ = some (.int .i64 h.qt) ∧ w.cell? ⟨g, 9, none⟩ = some (.slice A1 n1 c1) ∧ w.cell? ⟨g, 10, none⟩ = some (.slice A2 n2 c2) ∧ w.cell? ⟨g, 11, none⟩ = some (.slice A3 n3 c3))) ∧ RB w k) ∧ Sv w0 w) (h0 : w0.heap.size ≤ k) (h1 : j ≠ k) (h2 : g ≠ k) (i : Nat) (v : Value) : ((((w.setCell ⟨k, i, none⟩ v).cell? ⟨j, 0, none⟩ = some (.string s) ∧ (w.setCell ⟨k, i, none⟩ v).cell? ⟨j, 1, none⟩ = some x) ∧ ((w.setCell ⟨k, i, none⟩ v).cell? ⟨g, 0, none⟩ = some (.int .i64 h.id) ∧ (w.setCell ⟨k, i, none⟩ v).cell? ⟨g, 1, none⟩ = some (.bool h.rp) ∧ (w.setCell ⟨k, i, none⟩ v).cell? ⟨g, 2, none⟩ = some (.bool h.au) ∧ (w.setCell ⟨k, i, none⟩ v).cell? ⟨g, 3, none⟩ = some (.bool h.ct) ∧ (w.setCell ⟨k, i, none⟩ v).cell? ⟨g, 4, none⟩ = some (.bool h.wa) ∧ (w.setCell ⟨k, i, none⟩ v).cell? ⟨g, 5, none⟩ = some (.bool h.ca) ∧ (w.setCell ⟨k, i, none⟩ v).cell? ⟨g, 6, none⟩ = some (.int .i64 h.code) ∧ (w.setCell ⟨k, i, none⟩ v).cell? ⟨g, 7, none⟩ = some (.string h.qn) ∧ (w.setCell ⟨k, i, none⟩ v).cell? ⟨g, 8, none⟩ = some (.int .i64 h.qt) ∧ (w.setCell ⟨k, i, none⟩ v).cell? ⟨g, 9, none⟩ = some (.slice A1 n1 c1) ∧ (w.setCell ⟨k, i, none⟩ v).cell? ⟨g, 10, none⟩ = some (.slice A2 n2 c2) ∧ (w.setCell ⟨k, i, none⟩ v).cell? ⟨g, 11, none⟩ = some (.slice A3 n3 c3))) ∧ RB (w.setCell ⟨k, i, none⟩ v) k) ∧ Sv w0 (w.setCell ⟨k, i, none⟩ v) :=
  ⟨⟨⟨Zx.set1 m.1.1.1 (p := ⟨k, i, none⟩) h1 v, Mx.set1 m.1.1.2 (p := ⟨k, i, none⟩) h2 v⟩, m.1.2.put i v⟩, Below.setCell m.2 (p := ⟨k, i, none⟩) h0 v⟩

theorem keptS_fil (m : (((w1.cell? ⟨j, 0, none⟩ = some (.string s) ∧ w1.cell? ⟨j, 1, none⟩ = some x) ∧ (w1.cell? ⟨g, 0, none⟩ = some (.int .i64 h.id) ∧ w1.cell? ⟨g, 1, none⟩ = some (.bool h.rp) ∧ w1.cell? ⟨g, 2, none⟩ = some (.bool h.au) ∧ w1.cell? ⟨g, 3, none⟩ = some (.bool h.ct) ∧ w1.cell? ⟨g, 4, none⟩ = some (.bool h.wa) ∧ w1.cell? ⟨g, 5, none⟩ = some (.bool h.ca) ∧ w1.cell? ⟨g, 6, none⟩ = some (.int .i64 h.code) ∧ w1.cell? ⟨g, 7, none⟩ = some (.string h.qn) ∧ w1.cell? ⟨g, 8, none⟩ = some (.int .i64 h.qt) ∧ w1.cell? ⟨g, 9, none⟩ = some (.slice A1 n1 c1) ∧ w1.cell? ⟨g, 10, none⟩ = some (.slice A2 n2 c2) ∧ w1.cell? ⟨g, 11, none⟩ = some (.slice A3 n3 c3))) ∧ RB w1 k) ∧ Sv w0 w1) (h0 : w0.heap.size ≤ k) (h1 : j ≠ k) (h2 : g ≠ k) (v0 v1 v2 v3 v4 v5 v6 v7 v8 v9 v10 v11 : Value) : (((((((((((((((w1.setCell ⟨k, 0, none⟩ v0).setCell ⟨k, 1, none⟩ v1).setCell ⟨k, 2, none⟩ v2).setCell ⟨k, 3, none⟩ v3).setCell ⟨k, 4, none⟩ v4).setCell ⟨k, 5, none⟩ v5).setCell ⟨k, 6, none⟩ v6).setCell ⟨k, 7, none⟩ v7).setCell ⟨k, 8, none⟩ v8).setCell ⟨k, 9, none⟩ v9).setCell ⟨k, 10, none⟩ v10).setCell ⟨k, 11, none⟩ v11).cell? ⟨j, 0, none⟩ = some (.string s) ∧ ((((((((((((w1.setCell ⟨k, 0, none⟩ v0).setCell ⟨k, 1, none⟩ v1).setCell ⟨k, 2, none⟩ v2).setCell ⟨k, 3, none⟩ v3).setCell ⟨k, 4, none⟩ v4).setCell ⟨k, 5, none⟩ v5).setCell ⟨k, 6, none⟩ v6).setCell ⟨k, 7, none⟩ v7).setCell ⟨k, 8, none⟩ v8).setCell ⟨k, 9, none⟩ v9).setCell ⟨k, 10, none⟩ v10).setCell ⟨k, 11, none⟩ v11).cell? ⟨j, 1, none⟩ = some x) ∧ (((((((((((((w1.setCell ⟨k, 0, none⟩ v0).setCell ⟨k, 1, none⟩ v1).setCell ⟨k, 2, none⟩ v2).setCell ⟨k, 3, none⟩ v3).setCell ⟨k, 4, none⟩ v4).setCell ⟨k, 5, none⟩ v5).setCell ⟨k, 6, none⟩ v6).setCell ⟨k, 7, none⟩ v7).setCell ⟨k, 8, none⟩ v8).setCell ⟨k, 9, none⟩ v9).setCell ⟨k, 10, none⟩ v10).setCell ⟨k, 11, none⟩ v11).cell? ⟨g, 0, none⟩ = some (.int .i64 h.id) ∧ ((((((((((((w1.setCell ⟨k, 0, none⟩ v0).setCell ⟨k, 1, none⟩ v1).setCell ⟨k, 2, none⟩ v2).setCell ⟨k, 3, none⟩ v3).setCell ⟨k, 4, none⟩ v4).setCell ⟨k, 5, none⟩ v5).setCell ⟨k, 6, none⟩ v6).setCell ⟨k, 7, none⟩ v7).setCell ⟨k, 8, none⟩ v8).setCell ⟨k, 9, none⟩ v9).setCell ⟨k, 10, none⟩ v10).setCell ⟨k, 11, none⟩ v11).cell? ⟨g, 1, none⟩ = some (.bool h.rp) ∧ ((((((((((((w1.setCell ⟨k, 0, none⟩ v0).setCell ⟨k, 1, none⟩ v1).setCell ⟨k, 2, none⟩ v2).setCell ⟨k, 3, none⟩ v3).setCell ⟨k, 4, none⟩ v4).setCell ⟨k, 5, none⟩ v5).setCell ⟨k, 6, none⟩ v6).setCell ⟨k, 7, none⟩ v7).setCell ⟨k, 8, none⟩ v8).setCell ⟨k, 9, none⟩ v9).setCell ⟨k, 10, none⟩ v10).setCell ⟨k, 11, none⟩ v11).cell? ⟨g, 2, none⟩ = some (.bool h.au) ∧ ((((((((((((w1.setCell ⟨k, 0, none⟩ v0).setCell ⟨k, 1, none⟩ v1).setCell ⟨k, 2, none⟩ v2).setCell ⟨k, 3, none⟩ v3).setCell ⟨k, 4, none⟩ v4).setCell ⟨k, 5, none⟩ v5).setCell ⟨k, 6, none⟩ v6).setCell ⟨k, 7, none⟩ v7).setCell ⟨k, 8, none⟩ v8).setCell ⟨k, 9, none⟩ v9).setCell ⟨k, 10, none⟩ v10).setCell ⟨k, 11, none⟩ v11).cell? ⟨g, 3, none⟩ = some (.bool h.ct) ∧ ((((((((((((w1.setCell ⟨k, 0, none⟩ v0).setCell ⟨k, 1, none⟩ v1).setCell ⟨k, 2, none⟩ v2).setCell ⟨k, 3, none⟩ v3).setCell ⟨k, 4, none⟩ v4).setCell ⟨k, 5, none⟩ v5).setCell ⟨k, 6, none⟩ v6).setCell ⟨k, 7, none⟩ v7).setCell ⟨k, 8, none⟩ v8).setCell ⟨k, 9, none⟩ v9).setCell ⟨k, 10, none⟩ v10).setCell ⟨k, 11, none⟩ v11).cell? ⟨g, 4, none⟩ = some (.bool h.wa) ∧ ((((((((((((w1.setCell ⟨k, 0, none⟩ v0).setCell ⟨k, 1, none⟩ v1).setCell ⟨k, 2, none⟩ v2).setCell ⟨k, 3, none⟩ v3).setCell ⟨k, 4, none⟩ v4).setCell ⟨k, 5, none⟩ v5).setCell ⟨k, 6, none⟩ v6).setCell ⟨k, 7, none⟩ v7).setCell ⟨k, 8, none⟩ v8).setCell ⟨k, 9, none⟩ v9).setCell ⟨k, 10, none⟩ v10).setCell ⟨k, 11, none⟩ v11).cell? ⟨g, 5, none⟩ = some (.bool h.ca) ∧ ((((((((((((w1.setCell ⟨k, 0, none⟩ v0).setCell ⟨k, 1, none⟩ v1).setCell ⟨k, 2, none⟩ v2).setCell ⟨k, 3, none⟩ v3).setCell ⟨k, 4, none⟩ v4).setCell ⟨k, 5, none⟩ v5).setCell ⟨k, 6, none⟩ v6).setCell ⟨k, 7, none⟩ v7).setCell ⟨k, 8, none⟩ v8).setCell ⟨k, 9, none⟩ v9).setCell ⟨k, 10, none⟩ v10).setCell ⟨k, 11, none⟩ v11).cell? ⟨g, 6, none⟩ = some (.int .i64 h.code) ∧ ((((((((((((w1.setCell ⟨k, 0, none⟩ v0).setCell ⟨k, 1, none⟩ v1).setCell ⟨k, 2, none⟩ v2).setCell ⟨k, 3, none⟩ v3).setCell ⟨k, 4, none⟩ v4).setCell ⟨k, 5, none⟩ v5).setCell ⟨k, 6, none⟩ v6).setCell ⟨k, 7, none⟩ v7).setCell ⟨k, 8, none⟩ v8).setCell ⟨k, 9, none⟩ v9).setCell ⟨k, 10, none⟩ v10).setCell ⟨k, 11, none⟩ v11).cell? ⟨g, 7, none⟩ = some (.string h.qn) ∧ ((((((((((((w1.setCell ⟨k, 0, none⟩ v0).setCell ⟨k, 1, none⟩ v1).setCell ⟨k, 2, none⟩ v2).setCell ⟨k, 3, none⟩ v3).setCell ⟨k, 4, none⟩ v4).setCell ⟨k, 5, none⟩ v5).setCell ⟨k, 6, none⟩ v6).setCell ⟨k, 7, none⟩ v7).setCell ⟨k, 8, none⟩ v8).setCell ⟨k, 9, none⟩ v9).setCell ⟨k, 10, none⟩ v10).setCell ⟨k, 11, none⟩ v11).cell? ⟨g, 8, none⟩ = some (.int .i64 h.qt) ∧ ((((((((((((w1.setCell ⟨k, 0, none⟩ v0).setCell ⟨k, 1, none⟩ v1).setCell ⟨k, 2, none⟩ v2).setCell ⟨k, 3, none⟩ v3).setCell ⟨k, 4, none⟩ v4).setCell ⟨k, 5, none⟩ v5).setCell ⟨k, 6, none⟩ v6).setCell ⟨k, 7, none⟩ v7).setCell ⟨k, 8, none⟩ v8).setCell ⟨k, 9, none⟩ v9).setCell ⟨k, 10, none⟩ v10).setCell ⟨k, 11, none⟩ v11).cell? ⟨g, 9, none⟩ = some (.slice A1 n1 c1) ∧ ((((((((((((w1.setCell ⟨k, 0, none⟩ v0).setCell ⟨k, 1, none⟩ v1).setCell ⟨k, 2, none⟩ v2).setCell ⟨k, 3, none⟩ v3).setCell ⟨k, 4, none⟩ v4).setCell ⟨k, 5, none⟩ v5).setCell ⟨k, 6, none⟩ v6).setCell ⟨k, 7, none⟩ v7).setCell ⟨k, 8, none⟩ v8).setCell ⟨k, 9, none⟩ v9).setCell ⟨k, 10, none⟩ v10).setCell ⟨k, 11, none⟩ v11).cell? ⟨g, 10, none⟩ = some (.slice A2 n2 c2) ∧ ((((((((((((w1.setCell ⟨k, 0, none⟩ v0).setCell ⟨k, 1, none⟩ v1).setCell ⟨k, 2, none⟩ v2).setCell ⟨k, 3, none⟩ v3).setCell ⟨k, 4, none⟩ v4).setCell ⟨k, 5, none⟩ v5).setCell ⟨k, 6, none⟩ v6).setCell ⟨k, 7, none⟩ v7).setCell ⟨k, 8, none⟩ v8).setCell ⟨k, 9, none⟩ v9).setCell ⟨k, 10, none⟩ v10).setCell ⟨k, 11, none⟩ v11).cell? ⟨g, 11, none⟩ = some (.slice A3 n3 c3))) ∧ RB ((((((((((((w1.setCell ⟨k, 0, none⟩ v0).setCell ⟨k, 1, none⟩ v1).setCell ⟨k, 2, none⟩ v2).setCell ⟨k, 3, none⟩ v3).setCell ⟨k, 4, none⟩ v4).setCell ⟨k, 5, none⟩ v5).setCell ⟨k, 6, none⟩ v6).setCell ⟨k, 7, none⟩ v7).setCell ⟨k, 8, none⟩ v8).setCell ⟨k, 9, none⟩ v9).setCell ⟨k, 10, none⟩ v10).setCell ⟨k, 11, none⟩ v11) k) ∧ Sv w0 ((((((((((((w1.setCell ⟨k, 0, none⟩ v0).setCell ⟨k, 1, none⟩ v1).setCell ⟨k, 2, none⟩ v2).setCell ⟨k, 3, none⟩ v3).setCell ⟨k, 4, none⟩ v4).setCell ⟨k, 5, none⟩ v5).setCell ⟨k, 6, none⟩ v6).setCell ⟨k, 7, none⟩ v7).setCell ⟨k, 8, none⟩ v8).setCell ⟨k, 9, none⟩ v9).setCell ⟨k, 10, none⟩ v10).setCell ⟨k, 11, none⟩ v11) :=
  (keptS_put (keptS_put (keptS_put (keptS_put (keptS_put (keptS_put (keptS_put (keptS_put (keptS_put (keptS_put (keptS_put (keptS_put m h0 h1 h2 0 v0) h0 h1 h2 1 v1) h0 h1 h2 2 v2) h0 h1 h2 3 v3) h0 h1 h2 4 v4) h0 h1 h2 5 v5) h0 h1 h2 6 v6) h0 h1 h2 7 v7) h0 h1 h2 8 v8) h0 h1 h2 9 v9) h0 h1 h2 10 v10) h0 h1 h2 11 v11)
end

set_option maxRecDepth 100000 in
set_option maxHeartbeats 4000000 in
theorem spec (s : ByteArray) (b0 o0 n c : Nat) (l : List Rec) (h : Hd) (A1 A2 A3 : Option Addr) (n1 c1 n2 c2 n3 c3 : Nat) (w : World) (hs : Sr w w.heap.size (some ⟨b0, o0, none⟩) n l) (hn : n ≤ 1048576) (hm : s.size ≤ 400000000) (hq : h.qn.size ≤ 400000000) (hz : ∀ r ∈ l, r.name.size ≤ 400000000) :
    Calls Tryz.prog 85 #[.agg #[.string s, .slice (some ⟨b0, o0, none⟩) n c], .agg #[.int .i64 h.id, .bool h.rp, .bool h.au, .bool h.ct, .bool h.wa, .bool h.ca, .int .i64 h.code, .string h.qn, .int .i64 h.qt, .slice A1 n1 c1, .slice A2 n2 c2, .slice A3 n3 c3]] w (GivesS8 w h (kd s h.qn h.qt l) (anl (kd s h.qn h.qt l) h.qn h.qt l) (mol (kd s h.qn h.qt l) s h.qn l) (hel (kd s h.qn h.qt l) s h.qn l)) := by
  obtain ⟨⟨hx, hy⟩, hb0, hl0⟩ := boxes w s (.slice (some ⟨b0, o0, none⟩) n c) h A1 A2 A3 n1 c1 n2 c2 n3 c3 37 45 45
  have X0 := Lib.hid hx
  have Y0 := Lib.hid hy
  have R0 := Lib.hid hb0
  have L0 := Lib.hid hl0
  have HS := Lib.hid hs
  have KI := Lib.hid (fun W hW => KindS.spec s h.qn h.qt b0 o0 n c l W hW (by omega) hm hq hz)
  have AS := Lib.hid (fun W hW => AnsS.spec s h.qn h.qt b0 o0 n c l W hW (by omega) hm hq hz)
  have MS := Lib.hid (fun W hW => MorS.spec s h.qn h.qt b0 o0 n c l W hW (by omega) hm hq hz)
  have HP := Lib.hid (fun W hW => HlpS.spec s h.qn h.qt b0 o0 n c l W hW hn hm hq hz)
  have K6 := kd_six s h.qn h.qt l
  clear hx hy hb0 hl0 hs hz
  generalize kd s h.qn h.qt l = kk at *
  generalize anl kk h.qn h.qt l = J1 at *
  generalize mol kk s h.qn l = J2 at *
  generalize hel kk s h.qn l = J3 at *
  obtain ⟨x0, x1⟩ := X0.out
  obtain ⟨y0, y1, y2, y3, y4, y5, y6, y7, y8, y9, y10, y11⟩ := Y0.out
  go_enter Tryz.func85, Tryz.ntmps85
  go_wp2_with fail
  refine (KI.out _ (HS.out.on L0.out)).mono ?_
  rintro e w2 ⟨rfl, hl⟩
  have X2 := Lib.hid (X0.out.below hl)
  have Y2 := Lib.hid (Y0.out.below hl)
  have R2 := Lib.hid (R0.out.below hl R0.out.lt)
  have L2 := Lib.hid (L0.out.trans (hl.mono L0.out.size))
  have ne0 : w.heap.size ≤ w.heap.size + 1 + 1 := by omega
  have ne1 : w.heap.size ≠ w.heap.size + 1 + 1 := by omega
  have ne2 : w.heap.size + 1 ≠ w.heap.size + 1 + 1 := by omega
  clear hl KI X0 Y0 R0 L0 x0 x1 y0 y1 y2 y3 y4 y5 y6 y7 y8 y9 y10 y11
  have ASR : Hid (∀ W : World, (((W.cell? ⟨w.heap.size, 0, none⟩ = some (.string s) ∧ W.cell? ⟨w.heap.size, 1, none⟩ = some (.slice (some ⟨b0, o0, none⟩) n c)) ∧ (W.cell? ⟨w.heap.size + 1, 0, none⟩ = some (.int .i64 h.id) ∧ W.cell? ⟨w.heap.size + 1, 1, none⟩ = some (.bool h.rp) ∧ W.cell? ⟨w.heap.size + 1, 2, none⟩ = some (.bool h.au) ∧ W.cell? ⟨w.heap.size + 1, 3, none⟩ = some (.bool h.ct) ∧ W.cell? ⟨w.heap.size + 1, 4, none⟩ = some (.bool h.wa) ∧ W.cell? ⟨w.heap.size + 1, 5, none⟩ = some (.bool h.ca) ∧ W.cell? ⟨w.heap.size + 1, 6, none⟩ = some (.int .i64 h.code) ∧ W.cell? ⟨w.heap.size + 1, 7, none⟩ = some (.string h.qn) ∧ W.cell? ⟨w.heap.size + 1, 8, none⟩ = some (.int .i64 h.qt) ∧ W.cell? ⟨w.heap.size + 1, 9, none⟩ = some (.slice A1 n1 c1) ∧ W.cell? ⟨w.heap.size + 1, 10, none⟩ = some (.slice A2 n2 c2) ∧ W.cell? ⟨w.heap.size + 1, 11, none⟩ = some (.slice A3 n3 c3))) ∧ RB W (w.heap.size + 1 + 1)) ∧ Sv w W → Calls Tryz.prog 137 #[.agg #[.string s, .slice (some ⟨b0, o0, none⟩) n c], .agg #[.string h.qn, .int .i64 h.qt]] W (GivesL W J1)) := fun W hW => AS.out W (HS.out.on hW.2)
  have MSR : Hid (∀ W : World, (((W.cell? ⟨w.heap.size, 0, none⟩ = some (.string s) ∧ W.cell? ⟨w.heap.size, 1, none⟩ = some (.slice (some ⟨b0, o0, none⟩) n c)) ∧ (W.cell? ⟨w.heap.size + 1, 0, none⟩ = some (.int .i64 h.id) ∧ W.cell? ⟨w.heap.size + 1, 1, none⟩ = some (.bool h.rp) ∧ W.cell? ⟨w.heap.size + 1, 2, none⟩ = some (.bool h.au) ∧ W.cell? ⟨w.heap.size + 1, 3, none⟩ = some (.bool h.ct) ∧ W.cell? ⟨w.heap.size + 1, 4, none⟩ = some (.bool h.wa) ∧ W.cell? ⟨w.heap.size + 1, 5, none⟩ = some (.bool h.ca) ∧ W.cell? ⟨w.heap.size + 1, 6, none⟩ = some (.int .i64 h.code) ∧ W.cell? ⟨w.heap.size + 1, 7, none⟩ = some (.string h.qn) ∧ W.cell? ⟨w.heap.size + 1, 8, none⟩ = some (.int .i64 h.qt) ∧ W.cell? ⟨w.heap.size + 1, 9, none⟩ = some (.slice A1 n1 c1) ∧ W.cell? ⟨w.heap.size + 1, 10, none⟩ = some (.slice A2 n2 c2) ∧ W.cell? ⟨w.heap.size + 1, 11, none⟩ = some (.slice A3 n3 c3))) ∧ RB W (w.heap.size + 1 + 1)) ∧ Sv w W → Calls Tryz.prog 138 #[.agg #[.string s, .slice (some ⟨b0, o0, none⟩) n c], .agg #[.string h.qn, .int .i64 h.qt]] W (GivesL W J2)) := fun W hW => MS.out W (HS.out.on hW.2)
  have HSR : Hid (∀ W : World, (((W.cell? ⟨w.heap.size, 0, none⟩ = some (.string s) ∧ W.cell? ⟨w.heap.size, 1, none⟩ = some (.slice (some ⟨b0, o0, none⟩) n c)) ∧ (W.cell? ⟨w.heap.size + 1, 0, none⟩ = some (.int .i64 h.id) ∧ W.cell? ⟨w.heap.size + 1, 1, none⟩ = some (.bool h.rp) ∧ W.cell? ⟨w.heap.size + 1, 2, none⟩ = some (.bool h.au) ∧ W.cell? ⟨w.heap.size + 1, 3, none⟩ = some (.bool h.ct) ∧ W.cell? ⟨w.heap.size + 1, 4, none⟩ = some (.bool h.wa) ∧ W.cell? ⟨w.heap.size + 1, 5, none⟩ = some (.bool h.ca) ∧ W.cell? ⟨w.heap.size + 1, 6, none⟩ = some (.int .i64 h.code) ∧ W.cell? ⟨w.heap.size + 1, 7, none⟩ = some (.string h.qn) ∧ W.cell? ⟨w.heap.size + 1, 8, none⟩ = some (.int .i64 h.qt) ∧ W.cell? ⟨w.heap.size + 1, 9, none⟩ = some (.slice A1 n1 c1) ∧ W.cell? ⟨w.heap.size + 1, 10, none⟩ = some (.slice A2 n2 c2) ∧ W.cell? ⟨w.heap.size + 1, 11, none⟩ = some (.slice A3 n3 c3))) ∧ RB W (w.heap.size + 1 + 1)) ∧ Sv w W → Calls Tryz.prog 139 #[.agg #[.string s, .slice (some ⟨b0, o0, none⟩) n c], .agg #[.string h.qn, .int .i64 h.qt]] W (GivesL W J3)) := fun W hW => HP.out W (HS.out.on hW.2)
  have F1 : Hid (∀ (W : World) (g c : Nat) (r : List Value), Bk W g 93 (fl J1 ++ r) → J1.length ≤ c → Calls Tryz.prog 136 #[.slice (some ⟨g, 0, none⟩) J1.length c] W (GivesC W (m8 J1.length) (J1.take 8))) := fun W g c r hb hc => first g J1.length c J1 W (bk_sr hb rfl) hc
  have F2 : Hid (∀ (W : World) (g c : Nat) (r : List Value), Bk W g 93 (fl J2 ++ r) → J2.length ≤ c → Calls Tryz.prog 136 #[.slice (some ⟨g, 0, none⟩) J2.length c] W (GivesC W (m8 J2.length) (J2.take 8))) := fun W g c r hb hc => first g J2.length c J2 W (bk_sr hb rfl) hc
  have F3 : Hid (∀ (W : World) (g c : Nat) (r : List Value), Bk W g 93 (fl J3 ++ r) → J3.length ≤ c → Calls Tryz.prog 136 #[.slice (some ⟨g, 0, none⟩) J3.length c] W (GivesC W (m8 J3.length) (J3.take 8))) := fun W g c r hb hc => first g J3.length c J3 W (bk_sr hb rfl) hc
  have RG : Hid (∀ (d : Int) (a : Bool) (W : World) (g1 u1 : Nat) (r1 : List Value) (g2 u2 : Nat) (r2 : List Value) (g3 u3 : Nat) (r3 : List Value), Bk W g1 93 (fl (J1.take 8) ++ r1) → Bk W g2 93 (fl (J2.take 8) ++ r2) → Bk W g3 93 (fl (J3.take 8) ++ r3) → Calls Tryz.prog 84 #[.agg #[.int .i64 h.id, .bool h.rp, .bool h.au, .bool h.ct, .bool h.wa, .bool h.ca, .int .i64 h.code, .string h.qn, .int .i64 h.qt, .slice A1 n1 c1, .slice A2 n2 c2, .slice A3 n3 c3], .int .i64 d, .bool a, .slice (some ⟨g1, 0, none⟩) (m8 J1.length) u1, .slice (some ⟨g2, 0, none⟩) (m8 J2.length) u2, .slice (some ⟨g3, 0, none⟩) (m8 J3.length) u3] W (GivesM W (rph h d a) (m8 J1.length) (m8 J2.length) (m8 J3.length) (J1.take 8) (J2.take 8) (J3.take 8))) := fun d a W g1 u1 r1 g2 u2 r2 g3 u3 r3 h1 h2 h3 => RepM.spec h A1 A2 A3 n1 c1 n2 c2 n3 c3 d a g1 0 _ u1 _ g2 0 _ u2 _ g3 0 _ u3 _ W (bk_sr h1 (m8_len J1 rfl)) (by have := m8_le J1.length; omega) (bk_sr h2 (m8_len J2 rfl)) (by have := m8_le J2.length; omega) (bk_sr h3 (m8_len J3 rfl)) (by have := m8_le J3.length; omega)
  clear AS MS HP
  by_cases k0 : kk = 0
  · subst k0
    have HD : Hid (rcd 0 = 5) := rfl
    have HA : Hid (aut 0 = false) := rfl
    have RR := Lib.hid (RG.out 5 false)
    clear RG
    
    have SS0 : (((w2.cell? ⟨w.heap.size, 0, none⟩ = some (.string s) ∧ w2.cell? ⟨w.heap.size, 1, none⟩ = some (.slice (some ⟨b0, o0, none⟩) n c)) ∧ (w2.cell? ⟨w.heap.size + 1, 0, none⟩ = some (.int .i64 h.id) ∧ w2.cell? ⟨w.heap.size + 1, 1, none⟩ = some (.bool h.rp) ∧ w2.cell? ⟨w.heap.size + 1, 2, none⟩ = some (.bool h.au) ∧ w2.cell? ⟨w.heap.size + 1, 3, none⟩ = some (.bool h.ct) ∧ w2.cell? ⟨w.heap.size + 1, 4, none⟩ = some (.bool h.wa) ∧ w2.cell? ⟨w.heap.size + 1, 5, none⟩ = some (.bool h.ca) ∧ w2.cell? ⟨w.heap.size + 1, 6, none⟩ = some (.int .i64 h.code) ∧ w2.cell? ⟨w.heap.size + 1, 7, none⟩ = some (.string h.qn) ∧ w2.cell? ⟨w.heap.size + 1, 8, none⟩ = some (.int .i64 h.qt) ∧ w2.cell? ⟨w.heap.size + 1, 9, none⟩ = some (.slice A1 n1 c1) ∧ w2.cell? ⟨w.heap.size + 1, 10, none⟩ = some (.slice A2 n2 c2) ∧ w2.cell? ⟨w.heap.size + 1, 11, none⟩ = some (.slice A3 n3 c3))) ∧ RB w2 (w.heap.size + 1 + 1)) ∧ Sv w w2 := ⟨⟨⟨X2.out, Y2.out⟩, ⟨_, rfl, R2.out⟩⟩, L2.out⟩
    clear X2 Y2
    go_wp2
    go_region_held3 (fun w' => (((w'.cell? ⟨w.heap.size, 0, none⟩ = some (.string s) ∧ w'.cell? ⟨w.heap.size, 1, none⟩ = some (.slice (some ⟨b0, o0, none⟩) n c)) ∧ (w'.cell? ⟨w.heap.size + 1, 0, none⟩ = some (.int .i64 h.id) ∧ w'.cell? ⟨w.heap.size + 1, 1, none⟩ = some (.bool h.rp) ∧ w'.cell? ⟨w.heap.size + 1, 2, none⟩ = some (.bool h.au) ∧ w'.cell? ⟨w.heap.size + 1, 3, none⟩ = some (.bool h.ct) ∧ w'.cell? ⟨w.heap.size + 1, 4, none⟩ = some (.bool h.wa) ∧ w'.cell? ⟨w.heap.size + 1, 5, none⟩ = some (.bool h.ca) ∧ w'.cell? ⟨w.heap.size + 1, 6, none⟩ = some (.int .i64 h.code) ∧ w'.cell? ⟨w.heap.size + 1, 7, none⟩ = some (.string h.qn) ∧ w'.cell? ⟨w.heap.size + 1, 8, none⟩ = some (.int .i64 h.qt) ∧ w'.cell? ⟨w.heap.size + 1, 9, none⟩ = some (.slice A1 n1 c1) ∧ w'.cell? ⟨w.heap.size + 1, 10, none⟩ = some (.slice A2 n2 c2) ∧ w'.cell? ⟨w.heap.size + 1, 11, none⟩ = some (.slice A3 n3 c3))) ∧ RB w' (w.heap.size + 1 + 1)) ∧ Sv w w')
      (first | with_reducible exact keptS_fil (w1 := w9) (by assumption) ne0 ne1 ne2 _ _ _ _ _ _ _ _ _ _ _ _ | with_reducible exact SS0 | with_reducible assumption | with_reducible exact keptS (by assumption) hl | with_reducible exact keptS_draw (by assumption) | fail)
      (first
        | (go_at_call 137; (with_reducible refine (ASR.out _ (by assumption)).mono ?_); rintro e w3 ⟨ga, ma, ca, ra, rfl, rfl, xa, ya, ba, hl⟩; have y3 := hl)
        | (go_at_call 138; (with_reducible refine (MSR.out _ (by assumption)).mono ?_); rintro e w5 ⟨gb, mb, cb, rb, rfl, rfl, xb, yb, bb, hl⟩; have y5 := hl)
        | (go_at_call 139; (with_reducible refine (HSR.out _ (by assumption)).mono ?_); rintro e w7 ⟨gc, mc, cc, rc, rfl, rfl, xc, yc, bc, hl⟩; have y7 := hl)
        | (go_at_call 136; (with_reducible refine (F1.out _ _ _ _ ba xa).mono ?_); rintro e w4 ⟨i1, u1, r1, rfl, vx, vy, k1, hl⟩; have y4 := hl)
        | (go_at_call 136; (with_reducible refine (F2.out _ _ _ _ bb xb).mono ?_); rintro e w6 ⟨i2, u2, r2, rfl, vx2, vy2, k2, hl⟩; have y6 := hl)
        | (go_at_call 136; (with_reducible refine (F3.out _ _ _ _ bc xc).mono ?_); rintro e w8 ⟨i3, u3, r3, rfl, vx3, vy3, k3, hl⟩; have y8 := hl)
        | (go_at_call 84; have e1 := on (on (on (on k1 y5) y6) y7) y8; have e2 := on (on k2 y7) y8; (with_reducible refine (RR.out _ _ _ _ _ _ _ _ _ _ e1 e2 k3).mono ?_); rintro e w9 ⟨g1, u1, r1, g2, u2, r2, g3, u3, r3, rfl, hb1, hb2, hb3, hg, h12, h23, hl⟩; have y9 := hl; have HR := (keptS (by assumption) hl).1.2; have p0 := HR.cell 0 (by decide); have f0 := HR.free 0; have p1 := HR.cell 1 (by decide); have f1 := HR.free 1; have p2 := HR.cell 2 (by decide); have f2 := HR.free 2; have p3 := HR.cell 3 (by decide); have f3 := HR.free 3; have p4 := HR.cell 4 (by decide); have f4 := HR.free 4; have p5 := HR.cell 5 (by decide); have f5 := HR.free 5; have p6 := HR.cell 6 (by decide); have f6 := HR.free 6; have p7 := HR.cell 7 (by decide); have f7 := HR.free 7; have p8 := HR.cell 8 (by decide); have f8 := HR.free 8; have p9 := HR.cell 9 (by decide); have f9 := HR.free 9; have p10 := HR.cell 10 (by decide); have f10 := HR.free 10; have p11 := HR.cell 11 (by decide); have f11 := HR.free 11; clear HR)
        | fail)
    rename_i hH
    have a0 : Below w.heap.size w w2.drew := L2.out.drew
    have a1 := a0.trans (y3.mono a0.size)
    have a2 := a1.trans (y4.mono a1.size)
    have a3 := a2.trans (y5.mono a2.size)
    have a4 := a3.trans (y6.mono a3.size)
    have a5 := a4.trans (y7.mono a4.size)
    have a6 := a5.trans (y8.mono a5.size)
    have a7 := a6.trans (y9.mono a6.size)
    have RA : RB w9 (w.heap.size + 1 + 1) := by
      have b0 : RB w2.drew (w.heap.size + 1 + 1) := ⟨_, rfl, R2.out⟩
      exact ((((((b0.below y3).below y4).below y5).below y6).below y7).below y8).below y9
    have G4 : w.heap.size + 1 + 1 < g1 := Nat.lt_of_lt_of_le (Nat.lt_of_lt_of_le (Nat.lt_of_lt_of_le (Nat.lt_of_lt_of_le (Nat.lt_of_lt_of_le (Nat.lt_of_lt_of_le (Nat.lt_of_lt_of_le (show w.heap.size + 1 + 1 < w2.drew.heap.size from R2.out.lt) y3.size) y4.size) y5.size) y6.size) y7.size) y8.size) hg
    have F := Lib.hid (RA.fil (rph h 5 false) (.slice (some ⟨g1, 0, none⟩) (m8 J1.length) u1) (.slice (some ⟨g2, 0, none⟩) (m8 J2.length) u2) (.slice (some ⟨g3, 0, none⟩) (m8 J3.length) u3))
    have E := Lib.hid (filM_below a7 (g := w.heap.size + 1 + 1) (by omega) (rph h 5 false) (.slice (some ⟨g1, 0, none⟩) (m8 J1.length) u1) (.slice (some ⟨g2, 0, none⟩) (m8 J2.length) u2) (.slice (some ⟨g3, 0, none⟩) (m8 J3.length) u3))
    have I1 := Lib.hid (filM_other hb1 (g := w.heap.size + 1 + 1) (by omega) (rph h 5 false) (.slice (some ⟨g1, 0, none⟩) (m8 J1.length) u1) (.slice (some ⟨g2, 0, none⟩) (m8 J2.length) u2) (.slice (some ⟨g3, 0, none⟩) (m8 J3.length) u3))
    have I2 := Lib.hid (filM_other hb2 (g := w.heap.size + 1 + 1) (by omega) (rph h 5 false) (.slice (some ⟨g1, 0, none⟩) (m8 J1.length) u1) (.slice (some ⟨g2, 0, none⟩) (m8 J2.length) u2) (.slice (some ⟨g3, 0, none⟩) (m8 J3.length) u3))
    have I3 := Lib.hid (filM_other hb3 (g := w.heap.size + 1 + 1) (by omega) (rph h 5 false) (.slice (some ⟨g1, 0, none⟩) (m8 J1.length) u1) (.slice (some ⟨g2, 0, none⟩) (m8 J2.length) u2) (.slice (some ⟨g3, 0, none⟩) (m8 J3.length) u3))
    clear hH SS0 a0 a1 a2 a3 a4 a5 a6 a7 RA R2 L2 y3 y4 y5 y6 y7 y8 y9 hl hb1 hb2 hb3 ba bb bc k1 k2 k3 e1 e2 vx vy vx2 vy2 vx3 vy3 xa ya xb yb xc yc ASR MSR HSR F1 F2 F3 RR p0 f0 p1 f1 p2 f2 p3 f3 p4 f4 p5 f5 p6 f6 p7 f7 p8 f8 p9 f9 p10 f10 p11 f11
    go_wp2
    refine bodyPost_ret (v := .agg #[.int .i64 (rph h 5 false).id, .bool (rph h 5 false).rp, .bool (rph h 5 false).au, .bool (rph h 5 false).ct, .bool (rph h 5 false).wa, .bool (rph h 5 false).ca, .int .i64 (rph h 5 false).code, .string (rph h 5 false).qn, .int .i64 (rph h 5 false).qt, .slice (some ⟨g1, 0, none⟩) (m8 J1.length) u1, .slice (some ⟨g2, 0, none⟩) (m8 J2.length) u2, .slice (some ⟨g3, 0, none⟩) (m8 J3.length) u3]) (res1M rfl F.out rfl) rfl ?_
    unfold GivesS8
    rw [HD.out, HA.out]
    exact ⟨g1, u1, r1, g2, u2, r2, g3, u3, r3, rfl, I1.out, I2.out, I3.out, by omega, h12, h23, E.out⟩
  · have t0 : (kk == 0) = false := by simpa using k0
    have u0 : (kk != 0) = true := by simpa using k0
    by_cases k5 : kk = 5
    · subst k5
      clear k0 t0 u0
      have HD : Hid (rcd 5 = 3) := rfl
      have HA : Hid (aut 5 = true) := rfl
      have RR := Lib.hid (RG.out 3 true)
      clear RG
      
      have SS0 : (((w2.cell? ⟨w.heap.size, 0, none⟩ = some (.string s) ∧ w2.cell? ⟨w.heap.size, 1, none⟩ = some (.slice (some ⟨b0, o0, none⟩) n c)) ∧ (w2.cell? ⟨w.heap.size + 1, 0, none⟩ = some (.int .i64 h.id) ∧ w2.cell? ⟨w.heap.size + 1, 1, none⟩ = some (.bool h.rp) ∧ w2.cell? ⟨w.heap.size + 1, 2, none⟩ = some (.bool h.au) ∧ w2.cell? ⟨w.heap.size + 1, 3, none⟩ = some (.bool h.ct) ∧ w2.cell? ⟨w.heap.size + 1, 4, none⟩ = some (.bool h.wa) ∧ w2.cell? ⟨w.heap.size + 1, 5, none⟩ = some (.bool h.ca) ∧ w2.cell? ⟨w.heap.size + 1, 6, none⟩ = some (.int .i64 h.code) ∧ w2.cell? ⟨w.heap.size + 1, 7, none⟩ = some (.string h.qn) ∧ w2.cell? ⟨w.heap.size + 1, 8, none⟩ = some (.int .i64 h.qt) ∧ w2.cell? ⟨w.heap.size + 1, 9, none⟩ = some (.slice A1 n1 c1) ∧ w2.cell? ⟨w.heap.size + 1, 10, none⟩ = some (.slice A2 n2 c2) ∧ w2.cell? ⟨w.heap.size + 1, 11, none⟩ = some (.slice A3 n3 c3))) ∧ RB w2 (w.heap.size + 1 + 1)) ∧ Sv w w2 := ⟨⟨⟨X2.out, Y2.out⟩, ⟨_, rfl, R2.out⟩⟩, L2.out⟩
      clear X2 Y2
      go_wp2
      go_region_held3 (fun w' => (((w'.cell? ⟨w.heap.size, 0, none⟩ = some (.string s) ∧ w'.cell? ⟨w.heap.size, 1, none⟩ = some (.slice (some ⟨b0, o0, none⟩) n c)) ∧ (w'.cell? ⟨w.heap.size + 1, 0, none⟩ = some (.int .i64 h.id) ∧ w'.cell? ⟨w.heap.size + 1, 1, none⟩ = some (.bool h.rp) ∧ w'.cell? ⟨w.heap.size + 1, 2, none⟩ = some (.bool h.au) ∧ w'.cell? ⟨w.heap.size + 1, 3, none⟩ = some (.bool h.ct) ∧ w'.cell? ⟨w.heap.size + 1, 4, none⟩ = some (.bool h.wa) ∧ w'.cell? ⟨w.heap.size + 1, 5, none⟩ = some (.bool h.ca) ∧ w'.cell? ⟨w.heap.size + 1, 6, none⟩ = some (.int .i64 h.code) ∧ w'.cell? ⟨w.heap.size + 1, 7, none⟩ = some (.string h.qn) ∧ w'.cell? ⟨w.heap.size + 1, 8, none⟩ = some (.int .i64 h.qt) ∧ w'.cell? ⟨w.heap.size + 1, 9, none⟩ = some (.slice A1 n1 c1) ∧ w'.cell? ⟨w.heap.size + 1, 10, none⟩ = some (.slice A2 n2 c2) ∧ w'.cell? ⟨w.heap.size + 1, 11, none⟩ = some (.slice A3 n3 c3))) ∧ RB w' (w.heap.size + 1 + 1)) ∧ Sv w w')
        (first | with_reducible exact keptS_fil (w1 := w9) (by assumption) ne0 ne1 ne2 _ _ _ _ _ _ _ _ _ _ _ _ | with_reducible exact SS0 | with_reducible assumption | with_reducible exact keptS (by assumption) hl | with_reducible exact keptS_draw (by assumption) | fail)
        (first
          | (go_at_call 137; (with_reducible refine (ASR.out _ (by assumption)).mono ?_); rintro e w3 ⟨ga, ma, ca, ra, rfl, rfl, xa, ya, ba, hl⟩; have y3 := hl)
          | (go_at_call 138; (with_reducible refine (MSR.out _ (by assumption)).mono ?_); rintro e w5 ⟨gb, mb, cb, rb, rfl, rfl, xb, yb, bb, hl⟩; have y5 := hl)
          | (go_at_call 139; (with_reducible refine (HSR.out _ (by assumption)).mono ?_); rintro e w7 ⟨gc, mc, cc, rc, rfl, rfl, xc, yc, bc, hl⟩; have y7 := hl)
          | (go_at_call 136; (with_reducible refine (F1.out _ _ _ _ ba xa).mono ?_); rintro e w4 ⟨i1, u1, r1, rfl, vx, vy, k1, hl⟩; have y4 := hl)
          | (go_at_call 136; (with_reducible refine (F2.out _ _ _ _ bb xb).mono ?_); rintro e w6 ⟨i2, u2, r2, rfl, vx2, vy2, k2, hl⟩; have y6 := hl)
          | (go_at_call 136; (with_reducible refine (F3.out _ _ _ _ bc xc).mono ?_); rintro e w8 ⟨i3, u3, r3, rfl, vx3, vy3, k3, hl⟩; have y8 := hl)
          | (go_at_call 84; have e1 := on (on (on (on k1 y5) y6) y7) y8; have e2 := on (on k2 y7) y8; (with_reducible refine (RR.out _ _ _ _ _ _ _ _ _ _ e1 e2 k3).mono ?_); rintro e w9 ⟨g1, u1, r1, g2, u2, r2, g3, u3, r3, rfl, hb1, hb2, hb3, hg, h12, h23, hl⟩; have y9 := hl; have HR := (keptS (by assumption) hl).1.2; have p0 := HR.cell 0 (by decide); have f0 := HR.free 0; have p1 := HR.cell 1 (by decide); have f1 := HR.free 1; have p2 := HR.cell 2 (by decide); have f2 := HR.free 2; have p3 := HR.cell 3 (by decide); have f3 := HR.free 3; have p4 := HR.cell 4 (by decide); have f4 := HR.free 4; have p5 := HR.cell 5 (by decide); have f5 := HR.free 5; have p6 := HR.cell 6 (by decide); have f6 := HR.free 6; have p7 := HR.cell 7 (by decide); have f7 := HR.free 7; have p8 := HR.cell 8 (by decide); have f8 := HR.free 8; have p9 := HR.cell 9 (by decide); have f9 := HR.free 9; have p10 := HR.cell 10 (by decide); have f10 := HR.free 10; have p11 := HR.cell 11 (by decide); have f11 := HR.free 11; clear HR)
          | fail)
      rename_i hH
      have a0 : Below w.heap.size w w2.drew := L2.out.drew
      have a1 := a0.trans (y3.mono a0.size)
      have a2 := a1.trans (y4.mono a1.size)
      have a3 := a2.trans (y5.mono a2.size)
      have a4 := a3.trans (y6.mono a3.size)
      have a5 := a4.trans (y7.mono a4.size)
      have a6 := a5.trans (y8.mono a5.size)
      have a7 := a6.trans (y9.mono a6.size)
      have RA : RB w9 (w.heap.size + 1 + 1) := by
        have b0 : RB w2.drew (w.heap.size + 1 + 1) := ⟨_, rfl, R2.out⟩
        exact ((((((b0.below y3).below y4).below y5).below y6).below y7).below y8).below y9
      have G4 : w.heap.size + 1 + 1 < g1 := Nat.lt_of_lt_of_le (Nat.lt_of_lt_of_le (Nat.lt_of_lt_of_le (Nat.lt_of_lt_of_le (Nat.lt_of_lt_of_le (Nat.lt_of_lt_of_le (Nat.lt_of_lt_of_le (show w.heap.size + 1 + 1 < w2.drew.heap.size from R2.out.lt) y3.size) y4.size) y5.size) y6.size) y7.size) y8.size) hg
      have F := Lib.hid (RA.fil (rph h 3 true) (.slice (some ⟨g1, 0, none⟩) (m8 J1.length) u1) (.slice (some ⟨g2, 0, none⟩) (m8 J2.length) u2) (.slice (some ⟨g3, 0, none⟩) (m8 J3.length) u3))
      have E := Lib.hid (filM_below a7 (g := w.heap.size + 1 + 1) (by omega) (rph h 3 true) (.slice (some ⟨g1, 0, none⟩) (m8 J1.length) u1) (.slice (some ⟨g2, 0, none⟩) (m8 J2.length) u2) (.slice (some ⟨g3, 0, none⟩) (m8 J3.length) u3))
      have I1 := Lib.hid (filM_other hb1 (g := w.heap.size + 1 + 1) (by omega) (rph h 3 true) (.slice (some ⟨g1, 0, none⟩) (m8 J1.length) u1) (.slice (some ⟨g2, 0, none⟩) (m8 J2.length) u2) (.slice (some ⟨g3, 0, none⟩) (m8 J3.length) u3))
      have I2 := Lib.hid (filM_other hb2 (g := w.heap.size + 1 + 1) (by omega) (rph h 3 true) (.slice (some ⟨g1, 0, none⟩) (m8 J1.length) u1) (.slice (some ⟨g2, 0, none⟩) (m8 J2.length) u2) (.slice (some ⟨g3, 0, none⟩) (m8 J3.length) u3))
      have I3 := Lib.hid (filM_other hb3 (g := w.heap.size + 1 + 1) (by omega) (rph h 3 true) (.slice (some ⟨g1, 0, none⟩) (m8 J1.length) u1) (.slice (some ⟨g2, 0, none⟩) (m8 J2.length) u2) (.slice (some ⟨g3, 0, none⟩) (m8 J3.length) u3))
      clear hH SS0 a0 a1 a2 a3 a4 a5 a6 a7 RA R2 L2 y3 y4 y5 y6 y7 y8 y9 hl hb1 hb2 hb3 ba bb bc k1 k2 k3 e1 e2 vx vy vx2 vy2 vx3 vy3 xa ya xb yb xc yc ASR MSR HSR F1 F2 F3 RR p0 f0 p1 f1 p2 f2 p3 f3 p4 f4 p5 f5 p6 f6 p7 f7 p8 f8 p9 f9 p10 f10 p11 f11
      go_wp2
      refine bodyPost_ret (v := .agg #[.int .i64 (rph h 3 true).id, .bool (rph h 3 true).rp, .bool (rph h 3 true).au, .bool (rph h 3 true).ct, .bool (rph h 3 true).wa, .bool (rph h 3 true).ca, .int .i64 (rph h 3 true).code, .string (rph h 3 true).qn, .int .i64 (rph h 3 true).qt, .slice (some ⟨g1, 0, none⟩) (m8 J1.length) u1, .slice (some ⟨g2, 0, none⟩) (m8 J2.length) u2, .slice (some ⟨g3, 0, none⟩) (m8 J3.length) u3]) (res1M rfl F.out rfl) rfl ?_
      unfold GivesS8
      rw [HD.out, HA.out]
      exact ⟨g1, u1, r1, g2, u2, r2, g3, u3, r3, rfl, I1.out, I2.out, I3.out, by omega, h12, h23, E.out⟩
    · have t5 : (kk == 5) = false := by simpa using k5
      by_cases k1 : kk = 1
      · subst k1
        clear k0 k5 t0 u0 t5
        have HD : Hid (rcd 1 = 0) := rfl
        have HA : Hid (aut 1 = false) := rfl
        have RR := Lib.hid (RG.out 0 false)
        clear RG
        
        have SS0 : (((w2.cell? ⟨w.heap.size, 0, none⟩ = some (.string s) ∧ w2.cell? ⟨w.heap.size, 1, none⟩ = some (.slice (some ⟨b0, o0, none⟩) n c)) ∧ (w2.cell? ⟨w.heap.size + 1, 0, none⟩ = some (.int .i64 h.id) ∧ w2.cell? ⟨w.heap.size + 1, 1, none⟩ = some (.bool h.rp) ∧ w2.cell? ⟨w.heap.size + 1, 2, none⟩ = some (.bool h.au) ∧ w2.cell? ⟨w.heap.size + 1, 3, none⟩ = some (.bool h.ct) ∧ w2.cell? ⟨w.heap.size + 1, 4, none⟩ = some (.bool h.wa) ∧ w2.cell? ⟨w.heap.size + 1, 5, none⟩ = some (.bool h.ca) ∧ w2.cell? ⟨w.heap.size + 1, 6, none⟩ = some (.int .i64 h.code) ∧ w2.cell? ⟨w.heap.size + 1, 7, none⟩ = some (.string h.qn) ∧ w2.cell? ⟨w.heap.size + 1, 8, none⟩ = some (.int .i64 h.qt) ∧ w2.cell? ⟨w.heap.size + 1, 9, none⟩ = some (.slice A1 n1 c1) ∧ w2.cell? ⟨w.heap.size + 1, 10, none⟩ = some (.slice A2 n2 c2) ∧ w2.cell? ⟨w.heap.size + 1, 11, none⟩ = some (.slice A3 n3 c3))) ∧ RB w2 (w.heap.size + 1 + 1)) ∧ Sv w w2 := ⟨⟨⟨X2.out, Y2.out⟩, ⟨_, rfl, R2.out⟩⟩, L2.out⟩
        clear X2 Y2
        go_wp2
        go_region_held3 (fun w' => (((w'.cell? ⟨w.heap.size, 0, none⟩ = some (.string s) ∧ w'.cell? ⟨w.heap.size, 1, none⟩ = some (.slice (some ⟨b0, o0, none⟩) n c)) ∧ (w'.cell? ⟨w.heap.size + 1, 0, none⟩ = some (.int .i64 h.id) ∧ w'.cell? ⟨w.heap.size + 1, 1, none⟩ = some (.bool h.rp) ∧ w'.cell? ⟨w.heap.size + 1, 2, none⟩ = some (.bool h.au) ∧ w'.cell? ⟨w.heap.size + 1, 3, none⟩ = some (.bool h.ct) ∧ w'.cell? ⟨w.heap.size + 1, 4, none⟩ = some (.bool h.wa) ∧ w'.cell? ⟨w.heap.size + 1, 5, none⟩ = some (.bool h.ca) ∧ w'.cell? ⟨w.heap.size + 1, 6, none⟩ = some (.int .i64 h.code) ∧ w'.cell? ⟨w.heap.size + 1, 7, none⟩ = some (.string h.qn) ∧ w'.cell? ⟨w.heap.size + 1, 8, none⟩ = some (.int .i64 h.qt) ∧ w'.cell? ⟨w.heap.size + 1, 9, none⟩ = some (.slice A1 n1 c1) ∧ w'.cell? ⟨w.heap.size + 1, 10, none⟩ = some (.slice A2 n2 c2) ∧ w'.cell? ⟨w.heap.size + 1, 11, none⟩ = some (.slice A3 n3 c3))) ∧ RB w' (w.heap.size + 1 + 1)) ∧ Sv w w')
          (first | with_reducible exact keptS_fil (w1 := w9) (by assumption) ne0 ne1 ne2 _ _ _ _ _ _ _ _ _ _ _ _ | with_reducible exact SS0 | with_reducible assumption | with_reducible exact keptS (by assumption) hl | with_reducible exact keptS_draw (by assumption) | fail)
          (first
            | (go_at_call 137; (with_reducible refine (ASR.out _ (by assumption)).mono ?_); rintro e w3 ⟨ga, ma, ca, ra, rfl, rfl, xa, ya, ba, hl⟩; have y3 := hl)
            | (go_at_call 138; (with_reducible refine (MSR.out _ (by assumption)).mono ?_); rintro e w5 ⟨gb, mb, cb, rb, rfl, rfl, xb, yb, bb, hl⟩; have y5 := hl)
            | (go_at_call 139; (with_reducible refine (HSR.out _ (by assumption)).mono ?_); rintro e w7 ⟨gc, mc, cc, rc, rfl, rfl, xc, yc, bc, hl⟩; have y7 := hl)
            | (go_at_call 136; (with_reducible refine (F1.out _ _ _ _ ba xa).mono ?_); rintro e w4 ⟨i1, u1, r1, rfl, vx, vy, k1, hl⟩; have y4 := hl)
            | (go_at_call 136; (with_reducible refine (F2.out _ _ _ _ bb xb).mono ?_); rintro e w6 ⟨i2, u2, r2, rfl, vx2, vy2, k2, hl⟩; have y6 := hl)
            | (go_at_call 136; (with_reducible refine (F3.out _ _ _ _ bc xc).mono ?_); rintro e w8 ⟨i3, u3, r3, rfl, vx3, vy3, k3, hl⟩; have y8 := hl)
            | (go_at_call 84; have e1 := on (on (on (on k1 y5) y6) y7) y8; have e2 := on (on k2 y7) y8; (with_reducible refine (RR.out _ _ _ _ _ _ _ _ _ _ e1 e2 k3).mono ?_); rintro e w9 ⟨g1, u1, r1, g2, u2, r2, g3, u3, r3, rfl, hb1, hb2, hb3, hg, h12, h23, hl⟩; have y9 := hl; have HR := (keptS (by assumption) hl).1.2; have p0 := HR.cell 0 (by decide); have f0 := HR.free 0; have p1 := HR.cell 1 (by decide); have f1 := HR.free 1; have p2 := HR.cell 2 (by decide); have f2 := HR.free 2; have p3 := HR.cell 3 (by decide); have f3 := HR.free 3; have p4 := HR.cell 4 (by decide); have f4 := HR.free 4; have p5 := HR.cell 5 (by decide); have f5 := HR.free 5; have p6 := HR.cell 6 (by decide); have f6 := HR.free 6; have p7 := HR.cell 7 (by decide); have f7 := HR.free 7; have p8 := HR.cell 8 (by decide); have f8 := HR.free 8; have p9 := HR.cell 9 (by decide); have f9 := HR.free 9; have p10 := HR.cell 10 (by decide); have f10 := HR.free 10; have p11 := HR.cell 11 (by decide); have f11 := HR.free 11; clear HR)
            | fail)
        rename_i hH
        have a0 : Below w.heap.size w w2.drew := L2.out.drew
        have a1 := a0.trans (y3.mono a0.size)
        have a2 := a1.trans (y4.mono a1.size)
        have a3 := a2.trans (y5.mono a2.size)
        have a4 := a3.trans (y6.mono a3.size)
        have a5 := a4.trans (y7.mono a4.size)
        have a6 := a5.trans (y8.mono a5.size)
        have a7 := a6.trans (y9.mono a6.size)
        have RA : RB w9 (w.heap.size + 1 + 1) := by
          have b0 : RB w2.drew (w.heap.size + 1 + 1) := ⟨_, rfl, R2.out⟩
          exact ((((((b0.below y3).below y4).below y5).below y6).below y7).below y8).below y9
        have G4 : w.heap.size + 1 + 1 < g1 := Nat.lt_of_lt_of_le (Nat.lt_of_lt_of_le (Nat.lt_of_lt_of_le (Nat.lt_of_lt_of_le (Nat.lt_of_lt_of_le (Nat.lt_of_lt_of_le (Nat.lt_of_lt_of_le (show w.heap.size + 1 + 1 < w2.drew.heap.size from R2.out.lt) y3.size) y4.size) y5.size) y6.size) y7.size) y8.size) hg
        have F := Lib.hid (RA.fil (rph h 0 false) (.slice (some ⟨g1, 0, none⟩) (m8 J1.length) u1) (.slice (some ⟨g2, 0, none⟩) (m8 J2.length) u2) (.slice (some ⟨g3, 0, none⟩) (m8 J3.length) u3))
        have E := Lib.hid (filM_below a7 (g := w.heap.size + 1 + 1) (by omega) (rph h 0 false) (.slice (some ⟨g1, 0, none⟩) (m8 J1.length) u1) (.slice (some ⟨g2, 0, none⟩) (m8 J2.length) u2) (.slice (some ⟨g3, 0, none⟩) (m8 J3.length) u3))
        have I1 := Lib.hid (filM_other hb1 (g := w.heap.size + 1 + 1) (by omega) (rph h 0 false) (.slice (some ⟨g1, 0, none⟩) (m8 J1.length) u1) (.slice (some ⟨g2, 0, none⟩) (m8 J2.length) u2) (.slice (some ⟨g3, 0, none⟩) (m8 J3.length) u3))
        have I2 := Lib.hid (filM_other hb2 (g := w.heap.size + 1 + 1) (by omega) (rph h 0 false) (.slice (some ⟨g1, 0, none⟩) (m8 J1.length) u1) (.slice (some ⟨g2, 0, none⟩) (m8 J2.length) u2) (.slice (some ⟨g3, 0, none⟩) (m8 J3.length) u3))
        have I3 := Lib.hid (filM_other hb3 (g := w.heap.size + 1 + 1) (by omega) (rph h 0 false) (.slice (some ⟨g1, 0, none⟩) (m8 J1.length) u1) (.slice (some ⟨g2, 0, none⟩) (m8 J2.length) u2) (.slice (some ⟨g3, 0, none⟩) (m8 J3.length) u3))
        clear hH SS0 a0 a1 a2 a3 a4 a5 a6 a7 RA R2 L2 y3 y4 y5 y6 y7 y8 y9 hl hb1 hb2 hb3 ba bb bc k1 k2 k3 e1 e2 vx vy vx2 vy2 vx3 vy3 xa ya xb yb xc yc ASR MSR HSR F1 F2 F3 RR p0 f0 p1 f1 p2 f2 p3 f3 p4 f4 p5 f5 p6 f6 p7 f7 p8 f8 p9 f9 p10 f10 p11 f11
        go_wp2
        refine bodyPost_ret (v := .agg #[.int .i64 (rph h 0 false).id, .bool (rph h 0 false).rp, .bool (rph h 0 false).au, .bool (rph h 0 false).ct, .bool (rph h 0 false).wa, .bool (rph h 0 false).ca, .int .i64 (rph h 0 false).code, .string (rph h 0 false).qn, .int .i64 (rph h 0 false).qt, .slice (some ⟨g1, 0, none⟩) (m8 J1.length) u1, .slice (some ⟨g2, 0, none⟩) (m8 J2.length) u2, .slice (some ⟨g3, 0, none⟩) (m8 J3.length) u3]) (res1M rfl F.out rfl) rfl ?_
        unfold GivesS8
        rw [HD.out, HA.out]
        exact ⟨g1, u1, r1, g2, u2, r2, g3, u3, r3, rfl, I1.out, I2.out, I3.out, by omega, h12, h23, E.out⟩
      · have u1 : (kk != 1) = true := by simpa using k1
        have HD : Hid (rcd kk = 0) := by show _ = _; unfold rcd; rw [if_neg k0, if_neg k5]
        have HA : Hid (aut kk = true) := by show _ = _; unfold aut; exact decide_eq_true ⟨k0, k1⟩
        have RR := Lib.hid (RG.out 0 true)
        clear RG
        clear k0 k1 k5 K6
        have SS0 : (((w2.cell? ⟨w.heap.size, 0, none⟩ = some (.string s) ∧ w2.cell? ⟨w.heap.size, 1, none⟩ = some (.slice (some ⟨b0, o0, none⟩) n c)) ∧ (w2.cell? ⟨w.heap.size + 1, 0, none⟩ = some (.int .i64 h.id) ∧ w2.cell? ⟨w.heap.size + 1, 1, none⟩ = some (.bool h.rp) ∧ w2.cell? ⟨w.heap.size + 1, 2, none⟩ = some (.bool h.au) ∧ w2.cell? ⟨w.heap.size + 1, 3, none⟩ = some (.bool h.ct) ∧ w2.cell? ⟨w.heap.size + 1, 4, none⟩ = some (.bool h.wa) ∧ w2.cell? ⟨w.heap.size + 1, 5, none⟩ = some (.bool h.ca) ∧ w2.cell? ⟨w.heap.size + 1, 6, none⟩ = some (.int .i64 h.code) ∧ w2.cell? ⟨w.heap.size + 1, 7, none⟩ = some (.string h.qn) ∧ w2.cell? ⟨w.heap.size + 1, 8, none⟩ = some (.int .i64 h.qt) ∧ w2.cell? ⟨w.heap.size + 1, 9, none⟩ = some (.slice A1 n1 c1) ∧ w2.cell? ⟨w.heap.size + 1, 10, none⟩ = some (.slice A2 n2 c2) ∧ w2.cell? ⟨w.heap.size + 1, 11, none⟩ = some (.slice A3 n3 c3))) ∧ RB w2 (w.heap.size + 1 + 1)) ∧ Sv w w2 := ⟨⟨⟨X2.out, Y2.out⟩, ⟨_, rfl, R2.out⟩⟩, L2.out⟩
        clear X2 Y2
        go_wp2
        go_region_held3 (fun w' => (((w'.cell? ⟨w.heap.size, 0, none⟩ = some (.string s) ∧ w'.cell? ⟨w.heap.size, 1, none⟩ = some (.slice (some ⟨b0, o0, none⟩) n c)) ∧ (w'.cell? ⟨w.heap.size + 1, 0, none⟩ = some (.int .i64 h.id) ∧ w'.cell? ⟨w.heap.size + 1, 1, none⟩ = some (.bool h.rp) ∧ w'.cell? ⟨w.heap.size + 1, 2, none⟩ = some (.bool h.au) ∧ w'.cell? ⟨w.heap.size + 1, 3, none⟩ = some (.bool h.ct) ∧ w'.cell? ⟨w.heap.size + 1, 4, none⟩ = some (.bool h.wa) ∧ w'.cell? ⟨w.heap.size + 1, 5, none⟩ = some (.bool h.ca) ∧ w'.cell? ⟨w.heap.size + 1, 6, none⟩ = some (.int .i64 h.code) ∧ w'.cell? ⟨w.heap.size + 1, 7, none⟩ = some (.string h.qn) ∧ w'.cell? ⟨w.heap.size + 1, 8, none⟩ = some (.int .i64 h.qt) ∧ w'.cell? ⟨w.heap.size + 1, 9, none⟩ = some (.slice A1 n1 c1) ∧ w'.cell? ⟨w.heap.size + 1, 10, none⟩ = some (.slice A2 n2 c2) ∧ w'.cell? ⟨w.heap.size + 1, 11, none⟩ = some (.slice A3 n3 c3))) ∧ RB w' (w.heap.size + 1 + 1)) ∧ Sv w w')
          (first | with_reducible exact keptS_fil (w1 := w9) (by assumption) ne0 ne1 ne2 _ _ _ _ _ _ _ _ _ _ _ _ | with_reducible exact SS0 | with_reducible assumption | with_reducible exact keptS (by assumption) hl | with_reducible exact keptS_draw (by assumption) | fail)
          (first
            | (go_at_call 137; (with_reducible refine (ASR.out _ (by assumption)).mono ?_); rintro e w3 ⟨ga, ma, ca, ra, rfl, rfl, xa, ya, ba, hl⟩; have y3 := hl)
            | (go_at_call 138; (with_reducible refine (MSR.out _ (by assumption)).mono ?_); rintro e w5 ⟨gb, mb, cb, rb, rfl, rfl, xb, yb, bb, hl⟩; have y5 := hl)
            | (go_at_call 139; (with_reducible refine (HSR.out _ (by assumption)).mono ?_); rintro e w7 ⟨gc, mc, cc, rc, rfl, rfl, xc, yc, bc, hl⟩; have y7 := hl)
            | (go_at_call 136; (with_reducible refine (F1.out _ _ _ _ ba xa).mono ?_); rintro e w4 ⟨i1, u1, r1, rfl, vx, vy, k1, hl⟩; have y4 := hl)
            | (go_at_call 136; (with_reducible refine (F2.out _ _ _ _ bb xb).mono ?_); rintro e w6 ⟨i2, u2, r2, rfl, vx2, vy2, k2, hl⟩; have y6 := hl)
            | (go_at_call 136; (with_reducible refine (F3.out _ _ _ _ bc xc).mono ?_); rintro e w8 ⟨i3, u3, r3, rfl, vx3, vy3, k3, hl⟩; have y8 := hl)
            | (go_at_call 84; have e1 := on (on (on (on k1 y5) y6) y7) y8; have e2 := on (on k2 y7) y8; (with_reducible refine (RR.out _ _ _ _ _ _ _ _ _ _ e1 e2 k3).mono ?_); rintro e w9 ⟨g1, u1, r1, g2, u2, r2, g3, u3, r3, rfl, hb1, hb2, hb3, hg, h12, h23, hl⟩; have y9 := hl; have HR := (keptS (by assumption) hl).1.2; have p0 := HR.cell 0 (by decide); have f0 := HR.free 0; have p1 := HR.cell 1 (by decide); have f1 := HR.free 1; have p2 := HR.cell 2 (by decide); have f2 := HR.free 2; have p3 := HR.cell 3 (by decide); have f3 := HR.free 3; have p4 := HR.cell 4 (by decide); have f4 := HR.free 4; have p5 := HR.cell 5 (by decide); have f5 := HR.free 5; have p6 := HR.cell 6 (by decide); have f6 := HR.free 6; have p7 := HR.cell 7 (by decide); have f7 := HR.free 7; have p8 := HR.cell 8 (by decide); have f8 := HR.free 8; have p9 := HR.cell 9 (by decide); have f9 := HR.free 9; have p10 := HR.cell 10 (by decide); have f10 := HR.free 10; have p11 := HR.cell 11 (by decide); have f11 := HR.free 11; clear HR)
            | fail)
        rename_i hH
        have a0 : Below w.heap.size w w2.drew := L2.out.drew
        have a1 := a0.trans (y3.mono a0.size)
        have a2 := a1.trans (y4.mono a1.size)
        have a3 := a2.trans (y5.mono a2.size)
        have a4 := a3.trans (y6.mono a3.size)
        have a5 := a4.trans (y7.mono a4.size)
        have a6 := a5.trans (y8.mono a5.size)
        have a7 := a6.trans (y9.mono a6.size)
        have RA : RB w9 (w.heap.size + 1 + 1) := by
          have b0 : RB w2.drew (w.heap.size + 1 + 1) := ⟨_, rfl, R2.out⟩
          exact ((((((b0.below y3).below y4).below y5).below y6).below y7).below y8).below y9
        have G4 : w.heap.size + 1 + 1 < g1 := Nat.lt_of_lt_of_le (Nat.lt_of_lt_of_le (Nat.lt_of_lt_of_le (Nat.lt_of_lt_of_le (Nat.lt_of_lt_of_le (Nat.lt_of_lt_of_le (Nat.lt_of_lt_of_le (show w.heap.size + 1 + 1 < w2.drew.heap.size from R2.out.lt) y3.size) y4.size) y5.size) y6.size) y7.size) y8.size) hg
        have F := Lib.hid (RA.fil (rph h 0 true) (.slice (some ⟨g1, 0, none⟩) (m8 J1.length) u1) (.slice (some ⟨g2, 0, none⟩) (m8 J2.length) u2) (.slice (some ⟨g3, 0, none⟩) (m8 J3.length) u3))
        have E := Lib.hid (filM_below a7 (g := w.heap.size + 1 + 1) (by omega) (rph h 0 true) (.slice (some ⟨g1, 0, none⟩) (m8 J1.length) u1) (.slice (some ⟨g2, 0, none⟩) (m8 J2.length) u2) (.slice (some ⟨g3, 0, none⟩) (m8 J3.length) u3))
        have I1 := Lib.hid (filM_other hb1 (g := w.heap.size + 1 + 1) (by omega) (rph h 0 true) (.slice (some ⟨g1, 0, none⟩) (m8 J1.length) u1) (.slice (some ⟨g2, 0, none⟩) (m8 J2.length) u2) (.slice (some ⟨g3, 0, none⟩) (m8 J3.length) u3))
        have I2 := Lib.hid (filM_other hb2 (g := w.heap.size + 1 + 1) (by omega) (rph h 0 true) (.slice (some ⟨g1, 0, none⟩) (m8 J1.length) u1) (.slice (some ⟨g2, 0, none⟩) (m8 J2.length) u2) (.slice (some ⟨g3, 0, none⟩) (m8 J3.length) u3))
        have I3 := Lib.hid (filM_other hb3 (g := w.heap.size + 1 + 1) (by omega) (rph h 0 true) (.slice (some ⟨g1, 0, none⟩) (m8 J1.length) u1) (.slice (some ⟨g2, 0, none⟩) (m8 J2.length) u2) (.slice (some ⟨g3, 0, none⟩) (m8 J3.length) u3))
        clear hH SS0 a0 a1 a2 a3 a4 a5 a6 a7 RA R2 L2 y3 y4 y5 y6 y7 y8 y9 hl hb1 hb2 hb3 ba bb bc k1 k2 k3 e1 e2 vx vy vx2 vy2 vx3 vy3 xa ya xb yb xc yc ASR MSR HSR F1 F2 F3 RR p0 f0 p1 f1 p2 f2 p3 f3 p4 f4 p5 f5 p6 f6 p7 f7 p8 f8 p9 f9 p10 f10 p11 f11
        go_wp2
        refine bodyPost_ret (v := .agg #[.int .i64 (rph h 0 true).id, .bool (rph h 0 true).rp, .bool (rph h 0 true).au, .bool (rph h 0 true).ct, .bool (rph h 0 true).wa, .bool (rph h 0 true).ca, .int .i64 (rph h 0 true).code, .string (rph h 0 true).qn, .int .i64 (rph h 0 true).qt, .slice (some ⟨g1, 0, none⟩) (m8 J1.length) u1, .slice (some ⟨g2, 0, none⟩) (m8 J2.length) u2, .slice (some ⟨g3, 0, none⟩) (m8 J3.length) u3]) (res1M rfl F.out rfl) rfl ?_
        unfold GivesS8
        rw [HD.out, HA.out]
        exact ⟨g1, u1, r1, g2, u2, r2, g3, u3, r3, rfl, I1.out, I2.out, I3.out, by omega, h12, h23, E.out⟩

end Go.Proofs.YtmkcjjgicinggaaGreatDoor.ServS

/- What ReplyAt does in the model: the answer of the zone that is served at the address, or a refusal. -/
namespace Go.Proofs.YtmkcjjgicinggaaGreatDoor.RatS
open Go.RowKit Go.Proofs.YtmkcjjgicinggaaGreatDoor.Mem Go.Proofs.YtmkcjjgicinggaaGreatDoor.MemR Go.Proofs.YtmkcjjgicinggaaGreatDoor.BoxR Go.Proofs.YtmkcjjgicinggaaGreatDoor.MemM Go.Proofs.YtmkcjjgicinggaaGreatDoor.ResM Go.Proofs.YtmkcjjgicinggaaGreatDoor.RepM Go.Proofs.YtmkcjjgicinggaaGreatDoor.MemF Go.Proofs.YtmkcjjgicinggaaGreatDoor.SetMath Go.Proofs.YtmkcjjgicinggaaGreatDoor.ForMath Go.Proofs.YtmkcjjgicinggaaGreatDoor.ServeMath Go.Proofs.YtmkcjjgicinggaaGreatDoor.ServI Go.Proofs.YtmkcjjgicinggaaGreatDoor.ShoS Go.Proofs.YtmkcjjgicinggaaGreatDoor.RatM

set_option maxRecDepth 100000 in
set_option maxHeartbeats 8000000 in
theorem spec (A : Option Addr) (n c : Nat) (zs : List Zn) (P : Option Addr) (m d : Nat) (ps : List Pst) (a : Int) (h : Hd) (A1 A2 A3 : Option Addr) (n1 c1 n2 c2 n3 c3 : Nat) (w : World) (hs : Sf True w A n zs P m ps) (hn : n ≤ 100000000) (hm : m ≤ 100000000) (hz : ∀ z ∈ zs, z.apex.size ≤ 400000000 ∧ z.l.length ≤ 1048576 ∧ ∀ r ∈ z.l, r.name.size ≤ 400000000) (hq : h.qn.size ≤ 400000000) :
    Calls Tryz.prog 33 #[.agg #[.slice A n c, .slice P m d], .int .i64 a, .agg #[.int .i64 h.id, .bool h.rp, .bool h.au, .bool h.ct, .bool h.wa, .bool h.ca, .int .i64 h.code, .string h.qn, .int .i64 h.qt, .slice A1 n1 c1, .slice A2 n2 c2, .slice A3 n3 c3]] w (GivesA w h zs ps a) := by
  obtain ⟨hx, hy, hb0, hl0⟩ := boxesF w (.slice A n c) (.slice P m d) h A1 A2 A3 n1 c1 n2 c2 n3 c3 27 45 45 _ rfl
  have X0 := Lib.hid hx
  have Y0 := Lib.hid hy
  have R0 := Lib.hid hb0
  have L0 := Lib.hid hl0
  have C1 := Lib.hid (ZonS.zoneAt True A n c zs P m d ps a h.qn (((w.alloc (.cells #[.slice A n c, .slice P m d] 27)).alloc (.cells #[.int .i64 h.id, .bool h.rp, .bool h.au, .bool h.ct, .bool h.wa, .bool h.ca, .int .i64 h.code, .string h.qn, .int .i64 h.qt, .slice A1 n1 c1, .slice A2 n2 c2, .slice A3 n3 c3] 45)).alloc (.cells #[.int .i64 0, .bool false, .bool false, .bool false, .bool false, .bool false, .int .i64 0, .string ⟨#[]⟩, .int .i64 0, .slice none 0 0, .slice none 0 0, .slice none 0 0] 45)) (hs.on hl0) (by omega) (by omega) (fun z hz' => (hz z hz').1) hq)
  have HS := Lib.hid hs
  have HZ := Lib.hid hz
  have HB := Lib.hid (zo_bound h.qn (psd a ps) (aps zs))
  have HA : Hid ((aps zs).length = n) := show _ = _ by rw [aps, List.length_map]; exact hs.1.1
  have HNo : Hid (zo h.qn (psd a ps) (aps zs) < 0 → ∀ e w', GivesM w (rph h 5 false) 0 0 0 [] [] [] e w' → GivesA w h zs ps a e w') := fun h e w' g => ga_no h g
  have HYes : Hid (∀ k : Nat, zo h.qn (psd a ps) (aps zs) = (k : Int) → ∀ hk : k < zs.length, ∀ e w', GivesS8 w h (kd zs[k].apex h.qn h.qt zs[k].l) (anl (kd zs[k].apex h.qn h.qt zs[k].l) h.qn h.qt zs[k].l) (mol (kd zs[k].apex h.qn h.qt zs[k].l) zs[k].apex h.qn zs[k].l) (hel (kd zs[k].apex h.qn h.qt zs[k].l) zs[k].apex h.qn zs[k].l) e w' → GivesA w h zs ps a e w') := fun k h hk e w' g => ga_yes h hk g
  clear hx hy hb0 hl0 hs hz
  generalize GivesA w h zs ps a = GA at *
  generalize zo h.qn (psd a ps) (aps zs) = v at *
  obtain ⟨x0, x1⟩ := X0.out
  obtain ⟨y0, y1, y2, y3, y4, y5, y6, y7, y8, y9, y10, y11⟩ := Y0.out
  go_enter Tryz.func33, Tryz.ntmps33
  go_wp2_with fail
  refine C1.out.mono ?_
  rintro e w1 ⟨rfl, hl⟩
  have L1 := Lib.hid (L0.out.trans (hl.mono L0.out.size))
  have X1 := Lib.hid (X0.out.below hl)
  have Y1 := Lib.hid (Y0.out.below hl)
  have R1 := Lib.hid (R0.out.below hl R0.out.lt)
  clear hl L0 X0 Y0 R0 x0 x1 C1 y0 y1 y2 y3 y4 y5 y6 y7 y8 y9 y10 y11
  obtain ⟨x0, x1⟩ := X1.out
  by_cases hneg : v < 0
  · have HG := Lib.hid (HNo.out hneg)
    clear HYes HNo HZ HB HS
    obtain ⟨y0, y1, y2, y3, y4, y5, y6, y7, y8, y9, y10, y11⟩ := Y1.out
    have al : Below w1.heap.size w1 (((w1.alloc (.cells #[] 93)).alloc (.cells #[] 93)).alloc (.cells #[] 93)) := (((Below.refl _ _).alloc (Nat.le_refl _) _).alloc (by simp) _).alloc (by simp; omega) _
    have C2 := Lib.hid (show Calls Tryz.prog 84 _ _ _ from RepM.spec h A1 A2 A3 n1 c1 n2 c2 n3 c3 5 false w1.heap.size 0 0 0 [] (w1.heap.size + 1) 0 0 0 [] (w1.heap.size + 1 + 1) 0 0 0 [] (((w1.alloc (.cells #[] 93)).alloc (.cells #[] 93)).alloc (.cells #[] 93)) Sr.nil (by omega) Sr.nil (by omega) Sr.nil (by omega))
    go_wp2_with fail
    refine C2.out.mono ?_
    rintro e w3 ⟨g1, u1, r1, g2, u2, r2, g3, u3, r3, rfl, hb1, hb2, hb3, hg, h12, h23, hl⟩
    have hl' : Below w1.heap.size w1 w3 := al.trans (hl.mono al.size)
    have hg' : w1.heap.size ≤ g1 := Nat.le_trans al.size hg
    have RA : RB w3 (w.heap.size + 1 + 1) := (show RB w1 (w.heap.size + 1 + 1) from ⟨_, rfl, R1.out⟩).below hl'
    have a4 : Below w.heap.size w w3 := L1.out.trans (hl'.mono L1.out.size)
    have G4 : w.heap.size + 1 + 1 < g1 := Nat.lt_of_lt_of_le R1.out.lt hg'
    have HR := RA
    have p0 := HR.cell 0 (by decide)
    have f0 := HR.free 0
    have p1 := HR.cell 1 (by decide)
    have f1 := HR.free 1
    have p2 := HR.cell 2 (by decide)
    have f2 := HR.free 2
    have p3 := HR.cell 3 (by decide)
    have f3 := HR.free 3
    have p4 := HR.cell 4 (by decide)
    have f4 := HR.free 4
    have p5 := HR.cell 5 (by decide)
    have f5 := HR.free 5
    have p6 := HR.cell 6 (by decide)
    have f6 := HR.free 6
    have p7 := HR.cell 7 (by decide)
    have f7 := HR.free 7
    have p8 := HR.cell 8 (by decide)
    have f8 := HR.free 8
    have p9 := HR.cell 9 (by decide)
    have f9 := HR.free 9
    have p10 := HR.cell 10 (by decide)
    have f10 := HR.free 10
    have p11 := HR.cell 11 (by decide)
    have f11 := HR.free 11
    clear HR
    have F := Lib.hid (RA.fil (rph h 5 false) (.slice (some ⟨g1, 0, none⟩) 0 u1) (.slice (some ⟨g2, 0, none⟩) 0 u2) (.slice (some ⟨g3, 0, none⟩) 0 u3))
    have E := Lib.hid (filM_below a4 (g := w.heap.size + 1 + 1) (by omega) (rph h 5 false) (.slice (some ⟨g1, 0, none⟩) 0 u1) (.slice (some ⟨g2, 0, none⟩) 0 u2) (.slice (some ⟨g3, 0, none⟩) 0 u3))
    have I1 := Lib.hid (filM_other hb1 (g := w.heap.size + 1 + 1) (by omega) (rph h 5 false) (.slice (some ⟨g1, 0, none⟩) 0 u1) (.slice (some ⟨g2, 0, none⟩) 0 u2) (.slice (some ⟨g3, 0, none⟩) 0 u3))
    have I2 := Lib.hid (filM_other hb2 (g := w.heap.size + 1 + 1) (by omega) (rph h 5 false) (.slice (some ⟨g1, 0, none⟩) 0 u1) (.slice (some ⟨g2, 0, none⟩) 0 u2) (.slice (some ⟨g3, 0, none⟩) 0 u3))
    have I3 := Lib.hid (filM_other hb3 (g := w.heap.size + 1 + 1) (by omega) (rph h 5 false) (.slice (some ⟨g1, 0, none⟩) 0 u1) (.slice (some ⟨g2, 0, none⟩) 0 u2) (.slice (some ⟨g3, 0, none⟩) 0 u3))
    clear RA a4 hl hl' hb1 hb2 hb3 hg hg' R1 L1 X1 Y1 C2 x0 x1 y0 y1 y2 y3 y4 y5 y6 y7 y8 y9 y10 y11
    go_wp2
    exact bodyPost_ret (v := .agg #[.int .i64 (rph h 5 false).id, .bool (rph h 5 false).rp, .bool (rph h 5 false).au, .bool (rph h 5 false).ct, .bool (rph h 5 false).wa, .bool (rph h 5 false).ca, .int .i64 (rph h 5 false).code, .string (rph h 5 false).qn, .int .i64 (rph h 5 false).qt, .slice (some ⟨g1, 0, none⟩) 0 u1, .slice (some ⟨g2, 0, none⟩) 0 u2, .slice (some ⟨g3, 0, none⟩) 0 u3]) (res1M rfl F.out rfl) rfl (HG.out _ _ ⟨g1, u1, r1, g2, u2, r2, g3, u3, r3, rfl, I1.out, I2.out, I3.out, by omega, h12, h23, E.out⟩)
  · obtain ⟨k, rfl⟩ : ∃ k : Nat, v = (k : Int) := ⟨v.toNat, by omega⟩
    have hkn : k < n := by have := HB.out.2; have := HA.out; omega
    obtain ⟨b, off, rfl, hbB, hcs⟩ := HS.out.1.2 (by omega)
    have hkz : k < zs.length := by rw [HS.out.1.1]; exact hkn
    have HG := Lib.hid (HYes.out k rfl hkz)
    obtain ⟨e0', A', n', c', e1', hr, ho⟩ := hcs k hkz
    have e0 := (L1.out.cell (p := ⟨b, off + k * 2, none⟩) hbB).trans e0'
    have e1 := (L1.out.cell (p := ⟨b, off + k * 2 + 1, none⟩) hbB).trans e1'
    clear e0' e1'
    obtain ⟨g', o', rfl⟩ := ho trivial
    have HZk := HZ.out _ (List.getElem_mem hkz)
    clear hcs HNo HYes HZ HB
    generalize zs[k] = z at *
    obtain ⟨ap, l⟩ := z
    simp only at HG HZk hr e0
    have SE : Hid (∀ W : World, (((W.cell? ⟨w.heap.size, 0, none⟩ = some (.slice (some ⟨b, off, none⟩) n c) ∧ (W.cell? ⟨b, off + k * 2, none⟩ = some (.string ap) ∧ W.cell? ⟨b, off + k * 2 + 1, none⟩ = some (.slice (some ⟨g', o', none⟩) n' c'))) ∧ (W.cell? ⟨w.heap.size + 1, 0, none⟩ = some (.int .i64 h.id) ∧ W.cell? ⟨w.heap.size + 1, 1, none⟩ = some (.bool h.rp) ∧ W.cell? ⟨w.heap.size + 1, 2, none⟩ = some (.bool h.au) ∧ W.cell? ⟨w.heap.size + 1, 3, none⟩ = some (.bool h.ct) ∧ W.cell? ⟨w.heap.size + 1, 4, none⟩ = some (.bool h.wa) ∧ W.cell? ⟨w.heap.size + 1, 5, none⟩ = some (.bool h.ca) ∧ W.cell? ⟨w.heap.size + 1, 6, none⟩ = some (.int .i64 h.code) ∧ W.cell? ⟨w.heap.size + 1, 7, none⟩ = some (.string h.qn) ∧ W.cell? ⟨w.heap.size + 1, 8, none⟩ = some (.int .i64 h.qt) ∧ W.cell? ⟨w.heap.size + 1, 9, none⟩ = some (.slice A1 n1 c1) ∧ W.cell? ⟨w.heap.size + 1, 10, none⟩ = some (.slice A2 n2 c2) ∧ W.cell? ⟨w.heap.size + 1, 11, none⟩ = some (.slice A3 n3 c3))) ∧ RB W (w.heap.size + 1 + 1)) ∧ Sv w W → Calls Tryz.prog 85 #[.agg #[.string ap, .slice (some ⟨g', o', none⟩) n' c'], .agg #[.int .i64 h.id, .bool h.rp, .bool h.au, .bool h.ct, .bool h.wa, .bool h.ca, .int .i64 h.code, .string h.qn, .int .i64 h.qt, .slice A1 n1 c1, .slice A2 n2 c2, .slice A3 n3 c3]] W (GivesS8 W h (kd ap h.qn h.qt l) (anl (kd ap h.qn h.qt l) h.qn h.qt l) (mol (kd ap h.qn h.qt l) ap h.qn l) (hel (kd ap h.qn h.qt l) ap h.qn l))) := fun W hW =>
      ServS.spec ap g' o' n' c' l h A1 A2 A3 n1 c1 n2 c2 n3 c3 W ((hr.below (w' := W) hW.2).wider hW.2.size) (by have := hr.1; have := HZk.2.1; omega) HZk.1 hq HZk.2.2
    clear hr HZk HS
    unfold GivesS8 at SE HG
    generalize rph h (rcd (kd ap h.qn h.qt l)) (aut (kd ap h.qn h.qt l)) = H at *
    generalize (anl (kd ap h.qn h.qt l) h.qn h.qt l).take 8 = j1 at *
    generalize m8 (anl (kd ap h.qn h.qt l) h.qn h.qt l).length = k1 at *
    generalize (mol (kd ap h.qn h.qt l) ap h.qn l).take 8 = j2 at *
    generalize m8 (mol (kd ap h.qn h.qt l) ap h.qn l).length = k2 at *
    generalize (hel (kd ap h.qn h.qt l) ap h.qn l).take 8 = j3 at *
    generalize m8 (hel (kd ap h.qn h.qt l) ap h.qn l).length = k3 at *
    have SS0 : (((w1.cell? ⟨w.heap.size, 0, none⟩ = some (.slice (some ⟨b, off, none⟩) n c) ∧ (w1.cell? ⟨b, off + k * 2, none⟩ = some (.string ap) ∧ w1.cell? ⟨b, off + k * 2 + 1, none⟩ = some (.slice (some ⟨g', o', none⟩) n' c'))) ∧ (w1.cell? ⟨w.heap.size + 1, 0, none⟩ = some (.int .i64 h.id) ∧ w1.cell? ⟨w.heap.size + 1, 1, none⟩ = some (.bool h.rp) ∧ w1.cell? ⟨w.heap.size + 1, 2, none⟩ = some (.bool h.au) ∧ w1.cell? ⟨w.heap.size + 1, 3, none⟩ = some (.bool h.ct) ∧ w1.cell? ⟨w.heap.size + 1, 4, none⟩ = some (.bool h.wa) ∧ w1.cell? ⟨w.heap.size + 1, 5, none⟩ = some (.bool h.ca) ∧ w1.cell? ⟨w.heap.size + 1, 6, none⟩ = some (.int .i64 h.code) ∧ w1.cell? ⟨w.heap.size + 1, 7, none⟩ = some (.string h.qn) ∧ w1.cell? ⟨w.heap.size + 1, 8, none⟩ = some (.int .i64 h.qt) ∧ w1.cell? ⟨w.heap.size + 1, 9, none⟩ = some (.slice A1 n1 c1) ∧ w1.cell? ⟨w.heap.size + 1, 10, none⟩ = some (.slice A2 n2 c2) ∧ w1.cell? ⟨w.heap.size + 1, 11, none⟩ = some (.slice A3 n3 c3))) ∧ RB w1 (w.heap.size + 1 + 1)) ∧ Sv w w1 := ⟨⟨⟨⟨x0, e0, e1⟩, Y1.out⟩, ⟨_, rfl, R1.out⟩⟩, L1.out⟩
    have nb : b < w.heap.size + 1 + 1 := by omega
    have n0 : w.heap.size ≤ w.heap.size := Nat.le_refl _
    clear x0 x1 e0 e1 X1 Y1
    go_wp2
    go_region_held3 (fun w' => (((w'.cell? ⟨w.heap.size, 0, none⟩ = some (.slice (some ⟨b, off, none⟩) n c) ∧ (w'.cell? ⟨b, off + k * 2, none⟩ = some (.string ap) ∧ w'.cell? ⟨b, off + k * 2 + 1, none⟩ = some (.slice (some ⟨g', o', none⟩) n' c'))) ∧ (w'.cell? ⟨w.heap.size + 1, 0, none⟩ = some (.int .i64 h.id) ∧ w'.cell? ⟨w.heap.size + 1, 1, none⟩ = some (.bool h.rp) ∧ w'.cell? ⟨w.heap.size + 1, 2, none⟩ = some (.bool h.au) ∧ w'.cell? ⟨w.heap.size + 1, 3, none⟩ = some (.bool h.ct) ∧ w'.cell? ⟨w.heap.size + 1, 4, none⟩ = some (.bool h.wa) ∧ w'.cell? ⟨w.heap.size + 1, 5, none⟩ = some (.bool h.ca) ∧ w'.cell? ⟨w.heap.size + 1, 6, none⟩ = some (.int .i64 h.code) ∧ w'.cell? ⟨w.heap.size + 1, 7, none⟩ = some (.string h.qn) ∧ w'.cell? ⟨w.heap.size + 1, 8, none⟩ = some (.int .i64 h.qt) ∧ w'.cell? ⟨w.heap.size + 1, 9, none⟩ = some (.slice A1 n1 c1) ∧ w'.cell? ⟨w.heap.size + 1, 10, none⟩ = some (.slice A2 n2 c2) ∧ w'.cell? ⟨w.heap.size + 1, 11, none⟩ = some (.slice A3 n3 c3))) ∧ RB w' (w.heap.size + 1 + 1)) ∧ Sv w w')
      (first | with_reducible exact keptA_fil (w1 := w6) (by assumption) n0 nb _ _ _ _ _ _ _ _ _ _ _ _ | with_reducible exact SS0 | with_reducible assumption | with_reducible exact keptA (by assumption) hl | with_reducible exact keptA_draw (by assumption) | fail)
      (first
        | (go_at_call 85; (with_reducible refine (SE.out _ (by assumption)).mono ?_); rintro e w6 ⟨g1, u1, r1, g2, u2, r2, g3, u3, r3, rfl, hb1, hb2, hb3, hg, h12, h23, hl⟩; have y4 := hl; have HR := (keptA (by assumption) hl).1.2; have p0 := HR.cell 0 (by decide); have f0 := HR.free 0; have p1 := HR.cell 1 (by decide); have f1 := HR.free 1; have p2 := HR.cell 2 (by decide); have f2 := HR.free 2; have p3 := HR.cell 3 (by decide); have f3 := HR.free 3; have p4 := HR.cell 4 (by decide); have f4 := HR.free 4; have p5 := HR.cell 5 (by decide); have f5 := HR.free 5; have p6 := HR.cell 6 (by decide); have f6 := HR.free 6; have p7 := HR.cell 7 (by decide); have f7 := HR.free 7; have p8 := HR.cell 8 (by decide); have f8 := HR.free 8; have p9 := HR.cell 9 (by decide); have f9 := HR.free 9; have p10 := HR.cell 10 (by decide); have f10 := HR.free 10; have p11 := HR.cell 11 (by decide); have f11 := HR.free 11; clear HR)
        | fail)
    rename_i hH
    have a0 : Below w.heap.size w w1.drew := L1.out.drew
    have a4 := a0.trans (y4.mono a0.size)
    have RA : RB w6 (w.heap.size + 1 + 1) := (show RB w1.drew (w.heap.size + 1 + 1) from ⟨_, rfl, R1.out⟩).below y4
    have G4 : w.heap.size + 1 + 1 < g1 := Nat.lt_of_lt_of_le (show w.heap.size + 1 + 1 < w1.drew.heap.size from R1.out.lt) hg
    have F := Lib.hid (RA.fil (H) (.slice (some ⟨g1, 0, none⟩) k1 u1) (.slice (some ⟨g2, 0, none⟩) k2 u2) (.slice (some ⟨g3, 0, none⟩) k3 u3))
    have E := Lib.hid (filM_below a4 (g := w.heap.size + 1 + 1) (by omega) (H) (.slice (some ⟨g1, 0, none⟩) k1 u1) (.slice (some ⟨g2, 0, none⟩) k2 u2) (.slice (some ⟨g3, 0, none⟩) k3 u3))
    have I1 := Lib.hid (filM_other hb1 (g := w.heap.size + 1 + 1) (by omega) (H) (.slice (some ⟨g1, 0, none⟩) k1 u1) (.slice (some ⟨g2, 0, none⟩) k2 u2) (.slice (some ⟨g3, 0, none⟩) k3 u3))
    have I2 := Lib.hid (filM_other hb2 (g := w.heap.size + 1 + 1) (by omega) (H) (.slice (some ⟨g1, 0, none⟩) k1 u1) (.slice (some ⟨g2, 0, none⟩) k2 u2) (.slice (some ⟨g3, 0, none⟩) k3 u3))
    have I3 := Lib.hid (filM_other hb3 (g := w.heap.size + 1 + 1) (by omega) (H) (.slice (some ⟨g1, 0, none⟩) k1 u1) (.slice (some ⟨g2, 0, none⟩) k2 u2) (.slice (some ⟨g3, 0, none⟩) k3 u3))
    clear hH SS0 SE RA a0 a4 y4 hl hb1 hb2 hb3 hg R1 L1 p0 f0 p1 f1 p2 f2 p3 f3 p4 f4 p5 f5 p6 f6 p7 f7 p8 f8 p9 f9 p10 f10 p11 f11
    go_wp2
    exact bodyPost_ret (v := .agg #[.int .i64 H.id, .bool H.rp, .bool H.au, .bool H.ct, .bool H.wa, .bool H.ca, .int .i64 H.code, .string H.qn, .int .i64 H.qt, .slice (some ⟨g1, 0, none⟩) k1 u1, .slice (some ⟨g2, 0, none⟩) k2 u2, .slice (some ⟨g3, 0, none⟩) k3 u3]) (res1M rfl F.out rfl) rfl (HG.out _ _ ⟨g1, u1, r1, g2, u2, r2, g3, u3, r3, rfl, I1.out, I2.out, I3.out, by omega, h12, h23, E.out⟩)
end Go.Proofs.YtmkcjjgicinggaaGreatDoor.RatS

/- The law FnExactReplyAt returns true at every name space, every address and every message, where the library variable internal/bytealg.MaxLen holds an int, and turns nothing that was there: ReplyAt answers as its model, and its answer owns its memory. -/
namespace Go.Proofs.YtmkcjjgicinggaaGreatDoor.LawReplyAt
open Go.RowKit Go.Proofs.YtmkcjjgicinggaaGreatDoor.Mem Go.Proofs.YtmkcjjgicinggaaGreatDoor.MemR Go.Proofs.YtmkcjjgicinggaaGreatDoor.MemZ Go.Proofs.YtmkcjjgicinggaaGreatDoor.BoxR Go.Proofs.YtmkcjjgicinggaaGreatDoor.MemM Go.Proofs.YtmkcjjgicinggaaGreatDoor.ResM Go.Proofs.YtmkcjjgicinggaaGreatDoor.RowR Go.Proofs.YtmkcjjgicinggaaGreatDoor.SzR Go.Proofs.YtmkcjjgicinggaaGreatDoor.SzZ Go.Proofs.YtmkcjjgicinggaaGreatDoor.SzF Go.Proofs.YtmkcjjgicinggaaGreatDoor.SzM Go.Proofs.YtmkcjjgicinggaaGreatDoor.MemF Go.Proofs.YtmkcjjgicinggaaGreatDoor.ToF Go.Proofs.YtmkcjjgicinggaaGreatDoor.EqF Go.Proofs.YtmkcjjgicinggaaGreatDoor.ForMath Go.Proofs.YtmkcjjgicinggaaGreatDoor.RatM Go.Proofs.YtmkcjjgicinggaaGreatDoor.Labels Go.Proofs.YtmkcjjgicinggaaGreatDoor.EqM Go.Proofs.YtmkcjjgicinggaaGreatDoor.EqR Go.Proofs.YtmkcjjgicinggaaGreatDoor.MarkF Go.Proofs.YtmkcjjgicinggaaGreatDoor.MarkV Go.Proofs.YtmkcjjgicinggaaGreatDoor.MarkR3 Go.Proofs.YtmkcjjgicinggaaGreatDoor.MarkM Go.Proofs.YtmkcjjgicinggaaGreatDoor.RepM Go.Proofs.YtmkcjjgicinggaaGreatDoor.ServeMath Go.Proofs.YtmkcjjgicinggaaGreatDoor.ShoS Go.Proofs.YtmkcjjgicinggaaGreatDoor.ServI

section
variable {w0 w w' : World} {g k : Nat} {s x a b c : Value} {h : Hd} {A1 A2 A3 : Option Addr} {n1 c1 n2 c2 n3 c3 : Nat}

theorem keptZ (m : ((w.cell? ⟨g, 0, none⟩ = some s ∧ w.cell? ⟨g, 1, none⟩ = some x) ∧ (w.cell? ⟨k, 0, none⟩ = some (.int .i64 h.id) ∧ w.cell? ⟨k, 1, none⟩ = some (.bool h.rp) ∧ w.cell? ⟨k, 2, none⟩ = some (.bool h.au) ∧ w.cell? ⟨k, 3, none⟩ = some (.bool h.ct) ∧ w.cell? ⟨k, 4, none⟩ = some (.bool h.wa) ∧ w.cell? ⟨k, 5, none⟩ = some (.bool h.ca) ∧ w.cell? ⟨k, 6, none⟩ = some (.int .i64 h.code) ∧ w.cell? ⟨k, 7, none⟩ = some (.string h.qn) ∧ w.cell? ⟨k, 8, none⟩ = some (.int .i64 h.qt) ∧ w.cell? ⟨k, 9, none⟩ = some (.slice A1 n1 c1) ∧ w.cell? ⟨k, 10, none⟩ = some (.slice A2 n2 c2) ∧ w.cell? ⟨k, 11, none⟩ = some (.slice A3 n3 c3))) ∧ Sv w0 w) (hl : Below w.heap.size w w') : ((w'.cell? ⟨g, 0, none⟩ = some s ∧ w'.cell? ⟨g, 1, none⟩ = some x) ∧ (w'.cell? ⟨k, 0, none⟩ = some (.int .i64 h.id) ∧ w'.cell? ⟨k, 1, none⟩ = some (.bool h.rp) ∧ w'.cell? ⟨k, 2, none⟩ = some (.bool h.au) ∧ w'.cell? ⟨k, 3, none⟩ = some (.bool h.ct) ∧ w'.cell? ⟨k, 4, none⟩ = some (.bool h.wa) ∧ w'.cell? ⟨k, 5, none⟩ = some (.bool h.ca) ∧ w'.cell? ⟨k, 6, none⟩ = some (.int .i64 h.code) ∧ w'.cell? ⟨k, 7, none⟩ = some (.string h.qn) ∧ w'.cell? ⟨k, 8, none⟩ = some (.int .i64 h.qt) ∧ w'.cell? ⟨k, 9, none⟩ = some (.slice A1 n1 c1) ∧ w'.cell? ⟨k, 10, none⟩ = some (.slice A2 n2 c2) ∧ w'.cell? ⟨k, 11, none⟩ = some (.slice A3 n3 c3))) ∧ Sv w0 w' :=
  ⟨⟨Fx.below m.1.1 hl, Mx.below m.1.2 hl⟩, m.2.trans (hl.mono m.2.size)⟩

theorem keptZ_draw (m : ((w.cell? ⟨g, 0, none⟩ = some s ∧ w.cell? ⟨g, 1, none⟩ = some x) ∧ (w.cell? ⟨k, 0, none⟩ = some (.int .i64 h.id) ∧ w.cell? ⟨k, 1, none⟩ = some (.bool h.rp) ∧ w.cell? ⟨k, 2, none⟩ = some (.bool h.au) ∧ w.cell? ⟨k, 3, none⟩ = some (.bool h.ct) ∧ w.cell? ⟨k, 4, none⟩ = some (.bool h.wa) ∧ w.cell? ⟨k, 5, none⟩ = some (.bool h.ca) ∧ w.cell? ⟨k, 6, none⟩ = some (.int .i64 h.code) ∧ w.cell? ⟨k, 7, none⟩ = some (.string h.qn) ∧ w.cell? ⟨k, 8, none⟩ = some (.int .i64 h.qt) ∧ w.cell? ⟨k, 9, none⟩ = some (.slice A1 n1 c1) ∧ w.cell? ⟨k, 10, none⟩ = some (.slice A2 n2 c2) ∧ w.cell? ⟨k, 11, none⟩ = some (.slice A3 n3 c3))) ∧ Sv w0 w) : ((w.drew.cell? ⟨g, 0, none⟩ = some s ∧ w.drew.cell? ⟨g, 1, none⟩ = some x) ∧ (w.drew.cell? ⟨k, 0, none⟩ = some (.int .i64 h.id) ∧ w.drew.cell? ⟨k, 1, none⟩ = some (.bool h.rp) ∧ w.drew.cell? ⟨k, 2, none⟩ = some (.bool h.au) ∧ w.drew.cell? ⟨k, 3, none⟩ = some (.bool h.ct) ∧ w.drew.cell? ⟨k, 4, none⟩ = some (.bool h.wa) ∧ w.drew.cell? ⟨k, 5, none⟩ = some (.bool h.ca) ∧ w.drew.cell? ⟨k, 6, none⟩ = some (.int .i64 h.code) ∧ w.drew.cell? ⟨k, 7, none⟩ = some (.string h.qn) ∧ w.drew.cell? ⟨k, 8, none⟩ = some (.int .i64 h.qt) ∧ w.drew.cell? ⟨k, 9, none⟩ = some (.slice A1 n1 c1) ∧ w.drew.cell? ⟨k, 10, none⟩ = some (.slice A2 n2 c2) ∧ w.drew.cell? ⟨k, 11, none⟩ = some (.slice A3 n3 c3))) ∧ Sv w0 w.drew := keptZ m ((Below.refl _ _).drew)

theorem keptZ_alloc (m : ((w.cell? ⟨g, 0, none⟩ = some s ∧ w.cell? ⟨g, 1, none⟩ = some x) ∧ (w.cell? ⟨k, 0, none⟩ = some (.int .i64 h.id) ∧ w.cell? ⟨k, 1, none⟩ = some (.bool h.rp) ∧ w.cell? ⟨k, 2, none⟩ = some (.bool h.au) ∧ w.cell? ⟨k, 3, none⟩ = some (.bool h.ct) ∧ w.cell? ⟨k, 4, none⟩ = some (.bool h.wa) ∧ w.cell? ⟨k, 5, none⟩ = some (.bool h.ca) ∧ w.cell? ⟨k, 6, none⟩ = some (.int .i64 h.code) ∧ w.cell? ⟨k, 7, none⟩ = some (.string h.qn) ∧ w.cell? ⟨k, 8, none⟩ = some (.int .i64 h.qt) ∧ w.cell? ⟨k, 9, none⟩ = some (.slice A1 n1 c1) ∧ w.cell? ⟨k, 10, none⟩ = some (.slice A2 n2 c2) ∧ w.cell? ⟨k, 11, none⟩ = some (.slice A3 n3 c3))) ∧ Sv w0 w) (o : Obj) : (((w.alloc o).cell? ⟨g, 0, none⟩ = some s ∧ (w.alloc o).cell? ⟨g, 1, none⟩ = some x) ∧ ((w.alloc o).cell? ⟨k, 0, none⟩ = some (.int .i64 h.id) ∧ (w.alloc o).cell? ⟨k, 1, none⟩ = some (.bool h.rp) ∧ (w.alloc o).cell? ⟨k, 2, none⟩ = some (.bool h.au) ∧ (w.alloc o).cell? ⟨k, 3, none⟩ = some (.bool h.ct) ∧ (w.alloc o).cell? ⟨k, 4, none⟩ = some (.bool h.wa) ∧ (w.alloc o).cell? ⟨k, 5, none⟩ = some (.bool h.ca) ∧ (w.alloc o).cell? ⟨k, 6, none⟩ = some (.int .i64 h.code) ∧ (w.alloc o).cell? ⟨k, 7, none⟩ = some (.string h.qn) ∧ (w.alloc o).cell? ⟨k, 8, none⟩ = some (.int .i64 h.qt) ∧ (w.alloc o).cell? ⟨k, 9, none⟩ = some (.slice A1 n1 c1) ∧ (w.alloc o).cell? ⟨k, 10, none⟩ = some (.slice A2 n2 c2) ∧ (w.alloc o).cell? ⟨k, 11, none⟩ = some (.slice A3 n3 c3))) ∧ Sv w0 (w.alloc o) := keptZ m ((Below.refl _ _).alloc (Nat.le_refl _) _)

theorem keptZ_put (m : ((w.cell? ⟨g, 0, none⟩ = some s ∧ w.cell? ⟨g, 1, none⟩ = some x) ∧ (w.cell? ⟨k, 0, none⟩ = some (.int .i64 h.id) ∧ w.cell? ⟨k, 1, none⟩ = some (.bool h.rp) ∧ w.cell? ⟨k, 2, none⟩ = some (.bool h.au) ∧ w.cell? ⟨k, 3, none⟩ = some (.bool h.ct) ∧ w.cell? ⟨k, 4, none⟩ = some (.bool h.wa) ∧ w.cell? ⟨k, 5, none⟩ = some (.bool h.ca) ∧ w.cell? ⟨k, 6, none⟩ = some (.int .i64 h.code) ∧ w.cell? ⟨k, 7, none⟩ = some (.string h.qn) ∧ w.cell? ⟨k, 8, none⟩ = some (.int .i64 h.qt) ∧ w.cell? ⟨k, 9, none⟩ = some (.slice A1 n1 c1) ∧ w.cell? ⟨k, 10, none⟩ = some (.slice A2 n2 c2) ∧ w.cell? ⟨k, 11, none⟩ = some (.slice A3 n3 c3))) ∧ Sv w0 w) {b : Nat} (h1 : g ≠ b) (h2 : k ≠ b) (h3 : w0.heap.size ≤ b) (i : Nat) (v : Value) : (((w.setCell ⟨b, i, none⟩ v).cell? ⟨g, 0, none⟩ = some s ∧ (w.setCell ⟨b, i, none⟩ v).cell? ⟨g, 1, none⟩ = some x) ∧ ((w.setCell ⟨b, i, none⟩ v).cell? ⟨k, 0, none⟩ = some (.int .i64 h.id) ∧ (w.setCell ⟨b, i, none⟩ v).cell? ⟨k, 1, none⟩ = some (.bool h.rp) ∧ (w.setCell ⟨b, i, none⟩ v).cell? ⟨k, 2, none⟩ = some (.bool h.au) ∧ (w.setCell ⟨b, i, none⟩ v).cell? ⟨k, 3, none⟩ = some (.bool h.ct) ∧ (w.setCell ⟨b, i, none⟩ v).cell? ⟨k, 4, none⟩ = some (.bool h.wa) ∧ (w.setCell ⟨b, i, none⟩ v).cell? ⟨k, 5, none⟩ = some (.bool h.ca) ∧ (w.setCell ⟨b, i, none⟩ v).cell? ⟨k, 6, none⟩ = some (.int .i64 h.code) ∧ (w.setCell ⟨b, i, none⟩ v).cell? ⟨k, 7, none⟩ = some (.string h.qn) ∧ (w.setCell ⟨b, i, none⟩ v).cell? ⟨k, 8, none⟩ = some (.int .i64 h.qt) ∧ (w.setCell ⟨b, i, none⟩ v).cell? ⟨k, 9, none⟩ = some (.slice A1 n1 c1) ∧ (w.setCell ⟨b, i, none⟩ v).cell? ⟨k, 10, none⟩ = some (.slice A2 n2 c2) ∧ (w.setCell ⟨b, i, none⟩ v).cell? ⟨k, 11, none⟩ = some (.slice A3 n3 c3))) ∧ Sv w0 (w.setCell ⟨b, i, none⟩ v) :=
  ⟨⟨Fx.move m.1.1 (fun _ => World.cell?_of_block (Below.heap_setCell w ⟨b, i, none⟩ v g h1)), Mx.set1 m.1.2 (p := ⟨b, i, none⟩) h2 v⟩, Below.setCell m.2 (p := ⟨b, i, none⟩) h3 v⟩

theorem keptZ_fil (m : ((w.cell? ⟨g, 0, none⟩ = some s ∧ w.cell? ⟨g, 1, none⟩ = some x) ∧ (w.cell? ⟨k, 0, none⟩ = some (.int .i64 h.id) ∧ w.cell? ⟨k, 1, none⟩ = some (.bool h.rp) ∧ w.cell? ⟨k, 2, none⟩ = some (.bool h.au) ∧ w.cell? ⟨k, 3, none⟩ = some (.bool h.ct) ∧ w.cell? ⟨k, 4, none⟩ = some (.bool h.wa) ∧ w.cell? ⟨k, 5, none⟩ = some (.bool h.ca) ∧ w.cell? ⟨k, 6, none⟩ = some (.int .i64 h.code) ∧ w.cell? ⟨k, 7, none⟩ = some (.string h.qn) ∧ w.cell? ⟨k, 8, none⟩ = some (.int .i64 h.qt) ∧ w.cell? ⟨k, 9, none⟩ = some (.slice A1 n1 c1) ∧ w.cell? ⟨k, 10, none⟩ = some (.slice A2 n2 c2) ∧ w.cell? ⟨k, 11, none⟩ = some (.slice A3 n3 c3))) ∧ Sv w0 w) {b : Nat} (h1 : g ≠ b) (h2 : k ≠ b) (h3 : w0.heap.size ≤ b) (v0 v1 v2 v3 v4 v5 v6 v7 v8 v9 v10 v11 : Value) : ((((((((((((((w.setCell ⟨b, 0, none⟩ v0).setCell ⟨b, 1, none⟩ v1).setCell ⟨b, 2, none⟩ v2).setCell ⟨b, 3, none⟩ v3).setCell ⟨b, 4, none⟩ v4).setCell ⟨b, 5, none⟩ v5).setCell ⟨b, 6, none⟩ v6).setCell ⟨b, 7, none⟩ v7).setCell ⟨b, 8, none⟩ v8).setCell ⟨b, 9, none⟩ v9).setCell ⟨b, 10, none⟩ v10).setCell ⟨b, 11, none⟩ v11).cell? ⟨g, 0, none⟩ = some s ∧ ((((((((((((w.setCell ⟨b, 0, none⟩ v0).setCell ⟨b, 1, none⟩ v1).setCell ⟨b, 2, none⟩ v2).setCell ⟨b, 3, none⟩ v3).setCell ⟨b, 4, none⟩ v4).setCell ⟨b, 5, none⟩ v5).setCell ⟨b, 6, none⟩ v6).setCell ⟨b, 7, none⟩ v7).setCell ⟨b, 8, none⟩ v8).setCell ⟨b, 9, none⟩ v9).setCell ⟨b, 10, none⟩ v10).setCell ⟨b, 11, none⟩ v11).cell? ⟨g, 1, none⟩ = some x) ∧ (((((((((((((w.setCell ⟨b, 0, none⟩ v0).setCell ⟨b, 1, none⟩ v1).setCell ⟨b, 2, none⟩ v2).setCell ⟨b, 3, none⟩ v3).setCell ⟨b, 4, none⟩ v4).setCell ⟨b, 5, none⟩ v5).setCell ⟨b, 6, none⟩ v6).setCell ⟨b, 7, none⟩ v7).setCell ⟨b, 8, none⟩ v8).setCell ⟨b, 9, none⟩ v9).setCell ⟨b, 10, none⟩ v10).setCell ⟨b, 11, none⟩ v11).cell? ⟨k, 0, none⟩ = some (.int .i64 h.id) ∧ ((((((((((((w.setCell ⟨b, 0, none⟩ v0).setCell ⟨b, 1, none⟩ v1).setCell ⟨b, 2, none⟩ v2).setCell ⟨b, 3, none⟩ v3).setCell ⟨b, 4, none⟩ v4).setCell ⟨b, 5, none⟩ v5).setCell ⟨b, 6, none⟩ v6).setCell ⟨b, 7, none⟩ v7).setCell ⟨b, 8, none⟩ v8).setCell ⟨b, 9, none⟩ v9).setCell ⟨b, 10, none⟩ v10).setCell ⟨b, 11, none⟩ v11).cell? ⟨k, 1, none⟩ = some (.bool h.rp) ∧ ((((((((((((w.setCell ⟨b, 0, none⟩ v0).setCell ⟨b, 1, none⟩ v1).setCell ⟨b, 2, none⟩ v2).setCell ⟨b, 3, none⟩ v3).setCell ⟨b, 4, none⟩ v4).setCell ⟨b, 5, none⟩ v5).setCell ⟨b, 6, none⟩ v6).setCell ⟨b, 7, none⟩ v7).setCell ⟨b, 8, none⟩ v8).setCell ⟨b, 9, none⟩ v9).setCell ⟨b, 10, none⟩ v10).setCell ⟨b, 11, none⟩ v11).cell? ⟨k, 2, none⟩ = some (.bool h.au) ∧ ((((((((((((w.setCell ⟨b, 0, none⟩ v0).setCell ⟨b, 1, none⟩ v1).setCell ⟨b, 2, none⟩ v2).setCell ⟨b, 3, none⟩ v3).setCell ⟨b, 4, none⟩ v4).setCell ⟨b, 5, none⟩ v5).setCell ⟨b, 6, none⟩ v6).setCell ⟨b, 7, none⟩ v7).setCell ⟨b, 8, none⟩ v8).setCell ⟨b, 9, none⟩ v9).setCell ⟨b, 10, none⟩ v10).setCell ⟨b, 11, none⟩ v11).cell? ⟨k, 3, none⟩ = some (.bool h.ct) ∧ ((((((((((((w.setCell ⟨b, 0, none⟩ v0).setCell ⟨b, 1, none⟩ v1).setCell ⟨b, 2, none⟩ v2).setCell ⟨b, 3, none⟩ v3).setCell ⟨b, 4, none⟩ v4).setCell ⟨b, 5, none⟩ v5).setCell ⟨b, 6, none⟩ v6).setCell ⟨b, 7, none⟩ v7).setCell ⟨b, 8, none⟩ v8).setCell ⟨b, 9, none⟩ v9).setCell ⟨b, 10, none⟩ v10).setCell ⟨b, 11, none⟩ v11).cell? ⟨k, 4, none⟩ = some (.bool h.wa) ∧ ((((((((((((w.setCell ⟨b, 0, none⟩ v0).setCell ⟨b, 1, none⟩ v1).setCell ⟨b, 2, none⟩ v2).setCell ⟨b, 3, none⟩ v3).setCell ⟨b, 4, none⟩ v4).setCell ⟨b, 5, none⟩ v5).setCell ⟨b, 6, none⟩ v6).setCell ⟨b, 7, none⟩ v7).setCell ⟨b, 8, none⟩ v8).setCell ⟨b, 9, none⟩ v9).setCell ⟨b, 10, none⟩ v10).setCell ⟨b, 11, none⟩ v11).cell? ⟨k, 5, none⟩ = some (.bool h.ca) ∧ ((((((((((((w.setCell ⟨b, 0, none⟩ v0).setCell ⟨b, 1, none⟩ v1).setCell ⟨b, 2, none⟩ v2).setCell ⟨b, 3, none⟩ v3).setCell ⟨b, 4, none⟩ v4).setCell ⟨b, 5, none⟩ v5).setCell ⟨b, 6, none⟩ v6).setCell ⟨b, 7, none⟩ v7).setCell ⟨b, 8, none⟩ v8).setCell ⟨b, 9, none⟩ v9).setCell ⟨b, 10, none⟩ v10).setCell ⟨b, 11, none⟩ v11).cell? ⟨k, 6, none⟩ = some (.int .i64 h.code) ∧ ((((((((((((w.setCell ⟨b, 0, none⟩ v0).setCell ⟨b, 1, none⟩ v1).setCell ⟨b, 2, none⟩ v2).setCell ⟨b, 3, none⟩ v3).setCell ⟨b, 4, none⟩ v4).setCell ⟨b, 5, none⟩ v5).setCell ⟨b, 6, none⟩ v6).setCell ⟨b, 7, none⟩ v7).setCell ⟨b, 8, none⟩ v8).setCell ⟨b, 9, none⟩ v9).setCell ⟨b, 10, none⟩ v10).setCell ⟨b, 11, none⟩ v11).cell? ⟨k, 7, none⟩ = some (.string h.qn) ∧ ((((((((((((w.setCell ⟨b, 0, none⟩ v0).setCell ⟨b, 1, none⟩ v1).setCell ⟨b, 2, none⟩ v2).setCell ⟨b, 3, none⟩ v3).setCell ⟨b, 4, none⟩ v4).setCell ⟨b, 5, none⟩ v5).setCell ⟨b, 6, none⟩ v6).setCell ⟨b, 7, none⟩ v7).setCell ⟨b, 8, none⟩ v8).setCell ⟨b, 9, none⟩ v9).setCell ⟨b, 10, none⟩ v10).setCell ⟨b, 11, none⟩ v11).cell? ⟨k, 8, none⟩ = some (.int .i64 h.qt) ∧ ((((((((((((w.setCell ⟨b, 0, none⟩ v0).setCell ⟨b, 1, none⟩ v1).setCell ⟨b, 2, none⟩ v2).setCell ⟨b, 3, none⟩ v3).setCell ⟨b, 4, none⟩ v4).setCell ⟨b, 5, none⟩ v5).setCell ⟨b, 6, none⟩ v6).setCell ⟨b, 7, none⟩ v7).setCell ⟨b, 8, none⟩ v8).setCell ⟨b, 9, none⟩ v9).setCell ⟨b, 10, none⟩ v10).setCell ⟨b, 11, none⟩ v11).cell? ⟨k, 9, none⟩ = some (.slice A1 n1 c1) ∧ ((((((((((((w.setCell ⟨b, 0, none⟩ v0).setCell ⟨b, 1, none⟩ v1).setCell ⟨b, 2, none⟩ v2).setCell ⟨b, 3, none⟩ v3).setCell ⟨b, 4, none⟩ v4).setCell ⟨b, 5, none⟩ v5).setCell ⟨b, 6, none⟩ v6).setCell ⟨b, 7, none⟩ v7).setCell ⟨b, 8, none⟩ v8).setCell ⟨b, 9, none⟩ v9).setCell ⟨b, 10, none⟩ v10).setCell ⟨b, 11, none⟩ v11).cell? ⟨k, 10, none⟩ = some (.slice A2 n2 c2) ∧ ((((((((((((w.setCell ⟨b, 0, none⟩ v0).setCell ⟨b, 1, none⟩ v1).setCell ⟨b, 2, none⟩ v2).setCell ⟨b, 3, none⟩ v3).setCell ⟨b, 4, none⟩ v4).setCell ⟨b, 5, none⟩ v5).setCell ⟨b, 6, none⟩ v6).setCell ⟨b, 7, none⟩ v7).setCell ⟨b, 8, none⟩ v8).setCell ⟨b, 9, none⟩ v9).setCell ⟨b, 10, none⟩ v10).setCell ⟨b, 11, none⟩ v11).cell? ⟨k, 11, none⟩ = some (.slice A3 n3 c3))) ∧ Sv w0 ((((((((((((w.setCell ⟨b, 0, none⟩ v0).setCell ⟨b, 1, none⟩ v1).setCell ⟨b, 2, none⟩ v2).setCell ⟨b, 3, none⟩ v3).setCell ⟨b, 4, none⟩ v4).setCell ⟨b, 5, none⟩ v5).setCell ⟨b, 6, none⟩ v6).setCell ⟨b, 7, none⟩ v7).setCell ⟨b, 8, none⟩ v8).setCell ⟨b, 9, none⟩ v9).setCell ⟨b, 10, none⟩ v10).setCell ⟨b, 11, none⟩ v11) :=
  keptZ_put (keptZ_put (keptZ_put (keptZ_put (keptZ_put (keptZ_put (keptZ_put (keptZ_put (keptZ_put (keptZ_put (keptZ_put (keptZ_put m h1 h2 h3 0 v0) h1 h2 h3 1 v1) h1 h2 h3 2 v2) h1 h2 h3 3 v3) h1 h2 h3 4 v4) h1 h2 h3 5 v5) h1 h2 h3 6 v6) h1 h2 h3 7 v7) h1 h2 h3 8 v8) h1 h2 h3 9 v9) h1 h2 h3 10 v10) h1 h2 h3 11 v11

theorem fx_turned {g1 g2 g3 : Nat} (k : Turned w w' g1 g2 g3) (m : Fx w g s x) (e1 : g ≠ g1) (e2 : g ≠ g2) (e3 : g ≠ g3) : Fx w' g s x := m.move fun _ => World.cell?_of_block (k.2.1 g m.lt e1 e2 e3)

theorem mx_kp {own : Nat → Prop} {h : Hd} {x y z : Value} (m : Mx w g h x y z) (k : Kp own w w') (hn : ¬ own g) : Mx w' g h x y z := m.move fun _ => World.cell?_of_block (k.2.2.2.2 g m.lt hn)

theorem kept2f {x' y' y : Value} (m : (Fx w g x y ∧ Fx w k x' y') ∧ Svz w0 w) (hl : Below w.heap.size w w') : (Fx w' g x y ∧ Fx w' k x' y') ∧ Svz w0 w' := ⟨⟨m.1.1.below hl, m.1.2.below hl⟩, m.2.trans (hl.mono m.2.size)⟩
theorem kept2f_draw {x' y' y : Value} (m : (Fx w g x y ∧ Fx w k x' y') ∧ Svz w0 w) : (Fx w.drew g x y ∧ Fx w.drew k x' y') ∧ Svz w0 w.drew := kept2f m ((Below.refl _ _).drew)

theorem mws_le : ∀ (zs : List Zn) (gs : List Nat), mws (zs.zip gs) ≤ zs.length + 6 * zws zs
  | [], _ => Nat.zero_le _
  | z :: zs, [] => Nat.zero_le _
  | z :: zs, g :: gs => by
    have h := mws_le zs gs
    have e1 : mws ((z :: zs).zip (g :: gs)) = (1 + 6 * z.l.length) + mws (zs.zip gs) := by unfold mws; rw [List.zip_cons_cons, List.map_cons, List.sum_cons]
    have e2 : zws (z :: zs) = zw z + zws zs := by unfold zws; rw [List.map_cons, List.sum_cons]
    have e3 : z.l.length ≤ zw z := by unfold zw; omega
    rw [e1, e2, List.length_cons]
    omega

/-- A copy of the name space, all of it the call's own. -/
def Of (zs : List Zn) (ps : List Pst) (lo g : Nat) (gs : List Nat) (h : Nat) (W : World) : Prop := Env W ∧ Oz W lo g zs gs ∧ Bk W h 103 (fp ps)
theorem Of.below {zs : List Zn} {ps : List Pst} {lo g : Nat} {gs : List Nat} {h : Nat} {W W' : World} (k : Of zs ps lo g gs h W) (hb : Below W.heap.size W W') : Of zs ps lo g gs h W' := ⟨k.1.below hb, k.2.1.below hb, k.2.2.below hb k.2.2.lt⟩
theorem Of.alloc {zs : List Zn} {ps : List Pst} {lo g : Nat} {gs : List Nat} {h : Nat} {W : World} (k : Of zs ps lo g gs h W) (o : Obj) : Of zs ps lo g gs h (W.alloc o) := k.below ((Below.refl _ _).alloc (Nat.le_refl _) _)
theorem Of.sf {zs : List Zn} {ps : List Pst} {lo g : Nat} {gs : List Nat} {h n m : Nat} {W : World} (k : Of zs ps lo g gs h W) (hn : zs.length = n) (hm : ps.length = m) : Sf True W (some ⟨g, 0, none⟩) n zs (some ⟨h, 0, none⟩) m ps := ⟨k.2.1.sz hn, bk_sp0 k.2.2 hm⟩
theorem Of.lt {zs : List Zn} {ps : List Pst} {lo g : Nat} {gs : List Nat} {h : Nat} {W : World} (k : Of zs ps lo g gs h W) : ∀ j ∈ h :: g :: gs, j < W.heap.size := fun j hj => by
  rcases List.mem_cons.1 hj with rfl | hj
  · exact k.2.2.lt
  · exact Nat.lt_of_not_le fun hx => oz_high k.2.1 hx hj

theorem rb_new (w : World) : RB (w.alloc (.cells #[.int .i64 0, .bool false, .bool false, .bool false, .bool false, .bool false, .int .i64 0, .string ⟨#[]⟩, .int .i64 0, .slice none 0 0, .slice none 0 0, .slice none 0 0] 45)) w.heap.size := ⟨_, rfl, heap_alloc_new w _⟩

theorem rb_new1 (w : World) : RB (w.alloc (.cells #[.int .i64 0, .bool false, .bool false, .bool false, .bool false, .bool false, .int .i64 0, .string ⟨#[]⟩, .int .i64 0, .slice none 0 0, .slice none 0 0, .slice none 0 0] 45)).drew w.heap.size := (rb_new w).below ((Below.refl _ _).drew)

theorem rb_lt {w : World} {g : Nat} (k : RB w g) : g < w.heap.size := by
  obtain ⟨cs, _, k⟩ := k
  exact k.lt
end

set_option maxRecDepth 100000 in
set_option maxHeartbeats 16000000 in
theorem walk (A : Option Addr) (n c : Nat) (zs : List Zn) (P : Option Addr) (m d : Nat) (ps : List Pst) (a : Int) (h : Hd) (A1 : Option Addr) (n1 c1 : Nat) (l1 : List Rec) (A2 : Option Addr) (n2 c2 : Nat) (l2 : List Rec) (A3 : Option Addr) (n3 c3 : Nat) (l3 : List Rec) (w : World) (he : Env w) (hs : Sf False w A n zs P m ps) (hn : n ≤ 9223372036854775807) (hm : m ≤ 9223372036854775807) (hz : ∀ z ∈ zs, SmallZ z) (hp : ∀ p ∈ ps, p.apex.size ≤ 9223372036854775807) (hq : h.qn.size ≤ 9223372036854775807) (i1 : IsRecs w A1 n1 l1) (i2 : IsRecs w A2 n2 l2) (i3 : IsRecs w A3 n3 l3) :
    Calls Tryz.prog 6 #[.agg #[.slice A n c, .slice P m d], .int .i64 a, .agg #[.int .i64 h.id, .bool h.rp, .bool h.au, .bool h.ct, .bool h.wa, .bool h.ca, .int .i64 h.code, .string h.qn, .int .i64 h.qt, .slice A1 n1 c1, .slice A2 n2 c2, .slice A3 n3 c3]] w fun e w' => e = .returned (.bool true) ∧ Below w.heap.size w w' := by
  have HE := Lib.hid he
  have Q0 := Lib.hid hp
  have L0 := Lib.hid (((Below.refl w.heap.size w).alloc (Nat.le_refl _) (.cells #[.slice A n c, .slice P m d] 63)).alloc (by simp) (.cells #[.int .i64 h.id, .bool h.rp, .bool h.au, .bool h.ct, .bool h.wa, .bool h.ca, .int .i64 h.code, .string h.qn, .int .i64 h.qt, .slice A1 n1 c1, .slice A2 n2 c2, .slice A3 n3 c3] 73))
  have J0 := Lib.hid ((fx_new w 63 (.slice A n c) (.slice P m d)).alloc (.cells #[.int .i64 h.id, .bool h.rp, .bool h.au, .bool h.ct, .bool h.wa, .bool h.ca, .int .i64 h.code, .string h.qn, .int .i64 h.qt, .slice A1 n1 c1, .slice A2 n2 c2, .slice A3 n3 c3] 73))
  have X0 : Hid (Mx ((w.alloc (.cells #[.slice A n c, .slice P m d] 63)).alloc (.cells #[.int .i64 h.id, .bool h.rp, .bool h.au, .bool h.ct, .bool h.wa, .bool h.ca, .int .i64 h.code, .string h.qn, .int .i64 h.qt, .slice A1 n1 c1, .slice A2 n2 c2, .slice A3 n3 c3] 73)) (w.heap.size + 1) h (.slice A1 n1 c1) (.slice A2 n2 c2) (.slice A3 n3 c3)) := by
    have := mx_new (w.alloc (.cells #[.slice A n c, .slice P m d] 63)) 73 h (.slice A1 n1 c1) (.slice A2 n2 c2) (.slice A3 n3 c3)
    rw [show (w.alloc (.cells #[.slice A n c, .slice P m d] 63)).heap.size = w.heap.size + 1 by simp] at this
    exact this
  have S0 := Lib.hid hs
  have Z0 := Lib.hid hz
  have S1 := Lib.hid i1.1
  have b1 := i1.2.1
  have Z1 : Hid (Sms l1) := i1.2.2
  have B1 := Lib.hid i1.1.1
  have S2 := Lib.hid i2.1
  have b2 := i2.2.1
  have Z2 : Hid (Sms l2) := i2.2.2
  have B2 := Lib.hid i2.1.1
  have S3 := Lib.hid i3.1
  have b3 := i3.2.1
  have Z3 : Hid (Sms l3) := i3.2.2
  have B3 := Lib.hid i3.1.1
  clear he hp i1 i2 i3 hs hz
  go_enter Tryz.func6, Tryz.ntmps6
  obtain ⟨z0, z1⟩ := J0.out
  go_wp2_with fail
  refine (szForest_any False A n c zs P m d ps 1048576 _ (by omega) (by omega) (S0.out.on L0.out) hn hm Z0.out Q0.out).mono ?_
  rintro e w1 ⟨y, rfl, hy0, hy1, hy, hl⟩
  have E0 := Lib.hid hy
  have L1 := Lib.hid (L0.out.trans (hl.mono L0.out.size))
  have J1 := Lib.hid (J0.out.below hl)
  have X1 := Lib.hid (X0.out.below hl)
  clear hl L0 J0 X0
  clear hy z0 z1 
  by_cases negy : y < 0
  · go_wp2
    go_ret
    exact ⟨rfl, L1.out⟩
  have E1 := Lib.hid (E0.out (by omega))
  clear E0
  have HN : Hid (zs.length = n) := S0.out.1.1
  have HM : Hid (ps.length = m) := S0.out.2.1
  have bn : n ≤ 1048576 := by have := E1.out; have := HN.out; omega
  have bmm : m ≤ 1048576 := by have := E1.out; have := HM.out; omega
  have HR : Hid (∀ z ∈ zs, z.apex.size ≤ 400000000 ∧ z.l.length ≤ 1048576 ∧ ∀ r ∈ z.l, r.name.size ≤ 400000000) := fun z hz => by
    have := E1.out
    have h1 := zws_le zs z hz
    unfold zw at h1
    refine ⟨by omega, by omega, fun r hr => ?_⟩
    have h2 := tot_le z.l r hr
    unfold rz at h2
    omega
  have HZ2 : Hid (∀ z ∈ zs, z.l.length ≤ 400000000) := fun z hz => Nat.le_trans (HR.out z hz).2.1 (by decide)
  have HW : Hid (∀ gs, 1 + mws (zs.zip gs) + 2 * m ≤ 10000000) := fun gs => by
    have h1 := mws_le zs gs
    have := E1.out
    have := HM.out
    omega
  clear E1 Z0 Q0
  obtain ⟨x0_0, x0_1, x0_2, x0_3, x0_4, x0_5, x0_6, x0_7, x0_8, x0_9, x0_10, x0_11⟩ := X1.out
  go_wp2_with fail
  refine (szMsg_any h A1 n1 c1 l1 A2 n2 c2 l2 A3 n3 c3 l3 y _ (by omega) (by omega) hq (S1.out.on L1.out) b1 Z1.out (S2.out.on L1.out) b2 Z2.out (S3.out.on L1.out) b3 Z3.out).mono ?_
  rintro e w2 ⟨yy, rfl, ha0, ha1, ha, hl⟩
  have E2 := Lib.hid ha
  have L2 := Lib.hid (L1.out.trans (hl.mono L1.out.size))
  have J2 := Lib.hid (J1.out.below hl)
  have X2 := Lib.hid (X1.out.below hl)
  clear hl L1 J1 X1
  clear ha x0_0 x0_1 x0_2 x0_3 x0_4 x0_5 x0_6 x0_7 x0_8 x0_9 x0_10 x0_11
  by_cases negyy : yy < 0
  · go_wp2
    go_ret
    exact ⟨rfl, L2.out⟩
  have bq : h.qn.size ≤ 400000000 ∧ n1 + n2 + n3 ≤ 1048576 := by
    have e0 := E2.out (by omega)
    have a1 := B1.out
    have a2 := B2.out
    have a3 := B3.out
    unfold mz at e0
    omega
  clear E2
  have bm3 := bq.2
  have bqn := bq.1
  clear bq
  have TR : Hid (∀ W : World, Below w.heap.size w W → Calls Tryz.prog 36 #[.agg #[.slice A n c, .slice P m d]] W fun e w' => ∃ g gs h, e = .returned (.agg #[.slice (some ⟨g, 0, none⟩) n n, .slice (some ⟨h, 0, none⟩) m m]) ∧ Of zs ps W.heap.size g gs h w' ∧ h ∉ g :: gs ∧ (∀ j ∈ h :: g :: gs, W.heap.size ≤ j) ∧ Below W.heap.size W w') :=
    fun W hW => (toForest_any False A n c zs P m d ps W (S0.out.on hW) (by omega) (by omega) HZ2.out).mono fun e w' ⟨g, gs, h, h1, h2, h3, h4, h5, h6⟩ => ⟨g, gs, h, by rw [h1, HN.out, HM.out], ⟨(HE.out.below hW).below h6, h2, h3⟩, h4, fun j hj => by
      rcases List.mem_cons.1 hj with rfl | hj
      · exact h5
      · exact h2.2.2.2.2 j hj, h6⟩
  have TM : Hid (∀ W : World, Below w.heap.size w W → Calls Tryz.prog 43 #[.agg #[.int .i64 h.id, .bool h.rp, .bool h.au, .bool h.ct, .bool h.wa, .bool h.ca, .int .i64 h.code, .string h.qn, .int .i64 h.qt, .slice A1 n1 c1, .slice A2 n2 c2, .slice A3 n3 c3]] W (GivesM W h n1 n2 n3 l1 l2 l3)) := fun W hW => ToM.toMsg_any h A1 n1 c1 l1 A2 n2 c2 l2 A3 n3 c3 l3 W (S1.out.on hW) (by omega) (S2.out.on hW) (by omega) (S3.out.on hW) (by omega)
  have SP : Hid (∀ (g t1 f1 t2 f2 t3 f3 lo : Nat) (gs : List Nat) (k : Nat) (W : World), Of zs ps lo g gs k W → Calls Tryz.prog 33 #[.agg #[.slice (some ⟨g, 0, none⟩) n n, .slice (some ⟨k, 0, none⟩) m m], .int .i64 a, .agg #[.int .i64 h.id, .bool h.rp, .bool h.au, .bool h.ct, .bool h.wa, .bool h.ca, .int .i64 h.code, .string h.qn, .int .i64 h.qt, .slice (some ⟨t1, 0, none⟩) n1 f1, .slice (some ⟨t2, 0, none⟩) n2 f2, .slice (some ⟨t3, 0, none⟩) n3 f3]] W (GivesA W h zs ps a)) :=
    fun g t1 f1 t2 f2 t3 f3 lo gs k W hb => RatS.spec _ n n zs _ m m ps a h (some ⟨t1, 0, none⟩) (some ⟨t2, 0, none⟩) (some ⟨t3, 0, none⟩) n1 f1 n2 f2 n3 f3 W (hb.sf HN.out HM.out) (by omega) (by omega) HR.out bqn
  have IM : Hid (∀ (g t1 f1 t2 f2 t3 f3 lo : Nat) (gs : List Nat) (k : Nat) (W : World), Of zs ps lo g gs k W → Calls Tryz.prog 17 #[.agg #[.slice (some ⟨g, 0, none⟩) n n, .slice (some ⟨k, 0, none⟩) m m], .int .i64 a, .agg #[.int .i64 h.id, .bool h.rp, .bool h.au, .bool h.ct, .bool h.wa, .bool h.ca, .int .i64 h.code, .string h.qn, .int .i64 h.qt, .slice (some ⟨t1, 0, none⟩) n1 f1, .slice (some ⟨t2, 0, none⟩) n2 f2, .slice (some ⟨t3, 0, none⟩) n3 f3]] W (GivesA W h zs ps a)) :=
    fun g t1 f1 t2 f2 t3 f3 lo gs k W hb => RatI.impl _ n n zs _ m m ps a h (some ⟨t1, 0, none⟩) (some ⟨t2, 0, none⟩) (some ⟨t3, 0, none⟩) n1 f1 n2 f2 n3 f3 W hb.1 (hb.sf HN.out HM.out) (by omega) (by omega) HR.out bqn
  unfold GivesA GivesS8 at SP IM
  generalize ka zs ps a h.qn h.qt = kk at *
  generalize za zs ps a h.qn = zz at *
  generalize rph h (rcd kk) (aut kk) = H at *
  have D1 := Lib.hid (m8_len (anl kk h.qn h.qt zz.l) rfl)
  have le1 := (m8_le (anl kk h.qn h.qt zz.l).length).1
  generalize m8 (anl kk h.qn h.qt zz.l).length = k1 at *
  generalize (anl kk h.qn h.qt zz.l).take 8 = j1 at *
  have D2 := Lib.hid (m8_len (mol kk zz.apex h.qn zz.l) rfl)
  have le2 := (m8_le (mol kk zz.apex h.qn zz.l).length).1
  generalize m8 (mol kk zz.apex h.qn zz.l).length = k2 at *
  generalize (mol kk zz.apex h.qn zz.l).take 8 = j2 at *
  have D3 := Lib.hid (m8_len (hel kk zz.apex h.qn zz.l) rfl)
  have le3 := (m8_le (hel kk zz.apex h.qn zz.l).length).1
  generalize m8 (hel kk zz.apex h.qn zz.l).length = k3 at *
  generalize (hel kk zz.apex h.qn zz.l).take 8 = j3 at *
  clear HR S0
  have TZR : Hid (∀ W : World, (((W.cell? ⟨w.heap.size, 0, none⟩ = some (.slice A n c) ∧ W.cell? ⟨w.heap.size, 1, none⟩ = some (.slice P m d)) ∧ (W.cell? ⟨w.heap.size + 1, 0, none⟩ = some (.int .i64 h.id) ∧ W.cell? ⟨w.heap.size + 1, 1, none⟩ = some (.bool h.rp) ∧ W.cell? ⟨w.heap.size + 1, 2, none⟩ = some (.bool h.au) ∧ W.cell? ⟨w.heap.size + 1, 3, none⟩ = some (.bool h.ct) ∧ W.cell? ⟨w.heap.size + 1, 4, none⟩ = some (.bool h.wa) ∧ W.cell? ⟨w.heap.size + 1, 5, none⟩ = some (.bool h.ca) ∧ W.cell? ⟨w.heap.size + 1, 6, none⟩ = some (.int .i64 h.code) ∧ W.cell? ⟨w.heap.size + 1, 7, none⟩ = some (.string h.qn) ∧ W.cell? ⟨w.heap.size + 1, 8, none⟩ = some (.int .i64 h.qt) ∧ W.cell? ⟨w.heap.size + 1, 9, none⟩ = some (.slice A1 n1 c1) ∧ W.cell? ⟨w.heap.size + 1, 10, none⟩ = some (.slice A2 n2 c2) ∧ W.cell? ⟨w.heap.size + 1, 11, none⟩ = some (.slice A3 n3 c3))) ∧ Sv w2 W) → Calls Tryz.prog 36 #[.agg #[.slice A n c, .slice P m d]] W fun e w' => ∃ g gs h, e = .returned (.agg #[.slice (some ⟨g, 0, none⟩) n n, .slice (some ⟨h, 0, none⟩) m m]) ∧ Of zs ps W.heap.size g gs h w' ∧ h ∉ g :: gs ∧ (∀ j ∈ h :: g :: gs, W.heap.size ≤ j) ∧ Below W.heap.size W w') := fun W hW => TR.out W (L2.out.trans ((show Below w2.heap.size w2 W from hW.2).mono L2.out.size))
  have TMR : Hid (∀ W : World, (((W.cell? ⟨w.heap.size, 0, none⟩ = some (.slice A n c) ∧ W.cell? ⟨w.heap.size, 1, none⟩ = some (.slice P m d)) ∧ (W.cell? ⟨w.heap.size + 1, 0, none⟩ = some (.int .i64 h.id) ∧ W.cell? ⟨w.heap.size + 1, 1, none⟩ = some (.bool h.rp) ∧ W.cell? ⟨w.heap.size + 1, 2, none⟩ = some (.bool h.au) ∧ W.cell? ⟨w.heap.size + 1, 3, none⟩ = some (.bool h.ct) ∧ W.cell? ⟨w.heap.size + 1, 4, none⟩ = some (.bool h.wa) ∧ W.cell? ⟨w.heap.size + 1, 5, none⟩ = some (.bool h.ca) ∧ W.cell? ⟨w.heap.size + 1, 6, none⟩ = some (.int .i64 h.code) ∧ W.cell? ⟨w.heap.size + 1, 7, none⟩ = some (.string h.qn) ∧ W.cell? ⟨w.heap.size + 1, 8, none⟩ = some (.int .i64 h.qt) ∧ W.cell? ⟨w.heap.size + 1, 9, none⟩ = some (.slice A1 n1 c1) ∧ W.cell? ⟨w.heap.size + 1, 10, none⟩ = some (.slice A2 n2 c2) ∧ W.cell? ⟨w.heap.size + 1, 11, none⟩ = some (.slice A3 n3 c3))) ∧ Sv w2 W) → Calls Tryz.prog 43 #[.agg #[.int .i64 h.id, .bool h.rp, .bool h.au, .bool h.ct, .bool h.wa, .bool h.ca, .int .i64 h.code, .string h.qn, .int .i64 h.qt, .slice A1 n1 c1, .slice A2 n2 c2, .slice A3 n3 c3]] W (GivesM W h n1 n2 n3 l1 l2 l3)) := fun W hW => TM.out W (L2.out.trans ((show Below w2.heap.size w2 W from hW.2).mono L2.out.size))
  have SS0 : ((w2.cell? ⟨w.heap.size, 0, none⟩ = some (.slice A n c) ∧ w2.cell? ⟨w.heap.size, 1, none⟩ = some (.slice P m d)) ∧ (w2.cell? ⟨w.heap.size + 1, 0, none⟩ = some (.int .i64 h.id) ∧ w2.cell? ⟨w.heap.size + 1, 1, none⟩ = some (.bool h.rp) ∧ w2.cell? ⟨w.heap.size + 1, 2, none⟩ = some (.bool h.au) ∧ w2.cell? ⟨w.heap.size + 1, 3, none⟩ = some (.bool h.ct) ∧ w2.cell? ⟨w.heap.size + 1, 4, none⟩ = some (.bool h.wa) ∧ w2.cell? ⟨w.heap.size + 1, 5, none⟩ = some (.bool h.ca) ∧ w2.cell? ⟨w.heap.size + 1, 6, none⟩ = some (.int .i64 h.code) ∧ w2.cell? ⟨w.heap.size + 1, 7, none⟩ = some (.string h.qn) ∧ w2.cell? ⟨w.heap.size + 1, 8, none⟩ = some (.int .i64 h.qt) ∧ w2.cell? ⟨w.heap.size + 1, 9, none⟩ = some (.slice A1 n1 c1) ∧ w2.cell? ⟨w.heap.size + 1, 10, none⟩ = some (.slice A2 n2 c2) ∧ w2.cell? ⟨w.heap.size + 1, 11, none⟩ = some (.slice A3 n3 c3))) ∧ Sv w2 w2 := ⟨⟨J2.out, X2.out⟩, Below.refl _ _⟩
  have hgz : w.heap.size < w2.heap.size := J2.out.lt
  have hgx : w.heap.size + 1 < w2.heap.size := X2.out.lt
  go_wp2
  go_cut [8] (fun a wx => ∃ (gw v1 u1 : Nat) (r1 : List Value) (v2 u2 : Nat) (r2 : List Value) (v3 u3 : Nat) (r3 : List Value), a = .pointer (some ⟨gw, 0, none⟩) ∧ Hid (Mx wx gw H (.slice (some ⟨v1, 0, none⟩) k1 u1) (.slice (some ⟨v2, 0, none⟩) k2 u2) (.slice (some ⟨v3, 0, none⟩) k3 u3)) ∧ Hid (Bk wx v1 93 (fl j1 ++ r1)) ∧ Hid (Bk wx v2 93 (fl j2 ++ r2)) ∧ Hid (Bk wx v3 93 (fl j3 ++ r3)) ∧ Hid (w2.heap.size ≤ v1 ∧ v1 < v2 ∧ v2 < v3 ∧ w2.heap.size ≤ gw ∧ gw ≠ v1 ∧ gw ≠ v2 ∧ gw ≠ v3) ∧ Hid (Below w2.heap.size w2 wx))
  case first =>
    go_region_held3 (fun w' => ((w'.cell? ⟨w.heap.size, 0, none⟩ = some (.slice A n c) ∧ w'.cell? ⟨w.heap.size, 1, none⟩ = some (.slice P m d)) ∧ (w'.cell? ⟨w.heap.size + 1, 0, none⟩ = some (.int .i64 h.id) ∧ w'.cell? ⟨w.heap.size + 1, 1, none⟩ = some (.bool h.rp) ∧ w'.cell? ⟨w.heap.size + 1, 2, none⟩ = some (.bool h.au) ∧ w'.cell? ⟨w.heap.size + 1, 3, none⟩ = some (.bool h.ct) ∧ w'.cell? ⟨w.heap.size + 1, 4, none⟩ = some (.bool h.wa) ∧ w'.cell? ⟨w.heap.size + 1, 5, none⟩ = some (.bool h.ca) ∧ w'.cell? ⟨w.heap.size + 1, 6, none⟩ = some (.int .i64 h.code) ∧ w'.cell? ⟨w.heap.size + 1, 7, none⟩ = some (.string h.qn) ∧ w'.cell? ⟨w.heap.size + 1, 8, none⟩ = some (.int .i64 h.qt) ∧ w'.cell? ⟨w.heap.size + 1, 9, none⟩ = some (.slice A1 n1 c1) ∧ w'.cell? ⟨w.heap.size + 1, 10, none⟩ = some (.slice A2 n2 c2) ∧ w'.cell? ⟨w.heap.size + 1, 11, none⟩ = some (.slice A3 n3 c3))) ∧ Sv w2 w')
      (first
        | with_reducible exact SS0
        | with_reducible exact hS5
        | with_reducible exact hSq
        | with_reducible exact hSt
        | with_reducible exact keptZ_alloc hS5 _
        | with_reducible exact keptZ_alloc hSq _
        | with_reducible exact keptZ_alloc hSt _
        | with_reducible exact keptZ_draw (keptZ_alloc SS0 _)
        | with_reducible exact keptZ_fil (w := w3) (b := wq2.heap.size) hS5 (Nat.ne_of_lt (Nat.lt_of_lt_of_le hgz hZq)) (Nat.ne_of_lt (Nat.lt_of_lt_of_le hgx hZq)) hZq _ _ _ _ _ _ _ _ _ _ _ _ 
        | with_reducible exact keptZ_fil (w := w3) (b := wt2.heap.size) hS5 (Nat.ne_of_lt (Nat.lt_of_lt_of_le hgz hZt)) (Nat.ne_of_lt (Nat.lt_of_lt_of_le hgx hZt)) hZt _ _ _ _ _ _ _ _ _ _ _ _ 
        | with_reducible exact keptZ_fil (w := w3) (b := w2.heap.size) hS5 (Nat.ne_of_lt hgz) (Nat.ne_of_lt hgx) (Nat.le_refl _) _ _ _ _ _ _ _ _ _ _ _ _ 
        | with_reducible exact keptZ_draw SS0
        | with_reducible assumption
        | with_reducible exact keptZ (by assumption) hl
        | fail)
      (first
        | (go_at_call 36; (with_reducible refine (TZR.out _ (by assumption)).mono ?_); rintro e wt2 ⟨t1, ts, t2, rfl, hbz, -, -, hl⟩; have hl1 := hl; have hSt := keptZ (by assumption) hl; have hZt : w2.heap.size ≤ wt2.heap.size := Below.size hSt.2)
        | (go_at_call 43; (with_reducible refine (TMR.out _ (by assumption)).mono ?_); rintro e wq2 ⟨p1, f1, q1, p2, f2, q2, p3, f3, q3, rfl, -, -, -, -, -, -, hl⟩; have hl2 := hl; have hSq := keptZ (by assumption) hl; have hZq : w2.heap.size ≤ wq2.heap.size := Below.size hSq.2; first | with_reducible have hbq := hbz.below hl | with_reducible have hbq := (hbz.alloc (.cells #[.int .i64 0, .bool false, .bool false, .bool false, .bool false, .bool false, .int .i64 0, .string ⟨#[]⟩, .int .i64 0, .slice none 0 0, .slice none 0 0, .slice none 0 0] 45)).below hl)
        | (go_at_call 33; (first | with_reducible refine (SP.out t1 _ _ _ _ _ _ _ ts t2 _ hbq).mono ?_ | with_reducible refine (SP.out t1 _ _ _ _ _ _ _ ts t2 _ (hbq.alloc (.cells #[.int .i64 0, .bool false, .bool false, .bool false, .bool false, .bool false, .int .i64 0, .string ⟨#[]⟩, .int .i64 0, .slice none 0 0, .slice none 0 0, .slice none 0 0] 45))).mono ?_); rintro e w3 ⟨v1, u1, r1, v2, u2, r2, v3, u3, r3, rfl, hb1, hb2, hb3, hg, h12, h23, hl⟩; have hl3 := hl; have hS5 := keptZ (by assumption) hl; first | (with_reducible have RBw : RB wq2 w2.heap.size := ((rb_new1 w2).below hl1).below hl2; have RBx := RBw.below hl3; have HLT := Nat.lt_of_lt_of_le (rb_lt RBw) hg; have HV1 := Nat.le_trans hZq hg; have p0 := RBx.cell 0 (by decide); have f0 := RBx.free 0; have p1 := RBx.cell 1 (by decide); have f1 := RBx.free 1; have p2 := RBx.cell 2 (by decide); have f2 := RBx.free 2; have p3 := RBx.cell 3 (by decide); have f3 := RBx.free 3; have p4 := RBx.cell 4 (by decide); have f4 := RBx.free 4; have p5 := RBx.cell 5 (by decide); have f5 := RBx.free 5; have p6 := RBx.cell 6 (by decide); have f6 := RBx.free 6; have p7 := RBx.cell 7 (by decide); have f7 := RBx.free 7; have p8 := RBx.cell 8 (by decide); have f8 := RBx.free 8; have p9 := RBx.cell 9 (by decide); have f9 := RBx.free 9; have p10 := RBx.cell 10 (by decide); have f10 := RBx.free 10; have p11 := RBx.cell 11 (by decide); have f11 := RBx.free 11) | (with_reducible have RBw : RB wq2 wt2.heap.size := (rb_new wt2).below hl2; have RBx := RBw.below hl3; have HLT := Nat.lt_of_lt_of_le (rb_lt RBw) hg; have HV1 := Nat.le_trans hZq hg; have p0 := RBx.cell 0 (by decide); have f0 := RBx.free 0; have p1 := RBx.cell 1 (by decide); have f1 := RBx.free 1; have p2 := RBx.cell 2 (by decide); have f2 := RBx.free 2; have p3 := RBx.cell 3 (by decide); have f3 := RBx.free 3; have p4 := RBx.cell 4 (by decide); have f4 := RBx.free 4; have p5 := RBx.cell 5 (by decide); have f5 := RBx.free 5; have p6 := RBx.cell 6 (by decide); have f6 := RBx.free 6; have p7 := RBx.cell 7 (by decide); have f7 := RBx.free 7; have p8 := RBx.cell 8 (by decide); have f8 := RBx.free 8; have p9 := RBx.cell 9 (by decide); have f9 := RBx.free 9; have p10 := RBx.cell 10 (by decide); have f10 := RBx.free 10; have p11 := RBx.cell 11 (by decide); have f11 := RBx.free 11) | (have RBw := rb_new wq2; with_reducible have RBx := RBw.below hl3; have HLT := Nat.lt_of_lt_of_le (rb_lt RBw) hg; have HV1 := Nat.le_trans hZq (Nat.le_of_lt HLT); have p0 := RBx.cell 0 (by decide); have f0 := RBx.free 0; have p1 := RBx.cell 1 (by decide); have f1 := RBx.free 1; have p2 := RBx.cell 2 (by decide); have f2 := RBx.free 2; have p3 := RBx.cell 3 (by decide); have f3 := RBx.free 3; have p4 := RBx.cell 4 (by decide); have f4 := RBx.free 4; have p5 := RBx.cell 5 (by decide); have f5 := RBx.free 5; have p6 := RBx.cell 6 (by decide); have f6 := RBx.free 6; have p7 := RBx.cell 7 (by decide); have f7 := RBx.free 7; have p8 := RBx.cell 8 (by decide); have f8 := RBx.free 8; have p9 := RBx.cell 9 (by decide); have f9 := RBx.free 9; have p10 := RBx.cell 10 (by decide); have f10 := RBx.free 10; have p11 := RBx.cell 11 (by decide); have f11 := RBx.free 11) | (have HV1 := Nat.le_trans hZq hg))
        | fail)
    · go_wp2_with fail
      go_meet
      case rel =>
        refine ⟨_, v1, u1, r1, v2, u2, r2, v3, u3, r3, rfl, ?_, ?_, ?_, ?_, ?_, ?_⟩
        · exact mx_new w3 _ H (.slice (some ⟨v1, 0, none⟩) k1 u1) (.slice (some ⟨v2, 0, none⟩) k2 u2) (.slice (some ⟨v3, 0, none⟩) k3 u3)
        · exact hb1.alloc _
        · exact hb2.alloc _
        · exact hb3.alloc _
        · exact ⟨HV1, h12, h23, Below.size hS5.2, Nat.ne_of_gt hb1.lt, Nat.ne_of_gt hb2.lt, Nat.ne_of_gt hb3.lt⟩
        · exact Below.alloc hS5.2 (Below.size hS5.2) _
    · go_wp2_with fail
      go_meet
      case rel =>
        refine ⟨_, v1, u1, r1, v2, u2, r2, v3, u3, r3, rfl, ?_, ?_, ?_, ?_, ?_, ?_⟩
        · exact mx_of (RBx.fil H (.slice (some ⟨v1, 0, none⟩) k1 u1) (.slice (some ⟨v2, 0, none⟩) k2 u2) (.slice (some ⟨v3, 0, none⟩) k3 u3))
        · exact filM_other hb1 (g := wq2.heap.size) (Nat.ne_of_gt HLT) H (.slice (some ⟨v1, 0, none⟩) k1 u1) (.slice (some ⟨v2, 0, none⟩) k2 u2) (.slice (some ⟨v3, 0, none⟩) k3 u3)
        · exact filM_other hb2 (g := wq2.heap.size) (Nat.ne_of_gt (Nat.lt_trans HLT h12)) H (.slice (some ⟨v1, 0, none⟩) k1 u1) (.slice (some ⟨v2, 0, none⟩) k2 u2) (.slice (some ⟨v3, 0, none⟩) k3 u3)
        · exact filM_other hb3 (g := wq2.heap.size) (Nat.ne_of_gt (Nat.lt_trans HLT (Nat.lt_trans h12 h23))) H (.slice (some ⟨v1, 0, none⟩) k1 u1) (.slice (some ⟨v2, 0, none⟩) k2 u2) (.slice (some ⟨v3, 0, none⟩) k3 u3)
        · exact ⟨HV1, h12, h23, hZq, Nat.ne_of_lt HLT, Nat.ne_of_lt (Nat.lt_trans HLT h12), Nat.ne_of_lt (Nat.lt_trans HLT (Nat.lt_trans h12 h23))⟩
        · exact filM_below (g := wq2.heap.size) hS5.2 hZq H (.slice (some ⟨v1, 0, none⟩) k1 u1) (.slice (some ⟨v2, 0, none⟩) k2 u2) (.slice (some ⟨v3, 0, none⟩) k3 u3)
    · go_wp2_with fail
      go_meet
      case rel =>
        refine ⟨_, v1, u1, r1, v2, u2, r2, v3, u3, r3, rfl, ?_, ?_, ?_, ?_, ?_, ?_⟩
        · exact mx_of (RBx.fil H (.slice (some ⟨v1, 0, none⟩) k1 u1) (.slice (some ⟨v2, 0, none⟩) k2 u2) (.slice (some ⟨v3, 0, none⟩) k3 u3))
        · exact filM_other hb1 (g := wt2.heap.size) (Nat.ne_of_gt HLT) H (.slice (some ⟨v1, 0, none⟩) k1 u1) (.slice (some ⟨v2, 0, none⟩) k2 u2) (.slice (some ⟨v3, 0, none⟩) k3 u3)
        · exact filM_other hb2 (g := wt2.heap.size) (Nat.ne_of_gt (Nat.lt_trans HLT h12)) H (.slice (some ⟨v1, 0, none⟩) k1 u1) (.slice (some ⟨v2, 0, none⟩) k2 u2) (.slice (some ⟨v3, 0, none⟩) k3 u3)
        · exact filM_other hb3 (g := wt2.heap.size) (Nat.ne_of_gt (Nat.lt_trans HLT (Nat.lt_trans h12 h23))) H (.slice (some ⟨v1, 0, none⟩) k1 u1) (.slice (some ⟨v2, 0, none⟩) k2 u2) (.slice (some ⟨v3, 0, none⟩) k3 u3)
        · exact ⟨HV1, h12, h23, hZt, Nat.ne_of_lt HLT, Nat.ne_of_lt (Nat.lt_trans HLT h12), Nat.ne_of_lt (Nat.lt_trans HLT (Nat.lt_trans h12 h23))⟩
        · exact filM_below (g := wt2.heap.size) hS5.2 hZt H (.slice (some ⟨v1, 0, none⟩) k1 u1) (.slice (some ⟨v2, 0, none⟩) k2 u2) (.slice (some ⟨v3, 0, none⟩) k3 u3)
    · go_wp2_with fail
      go_meet
      case rel =>
        refine ⟨_, v1, u1, r1, v2, u2, r2, v3, u3, r3, rfl, ?_, ?_, ?_, ?_, ?_, ?_⟩
        · exact mx_of (RBx.fil H (.slice (some ⟨v1, 0, none⟩) k1 u1) (.slice (some ⟨v2, 0, none⟩) k2 u2) (.slice (some ⟨v3, 0, none⟩) k3 u3))
        · exact filM_other hb1 (g := w2.heap.size) (Nat.ne_of_gt HLT) H (.slice (some ⟨v1, 0, none⟩) k1 u1) (.slice (some ⟨v2, 0, none⟩) k2 u2) (.slice (some ⟨v3, 0, none⟩) k3 u3)
        · exact filM_other hb2 (g := w2.heap.size) (Nat.ne_of_gt (Nat.lt_trans HLT h12)) H (.slice (some ⟨v1, 0, none⟩) k1 u1) (.slice (some ⟨v2, 0, none⟩) k2 u2) (.slice (some ⟨v3, 0, none⟩) k3 u3)
        · exact filM_other hb3 (g := w2.heap.size) (Nat.ne_of_gt (Nat.lt_trans HLT (Nat.lt_trans h12 h23))) H (.slice (some ⟨v1, 0, none⟩) k1 u1) (.slice (some ⟨v2, 0, none⟩) k2 u2) (.slice (some ⟨v3, 0, none⟩) k3 u3)
        · exact ⟨HV1, h12, h23, (Nat.le_refl _), Nat.ne_of_lt HLT, Nat.ne_of_lt (Nat.lt_trans HLT h12), Nat.ne_of_lt (Nat.lt_trans HLT (Nat.lt_trans h12 h23))⟩
        · exact filM_below (g := w2.heap.size) hS5.2 (Nat.le_refl _) H (.slice (some ⟨v1, 0, none⟩) k1 u1) (.slice (some ⟨v2, 0, none⟩) k2 u2) (.slice (some ⟨v3, 0, none⟩) k3 u3)
  case rest =>
    obtain ⟨gw, v1, f1, rv1, v2, f2, rv2, v3, f3, rv3, rfl, hmx, hb1, hb2, hb3, hord, hz⟩ := hcut
    have hl := hz.out
    clear hz
    generalize wc = w3 at *
    have W3 := Lib.hid hmx.out
    have V1_3 := Lib.hid hb1.out
    have V2_3 := Lib.hid hb2.out
    have V3_3 := Lib.hid hb3.out
    have OV := Lib.hid hord.out
    have OV_ := Lib.hid (show w2.heap.size ≤ w3.heap.size from hl.size)
    have L3 := Lib.hid (L2.out.trans (hl.mono L2.out.size))
    have J3 := Lib.hid (J2.out.below hl)
    have X3 := Lib.hid (X2.out.below hl)
    clear hl L2 J2 X2
    have OV__ : Hid (w.heap.size + 1 < w2.heap.size ∧ v3 < w3.heap.size ∧ gw < w3.heap.size) := ⟨hgx, V3_3.out.lt, W3.out.lt⟩
    clear hmx hb1 hb2 hb3 hord TZR TMR SS0 hgz hgx
    obtain ⟨z0, z1⟩ := J3.out
    go_wp2_with fail
    refine (TR.out _ L3.out).mono ?_
    rintro e w4 ⟨gx, gs, hx, rfl, hb, hne, hlo, hl⟩
    have XZ_4 := Lib.hid hb
    have NH := Lib.hid hne
    have OWN0 := Lib.hid hlo
    have OWN1 := Lib.hid hb.lt
    have OX : Hid (w3.heap.size ≤ gx) := hlo gx (List.mem_cons_of_mem _ List.mem_cons_self)
    have L4 := Lib.hid (L3.out.trans (hl.mono L3.out.size))
    have J4 := Lib.hid (J3.out.below hl)
    have X4 := Lib.hid (X3.out.below hl)
    have W4 := Lib.hid (W3.out.below hl)
    have V1_4 := Lib.hid (V1_3.out.below hl V1_3.out.lt)
    have V2_4 := Lib.hid (V2_3.out.below hl V2_3.out.lt)
    have V3_4 := Lib.hid (V3_3.out.below hl V3_3.out.lt)
    clear hl L3 J3 X3 W3 V1_3 V2_3 V3_3
    clear hb hne hlo z0 z1 
    have OQ : Hid (gx < w4.heap.size) := OWN1.out gx (List.mem_cons_of_mem _ List.mem_cons_self)
    have al : Below w4.heap.size w4 (w4.alloc (.cells #[.slice (some ⟨gx, 0, none⟩) n n, .slice (some ⟨hx, 0, none⟩) m m] 27)) := (Below.refl _ _).alloc (Nat.le_refl _) _
    have Q5 := Lib.hid (fx_new w4 27 (.slice (some ⟨gx, 0, none⟩) n n) (.slice (some ⟨hx, 0, none⟩) m m))
    have L5 := Lib.hid (L4.out.trans (al.mono L4.out.size))
    have J5 := Lib.hid (J4.out.below al)
    have X5 := Lib.hid (X4.out.below al)
    have W5 := Lib.hid (W4.out.below al)
    have V1_5 := Lib.hid (V1_4.out.below al V1_4.out.lt)
    have V2_5 := Lib.hid (V2_4.out.below al V2_4.out.lt)
    have V3_5 := Lib.hid (V3_4.out.below al V3_4.out.lt)
    have XZ_5 := Lib.hid (XZ_4.out.below al)
    clear al L4 J4 X4 W4 V1_4 V2_4 V3_4 XZ_4
    obtain ⟨x0_0, x0_1, x0_2, x0_3, x0_4, x0_5, x0_6, x0_7, x0_8, x0_9, x0_10, x0_11⟩ := X5.out
    go_wp2_with fail
    refine (TM.out _ L5.out).mono ?_
    rintro e w6 ⟨p1, e1, rp1, p2, e2, rp2, p3, e3, rp3, rfl, hb1, hb2, hb3, hg, h12, h23, hl⟩
    have P1_6 := Lib.hid hb1
    have P2_6 := Lib.hid hb2
    have P3_6 := Lib.hid hb3
    have OP : Hid (w4.heap.size < p1 ∧ p1 < p2 ∧ p2 < p3) := ⟨Nat.lt_of_lt_of_le Q5.out.lt hg, h12, h23⟩
    have L6 := Lib.hid (L5.out.trans (hl.mono L5.out.size))
    have J6 := Lib.hid (J5.out.below hl)
    have X6 := Lib.hid (X5.out.below hl)
    have W6 := Lib.hid (W5.out.below hl)
    have V1_6 := Lib.hid (V1_5.out.below hl V1_5.out.lt)
    have V2_6 := Lib.hid (V2_5.out.below hl V2_5.out.lt)
    have V3_6 := Lib.hid (V3_5.out.below hl V3_5.out.lt)
    have XZ_6 := Lib.hid (XZ_5.out.below hl)
    have Q6 := Lib.hid (Q5.out.below hl)
    clear hl L5 J5 X5 W5 V1_5 V2_5 V3_5 XZ_5 Q5
    clear hb1 hb2 hb3 hg h12 h23 x0_0 x0_1 x0_2 x0_3 x0_4 x0_5 x0_6 x0_7 x0_8 x0_9 x0_10 x0_11
    generalize w4.heap.size = gq at *
    have OP_ : Hid (p3 < w6.heap.size) := P3_6.out.lt
    have al : Below w6.heap.size w6 (w6.alloc (.cells #[.int .i64 h.id, .bool h.rp, .bool h.au, .bool h.ct, .bool h.wa, .bool h.ca, .int .i64 h.code, .string h.qn, .int .i64 h.qt, .slice (some ⟨p1, 0, none⟩) n1 e1, .slice (some ⟨p2, 0, none⟩) n2 e2, .slice (some ⟨p3, 0, none⟩) n3 e3] 45)) := (Below.refl _ _).alloc (Nat.le_refl _) _
    have P7 := Lib.hid (mx_new w6 45 h (.slice (some ⟨p1, 0, none⟩) n1 e1) (.slice (some ⟨p2, 0, none⟩) n2 e2) (.slice (some ⟨p3, 0, none⟩) n3 e3))
    have L7 := Lib.hid (L6.out.trans (al.mono L6.out.size))
    have J7 := Lib.hid (J6.out.below al)
    have X7 := Lib.hid (X6.out.below al)
    have W7 := Lib.hid (W6.out.below al)
    have V1_7 := Lib.hid (V1_6.out.below al V1_6.out.lt)
    have V2_7 := Lib.hid (V2_6.out.below al V2_6.out.lt)
    have V3_7 := Lib.hid (V3_6.out.below al V3_6.out.lt)
    have XZ_7 := Lib.hid (XZ_6.out.below al)
    have Q7 := Lib.hid (Q6.out.below al)
    have P1_7 := Lib.hid (P1_6.out.below al P1_6.out.lt)
    have P2_7 := Lib.hid (P2_6.out.below al P2_6.out.lt)
    have P3_7 := Lib.hid (P3_6.out.below al P3_6.out.lt)
    clear al L6 J6 X6 W6 V1_6 V2_6 V3_6 XZ_6 Q6 P1_6 P2_6 P3_6
    obtain ⟨z0, z1⟩ := Q7.out
    obtain ⟨x0_0, x0_1, x0_2, x0_3, x0_4, x0_5, x0_6, x0_7, x0_8, x0_9, x0_10, x0_11⟩ := P7.out
    go_wp2_with fail
    refine (IM.out gx p1 e1 p2 e2 p3 e3 _ gs hx _ XZ_7.out).mono ?_
    rintro e w8 ⟨g1, u1, rg1, g2, u2, rg2, g3, u3, rg3, rfl, hb1, hb2, hb3, hg, h12, h23, hl⟩
    have G1_8 := Lib.hid hb1
    have G2_8 := Lib.hid hb2
    have G3_8 := Lib.hid hb3
    have OG : Hid (w6.heap.size < g1 ∧ g1 < g2 ∧ g2 < g3) := ⟨Nat.lt_of_lt_of_le P7.out.lt hg, h12, h23⟩
    have L8 := Lib.hid (L7.out.trans (hl.mono L7.out.size))
    have J8 := Lib.hid (J7.out.below hl)
    have X8 := Lib.hid (X7.out.below hl)
    have W8 := Lib.hid (W7.out.below hl)
    have V1_8 := Lib.hid (V1_7.out.below hl V1_7.out.lt)
    have V2_8 := Lib.hid (V2_7.out.below hl V2_7.out.lt)
    have V3_8 := Lib.hid (V3_7.out.below hl V3_7.out.lt)
    have XZ_8 := Lib.hid (XZ_7.out.below hl)
    have Q8 := Lib.hid (Q7.out.below hl)
    have P1_8 := Lib.hid (P1_7.out.below hl P1_7.out.lt)
    have P2_8 := Lib.hid (P2_7.out.below hl P2_7.out.lt)
    have P3_8 := Lib.hid (P3_7.out.below hl P3_7.out.lt)
    have P8 := Lib.hid (P7.out.below hl)
    clear hl L7 J7 X7 W7 V1_7 V2_7 V3_7 XZ_7 Q7 P1_7 P2_7 P3_7 P7
    clear hb1 hb2 hb3 hg h12 h23 z0 z1 x0_0 x0_1 x0_2 x0_3 x0_4 x0_5 x0_6 x0_7 x0_8 x0_9 x0_10 x0_11
    generalize w6.heap.size = gp at *
    have OG_ : Hid (g3 < w8.heap.size) := G3_8.out.lt
    have al : Below w8.heap.size w8 (w8.alloc (.cells #[.int .i64 H.id, .bool H.rp, .bool H.au, .bool H.ct, .bool H.wa, .bool H.ca, .int .i64 H.code, .string H.qn, .int .i64 H.qt, .slice (some ⟨g1, 0, none⟩) k1 u1, .slice (some ⟨g2, 0, none⟩) k2 u2, .slice (some ⟨g3, 0, none⟩) k3 u3] 45)) := (Below.refl _ _).alloc (Nat.le_refl _) _
    have G9 := Lib.hid (mx_new w8 45 H (.slice (some ⟨g1, 0, none⟩) k1 u1) (.slice (some ⟨g2, 0, none⟩) k2 u2) (.slice (some ⟨g3, 0, none⟩) k3 u3))
    have L9 := Lib.hid (L8.out.trans (al.mono L8.out.size))
    have J9 := Lib.hid (J8.out.below al)
    have X9 := Lib.hid (X8.out.below al)
    have W9 := Lib.hid (W8.out.below al)
    have V1_9 := Lib.hid (V1_8.out.below al V1_8.out.lt)
    have V2_9 := Lib.hid (V2_8.out.below al V2_8.out.lt)
    have V3_9 := Lib.hid (V3_8.out.below al V3_8.out.lt)
    have XZ_9 := Lib.hid (XZ_8.out.below al)
    have Q9 := Lib.hid (Q8.out.below al)
    have P1_9 := Lib.hid (P1_8.out.below al P1_8.out.lt)
    have P2_9 := Lib.hid (P2_8.out.below al P2_8.out.lt)
    have P3_9 := Lib.hid (P3_8.out.below al P3_8.out.lt)
    have P9 := Lib.hid (P8.out.below al)
    have G1_9 := Lib.hid (G1_8.out.below al G1_8.out.lt)
    have G2_9 := Lib.hid (G2_8.out.below al G2_8.out.lt)
    have G3_9 := Lib.hid (G3_8.out.below al G3_8.out.lt)
    clear al L8 J8 X8 W8 V1_8 V2_8 V3_8 XZ_8 Q8 P1_8 P2_8 P3_8 P8 G1_8 G2_8 G3_8
    obtain ⟨x0_0, x0_1, x0_2, x0_3, x0_4, x0_5, x0_6, x0_7, x0_8, x0_9, x0_10, x0_11⟩ := G9.out
    obtain ⟨x1_0, x1_1, x1_2, x1_3, x1_4, x1_5, x1_6, x1_7, x1_8, x1_9, x1_10, x1_11⟩ := W9.out
    go_wp2_with fail
    refine (eqMsg_same H _ _ k1 u1 f1 j1 _ _ k2 u2 f2 j2 _ _ k3 u3 f3 j3 _ (bk_sr G1_9.out D1.out) (bk_sr V1_9.out D1.out) (by omega) (bk_sr G2_9.out D2.out) (bk_sr V2_9.out D2.out) (by omega) (bk_sr G3_9.out D3.out) (bk_sr V3_9.out D3.out) (by omega)).mono ?_
    rintro e w10 ⟨rfl, hl⟩
    have L10 := Lib.hid (L9.out.trans (hl.mono L9.out.size))
    have J10 := Lib.hid (J9.out.below hl)
    have X10 := Lib.hid (X9.out.below hl)
    have W10 := Lib.hid (W9.out.below hl)
    have V1_10 := Lib.hid (V1_9.out.below hl V1_9.out.lt)
    have V2_10 := Lib.hid (V2_9.out.below hl V2_9.out.lt)
    have V3_10 := Lib.hid (V3_9.out.below hl V3_9.out.lt)
    have XZ_10 := Lib.hid (XZ_9.out.below hl)
    have Q10 := Lib.hid (Q9.out.below hl)
    have P1_10 := Lib.hid (P1_9.out.below hl P1_9.out.lt)
    have P2_10 := Lib.hid (P2_9.out.below hl P2_9.out.lt)
    have P3_10 := Lib.hid (P3_9.out.below hl P3_9.out.lt)
    have P10 := Lib.hid (P9.out.below hl)
    have G1_10 := Lib.hid (G1_9.out.below hl G1_9.out.lt)
    have G2_10 := Lib.hid (G2_9.out.below hl G2_9.out.lt)
    have G3_10 := Lib.hid (G3_9.out.below hl G3_9.out.lt)
    have G10 := Lib.hid (G9.out.below hl)
    clear hl L9 J9 X9 W9 V1_9 V2_9 V3_9 XZ_9 Q9 P1_9 P2_9 P3_9 P9 G1_9 G2_9 G3_9 G9
    clear  x0_0 x0_1 x0_2 x0_3 x0_4 x0_5 x0_6 x0_7 x0_8 x0_9 x0_10 x0_11 x1_0 x1_1 x1_2 x1_3 x1_4 x1_5 x1_6 x1_7 x1_8 x1_9 x1_10 x1_11
    generalize w8.heap.size = gg at *
    have ORD : Hid (w.heap.size + 1 < w2.heap.size ∧ (w2.heap.size ≤ v1 ∧ v1 < v2 ∧ v2 < v3 ∧ w2.heap.size ≤ gw ∧ gw ≠ v1 ∧ gw ≠ v2 ∧ gw ≠ v3) ∧ v3 < w3.heap.size ∧ gw < w3.heap.size ∧ w3.heap.size ≤ gx ∧ gx < gq ∧ gq < p1 ∧ p1 < p2 ∧ p2 < p3 ∧ p3 < gp ∧ gp < g1 ∧ g1 < g2 ∧ g2 < g3 ∧ g3 < gg) := ⟨OV__.out.1, OV.out, OV__.out.2.1, OV__.out.2.2, OX.out, OQ.out, OP.out.1, OP.out.2.1, OP.out.2.2, OP_.out, OG.out.1, OG.out.2.1, OG.out.2.2, OG_.out⟩
    clear OV OV_ OV__ OX OQ OP OP_ OG OG_
    obtain ⟨ws2, hws2⟩ : ∃ x, w2.heap.size = x := ⟨_, rfl⟩
    obtain ⟨ws3, hws3⟩ : ∃ x, w3.heap.size = x := ⟨_, rfl⟩
    rw [hws2, hws3] at ORD
    rw [hws3] at OWN0
    clear hws2 hws3
    have TZ2 : Hid (∀ W : World, (((W.cell? ⟨w.heap.size, 0, none⟩ = some (.slice A n c) ∧ W.cell? ⟨w.heap.size, 1, none⟩ = some (.slice P m d)) ∧ (W.cell? ⟨gq, 0, none⟩ = some (.slice (some ⟨gx, 0, none⟩) n n) ∧ W.cell? ⟨gq, 1, none⟩ = some (.slice (some ⟨hx, 0, none⟩) m m))) ∧ Svz w10 W) → Calls Tryz.prog 36 #[.agg #[.slice A n c, .slice P m d]] W fun e w' => ∃ g gs h, e = .returned (.agg #[.slice (some ⟨g, 0, none⟩) n n, .slice (some ⟨h, 0, none⟩) m m]) ∧ Of zs ps W.heap.size g gs h w' ∧ h ∉ g :: gs ∧ (∀ j ∈ h :: g :: gs, W.heap.size ≤ j) ∧ Below W.heap.size W w') := fun W hW => TR.out W (L10.out.trans ((show Below w10.heap.size w10 W from hW.2).mono L10.out.size))
    have EQZ : Hid (∀ (W : World) (t lo : Nat) (ts : List Nat) (t' : Nat), (((W.cell? ⟨w.heap.size, 0, none⟩ = some (.slice A n c) ∧ W.cell? ⟨w.heap.size, 1, none⟩ = some (.slice P m d)) ∧ (W.cell? ⟨gq, 0, none⟩ = some (.slice (some ⟨gx, 0, none⟩) n n) ∧ W.cell? ⟨gq, 1, none⟩ = some (.slice (some ⟨hx, 0, none⟩) m m))) ∧ Svz w10 W) → Of zs ps lo t ts t' W → Calls Tryz.prog 38 #[.agg #[.slice (some ⟨gx, 0, none⟩) n n, .slice (some ⟨hx, 0, none⟩) m m], .agg #[.slice (some ⟨t, 0, none⟩) n n, .slice (some ⟨t', 0, none⟩) m m]] W fun e w' => e = .returned (.bool true) ∧ Below W.heap.size W w') := fun W t lo ts t' hW ht => eqForest_same True True _ _ _ _ n n n m m m zs ps W ((XZ_10.out.below (show Below w10.heap.size w10 W from hW.2)).sf HN.out HM.out) (ht.sf HN.out HM.out) (by omega) (by omega) HZ2.out
    have SS0 : ((w10.cell? ⟨w.heap.size, 0, none⟩ = some (.slice A n c) ∧ w10.cell? ⟨w.heap.size, 1, none⟩ = some (.slice P m d)) ∧ (w10.cell? ⟨gq, 0, none⟩ = some (.slice (some ⟨gx, 0, none⟩) n n) ∧ w10.cell? ⟨gq, 1, none⟩ = some (.slice (some ⟨hx, 0, none⟩) m m))) ∧ Svz w10 w10 := ⟨⟨J10.out, Q10.out⟩, Below.refl _ _⟩
    go_wp2
    go_region_held3 (fun w' => ((w'.cell? ⟨w.heap.size, 0, none⟩ = some (.slice A n c) ∧ w'.cell? ⟨w.heap.size, 1, none⟩ = some (.slice P m d)) ∧ (w'.cell? ⟨gq, 0, none⟩ = some (.slice (some ⟨gx, 0, none⟩) n n) ∧ w'.cell? ⟨gq, 1, none⟩ = some (.slice (some ⟨hx, 0, none⟩) m m))) ∧ Svz w10 w')
      (first | with_reducible exact SS0 | with_reducible assumption | exact kept2f (by assumption) hl | exact kept2f_draw (by assumption) | fail)
      (first
        | (go_at_call 36; (with_reducible refine (TZ2.out _ (by assumption)).mono ?_); rintro e wt10 ⟨t1, ts, t2, rfl, hb1, -, -, hl⟩)
        | (go_at_call 38; (with_reducible refine (EQZ.out _ _ _ _ _ (by assumption) hb1).mono ?_); rintro e w11 ⟨rfl, hl⟩)
        | fail)
    rename_i hH
    have hz : Below w10.heap.size w10 w11 := hH.2
    clear hH hb1 hl SS0 TZ2 EQZ
    have L11 := Lib.hid (L10.out.trans (hz.mono L10.out.size))
    have J11 := Lib.hid (J10.out.below hz)
    have X11 := Lib.hid (X10.out.below hz)
    have W11 := Lib.hid (W10.out.below hz)
    have V1_11 := Lib.hid (V1_10.out.below hz V1_10.out.lt)
    have V2_11 := Lib.hid (V2_10.out.below hz V2_10.out.lt)
    have V3_11 := Lib.hid (V3_10.out.below hz V3_10.out.lt)
    have XZ_11 := Lib.hid (XZ_10.out.below hz)
    have Q11 := Lib.hid (Q10.out.below hz)
    have P1_11 := Lib.hid (P1_10.out.below hz P1_10.out.lt)
    have P2_11 := Lib.hid (P2_10.out.below hz P2_10.out.lt)
    have P3_11 := Lib.hid (P3_10.out.below hz P3_10.out.lt)
    have P11 := Lib.hid (P10.out.below hz)
    have G1_11 := Lib.hid (G1_10.out.below hz G1_10.out.lt)
    have G2_11 := Lib.hid (G2_10.out.below hz G2_10.out.lt)
    have G3_11 := Lib.hid (G3_10.out.below hz G3_10.out.lt)
    have G11 := Lib.hid (G10.out.below hz)
    clear hz L10 J10 X10 W10 V1_10 V2_10 V3_10 XZ_10 Q10 P1_10 P2_10 P3_10 P10 G1_10 G2_10 G3_10 G10
    have TM2 : Hid (∀ W : World, (((W.cell? ⟨w.heap.size + 1, 0, none⟩ = some (.int .i64 h.id) ∧ W.cell? ⟨w.heap.size + 1, 1, none⟩ = some (.bool h.rp) ∧ W.cell? ⟨w.heap.size + 1, 2, none⟩ = some (.bool h.au) ∧ W.cell? ⟨w.heap.size + 1, 3, none⟩ = some (.bool h.ct) ∧ W.cell? ⟨w.heap.size + 1, 4, none⟩ = some (.bool h.wa) ∧ W.cell? ⟨w.heap.size + 1, 5, none⟩ = some (.bool h.ca) ∧ W.cell? ⟨w.heap.size + 1, 6, none⟩ = some (.int .i64 h.code) ∧ W.cell? ⟨w.heap.size + 1, 7, none⟩ = some (.string h.qn) ∧ W.cell? ⟨w.heap.size + 1, 8, none⟩ = some (.int .i64 h.qt) ∧ W.cell? ⟨w.heap.size + 1, 9, none⟩ = some (.slice A1 n1 c1) ∧ W.cell? ⟨w.heap.size + 1, 10, none⟩ = some (.slice A2 n2 c2) ∧ W.cell? ⟨w.heap.size + 1, 11, none⟩ = some (.slice A3 n3 c3)) ∧ (W.cell? ⟨gp, 0, none⟩ = some (.int .i64 h.id) ∧ W.cell? ⟨gp, 1, none⟩ = some (.bool h.rp) ∧ W.cell? ⟨gp, 2, none⟩ = some (.bool h.au) ∧ W.cell? ⟨gp, 3, none⟩ = some (.bool h.ct) ∧ W.cell? ⟨gp, 4, none⟩ = some (.bool h.wa) ∧ W.cell? ⟨gp, 5, none⟩ = some (.bool h.ca) ∧ W.cell? ⟨gp, 6, none⟩ = some (.int .i64 h.code) ∧ W.cell? ⟨gp, 7, none⟩ = some (.string h.qn) ∧ W.cell? ⟨gp, 8, none⟩ = some (.int .i64 h.qt) ∧ W.cell? ⟨gp, 9, none⟩ = some (.slice (some ⟨p1, 0, none⟩) n1 e1) ∧ W.cell? ⟨gp, 10, none⟩ = some (.slice (some ⟨p2, 0, none⟩) n2 e2) ∧ W.cell? ⟨gp, 11, none⟩ = some (.slice (some ⟨p3, 0, none⟩) n3 e3))) ∧ Sv w11 W) → Calls Tryz.prog 43 #[.agg #[.int .i64 h.id, .bool h.rp, .bool h.au, .bool h.ct, .bool h.wa, .bool h.ca, .int .i64 h.code, .string h.qn, .int .i64 h.qt, .slice A1 n1 c1, .slice A2 n2 c2, .slice A3 n3 c3]] W (GivesM W h n1 n2 n3 l1 l2 l3)) := fun W hW => TM.out W (L11.out.trans ((show Below w11.heap.size w11 W from hW.2).mono L11.out.size))
    have EQ : Hid (∀ (W : World) (t1 f1 : Nat) (q1 : List Value) (t2 f2 : Nat) (q2 : List Value) (t3 f3 : Nat) (q3 : List Value), (((W.cell? ⟨w.heap.size + 1, 0, none⟩ = some (.int .i64 h.id) ∧ W.cell? ⟨w.heap.size + 1, 1, none⟩ = some (.bool h.rp) ∧ W.cell? ⟨w.heap.size + 1, 2, none⟩ = some (.bool h.au) ∧ W.cell? ⟨w.heap.size + 1, 3, none⟩ = some (.bool h.ct) ∧ W.cell? ⟨w.heap.size + 1, 4, none⟩ = some (.bool h.wa) ∧ W.cell? ⟨w.heap.size + 1, 5, none⟩ = some (.bool h.ca) ∧ W.cell? ⟨w.heap.size + 1, 6, none⟩ = some (.int .i64 h.code) ∧ W.cell? ⟨w.heap.size + 1, 7, none⟩ = some (.string h.qn) ∧ W.cell? ⟨w.heap.size + 1, 8, none⟩ = some (.int .i64 h.qt) ∧ W.cell? ⟨w.heap.size + 1, 9, none⟩ = some (.slice A1 n1 c1) ∧ W.cell? ⟨w.heap.size + 1, 10, none⟩ = some (.slice A2 n2 c2) ∧ W.cell? ⟨w.heap.size + 1, 11, none⟩ = some (.slice A3 n3 c3)) ∧ (W.cell? ⟨gp, 0, none⟩ = some (.int .i64 h.id) ∧ W.cell? ⟨gp, 1, none⟩ = some (.bool h.rp) ∧ W.cell? ⟨gp, 2, none⟩ = some (.bool h.au) ∧ W.cell? ⟨gp, 3, none⟩ = some (.bool h.ct) ∧ W.cell? ⟨gp, 4, none⟩ = some (.bool h.wa) ∧ W.cell? ⟨gp, 5, none⟩ = some (.bool h.ca) ∧ W.cell? ⟨gp, 6, none⟩ = some (.int .i64 h.code) ∧ W.cell? ⟨gp, 7, none⟩ = some (.string h.qn) ∧ W.cell? ⟨gp, 8, none⟩ = some (.int .i64 h.qt) ∧ W.cell? ⟨gp, 9, none⟩ = some (.slice (some ⟨p1, 0, none⟩) n1 e1) ∧ W.cell? ⟨gp, 10, none⟩ = some (.slice (some ⟨p2, 0, none⟩) n2 e2) ∧ W.cell? ⟨gp, 11, none⟩ = some (.slice (some ⟨p3, 0, none⟩) n3 e3))) ∧ Sv w11 W) → Bk W t1 93 (fl l1 ++ q1) → Bk W t2 93 (fl l2 ++ q2) → Bk W t3 93 (fl l3 ++ q3) → Calls Tryz.prog 44 #[.agg #[.int .i64 h.id, .bool h.rp, .bool h.au, .bool h.ct, .bool h.wa, .bool h.ca, .int .i64 h.code, .string h.qn, .int .i64 h.qt, .slice (some ⟨p1, 0, none⟩) n1 e1, .slice (some ⟨p2, 0, none⟩) n2 e2, .slice (some ⟨p3, 0, none⟩) n3 e3], .agg #[.int .i64 h.id, .bool h.rp, .bool h.au, .bool h.ct, .bool h.wa, .bool h.ca, .int .i64 h.code, .string h.qn, .int .i64 h.qt, .slice (some ⟨t1, 0, none⟩) n1 f1, .slice (some ⟨t2, 0, none⟩) n2 f2, .slice (some ⟨t3, 0, none⟩) n3 f3]] W fun e w' => e = .returned (.bool true) ∧ Below W.heap.size W w') := fun W t1 f1 q1 t2 f2 q2 t3 f3 q3 hW b1 b2 b3 => eqMsg_same h _ _ n1 e1 f1 l1 _ _ n2 e2 f2 l2 _ _ n3 e3 f3 l3 W (bk_sr (P1_11.out.below hW.2 P1_11.out.lt) B1.out) (bk_sr b1 B1.out) (by omega) (bk_sr (P2_11.out.below hW.2 P2_11.out.lt) B2.out) (bk_sr b2 B2.out) (by omega) (bk_sr (P3_11.out.below hW.2 P3_11.out.lt) B3.out) (bk_sr b3 B3.out) (by omega)
    have SS0 : (((w11.cell? ⟨w.heap.size + 1, 0, none⟩ = some (.int .i64 h.id) ∧ w11.cell? ⟨w.heap.size + 1, 1, none⟩ = some (.bool h.rp) ∧ w11.cell? ⟨w.heap.size + 1, 2, none⟩ = some (.bool h.au) ∧ w11.cell? ⟨w.heap.size + 1, 3, none⟩ = some (.bool h.ct) ∧ w11.cell? ⟨w.heap.size + 1, 4, none⟩ = some (.bool h.wa) ∧ w11.cell? ⟨w.heap.size + 1, 5, none⟩ = some (.bool h.ca) ∧ w11.cell? ⟨w.heap.size + 1, 6, none⟩ = some (.int .i64 h.code) ∧ w11.cell? ⟨w.heap.size + 1, 7, none⟩ = some (.string h.qn) ∧ w11.cell? ⟨w.heap.size + 1, 8, none⟩ = some (.int .i64 h.qt) ∧ w11.cell? ⟨w.heap.size + 1, 9, none⟩ = some (.slice A1 n1 c1) ∧ w11.cell? ⟨w.heap.size + 1, 10, none⟩ = some (.slice A2 n2 c2) ∧ w11.cell? ⟨w.heap.size + 1, 11, none⟩ = some (.slice A3 n3 c3)) ∧ (w11.cell? ⟨gp, 0, none⟩ = some (.int .i64 h.id) ∧ w11.cell? ⟨gp, 1, none⟩ = some (.bool h.rp) ∧ w11.cell? ⟨gp, 2, none⟩ = some (.bool h.au) ∧ w11.cell? ⟨gp, 3, none⟩ = some (.bool h.ct) ∧ w11.cell? ⟨gp, 4, none⟩ = some (.bool h.wa) ∧ w11.cell? ⟨gp, 5, none⟩ = some (.bool h.ca) ∧ w11.cell? ⟨gp, 6, none⟩ = some (.int .i64 h.code) ∧ w11.cell? ⟨gp, 7, none⟩ = some (.string h.qn) ∧ w11.cell? ⟨gp, 8, none⟩ = some (.int .i64 h.qt) ∧ w11.cell? ⟨gp, 9, none⟩ = some (.slice (some ⟨p1, 0, none⟩) n1 e1) ∧ w11.cell? ⟨gp, 10, none⟩ = some (.slice (some ⟨p2, 0, none⟩) n2 e2) ∧ w11.cell? ⟨gp, 11, none⟩ = some (.slice (some ⟨p3, 0, none⟩) n3 e3))) ∧ Sv w11 w11) := ⟨⟨X11.out, P11.out⟩, Below.refl _ _⟩
    go_wp2
    go_region_held3 (fun w' => (((w'.cell? ⟨w.heap.size + 1, 0, none⟩ = some (.int .i64 h.id) ∧ w'.cell? ⟨w.heap.size + 1, 1, none⟩ = some (.bool h.rp) ∧ w'.cell? ⟨w.heap.size + 1, 2, none⟩ = some (.bool h.au) ∧ w'.cell? ⟨w.heap.size + 1, 3, none⟩ = some (.bool h.ct) ∧ w'.cell? ⟨w.heap.size + 1, 4, none⟩ = some (.bool h.wa) ∧ w'.cell? ⟨w.heap.size + 1, 5, none⟩ = some (.bool h.ca) ∧ w'.cell? ⟨w.heap.size + 1, 6, none⟩ = some (.int .i64 h.code) ∧ w'.cell? ⟨w.heap.size + 1, 7, none⟩ = some (.string h.qn) ∧ w'.cell? ⟨w.heap.size + 1, 8, none⟩ = some (.int .i64 h.qt) ∧ w'.cell? ⟨w.heap.size + 1, 9, none⟩ = some (.slice A1 n1 c1) ∧ w'.cell? ⟨w.heap.size + 1, 10, none⟩ = some (.slice A2 n2 c2) ∧ w'.cell? ⟨w.heap.size + 1, 11, none⟩ = some (.slice A3 n3 c3)) ∧ (w'.cell? ⟨gp, 0, none⟩ = some (.int .i64 h.id) ∧ w'.cell? ⟨gp, 1, none⟩ = some (.bool h.rp) ∧ w'.cell? ⟨gp, 2, none⟩ = some (.bool h.au) ∧ w'.cell? ⟨gp, 3, none⟩ = some (.bool h.ct) ∧ w'.cell? ⟨gp, 4, none⟩ = some (.bool h.wa) ∧ w'.cell? ⟨gp, 5, none⟩ = some (.bool h.ca) ∧ w'.cell? ⟨gp, 6, none⟩ = some (.int .i64 h.code) ∧ w'.cell? ⟨gp, 7, none⟩ = some (.string h.qn) ∧ w'.cell? ⟨gp, 8, none⟩ = some (.int .i64 h.qt) ∧ w'.cell? ⟨gp, 9, none⟩ = some (.slice (some ⟨p1, 0, none⟩) n1 e1) ∧ w'.cell? ⟨gp, 10, none⟩ = some (.slice (some ⟨p2, 0, none⟩) n2 e2) ∧ w'.cell? ⟨gp, 11, none⟩ = some (.slice (some ⟨p3, 0, none⟩) n3 e3))) ∧ Sv w11 w'))
      (first | with_reducible exact SS0 | with_reducible assumption | exact kept2 (by assumption) hl | exact kept2_draw (by assumption) | fail)
      (first
        | (go_at_call 43; (with_reducible refine (TM2.out _ (by assumption)).mono ?_); rintro e wt11 ⟨tt1, ff1, qq1, tt2, ff2, qq2, tt3, ff3, qq3, rfl, hb1, hb2, hb3, -, -, -, hl⟩)
        | (go_at_call 44; (with_reducible refine (EQ.out _ _ _ _ _ _ _ _ _ _ (by assumption) hb1 hb2 hb3).mono ?_); rintro e w12 ⟨rfl, hl⟩)
        | fail)
    rename_i hH
    have hz : Below w11.heap.size w11 w12 := hH.2
    clear hH hb1 hb2 hb3 hl SS0 TM2 EQ
    have L12 := Lib.hid (L11.out.trans (hz.mono L11.out.size))
    have J12 := Lib.hid (J11.out.below hz)
    have X12 := Lib.hid (X11.out.below hz)
    have W12 := Lib.hid (W11.out.below hz)
    have V1_12 := Lib.hid (V1_11.out.below hz V1_11.out.lt)
    have V2_12 := Lib.hid (V2_11.out.below hz V2_11.out.lt)
    have V3_12 := Lib.hid (V3_11.out.below hz V3_11.out.lt)
    have XZ_12 := Lib.hid (XZ_11.out.below hz)
    have Q12 := Lib.hid (Q11.out.below hz)
    have P1_12 := Lib.hid (P1_11.out.below hz P1_11.out.lt)
    have P2_12 := Lib.hid (P2_11.out.below hz P2_11.out.lt)
    have P3_12 := Lib.hid (P3_11.out.below hz P3_11.out.lt)
    have P12 := Lib.hid (P11.out.below hz)
    have G1_12 := Lib.hid (G1_11.out.below hz G1_11.out.lt)
    have G2_12 := Lib.hid (G2_11.out.below hz G2_11.out.lt)
    have G3_12 := Lib.hid (G3_11.out.below hz G3_11.out.lt)
    have G12 := Lib.hid (G11.out.below hz)
    clear hz L11 J11 X11 W11 V1_11 V2_11 V3_11 XZ_11 Q11 P1_11 P2_11 P3_11 P11 G1_11 G2_11 G3_11 G11
    obtain ⟨z0, z1⟩ := Q12.out
    go_wp2_with fail
    refine (markForest_val gx hx n m n m zs ps gs _ _ XZ_12.out.2.1 XZ_12.out.2.2 NH.out HN.out HM.out (Nat.le_trans (HW.out gs) (by decide))).mono ?_
    rintro e w13 ⟨rfl, ht⟩
    have L13 := Lib.hid (below_kp L12.out ht L12.out.size (fun j e => by have := OWN0.out _ e; have := ORD.out; omega))
    have J13 := Lib.hid (fx_kp J12.out ht (fun e => by have := OWN0.out _ e; have := OWN1.out _ e; have := ORD.out; omega))
    have X13 := Lib.hid (mx_kp X12.out ht (fun e => by have := OWN0.out _ e; have := OWN1.out _ e; have := ORD.out; omega))
    have W13 := Lib.hid (mx_kp W12.out ht (fun e => by have := OWN0.out _ e; have := OWN1.out _ e; have := ORD.out; omega))
    have V1_13 := Lib.hid (bk_kp V1_12.out ht (fun e => by have := OWN0.out _ e; have := OWN1.out _ e; have := ORD.out; omega))
    have V2_13 := Lib.hid (bk_kp V2_12.out ht (fun e => by have := OWN0.out _ e; have := OWN1.out _ e; have := ORD.out; omega))
    have V3_13 := Lib.hid (bk_kp V3_12.out ht (fun e => by have := OWN0.out _ e; have := OWN1.out _ e; have := ORD.out; omega))
    have P1_13 := Lib.hid (bk_kp P1_12.out ht (fun e => by have := OWN0.out _ e; have := OWN1.out _ e; have := ORD.out; omega))
    have P2_13 := Lib.hid (bk_kp P2_12.out ht (fun e => by have := OWN0.out _ e; have := OWN1.out _ e; have := ORD.out; omega))
    have P3_13 := Lib.hid (bk_kp P3_12.out ht (fun e => by have := OWN0.out _ e; have := OWN1.out _ e; have := ORD.out; omega))
    have P13 := Lib.hid (mx_kp P12.out ht (fun e => by have := OWN0.out _ e; have := OWN1.out _ e; have := ORD.out; omega))
    have G1_13 := Lib.hid (bk_kp G1_12.out ht (fun e => by have := OWN0.out _ e; have := OWN1.out _ e; have := ORD.out; omega))
    have G2_13 := Lib.hid (bk_kp G2_12.out ht (fun e => by have := OWN0.out _ e; have := OWN1.out _ e; have := ORD.out; omega))
    have G3_13 := Lib.hid (bk_kp G3_12.out ht (fun e => by have := OWN0.out _ e; have := OWN1.out _ e; have := ORD.out; omega))
    have G13 := Lib.hid (mx_kp G12.out ht (fun e => by have := OWN0.out _ e; have := OWN1.out _ e; have := ORD.out; omega))
    clear ht z0 z1 L12 J12 X12 W12 V1_12 V2_12 V3_12 XZ_12 Q12 P1_12 P2_12 P3_12 P12 G1_12 G2_12 G3_12 G12
    obtain ⟨a1, ha1⟩ : ∃ a, 1 + mws (zs.zip gs) + 2 * m = a := ⟨_, rfl⟩
    rw [ha1]
    have zz1 : a1 ≤ 10000000 ∧ 0 < a1 := by have := HW.out gs; omega
    clear ha1
    obtain ⟨x0_0, x0_1, x0_2, x0_3, x0_4, x0_5, x0_6, x0_7, x0_8, x0_9, x0_10, x0_11⟩ := P13.out
    go_wp2_with fail
    refine (markMsg_at h p1 n1 e1 p2 n2 e2 p3 n3 e3 a1 l1 l2 l3 rp1 rp2 rp3 _ P1_13.out P2_13.out P3_13.out B1.out B2.out B3.out (by have := ORD.out; omega) (by have := ORD.out; omega) (by omega) (by omega)).mono ?_
    rintro e w14 ⟨rfl, -, -, -, ht⟩
    have L14 := Lib.hid (ht.below L13.out (by have := ORD.out; omega) (by have := ORD.out; omega) (by have := ORD.out; omega))
    have J14 := Lib.hid (fx_turned ht J13.out (by have := ORD.out; omega) (by have := ORD.out; omega) (by have := ORD.out; omega))
    have X14 := Lib.hid (ht.mx X13.out (by have := ORD.out; omega) (by have := ORD.out; omega) (by have := ORD.out; omega))
    have W14 := Lib.hid (ht.mx W13.out (by have := ORD.out; omega) (by have := ORD.out; omega) (by have := ORD.out; omega))
    have V1_14 := Lib.hid (ht.bk V1_13.out (by have := ORD.out; omega) (by have := ORD.out; omega) (by have := ORD.out; omega))
    have V2_14 := Lib.hid (ht.bk V2_13.out (by have := ORD.out; omega) (by have := ORD.out; omega) (by have := ORD.out; omega))
    have V3_14 := Lib.hid (ht.bk V3_13.out (by have := ORD.out; omega) (by have := ORD.out; omega) (by have := ORD.out; omega))
    have G1_14 := Lib.hid (ht.bk G1_13.out (by have := ORD.out; omega) (by have := ORD.out; omega) (by have := ORD.out; omega))
    have G2_14 := Lib.hid (ht.bk G2_13.out (by have := ORD.out; omega) (by have := ORD.out; omega) (by have := ORD.out; omega))
    have G3_14 := Lib.hid (ht.bk G3_13.out (by have := ORD.out; omega) (by have := ORD.out; omega) (by have := ORD.out; omega))
    have G14 := Lib.hid (ht.mx G13.out (by have := ORD.out; omega) (by have := ORD.out; omega) (by have := ORD.out; omega))
    clear ht L13 J13 X13 W13 V1_13 V2_13 V3_13 P1_13 P2_13 P3_13 P13 G1_13 G2_13 G3_13 G13  x0_0 x0_1 x0_2 x0_3 x0_4 x0_5 x0_6 x0_7 x0_8 x0_9 x0_10 x0_11
    obtain ⟨a2, ha2⟩ : ∃ a, a1 + 6 * (n1 + n2 + n3) = a := ⟨_, rfl⟩
    rw [ha2]
    clear ha2
    have np : ¬ (a2 : Int) < 0 := by omega
    have np2 : decide ((a2 : Int) < 0) = false := decide_eq_false np
    obtain ⟨x0_0, x0_1, x0_2, x0_3, x0_4, x0_5, x0_6, x0_7, x0_8, x0_9, x0_10, x0_11⟩ := G14.out
    obtain ⟨x1_0, x1_1, x1_2, x1_3, x1_4, x1_5, x1_6, x1_7, x1_8, x1_9, x1_10, x1_11⟩ := W14.out
    go_wp2_with fail
    refine (eqMsg_same H _ _ k1 u1 f1 j1 _ _ k2 u2 f2 j2 _ _ k3 u3 f3 j3 _ (bk_sr G1_14.out D1.out) (bk_sr V1_14.out D1.out) (by omega) (bk_sr G2_14.out D2.out) (bk_sr V2_14.out D2.out) (by omega) (bk_sr G3_14.out D3.out) (bk_sr V3_14.out D3.out) (by omega)).mono ?_
    rintro e w15 ⟨rfl, hl⟩
    have L15 := Lib.hid (L14.out.trans (hl.mono L14.out.size))
    have J15 := Lib.hid (J14.out.below hl)
    have X15 := Lib.hid (X14.out.below hl)
    have W15 := Lib.hid (W14.out.below hl)
    have V1_15 := Lib.hid (V1_14.out.below hl V1_14.out.lt)
    have V2_15 := Lib.hid (V2_14.out.below hl V2_14.out.lt)
    have V3_15 := Lib.hid (V3_14.out.below hl V3_14.out.lt)
    have G1_15 := Lib.hid (G1_14.out.below hl G1_14.out.lt)
    have G2_15 := Lib.hid (G2_14.out.below hl G2_14.out.lt)
    have G3_15 := Lib.hid (G3_14.out.below hl G3_14.out.lt)
    have G15 := Lib.hid (G14.out.below hl)
    clear hl L14 J14 X14 W14 V1_14 V2_14 V3_14 G1_14 G2_14 G3_14 G14
    clear  x0_0 x0_1 x0_2 x0_3 x0_4 x0_5 x0_6 x0_7 x0_8 x0_9 x0_10 x0_11 x1_0 x1_1 x1_2 x1_3 x1_4 x1_5 x1_6 x1_7 x1_8 x1_9 x1_10 x1_11
    clear np np2
    obtain ⟨x0_0, x0_1, x0_2, x0_3, x0_4, x0_5, x0_6, x0_7, x0_8, x0_9, x0_10, x0_11⟩ := G15.out
    go_wp2_with fail
    refine (markMsg_one H g1 k1 u1 g2 k2 u2 g3 k3 u3 j1 j2 j3 rg1 rg2 rg3 _ G1_15.out G2_15.out G3_15.out D1.out D2.out D3.out (by have := ORD.out; omega) (by have := ORD.out; omega) (by omega)).mono ?_
    rintro e w16 ⟨rfl, hm1, hm2, hm3, ht⟩
    have M1_16 := Lib.hid hm1
    have M2_16 := Lib.hid hm2
    have M3_16 := Lib.hid hm3
    have L16 := Lib.hid (ht.below L15.out (by have := ORD.out; omega) (by have := ORD.out; omega) (by have := ORD.out; omega))
    have J16 := Lib.hid (fx_turned ht J15.out (by have := ORD.out; omega) (by have := ORD.out; omega) (by have := ORD.out; omega))
    have X16 := Lib.hid (ht.mx X15.out (by have := ORD.out; omega) (by have := ORD.out; omega) (by have := ORD.out; omega))
    have W16 := Lib.hid (ht.mx W15.out (by have := ORD.out; omega) (by have := ORD.out; omega) (by have := ORD.out; omega))
    have V1_16 := Lib.hid (ht.bk V1_15.out (by have := ORD.out; omega) (by have := ORD.out; omega) (by have := ORD.out; omega))
    have V2_16 := Lib.hid (ht.bk V2_15.out (by have := ORD.out; omega) (by have := ORD.out; omega) (by have := ORD.out; omega))
    have V3_16 := Lib.hid (ht.bk V3_15.out (by have := ORD.out; omega) (by have := ORD.out; omega) (by have := ORD.out; omega))
    have G16 := Lib.hid (ht.mx G15.out (by have := ORD.out; omega) (by have := ORD.out; omega) (by have := ORD.out; omega))
    clear ht L15 J15 X15 W15 V1_15 V2_15 V3_15 G1_15 G2_15 G3_15 G15 hm1 hm2 hm3 x0_0 x0_1 x0_2 x0_3 x0_4 x0_5 x0_6 x0_7 x0_8 x0_9 x0_10 x0_11
    have HU : Hid (∃ a : Nat, 1 + 6 * (k1 + k2 + k3) = a) := ⟨_, rfl⟩
    obtain ⟨u, hu⟩ := HU.out
    have UU := Lib.hid hu
    rw [hu]
    have nu : ¬ (u : Int) < 0 := by omega
    clear hu HU
    obtain ⟨x0_0, x0_1, x0_2, x0_3, x0_4, x0_5, x0_6, x0_7, x0_8, x0_9, x0_10, x0_11⟩ := G16.out
    go_wp2_with fail
    refine (heldMsg_one H g1 k1 u1 g2 k2 u2 g3 k3 u3 rg1 rg2 rg3 _ M1_16.out M2_16.out M3_16.out (by omega)).mono ?_
    rintro e w17 ⟨rfl, hl⟩
    rw [UU.out]
    have L17 := Lib.hid (L16.out.trans (hl.mono L16.out.size))
    have J17 := Lib.hid (J16.out.below hl)
    have X17 := Lib.hid (X16.out.below hl)
    have W17 := Lib.hid (W16.out.below hl)
    have V1_17 := Lib.hid (V1_16.out.below hl V1_16.out.lt)
    have V2_17 := Lib.hid (V2_16.out.below hl V2_16.out.lt)
    have V3_17 := Lib.hid (V3_16.out.below hl V3_16.out.lt)
    have G17 := Lib.hid (G16.out.below hl)
    have M1_17 := Lib.hid (M1_16.out.below hl M1_16.out.lt)
    have M2_17 := Lib.hid (M2_16.out.below hl M2_16.out.lt)
    have M3_17 := Lib.hid (M3_16.out.below hl M3_16.out.lt)
    clear hl L16 J16 X16 W16 V1_16 V2_16 V3_16 G16 M1_16 M2_16 M3_16
    clear  x0_0 x0_1 x0_2 x0_3 x0_4 x0_5 x0_6 x0_7 x0_8 x0_9 x0_10 x0_11
    go_upto_region 31 with (fail)
    have TZR : Hid (∀ W : World, (((W.cell? ⟨w.heap.size, 0, none⟩ = some (.slice A n c) ∧ W.cell? ⟨w.heap.size, 1, none⟩ = some (.slice P m d)) ∧ (W.cell? ⟨w.heap.size + 1, 0, none⟩ = some (.int .i64 h.id) ∧ W.cell? ⟨w.heap.size + 1, 1, none⟩ = some (.bool h.rp) ∧ W.cell? ⟨w.heap.size + 1, 2, none⟩ = some (.bool h.au) ∧ W.cell? ⟨w.heap.size + 1, 3, none⟩ = some (.bool h.ct) ∧ W.cell? ⟨w.heap.size + 1, 4, none⟩ = some (.bool h.wa) ∧ W.cell? ⟨w.heap.size + 1, 5, none⟩ = some (.bool h.ca) ∧ W.cell? ⟨w.heap.size + 1, 6, none⟩ = some (.int .i64 h.code) ∧ W.cell? ⟨w.heap.size + 1, 7, none⟩ = some (.string h.qn) ∧ W.cell? ⟨w.heap.size + 1, 8, none⟩ = some (.int .i64 h.qt) ∧ W.cell? ⟨w.heap.size + 1, 9, none⟩ = some (.slice A1 n1 c1) ∧ W.cell? ⟨w.heap.size + 1, 10, none⟩ = some (.slice A2 n2 c2) ∧ W.cell? ⟨w.heap.size + 1, 11, none⟩ = some (.slice A3 n3 c3))) ∧ Sv w17 W) → Calls Tryz.prog 36 #[.agg #[.slice A n c, .slice P m d]] W fun e w' => ∃ g gs h, e = .returned (.agg #[.slice (some ⟨g, 0, none⟩) n n, .slice (some ⟨h, 0, none⟩) m m]) ∧ Of zs ps W.heap.size g gs h w' ∧ h ∉ g :: gs ∧ (∀ j ∈ h :: g :: gs, W.heap.size ≤ j) ∧ Below W.heap.size W w') := fun W hW => TR.out W (L17.out.trans ((show Below w17.heap.size w17 W from hW.2).mono L17.out.size))
    have TMR : Hid (∀ W : World, (((W.cell? ⟨w.heap.size, 0, none⟩ = some (.slice A n c) ∧ W.cell? ⟨w.heap.size, 1, none⟩ = some (.slice P m d)) ∧ (W.cell? ⟨w.heap.size + 1, 0, none⟩ = some (.int .i64 h.id) ∧ W.cell? ⟨w.heap.size + 1, 1, none⟩ = some (.bool h.rp) ∧ W.cell? ⟨w.heap.size + 1, 2, none⟩ = some (.bool h.au) ∧ W.cell? ⟨w.heap.size + 1, 3, none⟩ = some (.bool h.ct) ∧ W.cell? ⟨w.heap.size + 1, 4, none⟩ = some (.bool h.wa) ∧ W.cell? ⟨w.heap.size + 1, 5, none⟩ = some (.bool h.ca) ∧ W.cell? ⟨w.heap.size + 1, 6, none⟩ = some (.int .i64 h.code) ∧ W.cell? ⟨w.heap.size + 1, 7, none⟩ = some (.string h.qn) ∧ W.cell? ⟨w.heap.size + 1, 8, none⟩ = some (.int .i64 h.qt) ∧ W.cell? ⟨w.heap.size + 1, 9, none⟩ = some (.slice A1 n1 c1) ∧ W.cell? ⟨w.heap.size + 1, 10, none⟩ = some (.slice A2 n2 c2) ∧ W.cell? ⟨w.heap.size + 1, 11, none⟩ = some (.slice A3 n3 c3))) ∧ Sv w17 W) → Calls Tryz.prog 43 #[.agg #[.int .i64 h.id, .bool h.rp, .bool h.au, .bool h.ct, .bool h.wa, .bool h.ca, .int .i64 h.code, .string h.qn, .int .i64 h.qt, .slice A1 n1 c1, .slice A2 n2 c2, .slice A3 n3 c3]] W (GivesM W h n1 n2 n3 l1 l2 l3)) := fun W hW => TM.out W (L17.out.trans ((show Below w17.heap.size w17 W from hW.2).mono L17.out.size))
    have SS0 : ((w17.cell? ⟨w.heap.size, 0, none⟩ = some (.slice A n c) ∧ w17.cell? ⟨w.heap.size, 1, none⟩ = some (.slice P m d)) ∧ (w17.cell? ⟨w.heap.size + 1, 0, none⟩ = some (.int .i64 h.id) ∧ w17.cell? ⟨w.heap.size + 1, 1, none⟩ = some (.bool h.rp) ∧ w17.cell? ⟨w.heap.size + 1, 2, none⟩ = some (.bool h.au) ∧ w17.cell? ⟨w.heap.size + 1, 3, none⟩ = some (.bool h.ct) ∧ w17.cell? ⟨w.heap.size + 1, 4, none⟩ = some (.bool h.wa) ∧ w17.cell? ⟨w.heap.size + 1, 5, none⟩ = some (.bool h.ca) ∧ w17.cell? ⟨w.heap.size + 1, 6, none⟩ = some (.int .i64 h.code) ∧ w17.cell? ⟨w.heap.size + 1, 7, none⟩ = some (.string h.qn) ∧ w17.cell? ⟨w.heap.size + 1, 8, none⟩ = some (.int .i64 h.qt) ∧ w17.cell? ⟨w.heap.size + 1, 9, none⟩ = some (.slice A1 n1 c1) ∧ w17.cell? ⟨w.heap.size + 1, 10, none⟩ = some (.slice A2 n2 c2) ∧ w17.cell? ⟨w.heap.size + 1, 11, none⟩ = some (.slice A3 n3 c3))) ∧ Sv w17 w17 := ⟨⟨J17.out, X17.out⟩, Below.refl _ _⟩
    have hgz : w.heap.size < w17.heap.size := J17.out.lt
    have hgx : w.heap.size + 1 < w17.heap.size := X17.out.lt
    go_wp2
    go_cut [15] (fun a wx => ∃ (gw v1 u1 : Nat) (r1 : List Value) (v2 u2 : Nat) (r2 : List Value) (v3 u3 : Nat) (r3 : List Value), a = .pointer (some ⟨gw, 0, none⟩) ∧ Hid (Mx wx gw H (.slice (some ⟨v1, 0, none⟩) k1 u1) (.slice (some ⟨v2, 0, none⟩) k2 u2) (.slice (some ⟨v3, 0, none⟩) k3 u3)) ∧ Hid (Bk wx v1 93 (fl j1 ++ r1)) ∧ Hid (Bk wx v2 93 (fl j2 ++ r2)) ∧ Hid (Bk wx v3 93 (fl j3 ++ r3)) ∧ Hid (w17.heap.size ≤ v1 ∧ v1 < v2 ∧ v2 < v3 ∧ w17.heap.size ≤ gw ∧ gw ≠ v1 ∧ gw ≠ v2 ∧ gw ≠ v3) ∧ Hid (Below w17.heap.size w17 wx))
    case first =>
      go_region_held3 (fun w' => ((w'.cell? ⟨w.heap.size, 0, none⟩ = some (.slice A n c) ∧ w'.cell? ⟨w.heap.size, 1, none⟩ = some (.slice P m d)) ∧ (w'.cell? ⟨w.heap.size + 1, 0, none⟩ = some (.int .i64 h.id) ∧ w'.cell? ⟨w.heap.size + 1, 1, none⟩ = some (.bool h.rp) ∧ w'.cell? ⟨w.heap.size + 1, 2, none⟩ = some (.bool h.au) ∧ w'.cell? ⟨w.heap.size + 1, 3, none⟩ = some (.bool h.ct) ∧ w'.cell? ⟨w.heap.size + 1, 4, none⟩ = some (.bool h.wa) ∧ w'.cell? ⟨w.heap.size + 1, 5, none⟩ = some (.bool h.ca) ∧ w'.cell? ⟨w.heap.size + 1, 6, none⟩ = some (.int .i64 h.code) ∧ w'.cell? ⟨w.heap.size + 1, 7, none⟩ = some (.string h.qn) ∧ w'.cell? ⟨w.heap.size + 1, 8, none⟩ = some (.int .i64 h.qt) ∧ w'.cell? ⟨w.heap.size + 1, 9, none⟩ = some (.slice A1 n1 c1) ∧ w'.cell? ⟨w.heap.size + 1, 10, none⟩ = some (.slice A2 n2 c2) ∧ w'.cell? ⟨w.heap.size + 1, 11, none⟩ = some (.slice A3 n3 c3))) ∧ Sv w17 w')
        (first
          | with_reducible exact SS0
          | with_reducible exact hS5
          | with_reducible exact hSq
          | with_reducible exact hSt
          | with_reducible exact keptZ_alloc hS5 _
          | with_reducible exact keptZ_alloc hSq _
          | with_reducible exact keptZ_alloc hSt _
          | with_reducible exact keptZ_draw (keptZ_alloc SS0 _)
          | with_reducible exact keptZ_fil (w := w18) (b := wq17.heap.size) hS5 (Nat.ne_of_lt (Nat.lt_of_lt_of_le hgz hZq)) (Nat.ne_of_lt (Nat.lt_of_lt_of_le hgx hZq)) hZq _ _ _ _ _ _ _ _ _ _ _ _ 
          | with_reducible exact keptZ_fil (w := w18) (b := wt17.heap.size) hS5 (Nat.ne_of_lt (Nat.lt_of_lt_of_le hgz hZt)) (Nat.ne_of_lt (Nat.lt_of_lt_of_le hgx hZt)) hZt _ _ _ _ _ _ _ _ _ _ _ _ 
          | with_reducible exact keptZ_fil (w := w18) (b := w17.heap.size) hS5 (Nat.ne_of_lt hgz) (Nat.ne_of_lt hgx) (Nat.le_refl _) _ _ _ _ _ _ _ _ _ _ _ _ 
          | with_reducible exact keptZ_draw SS0
          | with_reducible assumption
          | with_reducible exact keptZ (by assumption) hl
          | fail)
        (first
          | (go_at_call 36; (with_reducible refine (TZR.out _ (by assumption)).mono ?_); rintro e wt17 ⟨t1, ts, t2, rfl, hbz, -, -, hl⟩; have hl1 := hl; have hSt := keptZ (by assumption) hl; have hZt : w17.heap.size ≤ wt17.heap.size := Below.size hSt.2)
          | (go_at_call 43; (with_reducible refine (TMR.out _ (by assumption)).mono ?_); rintro e wq17 ⟨p1, f1, q1, p2, f2, q2, p3, f3, q3, rfl, -, -, -, -, -, -, hl⟩; have hl2 := hl; have hSq := keptZ (by assumption) hl; have hZq : w17.heap.size ≤ wq17.heap.size := Below.size hSq.2; first | with_reducible have hbq := hbz.below hl | with_reducible have hbq := (hbz.alloc (.cells #[.int .i64 0, .bool false, .bool false, .bool false, .bool false, .bool false, .int .i64 0, .string ⟨#[]⟩, .int .i64 0, .slice none 0 0, .slice none 0 0, .slice none 0 0] 45)).below hl)
          | (go_at_call 17; (first | with_reducible refine (IM.out t1 _ _ _ _ _ _ _ ts t2 _ hbq).mono ?_ | with_reducible refine (IM.out t1 _ _ _ _ _ _ _ ts t2 _ (hbq.alloc (.cells #[.int .i64 0, .bool false, .bool false, .bool false, .bool false, .bool false, .int .i64 0, .string ⟨#[]⟩, .int .i64 0, .slice none 0 0, .slice none 0 0, .slice none 0 0] 45))).mono ?_); rintro e w18 ⟨v1, u1, r1, v2, u2, r2, v3, u3, r3, rfl, hb1, hb2, hb3, hg, h12, h23, hl⟩; have hl3 := hl; have hS5 := keptZ (by assumption) hl; first | (with_reducible have RBw : RB wq17 w17.heap.size := ((rb_new1 w17).below hl1).below hl2; have RBx := RBw.below hl3; have HLT := Nat.lt_of_lt_of_le (rb_lt RBw) hg; have HV1 := Nat.le_trans hZq hg; have p0 := RBx.cell 0 (by decide); have f0 := RBx.free 0; have p1 := RBx.cell 1 (by decide); have f1 := RBx.free 1; have p2 := RBx.cell 2 (by decide); have f2 := RBx.free 2; have p3 := RBx.cell 3 (by decide); have f3 := RBx.free 3; have p4 := RBx.cell 4 (by decide); have f4 := RBx.free 4; have p5 := RBx.cell 5 (by decide); have f5 := RBx.free 5; have p6 := RBx.cell 6 (by decide); have f6 := RBx.free 6; have p7 := RBx.cell 7 (by decide); have f7 := RBx.free 7; have p8 := RBx.cell 8 (by decide); have f8 := RBx.free 8; have p9 := RBx.cell 9 (by decide); have f9 := RBx.free 9; have p10 := RBx.cell 10 (by decide); have f10 := RBx.free 10; have p11 := RBx.cell 11 (by decide); have f11 := RBx.free 11) | (with_reducible have RBw : RB wq17 wt17.heap.size := (rb_new wt17).below hl2; have RBx := RBw.below hl3; have HLT := Nat.lt_of_lt_of_le (rb_lt RBw) hg; have HV1 := Nat.le_trans hZq hg; have p0 := RBx.cell 0 (by decide); have f0 := RBx.free 0; have p1 := RBx.cell 1 (by decide); have f1 := RBx.free 1; have p2 := RBx.cell 2 (by decide); have f2 := RBx.free 2; have p3 := RBx.cell 3 (by decide); have f3 := RBx.free 3; have p4 := RBx.cell 4 (by decide); have f4 := RBx.free 4; have p5 := RBx.cell 5 (by decide); have f5 := RBx.free 5; have p6 := RBx.cell 6 (by decide); have f6 := RBx.free 6; have p7 := RBx.cell 7 (by decide); have f7 := RBx.free 7; have p8 := RBx.cell 8 (by decide); have f8 := RBx.free 8; have p9 := RBx.cell 9 (by decide); have f9 := RBx.free 9; have p10 := RBx.cell 10 (by decide); have f10 := RBx.free 10; have p11 := RBx.cell 11 (by decide); have f11 := RBx.free 11) | (have RBw := rb_new wq17; with_reducible have RBx := RBw.below hl3; have HLT := Nat.lt_of_lt_of_le (rb_lt RBw) hg; have HV1 := Nat.le_trans hZq (Nat.le_of_lt HLT); have p0 := RBx.cell 0 (by decide); have f0 := RBx.free 0; have p1 := RBx.cell 1 (by decide); have f1 := RBx.free 1; have p2 := RBx.cell 2 (by decide); have f2 := RBx.free 2; have p3 := RBx.cell 3 (by decide); have f3 := RBx.free 3; have p4 := RBx.cell 4 (by decide); have f4 := RBx.free 4; have p5 := RBx.cell 5 (by decide); have f5 := RBx.free 5; have p6 := RBx.cell 6 (by decide); have f6 := RBx.free 6; have p7 := RBx.cell 7 (by decide); have f7 := RBx.free 7; have p8 := RBx.cell 8 (by decide); have f8 := RBx.free 8; have p9 := RBx.cell 9 (by decide); have f9 := RBx.free 9; have p10 := RBx.cell 10 (by decide); have f10 := RBx.free 10; have p11 := RBx.cell 11 (by decide); have f11 := RBx.free 11) | (have HV1 := Nat.le_trans hZq hg))
          | fail)
      · go_wp2_with fail
        go_meet
        case rel =>
          refine ⟨_, v1, u1, r1, v2, u2, r2, v3, u3, r3, rfl, ?_, ?_, ?_, ?_, ?_, ?_⟩
          · exact mx_new w18 _ H (.slice (some ⟨v1, 0, none⟩) k1 u1) (.slice (some ⟨v2, 0, none⟩) k2 u2) (.slice (some ⟨v3, 0, none⟩) k3 u3)
          · exact hb1.alloc _
          · exact hb2.alloc _
          · exact hb3.alloc _
          · exact ⟨HV1, h12, h23, Below.size hS5.2, Nat.ne_of_gt hb1.lt, Nat.ne_of_gt hb2.lt, Nat.ne_of_gt hb3.lt⟩
          · exact Below.alloc hS5.2 (Below.size hS5.2) _
      · go_wp2_with fail
        go_meet
        case rel =>
          refine ⟨_, v1, u1, r1, v2, u2, r2, v3, u3, r3, rfl, ?_, ?_, ?_, ?_, ?_, ?_⟩
          · exact mx_of (RBx.fil H (.slice (some ⟨v1, 0, none⟩) k1 u1) (.slice (some ⟨v2, 0, none⟩) k2 u2) (.slice (some ⟨v3, 0, none⟩) k3 u3))
          · exact filM_other hb1 (g := wq17.heap.size) (Nat.ne_of_gt HLT) H (.slice (some ⟨v1, 0, none⟩) k1 u1) (.slice (some ⟨v2, 0, none⟩) k2 u2) (.slice (some ⟨v3, 0, none⟩) k3 u3)
          · exact filM_other hb2 (g := wq17.heap.size) (Nat.ne_of_gt (Nat.lt_trans HLT h12)) H (.slice (some ⟨v1, 0, none⟩) k1 u1) (.slice (some ⟨v2, 0, none⟩) k2 u2) (.slice (some ⟨v3, 0, none⟩) k3 u3)
          · exact filM_other hb3 (g := wq17.heap.size) (Nat.ne_of_gt (Nat.lt_trans HLT (Nat.lt_trans h12 h23))) H (.slice (some ⟨v1, 0, none⟩) k1 u1) (.slice (some ⟨v2, 0, none⟩) k2 u2) (.slice (some ⟨v3, 0, none⟩) k3 u3)
          · exact ⟨HV1, h12, h23, hZq, Nat.ne_of_lt HLT, Nat.ne_of_lt (Nat.lt_trans HLT h12), Nat.ne_of_lt (Nat.lt_trans HLT (Nat.lt_trans h12 h23))⟩
          · exact filM_below (g := wq17.heap.size) hS5.2 hZq H (.slice (some ⟨v1, 0, none⟩) k1 u1) (.slice (some ⟨v2, 0, none⟩) k2 u2) (.slice (some ⟨v3, 0, none⟩) k3 u3)
      · go_wp2_with fail
        go_meet
        case rel =>
          refine ⟨_, v1, u1, r1, v2, u2, r2, v3, u3, r3, rfl, ?_, ?_, ?_, ?_, ?_, ?_⟩
          · exact mx_of (RBx.fil H (.slice (some ⟨v1, 0, none⟩) k1 u1) (.slice (some ⟨v2, 0, none⟩) k2 u2) (.slice (some ⟨v3, 0, none⟩) k3 u3))
          · exact filM_other hb1 (g := wt17.heap.size) (Nat.ne_of_gt HLT) H (.slice (some ⟨v1, 0, none⟩) k1 u1) (.slice (some ⟨v2, 0, none⟩) k2 u2) (.slice (some ⟨v3, 0, none⟩) k3 u3)
          · exact filM_other hb2 (g := wt17.heap.size) (Nat.ne_of_gt (Nat.lt_trans HLT h12)) H (.slice (some ⟨v1, 0, none⟩) k1 u1) (.slice (some ⟨v2, 0, none⟩) k2 u2) (.slice (some ⟨v3, 0, none⟩) k3 u3)
          · exact filM_other hb3 (g := wt17.heap.size) (Nat.ne_of_gt (Nat.lt_trans HLT (Nat.lt_trans h12 h23))) H (.slice (some ⟨v1, 0, none⟩) k1 u1) (.slice (some ⟨v2, 0, none⟩) k2 u2) (.slice (some ⟨v3, 0, none⟩) k3 u3)
          · exact ⟨HV1, h12, h23, hZt, Nat.ne_of_lt HLT, Nat.ne_of_lt (Nat.lt_trans HLT h12), Nat.ne_of_lt (Nat.lt_trans HLT (Nat.lt_trans h12 h23))⟩
          · exact filM_below (g := wt17.heap.size) hS5.2 hZt H (.slice (some ⟨v1, 0, none⟩) k1 u1) (.slice (some ⟨v2, 0, none⟩) k2 u2) (.slice (some ⟨v3, 0, none⟩) k3 u3)
      · go_wp2_with fail
        go_meet
        case rel =>
          refine ⟨_, v1, u1, r1, v2, u2, r2, v3, u3, r3, rfl, ?_, ?_, ?_, ?_, ?_, ?_⟩
          · exact mx_of (RBx.fil H (.slice (some ⟨v1, 0, none⟩) k1 u1) (.slice (some ⟨v2, 0, none⟩) k2 u2) (.slice (some ⟨v3, 0, none⟩) k3 u3))
          · exact filM_other hb1 (g := w17.heap.size) (Nat.ne_of_gt HLT) H (.slice (some ⟨v1, 0, none⟩) k1 u1) (.slice (some ⟨v2, 0, none⟩) k2 u2) (.slice (some ⟨v3, 0, none⟩) k3 u3)
          · exact filM_other hb2 (g := w17.heap.size) (Nat.ne_of_gt (Nat.lt_trans HLT h12)) H (.slice (some ⟨v1, 0, none⟩) k1 u1) (.slice (some ⟨v2, 0, none⟩) k2 u2) (.slice (some ⟨v3, 0, none⟩) k3 u3)
          · exact filM_other hb3 (g := w17.heap.size) (Nat.ne_of_gt (Nat.lt_trans HLT (Nat.lt_trans h12 h23))) H (.slice (some ⟨v1, 0, none⟩) k1 u1) (.slice (some ⟨v2, 0, none⟩) k2 u2) (.slice (some ⟨v3, 0, none⟩) k3 u3)
          · exact ⟨HV1, h12, h23, (Nat.le_refl _), Nat.ne_of_lt HLT, Nat.ne_of_lt (Nat.lt_trans HLT h12), Nat.ne_of_lt (Nat.lt_trans HLT (Nat.lt_trans h12 h23))⟩
          · exact filM_below (g := w17.heap.size) hS5.2 (Nat.le_refl _) H (.slice (some ⟨v1, 0, none⟩) k1 u1) (.slice (some ⟨v2, 0, none⟩) k2 u2) (.slice (some ⟨v3, 0, none⟩) k3 u3)
    case rest =>
      obtain ⟨gh, o1, s1, ro1, o2, s2, ro2, o3, s3, ro3, rfl, hmx, hb1, hb2, hb3, hord, hz⟩ := hcut
      have hl := hz.out
      clear hz
      generalize wc = w18 at *
      have Hh18 := Lib.hid hmx.out
      have O1_18 := Lib.hid hb1.out
      have O2_18 := Lib.hid hb2.out
      have O3_18 := Lib.hid hb3.out
      have OO := Lib.hid hord.out
      have OO_ := Lib.hid (show w17.heap.size ≤ w18.heap.size from hl.size)
      have L18 := Lib.hid (L17.out.trans (hl.mono L17.out.size))
      have J18 := Lib.hid (J17.out.below hl)
      have X18 := Lib.hid (X17.out.below hl)
      have W18 := Lib.hid (W17.out.below hl)
      have V1_18 := Lib.hid (V1_17.out.below hl V1_17.out.lt)
      have V2_18 := Lib.hid (V2_17.out.below hl V2_17.out.lt)
      have V3_18 := Lib.hid (V3_17.out.below hl V3_17.out.lt)
      have G18 := Lib.hid (G17.out.below hl)
      have M1_18 := Lib.hid (M1_17.out.below hl M1_17.out.lt)
      have M2_18 := Lib.hid (M2_17.out.below hl M2_17.out.lt)
      have M3_18 := Lib.hid (M3_17.out.below hl M3_17.out.lt)
      clear hl L17 J17 X17 W17 V1_17 V2_17 V3_17 G17 M1_17 M2_17 M3_17
      have OO__ : Hid (w.heap.size + 1 < w17.heap.size ∧ o3 < w18.heap.size ∧ gh < w18.heap.size) := ⟨hgx, O3_18.out.lt, Hh18.out.lt⟩
      clear hmx hb1 hb2 hb3 hord TZR TMR SS0 hgz hgx
      obtain ⟨x0_0, x0_1, x0_2, x0_3, x0_4, x0_5, x0_6, x0_7, x0_8, x0_9, x0_10, x0_11⟩ := Hh18.out
      obtain ⟨x1_0, x1_1, x1_2, x1_3, x1_4, x1_5, x1_6, x1_7, x1_8, x1_9, x1_10, x1_11⟩ := W18.out
      go_wp2_with fail
      refine (eqMsg_same H _ _ k1 s1 f1 j1 _ _ k2 s2 f2 j2 _ _ k3 s3 f3 j3 _ (bk_sr O1_18.out D1.out) (bk_sr V1_18.out D1.out) (by omega) (bk_sr O2_18.out D2.out) (bk_sr V2_18.out D2.out) (by omega) (bk_sr O3_18.out D3.out) (bk_sr V3_18.out D3.out) (by omega)).mono ?_
      rintro e w19 ⟨rfl, hl⟩
      have L19 := Lib.hid (L18.out.trans (hl.mono L18.out.size))
      have J19 := Lib.hid (J18.out.below hl)
      have X19 := Lib.hid (X18.out.below hl)
      have G19 := Lib.hid (G18.out.below hl)
      have M1_19 := Lib.hid (M1_18.out.below hl M1_18.out.lt)
      have M2_19 := Lib.hid (M2_18.out.below hl M2_18.out.lt)
      have M3_19 := Lib.hid (M3_18.out.below hl M3_18.out.lt)
      clear hl L18 J18 X18 W18 V1_18 V2_18 V3_18 G18 M1_18 M2_18 M3_18 Hh18 O1_18 O2_18 O3_18
      clear  x0_0 x0_1 x0_2 x0_3 x0_4 x0_5 x0_6 x0_7 x0_8 x0_9 x0_10 x0_11 x1_0 x1_1 x1_2 x1_3 x1_4 x1_5 x1_6 x1_7 x1_8 x1_9 x1_10 x1_11
      obtain ⟨x0_0, x0_1, x0_2, x0_3, x0_4, x0_5, x0_6, x0_7, x0_8, x0_9, x0_10, x0_11⟩ := G19.out
      go_wp2_with fail
      refine (heldMsg_one H g1 k1 u1 g2 k2 u2 g3 k3 u3 rg1 rg2 rg3 _ M1_19.out M2_19.out M3_19.out (by omega)).mono ?_
      rintro e w20 ⟨rfl, hl⟩
      rw [UU.out]
      have L20 := Lib.hid (L19.out.trans (hl.mono L19.out.size))
      have J20 := Lib.hid (J19.out.below hl)
      have X20 := Lib.hid (X19.out.below hl)
      clear hl L19 J19 X19 G19 M1_19 M2_19 M3_19
      clear  x0_0 x0_1 x0_2 x0_3 x0_4 x0_5 x0_6 x0_7 x0_8 x0_9 x0_10 x0_11
      go_wp2
      go_ret
      exact ⟨rfl, L20.out⟩

end Go.Proofs.YtmkcjjgicinggaaGreatDoor.LawReplyAt

/- What the world's shape gives the walks of this seat, and one world in which the listed tables of unicode/utf8 read as their text lays them. -/
namespace Go.Proofs.YtmkcjjgicinggaaGreatDoor.LaidU
open Go.RowKit Go.Proofs.YtmkcjjgicinggaaGreatDoor.Labels

theorem env {W : World} (h : W.ShapedOpen Tryz.prog) : Env W := Tryz.laysM146.s1_3 W h

def acc : List Int := [128, 191, 160, 191, 128, 159, 144, 191, 128, 143, 0, 0, 0, 0, 0, 0, 0, 0, 0, 0, 0, 0, 0, 0, 0, 0, 0, 0, 0, 0, 0, 0]
theorem gFirst : Tryz.prog.globalNamed "unicode/utf8.first" = some 1 := by kernel_rfl
theorem gAcc : Tryz.prog.globalNamed "unicode/utf8.acceptRanges" = some 2 := by kernel_rfl
/-- A block of cells, with other cells in it. -/
def put (cs : Array Value) : Obj → Obj
  | .cells _ t frozen => .cells cs t frozen
  | o => o
/-- The settled world, the two tables holding what their text lays. -/
noncomputable def laidWorld (os : Os) : World :=
  { World.holding Tryz.prog os ⟨#[], #[], []⟩ with heap := ((World.holding Tryz.prog os ⟨#[], #[], []⟩).heap.modify 1 (put (Go.Pinned.utf8FirstZ.map (fun n : Nat => Value.int .u8 (n : Int))).toArray)).modify 2 (put (acc.map (Value.int .u8)).toArray) }
def two : List (String × DataW Unit) := [("unicode/utf8.acceptRanges", Rows.laid_unicode_utf8_acceptRanges), ("unicode/utf8.first", Rows.laid_unicode_utf8_first)]
theorem laid_met (os : Os) (args : Array Value) : laidMet Tryz.prog two ((laidWorld os).forCall (fun _ _ => 0) ⟨#[], args, []⟩).memory :=
  laidMet_of_run' 8 (by kernel_rfl) (by kernel_rfl)
end Go.Proofs.YtmkcjjgicinggaaGreatDoor.LaidU

/- What a zone that comes in reads as. -/
namespace Go.Proofs.YtmkcjjgicinggaaGreatDoor.RowZ
open Go.Proofs.YtmkcjjgicinggaaGreatDoor.Mem Go.Proofs.YtmkcjjgicinggaaGreatDoor.MemR Go.Proofs.YtmkcjjgicinggaaGreatDoor.RowR
open Go.ChangeShapes Go.WideShapes Go.ChangeAt Go.RowKit Go.Deep

section
variable {H : Type} {enc : TypeId × Value → H} {w : World} {base : Nat} {spare : Nat → Bool} {held : Bool}
theorem zone_cells {cs : List Value} {s0 : ByteArray} {v1 : Value} (h : cs.length = 2) (e0 : (cs.drop 0).take 1 = [.string s0]) (e1 : (cs.drop 1).take 1 = [v1]) : cs = [.string s0, v1] := by
  match cs, h with
  | [c0, c1], _ =>
    simp only [List.drop_zero, List.drop_succ_cons, List.take_succ_cons, List.take_zero, List.cons.injEq, and_true] at e0 e1
    subst e0 e1
    rfl

theorem slice_cells {fuel : Nat} {cs : List Value} {x : DataW H × List MemPlace} (h : DataW.trod enc Tryz.prog w base spare held fuel 71 cs = some x) : ∃ a len cap, cs = [.slice a len cap] := by
  rcases open_slice Tryz.underlying71 h with ⟨hcs, _⟩ | ⟨x, len', cap', m, n, D, Pl, hcs, _⟩
  · exact ⟨_, _, _, hcs⟩
  · exact ⟨_, _, _, hcs⟩
end

section
variable {H : Type} {enc : TypeId × Value → H} {w : World}

theorem recs_of {fuel : Nat} {cs : List Value} {x : DataW H × List MemPlace} (h : DataW.trod enc Tryz.prog w 0 (fun _ => true) true fuel 71 cs = some x) : ∃ a len cap l, cs = [.slice a len cap] ∧ IsRecs w a len l := by
  obtain ⟨a, len, cap, rfl⟩ := slice_cells h
  obtain ⟨d, p⟩ := x
  obtain ⟨l, hl⟩ := recs_in (a := a) (len := len) (cap := cap) (d := d) (p := p) ⟨fuel, h⟩
  exact ⟨a, len, cap, l, rfl, hl⟩

theorem zone_of {fuel : Nat} {cs : List Value} {x : DataW H × List MemPlace} (h : DataW.trod enc Tryz.prog w 0 (fun _ => true) true fuel 161 cs = some x) :
    ∃ (s : ByteArray) (a : Option Addr) (n c : Nat) (l : List Rec), cs = [.string s, .slice a n c] ∧ s.size ≤ 9223372036854775807 ∧ IsRecs w a n l := by
  obtain ⟨xs, n, _, _, hc, hl, hg⟩ := DataW.trod_struct Tryz.underlying161 h
  have h2 : cs.length = 2 := hc.trans (by kernel_rfl)
  have hx : xs.length = 2 := hl
  have ks : Tryz.prog.cellsOf 9 = 1 := by kernel_rfl
  have kr : Tryz.prog.cellsOf 71 = 1 := by kernel_rfl
  have g : ∀ i, i < 2 → xs[i]? = some (xs[i]!) := fun i hi => by rw [getElem!_pos xs i (by omega)]; exact List.getElem?_eq_getElem (by omega)
  have f0 := (hg 0 _ rfl).trans (g 0 (by omega))
  have f1 := (hg 1 _ rfl).trans (g 1 (by omega))
  obtain ⟨s0, e0, _, z0⟩ := DataW.trod_string Tryz.underlying9 f0
  obtain ⟨a1, n1, c1, l1, e1, z1⟩ := recs_of f1
  replace e0 : (cs.drop 0).take (Tryz.prog.cellsOf 9) = [.string s0] := e0
  replace e1 : (cs.drop 1).take (Tryz.prog.cellsOf 71) = [.slice a1 n1 c1] := e1
  rw [ks] at e0
  rw [kr] at e1
  unfold maxLen at z0
  exact ⟨s0, a1, n1, c1, l1, zone_cells h2 e0 e1, z0, z1⟩

set_option maxRecDepth 100000 in
/-- A zone that comes in. -/
theorem zone_in {r : Reach} {b0 : Nat} {v : Value} {d : DataW H} {p : List MemPlace} (hv : Value.okWide Tryz.prog w r b0 161 v) (h : DataW.Trod enc Tryz.prog w 0 (fun _ => true) true 161 v d p) :
    ∃ (s : ByteArray) (a : Option Addr) (n c : Nat) (l : List Rec), v = .agg #[.string s, .slice a n c] ∧ s.size ≤ 9223372036854775807 ∧ IsRecs w a n l := by
  obtain ⟨cs, rfl, _⟩ := okWide_struct Tryz.underlying161 hv
  obtain ⟨fuel, hf⟩ := h
  obtain ⟨s, a, n, c, l, hr, hz⟩ := zone_of hf
  refine ⟨s, a, n, c, l, ?_, hz⟩
  have e : cs.toList = [.string s, .slice a n c] := hr
  rw [show cs = ([.string s, .slice a n c] : List Value).toArray from by rw [← e]]

end
end Go.Proofs.YtmkcjjgicinggaaGreatDoor.RowZ

/- What a name space that comes in reads as. -/
namespace Go.Proofs.YtmkcjjgicinggaaGreatDoor.RowF
open Go.Proofs.YtmkcjjgicinggaaGreatDoor.Mem Go.Proofs.YtmkcjjgicinggaaGreatDoor.MemR Go.Proofs.YtmkcjjgicinggaaGreatDoor.RowR Go.Proofs.YtmkcjjgicinggaaGreatDoor.RowZ Go.Proofs.YtmkcjjgicinggaaGreatDoor.MemF Go.Proofs.YtmkcjjgicinggaaGreatDoor.SzF
open Go.ChangeShapes Go.WideShapes Go.ChangeAt Go.RowKit Go.Deep

section
variable {H : Type} {enc : TypeId × Value → H} {w : World}

theorem two_cells {cs : List Value} {v0 v1 : Value} (h : cs.length = 2) (e0 : (cs.drop 0).take 1 = [v0]) (e1 : (cs.drop 1).take 1 = [v1]) : cs = [v0, v1] := by
  match cs, h with
  | [c0, c1], _ =>
    simp only [List.drop_zero, List.drop_succ_cons, List.take_succ_cons, List.take_zero, List.cons.injEq, and_true] at e0 e1
    subst e0 e1
    rfl

theorem post_of {fuel : Nat} {cs : List Value} {x : DataW H × List MemPlace} (h : DataW.trod enc Tryz.prog w 0 (fun _ => true) true fuel 163 cs = some x) :
    ∃ p : Pst, cs = [.int .i64 p.addr, .string p.apex] ∧ p.apex.size ≤ 9223372036854775807 := by
  obtain ⟨xs, n, _, _, hc, hl, hg⟩ := DataW.trod_struct Tryz.underlying163 h
  have h2 : cs.length = 2 := hc.trans (by kernel_rfl)
  have hx : xs.length = 2 := hl
  have ks : Tryz.prog.cellsOf 9 = 1 := by kernel_rfl
  have ki : Tryz.prog.cellsOf 3 = 1 := by kernel_rfl
  have g : ∀ i, i < 2 → xs[i]? = some (xs[i]!) := fun i hi => by rw [getElem!_pos xs i (by omega)]; exact List.getElem?_eq_getElem (by omega)
  have f0 := (hg 0 _ rfl).trans (g 0 (by omega))
  have f1 := (hg 1 _ rfl).trans (g 1 (by omega))
  obtain ⟨x0, e0, _⟩ := DataW.trod_int Tryz.underlying3 f0
  obtain ⟨s1, e1, _, z1⟩ := DataW.trod_string Tryz.underlying9 f1
  replace e0 : (cs.drop 0).take (Tryz.prog.cellsOf 3) = [.int .i64 x0] := e0
  replace e1 : (cs.drop 1).take (Tryz.prog.cellsOf 9) = [.string s1] := e1
  rw [ki] at e0
  rw [ks] at e1
  unfold maxLen at z1
  exact ⟨⟨x0, s1⟩, two_cells h2 e0 e1, z1⟩

set_option maxRecDepth 100000 in
theorem posts_of {fuel : Nat} {cs : List Value} {x : DataW H × List MemPlace} (h : DataW.trod enc Tryz.prog w 0 (fun _ => true) true fuel 61 cs = some x) :
    ∃ a len cap ps, cs = [.slice a len cap] ∧ Rp w w.heap.size a len ps ∧ len ≤ 9223372036854775807 ∧ ∀ p ∈ ps, p.apex.size ≤ 9223372036854775807 := by
  rcases open_slice Tryz.underlying61 h with ⟨hcs, _⟩ | ⟨x, len, cap, m, n, D, Pl, hcs, _, hl, hm, hmm, _, hx⟩
  · exact ⟨none, 0, 0, [], hcs, Rp.nil, by omega, fun r h => by simp at h⟩
  · unfold maxLen at hm
    simp only [if_true] at hmm
    subst hmm
    have hC : Tryz.prog.cellsOf 163 = 2 := by kernel_rfl
    rw [hC] at hx
    obtain ⟨b, off, spot⟩ := x
    rcases Nat.eq_zero_or_pos len with h0 | h0
    · subst h0
      exact ⟨_, _, _, [], hcs, Rp.nil, by omega, fun r h => by simp at h⟩
    have hs : spot = none := by
      obtain ⟨cs', hc, _⟩ := hx 0 (by omega)
      obtain ⟨_, hl6, hat⟩ := World.cells?_some hc
      have c0 := hat 0 (by omega)
      rw [List.getElem?_eq_getElem (by omega)] at c0
      simpa [Addr.add] using World.cell?_spot c0
    subst hs
    have key : ∀ i : Nat, ∃ r : Pst, i < len → (b < w.heap.size ∧ Cp w b (off + i * 2) r ∧ r.apex.size ≤ 9223372036854775807) := fun i => by
      by_cases hi : i < len
      · obtain ⟨cs', hc, ht⟩ := hx i (by omega)
        obtain ⟨r, rfl, hz⟩ := post_of ht
        obtain ⟨_, _, hat⟩ := World.cells?_some hc
        refine ⟨r, fun _ => ?_⟩
        have hc : ∀ c, c < 2 → w.cell? ⟨b, off + i * 2 + c, none⟩ = ([.int .i64 r.addr, .string r.apex] : List Value)[c]? := fun c hc => by
          rw [← hat c hc, Addr.add_lit, Addr.add_lit]
        have c0 : w.cell? ⟨b, off + i * 2 + 0, none⟩ = some (.int .i64 r.addr) := hc 0 (by omega)
        exact ⟨World.block_lt_of_cell? _ _ c0, ⟨c0, hc 1 (by omega)⟩, hz⟩
      · exact ⟨⟨0, ⟨#[]⟩⟩, fun h => absurd h hi⟩
    obtain ⟨f, hf⟩ := Classical.axiomOfChoice key
    refine ⟨_, _, _, (List.range len).map f, hcs, ⟨by simp, fun hn => ?_⟩, by omega, fun r hr => ?_⟩
    · refine ⟨b, off, rfl, (hf 0 hn).1, fun j hj => ?_⟩
      have hj' : j < len := by simpa using hj
      have := (hf j hj').2.1
      simpa using this
    · obtain ⟨i, hi, rfl⟩ := List.mem_map.1 hr
      exact (hf i (List.mem_range.1 hi)).2.2

set_option maxRecDepth 100000 in
theorem zones_of {fuel : Nat} {cs : List Value} {x : DataW H × List MemPlace} (h : DataW.trod enc Tryz.prog w 0 (fun _ => true) true fuel 60 cs = some x) :
    ∃ a len cap zs, cs = [.slice a len cap] ∧ Rz False w w.heap.size a len zs ∧ len ≤ 9223372036854775807 ∧ ∀ z ∈ zs, SmallZ z := by
  rcases open_slice Tryz.underlying60 h with ⟨hcs, _⟩ | ⟨x, len, cap, m, n, D, Pl, hcs, _, hl, hm, hmm, _, hx⟩
  · exact ⟨none, 0, 0, [], hcs, Rz.nil, by omega, fun r h => by simp at h⟩
  · unfold maxLen at hm
    simp only [if_true] at hmm
    subst hmm
    have hC : Tryz.prog.cellsOf 161 = 2 := by kernel_rfl
    rw [hC] at hx
    obtain ⟨b, off, spot⟩ := x
    rcases Nat.eq_zero_or_pos len with h0 | h0
    · subst h0
      exact ⟨_, _, _, [], hcs, Rz.nil, by omega, fun r h => by simp at h⟩
    have hs : spot = none := by
      obtain ⟨cs', hc, _⟩ := hx 0 (by omega)
      obtain ⟨_, hl6, hat⟩ := World.cells?_some hc
      have c0 := hat 0 (by omega)
      rw [List.getElem?_eq_getElem (by omega)] at c0
      simpa [Addr.add] using World.cell?_spot c0
    subst hs
    have key : ∀ i : Nat, ∃ r : Zn, i < len → (b < w.heap.size ∧ Cz False w w.heap.size b (off + i * 2) r ∧ SmallZ r) := fun i => by
      by_cases hi : i < len
      · obtain ⟨cs', hc, ht⟩ := hx i (by omega)
        obtain ⟨s, a, n, c, l, rfl, hz, hr⟩ := zone_of ht
        obtain ⟨_, _, hat⟩ := World.cells?_some hc
        refine ⟨⟨s, l⟩, fun _ => ?_⟩
        have hc : ∀ c', c' < 2 → w.cell? ⟨b, off + i * 2 + c', none⟩ = ([.string s, .slice a n c] : List Value)[c']? := fun c' hc => by
          rw [← hat c' hc, Addr.add_lit, Addr.add_lit]
        have c0 : w.cell? ⟨b, off + i * 2 + 0, none⟩ = some (.string s) := hc 0 (by omega)
        exact ⟨World.block_lt_of_cell? _ _ c0, ⟨c0, a, n, c, hc 1 (by omega), hr.1, fun h => h.elim⟩, hz, by have := hr.1.1; have := hr.2.1; show l.length ≤ _; omega, hr.2.2⟩
      · exact ⟨⟨⟨#[]⟩, []⟩, fun h => absurd h hi⟩
    obtain ⟨f, hf⟩ := Classical.axiomOfChoice key
    refine ⟨_, _, _, (List.range len).map f, hcs, ⟨by simp, fun hn => ?_⟩, by omega, fun r hr => ?_⟩
    · refine ⟨b, off, rfl, (hf 0 hn).1, fun j hj => ?_⟩
      have hj' : j < len := by simpa using hj
      have := (hf j hj').2.1
      simpa using this
    · obtain ⟨i, hi, rfl⟩ := List.mem_map.1 hr
      exact (hf i (List.mem_range.1 hi)).2.2

/-- The arguments read as a name space. -/
def IsForest (w : World) (A : Option Addr) (n : Nat) (zs : List Zn) (P : Option Addr) (m : Nat) (ps : List Pst) : Prop :=
  Sf False w A n zs P m ps ∧ n ≤ 9223372036854775807 ∧ m ≤ 9223372036854775807 ∧ (∀ z ∈ zs, SmallZ z) ∧ ∀ p ∈ ps, p.apex.size ≤ 9223372036854775807

theorem forest_of {fuel : Nat} {cs : List Value} {x : DataW H × List MemPlace} (h : DataW.trod enc Tryz.prog w 0 (fun _ => true) true fuel 63 cs = some x) :
    ∃ (A : Option Addr) (n c : Nat) (zs : List Zn) (P : Option Addr) (m d : Nat) (ps : List Pst), cs = [.slice A n c, .slice P m d] ∧ IsForest w A n zs P m ps := by
  obtain ⟨xs, n, _, _, hc, hl, hg⟩ := DataW.trod_struct Tryz.underlying63 h
  have h2 : cs.length = 2 := hc.trans (by kernel_rfl)
  have hx : xs.length = 2 := hl
  have kz : Tryz.prog.cellsOf 60 = 1 := by kernel_rfl
  have kp : Tryz.prog.cellsOf 61 = 1 := by kernel_rfl
  have g : ∀ i, i < 2 → xs[i]? = some (xs[i]!) := fun i hi => by rw [getElem!_pos xs i (by omega)]; exact List.getElem?_eq_getElem (by omega)
  have f0 := (hg 0 _ rfl).trans (g 0 (by omega))
  have f1 := (hg 1 _ rfl).trans (g 1 (by omega))
  obtain ⟨a0, n0, c0, zs, e0, r0, b0, z0⟩ := zones_of f0
  obtain ⟨a1, n1, c1, ps, e1, r1, b1, z1⟩ := posts_of f1
  replace e0 : (cs.drop 0).take (Tryz.prog.cellsOf 60) = [.slice a0 n0 c0] := e0
  replace e1 : (cs.drop 1).take (Tryz.prog.cellsOf 61) = [.slice a1 n1 c1] := e1
  rw [kz] at e0
  rw [kp] at e1
  exact ⟨a0, n0, c0, zs, a1, n1, c1, ps, two_cells h2 e0 e1, ⟨r0, r1⟩, b0, b1, z0, z1⟩

set_option maxRecDepth 100000 in
/-- A name space that comes in. -/
theorem forest_in {r : Reach} {b0 : Nat} {v : Value} {d : DataW H} {p : List MemPlace} (hv : Value.okWide Tryz.prog w r b0 63 v) (h : DataW.Trod enc Tryz.prog w 0 (fun _ => true) true 63 v d p) :
    ∃ (A : Option Addr) (n c : Nat) (zs : List Zn) (P : Option Addr) (m d : Nat) (ps : List Pst), v = .agg #[.slice A n c, .slice P m d] ∧ IsForest w A n zs P m ps := by
  obtain ⟨cs, rfl, _⟩ := okWide_struct Tryz.underlying63 hv
  obtain ⟨fuel, hf⟩ := h
  obtain ⟨A, n, c, zs, P, m, d, ps, hr, hz⟩ := forest_of hf
  refine ⟨A, n, c, zs, P, m, d, ps, ?_, hz⟩
  have e : cs.toList = [.slice A n c, .slice P m d] := hr
  rw [show cs = ([.slice A n c, .slice P m d] : List Value).toArray from by rw [← e]]
end
end Go.Proofs.YtmkcjjgicinggaaGreatDoor.RowF

/- The law FnExactReplyAt returns true at every name space, every address and every message, where the library variable internal/bytealg.MaxLen holds an int: ReplyAt answers as its model. -/
namespace Go.Proofs.YtmkcjjgicinggaaGreatDoor.exactReplyAtCard
open Go.ChangeShapes Go.WideShapes Go.ChangeAt Go.RowKit Go.Proofs.YtmkcjjgicinggaaGreatDoor.LaidU Go.Proofs.YtmkcjjgicinggaaGreatDoor.Mem Go.Proofs.YtmkcjjgicinggaaGreatDoor.RowM Go.Proofs.YtmkcjjgicinggaaGreatDoor.RowF

theorem own : ownKnob Tryz.prog.godebug = none := by kernel_rfl
theorem laidOut : laidOutB Tryz.prog = true := by kernel_rfl

set_option maxRecDepth 100000 in
theorem contract (H : Type) (enc : TypeId × Value → H) (W : World) (base : Nat) (args : Array Value) (ds gs : List (DataW H)) (before : List MemPlace)
    (hval0 : ∀ (j : Nat) t v, Tryz.f6.params[j]? = some t → args[j]? = some v → Value.okWide Tryz.prog W .any base t v)
    (hW : DataW.Whole enc Tryz.prog Tryz.f6.params.toList Rows.fnExactReplyAtSpec.vars false W args.toList ds gs before) (hsh : W.ShapedOpen Tryz.prog) :
    Calls Tryz.prog 6 args W fun e W' => ∃ v, e = .returned v ∧ Rows.fnExactReplyAtSpec.post enc Tryz.prog Tryz.f6 false true false false W args v W' := by
  have hval : ∀ (j : Nat) t v, Tryz.f6.params[j]? = some t → args[j]? = some v → Value.okWide Tryz.prog W .any base t v := hval0
  have hW' := hW
  obtain ⟨p, q, hA0, hV, rfl, _, _⟩ := hW
  have hA : DataW.TrodAll enc Tryz.prog W 0 (fun _ => true) true Tryz.f6.params.toList args.toList ds p := hA0
  rw [Tryz.params6] at hA hval
  obtain ⟨v0, vs0, d0, ds0, p0, q0, _, rfl, rfl, h0, r0⟩ := trodAll_cons hA
  obtain ⟨v1, vs1, d1, ds1, p1, q1, _, rfl, rfl, h1, r1⟩ := trodAll_cons r0
  obtain ⟨v2, vs2, d2, ds2, p2, q2, _, rfl, rfl, h2, r2⟩ := trodAll_cons r1
  obtain ⟨rfl, rfl, rfl⟩ := trodAll_nil r2
  obtain rfl : args = #[v0, v1, v2] := by cases args; simp_all
  obtain ⟨rfl, rfl⟩ := trodVars_none hV
  have k0 := h0
  have lt0 : ∀ x ∈ p0, x.block < W.heap.size := by obtain ⟨m, hm⟩ := k0; exact DataW.trod_lt m _ _ _ hm
  obtain ⟨a0, len0, cap0, zs0, P0, m0, d0, ps0, rfl, f0⟩ := forest_in (hval 0 63 v0 rfl rfl) h0
  obtain ⟨x1, rfl, rfl, rfl, hx1⟩ := open_int Tryz.underlying3 (hval 1 3 v1 rfl rfl) h1
  have k2 := h2
  have lt2 : ∀ x ∈ p2, x.block < W.heap.size := by obtain ⟨m, hm⟩ := k2; exact DataW.trod_lt m _ _ _ hm
  obtain ⟨x2, a2_1, n2_1, c2_1, l2_1, a2_2, n2_2, c2_2, l2_2, a2_3, n2_3, c2_3, l2_3, rfl, z2, i2_1, i2_2, i2_3⟩ := msg_in (hval 2 73 v2 rfl rfl) h2
  clear hA0 hval0
  refine (LawReplyAt.walk a0 len0 cap0 zs0 P0 m0 d0 ps0 x1 x2 a2_1 n2_1 c2_1 l2_1 a2_2 n2_2 c2_2 l2_2 a2_3 n2_3 c2_3 l2_3 W (env hsh) f0.1 f0.2.1 f0.2.2.1 f0.2.2.2.1 f0.2.2.2.2 z2 i2_1 i2_2 i2_3).mono fun e W' ⟨he, bel⟩ => ?_
  subst he
  exact ⟨_, rfl, _, _, _, [], _, [], hW', trodAll_mk1 (shut_bool Tryz.underlying4 _), (trodAll_cons_mk (Below.trod laidOut (by kernel_rfl) (of_decide_eq_true (by kernel_rfl)) k0 bel lt0) (trodAll_cons_mk (shut_int Tryz.underlying3 hx1) (trodAll_cons_mk (Below.trod laidOut (by kernel_rfl) (of_decide_eq_true (by kernel_rfl)) k2 bel lt2) trodAll_mk0))), rfl, bel.frame _, fun h => by cases h⟩

theorem reads (os : Os) {H : Type} (enc : TypeId × Value → H) : ∃ places, DataW.whole enc Tryz.prog ((laidWorld os).forCall (fun _ _ => 0) ⟨#[], #[.agg #[.slice none 0 0, .slice none 0 0], .int .i64 0, .agg #[.int .i64 0, .bool false, .bool false, .bool false, .bool false, .bool false, .int .i64 0, .string ⟨#[]⟩, .int .i64 0, .slice none 0 0, .slice none 0 0, .slice none 0 0]], []⟩).memory Tryz.f6.params.toList Rows.fnExactReplyAtSpec.vars false #[Value.agg #[.slice none 0 0, .slice none 0 0], Value.int .i64 0, Value.agg #[.int .i64 0, .bool false, .bool false, .bool false, .bool false, .bool false, .int .i64 0, .string ⟨#[]⟩, .int .i64 0, .slice none 0 0, .slice none 0 0, .slice none 0 0]].toList 8 = some ([.agg [.nil, .nil], .lit (.int .i64 0), .agg [.lit (.int .i64 0), .lit (.bool false), .lit (.bool false), .lit (.bool false), .lit (.bool false), .lit (.bool false), .lit (.int .i64 0), .agg [.lit (.string []), .lit (.int .i64 0)], .nil, .nil, .nil]], [], places) :=
  ⟨[], by kernel_rfl⟩

set_option maxRecDepth 100000 in
theorem lifted (os : Os) (started : os.Started) (H : Type) (enc : TypeId × Value → H) (F : Stop.Interp) :
    ReturnsInHanded {} Tryz.checked os 6 .any ((OpenSpec.ofChange Rows.fnExactReplyAtSpec).preRow enc Tryz.prog Tryz.f6 Rows.fnExactReplyAtRow.domain false Rows.fnExactReplyAtRow.laid) (((OpenSpec.ofChange Rows.fnExactReplyAtSpec).at F).post enc Tryz.prog Tryz.f6 false true false false) := by
  obtain ⟨places, hx⟩ := reads os enc
  refine returnsInHanded_of_row (C := Tryz.checked) (s := OpenSpec.ofChange Rows.fnExactReplyAtSpec) own started (by kernel_rfl) Tryz.func6
    (witness_row_at (enc := enc) (C := Tryz.checked) false (laidWorld os) #[.agg #[.slice none 0 0, .slice none 0 0], .int .i64 0, .agg #[.int .i64 0, .bool false, .bool false, .bool false, .bool false, .bool false, .int .i64 0, .string ⟨#[]⟩, .int .i64 0, .slice none 0 0, .slice none 0 0, .slice none 0 0]] rfl (by kernel_rfl) (by kernel_rfl) (by kernel_rfl)
      (OpenSpec.preRow_of_cond 8 hx (by kernel_rfl) (fun k hk => by cases hk) (by kernel_rfl) (laid_met os _))) ?_
  intro W base args ds gs before hval hW _ _ _ _ hsh _
  exact contract H enc W base args ds gs before hval hW hsh

theorem said : Rows.FnExactReplyAtSaid :=
  OpenClaim.holds_of_cond 6 Tryz.f6 rfl rfl rfl rfl rfl rfl rfl ⟨rfl, rfl, rfl, rfl, rfl⟩ rfl rfl rfl rfl rfl (by kernel_rfl) Tryz.func6 (by kernel_rfl)
    (of_decide_eq_true (by kernel_rfl)) (by unfold Func.isWrapper; first | (rw [if_pos (by decide +kernel)]; kernel_rfl) | (rw [if_neg (by decide +kernel)]; exact ⟨rfl, rfl⟩))
    (fun os started H enc _ F => by rw [OpenClaim.pre_eq_preRow]; exact lifted os started H enc F)

theorem plain (f : FuncId) (fn : Func) (hf : Tryz.pinned.checked.prog.funcNamed "loop.example/g00497/laws.FnExactReplyAt" = some f) (hfn : Tryz.pinned.checked.prog.funcs[f]? = some fn) :
    false = Tryz.pinned.checked.prog.looks [] ∧ ∀ (j : Nat) t, fn.params[j]? = some t → Tryz.pinned.checked.prog.wantsStandIn t = false := by
  obtain rfl : f = 6 := Option.some.inj ((show Tryz.prog.funcNamed "loop.example/g00497/laws.FnExactReplyAt" = some 6 by kernel_rfl).symm.trans hf) |>.symm
  obtain rfl : fn = Tryz.f6 := (Option.some.inj (Tryz.func6.symm.trans hfn)).symm
  refine ⟨by kernel_rfl, fun j t ht => ?_⟩
  rw [Tryz.params6] at ht
  have hm : t = 63 ∨ t = 3 ∨ t = 73 := by simpa using Array.mem_of_getElem? ht
  rcases hm with rfl | rfl | rfl
  · exact (show Tryz.prog.wantsStandIn 63 = false by kernel_rfl)
  · exact (show Tryz.prog.wantsStandIn 3 = false by kernel_rfl)
  · exact (show Tryz.prog.wantsStandIn 73 = false by kernel_rfl)

theorem card : Rows.FnExactReplyAtCardSaid :=
  Claim7.holds_tied_plain_at .later [] _ _ _ _ said (fun _ h => by cases h) (by kernel_rfl) (fun _ h => by cases h) fnExactReplyAt_row_tie rfl ⟨rfl, rfl⟩ (by kernel_rfl) rfl plain (by kernel_rfl)
end Go.Proofs.YtmkcjjgicinggaaGreatDoor.exactReplyAtCard
namespace Go.Proofs.YtmkcjjgicinggaaGreatDoor
theorem fnExactReplyAt_holds : Rows.FnExactReplyAtCardSaid := exactReplyAtCard.card
end Go.Proofs.YtmkcjjgicinggaaGreatDoor
