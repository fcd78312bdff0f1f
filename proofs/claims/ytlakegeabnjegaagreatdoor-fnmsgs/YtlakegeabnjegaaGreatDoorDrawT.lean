/- What the model's draws DrawAskMsg and DrawReplyTo do: short texts, few records; nothing that was there is turned. -/
import Derived.Test.YtlakegeabnjegaaGreatDoorDrawO
import Derived.Test.YtlakegeabnjegaaGreatDoorDrawK
import Derived.Deep.RegionHeld3
namespace Go.Proofs.YtlakegeabnjegaaGreatDoor.DrawT
open Go.RowKit Go.Proofs.YtlakegeabnjegaaGreatDoor.Mem Go.Proofs.YtlakegeabnjegaaGreatDoor.MemS Go.Proofs.YtlakegeabnjegaaGreatDoor.MemR Go.Proofs.YtlakegeabnjegaaGreatDoor.BoxR Go.Proofs.YtlakegeabnjegaaGreatDoor.Draw Go.Proofs.YtlakegeabnjegaaGreatDoor.DrawS Go.Proofs.YtlakegeabnjegaaGreatDoor.DrawL Go.Proofs.YtlakegeabnjegaaGreatDoor.DrawN Go.Proofs.YtlakegeabnjegaaGreatDoor.AppR Go.Proofs.YtlakegeabnjegaaGreatDoor.ResR Go.Proofs.YtlakegeabnjegaaGreatDoor.DrawR Go.Proofs.YtlakegeabnjegaaGreatDoor.OwnR Go.Proofs.YtlakegeabnjegaaGreatDoor.DrawA Go.Proofs.YtlakegeabnjegaaGreatDoor.MemM Go.Proofs.YtlakegeabnjegaaGreatDoor.ResM Go.Proofs.YtlakegeabnjegaaGreatDoor.AskM Go.Proofs.YtlakegeabnjegaaGreatDoor.DrawM Go.Proofs.YtlakegeabnjegaaGreatDoor.DrawO Go.Proofs.YtlakegeabnjegaaGreatDoor.DrawK

/-- A number and a question with a short name; nothing that was there is turned. -/
def Dak (w : World) (e : Ending) (w' : World) : Prop := ∃ (id : Int) (s : ByteArray) (n : Int), e = .returned (.tuple #[.int .i64 id, .agg #[.string s, .int .i64 n]]) ∧ s.size ≤ 60 ∧ Below w.heap.size w w'

set_option maxHeartbeats 4000000 in
theorem drawAskMsg_any (A : Option Addr) (n c : Nat) (l : List UInt8) (w : World) (hs : Sl w w.heap.size A n l) (hn : n ≤ 1048576) : Calls Tryz.prog 7 #[.slice A n c] w (Dak w) := by
  have HS := Lib.hid (App.sl_alloc hs (.cells #[.string ⟨#[]⟩, .int .i64 0] 25))
  have Z0 : Hid (Bk (w.alloc (.cells #[.string ⟨#[]⟩, .int .i64 0] 25)) w.heap.size 25 [.string ⟨#[]⟩, .int .i64 0]) := heap_alloc_new w _
  have L0 := Lib.hid ((Below.refl w.heap.size w).alloc (Nat.le_refl _) (.cells #[.string ⟨#[]⟩, .int .i64 0] 25))
  clear hs
  have K := Lib.hid (l1New_any A n c l _ HS.out hn)
  rw [show (w.alloc (.cells #[.string ⟨#[]⟩, .int .i64 0] 25)).heap.size = w.heap.size + 1 by simp] at K
  go_enter Tryz.func7, Tryz.ntmps7
  go_wp2_with fail
  refine K.out.mono ?_
  rintro e w1 ⟨rfl, hc1, hg1⟩
  have C1 := Lib.hid hc1
  have Z1 := Lib.hid (Z0.out.grown hg1 (fun e => by cases e))
  have L1 := Lib.hid (L0.out.trans ((below_of_grown hg1).mono L0.out.size))
  clear hc1 hg1 Z0 L0 K HS
  go_wp2_with fail
  refine (l1Below_any (w.heap.size + 1) 70000 w1 C1.out (by omega) (by omega)).mono ?_
  rintro e w2 ⟨id, rfl, -, -, hc2, hg2⟩
  have C2 := Lib.hid hc2
  have Z2 := Lib.hid (Z1.out.grown hg2 (fun e => by have := Option.some.inj e; omega))
  have L2 := Lib.hid (L1.out.grown hg2 L1.out.size (fun j hj => by cases hj; omega))
  clear hc2 hg2 C1 Z1 L1
  go_wp2_with fail
  refine (l7Quest_any (w.heap.size + 1) w2 C2.out).mono ?_
  rintro e w3 ⟨s, m, rfl, hs, hc3, hg3⟩
  have HQ := Lib.hid hs
  have Z3 := Lib.hid (Z2.out.grown hg3 (fun e => by have := Option.some.inj e; omega))
  have L3 := Lib.hid (L2.out.grown hg3 L2.out.size (fun j hj => by cases hj; omega))
  clear hs hc3 hg3 C2 Z2 L2
  have z0 : w3.cell? ⟨w.heap.size, 0, none⟩ = some (.string ⟨#[]⟩) := Z3.out.cell 0
  have z1 : w3.cell? ⟨w.heap.size, 1, none⟩ = some (.int .i64 0) := Z3.out.cell 1
  have f0 := Z3.out.free 0
  have f1 := Z3.out.free 1
  have LF := Lib.hid ((L3.out.setCell (p := ⟨w.heap.size, 0, none⟩) (Nat.le_refl _) (.string s)).setCell (p := ⟨w.heap.size, 1, none⟩) (Nat.le_refl _) (.int .i64 m))
  go_wp2
  exact bodyPost_ret (v := .tuple #[.int .i64 id, .agg #[.string s, .int .i64 m]]) (by simp [results, Tryz.results7, go_sem, z0, z1]) rfl ⟨id, s, m, rfl, HQ.out, LF.out⟩

/-- A message and what a reply is made of; nothing that was there is turned. -/
def Drp (w : World) (e : Ending) (w' : World) : Prop :=
  ∃ (h : Hd) (A1 : Option Addr) (n1 c1 : Nat) (A2 : Option Addr) (n2 c2 : Nat) (A3 : Option Addr) (n3 c3 : Nat) (co : Int) (au : Bool) (u1 m1 d1 : Nat) (l1 : List Rec) (u2 m2 d2 : Nat) (l2 : List Rec) (u3 m3 d3 : Nat) (l3 : List Rec),
    e = .returned (.tuple #[.agg #[.int .i64 h.id, .bool h.rp, .bool h.au, .bool h.ct, .bool h.wa, .bool h.ca, .int .i64 h.code, .string h.qn, .int .i64 h.qt, .slice A1 n1 c1, .slice A2 n2 c2, .slice A3 n3 c3], .int .i64 co, .bool au, .slice (some ⟨u1, 0, none⟩) m1 d1, .slice (some ⟨u2, 0, none⟩) m2 d2, .slice (some ⟨u3, 0, none⟩) m3 d3]) ∧
    Sr w' w'.heap.size (some ⟨u1, 0, none⟩) m1 l1 ∧ m1 ≤ 2 ∧ Sr w' w'.heap.size (some ⟨u2, 0, none⟩) m2 l2 ∧ m2 ≤ 2 ∧ Sr w' w'.heap.size (some ⟨u3, 0, none⟩) m3 l3 ∧ m3 ≤ 2 ∧ Below w.heap.size w w'

theorem mx_drawn {w : World} {g : Nat} {h : Hd} {x y z : Value} (m : Mx w g h x y z) : Mx w.drew g h x y z := m.below ((Below.refl _ _).drew)
theorem mx_turn {w w' : World} {g k : Nat} {h : Hd} {x y z : Value} (m : Mx w g h x y z) (hg : w.grownBy w' (some k)) (hk : g ≠ k) : Mx w' g h x y z := m.grown hg (fun e => hk (Option.some.inj e))
theorem mx_fil {w : World} {g k : Nat} {h : Hd} {x y z : Value} (m : Mx w g h x y z) (hk : g ≠ k) (v0 v1 v2 v3 v4 v5 v6 v7 v8 v9 v10 v11 : Value) : Mx ((((((((((((w.setCell ⟨k, 0, none⟩ v0).setCell ⟨k, 1, none⟩ v1).setCell ⟨k, 2, none⟩ v2).setCell ⟨k, 3, none⟩ v3).setCell ⟨k, 4, none⟩ v4).setCell ⟨k, 5, none⟩ v5).setCell ⟨k, 6, none⟩ v6).setCell ⟨k, 7, none⟩ v7).setCell ⟨k, 8, none⟩ v8).setCell ⟨k, 9, none⟩ v9).setCell ⟨k, 10, none⟩ v10).setCell ⟨k, 11, none⟩ v11) g h x y z := ((((((((((((m.set1 (p := ⟨k, 0, none⟩) hk v0).set1 (p := ⟨k, 1, none⟩) hk v1).set1 (p := ⟨k, 2, none⟩) hk v2).set1 (p := ⟨k, 3, none⟩) hk v3).set1 (p := ⟨k, 4, none⟩) hk v4).set1 (p := ⟨k, 5, none⟩) hk v5).set1 (p := ⟨k, 6, none⟩) hk v6).set1 (p := ⟨k, 7, none⟩) hk v7).set1 (p := ⟨k, 8, none⟩) hk v8).set1 (p := ⟨k, 9, none⟩) hk v9).set1 (p := ⟨k, 10, none⟩) hk v10).set1 (p := ⟨k, 11, none⟩) hk v11)
theorem mx_filR {w : World} {gm k : Nat} {h : Hd} {A1 A2 A3 : Option Addr} {n1 c1 n2 c2 n3 c3 : Nat} (m : (w.cell? ⟨gm, 0, none⟩ = some (.int .i64 h.id) ∧ w.cell? ⟨gm, 1, none⟩ = some (.bool h.rp) ∧ w.cell? ⟨gm, 2, none⟩ = some (.bool h.au) ∧ w.cell? ⟨gm, 3, none⟩ = some (.bool h.ct) ∧ w.cell? ⟨gm, 4, none⟩ = some (.bool h.wa) ∧ w.cell? ⟨gm, 5, none⟩ = some (.bool h.ca) ∧ w.cell? ⟨gm, 6, none⟩ = some (.int .i64 h.code) ∧ w.cell? ⟨gm, 7, none⟩ = some (.string h.qn) ∧ w.cell? ⟨gm, 8, none⟩ = some (.int .i64 h.qt) ∧ w.cell? ⟨gm, 9, none⟩ = some (.slice A1 n1 c1) ∧ w.cell? ⟨gm, 10, none⟩ = some (.slice A2 n2 c2) ∧ w.cell? ⟨gm, 11, none⟩ = some (.slice A3 n3 c3))) (hk : gm ≠ k) (v0 v1 v2 v3 v4 v5 v6 v7 v8 v9 v10 v11 : Value) : (((((((((((((w.setCell ⟨k, 0, none⟩ v0).setCell ⟨k, 1, none⟩ v1).setCell ⟨k, 2, none⟩ v2).setCell ⟨k, 3, none⟩ v3).setCell ⟨k, 4, none⟩ v4).setCell ⟨k, 5, none⟩ v5).setCell ⟨k, 6, none⟩ v6).setCell ⟨k, 7, none⟩ v7).setCell ⟨k, 8, none⟩ v8).setCell ⟨k, 9, none⟩ v9).setCell ⟨k, 10, none⟩ v10).setCell ⟨k, 11, none⟩ v11).cell? ⟨gm, 0, none⟩ = some (.int .i64 h.id) ∧ ((((((((((((w.setCell ⟨k, 0, none⟩ v0).setCell ⟨k, 1, none⟩ v1).setCell ⟨k, 2, none⟩ v2).setCell ⟨k, 3, none⟩ v3).setCell ⟨k, 4, none⟩ v4).setCell ⟨k, 5, none⟩ v5).setCell ⟨k, 6, none⟩ v6).setCell ⟨k, 7, none⟩ v7).setCell ⟨k, 8, none⟩ v8).setCell ⟨k, 9, none⟩ v9).setCell ⟨k, 10, none⟩ v10).setCell ⟨k, 11, none⟩ v11).cell? ⟨gm, 1, none⟩ = some (.bool h.rp) ∧ ((((((((((((w.setCell ⟨k, 0, none⟩ v0).setCell ⟨k, 1, none⟩ v1).setCell ⟨k, 2, none⟩ v2).setCell ⟨k, 3, none⟩ v3).setCell ⟨k, 4, none⟩ v4).setCell ⟨k, 5, none⟩ v5).setCell ⟨k, 6, none⟩ v6).setCell ⟨k, 7, none⟩ v7).setCell ⟨k, 8, none⟩ v8).setCell ⟨k, 9, none⟩ v9).setCell ⟨k, 10, none⟩ v10).setCell ⟨k, 11, none⟩ v11).cell? ⟨gm, 2, none⟩ = some (.bool h.au) ∧ ((((((((((((w.setCell ⟨k, 0, none⟩ v0).setCell ⟨k, 1, none⟩ v1).setCell ⟨k, 2, none⟩ v2).setCell ⟨k, 3, none⟩ v3).setCell ⟨k, 4, none⟩ v4).setCell ⟨k, 5, none⟩ v5).setCell ⟨k, 6, none⟩ v6).setCell ⟨k, 7, none⟩ v7).setCell ⟨k, 8, none⟩ v8).setCell ⟨k, 9, none⟩ v9).setCell ⟨k, 10, none⟩ v10).setCell ⟨k, 11, none⟩ v11).cell? ⟨gm, 3, none⟩ = some (.bool h.ct) ∧ ((((((((((((w.setCell ⟨k, 0, none⟩ v0).setCell ⟨k, 1, none⟩ v1).setCell ⟨k, 2, none⟩ v2).setCell ⟨k, 3, none⟩ v3).setCell ⟨k, 4, none⟩ v4).setCell ⟨k, 5, none⟩ v5).setCell ⟨k, 6, none⟩ v6).setCell ⟨k, 7, none⟩ v7).setCell ⟨k, 8, none⟩ v8).setCell ⟨k, 9, none⟩ v9).setCell ⟨k, 10, none⟩ v10).setCell ⟨k, 11, none⟩ v11).cell? ⟨gm, 4, none⟩ = some (.bool h.wa) ∧ ((((((((((((w.setCell ⟨k, 0, none⟩ v0).setCell ⟨k, 1, none⟩ v1).setCell ⟨k, 2, none⟩ v2).setCell ⟨k, 3, none⟩ v3).setCell ⟨k, 4, none⟩ v4).setCell ⟨k, 5, none⟩ v5).setCell ⟨k, 6, none⟩ v6).setCell ⟨k, 7, none⟩ v7).setCell ⟨k, 8, none⟩ v8).setCell ⟨k, 9, none⟩ v9).setCell ⟨k, 10, none⟩ v10).setCell ⟨k, 11, none⟩ v11).cell? ⟨gm, 5, none⟩ = some (.bool h.ca) ∧ ((((((((((((w.setCell ⟨k, 0, none⟩ v0).setCell ⟨k, 1, none⟩ v1).setCell ⟨k, 2, none⟩ v2).setCell ⟨k, 3, none⟩ v3).setCell ⟨k, 4, none⟩ v4).setCell ⟨k, 5, none⟩ v5).setCell ⟨k, 6, none⟩ v6).setCell ⟨k, 7, none⟩ v7).setCell ⟨k, 8, none⟩ v8).setCell ⟨k, 9, none⟩ v9).setCell ⟨k, 10, none⟩ v10).setCell ⟨k, 11, none⟩ v11).cell? ⟨gm, 6, none⟩ = some (.int .i64 h.code) ∧ ((((((((((((w.setCell ⟨k, 0, none⟩ v0).setCell ⟨k, 1, none⟩ v1).setCell ⟨k, 2, none⟩ v2).setCell ⟨k, 3, none⟩ v3).setCell ⟨k, 4, none⟩ v4).setCell ⟨k, 5, none⟩ v5).setCell ⟨k, 6, none⟩ v6).setCell ⟨k, 7, none⟩ v7).setCell ⟨k, 8, none⟩ v8).setCell ⟨k, 9, none⟩ v9).setCell ⟨k, 10, none⟩ v10).setCell ⟨k, 11, none⟩ v11).cell? ⟨gm, 7, none⟩ = some (.string h.qn) ∧ ((((((((((((w.setCell ⟨k, 0, none⟩ v0).setCell ⟨k, 1, none⟩ v1).setCell ⟨k, 2, none⟩ v2).setCell ⟨k, 3, none⟩ v3).setCell ⟨k, 4, none⟩ v4).setCell ⟨k, 5, none⟩ v5).setCell ⟨k, 6, none⟩ v6).setCell ⟨k, 7, none⟩ v7).setCell ⟨k, 8, none⟩ v8).setCell ⟨k, 9, none⟩ v9).setCell ⟨k, 10, none⟩ v10).setCell ⟨k, 11, none⟩ v11).cell? ⟨gm, 8, none⟩ = some (.int .i64 h.qt) ∧ ((((((((((((w.setCell ⟨k, 0, none⟩ v0).setCell ⟨k, 1, none⟩ v1).setCell ⟨k, 2, none⟩ v2).setCell ⟨k, 3, none⟩ v3).setCell ⟨k, 4, none⟩ v4).setCell ⟨k, 5, none⟩ v5).setCell ⟨k, 6, none⟩ v6).setCell ⟨k, 7, none⟩ v7).setCell ⟨k, 8, none⟩ v8).setCell ⟨k, 9, none⟩ v9).setCell ⟨k, 10, none⟩ v10).setCell ⟨k, 11, none⟩ v11).cell? ⟨gm, 9, none⟩ = some (.slice A1 n1 c1) ∧ ((((((((((((w.setCell ⟨k, 0, none⟩ v0).setCell ⟨k, 1, none⟩ v1).setCell ⟨k, 2, none⟩ v2).setCell ⟨k, 3, none⟩ v3).setCell ⟨k, 4, none⟩ v4).setCell ⟨k, 5, none⟩ v5).setCell ⟨k, 6, none⟩ v6).setCell ⟨k, 7, none⟩ v7).setCell ⟨k, 8, none⟩ v8).setCell ⟨k, 9, none⟩ v9).setCell ⟨k, 10, none⟩ v10).setCell ⟨k, 11, none⟩ v11).cell? ⟨gm, 10, none⟩ = some (.slice A2 n2 c2) ∧ ((((((((((((w.setCell ⟨k, 0, none⟩ v0).setCell ⟨k, 1, none⟩ v1).setCell ⟨k, 2, none⟩ v2).setCell ⟨k, 3, none⟩ v3).setCell ⟨k, 4, none⟩ v4).setCell ⟨k, 5, none⟩ v5).setCell ⟨k, 6, none⟩ v6).setCell ⟨k, 7, none⟩ v7).setCell ⟨k, 8, none⟩ v8).setCell ⟨k, 9, none⟩ v9).setCell ⟨k, 10, none⟩ v10).setCell ⟨k, 11, none⟩ v11).cell? ⟨gm, 11, none⟩ = some (.slice A3 n3 c3)) := mx_fil (h := h) (x := .slice A1 n1 c1) (y := .slice A2 n2 c2) (z := .slice A3 n3 c3) m hk v0 v1 v2 v3 v4 v5 v6 v7 v8 v9 v10 v11
theorem results_cell_tmp5 {fn : Func} {p a b c d e : Tmp} {ty : TypeId} (h : fn.results = #[.cell p ty, .tmp a, .tmp b, .tmp c, .tmp d, .tmp e]) (tmps : Array Value) (P : Program) (w : World) :
    (results fn tmps).run P w = ((asAddr (tmps.getD p undef)).run P w).andThen fun q w₁ => ((loadVar ty q).run P w₁).andThen fun x w₂ => .ok (.tuple #[x, tmps.getD a undef, tmps.getD b undef, tmps.getD c undef, tmps.getD d undef, tmps.getD e undef]) w₂ := by
  simp only [results, h]
  simp [Sem.run_bind, Result.andThen]
theorem res6M {fn : Func} {p a b c d e : Tmp} {w : World} {g : Nat} {t : TypeId} {h : Hd} {A1 A2 A3 : Option Addr} {n1 c1 n2 c2 n3 c3 : Nat} {tmps : Array Value} {xa xb xc xd xe : Value} (hf : fn.results = #[.cell p 28, .tmp a, .tmp b, .tmp c, .tmp d, .tmp e])
    (k : Bk w g t (mc h (.slice A1 n1 c1) (.slice A2 n2 c2) (.slice A3 n3 c3))) (h4 : tmps.getD p undef = .pointer (some ⟨g, 0, none⟩)) (ha : tmps.getD a undef = xa) (hb : tmps.getD b undef = xb) (hc : tmps.getD c undef = xc) (hd : tmps.getD d undef = xd) (he : tmps.getD e undef = xe) :
    (results fn tmps).run Tryz.prog w = .ok (.tuple #[.agg #[.int .i64 h.id, .bool h.rp, .bool h.au, .bool h.ct, .bool h.wa, .bool h.ca, .int .i64 h.code, .string h.qn, .int .i64 h.qt, .slice A1 n1 c1, .slice A2 n2 c2, .slice A3 n3 c3], xa, xb, xc, xd, xe]) w := by
  rw [results_cell_tmp5 hf, h4, ha, hb, hc, hd, he, as_addr]
  simp only [Result.andThen, load_msg k]

set_option maxRecDepth 100000 in
set_option maxHeartbeats 8000000 in
theorem drawReplyTo_any (A : Option Addr) (n c : Nat) (l : List UInt8) (w : World) (hs : Sl w w.heap.size A n l) (hn : n ≤ 1048576) : Calls Tryz.prog 5 #[.slice A n c] w (Drp w) := by
  have HS := Lib.hid (App.sl_alloc hs (.cells #[.int .i64 0, .bool false, .bool false, .bool false, .bool false, .bool false, .int .i64 0, .string ⟨#[]⟩, .int .i64 0, .slice none 0 0, .slice none 0 0, .slice none 0 0] 28))
  have Z0 : Hid (Bk (w.alloc (.cells #[.int .i64 0, .bool false, .bool false, .bool false, .bool false, .bool false, .int .i64 0, .string ⟨#[]⟩, .int .i64 0, .slice none 0 0, .slice none 0 0, .slice none 0 0] 28)) w.heap.size 28 (mc zh (.slice none 0 0) (.slice none 0 0) (.slice none 0 0))) := heap_alloc_new w _
  have L0 := Lib.hid ((Below.refl w.heap.size w).alloc (Nat.le_refl _) (.cells #[.int .i64 0, .bool false, .bool false, .bool false, .bool false, .bool false, .int .i64 0, .string ⟨#[]⟩, .int .i64 0, .slice none 0 0, .slice none 0 0, .slice none 0 0] 28))
  clear hs
  have K := Lib.hid (l1New_any A n c l _ HS.out hn)
  rw [show (w.alloc (.cells #[.int .i64 0, .bool false, .bool false, .bool false, .bool false, .bool false, .int .i64 0, .string ⟨#[]⟩, .int .i64 0, .slice none 0 0, .slice none 0 0, .slice none 0 0] 28)).heap.size = w.heap.size + 1 by simp] at K
  go_enter Tryz.func5, Tryz.ntmps5
  go_wp2_with fail
  refine K.out.mono ?_
  rintro e w1 ⟨rfl, hc1, hg1⟩
  have C1 := Lib.hid hc1
  have Z1 := Lib.hid (Z0.out.grown hg1 (fun e => by cases e))
  have L1 := Lib.hid (L0.out.trans ((below_of_grown hg1).mono L0.out.size))
  clear hc1 hg1 Z0 L0 K HS
  go_wp2_with fail
  refine (l7Any_any (w.heap.size + 1) w1 C1.out).mono ?_
  rintro e w2 ⟨h, A1, n1, c1, -, A2, n2, c2, -, A3, n3, c3, -, rfl, -, -, -, -, hc2, hg2⟩
  have GC := Lib.hid (show w.heap.size + 1 < w2.heap.size from hc2.lt)
  have C2 := Lib.hid (hc2.alloc (.cells #[.int .i64 h.id, .bool h.rp, .bool h.au, .bool h.ct, .bool h.wa, .bool h.ca, .int .i64 h.code, .string h.qn, .int .i64 h.qt, .slice A1 n1 c1, .slice A2 n2 c2, .slice A3 n3 c3] 28))
  have Z2 := Lib.hid ((Z1.out.grown hg2 (fun e => by have := Option.some.inj e; omega)).alloc (.cells #[.int .i64 h.id, .bool h.rp, .bool h.au, .bool h.ct, .bool h.wa, .bool h.ca, .int .i64 h.code, .string h.qn, .int .i64 h.qt, .slice A1 n1 c1, .slice A2 n2 c2, .slice A3 n3 c3] 28))
  have L2' := L1.out.grown hg2 L1.out.size (fun j hj => by cases hj; omega)
  have L2 := Lib.hid (L2'.alloc L2'.size (.cells #[.int .i64 h.id, .bool h.rp, .bool h.au, .bool h.ct, .bool h.wa, .bool h.ca, .int .i64 h.code, .string h.qn, .int .i64 h.qt, .slice A1 n1 c1, .slice A2 n2 c2, .slice A3 n3 c3] 28))
  have X2 := Lib.hid (mx_new w2 28 h (.slice A1 n1 c1) (.slice A2 n2 c2) (.slice A3 n3 c3))
  clear hc2 hg2 C1 Z1 L1 L2'
  have GB1 := Lib.hid C2.out.lt
  go_wp2_with fail
  refine (l5List_any (w.heap.size + 1) 2 _ C2.out (by omega)).mono ?_
  rintro e w3 ⟨u1, d1, l1, rfl, ho, hm1, -, hc, hg⟩
  have C3 := Lib.hid hc
  have Z3 := Lib.hid (Z2.out.grown hg (fun e => by have := Option.some.inj e; omega))
  have L3 := Lib.hid (L2.out.grown hg L2.out.size (fun j hj => by cases hj; omega))
  have X3 := Lib.hid (mx_turn X2.out hg (by have := GC.out; omega))
  obtain ⟨m1, hl1⟩ : ∃ m, l1.length = m := ⟨_, rfl⟩
  rw [hl1] at ho hm1 ⊢
  have O1_3 := Lib.hid ho
  clear ho hc hg hl1 C2 Z2 L2 X2
  generalize w2.heap.size = gm at *
  have GB2 := Lib.hid C3.out.lt
  go_wp2_with fail
  refine (l5List_any (w.heap.size + 1) 2 _ C3.out (by omega)).mono ?_
  rintro e w4 ⟨u2, d2, l2, rfl, ho, hm2, -, hc, hg⟩
  have C4 := Lib.hid hc
  have Z4 := Lib.hid (Z3.out.grown hg (fun e => by have := Option.some.inj e; omega))
  have L4 := Lib.hid (L3.out.grown hg L3.out.size (fun j hj => by cases hj; omega))
  have X4 := Lib.hid (mx_turn X3.out hg (by have := GC.out; omega))
  obtain ⟨m2, hl2⟩ : ∃ m, l2.length = m := ⟨_, rfl⟩
  rw [hl2] at ho hm2 ⊢
  have O2_4 := Lib.hid ho
  have O1_4 := Lib.hid (own_step O1_3.out hg GB1.out)
  clear O1_3
  clear ho hc hg hl2 C3 Z3 L3 X3
  have GB3 := Lib.hid C4.out.lt
  go_wp2_with fail
  refine (l5List_any (w.heap.size + 1) 2 _ C4.out (by omega)).mono ?_
  rintro e w5 ⟨u3, d3, l3, rfl, ho, hm3, -, hc, hg⟩
  have C5 := Lib.hid hc
  have Z5 := Lib.hid (Z4.out.grown hg (fun e => by have := Option.some.inj e; omega))
  have L5 := Lib.hid (L4.out.grown hg L4.out.size (fun j hj => by cases hj; omega))
  have X5 := Lib.hid (mx_turn X4.out hg (by have := GC.out; omega))
  obtain ⟨m3, hl3⟩ : ∃ m, l3.length = m := ⟨_, rfl⟩
  rw [hl3] at ho hm3 ⊢
  have O3_5 := Lib.hid ho
  have O1_5 := Lib.hid (own_step O1_4.out hg GB1.out)
  clear O1_4
  have O2_5 := Lib.hid (own_step O2_4.out hg GB2.out)
  clear O2_4
  clear ho hc hg hl3 C4 Z4 L4 X4
  have BL := Lib.hid (l1Below_any (w.heap.size + 1) 6 w5.drew (C5.out.grown (grown_drew w5 none) (fun _ e => by cases e)) (by omega) (by omega))
  have S0 : (w5.cell? ⟨gm, 0, none⟩ = some (.int .i64 h.id) ∧ w5.cell? ⟨gm, 1, none⟩ = some (.bool h.rp) ∧ w5.cell? ⟨gm, 2, none⟩ = some (.bool h.au) ∧ w5.cell? ⟨gm, 3, none⟩ = some (.bool h.ct) ∧ w5.cell? ⟨gm, 4, none⟩ = some (.bool h.wa) ∧ w5.cell? ⟨gm, 5, none⟩ = some (.bool h.ca) ∧ w5.cell? ⟨gm, 6, none⟩ = some (.int .i64 h.code) ∧ w5.cell? ⟨gm, 7, none⟩ = some (.string h.qn) ∧ w5.cell? ⟨gm, 8, none⟩ = some (.int .i64 h.qt) ∧ w5.cell? ⟨gm, 9, none⟩ = some (.slice A1 n1 c1) ∧ w5.cell? ⟨gm, 10, none⟩ = some (.slice A2 n2 c2) ∧ w5.cell? ⟨gm, 11, none⟩ = some (.slice A3 n3 c3)) := X5.out
  have NG : gm ≠ w.heap.size + 1 := by have := GC.out; omega
  have NR : gm ≠ w.heap.size := by have := GC.out; omega
  go_wp2
  go_region_held3 (fun w' => (w'.cell? ⟨gm, 0, none⟩ = some (.int .i64 h.id) ∧ w'.cell? ⟨gm, 1, none⟩ = some (.bool h.rp) ∧ w'.cell? ⟨gm, 2, none⟩ = some (.bool h.au) ∧ w'.cell? ⟨gm, 3, none⟩ = some (.bool h.ct) ∧ w'.cell? ⟨gm, 4, none⟩ = some (.bool h.wa) ∧ w'.cell? ⟨gm, 5, none⟩ = some (.bool h.ca) ∧ w'.cell? ⟨gm, 6, none⟩ = some (.int .i64 h.code) ∧ w'.cell? ⟨gm, 7, none⟩ = some (.string h.qn) ∧ w'.cell? ⟨gm, 8, none⟩ = some (.int .i64 h.qt) ∧ w'.cell? ⟨gm, 9, none⟩ = some (.slice A1 n1 c1) ∧ w'.cell? ⟨gm, 10, none⟩ = some (.slice A2 n2 c2) ∧ w'.cell? ⟨gm, 11, none⟩ = some (.slice A3 n3 c3)))
    (first | with_reducible exact mx_filR (w := w8) (by assumption) NR _ _ _ _ _ _ _ _ _ _ _ _ | exact mx_drawn S0 | with_reducible assumption | exact mx_turn (by assumption) hg NG | exact mx_drawn (by assumption) | fail)
    (first
      | (go_at_call 23; (with_reducible refine BL.out.mono ?_); rintro e w7 ⟨co, rfl, -, -, hc, hg⟩; have hg7 := hg; have hc7 := hc)
      | (go_at_call 24; (with_reducible refine (l1Once_any (w.heap.size + 1) 2 w7 hc7 (by omega) (by omega)).mono ?_); rintro e w8 ⟨au, rfl, -, hg⟩; have hg8 := hg; have Z8 := (Z5.out.grown (Draw.grown_trans (grown_drew w5 (some (w.heap.size + 1))) (Draw.grown_trans hg7 hg8)) (fun e => by have := Option.some.inj e; omega)); have p0 := (mx_of Z8).1; have f0 := Z8.free 0; have p1 := (mx_of Z8).2.1; have f1 := Z8.free 1; have p2 := (mx_of Z8).2.2.1; have f2 := Z8.free 2; have p3 := (mx_of Z8).2.2.2.1; have f3 := Z8.free 3; have p4 := (mx_of Z8).2.2.2.2.1; have f4 := Z8.free 4; have p5 := (mx_of Z8).2.2.2.2.2.1; have f5 := Z8.free 5; have p6 := (mx_of Z8).2.2.2.2.2.2.1; have f6 := Z8.free 6; have p7 := (mx_of Z8).2.2.2.2.2.2.2.1; have f7 := Z8.free 7; have p8 := (mx_of Z8).2.2.2.2.2.2.2.2.1; have f8 := Z8.free 8; have p9 := (mx_of Z8).2.2.2.2.2.2.2.2.2.1; have f9 := Z8.free 9; have p10 := (mx_of Z8).2.2.2.2.2.2.2.2.2.2.1; have f10 := Z8.free 10; have p11 := (mx_of Z8).2.2.2.2.2.2.2.2.2.2.2; have f11 := Z8.free 11)
      | fail)
  rename_i hH
  have GR := Draw.grown_trans (grown_drew w5 (some (w.heap.size + 1))) (Draw.grown_trans hg7 hg8)
  have LA := L5.out.grown GR L5.out.size (fun j hj => by cases hj; omega)
  have F := Lib.hid (filM_bk Z8 h (.slice A1 n1 c1) (.slice A2 n2 c2) (.slice A3 n3 c3))
  have E := Lib.hid (filM_below LA (g := w.heap.size) (Nat.le_refl _) h (.slice A1 n1 c1) (.slice A2 n2 c2) (.slice A3 n3 c3))
  have Y1 := Lib.hid (own_sr (own_step (own_step O1_5.out GR GB1.out) (filM_grown w8 w.heap.size h (.slice A1 n1 c1) (.slice A2 n2 c2) (.slice A3 n3 c3)) (Nat.lt_trans (Nat.lt_succ_self _) GB1.out))).1
  have Y2 := Lib.hid (own_sr (own_step (own_step O2_5.out GR GB2.out) (filM_grown w8 w.heap.size h (.slice A1 n1 c1) (.slice A2 n2 c2) (.slice A3 n3 c3)) (Nat.lt_trans (Nat.lt_succ_self _) GB2.out))).1
  have Y3 := Lib.hid (own_sr (own_step (own_step O3_5.out GR GB3.out) (filM_grown w8 w.heap.size h (.slice A1 n1 c1) (.slice A2 n2 c2) (.slice A3 n3 c3)) (Nat.lt_trans (Nat.lt_succ_self _) GB3.out))).1
  clear hH GR LA hg7 hg8 hg hc hc7 Z8 S0 BL p0 f0 p1 f1 p2 f2 p3 f3 p4 f4 p5 f5 p6 f6 p7 f7 p8 f8 p9 f9 p10 f10 p11 f11
  go_wp2
  exact bodyPost_ret (v := .tuple #[.agg #[.int .i64 h.id, .bool h.rp, .bool h.au, .bool h.ct, .bool h.wa, .bool h.ca, .int .i64 h.code, .string h.qn, .int .i64 h.qt, .slice A1 n1 c1, .slice A2 n2 c2, .slice A3 n3 c3], .int .i64 co, .bool au, .slice (some ⟨u1, 0, none⟩) m1 d1, .slice (some ⟨u2, 0, none⟩) m2 d2, .slice (some ⟨u3, 0, none⟩) m3 d3]) (res6M rfl F.out rfl rfl rfl rfl rfl rfl) rfl ⟨h, A1, n1, c1, A2, n2, c2, A3, n3, c3, co, au, u1, m1, d1, l1, u2, m2, d2, l2, u3, m3, d3, l3, rfl, Y1.out, hm1, Y2.out, hm2, Y3.out, hm3, E.out⟩
end Go.Proofs.YtlakegeabnjegaaGreatDoor.DrawT
