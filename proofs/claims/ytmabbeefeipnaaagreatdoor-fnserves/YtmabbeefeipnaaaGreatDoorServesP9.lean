/- On every slice of bytes the law FnServes returns true: a server answers authoritatively for its own zone only, except for referrals, and its replies are valid and as the model has them, where the listed tables of the library read as their text lays them (the card ties that to the program's text). -/
import Derived.Test.YtmabbeefeipnaaaGreatDoorServesP5
import Derived.Test.YtmabbeefeipnaaaGreatDoorMem
import Derived.Deep.QuietTactic
import Derived.BigQuiet
import Derived.Test.YtmabbeefeipnaaaGreatDoorServesP2
import Derived.Test.YtmabbeefeipnaaaGreatDoorServesP4
import Derived.Test.YtmabbeefeipnaaaGreatDoorServesP7
import Derived.Test.YtmabbeefeipnaaaGreatDoorServesP8
import Derived.Test.YtmabbeefeipnaaaGreatDoorServesP3
import Derived.Test.YtmabbeefeipnaaaGreatDoorServesP6
import Derived.Deep.RegionHeld3
import Derived.Test.YtmabbeefeipnaaaGreatDoorLabels
import Derived.LaidLaws
import Derived.Test.YtmabbeefeipnaaaGreatDoorCards
import Derived.Test.YtmabbeefeipnaaaGreatDoorTie
import Derived.ProofKit
import Derived.OpenShut
import Derived.ShutString
import Derived.ChangeOld
import Derived.Below
import Derived.Deep.DeepHandedRow
/- Two keys of records compared with == and with != : what is answered, and nothing is turned. -/
namespace Go.Proofs.YtmabbeefeipnaaaGreatDoor.EqlQ
open Go.RowKit Go.Proofs.YtmabbeefeipnaaaGreatDoor.Mem Go.Proofs.YtmabbeefeipnaaaGreatDoor.MemR Go.Proofs.YtmabbeefeipnaaaGreatDoor.SetMath Go.Proofs.YtmabbeefeipnaaaGreatDoor.MemQ Go.Proofs.YtmabbeefeipnaaaGreatDoor.KeyT

theorem eql_same (s : ByteArray) (t : Int) (w : World) : Sem.run Tryz.prog (binOp .eql 28 (.agg #[.string s, .int .i64 t]) (.agg #[.string s, .int .i64 t])) w = .ok (.bool true) w := by
  have h := quest_same ⟨s, t⟩ w
  unfold qv Op.equal Op.maxDepth at h
  rw [run_eql_struct]
  simp only at h
  rw [h]
  rfl

theorem eql_diff {s s' : ByteArray} {t t' : Int} (e : ¬ (s = s' ∧ t = t')) (w : World) : Sem.run Tryz.prog (binOp .eql 28 (.agg #[.string s, .int .i64 t]) (.agg #[.string s', .int .i64 t'])) w = .ok (.bool false) w := by
  have h := quest_diff (q := ⟨s, t⟩) (p := ⟨s', t'⟩) (fun k => e (by injection k with h1 h2; exact ⟨h1, h2⟩)) w
  unfold qv Op.equal Op.maxDepth at h
  rw [run_eql_struct]
  simp only at h
  rw [h]
  rfl

theorem neq_same (s : ByteArray) (t : Int) (w : World) : Sem.run Tryz.prog (binOp .neq 28 (.agg #[.string s, .int .i64 t]) (.agg #[.string s, .int .i64 t])) w = .ok (.bool false) w := by
  have h := quest_same ⟨s, t⟩ w
  unfold qv Op.equal Op.maxDepth at h
  rw [run_neq_struct]
  simp only at h
  rw [h]
  rfl

theorem neq_diff {s s' : ByteArray} {t t' : Int} (e : ¬ (s = s' ∧ t = t')) (w : World) : Sem.run Tryz.prog (binOp .neq 28 (.agg #[.string s, .int .i64 t]) (.agg #[.string s', .int .i64 t'])) w = .ok (.bool true) w := by
  have h := quest_diff (q := ⟨s, t⟩) (p := ⟨s', t'⟩) (fun k => e (by injection k with h1 h2; exact ⟨h1, h2⟩)) w
  unfold qv Op.equal Op.maxDepth at h
  rw [run_neq_struct]
  simp only at h
  rw [h]
  rfl

end Go.Proofs.YtmabbeefeipnaaaGreatDoor.EqlQ

/- What the law's own helpers eqByteS, markByteS and heldByteS do on slices of bytes. Condition: fewer than 400000001 bytes. -/
namespace Go.Proofs.YtmabbeefeipnaaaGreatDoor.Eq
open Go.RowKit Go.Proofs.YtmabbeefeipnaaaGreatDoor.Mem

theorem cast_ne {a b : UInt8} (h : a ≠ b) : ((a.toNat : Int) != (b.toNat : Int)) = true := by
  rw [bne_iff_ne]; intro e; exact h (UInt8.toNat_inj.1 (by omega))
theorem cast_eq {a b : UInt8} (h : a = b) : ((a.toNat : Int) != (b.toNat : Int)) = false := by subst h; simp

/-- Two lists that agree as far as k, and part at k. -/
theorem ne_at {l m : List UInt8} {k : Nat} (h : k < l.length) (h' : k < m.length) (hne : l[k] ≠ m[k]) : (l == m) = false := by
  rw [beq_eq_false_iff_ne]; rintro rfl; exact hne rfl
theorem eq_all {l m : List UInt8} (hl : l.length = m.length) (h : l.take l.length = m.take l.length) : (l == m) = true := by
  rw [List.take_length, hl, List.take_length] at h; simp [h]
theorem take_step {l m : List UInt8} {k : Nat} (hk : k < l.length) (hk' : k < m.length) (h : l.take k = m.take k) (he : l[k] = m[k]) : l.take (k + 1) = m.take (k + 1) := by
  rw [List.take_succ_eq_append_getElem hk, List.take_succ_eq_append_getElem hk', h, he]

/-- The numbers that markByteS lays: k, k + 1 and so on, as bytes. -/
def marks : Nat → Nat → List Value
  | _, 0 => []
  | k, n + 1 => Value.int .u8 ((k : Int) % 256) :: marks (k + 1) n
theorem marks_length (k n : Nat) : (marks k n).length = n := by
  induction n generalizing k with
  | zero => rfl
  | succ n ih => simp [marks, ih]
theorem marks_at (k n j : Nat) (h : j < n) : (marks k n)[j]? = some (Value.int .u8 (((k : Int) + (j : Int)) % 256)) := by
  induction n generalizing k j with
  | zero => omega
  | succ n ih =>
    cases j with
    | zero => simp [marks]
    | succ j => simp only [marks, List.getElem?_cons_succ]; rw [ih (k + 1) j (by omega)]; rw [show ((k + 1 : Nat) : Int) + (j : Int) = (k : Int) + ((j + 1 : Nat) : Int) by omega]
theorem marks_snoc (k n : Nat) : marks k (n + 1) = marks k n ++ [Value.int .u8 (((k : Int) + (n : Int)) % 256)] := by
  induction n generalizing k with
  | zero => simp [marks]
  | succ n ih => rw [marks, ih (k + 1), marks, List.cons_append, show ((k + 1 : Nat) : Int) + (n : Int) = (k : Int) + ((n + 1 : Nat) : Int) by omega]

theorem mark_step (cs : List Value) (k j n : Nat) (hj : j < n) (hn : n ≤ cs.length) :
    (marks k j ++ cs.drop j).set j (Value.int .u8 (((k : Int) + (j : Int)) % 256)) = marks k (j + 1) ++ cs.drop (j + 1) := by
  rw [List.set_append_right _ _ (by rw [marks_length]; omega), marks_length, Nat.sub_self, List.drop_eq_getElem_cons (by omega), List.set_cons_zero, marks_snoc, List.append_assoc]
  rfl
theorem mark_at (cs : List Value) (k j : Nat) (hj : j < cs.length) : (marks k j ++ cs.drop j)[j]? = some cs[j] := by
  rw [List.getElem?_append_right (by rw [marks_length]; omega), marks_length, Nat.sub_self, List.drop_eq_getElem_cons hj]
  rfl

theorem grown_set {w wr : World} {g : Nat} (h : w.grownBy wr (some g)) (j : Nat) (u : Value) : w.grownBy (wr.setCell ⟨g, j, none⟩ u) (some g) :=
  ⟨h.os, h.tape, h.output, by simpa [World.setCell] using h.size, fun k hk hne => by
    rw [Below.heap_setCell _ _ _ _ (fun e => hne (by simp [e]))]; exact h.block k hk hne⟩

theorem byte_ne_self (x : Int) : (x != x) = false := by simp

end Go.Proofs.YtmabbeefeipnaaaGreatDoor.Eq

/- What the laws' own comparison of two slices of bytes does. Condition: fewer than 400000001 bytes. -/
namespace Go.Proofs.YtmabbeefeipnaaaGreatDoor.Same
open Go.RowKit Go.Proofs.YtmabbeefeipnaaaGreatDoor.Mem Go.Proofs.YtmabbeefeipnaaaGreatDoor.Eq

theorem big_no (A : Option Addr) (n c : Nat) (w : World) (h : n ≤ 1048576) : Calls Tryz.prog 4 #[.slice A n c] w fun e w' => e = .returned (.bool false) ∧ w = w' := by
  have hd : decide ((1048576 : Int) < (n : Int)) = false := by simp; omega
  go_enter Tryz.func4, Tryz.ntmps4
  go_wp2
  go_ret
  exact ⟨rfl, rfl⟩
theorem big_yes (A : Option Addr) (n c : Nat) (w : World) (h : ¬ n ≤ 1048576) : Calls Tryz.prog 4 #[.slice A n c] w fun e w' => e = .returned (.bool true) ∧ w = w' := by
  have hd : decide ((1048576 : Int) < (n : Int)) = true := by simp; omega
  go_enter Tryz.func4, Tryz.ntmps4
  go_wp2
  go_ret
  exact ⟨rfl, rfl⟩
end Go.Proofs.YtmabbeefeipnaaaGreatDoor.Same

/- The law FnServes returns true at every slice of bytes and turns nothing that was there: a server answers authoritatively for its own zone only, except for referrals; its replies are valid and as the model's. -/
namespace Go.Proofs.YtmabbeefeipnaaaGreatDoor.LawServes
open Go.RowKit Go.Proofs.YtmabbeefeipnaaaGreatDoor.Mem Go.Proofs.YtmabbeefeipnaaaGreatDoor.MemR Go.Proofs.YtmabbeefeipnaaaGreatDoor.MemS Go.Proofs.YtmabbeefeipnaaaGreatDoor.MemZ Go.Proofs.YtmabbeefeipnaaaGreatDoor.MemM Go.Proofs.YtmabbeefeipnaaaGreatDoor.BoxR Go.Proofs.YtmabbeefeipnaaaGreatDoor.ResM Go.Proofs.YtmabbeefeipnaaaGreatDoor.SetMath Go.Proofs.YtmabbeefeipnaaaGreatDoor.NameMath Go.Proofs.YtmabbeefeipnaaaGreatDoor.ZoneMath Go.Proofs.YtmabbeefeipnaaaGreatDoor.ServeMath Go.Proofs.YtmabbeefeipnaaaGreatDoor.Labels Go.Proofs.YtmabbeefeipnaaaGreatDoor.RecOk Go.Proofs.YtmabbeefeipnaaaGreatDoor.ZokMath Go.Proofs.YtmabbeefeipnaaaGreatDoor.ZfMath Go.Proofs.YtmabbeefeipnaaaGreatDoor.ZoneL Go.Proofs.YtmabbeefeipnaaaGreatDoor.DrawZ Go.Proofs.YtmabbeefeipnaaaGreatDoor.DrawZn Go.Proofs.YtmabbeefeipnaaaGreatDoor.SvMath Go.Proofs.YtmabbeefeipnaaaGreatDoor.Same Go.Proofs.YtmabbeefeipnaaaGreatDoor.ShoS Go.Proofs.YtmabbeefeipnaaaGreatDoor.RepM Go.Proofs.YtmabbeefeipnaaaGreatDoor.ServI Go.Proofs.YtmabbeefeipnaaaGreatDoor.AskM Go.Proofs.YtmabbeefeipnaaaGreatDoor.DrawR

theorem mods_all : ∀ p ∈ ts, ∀ a b c : Bool, ∀ r ∈ zs p.1 p.2 a b c, r.name.size ≤ 60 ∧ r.host.size ≤ 60 ∧ r.text.size ≤ 60 := by decide +kernel

theorem mods {t h : Int} (ht : (t, h) ∈ ts) (a b c : Bool) : ∀ r ∈ zs t h a b c, Mod r := fun r hr => by
  have := mods_all (t, h) ht a b c r hr
  exact ⟨by omega, by omega, by omega⟩

/-- The law's own helper at: a byte, or a number like one. -/
theorem at_any (A : Option Addr) (n c : Nat) (l : List UInt8) (w : World) (hs : Sl w w.heap.size A n l) (hn : n ≤ 1048576) :
    Calls Tryz.prog 7 #[.slice A n c, .int .i64 4] w fun e w' => ∃ v : Int, e = .returned (.int .i64 v) ∧ (0 ≤ v ∧ v ≤ 255) ∧ Below w.heap.size w w' := by
  have HS := Lib.hid hs
  clear hs
  by_cases h : 4 < n
  · obtain ⟨b, off, rfl, hbB, hcs⟩ := HS.out.2 (by omega)
    have hl : 4 < l.length := by rw [HS.out.1]; exact h
    have e0 := hcs 4 hl
    have hv : (0 : Int) ≤ (l[4].toNat : Int) ∧ (l[4].toNat : Int) ≤ 255 := by have := l[4].toNat_lt; omega
    generalize (l[4].toNat : Int) = v at *
    clear hcs
    go_enter Tryz.func7, Tryz.ntmps7
    go_wp2
    go_ret
    exact ⟨v, rfl, hv, Below.refl _ _⟩
  · have h1 : ¬ (4 : Int) < (n : Int) := by omega
    go_enter Tryz.func7, Tryz.ntmps7
    go_wp2
    go_ret
    exact ⟨_, rfl, by omega, Below.refl _ _⟩

theorem keptP {w0 w w' : World} {g : Nat} {s : ByteArray} {n : Int} (m : (w.cell? ⟨g, 0, none⟩ = some (.string s) ∧ w.cell? ⟨g, 1, none⟩ = some (.int .i64 n)) ∧ Svz w0 w) (hl : Below w.heap.size w w') : (w'.cell? ⟨g, 0, none⟩ = some (.string s) ∧ w'.cell? ⟨g, 1, none⟩ = some (.int .i64 n)) ∧ Svz w0 w' := ⟨Qx.below m.1 hl, m.2.trans (hl.mono m.2.size)⟩

theorem keptP_draw {w0 w : World} {g : Nat} {s : ByteArray} {n : Int} (m : (w.cell? ⟨g, 0, none⟩ = some (.string s) ∧ w.cell? ⟨g, 1, none⟩ = some (.int .i64 n)) ∧ Svz w0 w) : (w.drew.cell? ⟨g, 0, none⟩ = some (.string s) ∧ w.drew.cell? ⟨g, 1, none⟩ = some (.int .i64 n)) ∧ Svz w0 w.drew := keptP m ((Below.refl _ _).drew)

theorem rb_new (w : World) : RB (w.alloc (.cells #[.int .i64 0, .bool false, .bool false, .bool false, .bool false, .bool false, .int .i64 0, .string ⟨#[]⟩, .int .i64 0, .slice none 0 0, .slice none 0 0, .slice none 0 0] 32)) w.heap.size := ⟨_, rfl, heap_alloc_new w _⟩

theorem rb_new1 (w : World) : RB (w.alloc (.cells #[.int .i64 0, .bool false, .bool false, .bool false, .bool false, .bool false, .int .i64 0, .string ⟨#[]⟩, .int .i64 0, .slice none 0 0, .slice none 0 0, .slice none 0 0] 32)).drew w.heap.size := (rb_new w).below ((Below.refl _ _).drew)

theorem keptP_fil {w0 w1 : World} {g k : Nat} {s : ByteArray} {n : Int} (m : (w1.cell? ⟨g, 0, none⟩ = some (.string s) ∧ w1.cell? ⟨g, 1, none⟩ = some (.int .i64 n)) ∧ Svz w0 w1) (h1 : g ≠ k) (h2 : w0.heap.size ≤ k) (v0 v1 v2 v3 v4 v5 v6 v7 v8 v9 v10 v11 : Value) : (((((((((((((w1.setCell ⟨k, 0, none⟩ v0).setCell ⟨k, 1, none⟩ v1).setCell ⟨k, 2, none⟩ v2).setCell ⟨k, 3, none⟩ v3).setCell ⟨k, 4, none⟩ v4).setCell ⟨k, 5, none⟩ v5).setCell ⟨k, 6, none⟩ v6).setCell ⟨k, 7, none⟩ v7).setCell ⟨k, 8, none⟩ v8).setCell ⟨k, 9, none⟩ v9).setCell ⟨k, 10, none⟩ v10).setCell ⟨k, 11, none⟩ v11).cell? ⟨g, 0, none⟩ = some (.string s) ∧ ((((((((((((w1.setCell ⟨k, 0, none⟩ v0).setCell ⟨k, 1, none⟩ v1).setCell ⟨k, 2, none⟩ v2).setCell ⟨k, 3, none⟩ v3).setCell ⟨k, 4, none⟩ v4).setCell ⟨k, 5, none⟩ v5).setCell ⟨k, 6, none⟩ v6).setCell ⟨k, 7, none⟩ v7).setCell ⟨k, 8, none⟩ v8).setCell ⟨k, 9, none⟩ v9).setCell ⟨k, 10, none⟩ v10).setCell ⟨k, 11, none⟩ v11).cell? ⟨g, 1, none⟩ = some (.int .i64 n)) ∧ Svz w0 ((((((((((((w1.setCell ⟨k, 0, none⟩ v0).setCell ⟨k, 1, none⟩ v1).setCell ⟨k, 2, none⟩ v2).setCell ⟨k, 3, none⟩ v3).setCell ⟨k, 4, none⟩ v4).setCell ⟨k, 5, none⟩ v5).setCell ⟨k, 6, none⟩ v6).setCell ⟨k, 7, none⟩ v7).setCell ⟨k, 8, none⟩ v8).setCell ⟨k, 9, none⟩ v9).setCell ⟨k, 10, none⟩ v10).setCell ⟨k, 11, none⟩ v11) := by
  have st : ∀ (w1 : World) (i : Nat) (v : Value), ((w1.cell? ⟨g, 0, none⟩ = some (.string s) ∧ w1.cell? ⟨g, 1, none⟩ = some (.int .i64 n)) ∧ Svz w0 w1) → (((w1.setCell ⟨k, i, none⟩ v).cell? ⟨g, 0, none⟩ = some (.string s) ∧ (w1.setCell ⟨k, i, none⟩ v).cell? ⟨g, 1, none⟩ = some (.int .i64 n)) ∧ Svz w0 (w1.setCell ⟨k, i, none⟩ v)) := fun w1 i v m =>
    ⟨⟨(World.cell?_of_block (Below.heap_setCell w1 ⟨k, i, none⟩ v g h1)).trans m.1.1, (World.cell?_of_block (Below.heap_setCell w1 ⟨k, i, none⟩ v g h1)).trans m.1.2⟩, Below.setCell m.2 (p := ⟨k, i, none⟩) h2 v⟩
  exact st _ 11 v11 (st _ 10 v10 (st _ 9 v9 (st _ 8 v8 (st _ 7 v7 (st _ 6 v6 (st _ 5 v5 (st _ 4 v4 (st _ 3 v3 (st _ 2 v2 (st _ 1 v1 (st _ 0 v0 m)))))))))))

theorem keptP_alloc {w0 w : World} {g : Nat} {s : ByteArray} {n : Int} (m : (w.cell? ⟨g, 0, none⟩ = some (.string s) ∧ w.cell? ⟨g, 1, none⟩ = some (.int .i64 n)) ∧ Svz w0 w) (o : Obj) : ((w.alloc o).cell? ⟨g, 0, none⟩ = some (.string s) ∧ (w.alloc o).cell? ⟨g, 1, none⟩ = some (.int .i64 n)) ∧ Svz w0 (w.alloc o) := keptP m ((Below.refl _ _).alloc (Nat.le_refl _) _)

section
variable {w0 w w' : World} {gz gk gm gr gl m cap k1 u1 k2 u2 k3 u3 g1 g2 g3 : Nat} {cm nm : ByteArray} {ty : Int} {hm H : Hd}

theorem keptV (x : (((w.cell? ⟨gz, 0, none⟩ = some (.string cm) ∧ w.cell? ⟨gz, 1, none⟩ = some (.slice (some ⟨gl, 0, none⟩) m cap)) ∧ (w.cell? ⟨gk, 0, none⟩ = some (.string nm) ∧ w.cell? ⟨gk, 1, none⟩ = some (.int .i64 ty))) ∧ (w.cell? ⟨gm, 0, none⟩ = some (.int .i64 hm.id) ∧ w.cell? ⟨gm, 1, none⟩ = some (.bool hm.rp) ∧ w.cell? ⟨gm, 2, none⟩ = some (.bool hm.au) ∧ w.cell? ⟨gm, 3, none⟩ = some (.bool hm.ct) ∧ w.cell? ⟨gm, 4, none⟩ = some (.bool hm.wa) ∧ w.cell? ⟨gm, 5, none⟩ = some (.bool hm.ca) ∧ w.cell? ⟨gm, 6, none⟩ = some (.int .i64 hm.code) ∧ w.cell? ⟨gm, 7, none⟩ = some (.string hm.qn) ∧ w.cell? ⟨gm, 8, none⟩ = some (.int .i64 hm.qt) ∧ w.cell? ⟨gm, 9, none⟩ = some (.slice none 0 0) ∧ w.cell? ⟨gm, 10, none⟩ = some (.slice none 0 0) ∧ w.cell? ⟨gm, 11, none⟩ = some (.slice none 0 0)) ∧ (w.cell? ⟨gr, 0, none⟩ = some (.int .i64 H.id) ∧ w.cell? ⟨gr, 1, none⟩ = some (.bool H.rp) ∧ w.cell? ⟨gr, 2, none⟩ = some (.bool H.au) ∧ w.cell? ⟨gr, 3, none⟩ = some (.bool H.ct) ∧ w.cell? ⟨gr, 4, none⟩ = some (.bool H.wa) ∧ w.cell? ⟨gr, 5, none⟩ = some (.bool H.ca) ∧ w.cell? ⟨gr, 6, none⟩ = some (.int .i64 H.code) ∧ w.cell? ⟨gr, 7, none⟩ = some (.string H.qn) ∧ w.cell? ⟨gr, 8, none⟩ = some (.int .i64 H.qt) ∧ w.cell? ⟨gr, 9, none⟩ = some (.slice (some ⟨g1, 0, none⟩) k1 u1) ∧ w.cell? ⟨gr, 10, none⟩ = some (.slice (some ⟨g2, 0, none⟩) k2 u2) ∧ w.cell? ⟨gr, 11, none⟩ = some (.slice (some ⟨g3, 0, none⟩) k3 u3))) ∧ Svz w0 w) (hl : Below w.heap.size w w') : (((w'.cell? ⟨gz, 0, none⟩ = some (.string cm) ∧ w'.cell? ⟨gz, 1, none⟩ = some (.slice (some ⟨gl, 0, none⟩) m cap)) ∧ (w'.cell? ⟨gk, 0, none⟩ = some (.string nm) ∧ w'.cell? ⟨gk, 1, none⟩ = some (.int .i64 ty))) ∧ (w'.cell? ⟨gm, 0, none⟩ = some (.int .i64 hm.id) ∧ w'.cell? ⟨gm, 1, none⟩ = some (.bool hm.rp) ∧ w'.cell? ⟨gm, 2, none⟩ = some (.bool hm.au) ∧ w'.cell? ⟨gm, 3, none⟩ = some (.bool hm.ct) ∧ w'.cell? ⟨gm, 4, none⟩ = some (.bool hm.wa) ∧ w'.cell? ⟨gm, 5, none⟩ = some (.bool hm.ca) ∧ w'.cell? ⟨gm, 6, none⟩ = some (.int .i64 hm.code) ∧ w'.cell? ⟨gm, 7, none⟩ = some (.string hm.qn) ∧ w'.cell? ⟨gm, 8, none⟩ = some (.int .i64 hm.qt) ∧ w'.cell? ⟨gm, 9, none⟩ = some (.slice none 0 0) ∧ w'.cell? ⟨gm, 10, none⟩ = some (.slice none 0 0) ∧ w'.cell? ⟨gm, 11, none⟩ = some (.slice none 0 0)) ∧ (w'.cell? ⟨gr, 0, none⟩ = some (.int .i64 H.id) ∧ w'.cell? ⟨gr, 1, none⟩ = some (.bool H.rp) ∧ w'.cell? ⟨gr, 2, none⟩ = some (.bool H.au) ∧ w'.cell? ⟨gr, 3, none⟩ = some (.bool H.ct) ∧ w'.cell? ⟨gr, 4, none⟩ = some (.bool H.wa) ∧ w'.cell? ⟨gr, 5, none⟩ = some (.bool H.ca) ∧ w'.cell? ⟨gr, 6, none⟩ = some (.int .i64 H.code) ∧ w'.cell? ⟨gr, 7, none⟩ = some (.string H.qn) ∧ w'.cell? ⟨gr, 8, none⟩ = some (.int .i64 H.qt) ∧ w'.cell? ⟨gr, 9, none⟩ = some (.slice (some ⟨g1, 0, none⟩) k1 u1) ∧ w'.cell? ⟨gr, 10, none⟩ = some (.slice (some ⟨g2, 0, none⟩) k2 u2) ∧ w'.cell? ⟨gr, 11, none⟩ = some (.slice (some ⟨g3, 0, none⟩) k3 u3))) ∧ Svz w0 w' :=
  ⟨⟨⟨Zx.below x.1.1.1 hl, Qx.below x.1.1.2 hl⟩, Mx.below x.1.2.1 hl, Mx.below x.1.2.2 hl⟩, x.2.trans (hl.mono x.2.size)⟩

theorem keptV_draw (x : (((w.cell? ⟨gz, 0, none⟩ = some (.string cm) ∧ w.cell? ⟨gz, 1, none⟩ = some (.slice (some ⟨gl, 0, none⟩) m cap)) ∧ (w.cell? ⟨gk, 0, none⟩ = some (.string nm) ∧ w.cell? ⟨gk, 1, none⟩ = some (.int .i64 ty))) ∧ (w.cell? ⟨gm, 0, none⟩ = some (.int .i64 hm.id) ∧ w.cell? ⟨gm, 1, none⟩ = some (.bool hm.rp) ∧ w.cell? ⟨gm, 2, none⟩ = some (.bool hm.au) ∧ w.cell? ⟨gm, 3, none⟩ = some (.bool hm.ct) ∧ w.cell? ⟨gm, 4, none⟩ = some (.bool hm.wa) ∧ w.cell? ⟨gm, 5, none⟩ = some (.bool hm.ca) ∧ w.cell? ⟨gm, 6, none⟩ = some (.int .i64 hm.code) ∧ w.cell? ⟨gm, 7, none⟩ = some (.string hm.qn) ∧ w.cell? ⟨gm, 8, none⟩ = some (.int .i64 hm.qt) ∧ w.cell? ⟨gm, 9, none⟩ = some (.slice none 0 0) ∧ w.cell? ⟨gm, 10, none⟩ = some (.slice none 0 0) ∧ w.cell? ⟨gm, 11, none⟩ = some (.slice none 0 0)) ∧ (w.cell? ⟨gr, 0, none⟩ = some (.int .i64 H.id) ∧ w.cell? ⟨gr, 1, none⟩ = some (.bool H.rp) ∧ w.cell? ⟨gr, 2, none⟩ = some (.bool H.au) ∧ w.cell? ⟨gr, 3, none⟩ = some (.bool H.ct) ∧ w.cell? ⟨gr, 4, none⟩ = some (.bool H.wa) ∧ w.cell? ⟨gr, 5, none⟩ = some (.bool H.ca) ∧ w.cell? ⟨gr, 6, none⟩ = some (.int .i64 H.code) ∧ w.cell? ⟨gr, 7, none⟩ = some (.string H.qn) ∧ w.cell? ⟨gr, 8, none⟩ = some (.int .i64 H.qt) ∧ w.cell? ⟨gr, 9, none⟩ = some (.slice (some ⟨g1, 0, none⟩) k1 u1) ∧ w.cell? ⟨gr, 10, none⟩ = some (.slice (some ⟨g2, 0, none⟩) k2 u2) ∧ w.cell? ⟨gr, 11, none⟩ = some (.slice (some ⟨g3, 0, none⟩) k3 u3))) ∧ Svz w0 w) : (((w.drew.cell? ⟨gz, 0, none⟩ = some (.string cm) ∧ w.drew.cell? ⟨gz, 1, none⟩ = some (.slice (some ⟨gl, 0, none⟩) m cap)) ∧ (w.drew.cell? ⟨gk, 0, none⟩ = some (.string nm) ∧ w.drew.cell? ⟨gk, 1, none⟩ = some (.int .i64 ty))) ∧ (w.drew.cell? ⟨gm, 0, none⟩ = some (.int .i64 hm.id) ∧ w.drew.cell? ⟨gm, 1, none⟩ = some (.bool hm.rp) ∧ w.drew.cell? ⟨gm, 2, none⟩ = some (.bool hm.au) ∧ w.drew.cell? ⟨gm, 3, none⟩ = some (.bool hm.ct) ∧ w.drew.cell? ⟨gm, 4, none⟩ = some (.bool hm.wa) ∧ w.drew.cell? ⟨gm, 5, none⟩ = some (.bool hm.ca) ∧ w.drew.cell? ⟨gm, 6, none⟩ = some (.int .i64 hm.code) ∧ w.drew.cell? ⟨gm, 7, none⟩ = some (.string hm.qn) ∧ w.drew.cell? ⟨gm, 8, none⟩ = some (.int .i64 hm.qt) ∧ w.drew.cell? ⟨gm, 9, none⟩ = some (.slice none 0 0) ∧ w.drew.cell? ⟨gm, 10, none⟩ = some (.slice none 0 0) ∧ w.drew.cell? ⟨gm, 11, none⟩ = some (.slice none 0 0)) ∧ (w.drew.cell? ⟨gr, 0, none⟩ = some (.int .i64 H.id) ∧ w.drew.cell? ⟨gr, 1, none⟩ = some (.bool H.rp) ∧ w.drew.cell? ⟨gr, 2, none⟩ = some (.bool H.au) ∧ w.drew.cell? ⟨gr, 3, none⟩ = some (.bool H.ct) ∧ w.drew.cell? ⟨gr, 4, none⟩ = some (.bool H.wa) ∧ w.drew.cell? ⟨gr, 5, none⟩ = some (.bool H.ca) ∧ w.drew.cell? ⟨gr, 6, none⟩ = some (.int .i64 H.code) ∧ w.drew.cell? ⟨gr, 7, none⟩ = some (.string H.qn) ∧ w.drew.cell? ⟨gr, 8, none⟩ = some (.int .i64 H.qt) ∧ w.drew.cell? ⟨gr, 9, none⟩ = some (.slice (some ⟨g1, 0, none⟩) k1 u1) ∧ w.drew.cell? ⟨gr, 10, none⟩ = some (.slice (some ⟨g2, 0, none⟩) k2 u2) ∧ w.drew.cell? ⟨gr, 11, none⟩ = some (.slice (some ⟨g3, 0, none⟩) k3 u3))) ∧ Svz w0 w.drew := keptV x ((Below.refl _ _).drew)
end

theorem smm_self (h : Hd) (l1 l2 l3 : List Rec) : SamM.smm h h l1 l2 l3 l1 l2 l3 = true := by
  have key : ∀ l : List Rec, SameR.sm l l = true := fun l => SameR.sm_true rfl
  rw [SamM.smm_r, key, key, key]; rfl

set_option maxRecDepth 100000 in
set_option maxHeartbeats 4000000 in
theorem walk (A : Option Addr) (n c : Nat) (l : List UInt8) (w : World) (he : Env w) (hs : Sl w w.heap.size A n l) (_hc : n ≤ c) (_hnil : A = none → n = 0 ∧ c = 0) :
    Calls Tryz.prog 3 #[.slice A n c] w fun e w' => e = .returned (.bool true) ∧ Below w.heap.size w w' := by
  by_cases hbig : n ≤ 1048576
  case neg =>
    go_enter Tryz.func3, Tryz.ntmps3
    go_wp2_with fail
    refine (big_yes A n c w hbig).mono ?_
    rintro e w1 ⟨rfl, rfl⟩
    go_wp2
    go_ret
    exact ⟨rfl, Below.refl _ _⟩
  have HS := Lib.hid hs
  have HE := Lib.hid he
  clear hs he
  go_enter Tryz.func3, Tryz.ntmps3
  go_wp2_with fail
  refine (big_no A n c w hbig).mono ?_
  rintro e w0 ⟨rfl, rfl⟩
  go_wp2_with fail
  refine (drawZone_in A n c l w HS.out hbig).mono ?_
  rintro e w1 ⟨t, hh, ba, bb, bc, gl, m, cap, nm, ty, hth, rfl, hnm, hty, hlm, hsr, hl⟩
  have HV : Hid (Zok ⟨#[99, 111, 109]⟩ (zs t hh ba bb bc)) := ZoneV.valid hth ba bb bc
  have HMD := Lib.hid (mods hth ba bb bc)
  have HN := Lib.hid hlm
  have hm8 : m ≤ 8 := by have := ZoneV.zs_len t hh ba bb bc; omega
  have S1 := Lib.hid hsr
  have L1 := Lib.hid hl
  have NI := Lib.hid hnm
  have TI := Lib.hid hty
  have NB : Hid (nm.size ≤ 400000000) := by show _ ≤ _; have : nm.size ≤ 20 := znames_short nm hnm; omega
  clear hth hlm hsr hl hnm hty
  generalize zs t hh ba bb bc = R at *
  have HC5 : Hid ((⟨#[99, 111, 109]⟩ : ByteArray).size ≤ 400000000) := by show _ ≤ _; decide
  generalize (⟨#[99, 111, 109]⟩ : ByteArray) = cm at *
  have hz1 : (w1.alloc (.cells #[.string cm, .slice (some ⟨gl, 0, none⟩) m cap] 26)).heap.size = w1.heap.size + 1 := by simp
  have X3 : Hid (Zx ((w1.alloc (.cells #[.string cm, .slice (some ⟨gl, 0, none⟩) m cap] 26)).alloc (.cells #[.string nm, .int .i64 ty] 28)) w1.heap.size cm (.slice (some ⟨gl, 0, none⟩) m cap)) := (zx_new w1 26 cm (.slice (some ⟨gl, 0, none⟩) m cap)).alloc _
  have K3 : Hid (Qx ((w1.alloc (.cells #[.string cm, .slice (some ⟨gl, 0, none⟩) m cap] 26)).alloc (.cells #[.string nm, .int .i64 ty] 28)) (w1.heap.size + 1) nm ty) := by
    show Qx _ _ _ _
    rw [← hz1]
    exact qx_new _ _ _ _
  have B3 := Lib.hid (((Below.refl w1.heap.size w1).alloc (Nat.le_refl _) (.cells #[.string cm, .slice (some ⟨gl, 0, none⟩) m cap] 26)).alloc (by simp) (.cells #[.string nm, .int .i64 ty] 28))
  clear hz1
  go_upto_region 4 with (fail)
  generalize (w1.alloc (.cells #[.string cm, .slice (some ⟨gl, 0, none⟩) m cap] 26)).alloc (.cells #[.string nm, .int .i64 ty] 28) = w3 at *
  have L3 := Lib.hid (L1.out.trans (B3.out.mono L1.out.size))
  have E3 := Lib.hid (HE.out.below L3.out)
  have S3 := Lib.hid (S1.out.on B3.out)
  have A3 := Lib.hid ((HS.out.below L3.out).wider L3.out.size)
  clear L1 B3 S1 HE HS
  generalize w1.heap.size + 1 = gk at *
  generalize w1.heap.size = gz at *
  have AT : Hid (∀ W : World, ((W.cell? ⟨gk, 0, none⟩ = some (.string nm) ∧ W.cell? ⟨gk, 1, none⟩ = some (.int .i64 ty)) ∧ Svz w3 W) → Calls Tryz.prog 7 #[.slice A n c, .int .i64 4] W fun e w' => ∃ v : Int, e = .returned (.int .i64 v) ∧ (0 ≤ v ∧ v ≤ 255) ∧ Below W.heap.size W w') := fun W hW => at_any A n c l W ((A3.out.below (show Below w3.heap.size w3 W from hW.2)).wider (show Below w3.heap.size w3 W from hW.2).size) hbig
  have AK := Lib.hid (fun (v : Int) (W : World) => AskM.impl v nm ty W)
  have SS0 : (w3.cell? ⟨gk, 0, none⟩ = some (.string nm) ∧ w3.cell? ⟨gk, 1, none⟩ = some (.int .i64 ty)) ∧ Svz w3 w3 := ⟨K3.out, Below.refl _ _⟩
  have hgk : gk < w3.heap.size := K3.out.lt
  go_cut [5] (fun a wx => ∃ (gm : Nat) (id : Int), a = .pointer (some ⟨gm, 0, none⟩) ∧ Hid (0 ≤ id ∧ id ≤ 255) ∧ Hid (w3.heap.size ≤ gm) ∧ Hid (Mx wx gm (askh id nm ty) (.slice none 0 0) (.slice none 0 0) (.slice none 0 0)) ∧ Hid (Below w3.heap.size w3 wx))
  case first =>
    go_region_held3 (fun w' => (w'.cell? ⟨gk, 0, none⟩ = some (.string nm) ∧ w'.cell? ⟨gk, 1, none⟩ = some (.int .i64 ty)) ∧ Svz w3 w')
      (first | with_reducible exact keptP_fil (w1 := w5) (k := w3.heap.size) (by assumption) (Nat.ne_of_lt hgk) (Nat.le_refl _) _ _ _ _ _ _ _ _ _ _ _ _ | with_reducible exact keptP_fil (w1 := w5) (k := w4.heap.size) (by assumption) (Nat.ne_of_lt (Nat.lt_of_lt_of_le hgk hZ4)) hZ4 _ _ _ _ _ _ _ _ _ _ _ _ | with_reducible exact SS0 | with_reducible assumption | with_reducible exact keptP (by assumption) hl | with_reducible exact keptP_draw (by assumption) | with_reducible exact keptP_alloc (by assumption) _ | with_reducible exact keptP_alloc hS5 _ | with_reducible exact keptP_draw (keptP_alloc SS0 _) | fail)
      (first
        | (go_at_call 7; (with_reducible refine (AT.out _ (by assumption)).mono ?_); rintro e w4 ⟨id, rfl, hid, hl⟩; have y1 := hl; have hS4 := keptP (by assumption) hl; have hZ4 : w3.heap.size ≤ w4.heap.size := Below.size hS4.2)
        | (go_at_call 6; (with_reducible refine (AK.out _ _).mono ?_); rintro e w5 ⟨rfl, hl⟩; have y2 := hl; have hS5 := keptP (by assumption) hl; first | (have RBx : RB w5 w3.heap.size := ((rb_new1 w3).below y1).below y2; have p0 := RBx.cell 0 (by decide); have f0 := RBx.free 0; have p1 := RBx.cell 1 (by decide); have f1 := RBx.free 1; have p2 := RBx.cell 2 (by decide); have f2 := RBx.free 2; have p3 := RBx.cell 3 (by decide); have f3 := RBx.free 3; have p4 := RBx.cell 4 (by decide); have f4 := RBx.free 4; have p5 := RBx.cell 5 (by decide); have f5 := RBx.free 5; have p6 := RBx.cell 6 (by decide); have f6 := RBx.free 6; have p7 := RBx.cell 7 (by decide); have f7 := RBx.free 7; have p8 := RBx.cell 8 (by decide); have f8 := RBx.free 8; have p9 := RBx.cell 9 (by decide); have f9 := RBx.free 9; have p10 := RBx.cell 10 (by decide); have f10 := RBx.free 10; have p11 := RBx.cell 11 (by decide); have f11 := RBx.free 11) | (have RBx : RB w5 w4.heap.size := (rb_new w4).below y2; have p0 := RBx.cell 0 (by decide); have f0 := RBx.free 0; have p1 := RBx.cell 1 (by decide); have f1 := RBx.free 1; have p2 := RBx.cell 2 (by decide); have f2 := RBx.free 2; have p3 := RBx.cell 3 (by decide); have f3 := RBx.free 3; have p4 := RBx.cell 4 (by decide); have f4 := RBx.free 4; have p5 := RBx.cell 5 (by decide); have f5 := RBx.free 5; have p6 := RBx.cell 6 (by decide); have f6 := RBx.free 6; have p7 := RBx.cell 7 (by decide); have f7 := RBx.free 7; have p8 := RBx.cell 8 (by decide); have f8 := RBx.free 8; have p9 := RBx.cell 9 (by decide); have f9 := RBx.free 9; have p10 := RBx.cell 10 (by decide); have f10 := RBx.free 10; have p11 := RBx.cell 11 (by decide); have f11 := RBx.free 11) | skip)
        | fail)
    · go_wp2_with fail
      go_meet
      case rel =>
        refine ⟨_, id, rfl, hid, ?_, ?_, ?_⟩
        · exact Below.size hS5.2
        · exact mx_new w5 _ (askh id nm ty) (.slice none 0 0) (.slice none 0 0) (.slice none 0 0)
        · exact Below.alloc hS5.2 (Below.size hS5.2) _
    · go_wp2_with fail
      go_meet
      case rel =>
        refine ⟨_, id, rfl, hid, ?_, ?_, ?_⟩
        · exact hZ4
        · exact mx_of (RBx.fil (askh id nm ty) (.slice none 0 0) (.slice none 0 0) (.slice none 0 0))
        · exact filM_below (g := w4.heap.size) hS5.2 hZ4 (askh id nm ty) (.slice none 0 0) (.slice none 0 0) (.slice none 0 0)
    · go_wp2_with fail
      go_meet
      case rel =>
        refine ⟨_, id, rfl, hid, ?_, ?_, ?_⟩
        · exact Nat.le_refl _
        · exact mx_of (RBx.fil (askh id nm ty) (.slice none 0 0) (.slice none 0 0) (.slice none 0 0))
        · exact filM_below (g := w3.heap.size) hS5.2 (Nat.le_refl _) (askh id nm ty) (.slice none 0 0) (.slice none 0 0) (.slice none 0 0)
  case rest =>
    obtain ⟨gm, id, rfl, HID, HGM, M4, B4⟩ := hcut
    clear AT AK SS0 hgk
    have hl4 := B4.out
    generalize wc = w4 at *
    have X4 := Lib.hid (X3.out.below hl4)
    have K4 := Lib.hid (K3.out.below hl4)
    clear hl4 X3 K3
    have NMS : Hid (∀ r ∈ R, r.name.size ≤ 400000000) := fun r hr => (HMD.out r hr).1
    have SI : Hid (∀ W : World, Below w3.heap.size w3 W → Calls Tryz.prog 8 #[.agg #[.string cm, .slice (some ⟨gl, 0, none⟩) m cap], .agg #[.int .i64 (askh id nm ty).id, .bool (askh id nm ty).rp, .bool (askh id nm ty).au, .bool (askh id nm ty).ct, .bool (askh id nm ty).wa, .bool (askh id nm ty).ca, .int .i64 (askh id nm ty).code, .string (askh id nm ty).qn, .int .i64 (askh id nm ty).qt, .slice none 0 0, .slice none 0 0, .slice none 0 0]] W (GivesS8 W (askh id nm ty) (kd cm nm ty R) (anl (kd cm nm ty R) nm ty R) (mol (kd cm nm ty R) cm nm R) (hel (kd cm nm ty R) cm nm R))) := fun W hW => ServI.impl cm gl 0 m cap R (askh id nm ty) none none none 0 0 0 0 0 0 W (S3.out.on hW) (by omega) HC5.out NB.out NMS.out
    have SS : Hid (∀ W : World, Below w3.heap.size w3 W → Calls Tryz.prog 12 #[.agg #[.string cm, .slice (some ⟨gl, 0, none⟩) m cap], .agg #[.int .i64 (askh id nm ty).id, .bool (askh id nm ty).rp, .bool (askh id nm ty).au, .bool (askh id nm ty).ct, .bool (askh id nm ty).wa, .bool (askh id nm ty).ca, .int .i64 (askh id nm ty).code, .string (askh id nm ty).qn, .int .i64 (askh id nm ty).qt, .slice none 0 0, .slice none 0 0, .slice none 0 0]] W (GivesS8 W (askh id nm ty) (kd cm nm ty R) (anl (kd cm nm ty R) nm ty R) (mol (kd cm nm ty R) cm nm R) (hel (kd cm nm ty R) cm nm R))) := fun W hW => ServS.spec cm gl 0 m cap R (askh id nm ty) none none none 0 0 0 0 0 0 W (S3.out.on hW) (by omega) HC5.out NB.out NMS.out
    have KI : Hid (∀ W : World, Below w3.heap.size w3 W → Calls Tryz.prog 9 #[.agg #[.string cm, .slice (some ⟨gl, 0, none⟩) m cap], .agg #[.string nm, .int .i64 ty]] W fun e w' => e = .returned (.int .i64 (kd cm nm ty R)) ∧ Below W.heap.size W w') := fun W hW => KindI.impl cm nm ty gl 0 m cap R W (S3.out.on hW) (by omega) HC5.out NB.out NMS.out
    have KS : Hid (∀ W : World, Below w3.heap.size w3 W → Calls Tryz.prog 10 #[.agg #[.string cm, .slice (some ⟨gl, 0, none⟩) m cap], .agg #[.string nm, .int .i64 ty]] W fun e w' => e = .returned (.int .i64 (kd cm nm ty R)) ∧ Below W.heap.size W w') := fun W hW => KindS.spec cm nm ty gl 0 m cap R W (S3.out.on hW) (by omega) HC5.out NB.out NMS.out
    have EX : Hid (∀ W : World, Below w3.heap.size w3 W → Calls Tryz.prog 14 #[.agg #[.string cm, .slice (some ⟨gl, 0, none⟩) m cap], .string nm] W fun e w' => e = .returned (.bool (ex nm R)) ∧ Below W.heap.size W w') := fun W hW => ExistsI.impl cm nm gl 0 m cap R W (S3.out.on hW) (by omega) NB.out NMS.out
    have OK : Hid (OkM.mok (rph (askh id nm ty) (rcd (kd cm nm ty R)) (aut (kd cm nm ty R))) ((anl (kd cm nm ty R) nm ty R).take 8) ((mol (kd cm nm ty R) cm nm R).take 8) ((hel (kd cm nm ty R) cm nm R).take 8) = true) := valid (askh id nm ty) HV.out NI.out TI.out (kd cm nm ty R) ⟨HID.out.1, by have := HID.out.2; show id ≤ 65535; omega⟩ rfl rfl
    have HST : Hid (st R ∈ R) := st_ty (zok_iff.1 HV.out).2.2.2.1.1.2
    have MA : Hid (OkM.Mods ((anl (kd cm nm ty R) nm ty R).take 8)) := fun r hr => HMD.out r (anl_in (List.mem_of_mem_take hr)).1
    have MM : Hid (OkM.Mods ((mol (kd cm nm ty R) cm nm R).take 8)) := fun r hr => HMD.out r (mol_in HST.out (List.mem_of_mem_take hr))
    have MH : Hid (OkM.Mods ((hel (kd cm nm ty R) cm nm R).take 8)) := fun r hr => HMD.out r (hel_in (List.mem_of_mem_take hr))
    have NA : Hid (∀ r ∈ (anl (kd cm nm ty R) nm ty R).take 8, r.name = nm) := fun r hr => (anl_in (List.mem_of_mem_take hr)).2
    have PA : Hid (0 < m8 (anl (kd cm nm ty R) nm ty R).length ↔ (kd cm nm ty R = 2 ∨ kd cm nm ty R = 3)) := show _ ↔ _ by
      rw [← anl_pos cm nm ty R]
      unfold m8
      split <;> omega
    have P5 := Lib.hid (@kd_none cm nm ty R)
    have K6 := Lib.hid (kd_six cm nm ty R)
    unfold GivesS8 at SI SS
    clear HV HMD HST NI TI
    generalize kd cm nm ty R = k at *
    have D1 := Lib.hid (m8_len (anl k nm ty R) rfl)
    have D2 := Lib.hid (m8_len (mol k cm nm R) rfl)
    have D3 := Lib.hid (m8_len (hel k cm nm R) rfl)
    have le1 := (m8_le (anl k nm ty R).length).1
    have le2 := (m8_le (mol k cm nm R).length).1
    have le3 := (m8_le (hel k cm nm R).length).1
    generalize m8 (anl k nm ty R).length = k1 at *
    generalize m8 (mol k cm nm R).length = k2 at *
    generalize m8 (hel k cm nm R).length = k3 at *
    generalize (anl k nm ty R).take 8 = j1 at *
    generalize (mol k cm nm R).take 8 = j2 at *
    generalize (hel k cm nm R).take 8 = j3 at *
    have F0 : Hid ((rph (askh id nm ty) (rcd k) (aut k)).id = (askh id nm ty).id ∧ (rph (askh id nm ty) (rcd k) (aut k)).rp = true ∧ (rph (askh id nm ty) (rcd k) (aut k)).au = aut k ∧ (rph (askh id nm ty) (rcd k) (aut k)).code = rcd k ∧ (rph (askh id nm ty) (rcd k) (aut k)).qn = nm ∧ (rph (askh id nm ty) (rcd k) (aut k)).qt = ty) := ⟨rfl, rfl, rfl, rfl, rfl, rfl⟩
    generalize rph (askh id nm ty) (rcd k) (aut k) = H at *
    have HMQ : Hid ((askh id nm ty).qn = nm) := rfl
    generalize askh id nm ty = hm at *
    obtain ⟨z0, z1⟩ := X4.out
    obtain ⟨y0, y1, y2, y3, y4, y5, y6, y7, y8, y9, y10, y11⟩ := M4.out
    go_wp2_with fail
    refine (SI.out _ B4.out).mono ?_
    rintro e w5 ⟨g1, u1, r1, g2, u2, r2, g3, u3, r3, rfl, hb1, hb2, hb3, hg, h12, h23, hl⟩
    have al : Below w5.heap.size w5 (w5.alloc (.cells #[.int .i64 H.id, .bool H.rp, .bool H.au, .bool H.ct, .bool H.wa, .bool H.ca, .int .i64 H.code, .string H.qn, .int .i64 H.qt, .slice (some ⟨g1, 0, none⟩) k1 u1, .slice (some ⟨g2, 0, none⟩) k2 u2, .slice (some ⟨g3, 0, none⟩) k3 u3] 32)) := (Below.refl _ _).alloc (Nat.le_refl _) _
    have X6 := Lib.hid ((X4.out.below hl).below al)
    have K6_ := Lib.hid ((K4.out.below hl).below al)
    have M6 := Lib.hid ((M4.out.below hl).below al)
    have R6 := Lib.hid (mx_new w5 32 H (.slice (some ⟨g1, 0, none⟩) k1 u1) (.slice (some ⟨g2, 0, none⟩) k2 u2) (.slice (some ⟨g3, 0, none⟩) k3 u3))
    have G1 := Lib.hid (hb1.below al hb1.lt)
    have G2 := Lib.hid (hb2.below al hb2.lt)
    have G3 := Lib.hid (hb3.below al hb3.lt)
    have B5 := B4.out.trans (hl.mono B4.out.size)
    have B6 := Lib.hid (B5.trans (al.mono B5.size))
    clear hl al hb1 hb2 hb3 hg h12 h23 SI X4 K4 M4 B4 B5 z0 z1 y0 y1 y2 y3 y4 y5 y6 y7 y8 y9 y10 y11
    obtain ⟨z0, z1⟩ := X6.out
    obtain ⟨q0, q1⟩ := K6_.out
    go_wp2_with fail
    refine (KI.out _ B6.out).mono ?_
    rintro e w7 ⟨rfl, hl⟩
    have X7 := Lib.hid (X6.out.below hl)
    have K7 := Lib.hid (K6_.out.below hl)
    have M7 := Lib.hid (M6.out.below hl)
    have R7 := Lib.hid (R6.out.below hl)
    have G1_7 := Lib.hid (G1.out.below hl G1.out.lt)
    have G2_7 := Lib.hid (G2.out.below hl G2.out.lt)
    have G3_7 := Lib.hid (G3.out.below hl G3.out.lt)
    have B7 := Lib.hid (B6.out.trans (hl.mono B6.out.size))
    clear hl KI X6 K6_ M6 R6 G1 G2 G3 B6 z0 z1 q0 q1
    generalize w5.heap.size = gr at *
    have KSR : Hid (∀ W : World, (((W.cell? ⟨gz, 0, none⟩ = some (.string cm) ∧ W.cell? ⟨gz, 1, none⟩ = some (.slice (some ⟨gl, 0, none⟩) m cap)) ∧ (W.cell? ⟨gk, 0, none⟩ = some (.string nm) ∧ W.cell? ⟨gk, 1, none⟩ = some (.int .i64 ty))) ∧ (W.cell? ⟨gm, 0, none⟩ = some (.int .i64 hm.id) ∧ W.cell? ⟨gm, 1, none⟩ = some (.bool hm.rp) ∧ W.cell? ⟨gm, 2, none⟩ = some (.bool hm.au) ∧ W.cell? ⟨gm, 3, none⟩ = some (.bool hm.ct) ∧ W.cell? ⟨gm, 4, none⟩ = some (.bool hm.wa) ∧ W.cell? ⟨gm, 5, none⟩ = some (.bool hm.ca) ∧ W.cell? ⟨gm, 6, none⟩ = some (.int .i64 hm.code) ∧ W.cell? ⟨gm, 7, none⟩ = some (.string hm.qn) ∧ W.cell? ⟨gm, 8, none⟩ = some (.int .i64 hm.qt) ∧ W.cell? ⟨gm, 9, none⟩ = some (.slice none 0 0) ∧ W.cell? ⟨gm, 10, none⟩ = some (.slice none 0 0) ∧ W.cell? ⟨gm, 11, none⟩ = some (.slice none 0 0)) ∧ (W.cell? ⟨gr, 0, none⟩ = some (.int .i64 H.id) ∧ W.cell? ⟨gr, 1, none⟩ = some (.bool H.rp) ∧ W.cell? ⟨gr, 2, none⟩ = some (.bool H.au) ∧ W.cell? ⟨gr, 3, none⟩ = some (.bool H.ct) ∧ W.cell? ⟨gr, 4, none⟩ = some (.bool H.wa) ∧ W.cell? ⟨gr, 5, none⟩ = some (.bool H.ca) ∧ W.cell? ⟨gr, 6, none⟩ = some (.int .i64 H.code) ∧ W.cell? ⟨gr, 7, none⟩ = some (.string H.qn) ∧ W.cell? ⟨gr, 8, none⟩ = some (.int .i64 H.qt) ∧ W.cell? ⟨gr, 9, none⟩ = some (.slice (some ⟨g1, 0, none⟩) k1 u1) ∧ W.cell? ⟨gr, 10, none⟩ = some (.slice (some ⟨g2, 0, none⟩) k2 u2) ∧ W.cell? ⟨gr, 11, none⟩ = some (.slice (some ⟨g3, 0, none⟩) k3 u3))) ∧ Svz w7 W → Calls Tryz.prog 10 #[.agg #[.string cm, .slice (some ⟨gl, 0, none⟩) m cap], .agg #[.string nm, .int .i64 ty]] W fun e w' => e = .returned (.int .i64 k) ∧ Below W.heap.size W w') := fun W hW => KS.out W (B7.out.trans ((show Below w7.heap.size w7 W from hW.2).mono B7.out.size))
    have SSR : Hid (∀ W : World, (((W.cell? ⟨gz, 0, none⟩ = some (.string cm) ∧ W.cell? ⟨gz, 1, none⟩ = some (.slice (some ⟨gl, 0, none⟩) m cap)) ∧ (W.cell? ⟨gk, 0, none⟩ = some (.string nm) ∧ W.cell? ⟨gk, 1, none⟩ = some (.int .i64 ty))) ∧ (W.cell? ⟨gm, 0, none⟩ = some (.int .i64 hm.id) ∧ W.cell? ⟨gm, 1, none⟩ = some (.bool hm.rp) ∧ W.cell? ⟨gm, 2, none⟩ = some (.bool hm.au) ∧ W.cell? ⟨gm, 3, none⟩ = some (.bool hm.ct) ∧ W.cell? ⟨gm, 4, none⟩ = some (.bool hm.wa) ∧ W.cell? ⟨gm, 5, none⟩ = some (.bool hm.ca) ∧ W.cell? ⟨gm, 6, none⟩ = some (.int .i64 hm.code) ∧ W.cell? ⟨gm, 7, none⟩ = some (.string hm.qn) ∧ W.cell? ⟨gm, 8, none⟩ = some (.int .i64 hm.qt) ∧ W.cell? ⟨gm, 9, none⟩ = some (.slice none 0 0) ∧ W.cell? ⟨gm, 10, none⟩ = some (.slice none 0 0) ∧ W.cell? ⟨gm, 11, none⟩ = some (.slice none 0 0)) ∧ (W.cell? ⟨gr, 0, none⟩ = some (.int .i64 H.id) ∧ W.cell? ⟨gr, 1, none⟩ = some (.bool H.rp) ∧ W.cell? ⟨gr, 2, none⟩ = some (.bool H.au) ∧ W.cell? ⟨gr, 3, none⟩ = some (.bool H.ct) ∧ W.cell? ⟨gr, 4, none⟩ = some (.bool H.wa) ∧ W.cell? ⟨gr, 5, none⟩ = some (.bool H.ca) ∧ W.cell? ⟨gr, 6, none⟩ = some (.int .i64 H.code) ∧ W.cell? ⟨gr, 7, none⟩ = some (.string H.qn) ∧ W.cell? ⟨gr, 8, none⟩ = some (.int .i64 H.qt) ∧ W.cell? ⟨gr, 9, none⟩ = some (.slice (some ⟨g1, 0, none⟩) k1 u1) ∧ W.cell? ⟨gr, 10, none⟩ = some (.slice (some ⟨g2, 0, none⟩) k2 u2) ∧ W.cell? ⟨gr, 11, none⟩ = some (.slice (some ⟨g3, 0, none⟩) k3 u3))) ∧ Svz w7 W → Calls Tryz.prog 12 #[.agg #[.string cm, .slice (some ⟨gl, 0, none⟩) m cap], .agg #[.int .i64 hm.id, .bool hm.rp, .bool hm.au, .bool hm.ct, .bool hm.wa, .bool hm.ca, .int .i64 hm.code, .string hm.qn, .int .i64 hm.qt, .slice none 0 0, .slice none 0 0, .slice none 0 0]] W (GivesM W H k1 k2 k3 j1 j2 j3)) := fun W hW => SS.out W (B7.out.trans ((show Below w7.heap.size w7 W from hW.2).mono B7.out.size))
    have SMR : Hid (∀ (W : World) (t1 f1 : Nat) (q1 : List Value) (t2 f2 : Nat) (q2 : List Value) (t3 f3 : Nat) (q3 : List Value), (((W.cell? ⟨gz, 0, none⟩ = some (.string cm) ∧ W.cell? ⟨gz, 1, none⟩ = some (.slice (some ⟨gl, 0, none⟩) m cap)) ∧ (W.cell? ⟨gk, 0, none⟩ = some (.string nm) ∧ W.cell? ⟨gk, 1, none⟩ = some (.int .i64 ty))) ∧ (W.cell? ⟨gm, 0, none⟩ = some (.int .i64 hm.id) ∧ W.cell? ⟨gm, 1, none⟩ = some (.bool hm.rp) ∧ W.cell? ⟨gm, 2, none⟩ = some (.bool hm.au) ∧ W.cell? ⟨gm, 3, none⟩ = some (.bool hm.ct) ∧ W.cell? ⟨gm, 4, none⟩ = some (.bool hm.wa) ∧ W.cell? ⟨gm, 5, none⟩ = some (.bool hm.ca) ∧ W.cell? ⟨gm, 6, none⟩ = some (.int .i64 hm.code) ∧ W.cell? ⟨gm, 7, none⟩ = some (.string hm.qn) ∧ W.cell? ⟨gm, 8, none⟩ = some (.int .i64 hm.qt) ∧ W.cell? ⟨gm, 9, none⟩ = some (.slice none 0 0) ∧ W.cell? ⟨gm, 10, none⟩ = some (.slice none 0 0) ∧ W.cell? ⟨gm, 11, none⟩ = some (.slice none 0 0)) ∧ (W.cell? ⟨gr, 0, none⟩ = some (.int .i64 H.id) ∧ W.cell? ⟨gr, 1, none⟩ = some (.bool H.rp) ∧ W.cell? ⟨gr, 2, none⟩ = some (.bool H.au) ∧ W.cell? ⟨gr, 3, none⟩ = some (.bool H.ct) ∧ W.cell? ⟨gr, 4, none⟩ = some (.bool H.wa) ∧ W.cell? ⟨gr, 5, none⟩ = some (.bool H.ca) ∧ W.cell? ⟨gr, 6, none⟩ = some (.int .i64 H.code) ∧ W.cell? ⟨gr, 7, none⟩ = some (.string H.qn) ∧ W.cell? ⟨gr, 8, none⟩ = some (.int .i64 H.qt) ∧ W.cell? ⟨gr, 9, none⟩ = some (.slice (some ⟨g1, 0, none⟩) k1 u1) ∧ W.cell? ⟨gr, 10, none⟩ = some (.slice (some ⟨g2, 0, none⟩) k2 u2) ∧ W.cell? ⟨gr, 11, none⟩ = some (.slice (some ⟨g3, 0, none⟩) k3 u3))) ∧ Svz w7 W → Bk W t1 40 (fl j1 ++ q1) → Bk W t2 40 (fl j2 ++ q2) → Bk W t3 40 (fl j3 ++ q3) → Calls Tryz.prog 11 #[.agg #[.int .i64 H.id, .bool H.rp, .bool H.au, .bool H.ct, .bool H.wa, .bool H.ca, .int .i64 H.code, .string H.qn, .int .i64 H.qt, .slice (some ⟨g1, 0, none⟩) k1 u1, .slice (some ⟨g2, 0, none⟩) k2 u2, .slice (some ⟨g3, 0, none⟩) k3 u3], .agg #[.int .i64 H.id, .bool H.rp, .bool H.au, .bool H.ct, .bool H.wa, .bool H.ca, .int .i64 H.code, .string H.qn, .int .i64 H.qt, .slice (some ⟨t1, 0, none⟩) k1 f1, .slice (some ⟨t2, 0, none⟩) k2 f2, .slice (some ⟨t3, 0, none⟩) k3 f3]] W fun e w' => e = .returned (.bool true) ∧ Below W.heap.size W w') := fun W t1 f1 q1 t2 f2 q2 t3 f3 q3 hW e1 e2 e3 => (smm_self H j1 j2 j3) ▸ SamL.same H H _ _ k1 k1 u1 f1 j1 j1 _ _ k2 k2 u2 f2 j2 j2 _ _ k3 k3 u3 f3 j3 j3 W (bk_sr (G1_7.out.below hW.2 G1_7.out.lt) D1.out) (bk_sr e1 D1.out) (by omega) (by omega) (bk_sr (G2_7.out.below hW.2 G2_7.out.lt) D2.out) (bk_sr e2 D2.out) (by omega) (by omega) (bk_sr (G3_7.out.below hW.2 G3_7.out.lt) D3.out) (bk_sr e3 D3.out) (by omega) (by omega)
    have HQ : Hid (H.qn.size ≤ 400000000) := by show _ ≤ _; rw [F0.out.2.2.2.2.1]; exact NB.out
    have MKR : Hid (∀ W : World, (((W.cell? ⟨gz, 0, none⟩ = some (.string cm) ∧ W.cell? ⟨gz, 1, none⟩ = some (.slice (some ⟨gl, 0, none⟩) m cap)) ∧ (W.cell? ⟨gk, 0, none⟩ = some (.string nm) ∧ W.cell? ⟨gk, 1, none⟩ = some (.int .i64 ty))) ∧ (W.cell? ⟨gm, 0, none⟩ = some (.int .i64 hm.id) ∧ W.cell? ⟨gm, 1, none⟩ = some (.bool hm.rp) ∧ W.cell? ⟨gm, 2, none⟩ = some (.bool hm.au) ∧ W.cell? ⟨gm, 3, none⟩ = some (.bool hm.ct) ∧ W.cell? ⟨gm, 4, none⟩ = some (.bool hm.wa) ∧ W.cell? ⟨gm, 5, none⟩ = some (.bool hm.ca) ∧ W.cell? ⟨gm, 6, none⟩ = some (.int .i64 hm.code) ∧ W.cell? ⟨gm, 7, none⟩ = some (.string hm.qn) ∧ W.cell? ⟨gm, 8, none⟩ = some (.int .i64 hm.qt) ∧ W.cell? ⟨gm, 9, none⟩ = some (.slice none 0 0) ∧ W.cell? ⟨gm, 10, none⟩ = some (.slice none 0 0) ∧ W.cell? ⟨gm, 11, none⟩ = some (.slice none 0 0)) ∧ (W.cell? ⟨gr, 0, none⟩ = some (.int .i64 H.id) ∧ W.cell? ⟨gr, 1, none⟩ = some (.bool H.rp) ∧ W.cell? ⟨gr, 2, none⟩ = some (.bool H.au) ∧ W.cell? ⟨gr, 3, none⟩ = some (.bool H.ct) ∧ W.cell? ⟨gr, 4, none⟩ = some (.bool H.wa) ∧ W.cell? ⟨gr, 5, none⟩ = some (.bool H.ca) ∧ W.cell? ⟨gr, 6, none⟩ = some (.int .i64 H.code) ∧ W.cell? ⟨gr, 7, none⟩ = some (.string H.qn) ∧ W.cell? ⟨gr, 8, none⟩ = some (.int .i64 H.qt) ∧ W.cell? ⟨gr, 9, none⟩ = some (.slice (some ⟨g1, 0, none⟩) k1 u1) ∧ W.cell? ⟨gr, 10, none⟩ = some (.slice (some ⟨g2, 0, none⟩) k2 u2) ∧ W.cell? ⟨gr, 11, none⟩ = some (.slice (some ⟨g3, 0, none⟩) k3 u3))) ∧ Svz w7 W → Calls Tryz.prog 13 #[.agg #[.int .i64 H.id, .bool H.rp, .bool H.au, .bool H.ct, .bool H.wa, .bool H.ca, .int .i64 H.code, .string H.qn, .int .i64 H.qt, .slice (some ⟨g1, 0, none⟩) k1 u1, .slice (some ⟨g2, 0, none⟩) k2 u2, .slice (some ⟨g3, 0, none⟩) k3 u3]] W fun e w' => e = .returned (.bool true) ∧ Below W.heap.size W w') := fun W hW => OK.out ▸ OkM.impl H _ k1 u1 j1 _ k2 u2 j2 _ k3 u3 j3 W (E3.out.below (B7.out.trans ((show Below w7.heap.size w7 W from hW.2).mono B7.out.size))) HQ.out (bk_sr (G1_7.out.below hW.2 G1_7.out.lt) D1.out) (by omega) MA.out (bk_sr (G2_7.out.below hW.2 G2_7.out.lt) D2.out) (by omega) MM.out (bk_sr (G3_7.out.below hW.2 G3_7.out.lt) D3.out) (by omega) MH.out
    have SS0 : (((w7.cell? ⟨gz, 0, none⟩ = some (.string cm) ∧ w7.cell? ⟨gz, 1, none⟩ = some (.slice (some ⟨gl, 0, none⟩) m cap)) ∧ (w7.cell? ⟨gk, 0, none⟩ = some (.string nm) ∧ w7.cell? ⟨gk, 1, none⟩ = some (.int .i64 ty))) ∧ (w7.cell? ⟨gm, 0, none⟩ = some (.int .i64 hm.id) ∧ w7.cell? ⟨gm, 1, none⟩ = some (.bool hm.rp) ∧ w7.cell? ⟨gm, 2, none⟩ = some (.bool hm.au) ∧ w7.cell? ⟨gm, 3, none⟩ = some (.bool hm.ct) ∧ w7.cell? ⟨gm, 4, none⟩ = some (.bool hm.wa) ∧ w7.cell? ⟨gm, 5, none⟩ = some (.bool hm.ca) ∧ w7.cell? ⟨gm, 6, none⟩ = some (.int .i64 hm.code) ∧ w7.cell? ⟨gm, 7, none⟩ = some (.string hm.qn) ∧ w7.cell? ⟨gm, 8, none⟩ = some (.int .i64 hm.qt) ∧ w7.cell? ⟨gm, 9, none⟩ = some (.slice none 0 0) ∧ w7.cell? ⟨gm, 10, none⟩ = some (.slice none 0 0) ∧ w7.cell? ⟨gm, 11, none⟩ = some (.slice none 0 0)) ∧ (w7.cell? ⟨gr, 0, none⟩ = some (.int .i64 H.id) ∧ w7.cell? ⟨gr, 1, none⟩ = some (.bool H.rp) ∧ w7.cell? ⟨gr, 2, none⟩ = some (.bool H.au) ∧ w7.cell? ⟨gr, 3, none⟩ = some (.bool H.ct) ∧ w7.cell? ⟨gr, 4, none⟩ = some (.bool H.wa) ∧ w7.cell? ⟨gr, 5, none⟩ = some (.bool H.ca) ∧ w7.cell? ⟨gr, 6, none⟩ = some (.int .i64 H.code) ∧ w7.cell? ⟨gr, 7, none⟩ = some (.string H.qn) ∧ w7.cell? ⟨gr, 8, none⟩ = some (.int .i64 H.qt) ∧ w7.cell? ⟨gr, 9, none⟩ = some (.slice (some ⟨g1, 0, none⟩) k1 u1) ∧ w7.cell? ⟨gr, 10, none⟩ = some (.slice (some ⟨g2, 0, none⟩) k2 u2) ∧ w7.cell? ⟨gr, 11, none⟩ = some (.slice (some ⟨g3, 0, none⟩) k3 u3))) ∧ Svz w7 w7 := ⟨⟨⟨X7.out, K7.out⟩, M7.out, R7.out⟩, Below.refl _ _⟩
    have hk0 : (k != k) = false := by simp
    have hid0 : (H.id != hm.id) = false := by rw [F0.out.1]; simp
    have qs : ∀ W : World, Sem.run Tryz.prog (binOp .neq 28 (.agg #[.string H.qn, .int .i64 H.qt]) (.agg #[.string nm, .int .i64 ty])) W = .ok (.bool false) W := fun W => by
      rw [F0.out.2.2.2.2.1, F0.out.2.2.2.2.2]
      exact EqlQ.neq_same nm ty W
    clear KS SS
    go_upto_region 7 with (fail)
    go_region_held3 (fun w' => (((w'.cell? ⟨gz, 0, none⟩ = some (.string cm) ∧ w'.cell? ⟨gz, 1, none⟩ = some (.slice (some ⟨gl, 0, none⟩) m cap)) ∧ (w'.cell? ⟨gk, 0, none⟩ = some (.string nm) ∧ w'.cell? ⟨gk, 1, none⟩ = some (.int .i64 ty))) ∧ (w'.cell? ⟨gm, 0, none⟩ = some (.int .i64 hm.id) ∧ w'.cell? ⟨gm, 1, none⟩ = some (.bool hm.rp) ∧ w'.cell? ⟨gm, 2, none⟩ = some (.bool hm.au) ∧ w'.cell? ⟨gm, 3, none⟩ = some (.bool hm.ct) ∧ w'.cell? ⟨gm, 4, none⟩ = some (.bool hm.wa) ∧ w'.cell? ⟨gm, 5, none⟩ = some (.bool hm.ca) ∧ w'.cell? ⟨gm, 6, none⟩ = some (.int .i64 hm.code) ∧ w'.cell? ⟨gm, 7, none⟩ = some (.string hm.qn) ∧ w'.cell? ⟨gm, 8, none⟩ = some (.int .i64 hm.qt) ∧ w'.cell? ⟨gm, 9, none⟩ = some (.slice none 0 0) ∧ w'.cell? ⟨gm, 10, none⟩ = some (.slice none 0 0) ∧ w'.cell? ⟨gm, 11, none⟩ = some (.slice none 0 0)) ∧ (w'.cell? ⟨gr, 0, none⟩ = some (.int .i64 H.id) ∧ w'.cell? ⟨gr, 1, none⟩ = some (.bool H.rp) ∧ w'.cell? ⟨gr, 2, none⟩ = some (.bool H.au) ∧ w'.cell? ⟨gr, 3, none⟩ = some (.bool H.ct) ∧ w'.cell? ⟨gr, 4, none⟩ = some (.bool H.wa) ∧ w'.cell? ⟨gr, 5, none⟩ = some (.bool H.ca) ∧ w'.cell? ⟨gr, 6, none⟩ = some (.int .i64 H.code) ∧ w'.cell? ⟨gr, 7, none⟩ = some (.string H.qn) ∧ w'.cell? ⟨gr, 8, none⟩ = some (.int .i64 H.qt) ∧ w'.cell? ⟨gr, 9, none⟩ = some (.slice (some ⟨g1, 0, none⟩) k1 u1) ∧ w'.cell? ⟨gr, 10, none⟩ = some (.slice (some ⟨g2, 0, none⟩) k2 u2) ∧ w'.cell? ⟨gr, 11, none⟩ = some (.slice (some ⟨g3, 0, none⟩) k3 u3))) ∧ Svz w7 w')
      (first | with_reducible exact SS0 | with_reducible exact keptV_draw SS0 | with_reducible assumption | with_reducible exact keptV (by assumption) hl | fail)
      (first
        | (go_at_call 10; (with_reducible refine (KSR.out _ (by assumption)).mono ?_); rintro e wa ⟨rfl, hl⟩)
        | (go_at_call 12; (with_reducible refine (SSR.out _ (by assumption)).mono ?_); rintro e wb ⟨t1, f1, q1, t2, f2, q2, t3, f3, q3, rfl, hb1, hb2, hb3, -, -, -, hl⟩)
        | (go_at_call 11; (with_reducible refine (SMR.out _ _ _ _ _ _ _ _ _ _ (by assumption) hb1 hb2 hb3).mono ?_); rintro e wd ⟨rfl, hl⟩)
        | (go_at_call 13; (with_reducible refine (MKR.out _ (by assumption)).mono ?_); rintro e we ⟨rfl, hl⟩)
        | fail)
    rename_i hH
    have X8 : Hid (Zx we gz cm (.slice (some ⟨gl, 0, none⟩) m cap)) := hH.1.1.1
    have K8 : Hid (Qx we gk nm ty) := hH.1.1.2
    have R8 : Hid (Mx we gr H (.slice (some ⟨g1, 0, none⟩) k1 u1) (.slice (some ⟨g2, 0, none⟩) k2 u2) (.slice (some ⟨g3, 0, none⟩) k3 u3)) := hH.1.2.2
    have hz : Below w7.heap.size w7 we := hH.2
    have B8 := Lib.hid (B7.out.trans (hz.mono B7.out.size))
    have G8 := Lib.hid (G1_7.out.below hz G1_7.out.lt)
    clear hH hz hl hb1 hb2 hb3 SS0 KSR SSR SMR MKR qs hid0 hk0 X7 K7 M7 R7 B7 G1_7 G2_7 G3_7 MA MM MH OK HQ
    have hrp : H.rp = true := F0.out.2.1
    go_upto_region 9 with (fail)
    all_goals try (rename_i hx; rw [hrp] at hx; exact absurd hx (by decide))
    clear hrp
    go_cut [87] (fun a wx => a = .bool false ∧ wx = we)
    case first =>
      obtain ⟨y0, y1, y2, y3, y4, y5, y6, y7, y8, y9, y10, y11⟩ := R8.out
      rcases K6.out with hk | hk | hk | hk | hk | hk
      · have hau : H.au = false := F0.out.2.2.1.trans (by rw [hk]; rfl)
        have hcd : H.code = 5 := F0.out.2.2.2.1.trans (by rw [hk]; rfl)
        have hpn : Hid (decide (0 < k1) = false) := decide_eq_false (by have := PA.out; omega)
        subst hk
        go_wp2
        go_meet
        exact ⟨by rw [hpn.out] <;> rfl, rfl⟩
      · have hau : H.au = false := F0.out.2.2.1.trans (by rw [hk]; rfl)
        have hcd : H.code = 0 := F0.out.2.2.2.1.trans (by rw [hk]; rfl)
        have hpn : Hid (decide (0 < k1) = false) := decide_eq_false (by have := PA.out; omega)
        subst hk
        go_wp2
        go_meet
        exact ⟨by rw [hpn.out] <;> rfl, rfl⟩
      · have hau : H.au = true := F0.out.2.2.1.trans (by rw [hk]; rfl)
        have hcd : H.code = 0 := F0.out.2.2.2.1.trans (by rw [hk]; rfl)
        have hpn : Hid (decide (0 < k1) = true) := decide_eq_true (by have := PA.out; omega)
        subst hk
        go_wp2
        go_meet
        exact ⟨by rw [hpn.out] <;> rfl, rfl⟩
      · have hau : H.au = true := F0.out.2.2.1.trans (by rw [hk]; rfl)
        have hcd : H.code = 0 := F0.out.2.2.2.1.trans (by rw [hk]; rfl)
        have hpn : Hid (decide (0 < k1) = true) := decide_eq_true (by have := PA.out; omega)
        subst hk
        go_wp2
        go_meet
        exact ⟨by rw [hpn.out] <;> rfl, rfl⟩
      · have hau : H.au = true := F0.out.2.2.1.trans (by rw [hk]; rfl)
        have hcd : H.code = 0 := F0.out.2.2.2.1.trans (by rw [hk]; rfl)
        have hpn : Hid (decide (0 < k1) = false) := decide_eq_false (by have := PA.out; omega)
        subst hk
        go_wp2
        go_meet
        exact ⟨by rw [hpn.out] <;> rfl, rfl⟩
      · have hau : H.au = true := F0.out.2.2.1.trans (by rw [hk]; rfl)
        have hcd : H.code = 3 := F0.out.2.2.2.1.trans (by rw [hk]; rfl)
        have hpn : Hid (decide (0 < k1) = false) := decide_eq_false (by have := PA.out; omega)
        subst hk
        go_wp2
        go_meet
        exact ⟨by rw [hpn.out] <;> rfl, rfl⟩
    case rest =>
      obtain ⟨rfl, rfl⟩ := hcut
      go_wp2
      go_loopw [8] (fun i wr => ∃ j : Nat, j ≤ k1 ∧ i = .int .i64 j ∧ Hid (Mx wr gr H (.slice (some ⟨g1, 0, none⟩) k1 u1) (.slice (some ⟨g2, 0, none⟩) k2 u2) (.slice (some ⟨g3, 0, none⟩) k3 u3)) ∧ Hid (Qx wr gk nm ty) ∧ Hid (Zx wr gz cm (.slice (some ⟨gl, 0, none⟩) m cap)) ∧ Hid (Bk wr g1 40 (fl j1 ++ r1)) ∧ Hid (Below w3.heap.size w3 wr)) (fun i _ => k1 - (intOf i).toNat)
      case atStart => exact ⟨0, Nat.zero_le _, rfl, R8.out, K8.out, X8.out, G8.out, B8.out⟩
      case round =>
        clear R8 K8 X8 G8 B8
        obtain ⟨j, hj, rfl, HM, HK, HX, HB, HL⟩ := hrel
        obtain ⟨y0, y1, y2, y3, y4, y5, y6, y7, y8, y9, y10, y11⟩ := HM.out
        by_cases hlt : j < k1
        · have hjl : j < j1.length := by rw [D1.out]; exact hlt
          have e0 := (bk_ce HB.out j hjl).1
          rw [NA.out _ (List.getElem_mem hjl)] at e0
          obtain ⟨q0, q1⟩ := HK.out
          have s0 : (nm.toList == nm.toList) = true := by simp
          have s1 : (nm.data.toList == nm.data.toList) = true := by simp
          go_wp2_with fail
          go_quiet (fail)
          go_wp2
          go_roundw
          case rel => exact ⟨j + 1, by omega, by go_num, HM.out, HK.out, HX.out, HB.out, HL.out.trans (drewN_below _ _ _)⟩
          case measure => simp [intOf]; omega
        · obtain rfl : k1 = j := by omega
          have LF := Lib.hid (L3.out.trans (HL.out.mono L3.out.size))
          by_cases h5 : k = 5
          · have EX0 := Lib.hid (EX.out _ HL.out)
            rw [P5.out h5] at EX0
            have t5 : (k != 5) = false := by simp [h5]
            obtain ⟨z0, z1⟩ := HX.out
            obtain ⟨q0, q1⟩ := HK.out
            clear EX h5
            go_wp2_with fail
            refine EX0.out.mono ?_
            rintro e wf ⟨rfl, hl⟩
            have LG := Lib.hid (LF.out.trans (hl.mono LF.out.size))
            clear hl
            go_wp2
            go_ret
            exact ⟨rfl, LG.out⟩
          · have t5 : (k != 5) = true := by simpa using h5
            clear h5
            go_wp2
            go_ret
            exact ⟨rfl, LF.out⟩

end Go.Proofs.YtmabbeefeipnaaaGreatDoor.LawServes

/- What the world's shape gives the walks of this seat, and one world in which the listed tables of unicode/utf8 read as their text lays them. -/
namespace Go.Proofs.YtmabbeefeipnaaaGreatDoor.LaidU
open Go.RowKit Go.Proofs.YtmabbeefeipnaaaGreatDoor.Labels

theorem env {W : World} (h : W.ShapedOpen Tryz.prog) : Env W := Tryz.laysM146.s1_3 W h

def acc : List Int := [128, 191, 160, 191, 128, 159, 144, 191, 128, 143, 0, 0, 0, 0, 0, 0, 0, 0, 0, 0, 0, 0, 0, 0, 0, 0, 0, 0, 0, 0, 0, 0]
theorem gFirst : Tryz.prog.globalNamed "unicode/utf8.first" = some 1 := by kernel_rfl
theorem gAcc : Tryz.prog.globalNamed "unicode/utf8.acceptRanges" = some 2 := by kernel_rfl
/-- A block of cells, with other cells in it. -/
def put (cs : Array Value) : Obj → Obj
  | .cells _ t frozen => .cells cs t frozen
  | o => o
/-- The settled world, the two tables holding what their text lays. -/
noncomputable def laidWorld (os : Os) : World :=
  { World.holding Tryz.prog os ⟨#[], #[], []⟩ with heap := ((World.holding Tryz.prog os ⟨#[], #[], []⟩).heap.modify 1 (put (Go.Pinned.utf8FirstZ.map (fun n : Nat => Value.int .u8 (n : Int))).toArray)).modify 2 (put (acc.map (Value.int .u8)).toArray) }
def two : List (String × DataW Unit) := [("unicode/utf8.acceptRanges", Rows.laid_unicode_utf8_acceptRanges), ("unicode/utf8.first", Rows.laid_unicode_utf8_first)]
theorem laid_met (os : Os) (args : Array Value) : laidMet Tryz.prog two ((laidWorld os).forCall (fun _ _ => 0) ⟨#[], args, []⟩).memory :=
  laidMet_of_run' 8 (by kernel_rfl) (by kernel_rfl)
end Go.Proofs.YtmabbeefeipnaaaGreatDoor.LaidU

/- On every slice of bytes the law FnServes returns true: a server answers authoritatively for its own zone only, except for referrals, and its replies are valid and as the model has them, where the listed tables of the library read as their text lays them (the card ties that to the program's text). -/
namespace Go.Proofs.YtmabbeefeipnaaaGreatDoor.servesCard
open Go.ChangeShapes Go.WideShapes Go.ChangeAt Go.RowKit Go.Proofs.YtmabbeefeipnaaaGreatDoor.LaidU Go.Proofs.YtmabbeefeipnaaaGreatDoor.Mem

theorem own : ownKnob Tryz.prog.godebug = none := by kernel_rfl
theorem laidOut : laidOutB Tryz.prog = true := by kernel_rfl

set_option maxRecDepth 100000 in
theorem contract (H : Type) (enc : TypeId × Value → H) (W : World) (base : Nat) (args : Array Value) (ds gs : List (DataW H)) (before : List MemPlace)
    (hval0 : ∀ (j : Nat) t v, Tryz.f3.params[j]? = some t → args[j]? = some v → Value.okWide Tryz.prog W .any base t v)
    (hW : DataW.Whole enc Tryz.prog Tryz.f3.params.toList Rows.fnServesSpec.vars false W args.toList ds gs before) (hsh : W.ShapedOpen Tryz.prog) :
    Calls Tryz.prog 3 args W fun e W' => ∃ v, e = .returned v ∧ Rows.fnServesSpec.post enc Tryz.prog Tryz.f3 false true false false W args v W' := by
  have hval : ∀ (j : Nat) t v, Tryz.f3.params[j]? = some t → args[j]? = some v → Value.okWide Tryz.prog W .any base t v := hval0
  have hW' := hW
  obtain ⟨p, q, hA0, hV, rfl, _, _⟩ := hW
  have hA : DataW.TrodAll enc Tryz.prog W 0 (fun _ => true) true Tryz.f3.params.toList args.toList ds p := hA0
  rw [Tryz.params3] at hA hval
  obtain ⟨v0, vs0, d0, ds0, p0, q0, _, rfl, rfl, h0, r0⟩ := trodAll_cons hA
  obtain ⟨rfl, rfl, rfl⟩ := trodAll_nil r0
  obtain rfl : args = #[v0] := by cases args; simp_all
  obtain ⟨rfl, rfl⟩ := trodVars_none hV
  obtain ⟨a0, len0, cap0, rfl⟩ := okWide_slice Tryz.underlying22 (hval 0 22 v0 rfl rfl)
  have k0 := h0
  have lt0 : ∀ x ∈ p0, x.block < W.heap.size := by obtain ⟨m, hm⟩ := k0; exact DataW.trod_lt m _ _ _ hm
  obtain ⟨l0, s0, c0, z0⟩ : ∃ l : List UInt8, Sl W W.heap.size a0 len0 l ∧ len0 ≤ cap0 ∧ (a0 = none → len0 = 0 ∧ cap0 = 0) := by
    obtain ⟨fuel, hf⟩ := h0
    rcases open_ints Tryz.underlying22 Tryz.underlying5 (by kernel_rfl) hf with ⟨hcs, _⟩ | ⟨x, l, c, zs, hcs, _, hl, hm, hz, _, hcell, hwz⟩
    · simp [Value.cells] at hcs
      obtain ⟨rfl, rfl, rfl⟩ := hcs
      exact sl_of_row (zs := []) (.inl ⟨rfl, rfl, rfl, rfl⟩)
    · simp [Value.cells] at hcs
      obtain ⟨rfl, rfl, rfl⟩ := hcs
      exact sl_of_row (zs := zs) (.inr ⟨_, rfl, hl, hm, by simpa using hz, hcell, hwz⟩)
  clear hA0 hval0
  refine (LawServes.walk a0 len0 cap0 l0 W (env hsh) s0 c0 z0).mono fun e W' ⟨he, bel⟩ => ?_
  subst he
  exact ⟨_, rfl, _, _, _, [], _, [], hW', trodAll_mk1 (shut_bool Tryz.underlying4 _), (trodAll_cons_mk (Below.trod laidOut (by kernel_rfl) (of_decide_eq_true (by kernel_rfl)) k0 bel lt0) trodAll_mk0), rfl, bel.frame _, fun h => by cases h⟩

theorem reads (os : Os) {H : Type} (enc : TypeId × Value → H) : ∃ places, DataW.whole enc Tryz.prog ((laidWorld os).forCall (fun _ _ => 0) ⟨#[], #[.slice none 0 0], []⟩).memory Tryz.f3.params.toList Rows.fnServesSpec.vars false #[Value.slice none 0 0].toList 8 = some ([.nil], [], places) :=
  ⟨[], by kernel_rfl⟩

set_option maxRecDepth 100000 in
theorem lifted (os : Os) (started : os.Started) (H : Type) (enc : TypeId × Value → H) (F : Stop.Interp) :
    ReturnsInHanded {} Tryz.checked os 3 .any ((OpenSpec.ofChange Rows.fnServesSpec).preRow enc Tryz.prog Tryz.f3 Rows.fnServesRow.domain false Rows.fnServesRow.laid) (((OpenSpec.ofChange Rows.fnServesSpec).at F).post enc Tryz.prog Tryz.f3 false true false false) := by
  obtain ⟨places, hx⟩ := reads os enc
  refine returnsInHanded_of_row (C := Tryz.checked) (s := OpenSpec.ofChange Rows.fnServesSpec) own started (by kernel_rfl) Tryz.func3
    (witness_row_at (enc := enc) (C := Tryz.checked) false (laidWorld os) #[.slice none 0 0] rfl (by kernel_rfl) (by kernel_rfl) (by kernel_rfl)
      (OpenSpec.preRow_of_cond 8 hx (by kernel_rfl) (fun k hk => by cases hk) (by kernel_rfl) (laid_met os _))) ?_
  intro W base args ds gs before hval hW _ _ _ _ hsh _
  exact contract H enc W base args ds gs before hval hW hsh

theorem said : Rows.FnServesSaid :=
  OpenClaim.holds_of_cond 3 Tryz.f3 rfl rfl rfl rfl rfl rfl rfl ⟨rfl, rfl, rfl, rfl, rfl⟩ rfl rfl rfl rfl rfl (by kernel_rfl) Tryz.func3 (by kernel_rfl)
    (of_decide_eq_true (by kernel_rfl)) (by unfold Func.isWrapper; first | (rw [if_pos (by decide +kernel)]; kernel_rfl) | (rw [if_neg (by decide +kernel)]; exact ⟨rfl, rfl⟩))
    (fun os started H enc _ F => by rw [OpenClaim.pre_eq_preRow]; exact lifted os started H enc F)

theorem plain (f : FuncId) (fn : Func) (hf : Tryz.pinned.checked.prog.funcNamed "loop.example/g00497/laws.FnServes" = some f) (hfn : Tryz.pinned.checked.prog.funcs[f]? = some fn) :
    false = Tryz.pinned.checked.prog.looks [] ∧ ∀ (j : Nat) t, fn.params[j]? = some t → Tryz.pinned.checked.prog.wantsStandIn t = false := by
  obtain rfl : f = 3 := Option.some.inj ((show Tryz.prog.funcNamed "loop.example/g00497/laws.FnServes" = some 3 by kernel_rfl).symm.trans hf) |>.symm
  obtain rfl : fn = Tryz.f3 := (Option.some.inj (Tryz.func3.symm.trans hfn)).symm
  refine ⟨by kernel_rfl, fun j t ht => ?_⟩
  rw [Tryz.params3] at ht
  obtain rfl : t = 22 := by simpa using Array.mem_of_getElem? ht
  exact (show Tryz.prog.wantsStandIn 22 = false by kernel_rfl)

theorem card : Rows.FnServesCardSaid :=
  Claim7.holds_tied_plain_at .later [] _ _ _ _ said (fun _ h => by cases h) (by kernel_rfl) (fun _ h => by cases h) fnServes_row_tie rfl ⟨rfl, rfl⟩ (by kernel_rfl) rfl plain (by kernel_rfl)
end Go.Proofs.YtmabbeefeipnaaaGreatDoor.servesCard
namespace Go.Proofs.YtmabbeefeipnaaaGreatDoor
theorem fnServes_holds : Rows.FnServesCardSaid := servesCard.card
end Go.Proofs.YtmabbeefeipnaaaGreatDoor
