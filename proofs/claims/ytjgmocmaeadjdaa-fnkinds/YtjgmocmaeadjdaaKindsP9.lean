/- The law FnKinds as the row asks it: true at every slice of bytes, nothing turned. -/
import Derived.Test.YtjgmocmaeadjdaaKindsP8
import Derived.Test.YtjgmocmaeadjdaaMem
import Derived.Deep.QuietTactic
import Derived.BigQuiet
import Derived.Test.YtjgmocmaeadjdaaKindsP3
import Derived.Test.YtjgmocmaeadjdaaKindsP7
import Derived.Test.YtjgmocmaeadjdaaKindsP6
import Derived.Test.YtjgmocmaeadjdaaKindsP4
import Derived.Deep.RegionHeld3
import Derived.WalkKit
import Derived.ProofKit
import Derived.OpenShut
import Derived.ShutString
import Derived.ChangeOld
import Derived.Below
/- What sameMsg does, put together of its ways. -/
namespace Go.Proofs.Ytjgmocmaeadjdaa.SamL
open Go.RowKit Go.Proofs.Ytjgmocmaeadjdaa.Mem Go.Proofs.Ytjgmocmaeadjdaa.MemR Go.Proofs.Ytjgmocmaeadjdaa.BoxR Go.Proofs.Ytjgmocmaeadjdaa.MemM Go.Proofs.Ytjgmocmaeadjdaa.ResM Go.Proofs.Ytjgmocmaeadjdaa.SameR Go.Proofs.Ytjgmocmaeadjdaa.SamM Go.Proofs.Ytjgmocmaeadjdaa.SamF Go.Proofs.Ytjgmocmaeadjdaa.SamG Go.Proofs.Ytjgmocmaeadjdaa.SamH Go.Proofs.Ytjgmocmaeadjdaa.SamI Go.Proofs.Ytjgmocmaeadjdaa.SamJ

theorem same (h k : Hd) (A1 A1' : Option Addr) (n1 n1' c1 c1' : Nat) (l1 m1 : List Rec) (A2 A2' : Option Addr) (n2 n2' c2 c2' : Nat) (l2 m2 : List Rec) (A3 A3' : Option Addr) (n3 n3' c3 c3' : Nat) (l3 m3 : List Rec) (w : World) (e1 : Sr w w.heap.size A1 n1 l1) (g1 : Sr w w.heap.size A1' n1' m1) (b1 : n1 ≤ 400000000) (b1' : n1' ≤ 400000000) (e2 : Sr w w.heap.size A2 n2 l2) (g2 : Sr w w.heap.size A2' n2' m2) (b2 : n2 ≤ 400000000) (b2' : n2' ≤ 400000000) (e3 : Sr w w.heap.size A3 n3 l3) (g3 : Sr w w.heap.size A3' n3' m3) (b3 : n3 ≤ 400000000) (b3' : n3' ≤ 400000000) : Calls Try.prog 17 #[.agg #[.int .i64 h.id, .bool h.rp, .bool h.au, .bool h.ct, .bool h.wa, .bool h.ca, .int .i64 h.code, .string h.qn, .int .i64 h.qt, .slice A1 n1 c1, .slice A2 n2 c2, .slice A3 n3 c3], .agg #[.int .i64 k.id, .bool k.rp, .bool k.au, .bool k.ct, .bool k.wa, .bool k.ca, .int .i64 k.code, .string k.qn, .int .i64 k.qt, .slice A1' n1' c1', .slice A2' n2' c2', .slice A3' n3' c3']] w fun e w' => e = .returned (.bool (smm h k l1 l2 l3 m1 m2 m3)) ∧ Below w.heap.size w w' := by
  obtain ⟨ia, pa, qa, ra, sa, ta, da, nma, tya⟩ := h
  obtain ⟨ib, pb, qb, rb, sb, tb, db, nmb, tyb⟩ := k
  dsimp only
  by_cases ce0 : ia = ib
  case neg =>
    rw [smm_h (fun e => ce0 e.1)]
    exact lw_f0 ia pa qa ra sa ta da nma tya ib pb qb rb sb tb db nmb tyb A1 A1' n1 n1' c1 c1' A2 A2' n2 n2' c2 c2' A3 A3' n3 n3' c3 c3' w ce0
  obtain rfl := ce0
  by_cases ce1 : pa = pb
  case neg =>
    rw [smm_h (fun e => ce1 e.2.1)]
    exact lw_f1 ia pa qa ra sa ta da nma tya pb qb rb sb tb db nmb tyb A1 A1' n1 n1' c1 c1' A2 A2' n2 n2' c2 c2' A3 A3' n3 n3' c3 c3' w ce1
  obtain rfl := ce1
  by_cases ce2 : qa = qb
  case neg =>
    rw [smm_h (fun e => ce2 e.2.2.1)]
    exact lw_f2 ia pa qa ra sa ta da nma tya qb rb sb tb db nmb tyb A1 A1' n1 n1' c1 c1' A2 A2' n2 n2' c2 c2' A3 A3' n3 n3' c3 c3' w ce2
  obtain rfl := ce2
  by_cases ce3 : ra = rb
  case neg =>
    rw [smm_h (fun e => ce3 e.2.2.2.1)]
    exact lw_f3 ia pa qa ra sa ta da nma tya rb sb tb db nmb tyb A1 A1' n1 n1' c1 c1' A2 A2' n2 n2' c2 c2' A3 A3' n3 n3' c3 c3' w ce3
  obtain rfl := ce3
  by_cases ce4 : sa = sb
  case neg =>
    rw [smm_h (fun e => ce4 e.2.2.2.2.1)]
    exact lw_f4 ia pa qa ra sa ta da nma tya sb tb db nmb tyb A1 A1' n1 n1' c1 c1' A2 A2' n2 n2' c2 c2' A3 A3' n3 n3' c3 c3' w ce4
  obtain rfl := ce4
  by_cases ce5 : ta = tb
  case neg =>
    rw [smm_h (fun e => ce5 e.2.2.2.2.2.1)]
    exact lw_f5 ia pa qa ra sa ta da nma tya tb db nmb tyb A1 A1' n1 n1' c1 c1' A2 A2' n2 n2' c2 c2' A3 A3' n3 n3' c3 c3' w ce5
  obtain rfl := ce5
  by_cases ce6 : da = db
  case neg =>
    rw [smm_h (fun e => ce6 e.2.2.2.2.2.2)]
    exact lw_f6 ia pa qa ra sa ta da nma tya db nmb tyb A1 A1' n1 n1' c1 c1' A2 A2' n2 n2' c2 c2' A3 A3' n3 n3' c3 c3' w ce6
  obtain rfl := ce6
  by_cases cq : nma = nmb ∧ tya = tyb
  case neg =>
    rw [smm_q cq]
    exact lw_f7 ia pa qa ra sa ta da nma tya nmb tyb A1 A1' n1 n1' c1 c1' A2 A2' n2 n2' c2 c2' A3 A3' n3 n3' c3 c3' w cq
  obtain ⟨rfl, rfl⟩ := cq
  rw [smm_r]
  have C1 : ∀ W : World, Below w.heap.size w W → Calls Try.prog 10 #[.slice A1 n1 c1, .slice A1' n1' c1'] W fun e w' => e = .returned (.bool (sm l1 m1)) ∧ Below W.heap.size W w' := fun W hW => SameR.recs A1 A1' n1 c1 n1' c1' l1 m1 W (e1.on hW) (g1.on hW) b1 b1'
  have C2 : ∀ W : World, Below w.heap.size w W → Calls Try.prog 10 #[.slice A2 n2 c2, .slice A2' n2' c2'] W fun e w' => e = .returned (.bool (sm l2 m2)) ∧ Below W.heap.size W w' := fun W hW => SameR.recs A2 A2' n2 c2 n2' c2' l2 m2 W (e2.on hW) (g2.on hW) b2 b2'
  have C3 : ∀ W : World, Below w.heap.size w W → Calls Try.prog 10 #[.slice A3 n3 c3, .slice A3' n3' c3'] W fun e w' => e = .returned (.bool (sm l3 m3)) ∧ Below W.heap.size W w' := fun W hW => SameR.recs A3 A3' n3 c3 n3' c3' l3 m3 W (e3.on hW) (g3.on hW) b3 b3'
  generalize sm l1 m1 = u1 at *
  generalize sm l2 m2 = u2 at *
  generalize sm l3 m3 = u3 at *
  cases u1
  · exact lw_r1 ia pa qa ra sa ta da nma tya A1 A1' n1 n1' c1 c1' A2 A2' n2 n2' c2 c2' A3 A3' n3 n3' c3 c3' w C1
  cases u2
  · exact lw_r2 ia pa qa ra sa ta da nma tya A1 A1' n1 n1' c1 c1' A2 A2' n2 n2' c2 c2' A3 A3' n3 n3' c3 c3' w C1 C2
  · exact lw_r3 ia pa qa ra sa ta da nma tya A1 A1' n1 n1' c1 c1' A2 A2' n2 n2' c2 c2' A3 A3' n3 n3' c3 c3' w u3 C1 C2 C3
end Go.Proofs.Ytjgmocmaeadjdaa.SamL

/- What the law's own helpers eqByteS, markByteS and heldByteS do on slices of bytes. Condition: fewer than 400000001 bytes. -/
namespace Go.Proofs.Ytjgmocmaeadjdaa.Eq
open Go.RowKit Go.Proofs.Ytjgmocmaeadjdaa.Mem

theorem cast_ne {a b : UInt8} (h : a ≠ b) : ((a.toNat : Int) != (b.toNat : Int)) = true := by
  rw [bne_iff_ne]; intro e; exact h (UInt8.toNat_inj.1 (by omega))
theorem cast_eq {a b : UInt8} (h : a = b) : ((a.toNat : Int) != (b.toNat : Int)) = false := by subst h; simp

/-- Two lists that agree as far as k, and part at k. -/
theorem ne_at {l m : List UInt8} {k : Nat} (h : k < l.length) (h' : k < m.length) (hne : l[k] ≠ m[k]) : (l == m) = false := by
  rw [beq_eq_false_iff_ne]; rintro rfl; exact hne rfl
theorem eq_all {l m : List UInt8} (hl : l.length = m.length) (h : l.take l.length = m.take l.length) : (l == m) = true := by
  rw [List.take_length, hl, List.take_length] at h; simp [h]
theorem take_step {l m : List UInt8} {k : Nat} (hk : k < l.length) (hk' : k < m.length) (h : l.take k = m.take k) (he : l[k] = m[k]) : l.take (k + 1) = m.take (k + 1) := by
  rw [List.take_succ_eq_append_getElem hk, List.take_succ_eq_append_getElem hk', h, he]

/-- The numbers that markByteS lays: k, k + 1 and so on, as bytes. -/
def marks : Nat → Nat → List Value
  | _, 0 => []
  | k, n + 1 => Value.int .u8 ((k : Int) % 256) :: marks (k + 1) n
theorem marks_length (k n : Nat) : (marks k n).length = n := by
  induction n generalizing k with
  | zero => rfl
  | succ n ih => simp [marks, ih]
theorem marks_at (k n j : Nat) (h : j < n) : (marks k n)[j]? = some (Value.int .u8 (((k : Int) + (j : Int)) % 256)) := by
  induction n generalizing k j with
  | zero => omega
  | succ n ih =>
    cases j with
    | zero => simp [marks]
    | succ j => simp only [marks, List.getElem?_cons_succ]; rw [ih (k + 1) j (by omega)]; rw [show ((k + 1 : Nat) : Int) + (j : Int) = (k : Int) + ((j + 1 : Nat) : Int) by omega]
theorem marks_snoc (k n : Nat) : marks k (n + 1) = marks k n ++ [Value.int .u8 (((k : Int) + (n : Int)) % 256)] := by
  induction n generalizing k with
  | zero => simp [marks]
  | succ n ih => rw [marks, ih (k + 1), marks, List.cons_append, show ((k + 1 : Nat) : Int) + (n : Int) = (k : Int) + ((n + 1 : Nat) : Int) by omega]

theorem mark_step (cs : List Value) (k j n : Nat) (hj : j < n) (hn : n ≤ cs.length) :
    (marks k j ++ cs.drop j).set j (Value.int .u8 (((k : Int) + (j : Int)) % 256)) = marks k (j + 1) ++ cs.drop (j + 1) := by
  rw [List.set_append_right _ _ (by rw [marks_length]; omega), marks_length, Nat.sub_self, List.drop_eq_getElem_cons (by omega), List.set_cons_zero, marks_snoc, List.append_assoc]
  rfl
theorem mark_at (cs : List Value) (k j : Nat) (hj : j < cs.length) : (marks k j ++ cs.drop j)[j]? = some cs[j] := by
  rw [List.getElem?_append_right (by rw [marks_length]; omega), marks_length, Nat.sub_self, List.drop_eq_getElem_cons hj]
  rfl

theorem grown_set {w wr : World} {g : Nat} (h : w.grownBy wr (some g)) (j : Nat) (u : Value) : w.grownBy (wr.setCell ⟨g, j, none⟩ u) (some g) :=
  ⟨h.os, h.tape, h.output, by simpa [World.setCell] using h.size, fun k hk hne => by
    rw [Below.heap_setCell _ _ _ _ (fun e => hne (by simp [e]))]; exact h.block k hk hne⟩

theorem byte_ne_self (x : Int) : (x != x) = false := by simp

end Go.Proofs.Ytjgmocmaeadjdaa.Eq

/- What the laws' own comparison of two slices of bytes does. Condition: fewer than 400000001 bytes. -/
namespace Go.Proofs.Ytjgmocmaeadjdaa.Same
open Go.RowKit Go.Proofs.Ytjgmocmaeadjdaa.Mem Go.Proofs.Ytjgmocmaeadjdaa.Eq

theorem big_no (A : Option Addr) (n c : Nat) (w : World) (h : n ≤ 1048576) : Calls Try.prog 4 #[.slice A n c] w fun e w' => e = .returned (.bool false) ∧ w = w' := by
  have hd : decide ((1048576 : Int) < (n : Int)) = false := by simp; omega
  go_enter Try.func4, Try.ntmps4
  go_wp2
  go_ret
  exact ⟨rfl, rfl⟩
theorem big_yes (A : Option Addr) (n c : Nat) (w : World) (h : ¬ n ≤ 1048576) : Calls Try.prog 4 #[.slice A n c] w fun e w' => e = .returned (.bool true) ∧ w = w' := by
  have hd : decide ((1048576 : Int) < (n : Int)) = true := by simp; omega
  go_enter Try.func4, Try.ntmps4
  go_wp2
  go_ret
  exact ⟨rfl, rfl⟩
end Go.Proofs.Ytjgmocmaeadjdaa.Same

/- The law FnKinds returns true at every slice of bytes and turns nothing that was there: of drawn zones, right or not, each kind, each section and each reply is the model's; answers are where the kind is alias or set, and a cut has servers. -/
namespace Go.Proofs.Ytjgmocmaeadjdaa.LawKinds
open Go.RowKit Go.Proofs.Ytjgmocmaeadjdaa.Mem Go.Proofs.Ytjgmocmaeadjdaa.MemR Go.Proofs.Ytjgmocmaeadjdaa.MemS Go.Proofs.Ytjgmocmaeadjdaa.MemZ Go.Proofs.Ytjgmocmaeadjdaa.MemM Go.Proofs.Ytjgmocmaeadjdaa.BoxR Go.Proofs.Ytjgmocmaeadjdaa.ResM Go.Proofs.Ytjgmocmaeadjdaa.ResC Go.Proofs.Ytjgmocmaeadjdaa.SetMath Go.Proofs.Ytjgmocmaeadjdaa.NameMath Go.Proofs.Ytjgmocmaeadjdaa.ZoneMath Go.Proofs.Ytjgmocmaeadjdaa.ServeMath Go.Proofs.Ytjgmocmaeadjdaa.KnMath Go.Proofs.Ytjgmocmaeadjdaa.Wt Go.Proofs.Ytjgmocmaeadjdaa.AnsI Go.Proofs.Ytjgmocmaeadjdaa.Same Go.Proofs.Ytjgmocmaeadjdaa.ShoS Go.Proofs.Ytjgmocmaeadjdaa.RepM Go.Proofs.Ytjgmocmaeadjdaa.ServI Go.Proofs.Ytjgmocmaeadjdaa.KindT Go.Proofs.Ytjgmocmaeadjdaa.DrawR Go.Proofs.Ytjgmocmaeadjdaa.DrawPr Go.Proofs.Ytjgmocmaeadjdaa.DrawSm

section
variable {w0 w w' : World} {gz gk gy gm b o m cap b2 o2 m2 cap2 : Nat} {s nm s2 : ByteArray} {ty : Int} {hm : Hd}

theorem keptK (x : (((w.cell? ⟨gz, 0, none⟩ = some (.string s) ∧ w.cell? ⟨gz, 1, none⟩ = some (.slice (some ⟨b, o, none⟩) m cap)) ∧ (w.cell? ⟨gk, 0, none⟩ = some (.string nm) ∧ w.cell? ⟨gk, 1, none⟩ = some (.int .i64 ty))) ∧ ((w.cell? ⟨gy, 0, none⟩ = some (.string s2) ∧ w.cell? ⟨gy, 1, none⟩ = some (.slice (some ⟨b2, o2, none⟩) m2 cap2)) ∧ (w.cell? ⟨gm, 0, none⟩ = some (.int .i64 hm.id) ∧ w.cell? ⟨gm, 1, none⟩ = some (.bool hm.rp) ∧ w.cell? ⟨gm, 2, none⟩ = some (.bool hm.au) ∧ w.cell? ⟨gm, 3, none⟩ = some (.bool hm.ct) ∧ w.cell? ⟨gm, 4, none⟩ = some (.bool hm.wa) ∧ w.cell? ⟨gm, 5, none⟩ = some (.bool hm.ca) ∧ w.cell? ⟨gm, 6, none⟩ = some (.int .i64 hm.code) ∧ w.cell? ⟨gm, 7, none⟩ = some (.string hm.qn) ∧ w.cell? ⟨gm, 8, none⟩ = some (.int .i64 hm.qt) ∧ w.cell? ⟨gm, 9, none⟩ = some (.slice none 0 0) ∧ w.cell? ⟨gm, 10, none⟩ = some (.slice none 0 0) ∧ w.cell? ⟨gm, 11, none⟩ = some (.slice none 0 0)))) ∧ Svz w0 w) (hl : Below w.heap.size w w') : (((w'.cell? ⟨gz, 0, none⟩ = some (.string s) ∧ w'.cell? ⟨gz, 1, none⟩ = some (.slice (some ⟨b, o, none⟩) m cap)) ∧ (w'.cell? ⟨gk, 0, none⟩ = some (.string nm) ∧ w'.cell? ⟨gk, 1, none⟩ = some (.int .i64 ty))) ∧ ((w'.cell? ⟨gy, 0, none⟩ = some (.string s2) ∧ w'.cell? ⟨gy, 1, none⟩ = some (.slice (some ⟨b2, o2, none⟩) m2 cap2)) ∧ (w'.cell? ⟨gm, 0, none⟩ = some (.int .i64 hm.id) ∧ w'.cell? ⟨gm, 1, none⟩ = some (.bool hm.rp) ∧ w'.cell? ⟨gm, 2, none⟩ = some (.bool hm.au) ∧ w'.cell? ⟨gm, 3, none⟩ = some (.bool hm.ct) ∧ w'.cell? ⟨gm, 4, none⟩ = some (.bool hm.wa) ∧ w'.cell? ⟨gm, 5, none⟩ = some (.bool hm.ca) ∧ w'.cell? ⟨gm, 6, none⟩ = some (.int .i64 hm.code) ∧ w'.cell? ⟨gm, 7, none⟩ = some (.string hm.qn) ∧ w'.cell? ⟨gm, 8, none⟩ = some (.int .i64 hm.qt) ∧ w'.cell? ⟨gm, 9, none⟩ = some (.slice none 0 0) ∧ w'.cell? ⟨gm, 10, none⟩ = some (.slice none 0 0) ∧ w'.cell? ⟨gm, 11, none⟩ = some (.slice none 0 0)))) ∧ Svz w0 w' :=
  ⟨⟨⟨Zx.below x.1.1.1 hl, Qx.below x.1.1.2 hl⟩, Zx.below x.1.2.1 hl, Mx.below x.1.2.2 hl⟩, x.2.trans (hl.mono x.2.size)⟩

theorem keptK_draw (x : (((w.cell? ⟨gz, 0, none⟩ = some (.string s) ∧ w.cell? ⟨gz, 1, none⟩ = some (.slice (some ⟨b, o, none⟩) m cap)) ∧ (w.cell? ⟨gk, 0, none⟩ = some (.string nm) ∧ w.cell? ⟨gk, 1, none⟩ = some (.int .i64 ty))) ∧ ((w.cell? ⟨gy, 0, none⟩ = some (.string s2) ∧ w.cell? ⟨gy, 1, none⟩ = some (.slice (some ⟨b2, o2, none⟩) m2 cap2)) ∧ (w.cell? ⟨gm, 0, none⟩ = some (.int .i64 hm.id) ∧ w.cell? ⟨gm, 1, none⟩ = some (.bool hm.rp) ∧ w.cell? ⟨gm, 2, none⟩ = some (.bool hm.au) ∧ w.cell? ⟨gm, 3, none⟩ = some (.bool hm.ct) ∧ w.cell? ⟨gm, 4, none⟩ = some (.bool hm.wa) ∧ w.cell? ⟨gm, 5, none⟩ = some (.bool hm.ca) ∧ w.cell? ⟨gm, 6, none⟩ = some (.int .i64 hm.code) ∧ w.cell? ⟨gm, 7, none⟩ = some (.string hm.qn) ∧ w.cell? ⟨gm, 8, none⟩ = some (.int .i64 hm.qt) ∧ w.cell? ⟨gm, 9, none⟩ = some (.slice none 0 0) ∧ w.cell? ⟨gm, 10, none⟩ = some (.slice none 0 0) ∧ w.cell? ⟨gm, 11, none⟩ = some (.slice none 0 0)))) ∧ Svz w0 w) : (((w.drew.cell? ⟨gz, 0, none⟩ = some (.string s) ∧ w.drew.cell? ⟨gz, 1, none⟩ = some (.slice (some ⟨b, o, none⟩) m cap)) ∧ (w.drew.cell? ⟨gk, 0, none⟩ = some (.string nm) ∧ w.drew.cell? ⟨gk, 1, none⟩ = some (.int .i64 ty))) ∧ ((w.drew.cell? ⟨gy, 0, none⟩ = some (.string s2) ∧ w.drew.cell? ⟨gy, 1, none⟩ = some (.slice (some ⟨b2, o2, none⟩) m2 cap2)) ∧ (w.drew.cell? ⟨gm, 0, none⟩ = some (.int .i64 hm.id) ∧ w.drew.cell? ⟨gm, 1, none⟩ = some (.bool hm.rp) ∧ w.drew.cell? ⟨gm, 2, none⟩ = some (.bool hm.au) ∧ w.drew.cell? ⟨gm, 3, none⟩ = some (.bool hm.ct) ∧ w.drew.cell? ⟨gm, 4, none⟩ = some (.bool hm.wa) ∧ w.drew.cell? ⟨gm, 5, none⟩ = some (.bool hm.ca) ∧ w.drew.cell? ⟨gm, 6, none⟩ = some (.int .i64 hm.code) ∧ w.drew.cell? ⟨gm, 7, none⟩ = some (.string hm.qn) ∧ w.drew.cell? ⟨gm, 8, none⟩ = some (.int .i64 hm.qt) ∧ w.drew.cell? ⟨gm, 9, none⟩ = some (.slice none 0 0) ∧ w.drew.cell? ⟨gm, 10, none⟩ = some (.slice none 0 0) ∧ w.drew.cell? ⟨gm, 11, none⟩ = some (.slice none 0 0)))) ∧ Svz w0 w.drew := keptK x ((Below.refl _ _).drew)
end

theorem smm_self (h : Hd) (l1 l2 l3 : List Rec) : SamM.smm h h l1 l2 l3 l1 l2 l3 = true := by
  have key : ∀ l : List Rec, SameR.sm l l = true := fun l => SameR.sm_true rfl
  rw [SamM.smm_r, key, key, key]; rfl

set_option maxRecDepth 100000 in
set_option maxHeartbeats 8000000 in
theorem walk (A : Option Addr) (n c : Nat) (l : List UInt8) (w : World) (hs : Sl w w.heap.size A n l) (_hc : n ≤ c) (_hnil : A = none → n = 0 ∧ c = 0) :
    Calls Try.prog 3 #[.slice A n c] w fun e w' => e = .returned (.bool true) ∧ Below w.heap.size w w' := by
  by_cases hbig : n ≤ 1048576
  case neg =>
    go_enter Try.func3, Try.ntmps3
    go_wp2_with fail
    refine (big_yes A n c w hbig).mono ?_
    rintro e w1 ⟨rfl, rfl⟩
    go_wp2
    go_ret
    exact ⟨rfl, Below.refl _ _⟩
  have HS := Lib.hid hs
  clear hs
  go_enter Try.func3, Try.ntmps3
  go_wp2_with fail
  refine (big_no A n c w hbig).mono ?_
  rintro e w0 ⟨rfl, rfl⟩
  go_wp2_with fail
  refine (drawKindIn_any A n c l w HS.out hbig).mono ?_
  rintro e w1 ⟨s, b, o, m, cap, L, nm, ty, rfl, hs20, hn60, hm9, hsm, hsr, hl⟩
  have SM := Lib.hid hsm
  have S1 := Lib.hid hsr
  have L1 := Lib.hid hl
  clear hsm hsr hl
  have hz1 : (w1.alloc (.cells #[.string s, (.slice (some ⟨b, o, none⟩) m cap)] 26)).heap.size = w1.heap.size + 1 := by simp
  have X2 : Hid (Zx ((w1.alloc (.cells #[.string s, (.slice (some ⟨b, o, none⟩) m cap)] 26)).alloc (.cells #[.string nm, .int .i64 ty] 28)) w1.heap.size s (.slice (some ⟨b, o, none⟩) m cap)) := (zx_new w1 26 s (.slice (some ⟨b, o, none⟩) m cap)).alloc _
  have Q2 : Hid (Qx ((w1.alloc (.cells #[.string s, (.slice (some ⟨b, o, none⟩) m cap)] 26)).alloc (.cells #[.string nm, .int .i64 ty] 28)) (w1.heap.size + 1) nm ty) := by
    show Qx _ _ _ _
    rw [← hz1]
    exact qx_new _ _ _ _
  have B2 := Lib.hid (((Below.refl w1.heap.size w1).alloc (Nat.le_refl _) (.cells #[.string s, (.slice (some ⟨b, o, none⟩) m cap)] 26)).alloc (by simp) (.cells #[.string nm, .int .i64 ty] 28))
  clear hz1
  go_upto_region 4 with (fail)
  generalize (w1.alloc (.cells #[.string s, (.slice (some ⟨b, o, none⟩) m cap)] 26)).alloc (.cells #[.string nm, .int .i64 ty] 28) = w2 at *
  have L2 := Lib.hid (L1.out.trans (B2.out.mono L1.out.size))
  have S2 := Lib.hid (S1.out.on B2.out)
  clear L1 B2 S1
  generalize w1.heap.size + 1 = gk at *
  generalize w1.heap.size = gz at *
  go_wp2_with fail
  refine (drawServe_any A n c l w2 ((HS.out.below L2.out).wider L2.out.size) hbig).mono ?_
  rintro e w3 ⟨s2, b2, o2, m2, cap2, L2', hm, rfl, ht20, hq60, hm29, hsm, hsr, hl⟩
  have SM2 := Lib.hid hsm
  have T3 := Lib.hid hsr
  have S3 := Lib.hid (S2.out.on hl)
  have X3 := Lib.hid (X2.out.below hl)
  have Q3 := Lib.hid (Q2.out.below hl)
  have L3 := Lib.hid (L2.out.trans (hl.mono L2.out.size))
  clear hsm hsr hl S2 X2 Q2 L2
  have hz1 : (w3.alloc (.cells #[.string s2, (.slice (some ⟨b2, o2, none⟩) m2 cap2)] 26)).heap.size = w3.heap.size + 1 := by simp
  have B4 := Lib.hid (((Below.refl w3.heap.size w3).alloc (Nat.le_refl _) (.cells #[.string s2, (.slice (some ⟨b2, o2, none⟩) m2 cap2)] 26)).alloc (by simp) (.cells #[.int .i64 hm.id, .bool hm.rp, .bool hm.au, .bool hm.ct, .bool hm.wa, .bool hm.ca, .int .i64 hm.code, .string hm.qn, .int .i64 hm.qt, .slice none 0 0, .slice none 0 0, .slice none 0 0] 32))
  have Y4 : Hid (Zx ((w3.alloc (.cells #[.string s2, (.slice (some ⟨b2, o2, none⟩) m2 cap2)] 26)).alloc (.cells #[.int .i64 hm.id, .bool hm.rp, .bool hm.au, .bool hm.ct, .bool hm.wa, .bool hm.ca, .int .i64 hm.code, .string hm.qn, .int .i64 hm.qt, .slice none 0 0, .slice none 0 0, .slice none 0 0] 32)) w3.heap.size s2 (.slice (some ⟨b2, o2, none⟩) m2 cap2)) := (zx_new w3 26 s2 (.slice (some ⟨b2, o2, none⟩) m2 cap2)).alloc _
  have M4 : Hid (Mx ((w3.alloc (.cells #[.string s2, (.slice (some ⟨b2, o2, none⟩) m2 cap2)] 26)).alloc (.cells #[.int .i64 hm.id, .bool hm.rp, .bool hm.au, .bool hm.ct, .bool hm.wa, .bool hm.ca, .int .i64 hm.code, .string hm.qn, .int .i64 hm.qt, .slice none 0 0, .slice none 0 0, .slice none 0 0] 32)) (w3.heap.size + 1) hm (.slice none 0 0) (.slice none 0 0) (.slice none 0 0)) := by
    show Mx _ _ _ _ _ _
    rw [← hz1]
    exact mx_new _ _ _ _ _ _
  clear hz1
  go_upto_region 5 with (fail)
  generalize (w3.alloc (.cells #[.string s2, (.slice (some ⟨b2, o2, none⟩) m2 cap2)] 26)).alloc (.cells #[.int .i64 hm.id, .bool hm.rp, .bool hm.au, .bool hm.ct, .bool hm.wa, .bool hm.ca, .int .i64 hm.code, .string hm.qn, .int .i64 hm.qt, .slice none 0 0, .slice none 0 0, .slice none 0 0] 32) = w4 at *
  have L4 := Lib.hid (L3.out.trans (B4.out.mono L3.out.size))
  have S4 := Lib.hid (S3.out.on B4.out)
  have T4 := Lib.hid (T3.out.on B4.out)
  have X4 := Lib.hid (X3.out.below B4.out)
  have Q4 := Lib.hid (Q3.out.below B4.out)
  clear L3 B4 S3 T3 X3 Q3
  generalize w3.heap.size + 1 = gm at *
  generalize w3.heap.size = gy at *
  go_wp2_with fail
  refine (drawKindText_any A n c l w4 ((HS.out.below L4.out).wider L4.out.size) hbig).mono ?_
  rintro e w5 ⟨v, rfl, hl⟩
  have L5 := Lib.hid (L4.out.trans (hl.mono L4.out.size))
  have S5 := Lib.hid (S4.out.on hl)
  have T5 := Lib.hid (T4.out.on hl)
  have X5 := Lib.hid (X4.out.below hl)
  have Q5 := Lib.hid (Q4.out.below hl)
  have Y5 := Lib.hid (Y4.out.below hl)
  have M5 := Lib.hid (M4.out.below hl)
  clear hl L4 S4 T4 X4 Q4 Y4 M4 HS
  have hs400 : s.size ≤ 400000000 := by omega
  have hn400 : nm.size ≤ 400000000 := by omega
  have ht400 : s2.size ≤ 400000000 := by omega
  have hq400 : hm.qn.size ≤ 400000000 := by omega
  have HR : Hid (∀ r ∈ L, r.name.size ≤ 400000000) := fun r hr => by have := (SM.out r hr).1; omega
  have HR2 : Hid (∀ r ∈ L2', r.name.size ≤ 400000000) := fun r hr => by have := (SM2.out r hr).1; omega
  have KI : Hid (∀ W : World, Below w5.heap.size w5 W → Calls Try.prog 8 #[.agg #[.string s, .slice (some ⟨b, o, none⟩) m cap], .agg #[.string nm, .int .i64 ty]] W fun e w' => e = .returned (.int .i64 (kd s nm ty L)) ∧ Below W.heap.size W w') := fun W hW => KindI.impl s nm ty b o m cap L W (S5.out.on hW) (by omega) hs400 hn400 HR.out
  have KS : Hid (∀ W : World, Below w5.heap.size w5 W → Calls Try.prog 9 #[.agg #[.string s, .slice (some ⟨b, o, none⟩) m cap], .agg #[.string nm, .int .i64 ty]] W fun e w' => e = .returned (.int .i64 (kd s nm ty L)) ∧ Below W.heap.size W w') := fun W hW => KindS.spec s nm ty b o m cap L W (S5.out.on hW) (by omega) hs400 hn400 HR.out
  have AI : Hid (∀ W : World, Below w5.heap.size w5 W → Calls Try.prog 11 #[.agg #[.string s, .slice (some ⟨b, o, none⟩) m cap], .agg #[.string nm, .int .i64 ty]] W (GivesN W (anl (kd s nm ty L) nm ty L))) := fun W hW => AnsI.answerIn s nm ty b o m cap L W (S5.out.on hW) (by omega) hs400 hn400 HR.out
  have AS : Hid (∀ W : World, Below w5.heap.size w5 W → Calls Try.prog 12 #[.agg #[.string s, .slice (some ⟨b, o, none⟩) m cap], .agg #[.string nm, .int .i64 ty]] W (GivesL W (anl (kd s nm ty L) nm ty L))) := fun W hW => AnsS.spec s nm ty b o m cap L W (S5.out.on hW) (by omega) hs400 hn400 HR.out
  have MI : Hid (∀ W : World, Below w5.heap.size w5 W → Calls Try.prog 13 #[.agg #[.string s, .slice (some ⟨b, o, none⟩) m cap], .agg #[.string nm, .int .i64 ty]] W (GivesN W (mol (kd s nm ty L) s nm L))) := fun W hW => AnsI.moreIn s nm ty b o m cap L W (S5.out.on hW) (by omega) hs400 hn400 HR.out
  have MS : Hid (∀ W : World, Below w5.heap.size w5 W → Calls Try.prog 14 #[.agg #[.string s, .slice (some ⟨b, o, none⟩) m cap], .agg #[.string nm, .int .i64 ty]] W (GivesL W (mol (kd s nm ty L) s nm L))) := fun W hW => MorS.spec s nm ty b o m cap L W (S5.out.on hW) (by omega) hs400 hn400 HR.out
  have HI : Hid (∀ W : World, Below w5.heap.size w5 W → Calls Try.prog 15 #[.agg #[.string s, .slice (some ⟨b, o, none⟩) m cap], .agg #[.string nm, .int .i64 ty]] W (GivesN W (hel (kd s nm ty L) s nm L))) := fun W hW => AnsI.helpIn s nm ty b o m cap L W (S5.out.on hW) (by omega) hs400 hn400 HR.out
  have HP : Hid (∀ W : World, Below w5.heap.size w5 W → Calls Try.prog 16 #[.agg #[.string s, .slice (some ⟨b, o, none⟩) m cap], .agg #[.string nm, .int .i64 ty]] W (GivesL W (hel (kd s nm ty L) s nm L))) := fun W hW => HlpS.spec s nm ty b o m cap L W (S5.out.on hW) (by omega) hs400 hn400 HR.out
  have SI : Hid (∀ W : World, Below w5.heap.size w5 W → Calls Try.prog 18 #[.agg #[.string s2, .slice (some ⟨b2, o2, none⟩) m2 cap2], .agg #[.int .i64 hm.id, .bool hm.rp, .bool hm.au, .bool hm.ct, .bool hm.wa, .bool hm.ca, .int .i64 hm.code, .string hm.qn, .int .i64 hm.qt, .slice none 0 0, .slice none 0 0, .slice none 0 0]] W (GivesS8 W hm (kd s2 hm.qn hm.qt L2') (anl (kd s2 hm.qn hm.qt L2') hm.qn hm.qt L2') (mol (kd s2 hm.qn hm.qt L2') s2 hm.qn L2') (hel (kd s2 hm.qn hm.qt L2') s2 hm.qn L2'))) := fun W hW => ServI.impl s2 b2 o2 m2 cap2 L2' hm none none none 0 0 0 0 0 0 W (T5.out.on hW) (by omega) ht400 hq400 HR2.out
  have SS : Hid (∀ W : World, Below w5.heap.size w5 W → Calls Try.prog 19 #[.agg #[.string s2, .slice (some ⟨b2, o2, none⟩) m2 cap2], .agg #[.int .i64 hm.id, .bool hm.rp, .bool hm.au, .bool hm.ct, .bool hm.wa, .bool hm.ca, .int .i64 hm.code, .string hm.qn, .int .i64 hm.qt, .slice none 0 0, .slice none 0 0, .slice none 0 0]] W (GivesS8 W hm (kd s2 hm.qn hm.qt L2') (anl (kd s2 hm.qn hm.qt L2') hm.qn hm.qt L2') (mol (kd s2 hm.qn hm.qt L2') s2 hm.qn L2') (hel (kd s2 hm.qn hm.qt L2') s2 hm.qn L2'))) := fun W hW => ServS.spec s2 b2 o2 m2 cap2 L2' hm none none none 0 0 0 0 0 0 W (T5.out.on hW) (by omega) ht400 hq400 HR2.out
  have TI : Hid (∀ W : World, Calls Try.prog 20 #[.int .i64 v] W fun e w' => e = .returned (.string (kt v)) ∧ Below W.heap.size W w') := fun W => KindT.impl v W
  have TS : Hid (∀ W : World, Calls Try.prog 21 #[.int .i64 v] W fun e w' => e = .returned (.string (kt v)) ∧ Below W.heap.size W w') := fun W => KindT.spec v W
  generalize kt v = tx at *
  have PA := Lib.hid (anl_pos s nm ty L)
  have PM := Lib.hid (mol_pos s nm ty L)
  have K6 := Lib.hid (kd_six s nm ty L)
  have LNja : Hid ((anl (kd s nm ty L) nm ty L).length ≤ 100) := Nat.le_trans (anl_len _ _ _ _) (by have := S5.out.1; omega)
  have LNjm : Hid ((mol (kd s nm ty L) s nm L).length ≤ 100) := Nat.le_trans (mol_len _ _ _ _) (by have := S5.out.1; omega)
  have LNjh : Hid ((hel (kd s nm ty L) s nm L).length ≤ 100) := Nat.le_trans (hel_len _ _ _ _) (by rw [S5.out.1]; exact Nat.le_trans (Nat.mul_le_mul hm9 hm9) (by decide))
  generalize kd s nm ty L = k at *
  generalize anl k nm ty L = ja at *
  generalize mol k s nm L = jm at *
  generalize hel k s nm L = jh at *
  unfold GivesS8 at SI SS
  generalize kd s2 hm.qn hm.qt L2' = kk at *
  generalize rph hm (rcd kk) (aut kk) = H at *
  have D1 := Lib.hid (m8_len (anl kk hm.qn hm.qt L2') rfl)
  have le1 := (m8_le (anl kk hm.qn hm.qt L2').length).1
  generalize m8 (anl kk hm.qn hm.qt L2').length = k1 at *
  generalize (anl kk hm.qn hm.qt L2').take 8 = j1 at *
  have D2 := Lib.hid (m8_len (mol kk s2 hm.qn L2') rfl)
  have le2 := (m8_le (mol kk s2 hm.qn L2').length).1
  generalize m8 (mol kk s2 hm.qn L2').length = k2 at *
  generalize (mol kk s2 hm.qn L2').take 8 = j2 at *
  have D3 := Lib.hid (m8_len (hel kk s2 hm.qn L2') rfl)
  have le3 := (m8_le (hel kk s2 hm.qn L2').length).1
  generalize m8 (hel kk s2 hm.qn L2').length = k3 at *
  generalize (hel kk s2 hm.qn L2').take 8 = j3 at *
  have RA : Hid (∀ (W : World) (B : Nat) (A : Option Addr) (m c g m' c' : Nat) (r : List Value), Sec B W A m c ja → ja.length = m' → Bk W g 56 (fl ja ++ r) → Calls Try.prog 10 #[.slice A m c, .slice (some ⟨g, 0, none⟩) m' c'] W fun e w' => e = .returned (.bool true) ∧ Below W.heap.size W w') := fun W B A m c g m' c' r h1 h2 h3 => (SameR.sm_true (rfl : ja = ja)) ▸ SameR.recs A (some ⟨g, 0, none⟩) m c m' c' ja ja W h1.sr (bk_sr h3 h2) (by have := h1.len; have := LNja.out; omega) (by have := LNja.out; omega)
  have RM : Hid (∀ (W : World) (B : Nat) (A : Option Addr) (m c g m' c' : Nat) (r : List Value), Sec B W A m c jm → jm.length = m' → Bk W g 56 (fl jm ++ r) → Calls Try.prog 10 #[.slice A m c, .slice (some ⟨g, 0, none⟩) m' c'] W fun e w' => e = .returned (.bool true) ∧ Below W.heap.size W w') := fun W B A m c g m' c' r h1 h2 h3 => (SameR.sm_true (rfl : jm = jm)) ▸ SameR.recs A (some ⟨g, 0, none⟩) m c m' c' jm jm W h1.sr (bk_sr h3 h2) (by have := h1.len; have := LNjm.out; omega) (by have := LNjm.out; omega)
  have RH : Hid (∀ (W : World) (B : Nat) (A : Option Addr) (m c g m' c' : Nat) (r : List Value), Sec B W A m c jh → jh.length = m' → Bk W g 56 (fl jh ++ r) → Calls Try.prog 10 #[.slice A m c, .slice (some ⟨g, 0, none⟩) m' c'] W fun e w' => e = .returned (.bool true) ∧ Below W.heap.size W w') := fun W B A m c g m' c' r h1 h2 h3 => (SameR.sm_true (rfl : jh = jh)) ▸ SameR.recs A (some ⟨g, 0, none⟩) m c m' c' jh jh W h1.sr (bk_sr h3 h2) (by have := h1.len; have := LNjh.out; omega) (by have := LNjh.out; omega)
  have SMR : Hid (∀ (W : World) (g1 u1 : Nat) (r1 : List Value) (g2 u2 : Nat) (r2 : List Value) (g3 u3 : Nat) (r3 : List Value) (t1 f1 : Nat) (q1 : List Value) (t2 f2 : Nat) (q2 : List Value) (t3 f3 : Nat) (q3 : List Value), Bk W g1 56 (fl j1 ++ r1) → Bk W g2 56 (fl j2 ++ r2) → Bk W g3 56 (fl j3 ++ r3) → Bk W t1 56 (fl j1 ++ q1) → Bk W t2 56 (fl j2 ++ q2) → Bk W t3 56 (fl j3 ++ q3) → Calls Try.prog 17 #[.agg #[.int .i64 H.id, .bool H.rp, .bool H.au, .bool H.ct, .bool H.wa, .bool H.ca, .int .i64 H.code, .string H.qn, .int .i64 H.qt, .slice (some ⟨g1, 0, none⟩) k1 u1, .slice (some ⟨g2, 0, none⟩) k2 u2, .slice (some ⟨g3, 0, none⟩) k3 u3], .agg #[.int .i64 H.id, .bool H.rp, .bool H.au, .bool H.ct, .bool H.wa, .bool H.ca, .int .i64 H.code, .string H.qn, .int .i64 H.qt, .slice (some ⟨t1, 0, none⟩) k1 f1, .slice (some ⟨t2, 0, none⟩) k2 f2, .slice (some ⟨t3, 0, none⟩) k3 f3]] W fun e w' => e = .returned (.bool true) ∧ Below W.heap.size W w') := fun W g1 u1 r1 g2 u2 r2 g3 u3 r3 t1 f1 q1 t2 f2 q2 t3 f3 q3 d1 d2 d3 e1 e2 e3 => (smm_self H j1 j2 j3) ▸ SamL.same H H _ _ k1 k1 u1 f1 j1 j1 _ _ k2 k2 u2 f2 j2 j2 _ _ k3 k3 u3 f3 j3 j3 W (bk_sr d1 D1.out) (bk_sr e1 D1.out) (by omega) (by omega) (bk_sr d2 D2.out) (bk_sr e2 D2.out) (by omega) (by omega) (bk_sr d3 D3.out) (bk_sr e3 D3.out) (by omega) (by omega)
  clear S5 T5 HR HR2 SM SM2
  obtain ⟨z0, z1⟩ := X5.out
  obtain ⟨q0, q1⟩ := Q5.out
  go_wp2_with fail
  refine (KI.out _ (Below.refl _ _)).mono ?_
  rintro e w6 ⟨rfl, hl⟩
  have SS0 : (((w6.cell? ⟨gz, 0, none⟩ = some (.string s) ∧ w6.cell? ⟨gz, 1, none⟩ = some (.slice (some ⟨b, o, none⟩) m cap)) ∧ (w6.cell? ⟨gk, 0, none⟩ = some (.string nm) ∧ w6.cell? ⟨gk, 1, none⟩ = some (.int .i64 ty))) ∧ ((w6.cell? ⟨gy, 0, none⟩ = some (.string s2) ∧ w6.cell? ⟨gy, 1, none⟩ = some (.slice (some ⟨b2, o2, none⟩) m2 cap2)) ∧ (w6.cell? ⟨gm, 0, none⟩ = some (.int .i64 hm.id) ∧ w6.cell? ⟨gm, 1, none⟩ = some (.bool hm.rp) ∧ w6.cell? ⟨gm, 2, none⟩ = some (.bool hm.au) ∧ w6.cell? ⟨gm, 3, none⟩ = some (.bool hm.ct) ∧ w6.cell? ⟨gm, 4, none⟩ = some (.bool hm.wa) ∧ w6.cell? ⟨gm, 5, none⟩ = some (.bool hm.ca) ∧ w6.cell? ⟨gm, 6, none⟩ = some (.int .i64 hm.code) ∧ w6.cell? ⟨gm, 7, none⟩ = some (.string hm.qn) ∧ w6.cell? ⟨gm, 8, none⟩ = some (.int .i64 hm.qt) ∧ w6.cell? ⟨gm, 9, none⟩ = some (.slice none 0 0) ∧ w6.cell? ⟨gm, 10, none⟩ = some (.slice none 0 0) ∧ w6.cell? ⟨gm, 11, none⟩ = some (.slice none 0 0)))) ∧ Svz w5 w6 := ⟨⟨⟨X5.out.below hl, Q5.out.below hl⟩, Y5.out.below hl, M5.out.below hl⟩, hl⟩
  clear hl z0 z1 q0 q1 X5 Q5 Y5 M5 KI
  have KSR : Hid (∀ W : World, (((W.cell? ⟨gz, 0, none⟩ = some (.string s) ∧ W.cell? ⟨gz, 1, none⟩ = some (.slice (some ⟨b, o, none⟩) m cap)) ∧ (W.cell? ⟨gk, 0, none⟩ = some (.string nm) ∧ W.cell? ⟨gk, 1, none⟩ = some (.int .i64 ty))) ∧ ((W.cell? ⟨gy, 0, none⟩ = some (.string s2) ∧ W.cell? ⟨gy, 1, none⟩ = some (.slice (some ⟨b2, o2, none⟩) m2 cap2)) ∧ (W.cell? ⟨gm, 0, none⟩ = some (.int .i64 hm.id) ∧ W.cell? ⟨gm, 1, none⟩ = some (.bool hm.rp) ∧ W.cell? ⟨gm, 2, none⟩ = some (.bool hm.au) ∧ W.cell? ⟨gm, 3, none⟩ = some (.bool hm.ct) ∧ W.cell? ⟨gm, 4, none⟩ = some (.bool hm.wa) ∧ W.cell? ⟨gm, 5, none⟩ = some (.bool hm.ca) ∧ W.cell? ⟨gm, 6, none⟩ = some (.int .i64 hm.code) ∧ W.cell? ⟨gm, 7, none⟩ = some (.string hm.qn) ∧ W.cell? ⟨gm, 8, none⟩ = some (.int .i64 hm.qt) ∧ W.cell? ⟨gm, 9, none⟩ = some (.slice none 0 0) ∧ W.cell? ⟨gm, 10, none⟩ = some (.slice none 0 0) ∧ W.cell? ⟨gm, 11, none⟩ = some (.slice none 0 0)))) ∧ Svz w5 W → Calls Try.prog 9 #[.agg #[.string s, .slice (some ⟨b, o, none⟩) m cap], .agg #[.string nm, .int .i64 ty]] W fun e w' => e = .returned (.int .i64 k) ∧ Below W.heap.size W w') := fun W hW => KS.out W hW.2
  have AIR : Hid (∀ W : World, (((W.cell? ⟨gz, 0, none⟩ = some (.string s) ∧ W.cell? ⟨gz, 1, none⟩ = some (.slice (some ⟨b, o, none⟩) m cap)) ∧ (W.cell? ⟨gk, 0, none⟩ = some (.string nm) ∧ W.cell? ⟨gk, 1, none⟩ = some (.int .i64 ty))) ∧ ((W.cell? ⟨gy, 0, none⟩ = some (.string s2) ∧ W.cell? ⟨gy, 1, none⟩ = some (.slice (some ⟨b2, o2, none⟩) m2 cap2)) ∧ (W.cell? ⟨gm, 0, none⟩ = some (.int .i64 hm.id) ∧ W.cell? ⟨gm, 1, none⟩ = some (.bool hm.rp) ∧ W.cell? ⟨gm, 2, none⟩ = some (.bool hm.au) ∧ W.cell? ⟨gm, 3, none⟩ = some (.bool hm.ct) ∧ W.cell? ⟨gm, 4, none⟩ = some (.bool hm.wa) ∧ W.cell? ⟨gm, 5, none⟩ = some (.bool hm.ca) ∧ W.cell? ⟨gm, 6, none⟩ = some (.int .i64 hm.code) ∧ W.cell? ⟨gm, 7, none⟩ = some (.string hm.qn) ∧ W.cell? ⟨gm, 8, none⟩ = some (.int .i64 hm.qt) ∧ W.cell? ⟨gm, 9, none⟩ = some (.slice none 0 0) ∧ W.cell? ⟨gm, 10, none⟩ = some (.slice none 0 0) ∧ W.cell? ⟨gm, 11, none⟩ = some (.slice none 0 0)))) ∧ Svz w5 W → Calls Try.prog 11 #[.agg #[.string s, .slice (some ⟨b, o, none⟩) m cap], .agg #[.string nm, .int .i64 ty]] W (GivesN W ja)) := fun W hW => AI.out W hW.2
  have ASR : Hid (∀ W : World, (((W.cell? ⟨gz, 0, none⟩ = some (.string s) ∧ W.cell? ⟨gz, 1, none⟩ = some (.slice (some ⟨b, o, none⟩) m cap)) ∧ (W.cell? ⟨gk, 0, none⟩ = some (.string nm) ∧ W.cell? ⟨gk, 1, none⟩ = some (.int .i64 ty))) ∧ ((W.cell? ⟨gy, 0, none⟩ = some (.string s2) ∧ W.cell? ⟨gy, 1, none⟩ = some (.slice (some ⟨b2, o2, none⟩) m2 cap2)) ∧ (W.cell? ⟨gm, 0, none⟩ = some (.int .i64 hm.id) ∧ W.cell? ⟨gm, 1, none⟩ = some (.bool hm.rp) ∧ W.cell? ⟨gm, 2, none⟩ = some (.bool hm.au) ∧ W.cell? ⟨gm, 3, none⟩ = some (.bool hm.ct) ∧ W.cell? ⟨gm, 4, none⟩ = some (.bool hm.wa) ∧ W.cell? ⟨gm, 5, none⟩ = some (.bool hm.ca) ∧ W.cell? ⟨gm, 6, none⟩ = some (.int .i64 hm.code) ∧ W.cell? ⟨gm, 7, none⟩ = some (.string hm.qn) ∧ W.cell? ⟨gm, 8, none⟩ = some (.int .i64 hm.qt) ∧ W.cell? ⟨gm, 9, none⟩ = some (.slice none 0 0) ∧ W.cell? ⟨gm, 10, none⟩ = some (.slice none 0 0) ∧ W.cell? ⟨gm, 11, none⟩ = some (.slice none 0 0)))) ∧ Svz w5 W → Calls Try.prog 12 #[.agg #[.string s, .slice (some ⟨b, o, none⟩) m cap], .agg #[.string nm, .int .i64 ty]] W (GivesL W ja)) := fun W hW => AS.out W hW.2
  have MIR : Hid (∀ W : World, (((W.cell? ⟨gz, 0, none⟩ = some (.string s) ∧ W.cell? ⟨gz, 1, none⟩ = some (.slice (some ⟨b, o, none⟩) m cap)) ∧ (W.cell? ⟨gk, 0, none⟩ = some (.string nm) ∧ W.cell? ⟨gk, 1, none⟩ = some (.int .i64 ty))) ∧ ((W.cell? ⟨gy, 0, none⟩ = some (.string s2) ∧ W.cell? ⟨gy, 1, none⟩ = some (.slice (some ⟨b2, o2, none⟩) m2 cap2)) ∧ (W.cell? ⟨gm, 0, none⟩ = some (.int .i64 hm.id) ∧ W.cell? ⟨gm, 1, none⟩ = some (.bool hm.rp) ∧ W.cell? ⟨gm, 2, none⟩ = some (.bool hm.au) ∧ W.cell? ⟨gm, 3, none⟩ = some (.bool hm.ct) ∧ W.cell? ⟨gm, 4, none⟩ = some (.bool hm.wa) ∧ W.cell? ⟨gm, 5, none⟩ = some (.bool hm.ca) ∧ W.cell? ⟨gm, 6, none⟩ = some (.int .i64 hm.code) ∧ W.cell? ⟨gm, 7, none⟩ = some (.string hm.qn) ∧ W.cell? ⟨gm, 8, none⟩ = some (.int .i64 hm.qt) ∧ W.cell? ⟨gm, 9, none⟩ = some (.slice none 0 0) ∧ W.cell? ⟨gm, 10, none⟩ = some (.slice none 0 0) ∧ W.cell? ⟨gm, 11, none⟩ = some (.slice none 0 0)))) ∧ Svz w5 W → Calls Try.prog 13 #[.agg #[.string s, .slice (some ⟨b, o, none⟩) m cap], .agg #[.string nm, .int .i64 ty]] W (GivesN W jm)) := fun W hW => MI.out W hW.2
  have MSR : Hid (∀ W : World, (((W.cell? ⟨gz, 0, none⟩ = some (.string s) ∧ W.cell? ⟨gz, 1, none⟩ = some (.slice (some ⟨b, o, none⟩) m cap)) ∧ (W.cell? ⟨gk, 0, none⟩ = some (.string nm) ∧ W.cell? ⟨gk, 1, none⟩ = some (.int .i64 ty))) ∧ ((W.cell? ⟨gy, 0, none⟩ = some (.string s2) ∧ W.cell? ⟨gy, 1, none⟩ = some (.slice (some ⟨b2, o2, none⟩) m2 cap2)) ∧ (W.cell? ⟨gm, 0, none⟩ = some (.int .i64 hm.id) ∧ W.cell? ⟨gm, 1, none⟩ = some (.bool hm.rp) ∧ W.cell? ⟨gm, 2, none⟩ = some (.bool hm.au) ∧ W.cell? ⟨gm, 3, none⟩ = some (.bool hm.ct) ∧ W.cell? ⟨gm, 4, none⟩ = some (.bool hm.wa) ∧ W.cell? ⟨gm, 5, none⟩ = some (.bool hm.ca) ∧ W.cell? ⟨gm, 6, none⟩ = some (.int .i64 hm.code) ∧ W.cell? ⟨gm, 7, none⟩ = some (.string hm.qn) ∧ W.cell? ⟨gm, 8, none⟩ = some (.int .i64 hm.qt) ∧ W.cell? ⟨gm, 9, none⟩ = some (.slice none 0 0) ∧ W.cell? ⟨gm, 10, none⟩ = some (.slice none 0 0) ∧ W.cell? ⟨gm, 11, none⟩ = some (.slice none 0 0)))) ∧ Svz w5 W → Calls Try.prog 14 #[.agg #[.string s, .slice (some ⟨b, o, none⟩) m cap], .agg #[.string nm, .int .i64 ty]] W (GivesL W jm)) := fun W hW => MS.out W hW.2
  have HIR : Hid (∀ W : World, (((W.cell? ⟨gz, 0, none⟩ = some (.string s) ∧ W.cell? ⟨gz, 1, none⟩ = some (.slice (some ⟨b, o, none⟩) m cap)) ∧ (W.cell? ⟨gk, 0, none⟩ = some (.string nm) ∧ W.cell? ⟨gk, 1, none⟩ = some (.int .i64 ty))) ∧ ((W.cell? ⟨gy, 0, none⟩ = some (.string s2) ∧ W.cell? ⟨gy, 1, none⟩ = some (.slice (some ⟨b2, o2, none⟩) m2 cap2)) ∧ (W.cell? ⟨gm, 0, none⟩ = some (.int .i64 hm.id) ∧ W.cell? ⟨gm, 1, none⟩ = some (.bool hm.rp) ∧ W.cell? ⟨gm, 2, none⟩ = some (.bool hm.au) ∧ W.cell? ⟨gm, 3, none⟩ = some (.bool hm.ct) ∧ W.cell? ⟨gm, 4, none⟩ = some (.bool hm.wa) ∧ W.cell? ⟨gm, 5, none⟩ = some (.bool hm.ca) ∧ W.cell? ⟨gm, 6, none⟩ = some (.int .i64 hm.code) ∧ W.cell? ⟨gm, 7, none⟩ = some (.string hm.qn) ∧ W.cell? ⟨gm, 8, none⟩ = some (.int .i64 hm.qt) ∧ W.cell? ⟨gm, 9, none⟩ = some (.slice none 0 0) ∧ W.cell? ⟨gm, 10, none⟩ = some (.slice none 0 0) ∧ W.cell? ⟨gm, 11, none⟩ = some (.slice none 0 0)))) ∧ Svz w5 W → Calls Try.prog 15 #[.agg #[.string s, .slice (some ⟨b, o, none⟩) m cap], .agg #[.string nm, .int .i64 ty]] W (GivesN W jh)) := fun W hW => HI.out W hW.2
  have HPR : Hid (∀ W : World, (((W.cell? ⟨gz, 0, none⟩ = some (.string s) ∧ W.cell? ⟨gz, 1, none⟩ = some (.slice (some ⟨b, o, none⟩) m cap)) ∧ (W.cell? ⟨gk, 0, none⟩ = some (.string nm) ∧ W.cell? ⟨gk, 1, none⟩ = some (.int .i64 ty))) ∧ ((W.cell? ⟨gy, 0, none⟩ = some (.string s2) ∧ W.cell? ⟨gy, 1, none⟩ = some (.slice (some ⟨b2, o2, none⟩) m2 cap2)) ∧ (W.cell? ⟨gm, 0, none⟩ = some (.int .i64 hm.id) ∧ W.cell? ⟨gm, 1, none⟩ = some (.bool hm.rp) ∧ W.cell? ⟨gm, 2, none⟩ = some (.bool hm.au) ∧ W.cell? ⟨gm, 3, none⟩ = some (.bool hm.ct) ∧ W.cell? ⟨gm, 4, none⟩ = some (.bool hm.wa) ∧ W.cell? ⟨gm, 5, none⟩ = some (.bool hm.ca) ∧ W.cell? ⟨gm, 6, none⟩ = some (.int .i64 hm.code) ∧ W.cell? ⟨gm, 7, none⟩ = some (.string hm.qn) ∧ W.cell? ⟨gm, 8, none⟩ = some (.int .i64 hm.qt) ∧ W.cell? ⟨gm, 9, none⟩ = some (.slice none 0 0) ∧ W.cell? ⟨gm, 10, none⟩ = some (.slice none 0 0) ∧ W.cell? ⟨gm, 11, none⟩ = some (.slice none 0 0)))) ∧ Svz w5 W → Calls Try.prog 16 #[.agg #[.string s, .slice (some ⟨b, o, none⟩) m cap], .agg #[.string nm, .int .i64 ty]] W (GivesL W jh)) := fun W hW => HP.out W hW.2
  have SIR : Hid (∀ W : World, (((W.cell? ⟨gz, 0, none⟩ = some (.string s) ∧ W.cell? ⟨gz, 1, none⟩ = some (.slice (some ⟨b, o, none⟩) m cap)) ∧ (W.cell? ⟨gk, 0, none⟩ = some (.string nm) ∧ W.cell? ⟨gk, 1, none⟩ = some (.int .i64 ty))) ∧ ((W.cell? ⟨gy, 0, none⟩ = some (.string s2) ∧ W.cell? ⟨gy, 1, none⟩ = some (.slice (some ⟨b2, o2, none⟩) m2 cap2)) ∧ (W.cell? ⟨gm, 0, none⟩ = some (.int .i64 hm.id) ∧ W.cell? ⟨gm, 1, none⟩ = some (.bool hm.rp) ∧ W.cell? ⟨gm, 2, none⟩ = some (.bool hm.au) ∧ W.cell? ⟨gm, 3, none⟩ = some (.bool hm.ct) ∧ W.cell? ⟨gm, 4, none⟩ = some (.bool hm.wa) ∧ W.cell? ⟨gm, 5, none⟩ = some (.bool hm.ca) ∧ W.cell? ⟨gm, 6, none⟩ = some (.int .i64 hm.code) ∧ W.cell? ⟨gm, 7, none⟩ = some (.string hm.qn) ∧ W.cell? ⟨gm, 8, none⟩ = some (.int .i64 hm.qt) ∧ W.cell? ⟨gm, 9, none⟩ = some (.slice none 0 0) ∧ W.cell? ⟨gm, 10, none⟩ = some (.slice none 0 0) ∧ W.cell? ⟨gm, 11, none⟩ = some (.slice none 0 0)))) ∧ Svz w5 W → Calls Try.prog 18 #[.agg #[.string s2, .slice (some ⟨b2, o2, none⟩) m2 cap2], .agg #[.int .i64 hm.id, .bool hm.rp, .bool hm.au, .bool hm.ct, .bool hm.wa, .bool hm.ca, .int .i64 hm.code, .string hm.qn, .int .i64 hm.qt, .slice none 0 0, .slice none 0 0, .slice none 0 0]] W (GivesM W H k1 k2 k3 j1 j2 j3)) := fun W hW => SI.out W hW.2
  have SSR : Hid (∀ W : World, (((W.cell? ⟨gz, 0, none⟩ = some (.string s) ∧ W.cell? ⟨gz, 1, none⟩ = some (.slice (some ⟨b, o, none⟩) m cap)) ∧ (W.cell? ⟨gk, 0, none⟩ = some (.string nm) ∧ W.cell? ⟨gk, 1, none⟩ = some (.int .i64 ty))) ∧ ((W.cell? ⟨gy, 0, none⟩ = some (.string s2) ∧ W.cell? ⟨gy, 1, none⟩ = some (.slice (some ⟨b2, o2, none⟩) m2 cap2)) ∧ (W.cell? ⟨gm, 0, none⟩ = some (.int .i64 hm.id) ∧ W.cell? ⟨gm, 1, none⟩ = some (.bool hm.rp) ∧ W.cell? ⟨gm, 2, none⟩ = some (.bool hm.au) ∧ W.cell? ⟨gm, 3, none⟩ = some (.bool hm.ct) ∧ W.cell? ⟨gm, 4, none⟩ = some (.bool hm.wa) ∧ W.cell? ⟨gm, 5, none⟩ = some (.bool hm.ca) ∧ W.cell? ⟨gm, 6, none⟩ = some (.int .i64 hm.code) ∧ W.cell? ⟨gm, 7, none⟩ = some (.string hm.qn) ∧ W.cell? ⟨gm, 8, none⟩ = some (.int .i64 hm.qt) ∧ W.cell? ⟨gm, 9, none⟩ = some (.slice none 0 0) ∧ W.cell? ⟨gm, 10, none⟩ = some (.slice none 0 0) ∧ W.cell? ⟨gm, 11, none⟩ = some (.slice none 0 0)))) ∧ Svz w5 W → Calls Try.prog 19 #[.agg #[.string s2, .slice (some ⟨b2, o2, none⟩) m2 cap2], .agg #[.int .i64 hm.id, .bool hm.rp, .bool hm.au, .bool hm.ct, .bool hm.wa, .bool hm.ca, .int .i64 hm.code, .string hm.qn, .int .i64 hm.qt, .slice none 0 0, .slice none 0 0, .slice none 0 0]] W (GivesM W H k1 k2 k3 j1 j2 j3)) := fun W hW => SS.out W hW.2
  have hk0 : (k != k) = false := by simp
  have n0 : (tx.toList != tx.toList) = false := by simp
  have n1 : (tx.data.toList != tx.data.toList) = false := by simp
  clear KS AS MS HI HP SI SS
  go_upto_region 7 with (fail)
  go_region_held3 (fun w' => (((w'.cell? ⟨gz, 0, none⟩ = some (.string s) ∧ w'.cell? ⟨gz, 1, none⟩ = some (.slice (some ⟨b, o, none⟩) m cap)) ∧ (w'.cell? ⟨gk, 0, none⟩ = some (.string nm) ∧ w'.cell? ⟨gk, 1, none⟩ = some (.int .i64 ty))) ∧ ((w'.cell? ⟨gy, 0, none⟩ = some (.string s2) ∧ w'.cell? ⟨gy, 1, none⟩ = some (.slice (some ⟨b2, o2, none⟩) m2 cap2)) ∧ (w'.cell? ⟨gm, 0, none⟩ = some (.int .i64 hm.id) ∧ w'.cell? ⟨gm, 1, none⟩ = some (.bool hm.rp) ∧ w'.cell? ⟨gm, 2, none⟩ = some (.bool hm.au) ∧ w'.cell? ⟨gm, 3, none⟩ = some (.bool hm.ct) ∧ w'.cell? ⟨gm, 4, none⟩ = some (.bool hm.wa) ∧ w'.cell? ⟨gm, 5, none⟩ = some (.bool hm.ca) ∧ w'.cell? ⟨gm, 6, none⟩ = some (.int .i64 hm.code) ∧ w'.cell? ⟨gm, 7, none⟩ = some (.string hm.qn) ∧ w'.cell? ⟨gm, 8, none⟩ = some (.int .i64 hm.qt) ∧ w'.cell? ⟨gm, 9, none⟩ = some (.slice none 0 0) ∧ w'.cell? ⟨gm, 10, none⟩ = some (.slice none 0 0) ∧ w'.cell? ⟨gm, 11, none⟩ = some (.slice none 0 0)))) ∧ Svz w5 w')
    (first | with_reducible exact SS0 | with_reducible exact keptK_draw SS0 | with_reducible assumption | with_reducible exact keptK (by assumption) hl | fail)
    (first
      | (go_at_call 9; (with_reducible refine (KSR.out _ (by assumption)).mono ?_); rintro e wa ⟨rfl, hl⟩)
      | (go_at_call 11; (with_reducible refine (AIR.out _ (by assumption)).mono ?_); rintro e wb ⟨Ab, mb, cb, rfl, hsb, hl⟩)
      | (go_at_call 12; (with_reducible refine (ASR.out _ (by assumption)).mono ?_); rintro e wc ⟨gc, mc, cc, rc, rfl, hmc, -, -, hbc, hl⟩; have hsb' := hsb.below hl)
      | (go_at_call 10; (with_reducible refine (RA.out _ _ _ _ _ _ _ _ _ hsb' hmc hbc).mono ?_); rintro e wd ⟨rfl, hl⟩)
      | (go_at_call 13; (with_reducible refine (MIR.out _ (by assumption)).mono ?_); rintro e we ⟨Ae, me, ce, rfl, hse, hl⟩)
      | (go_at_call 14; (with_reducible refine (MSR.out _ (by assumption)).mono ?_); rintro e wf ⟨gf, mf, cf, rf, rfl, hmf, -, -, hbf, hl⟩; have hse' := hse.below hl)
      | (go_at_call 10; (with_reducible refine (RM.out _ _ _ _ _ _ _ _ _ hse' hmf hbf).mono ?_); rintro e wg ⟨rfl, hl⟩)
      | (go_at_call 15; (with_reducible refine (HIR.out _ (by assumption)).mono ?_); rintro e wh ⟨Ah, mh, ch, rfl, hsh, hl⟩)
      | (go_at_call 16; (with_reducible refine (HPR.out _ (by assumption)).mono ?_); rintro e wi ⟨gi, mi, ci, ri, rfl, hmi, -, -, hbi, hl⟩; have hsh' := hsh.below hl)
      | (go_at_call 10; (with_reducible refine (RH.out _ _ _ _ _ _ _ _ _ hsh' hmi hbi).mono ?_); rintro e wj ⟨rfl, hl⟩)
      | (go_at_call 18; (with_reducible refine (SIR.out _ (by assumption)).mono ?_); rintro e wk ⟨g1, u1, r1, g2, u2, r2, g3, u3, r3, rfl, hb1, hb2, hb3, -, -, -, hl⟩)
      | (go_at_call 19; (with_reducible refine (SSR.out _ (by assumption)).mono ?_); rintro e wl ⟨t1, f1, q1, t2, f2, q2, t3, f3, q3, rfl, hc1, hc2, hc3, -, -, -, hl⟩; have hd1 := hb1.below hl hb1.lt; have hd2 := hb2.below hl hb2.lt; have hd3 := hb3.below hl hb3.lt)
      | (go_at_call 17; (with_reducible refine (SMR.out _ _ _ _ _ _ _ _ _ _ _ _ _ _ _ _ _ _ _ hd1 hd2 hd3 hc1 hc2 hc3).mono ?_); rintro e wm ⟨rfl, hl⟩)
      | (go_at_call 20; (with_reducible refine (TI.out _).mono ?_); rintro e wn ⟨rfl, hl⟩)
      | (go_at_call 21; (with_reducible refine (TS.out _).mono ?_); rintro e wo ⟨rfl, hl⟩)
      | fail)
  rename_i hH
  have X8 : Hid (Zx wo gz s (.slice (some ⟨b, o, none⟩) m cap)) := hH.1.1.1
  have Q8 : Hid (Qx wo gk nm ty) := hH.1.1.2
  have B8 : Hid (Below w5.heap.size w5 wo) := hH.2
  clear hH hl SS0 KSR AIR ASR MIR MSR HIR HPR SIR SSR SMR RA RM RH TI TS n0 n1 hk0
  obtain ⟨z0, z1⟩ := X8.out
  obtain ⟨q0, q1⟩ := Q8.out
  go_wp2_with fail
  refine (AI.out _ B8.out).mono ?_
  rintro e wp ⟨Ap, mp, cp, rfl, hsp, hl⟩
  have HLA : Hid (0 < mp ↔ (k = 2 ∨ k = 3)) := by show _ ↔ _; rw [← hsp.len]; exact PA.out
  have X9 := Lib.hid (X8.out.below hl)
  have Q9 := Lib.hid (Q8.out.below hl)
  have B9 := Lib.hid (B8.out.trans (hl.mono B8.out.size))
  have L9 := Lib.hid (L5.out.trans (B9.out.mono L5.out.size))
  clear hl z0 z1 q0 q1 X8 Q8 B8 hsp L5 PA AI
  obtain ⟨z0, z1⟩ := X9.out
  obtain ⟨q0, q1⟩ := Q9.out
  rcases K6.out with hk | hk | hk | hk | hk | hk
  · have hp : ¬ (0 : Int) < (mp : Int) := by have := HLA.out; omega
    clear HLA PM
    subst hk
    go_wp2
    go_ret
    exact ⟨rfl, L9.out⟩
  · have hp : ¬ (0 : Int) < (mp : Int) := by have := HLA.out; omega
    have PM1 := Lib.hid (PM.out hk)
    clear HLA PM
    subst hk
    go_wp2_with fail
    refine (MI.out _ B9.out).mono ?_
    rintro e wq ⟨Aq, mq, cq, rfl, hsq, hl⟩
    have hq : (0 : Int) < (mq : Int) := by have := PM1.out; have := hsq.len; omega
    have L10 := Lib.hid (L9.out.trans (hl.mono L9.out.size))
    have HD : Hid (decide (0 < mq) = true) := decide_eq_true (by omega)
    clear hl hsq PM1
    go_wp2
    go_ret
    exact ⟨by show Ending.returned (.bool (decide (0 < mq))) = .returned (.bool true); rw [HD.out], L10.out⟩
  · have hp : (0 : Int) < (mp : Int) := by have := HLA.out; omega
    clear HLA PM
    subst hk
    go_wp2
    go_ret
    exact ⟨rfl, L9.out⟩
  · have hp : (0 : Int) < (mp : Int) := by have := HLA.out; omega
    clear HLA PM
    subst hk
    go_wp2
    go_ret
    exact ⟨rfl, L9.out⟩
  · have hp : ¬ (0 : Int) < (mp : Int) := by have := HLA.out; omega
    clear HLA PM
    subst hk
    go_wp2
    go_ret
    exact ⟨rfl, L9.out⟩
  · have hp : ¬ (0 : Int) < (mp : Int) := by have := HLA.out; omega
    clear HLA PM
    subst hk
    go_wp2
    go_ret
    exact ⟨rfl, L9.out⟩

end Go.Proofs.Ytjgmocmaeadjdaa.LawKinds

/- The law FnKinds as the row asks it: true at every slice of bytes, nothing turned. -/
namespace Go.Proofs.Ytjgmocmaeadjdaa.kindsPlain
open Go.ChangeShapes Go.WideShapes Go.ChangeAt Go.RowKit Go.Proofs.Ytjgmocmaeadjdaa.Mem

theorem own : ownKnob Try.prog.godebug = none := by kernel_rfl
theorem laidOut : laidOutB Try.prog = true := by kernel_rfl

set_option maxRecDepth 100000 in
set_option linter.unusedVariables false in
theorem contract (H : Type) (enc : TypeId × Value → H) (W : World) (base : Nat) (args : Array Value) (ds gs : List (DataW H)) (before : List MemPlace)
    (hval0 : ∀ (j : Nat) t v, Try.f3.params[j]? = some t → args[j]? = some v → Value.okWide Try.prog W .any base t v)
    (hW : DataW.Whole enc Try.prog Try.f3.params.toList Rows.fnKindsSpec.vars false W args.toList ds gs before)  :
    Calls Try.prog 3 args W fun e W' => ∃ v, e = .returned v ∧ Rows.fnKindsSpec.post enc Try.prog Try.f3 false true false false W args v W' := by
  have hval : ∀ (j : Nat) t v, Try.f3.params[j]? = some t → args[j]? = some v → Value.okWide Try.prog W .any base t v := hval0
  have hW' := hW
  obtain ⟨p, q, hA0, hV, rfl, _, _⟩ := hW
  have hA : DataW.TrodAll enc Try.prog W 0 (fun _ => true) true Try.f3.params.toList args.toList ds p := hA0
  rw [Try.params3] at hA hval
  obtain ⟨v0, vs0, d0, ds0, p0, q0, _, rfl, rfl, h0, r0⟩ := trodAll_cons hA
  obtain ⟨rfl, rfl, rfl⟩ := trodAll_nil r0
  obtain rfl : args = #[v0] := by cases args; simp_all
  obtain ⟨rfl, rfl⟩ := trodVars_none hV
  obtain ⟨a0, len0, cap0, rfl⟩ := okWide_slice Try.underlying22 (hval 0 22 v0 rfl rfl)
  have k0 := h0
  have lt0 : ∀ x ∈ p0, x.block < W.heap.size := by obtain ⟨m, hm⟩ := k0; exact DataW.trod_lt m _ _ _ hm
  obtain ⟨l0, s0, c0, z0⟩ : ∃ l : List UInt8, Sl W W.heap.size a0 len0 l ∧ len0 ≤ cap0 ∧ (a0 = none → len0 = 0 ∧ cap0 = 0) := by
    obtain ⟨fuel, hf⟩ := h0
    rcases open_ints Try.underlying22 Try.underlying5 (by kernel_rfl) hf with ⟨hcs, _⟩ | ⟨x, l, c, zs, hcs, _, hl, hm, hz, _, hcell, hwz⟩
    · simp [Value.cells] at hcs
      obtain ⟨rfl, rfl, rfl⟩ := hcs
      exact sl_of_row (zs := []) (.inl ⟨rfl, rfl, rfl, rfl⟩)
    · simp [Value.cells] at hcs
      obtain ⟨rfl, rfl, rfl⟩ := hcs
      exact sl_of_row (zs := zs) (.inr ⟨_, rfl, hl, hm, by simpa using hz, hcell, hwz⟩)
  clear hA0 hval0
  refine (LawKinds.walk a0 len0 cap0 l0 W  s0 c0 z0).mono fun e W' ⟨he, bel⟩ => ?_
  subst he
  exact ⟨_, rfl, _, _, _, [], _, [], hW', trodAll_mk1 (shut_bool Try.underlying4 _), (trodAll_cons_mk (Below.trod laidOut (by kernel_rfl) (of_decide_eq_true (by kernel_rfl)) k0 bel lt0) trodAll_mk0), rfl, bel.frame _, fun h => by cases h⟩

set_option maxRecDepth 100000 in
theorem lifted (os : Os) (started : os.Started) (H : Type) (enc : TypeId × Value → H) :
    ReturnsInHanded {} Try.checked os 3 .any (Rows.fnKindsSpec.pre6 enc Try.prog Try.f3 Rows.fnKindsRow.domain false) (Rows.fnKindsSpec.post enc Try.prog Try.f3 false true false false) := by
  refine returnsInHanded_of_change (C := Try.checked) own started (by kernel_rfl) Try.func3
    (ChangeSpec.witness6 (enc := enc) (C := Try.checked) false ⟨#[], #[.slice none 0 0], []⟩ 8 (by kernel_rfl) (by kernel_rfl) (by kernel_rfl) (by kernel_rfl)) ?_
  intro W base args ds gs before hval0 hW _ _
  exact contract H enc W base args ds gs before hval0 hW

theorem over : Rows.fnKindsRow.holds Try.pinned (OpenSpec.ofChange Rows.fnKindsSpec) :=
  OpenClaim.holds_of_wide 3 Try.f3 rfl rfl rfl rfl rfl rfl rfl ⟨rfl, rfl, rfl, rfl, rfl⟩ rfl rfl rfl rfl rfl (by kernel_rfl) Try.func3 (by kernel_rfl)
    (of_decide_eq_true (by kernel_rfl)) (by unfold Func.isWrapper; first | (rw [if_pos (by decide +kernel)]; kernel_rfl) | (rw [if_neg (by decide +kernel)]; exact ⟨rfl, rfl⟩))
    (fun os started H enc _ => lifted os started H enc)

theorem proved : Rows.FnKindsSaid := over
end Go.Proofs.Ytjgmocmaeadjdaa.kindsPlain
namespace Go.Proofs.Ytjgmocmaeadjdaa
theorem fnKinds_holds : Rows.FnKindsSaid := kindsPlain.proved
end Go.Proofs.Ytjgmocmaeadjdaa
