/- On every slice of bytes the law FnZones returns true: a name is in a zone, under a cut of it, or not under its apex, and every record except those of cuts is in the zone, where the listed tables of the library read as their text lays them (the card ties that to the program's text). -/
import Derived.Test.YtkpcanigdppegaaDoorZonesP4
import Derived.Test.YtkpcanigdppegaaDoorZonesP2
import Derived.Test.YtkpcanigdppegaaDoorZoneMath
import Derived.Test.YtkpcanigdppegaaDoorMemZ
import Derived.Test.YtkpcanigdppegaaDoorMem
import Derived.Deep.QuietTactic
import Derived.BigQuiet
import Derived.Test.YtkpcanigdppegaaDoorZonesP1
import Derived.Test.YtkpcanigdppegaaDoorZonesP3
import Derived.Deep.RegionHeld3
import Derived.Test.YtkpcanigdppegaaDoorLabels
import Derived.LaidLaws
import Derived.Test.YtkpcanigdppegaaDoorCards
import Derived.Test.YtkpcanigdppegaaDoorTie
import Derived.ProofKit
import Derived.OpenShut
import Derived.ShutString
import Derived.ChangeOld
import Derived.Below
import Derived.Deep.DeepHandedRow
/- What InZone does in the program: it tells whether the name is under the zone's apex and under none of its cuts. Condition: fewer than 400000001 records, no name of more than 400000000 bytes. -/
namespace Go.Proofs.YtkpcanigdppegaaDoor.InZoneI
open Go.RowKit Go.Proofs.YtkpcanigdppegaaDoor.Mem Go.Proofs.YtkpcanigdppegaaDoor.MemR Go.Proofs.YtkpcanigdppegaaDoor.SetMath Go.Proofs.YtkpcanigdppegaaDoor.NameMath Go.Proofs.YtkpcanigdppegaaDoor.ZoneMath Go.Proofs.YtkpcanigdppegaaDoor.MemZ Go.Proofs.YtkpcanigdppegaaDoor.CutOfS

set_option maxHeartbeats 4000000 in
theorem impl (s nm : ByteArray) (b0 o0 n c : Nat) (l : List Rec) (w : World) (hs : Sr w w.heap.size (some ⟨b0, o0, none⟩) n l) (hn : n ≤ 400000000) (hm : s.size ≤ 400000000) (hq : nm.size ≤ 400000000) (hz : ∀ r ∈ l, r.name.size ≤ 400000000) :
    Calls Tryd.prog 11 #[.agg #[.string s, .slice (some ⟨b0, o0, none⟩) n c], .string nm] w fun e w' => e = .returned (.bool (iz s nm l)) ∧ Below w.heap.size w w' := by
  have L0 := Lib.hid ((Below.refl w.heap.size w).alloc (Nat.le_refl _) (.cells #[.string s, .slice (some ⟨b0, o0, none⟩) n c] 26))
  have X0 := Lib.hid (zx_new w 26 s (.slice (some ⟨b0, o0, none⟩) n c))
  have CS := Lib.hid (fun W hW => CutOfI.impl s nm b0 o0 n c l W hW hn hm hq hz)
  have US := Lib.hid (fun W => UnderImpl.impl nm s W hq hm)
  have S0 := Lib.hid (hs.on L0.out)
  clear hs hz
  have HV : Hid (iz s nm l = (Un nm s && !(co nm (uq (cn s l))).isSome)) := rfl
  generalize iz s nm l = v at *
  generalize co nm (uq (cn s l)) = o at *
  generalize Un nm s = u at *
  obtain ⟨x0, x1⟩ := X0.out
  cases o with
  | none =>
    replace CS : Hid (∀ W, Sr W W.heap.size (some ⟨b0, o0, none⟩) n l → Calls Tryd.prog 8 #[.agg #[.string s, .slice (some ⟨b0, o0, none⟩) n c], .string nm] W fun e w' => e = .returned (.tuple #[.string ⟨#[]⟩, .bool false]) ∧ Below W.heap.size W w') := CS
    go_enter Tryd.func11, Tryd.ntmps11
    go_wp2_with fail
    refine (CS.out _ S0.out).mono ?_
    rintro e w1 ⟨rfl, hl⟩
    have X1 := Lib.hid (X0.out.below hl)
    have L1 := Lib.hid (L0.out.trans (hl.mono L0.out.size))
    clear hl CS S0 L0 X0 x0 x1
    obtain ⟨x0, x1⟩ := X1.out
    go_wp2_with fail
    refine (US.out _).mono ?_
    rintro e w2 ⟨rfl, rfl⟩
    have L2 := Lib.hid L1.out
    clear US x0 x1 X1
    have HF : Hid (v = u) := by show _ = _; rw [HV.out]; simp
    clear HV
    cases u with
    | true => go_wp2; go_ret; exact ⟨congrArg (fun b => Ending.returned (Value.bool b)) HF.out.symm, L2.out⟩
    | false => go_wp2; go_ret; exact ⟨congrArg (fun b => Ending.returned (Value.bool b)) HF.out.symm, L2.out⟩
  | some y =>
    replace CS : Hid (∀ W, Sr W W.heap.size (some ⟨b0, o0, none⟩) n l → Calls Tryd.prog 8 #[.agg #[.string s, .slice (some ⟨b0, o0, none⟩) n c], .string nm] W fun e w' => e = .returned (.tuple #[.string y, .bool true]) ∧ Below W.heap.size W w') := CS
    go_enter Tryd.func11, Tryd.ntmps11
    go_wp2_with fail
    refine (CS.out _ S0.out).mono ?_
    rintro e w1 ⟨rfl, hl⟩
    have X1 := Lib.hid (X0.out.below hl)
    have L1 := Lib.hid (L0.out.trans (hl.mono L0.out.size))
    clear hl CS S0 L0 X0 x0 x1
    obtain ⟨x0, x1⟩ := X1.out
    go_wp2
    have HF : Hid (v = false) := by show _ = _; rw [HV.out]; simp
    go_ret
    exact ⟨congrArg (fun b => Ending.returned (Value.bool b)) HF.out.symm, L1.out⟩

end Go.Proofs.YtkpcanigdppegaaDoor.InZoneI

/- What Exists does in the program (a range over the zone's records): it tells whether a record's name is the name or under it. Condition: fewer than 400000001 records, no name of more than 400000000 bytes. -/
namespace Go.Proofs.YtkpcanigdppegaaDoor.ExistsI
open Go.RowKit Go.Proofs.YtkpcanigdppegaaDoor.Mem Go.Proofs.YtkpcanigdppegaaDoor.MemR Go.Proofs.YtkpcanigdppegaaDoor.SetMath Go.Proofs.YtkpcanigdppegaaDoor.NameMath Go.Proofs.YtkpcanigdppegaaDoor.ZoneMath Go.Proofs.YtkpcanigdppegaaDoor.MemZ

set_option maxHeartbeats 4000000 in
theorem impl (s nm : ByteArray) (b0 o0 n c : Nat) (l : List Rec) (w : World) (hs : Sr w w.heap.size (some ⟨b0, o0, none⟩) n l) (hn : n ≤ 400000000) (hm : nm.size ≤ 400000000) (hz : ∀ r ∈ l, r.name.size ≤ 400000000) :
    Calls Tryd.prog 13 #[.agg #[.string s, .slice (some ⟨b0, o0, none⟩) n c], .string nm] w fun e w' => e = .returned (.bool (ex nm l)) ∧ Below w.heap.size w w' := by
  have L0 := Lib.hid ((Below.refl w.heap.size w).alloc (Nat.le_refl _) (.cells #[.string s, .slice (some ⟨b0, o0, none⟩) n c] 26))
  have HS := Lib.hid hs
  have HZ := Lib.hid hz
  clear hs hz
  go_enter Tryd.func13, Tryd.ntmps13
  go_wp2
  generalize w.alloc (.cells #[.string s, .slice (some ⟨b0, o0, none⟩) n c] 26) = w0 at *
  go_loopw [10] (fun i wr => ∃ k : Nat, k ≤ n ∧ i = .int .i64 k ∧ Hid (ex nm (l.take k) = false) ∧ Hid (Below w.heap.size w wr)) (fun i _ => n - (intOf i).toNat)
  case atStart => exact ⟨0, Nat.zero_le _, rfl, rfl, L0.out⟩
  case round =>
    clear L0
    obtain ⟨k, hk, rfl, HE, HL⟩ := hrel
    by_cases hlt : k < n
    · obtain ⟨b, off, hA, hbB, hcs⟩ := HS.out.2 (by omega)
      obtain ⟨rfl, rfl⟩ : b0 = b ∧ o0 = off := by simp at hA; exact hA
      clear hA
      have hkl : k < l.length := by rw [HS.out.1]; exact hlt
      obtain ⟨e0, e1, e2, e3, e4, e5⟩ := (hcs k hkl).below HL.out hbB
      clear hcs
      have HT := Lib.hid (ex_take nm l k hkl)
      have HH := Lib.hid (ex_hit nm l k hkl)
      have HM := Lib.hid (HZ.out _ (List.getElem_mem hkl))
      generalize l[k] = r at *
      have W1 : Hid (Below w.heap.size w (wr.alloc (.cells #[.string r.name, .int .i64 r.ty, .int .i64 r.ttl, .int .i64 r.n, .string r.host, .string r.text] 39))) := HL.out.alloc HL.out.size _
      have US := Lib.hid (fun W => UnderImpl.impl r.name nm W HM.out hm)
      generalize Un r.name nm = u at *
      go_wp2_with fail
      refine (US.out _).mono ?_
      rintro e w1 ⟨rfl, rfl⟩
      clear US e0 e1 e2 e3 e4 e5
      cases u with
      | true =>
        have HF := Lib.hid (HH.out rfl)
        clear HH HT
        go_wp2
        go_ret
        exact ⟨congrArg (fun b => Ending.returned (Value.bool b)) HF.out.symm, W1.out⟩
      | false =>
        have HN := Lib.hid (HT.out.trans (by rw [HE.out, Bool.or_false]))
        clear HH HT
        go_wp2
        go_roundw
        case rel => exact ⟨k + 1, by omega, by go_num, HN.out, W1.out⟩
        case measure => simp [intOf]; omega
    · obtain rfl : n = k := by omega
      have HF : Hid (ex nm l = false) := by rw [take_all HS.out.1] at HE; exact HE
      go_wp2
      go_ret
      exact ⟨congrArg (fun b => Ending.returned (Value.bool b)) HF.out.symm, HL.out⟩

end Go.Proofs.YtkpcanigdppegaaDoor.ExistsI

/- What the law's own helpers eqByteS, markByteS and heldByteS do on slices of bytes. Condition: fewer than 400000001 bytes. -/
namespace Go.Proofs.YtkpcanigdppegaaDoor.Eq
open Go.RowKit Go.Proofs.YtkpcanigdppegaaDoor.Mem

theorem cast_ne {a b : UInt8} (h : a ≠ b) : ((a.toNat : Int) != (b.toNat : Int)) = true := by
  rw [bne_iff_ne]; intro e; exact h (UInt8.toNat_inj.1 (by omega))
theorem cast_eq {a b : UInt8} (h : a = b) : ((a.toNat : Int) != (b.toNat : Int)) = false := by subst h; simp

/-- Two lists that agree as far as k, and part at k. -/
theorem ne_at {l m : List UInt8} {k : Nat} (h : k < l.length) (h' : k < m.length) (hne : l[k] ≠ m[k]) : (l == m) = false := by
  rw [beq_eq_false_iff_ne]; rintro rfl; exact hne rfl
theorem eq_all {l m : List UInt8} (hl : l.length = m.length) (h : l.take l.length = m.take l.length) : (l == m) = true := by
  rw [List.take_length, hl, List.take_length] at h; simp [h]
theorem take_step {l m : List UInt8} {k : Nat} (hk : k < l.length) (hk' : k < m.length) (h : l.take k = m.take k) (he : l[k] = m[k]) : l.take (k + 1) = m.take (k + 1) := by
  rw [List.take_succ_eq_append_getElem hk, List.take_succ_eq_append_getElem hk', h, he]

/-- The numbers that markByteS lays: k, k + 1 and so on, as bytes. -/
def marks : Nat → Nat → List Value
  | _, 0 => []
  | k, n + 1 => Value.int .u8 ((k : Int) % 256) :: marks (k + 1) n
theorem marks_length (k n : Nat) : (marks k n).length = n := by
  induction n generalizing k with
  | zero => rfl
  | succ n ih => simp [marks, ih]
theorem marks_at (k n j : Nat) (h : j < n) : (marks k n)[j]? = some (Value.int .u8 (((k : Int) + (j : Int)) % 256)) := by
  induction n generalizing k j with
  | zero => omega
  | succ n ih =>
    cases j with
    | zero => simp [marks]
    | succ j => simp only [marks, List.getElem?_cons_succ]; rw [ih (k + 1) j (by omega)]; rw [show ((k + 1 : Nat) : Int) + (j : Int) = (k : Int) + ((j + 1 : Nat) : Int) by omega]
theorem marks_snoc (k n : Nat) : marks k (n + 1) = marks k n ++ [Value.int .u8 (((k : Int) + (n : Int)) % 256)] := by
  induction n generalizing k with
  | zero => simp [marks]
  | succ n ih => rw [marks, ih (k + 1), marks, List.cons_append, show ((k + 1 : Nat) : Int) + (n : Int) = (k : Int) + ((n + 1 : Nat) : Int) by omega]

theorem mark_step (cs : List Value) (k j n : Nat) (hj : j < n) (hn : n ≤ cs.length) :
    (marks k j ++ cs.drop j).set j (Value.int .u8 (((k : Int) + (j : Int)) % 256)) = marks k (j + 1) ++ cs.drop (j + 1) := by
  rw [List.set_append_right _ _ (by rw [marks_length]; omega), marks_length, Nat.sub_self, List.drop_eq_getElem_cons (by omega), List.set_cons_zero, marks_snoc, List.append_assoc]
  rfl
theorem mark_at (cs : List Value) (k j : Nat) (hj : j < cs.length) : (marks k j ++ cs.drop j)[j]? = some cs[j] := by
  rw [List.getElem?_append_right (by rw [marks_length]; omega), marks_length, Nat.sub_self, List.drop_eq_getElem_cons hj]
  rfl

theorem grown_set {w wr : World} {g : Nat} (h : w.grownBy wr (some g)) (j : Nat) (u : Value) : w.grownBy (wr.setCell ⟨g, j, none⟩ u) (some g) :=
  ⟨h.os, h.tape, h.output, by simpa [World.setCell] using h.size, fun k hk hne => by
    rw [Below.heap_setCell _ _ _ _ (fun e => hne (by simp [e]))]; exact h.block k hk hne⟩

theorem byte_ne_self (x : Int) : (x != x) = false := by simp

end Go.Proofs.YtkpcanigdppegaaDoor.Eq

/- What the laws' own comparison of two slices of bytes does. Condition: fewer than 400000001 bytes. -/
namespace Go.Proofs.YtkpcanigdppegaaDoor.Same
open Go.RowKit Go.Proofs.YtkpcanigdppegaaDoor.Mem Go.Proofs.YtkpcanigdppegaaDoor.Eq

theorem big_no (A : Option Addr) (n c : Nat) (w : World) (h : n ≤ 1048576) : Calls Tryd.prog 6 #[.slice A n c] w fun e w' => e = .returned (.bool false) ∧ w = w' := by
  have hd : decide ((1048576 : Int) < (n : Int)) = false := by simp; omega
  go_enter Tryd.func6, Tryd.ntmps6
  go_wp2
  go_ret
  exact ⟨rfl, rfl⟩
theorem big_yes (A : Option Addr) (n c : Nat) (w : World) (h : ¬ n ≤ 1048576) : Calls Tryd.prog 6 #[.slice A n c] w fun e w' => e = .returned (.bool true) ∧ w = w' := by
  have hd : decide ((1048576 : Int) < (n : Int)) = true := by simp; omega
  go_enter Tryd.func6, Tryd.ntmps6
  go_wp2
  go_ret
  exact ⟨rfl, rfl⟩
end Go.Proofs.YtkpcanigdppegaaDoor.Same

/- The law FnZones returns true at every slice of bytes and turns nothing that was there: a name is in a zone, under a cut of it, or not under its apex; every record except those of cuts is in the zone. -/
namespace Go.Proofs.YtkpcanigdppegaaDoor.LawZones
open Go.RowKit Go.Proofs.YtkpcanigdppegaaDoor.Mem Go.Proofs.YtkpcanigdppegaaDoor.MemR Go.Proofs.YtkpcanigdppegaaDoor.MemS Go.Proofs.YtkpcanigdppegaaDoor.MemZ Go.Proofs.YtkpcanigdppegaaDoor.BoxR Go.Proofs.YtkpcanigdppegaaDoor.SetMath Go.Proofs.YtkpcanigdppegaaDoor.NameMath Go.Proofs.YtkpcanigdppegaaDoor.ZoneMath Go.Proofs.YtkpcanigdppegaaDoor.Labels Go.Proofs.YtkpcanigdppegaaDoor.RecOk Go.Proofs.YtkpcanigdppegaaDoor.ZokMath Go.Proofs.YtkpcanigdppegaaDoor.ZfMath Go.Proofs.YtkpcanigdppegaaDoor.CutOfS Go.Proofs.YtkpcanigdppegaaDoor.ZoneL Go.Proofs.YtkpcanigdppegaaDoor.DrawZ Go.Proofs.YtkpcanigdppegaaDoor.Same Go.Proofs.YtkpcanigdppegaaDoor.Wt Go.Proofs.YtkpcanigdppegaaDoor.AliI

theorem in_class2 {P : Program} {f : FuncId} {args : Array Value} {w3 wk : World} {d : Nat} {os : Array Obj} {v : Value} (h : ∀ W, Below w3.heap.size w3 W → Calls P f args W fun e w' => e = .returned v ∧ Below W.heap.size W w') (L : Below w3.heap.size w3 wk) :
    Calls P f args (Sort.grow (redrawn wk d) os) fun e w'' => e = .returned v ∧ ∃ p : Regrown, w'' = Sort.grow (redrawn wk p.d) p.os :=
  in_class (fun W hW => h W (L.trans (hW.mono L.size)))

theorem mods_all : ∀ p ∈ ts, ∀ a b c : Bool, ∀ r ∈ zs p.1 p.2 a b c, r.name.size ≤ 60 ∧ r.host.size ≤ 60 ∧ r.text.size ≤ 60 := by decide +kernel

theorem mods {t h : Int} (ht : (t, h) ∈ ts) (a b c : Bool) : ∀ r ∈ zs t h a b c, Mod r := fun r hr => by
  have := mods_all (t, h) ht a b c r hr
  exact ⟨by omega, by omega, by omega⟩

/-- Nothing of w has been turned, and the box k holds a question. A def, so that no step of a walk opens it. -/
def Kq (w0 : World) (k : Nat) (s : ByteArray) (n : Int) (w : World) : Prop := (w.cell? ⟨k, 0, none⟩ = some (.string s) ∧ w.cell? ⟨k, 1, none⟩ = some (.int .i64 n)) ∧ Below w0.heap.size w0 w

theorem kq_below {w0 w w' : World} {k : Nat} {s : ByteArray} {n : Int} (h : Kq w0 k s n w) (hl : Below w.heap.size w w') : Kq w0 k s n w' :=
  ⟨⟨(hl.cell (p := ⟨k, 0, none⟩) (World.block_lt_of_cell? _ _ h.1.1)).trans h.1.1, (hl.cell (p := ⟨k, 1, none⟩) (World.block_lt_of_cell? _ _ h.1.2)).trans h.1.2⟩, h.2.trans (hl.mono h.2.size)⟩

theorem field0 (r : Rec) (W : World) : Sem.run Tryd.prog (Instr.field 39 (.agg #[.string r.name, .int .i64 r.ty, .int .i64 r.ttl, .int .i64 r.n, .string r.host, .string r.text]) 0) W = .ok (.string r.name) W := by kernel_rfl

theorem keptO {w0 w w' : World} {g : Nat} {s : ByteArray} {x : Value} (m : Zx w g s x ∧ Svz w0 w) (hl : Below w.heap.size w w') : Zx w' g s x ∧ Svz w0 w' := ⟨m.1.below hl, m.2.trans (hl.mono m.2.size)⟩

theorem keptO_draw {w0 w : World} {g : Nat} {s : ByteArray} {x : Value} (m : Zx w g s x ∧ Svz w0 w) : Zx w.drew g s x ∧ Svz w0 w.drew := keptO m ((Below.refl _ _).drew)

theorem keptC {w0 w w' : World} {g b : Nat} {s y : ByteArray} {x : Value} {k : Nat} (m : (Zx w g s x ∧ w.cell? ⟨b, k, none⟩ = some (.string y)) ∧ Svz w0 w) (hl : Below w.heap.size w w') : (Zx w' g s x ∧ w'.cell? ⟨b, k, none⟩ = some (.string y)) ∧ Svz w0 w' :=
  ⟨⟨m.1.1.below hl, (hl.cell (p := ⟨b, k, none⟩) (World.block_lt_of_cell? _ _ m.1.2)).trans m.1.2⟩, m.2.trans (hl.mono m.2.size)⟩

theorem keptC_draw {w0 w : World} {g b : Nat} {s y : ByteArray} {x : Value} {k : Nat} (m : (Zx w g s x ∧ w.cell? ⟨b, k, none⟩ = some (.string y)) ∧ Svz w0 w) : (Zx w.drew g s x ∧ w.drew.cell? ⟨b, k, none⟩ = some (.string y)) ∧ Svz w0 w.drew := keptC m ((Below.refl _ _).drew)

set_option maxRecDepth 100000 in
set_option maxHeartbeats 16000000 in
theorem walk (A : Option Addr) (n c : Nat) (l : List UInt8) (w : World) (he : Env w) (hs : Sl w w.heap.size A n l) (_hc : n ≤ c) (_hnil : A = none → n = 0 ∧ c = 0) :
    Calls Tryd.prog 3 #[.slice A n c] w fun e w' => e = .returned (.bool true) ∧ Below w.heap.size w w' := by
  have mixed : Tryd.prog.follows .mixedOrders = true := by kernel_rfl
  by_cases hbig : n ≤ 1048576
  case neg =>
    go_enter Tryd.func3, Tryd.ntmps3
    go_wp2_with fail
    refine (big_yes A n c w hbig).mono ?_
    rintro e w1 ⟨rfl, rfl⟩
    go_wp2
    go_ret
    exact ⟨rfl, Below.refl _ _⟩
  have HS := Lib.hid hs
  have HE := Lib.hid he
  clear hs he
  go_enter Tryd.func3, Tryd.ntmps3
  go_wp2_with fail
  refine (big_no A n c w hbig).mono ?_
  rintro e w0 ⟨rfl, rfl⟩
  go_wp2_with fail
  refine (drawZone_any A n c l w HS.out hbig).mono ?_
  rintro e w1 ⟨t, h, ba, bb, bc, gl, m, cap, nm, ty, hth, rfl, hnm, hlm, hsr, hl⟩
  have HV : Hid (Zok ⟨#[99, 111, 109]⟩ (zs t h ba bb bc)) := ZoneV.valid hth ba bb bc
  have HMD := Lib.hid (mods hth ba bb bc)
  have HN := Lib.hid hlm
  have hm8 : m ≤ 8 := by have := ZoneV.zs_len t h ba bb bc; omega
  have S1 := Lib.hid hsr
  have L1 := Lib.hid hl
  have N1 : Hid (nm.size ≤ 20) := hnm
  clear hth hlm hsr hl hnm HS
  generalize zs t h ba bb bc = R at *
  have HC5 : Hid ((⟨#[99, 111, 109]⟩ : ByteArray).size ≤ 400000000) := by show _ ≤ _; decide
  generalize (⟨#[99, 111, 109]⟩ : ByteArray) = cm at *
  have hz1 : (w1.alloc (.cells #[.string cm, .slice (some ⟨gl, 0, none⟩) m cap] 26)).heap.size = w1.heap.size + 1 := by simp
  have X3 : Hid (Zx ((w1.alloc (.cells #[.string cm, .slice (some ⟨gl, 0, none⟩) m cap] 26)).alloc (.cells #[.string nm, .int .i64 ty] 28)) w1.heap.size cm (.slice (some ⟨gl, 0, none⟩) m cap)) := (zx_new w1 26 cm (.slice (some ⟨gl, 0, none⟩) m cap)).alloc _
  have K3 : Hid (Bk ((w1.alloc (.cells #[.string cm, .slice (some ⟨gl, 0, none⟩) m cap] 26)).alloc (.cells #[.string nm, .int .i64 ty] 28)) (w1.heap.size + 1) 28 [.string nm, .int .i64 ty]) := by
    show Bk _ _ _ _
    rw [← hz1]
    exact heap_alloc_new _ _
  have B3 := Lib.hid (((Below.refl w1.heap.size w1).alloc (Nat.le_refl _) (.cells #[.string cm, .slice (some ⟨gl, 0, none⟩) m cap] 26)).alloc (by simp) (.cells #[.string nm, .int .i64 ty] 28))
  clear hz1
  go_upto_region 4 with (fail)
  generalize (w1.alloc (.cells #[.string cm, .slice (some ⟨gl, 0, none⟩) m cap] 26)).alloc (.cells #[.string nm, .int .i64 ty] 28) = w3 at *
  have L3 := Lib.hid (L1.out.trans (B3.out.mono L1.out.size))
  have E3 := Lib.hid (HE.out.below L3.out)
  have S3 := Lib.hid (S1.out.on B3.out)
  clear L1 B3 S1 HE
  generalize w1.heap.size + 1 = gk at *
  generalize w1.heap.size = gz at *
  have LB : Hid (Below w3.heap.size w3 w3) := Below.refl _ _
  have Q3 : Hid (Kq w3 gk nm ty w3) := ⟨⟨K3.out.cell 0, K3.out.cell 1⟩, Below.refl _ _⟩
  clear K3
  have NMS : Hid (∀ r ∈ R, r.name.size ≤ 400000000) := fun r hr => (HMD.out r hr).1
  have ZO : Hid (∀ W : World, Below w3.heap.size w3 W → Calls Tryd.prog 10 #[.agg #[.string cm, .slice (some ⟨gl, 0, none⟩) m cap]] W fun e w' => e = .returned (.bool true) ∧ Below W.heap.size W w') := fun W hW => by have := ZokI.impl cm gl 0 m cap R W (E3.out.below hW) (S3.out.on hW) (by omega) HC5.out HMD.out; rwa [show zok cm R = true from dec_true HV.out] at this
  have IN : Hid (∀ x : ByteArray, x.size ≤ 400000000 → ∀ W : World, Below w3.heap.size w3 W → Calls Tryd.prog 11 #[.agg #[.string cm, .slice (some ⟨gl, 0, none⟩) m cap], .string x] W fun e w' => e = .returned (.bool (iz cm x R)) ∧ Below W.heap.size W w') := fun x hx W hW => InZoneI.impl cm x gl 0 m cap R W (S3.out.on hW) (by omega) HC5.out hx NMS.out
  have UN : Hid (∀ x y : ByteArray, x.size ≤ 400000000 → y.size ≤ 400000000 → ∀ W : World, Below w3.heap.size w3 W → Calls Tryd.prog 12 #[.string x, .string y] W fun e w' => e = .returned (.bool (Un x y)) ∧ Below W.heap.size W w') := fun x y hx hy W _ => (UnderImpl.impl x y W hx hy).mono fun e w' ⟨h1, h2⟩ => ⟨h1, by subst h2; exact Below.refl _ _⟩
  have EX : Hid (∀ x : ByteArray, x.size ≤ 400000000 → ∀ W : World, Below w3.heap.size w3 W → Calls Tryd.prog 13 #[.agg #[.string cm, .slice (some ⟨gl, 0, none⟩) m cap], .string x] W fun e w' => e = .returned (.bool (ex x R)) ∧ Below W.heap.size W w') := fun x hx W hW => ExistsI.impl cm x gl 0 m cap R W (S3.out.on hW) (by omega) hx NMS.out
  have SI : Hid (∀ W : World, Below w3.heap.size w3 W → Calls Tryd.prog 14 #[.agg #[.string cm, .slice (some ⟨gl, 0, none⟩) m cap]] W fun e w' => e = .returned (.agg #[.string ((st R)).name, .int .i64 ((st R)).ty, .int .i64 ((st R)).ttl, .int .i64 ((st R)).n, .string ((st R)).host, .string ((st R)).text]) ∧ Below W.heap.size W w') := fun W hW => StartOfI.impl cm gl 0 m cap R W (S3.out.on hW) (by omega) HC5.out NMS.out
  have SS : Hid (∀ W : World, Below w3.heap.size w3 W → Calls Tryd.prog 15 #[.agg #[.string cm, .slice (some ⟨gl, 0, none⟩) m cap]] W fun e w' => e = .returned (.agg #[.string ((st R)).name, .int .i64 ((st R)).ty, .int .i64 ((st R)).ttl, .int .i64 ((st R)).n, .string ((st R)).host, .string ((st R)).text]) ∧ Below W.heap.size W w') := fun W hW => StartS.spec cm gl 0 m cap R W (S3.out.on hW) (by omega)
  have CU : Hid (∀ W : World, Below w3.heap.size w3 W → Calls Tryd.prog 8 #[.agg #[.string cm, .slice (some ⟨gl, 0, none⟩) m cap], .string nm] W fun e w' => e = .returned (cv (co nm (uq (cn cm R)))) ∧ Below W.heap.size W w') := fun W hW => CutOfI.impl cm nm gl 0 m cap R W (S3.out.on hW) (by omega) HC5.out (by have := N1.out; omega) NMS.out
  have CS : Hid (∀ W : World, Below w3.heap.size w3 W → Calls Tryd.prog 9 #[.agg #[.string cm, .slice (some ⟨gl, 0, none⟩) m cap]] W (AppS.GivesS W (uq (cn cm R)))) := fun W hW => CutsOfI.impl cm gl 0 m cap R W (S3.out.on hW) (by omega) HC5.out NMS.out
  have SE : Hid (∀ (x : ByteArray) (W : World), Below w3.heap.size w3 W → Calls Tryd.prog 16 #[.slice (some ⟨gl, 0, none⟩) m cap, .string x, .int .i64 2] W (GivesL W (sf x 2 R))) := fun x W hW => SetI.impl x 2 gl 0 m cap R W (S3.out.on hW) (by omega)
  have IA : Hid (∀ W : World, Below w3.heap.size w3 W → Calls Tryd.prog 11 #[.agg #[.string cm, .slice (some ⟨gl, 0, none⟩) m cap], .string cm] W fun e w' => e = .returned (.bool true) ∧ Below W.heap.size W w') := by have h := IN.out cm HC5.out; rwa [apex_in cm R] at h
  have EA : Hid (∀ W : World, Below w3.heap.size w3 W → Calls Tryd.prog 13 #[.agg #[.string cm, .slice (some ⟨gl, 0, none⟩) m cap], .string cm] W fun e w' => e = .returned (.bool true) ∧ Below W.heap.size W w') := by have h := EX.out cm HC5.out; rwa [ex_apex HV.out] at h
  have SA := Lib.hid (start_apex HV.out)
  have NB : Hid (nm.size ≤ 400000000) := by show _ ≤ _; have := N1.out; omega
  have HCS : Hid (∀ x ∈ uq (cn cm R), x.size ≤ 400000000 ∧ iz cm x R = false ∧ 0 < (sf x 2 R).length) := fun x hx => ⟨by obtain ⟨r, hr, rfl⟩ := cn_mem (mem_uq.1 hx); exact NMS.out r hr, cut_out hx, cut_set hx⟩
  have HCL : Hid ((uq (cn cm R)).length ≤ 400000000) := by show _ ≤ _; have h1 := len_uq (cn cm R); have h2 := cn_len cm R; have := HN.out; omega
  have HRI : Hid (∀ r ∈ R, iz cm r.name R = true ∨ r.ty = 2 ∨ r.ty = 1) := fun r hr => rec_in HV.out hr
  have HRE : Hid (∀ r ∈ R, ex r.name R = true) := fun r hr => ex_self hr
  have HO : Hid (∀ x, co nm (uq (cn cm R)) = some x → Un nm x = true ∧ x ≠ cm ∧ Un x cm = true ∧ Un nm cm = true) := fun x hx => cut_of hx
  have HOS : Hid (∀ x, co nm (uq (cn cm R)) = some x → x.size ≤ 400000000) := fun x hx => (HCS.out x (co_some hx).1).1
  have HIZ0 : Hid (co nm (uq (cn cm R)) = none → iz cm nm R = Un nm cm) := fun h => iz_none h
  have HIZ1 : Hid (∀ x, co nm (uq (cn cm R)) = some x → iz cm nm R = false) := fun x h => iz_some h
  clear HV
  generalize st R = T0 at *
  obtain ⟨z0, z1⟩ := X3.out
  obtain ⟨k0, k1⟩ := Q3.out.1
  have LB3 := LB
  clear LB
  cases hco : co nm (uq (cn cm R)) with
  | none =>
    have IQ0 := Lib.hid (IN.out nm NB.out)
    rw [HIZ0.out hco] at IQ0
    have UQ0 := Lib.hid (UN.out nm cm NB.out HC5.out)
    rw [hco] at CU
    clear hco HO HOS HIZ0 HIZ1
    generalize Un nm cm = u at *
    cases u with
    | true =>
      have IQ := IQ0
      have UQ := UQ0
      clear IQ0 UQ0
      go_wp2_with fail
      refine (CU.out _ LB3.out).mono ?_
      rintro e w4 ⟨rfl, hl⟩
      have LB4 := Lib.hid (LB3.out.trans (hl.mono LB3.out.size))
      have X4 := Lib.hid (X3.out.below hl)
      have Q4 := Lib.hid (kq_below Q3.out hl)
      clear hl LB3 X3 Q3 z0 z1 k0 k1
      obtain ⟨z0, z1⟩ := X4.out
      obtain ⟨k0, k1⟩ := Q4.out.1
      unfold cv
      go_wp2_with fail
      refine (CS.out _ LB4.out).mono ?_
      rintro e w5 ⟨gc, mc, cc, rc, rfl, hmc, hcc, hgc, hbc, hl⟩
      have LB5 := Lib.hid (LB4.out.trans (hl.mono LB4.out.size))
      have X5 := Lib.hid (X4.out.below hl)
      have Q5 := Lib.hid (kq_below Q4.out hl)
      have MC := Lib.hid hmc
      have R5 := Lib.hid hbc
      have mcl : mc ≤ 400000000 := by have := HCL.out; omega
      clear hmc hcc hgc hbc
      clear hl LB4 X4 Q4 z0 z1 k0 k1
      obtain ⟨z0, z1⟩ := X5.out
      obtain ⟨k0, k1⟩ := Q5.out.1
      go_upto_region 6 with (fail)
      have z0 : ∀ d os, (Sort.grow (redrawn w5 d) os).cell? _ = some _ := fun d os => (X5.out.drawn d os).1
      have z1 : ∀ d os, (Sort.grow (redrawn w5 d) os).cell? _ = some _ := fun d os => (X5.out.drawn d os).2
      have k0 : ∀ d os, (Sort.grow (redrawn w5 d) os).cell? _ = some _ := cell_regrown k0
      have k1 : ∀ d os, (Sort.grow (redrawn w5 d) os).cell? _ = some _ := cell_regrown k1
      have qs := SameR.neq_same T0
      go_wp2_with fail
      refine wp_region_quiet_below (by assumption) (by kernel_rfl) ?_
      iterate 23 (quiet_step (first | (go_at_call 10; with_reducible exact in_class2 ZO.out LB5.out) | (go_at_call 11; with_reducible exact in_class2 IQ.out LB5.out) | (go_at_call 12; with_reducible exact in_class2 UQ.out LB5.out)))
      repeat (quiet_step (first | (go_at_call 11; with_reducible exact in_class2 IA.out LB5.out) | (go_at_call 13; with_reducible exact in_class2 EA.out LB5.out) | (go_at_call 14; with_reducible exact in_class2 SI.out LB5.out) | (go_at_call 15; with_reducible exact in_class2 SS.out LB5.out)))
      refine wpQuiet_nil ?_
      intro w6 hw6
      have hl := of_class hw6
      have LB6 := Lib.hid (LB5.out.trans (hl.mono LB5.out.size))
      have X6 := Lib.hid (X5.out.below hl)
      have Q6 := Lib.hid (kq_below Q5.out hl)
      have R6 := Lib.hid (R5.out.below hl R5.out.lt)
      clear hw6 hl z0 z1 k0 k1 qs LB5 X5 Q5 R5
      obtain ⟨z0, z1⟩ := X6.out
      obtain ⟨k0, k1⟩ := Q6.out.1
      go_wp2
      clear z0 z1 k0 k1
      go_loopw [8] (fun i wr => ∃ j : Nat, j ≤ mc ∧ i = .int .i64 j ∧ Hid (Zx wr gz cm (.slice (some ⟨gl, 0, none⟩) m cap)) ∧ Hid (Bk wr gc 9 ((uq (cn cm R)).map tv ++ rc)) ∧ Hid (Below w3.heap.size w3 wr)) (fun i _ => mc - (intOf i).toNat)
      case atStart => exact ⟨0, Nat.zero_le _, rfl, X6.out, R6.out, LB6.out⟩
      case round =>
        clear X6 R6 LB6 Q6
        obtain ⟨j, hj, rfl, HX, HB, HL⟩ := hrel
        obtain ⟨z0, z1⟩ := HX.out
        by_cases hlt : j < mc
        · have hjl : j < (uq (cn cm R)).length := by rw [MC.out]; exact hlt
          have e0 : wr.cell? ⟨gc, j, none⟩ = some (.string (uq (cn cm R))[j]) := by rw [HB.out.cell, List.getElem?_append_left (by rw [List.length_map]; exact hjl), tv_get]
          have HY := Lib.hid (HCS.out _ (List.getElem_mem hjl))
          generalize (uq (cn cm R))[j] = y at *
          have IY : Hid (∀ W : World, Below w3.heap.size w3 W → Calls Tryd.prog 11 #[.agg #[.string cm, .slice (some ⟨gl, 0, none⟩) m cap], .string y] W fun e w' => e = .returned (.bool false) ∧ Below W.heap.size W w') := by have h := IN.out y HY.out.1; rwa [HY.out.2.1] at h
          have HP := Lib.hid HY.out.2.2
          have BW : Hid (∀ W, Svz wr W → Below w3.heap.size w3 W) := fun W hW => HL.out.trans ((show Below wr.heap.size wr W from hW).mono HL.out.size)
          have SY2 : Hid (∀ W : World, (((W.cell? ⟨gz, 0, none⟩ = some (.string cm) ∧ W.cell? ⟨gz, 1, none⟩ = some (.slice (some ⟨gl, 0, none⟩) m cap)) ∧ W.cell? ⟨gc, j, none⟩ = some (.string y)) ∧ Svz wr W) → Calls Tryd.prog 16 #[.slice (some ⟨gl, 0, none⟩) m cap, .string y, .int .i64 2] W (GivesL W (sf y 2 R))) := fun W hW => SE.out y W (BW.out W hW.2)
          have IY2 : Hid (∀ W : World, (((W.cell? ⟨gz, 0, none⟩ = some (.string cm) ∧ W.cell? ⟨gz, 1, none⟩ = some (.slice (some ⟨gl, 0, none⟩) m cap)) ∧ W.cell? ⟨gc, j, none⟩ = some (.string y)) ∧ Svz wr W) → Calls Tryd.prog 11 #[.agg #[.string cm, .slice (some ⟨gl, 0, none⟩) m cap], .string y] W fun e w' => e = .returned (.bool false) ∧ Below W.heap.size W w') := fun W hW => IY.out W (BW.out W hW.2)
          have SS0 : ((wr.cell? ⟨gz, 0, none⟩ = some (.string cm) ∧ wr.cell? ⟨gz, 1, none⟩ = some (.slice (some ⟨gl, 0, none⟩) m cap)) ∧ wr.cell? ⟨gc, j, none⟩ = some (.string y)) ∧ Svz wr wr := ⟨⟨HX.out, e0⟩, Below.refl _ _⟩
          go_wp2
          go_region_held3 (fun w' => ((w'.cell? ⟨gz, 0, none⟩ = some (.string cm) ∧ w'.cell? ⟨gz, 1, none⟩ = some (.slice (some ⟨gl, 0, none⟩) m cap)) ∧ w'.cell? ⟨gc, j, none⟩ = some (.string y)) ∧ Svz wr w')
            (first | with_reducible exact SS0 | with_reducible assumption | exact keptC (by assumption) hl | exact keptC_draw (by assumption) | fail)
            (first
              | (go_at_call 16; (with_reducible refine (SY2.out _ (by assumption)).mono ?_); rintro e w11 ⟨gs, ms, cs, rs, rfl, hms, hc, hg, hb, hl⟩; have hms0 : ((ms : Int) == 0) = false := (by have := HP.out; simp; omega))
              | (go_at_call 11; (with_reducible refine (IY2.out _ (by assumption)).mono ?_); rintro e w12 ⟨rfl, hl⟩)
              | fail)
          rename_i hH
          have hz : Below wr.heap.size wr w12 := hH.2
          have X10 := Lib.hid (HX.out.below hz)
          have B10 := Lib.hid (HB.out.below hz HB.out.lt)
          have L10 := Lib.hid (HL.out.trans (hz.mono HL.out.size))
          clear hH hz hl hb hg hc hms hms0 SS0 SY2 IY2 IY HP HY BW e0 z0 z1 HX HB HL
          go_wp2
          go_roundw
          case rel => exact ⟨j + 1, by omega, by go_num, X10.out, B10.out, L10.out⟩
          case measure => simp [intOf]; omega
        · obtain rfl : mc = j := by omega
          go_wp2
          clear z0 z1
          go_loopw [9] (fun i wr => ∃ j : Nat, j ≤ m ∧ i = .int .i64 j ∧ Hid (Zx wr gz cm (.slice (some ⟨gl, 0, none⟩) m cap)) ∧ Hid (Below w3.heap.size w3 wr)) (fun i _ => m - (intOf i).toNat)
          case atStart => exact ⟨0, Nat.zero_le _, rfl, HX.out, HL.out⟩
          case round =>
            clear HX HL HB
            obtain ⟨j, hj, rfl, HX, HL⟩ := hrel
            obtain ⟨z0, z1⟩ := HX.out
            have ltz := HX.out.lt
            by_cases hlt2 : j < m
            · obtain ⟨b, off, hA, hbB, hcs⟩ := S3.out.2 (by omega)
              obtain ⟨rfl, rfl⟩ : gl = b ∧ 0 = off := by simp at hA; exact hA
              clear hA
              have hjl : j < R.length := by rw [HN.out]; exact hlt2
              obtain ⟨e0, e1, e2, e3, e4, e5⟩ : Ce wr gl (j * 6) R[j] := by have := (hcs j hjl).below HL.out hbB; rwa [Nat.zero_add] at this
              clear hcs
              have HI := Lib.hid (HRI.out _ (List.getElem_mem hjl))
              have IR := Lib.hid (IN.out _ (NMS.out _ (List.getElem_mem hjl)))
              have ER : Hid (∀ W : World, Below w3.heap.size w3 W → Calls Tryd.prog 13 #[.agg #[.string cm, .slice (some ⟨gl, 0, none⟩) m cap], .string R[j].name] W fun e w' => e = .returned (.bool true) ∧ Below W.heap.size W w') := by have h := EX.out _ (NMS.out _ (List.getElem_mem hjl)); rwa [HRE.out _ (List.getElem_mem hjl)] at h
              generalize R[j] = r at *
              have A1 := Lib.hid (bx_new wr 39 r)
              have X1 := Lib.hid (HX.out.alloc (.cells #[.string r.name, .int .i64 r.ty, .int .i64 r.ttl, .int .i64 r.n, .string r.host, .string r.text] 39))
              have L1 := Lib.hid (HL.out.alloc HL.out.size (.cells #[.string r.name, .int .i64 r.ty, .int .i64 r.ttl, .int .i64 r.n, .string r.host, .string r.text] 39))
              generalize iz cm r.name R = v at *
              have HT : Hid (v = true ∨ (v = false ∧ r.ty = 2) ∨ (v = false ∧ r.ty = 1)) := by
                show _ ∨ _
                rcases HI.out with h | h | h
                · exact Or.inl h
                · cases v
                  · exact Or.inr (Or.inl ⟨rfl, h⟩)
                  · exact Or.inl rfl
                · cases v
                  · exact Or.inr (Or.inr ⟨rfl, h⟩)
                  · exact Or.inl rfl
              clear HI
              go_wp2_with fail
              refine (IR.out _ L1.out).mono ?_
              rintro e wa ⟨rfl, hl⟩
              have A2 := Lib.hid (A1.out.below hl)
              have X2 := Lib.hid (X1.out.below hl)
              have L2 := Lib.hid (L1.out.trans (hl.mono L1.out.size))
              clear hl A1 X1 L1 IR z0 z1 e0 e1 e2 e3 e4 e5 HX HL ltz
              generalize wr.heap.size = ga at *
              obtain ⟨z0, z1⟩ := X2.out
              obtain ⟨a0, a1, a2, a3, a4, a5⟩ := A2.out
              have t0 := HT.out
              clear HT
              rcases t0 with rfl | ⟨rfl, hty⟩ | ⟨rfl, hty⟩
              · skip
                go_wp2_with fail
                refine (ER.out _ L2.out).mono ?_
                rintro e wb ⟨rfl, hl⟩
                have X4 := Lib.hid (X2.out.below hl)
                have L4 := Lib.hid (L2.out.trans (hl.mono L2.out.size))
                clear hl ER X2 L2 A2 z0 z1 a0 a1 a2 a3 a4 a5
                go_wp2
                go_roundw
                case rel => exact ⟨j + 1, by omega, by go_num, X4.out, L4.out⟩
                case measure => simp [intOf]; omega
              · have t1 : (r.ty != 2) = false := by simpa using hty
                clear hty
                go_wp2_with fail
                refine (ER.out _ L2.out).mono ?_
                rintro e wb ⟨rfl, hl⟩
                have X4 := Lib.hid (X2.out.below hl)
                have L4 := Lib.hid (L2.out.trans (hl.mono L2.out.size))
                clear hl ER X2 L2 A2 z0 z1 a0 a1 a2 a3 a4 a5
                go_wp2
                go_roundw
                case rel => exact ⟨j + 1, by omega, by go_num, X4.out, L4.out⟩
                case measure => simp [intOf]; omega
              · have t1 : (r.ty != 2) = true := by simp; omega
                have t2 : (r.ty != 1) = false := by simpa using hty
                clear hty
                go_wp2_with fail
                refine (ER.out _ L2.out).mono ?_
                rintro e wb ⟨rfl, hl⟩
                have X4 := Lib.hid (X2.out.below hl)
                have L4 := Lib.hid (L2.out.trans (hl.mono L2.out.size))
                clear hl ER X2 L2 A2 z0 z1 a0 a1 a2 a3 a4 a5
                go_wp2
                go_roundw
                case rel => exact ⟨j + 1, by omega, by go_num, X4.out, L4.out⟩
                case measure => simp [intOf]; omega
            · obtain rfl : m = j := by omega
              have HQ : Hid (Below w3.heap.size w3 wr) := HL.out
              have fq := field0 T0
              have s1 : (T0.name.toList == cm.toList) = true := by rw [SA.out]; simp
              have s2 : (T0.name.data.toList == cm.data.toList) = true := by rw [SA.out]; simp
              have SI2 : Hid (∀ W : World, ((W.cell? ⟨gz, 0, none⟩ = some (.string cm) ∧ W.cell? ⟨gz, 1, none⟩ = some (.slice (some ⟨gl, 0, none⟩) m cap)) ∧ Svz wr W) → Calls Tryd.prog 14 #[.agg #[.string cm, .slice (some ⟨gl, 0, none⟩) m cap]] W fun e w' => e = .returned (.agg #[.string T0.name, .int .i64 T0.ty, .int .i64 T0.ttl, .int .i64 T0.n, .string T0.host, .string T0.text]) ∧ Below W.heap.size W w') := fun W hW => SI.out W (HQ.out.trans ((show Below wr.heap.size wr W from hW.2).mono HQ.out.size))
              have SS0 : (wr.cell? ⟨gz, 0, none⟩ = some (.string cm) ∧ wr.cell? ⟨gz, 1, none⟩ = some (.slice (some ⟨gl, 0, none⟩) m cap)) ∧ Svz wr wr := ⟨HX.out, Below.refl _ _⟩
              go_upto_region 21 with (fail)
              clear z0 z1 HX
              go_region_held3 (fun w' => (w'.cell? ⟨gz, 0, none⟩ = some (.string cm) ∧ w'.cell? ⟨gz, 1, none⟩ = some (.slice (some ⟨gl, 0, none⟩) m cap)) ∧ Svz wr w')
                (first | with_reducible exact SS0 | with_reducible assumption | exact keptO (by assumption) hl | exact keptO_draw (by assumption) | fail)
                (first
                  | (go_at_call 14; (with_reducible refine (SI2.out _ (by assumption)).mono ?_); rintro e we ⟨rfl, hl⟩)
                  | fail)
              rename_i hH
              have hl := (show Below wr.heap.size wr we from hH.2)
              have LE := Lib.hid (L3.out.trans ((HQ.out.trans (hl.mono HQ.out.size)).mono L3.out.size))
              go_wp2
              go_ret
              exact ⟨rfl, LE.out⟩
    | false =>
      have IQ := IQ0
      have UQ := UQ0
      clear IQ0 UQ0
      go_wp2_with fail
      refine (CU.out _ LB3.out).mono ?_
      rintro e w4 ⟨rfl, hl⟩
      have LB4 := Lib.hid (LB3.out.trans (hl.mono LB3.out.size))
      have X4 := Lib.hid (X3.out.below hl)
      have Q4 := Lib.hid (kq_below Q3.out hl)
      clear hl LB3 X3 Q3 z0 z1 k0 k1
      obtain ⟨z0, z1⟩ := X4.out
      obtain ⟨k0, k1⟩ := Q4.out.1
      unfold cv
      go_wp2_with fail
      refine (CS.out _ LB4.out).mono ?_
      rintro e w5 ⟨gc, mc, cc, rc, rfl, hmc, hcc, hgc, hbc, hl⟩
      have LB5 := Lib.hid (LB4.out.trans (hl.mono LB4.out.size))
      have X5 := Lib.hid (X4.out.below hl)
      have Q5 := Lib.hid (kq_below Q4.out hl)
      have MC := Lib.hid hmc
      have R5 := Lib.hid hbc
      have mcl : mc ≤ 400000000 := by have := HCL.out; omega
      clear hmc hcc hgc hbc
      clear hl LB4 X4 Q4 z0 z1 k0 k1
      obtain ⟨z0, z1⟩ := X5.out
      obtain ⟨k0, k1⟩ := Q5.out.1
      go_upto_region 6 with (fail)
      have z0 : ∀ d os, (Sort.grow (redrawn w5 d) os).cell? _ = some _ := fun d os => (X5.out.drawn d os).1
      have z1 : ∀ d os, (Sort.grow (redrawn w5 d) os).cell? _ = some _ := fun d os => (X5.out.drawn d os).2
      have k0 : ∀ d os, (Sort.grow (redrawn w5 d) os).cell? _ = some _ := cell_regrown k0
      have k1 : ∀ d os, (Sort.grow (redrawn w5 d) os).cell? _ = some _ := cell_regrown k1
      have qs := SameR.neq_same T0
      go_wp2_with fail
      refine wp_region_quiet_below (by assumption) (by kernel_rfl) ?_
      iterate 23 (quiet_step (first | (go_at_call 10; with_reducible exact in_class2 ZO.out LB5.out) | (go_at_call 11; with_reducible exact in_class2 IQ.out LB5.out) | (go_at_call 12; with_reducible exact in_class2 UQ.out LB5.out)))
      repeat (quiet_step (first | (go_at_call 11; with_reducible exact in_class2 IA.out LB5.out) | (go_at_call 13; with_reducible exact in_class2 EA.out LB5.out) | (go_at_call 14; with_reducible exact in_class2 SI.out LB5.out) | (go_at_call 15; with_reducible exact in_class2 SS.out LB5.out)))
      refine wpQuiet_nil ?_
      intro w6 hw6
      have hl := of_class hw6
      have LB6 := Lib.hid (LB5.out.trans (hl.mono LB5.out.size))
      have X6 := Lib.hid (X5.out.below hl)
      have Q6 := Lib.hid (kq_below Q5.out hl)
      have R6 := Lib.hid (R5.out.below hl R5.out.lt)
      clear hw6 hl z0 z1 k0 k1 qs LB5 X5 Q5 R5
      obtain ⟨z0, z1⟩ := X6.out
      obtain ⟨k0, k1⟩ := Q6.out.1
      go_wp2
      clear z0 z1 k0 k1
      go_loopw [8] (fun i wr => ∃ j : Nat, j ≤ mc ∧ i = .int .i64 j ∧ Hid (Zx wr gz cm (.slice (some ⟨gl, 0, none⟩) m cap)) ∧ Hid (Bk wr gc 9 ((uq (cn cm R)).map tv ++ rc)) ∧ Hid (Below w3.heap.size w3 wr)) (fun i _ => mc - (intOf i).toNat)
      case atStart => exact ⟨0, Nat.zero_le _, rfl, X6.out, R6.out, LB6.out⟩
      case round =>
        clear X6 R6 LB6 Q6
        obtain ⟨j, hj, rfl, HX, HB, HL⟩ := hrel
        obtain ⟨z0, z1⟩ := HX.out
        by_cases hlt : j < mc
        · have hjl : j < (uq (cn cm R)).length := by rw [MC.out]; exact hlt
          have e0 : wr.cell? ⟨gc, j, none⟩ = some (.string (uq (cn cm R))[j]) := by rw [HB.out.cell, List.getElem?_append_left (by rw [List.length_map]; exact hjl), tv_get]
          have HY := Lib.hid (HCS.out _ (List.getElem_mem hjl))
          generalize (uq (cn cm R))[j] = y at *
          have IY : Hid (∀ W : World, Below w3.heap.size w3 W → Calls Tryd.prog 11 #[.agg #[.string cm, .slice (some ⟨gl, 0, none⟩) m cap], .string y] W fun e w' => e = .returned (.bool false) ∧ Below W.heap.size W w') := by have h := IN.out y HY.out.1; rwa [HY.out.2.1] at h
          have HP := Lib.hid HY.out.2.2
          have BW : Hid (∀ W, Svz wr W → Below w3.heap.size w3 W) := fun W hW => HL.out.trans ((show Below wr.heap.size wr W from hW).mono HL.out.size)
          have SY2 : Hid (∀ W : World, (((W.cell? ⟨gz, 0, none⟩ = some (.string cm) ∧ W.cell? ⟨gz, 1, none⟩ = some (.slice (some ⟨gl, 0, none⟩) m cap)) ∧ W.cell? ⟨gc, j, none⟩ = some (.string y)) ∧ Svz wr W) → Calls Tryd.prog 16 #[.slice (some ⟨gl, 0, none⟩) m cap, .string y, .int .i64 2] W (GivesL W (sf y 2 R))) := fun W hW => SE.out y W (BW.out W hW.2)
          have IY2 : Hid (∀ W : World, (((W.cell? ⟨gz, 0, none⟩ = some (.string cm) ∧ W.cell? ⟨gz, 1, none⟩ = some (.slice (some ⟨gl, 0, none⟩) m cap)) ∧ W.cell? ⟨gc, j, none⟩ = some (.string y)) ∧ Svz wr W) → Calls Tryd.prog 11 #[.agg #[.string cm, .slice (some ⟨gl, 0, none⟩) m cap], .string y] W fun e w' => e = .returned (.bool false) ∧ Below W.heap.size W w') := fun W hW => IY.out W (BW.out W hW.2)
          have SS0 : ((wr.cell? ⟨gz, 0, none⟩ = some (.string cm) ∧ wr.cell? ⟨gz, 1, none⟩ = some (.slice (some ⟨gl, 0, none⟩) m cap)) ∧ wr.cell? ⟨gc, j, none⟩ = some (.string y)) ∧ Svz wr wr := ⟨⟨HX.out, e0⟩, Below.refl _ _⟩
          go_wp2
          go_region_held3 (fun w' => ((w'.cell? ⟨gz, 0, none⟩ = some (.string cm) ∧ w'.cell? ⟨gz, 1, none⟩ = some (.slice (some ⟨gl, 0, none⟩) m cap)) ∧ w'.cell? ⟨gc, j, none⟩ = some (.string y)) ∧ Svz wr w')
            (first | with_reducible exact SS0 | with_reducible assumption | exact keptC (by assumption) hl | exact keptC_draw (by assumption) | fail)
            (first
              | (go_at_call 16; (with_reducible refine (SY2.out _ (by assumption)).mono ?_); rintro e w11 ⟨gs, ms, cs, rs, rfl, hms, hc, hg, hb, hl⟩; have hms0 : ((ms : Int) == 0) = false := (by have := HP.out; simp; omega))
              | (go_at_call 11; (with_reducible refine (IY2.out _ (by assumption)).mono ?_); rintro e w12 ⟨rfl, hl⟩)
              | fail)
          rename_i hH
          have hz : Below wr.heap.size wr w12 := hH.2
          have X10 := Lib.hid (HX.out.below hz)
          have B10 := Lib.hid (HB.out.below hz HB.out.lt)
          have L10 := Lib.hid (HL.out.trans (hz.mono HL.out.size))
          clear hH hz hl hb hg hc hms hms0 SS0 SY2 IY2 IY HP HY BW e0 z0 z1 HX HB HL
          go_wp2
          go_roundw
          case rel => exact ⟨j + 1, by omega, by go_num, X10.out, B10.out, L10.out⟩
          case measure => simp [intOf]; omega
        · obtain rfl : mc = j := by omega
          go_wp2
          clear z0 z1
          go_loopw [9] (fun i wr => ∃ j : Nat, j ≤ m ∧ i = .int .i64 j ∧ Hid (Zx wr gz cm (.slice (some ⟨gl, 0, none⟩) m cap)) ∧ Hid (Below w3.heap.size w3 wr)) (fun i _ => m - (intOf i).toNat)
          case atStart => exact ⟨0, Nat.zero_le _, rfl, HX.out, HL.out⟩
          case round =>
            clear HX HL HB
            obtain ⟨j, hj, rfl, HX, HL⟩ := hrel
            obtain ⟨z0, z1⟩ := HX.out
            have ltz := HX.out.lt
            by_cases hlt2 : j < m
            · obtain ⟨b, off, hA, hbB, hcs⟩ := S3.out.2 (by omega)
              obtain ⟨rfl, rfl⟩ : gl = b ∧ 0 = off := by simp at hA; exact hA
              clear hA
              have hjl : j < R.length := by rw [HN.out]; exact hlt2
              obtain ⟨e0, e1, e2, e3, e4, e5⟩ : Ce wr gl (j * 6) R[j] := by have := (hcs j hjl).below HL.out hbB; rwa [Nat.zero_add] at this
              clear hcs
              have HI := Lib.hid (HRI.out _ (List.getElem_mem hjl))
              have IR := Lib.hid (IN.out _ (NMS.out _ (List.getElem_mem hjl)))
              have ER : Hid (∀ W : World, Below w3.heap.size w3 W → Calls Tryd.prog 13 #[.agg #[.string cm, .slice (some ⟨gl, 0, none⟩) m cap], .string R[j].name] W fun e w' => e = .returned (.bool true) ∧ Below W.heap.size W w') := by have h := EX.out _ (NMS.out _ (List.getElem_mem hjl)); rwa [HRE.out _ (List.getElem_mem hjl)] at h
              generalize R[j] = r at *
              have A1 := Lib.hid (bx_new wr 39 r)
              have X1 := Lib.hid (HX.out.alloc (.cells #[.string r.name, .int .i64 r.ty, .int .i64 r.ttl, .int .i64 r.n, .string r.host, .string r.text] 39))
              have L1 := Lib.hid (HL.out.alloc HL.out.size (.cells #[.string r.name, .int .i64 r.ty, .int .i64 r.ttl, .int .i64 r.n, .string r.host, .string r.text] 39))
              generalize iz cm r.name R = v at *
              have HT : Hid (v = true ∨ (v = false ∧ r.ty = 2) ∨ (v = false ∧ r.ty = 1)) := by
                show _ ∨ _
                rcases HI.out with h | h | h
                · exact Or.inl h
                · cases v
                  · exact Or.inr (Or.inl ⟨rfl, h⟩)
                  · exact Or.inl rfl
                · cases v
                  · exact Or.inr (Or.inr ⟨rfl, h⟩)
                  · exact Or.inl rfl
              clear HI
              go_wp2_with fail
              refine (IR.out _ L1.out).mono ?_
              rintro e wa ⟨rfl, hl⟩
              have A2 := Lib.hid (A1.out.below hl)
              have X2 := Lib.hid (X1.out.below hl)
              have L2 := Lib.hid (L1.out.trans (hl.mono L1.out.size))
              clear hl A1 X1 L1 IR z0 z1 e0 e1 e2 e3 e4 e5 HX HL ltz
              generalize wr.heap.size = ga at *
              obtain ⟨z0, z1⟩ := X2.out
              obtain ⟨a0, a1, a2, a3, a4, a5⟩ := A2.out
              have t0 := HT.out
              clear HT
              rcases t0 with rfl | ⟨rfl, hty⟩ | ⟨rfl, hty⟩
              · skip
                go_wp2_with fail
                refine (ER.out _ L2.out).mono ?_
                rintro e wb ⟨rfl, hl⟩
                have X4 := Lib.hid (X2.out.below hl)
                have L4 := Lib.hid (L2.out.trans (hl.mono L2.out.size))
                clear hl ER X2 L2 A2 z0 z1 a0 a1 a2 a3 a4 a5
                go_wp2
                go_roundw
                case rel => exact ⟨j + 1, by omega, by go_num, X4.out, L4.out⟩
                case measure => simp [intOf]; omega
              · have t1 : (r.ty != 2) = false := by simpa using hty
                clear hty
                go_wp2_with fail
                refine (ER.out _ L2.out).mono ?_
                rintro e wb ⟨rfl, hl⟩
                have X4 := Lib.hid (X2.out.below hl)
                have L4 := Lib.hid (L2.out.trans (hl.mono L2.out.size))
                clear hl ER X2 L2 A2 z0 z1 a0 a1 a2 a3 a4 a5
                go_wp2
                go_roundw
                case rel => exact ⟨j + 1, by omega, by go_num, X4.out, L4.out⟩
                case measure => simp [intOf]; omega
              · have t1 : (r.ty != 2) = true := by simp; omega
                have t2 : (r.ty != 1) = false := by simpa using hty
                clear hty
                go_wp2_with fail
                refine (ER.out _ L2.out).mono ?_
                rintro e wb ⟨rfl, hl⟩
                have X4 := Lib.hid (X2.out.below hl)
                have L4 := Lib.hid (L2.out.trans (hl.mono L2.out.size))
                clear hl ER X2 L2 A2 z0 z1 a0 a1 a2 a3 a4 a5
                go_wp2
                go_roundw
                case rel => exact ⟨j + 1, by omega, by go_num, X4.out, L4.out⟩
                case measure => simp [intOf]; omega
            · obtain rfl : m = j := by omega
              have HQ : Hid (Below w3.heap.size w3 wr) := HL.out
              have fq := field0 T0
              have s1 : (T0.name.toList == cm.toList) = true := by rw [SA.out]; simp
              have s2 : (T0.name.data.toList == cm.data.toList) = true := by rw [SA.out]; simp
              have SI2 : Hid (∀ W : World, ((W.cell? ⟨gz, 0, none⟩ = some (.string cm) ∧ W.cell? ⟨gz, 1, none⟩ = some (.slice (some ⟨gl, 0, none⟩) m cap)) ∧ Svz wr W) → Calls Tryd.prog 14 #[.agg #[.string cm, .slice (some ⟨gl, 0, none⟩) m cap]] W fun e w' => e = .returned (.agg #[.string T0.name, .int .i64 T0.ty, .int .i64 T0.ttl, .int .i64 T0.n, .string T0.host, .string T0.text]) ∧ Below W.heap.size W w') := fun W hW => SI.out W (HQ.out.trans ((show Below wr.heap.size wr W from hW.2).mono HQ.out.size))
              have SS0 : (wr.cell? ⟨gz, 0, none⟩ = some (.string cm) ∧ wr.cell? ⟨gz, 1, none⟩ = some (.slice (some ⟨gl, 0, none⟩) m cap)) ∧ Svz wr wr := ⟨HX.out, Below.refl _ _⟩
              go_upto_region 21 with (fail)
              clear z0 z1 HX
              go_region_held3 (fun w' => (w'.cell? ⟨gz, 0, none⟩ = some (.string cm) ∧ w'.cell? ⟨gz, 1, none⟩ = some (.slice (some ⟨gl, 0, none⟩) m cap)) ∧ Svz wr w')
                (first | with_reducible exact SS0 | with_reducible assumption | exact keptO (by assumption) hl | exact keptO_draw (by assumption) | fail)
                (first
                  | (go_at_call 14; (with_reducible refine (SI2.out _ (by assumption)).mono ?_); rintro e we ⟨rfl, hl⟩)
                  | fail)
              rename_i hH
              have hl := (show Below wr.heap.size wr we from hH.2)
              have LE := Lib.hid (L3.out.trans ((HQ.out.trans (hl.mono HQ.out.size)).mono L3.out.size))
              go_wp2
              go_ret
              exact ⟨rfl, LE.out⟩
  | some x =>
    obtain ⟨hx1, hx2, hx3, hx4⟩ := HO.out x hco
    have IQ := Lib.hid (IN.out nm NB.out)
    rw [HIZ1.out x hco] at IQ
    have UQ := Lib.hid (UN.out nm cm NB.out HC5.out)
    rw [hx4] at UQ
    have U1 := Lib.hid (UN.out nm x NB.out (HOS.out x hco))
    rw [hx1] at U1
    have U2 := Lib.hid (UN.out x cm (HOS.out x hco) HC5.out)
    rw [hx3] at U2
    have n1 : (x.toList == cm.toList) = false := text_ne hx2
    have n2 : (x.data.toList == cm.data.toList) = false := text_ne2 hx2
    rw [hco] at CU
    clear hco HO HOS HIZ0 HIZ1 hx1 hx2 hx3 hx4
    go_wp2_with fail
    refine (CU.out _ LB3.out).mono ?_
    rintro e w4 ⟨rfl, hl⟩
    have LB4 := Lib.hid (LB3.out.trans (hl.mono LB3.out.size))
    have X4 := Lib.hid (X3.out.below hl)
    have Q4 := Lib.hid (kq_below Q3.out hl)
    clear hl LB3 X3 Q3 z0 z1 k0 k1
    obtain ⟨z0, z1⟩ := X4.out
    obtain ⟨k0, k1⟩ := Q4.out.1
    unfold cv
    go_wp2_with fail
    refine (CS.out _ LB4.out).mono ?_
    rintro e w5 ⟨gc, mc, cc, rc, rfl, hmc, hcc, hgc, hbc, hl⟩
    have LB5 := Lib.hid (LB4.out.trans (hl.mono LB4.out.size))
    have X5 := Lib.hid (X4.out.below hl)
    have Q5 := Lib.hid (kq_below Q4.out hl)
    have MC := Lib.hid hmc
    have R5 := Lib.hid hbc
    have mcl : mc ≤ 400000000 := by have := HCL.out; omega
    clear hmc hcc hgc hbc
    clear hl LB4 X4 Q4 z0 z1 k0 k1
    obtain ⟨z0, z1⟩ := X5.out
    obtain ⟨k0, k1⟩ := Q5.out.1
    go_upto_region 6 with (fail)
    have z0 : ∀ d os, (Sort.grow (redrawn w5 d) os).cell? _ = some _ := fun d os => (X5.out.drawn d os).1
    have z1 : ∀ d os, (Sort.grow (redrawn w5 d) os).cell? _ = some _ := fun d os => (X5.out.drawn d os).2
    have k0 : ∀ d os, (Sort.grow (redrawn w5 d) os).cell? _ = some _ := cell_regrown k0
    have k1 : ∀ d os, (Sort.grow (redrawn w5 d) os).cell? _ = some _ := cell_regrown k1
    have qs := SameR.neq_same T0
    go_wp2_with fail
    refine wp_region_quiet_below (by assumption) (by kernel_rfl) ?_
    iterate 23 (quiet_step (first | (go_at_call 10; with_reducible exact in_class2 ZO.out LB5.out) | (go_at_call 11; with_reducible exact in_class2 IQ.out LB5.out) | (go_at_call 12; with_reducible exact in_class2 UQ.out LB5.out)))
    repeat (quiet_step (first | (go_at_call 11; with_reducible exact in_class2 IA.out LB5.out) | (go_at_call 13; with_reducible exact in_class2 EA.out LB5.out) | (go_at_call 14; with_reducible exact in_class2 SI.out LB5.out) | (go_at_call 15; with_reducible exact in_class2 SS.out LB5.out)))
    refine wpQuiet_nil ?_
    intro w6 hw6
    have hl := of_class hw6
    have LB6 := Lib.hid (LB5.out.trans (hl.mono LB5.out.size))
    have X6 := Lib.hid (X5.out.below hl)
    have Q6 := Lib.hid (kq_below Q5.out hl)
    have R6 := Lib.hid (R5.out.below hl R5.out.lt)
    clear hw6 hl z0 z1 k0 k1 qs LB5 X5 Q5 R5
    obtain ⟨z0, z1⟩ := X6.out
    obtain ⟨k0, k1⟩ := Q6.out.1
    go_wp2_with fail
    refine (U1.out _ LB6.out).mono ?_
    rintro e w7 ⟨rfl, hl⟩
    have LB7 := Lib.hid (LB6.out.trans (hl.mono LB6.out.size))
    have X7 := Lib.hid (X6.out.below hl)
    have Q7 := Lib.hid (kq_below Q6.out hl)
    have R7 := Lib.hid (R6.out.below hl R6.out.lt)
    clear hl R6 LB6 X6 Q6 z0 z1 k0 k1
    obtain ⟨z0, z1⟩ := X7.out
    obtain ⟨k0, k1⟩ := Q7.out.1
    go_wp2_with fail
    refine (U2.out _ LB7.out).mono ?_
    rintro e w8 ⟨rfl, hl⟩
    have LB8 := Lib.hid (LB7.out.trans (hl.mono LB7.out.size))
    have X8 := Lib.hid (X7.out.below hl)
    have Q8 := Lib.hid (kq_below Q7.out hl)
    have R8 := Lib.hid (R7.out.below hl R7.out.lt)
    clear hl R7 LB7 X7 Q7 z0 z1 k0 k1
    obtain ⟨z0, z1⟩ := X8.out
    obtain ⟨k0, k1⟩ := Q8.out.1
    go_wp2
    clear z0 z1 k0 k1
    go_loopw [8] (fun i wr => ∃ j : Nat, j ≤ mc ∧ i = .int .i64 j ∧ Hid (Zx wr gz cm (.slice (some ⟨gl, 0, none⟩) m cap)) ∧ Hid (Bk wr gc 9 ((uq (cn cm R)).map tv ++ rc)) ∧ Hid (Below w3.heap.size w3 wr)) (fun i _ => mc - (intOf i).toNat)
    case atStart => exact ⟨0, Nat.zero_le _, rfl, X8.out, R8.out, LB8.out⟩
    case round =>
      clear X8 R8 LB8 Q8
      obtain ⟨j, hj, rfl, HX, HB, HL⟩ := hrel
      obtain ⟨z0, z1⟩ := HX.out
      by_cases hlt : j < mc
      · have hjl : j < (uq (cn cm R)).length := by rw [MC.out]; exact hlt
        have e0 : wr.cell? ⟨gc, j, none⟩ = some (.string (uq (cn cm R))[j]) := by rw [HB.out.cell, List.getElem?_append_left (by rw [List.length_map]; exact hjl), tv_get]
        have HY := Lib.hid (HCS.out _ (List.getElem_mem hjl))
        generalize (uq (cn cm R))[j] = y at *
        have IY : Hid (∀ W : World, Below w3.heap.size w3 W → Calls Tryd.prog 11 #[.agg #[.string cm, .slice (some ⟨gl, 0, none⟩) m cap], .string y] W fun e w' => e = .returned (.bool false) ∧ Below W.heap.size W w') := by have h := IN.out y HY.out.1; rwa [HY.out.2.1] at h
        have HP := Lib.hid HY.out.2.2
        have BW : Hid (∀ W, Svz wr W → Below w3.heap.size w3 W) := fun W hW => HL.out.trans ((show Below wr.heap.size wr W from hW).mono HL.out.size)
        have SY2 : Hid (∀ W : World, (((W.cell? ⟨gz, 0, none⟩ = some (.string cm) ∧ W.cell? ⟨gz, 1, none⟩ = some (.slice (some ⟨gl, 0, none⟩) m cap)) ∧ W.cell? ⟨gc, j, none⟩ = some (.string y)) ∧ Svz wr W) → Calls Tryd.prog 16 #[.slice (some ⟨gl, 0, none⟩) m cap, .string y, .int .i64 2] W (GivesL W (sf y 2 R))) := fun W hW => SE.out y W (BW.out W hW.2)
        have IY2 : Hid (∀ W : World, (((W.cell? ⟨gz, 0, none⟩ = some (.string cm) ∧ W.cell? ⟨gz, 1, none⟩ = some (.slice (some ⟨gl, 0, none⟩) m cap)) ∧ W.cell? ⟨gc, j, none⟩ = some (.string y)) ∧ Svz wr W) → Calls Tryd.prog 11 #[.agg #[.string cm, .slice (some ⟨gl, 0, none⟩) m cap], .string y] W fun e w' => e = .returned (.bool false) ∧ Below W.heap.size W w') := fun W hW => IY.out W (BW.out W hW.2)
        have SS0 : ((wr.cell? ⟨gz, 0, none⟩ = some (.string cm) ∧ wr.cell? ⟨gz, 1, none⟩ = some (.slice (some ⟨gl, 0, none⟩) m cap)) ∧ wr.cell? ⟨gc, j, none⟩ = some (.string y)) ∧ Svz wr wr := ⟨⟨HX.out, e0⟩, Below.refl _ _⟩
        go_wp2
        go_region_held3 (fun w' => ((w'.cell? ⟨gz, 0, none⟩ = some (.string cm) ∧ w'.cell? ⟨gz, 1, none⟩ = some (.slice (some ⟨gl, 0, none⟩) m cap)) ∧ w'.cell? ⟨gc, j, none⟩ = some (.string y)) ∧ Svz wr w')
          (first | with_reducible exact SS0 | with_reducible assumption | exact keptC (by assumption) hl | exact keptC_draw (by assumption) | fail)
          (first
            | (go_at_call 16; (with_reducible refine (SY2.out _ (by assumption)).mono ?_); rintro e w11 ⟨gs, ms, cs, rs, rfl, hms, hc, hg, hb, hl⟩; have hms0 : ((ms : Int) == 0) = false := (by have := HP.out; simp; omega))
            | (go_at_call 11; (with_reducible refine (IY2.out _ (by assumption)).mono ?_); rintro e w12 ⟨rfl, hl⟩)
            | fail)
        rename_i hH
        have hz : Below wr.heap.size wr w12 := hH.2
        have X10 := Lib.hid (HX.out.below hz)
        have B10 := Lib.hid (HB.out.below hz HB.out.lt)
        have L10 := Lib.hid (HL.out.trans (hz.mono HL.out.size))
        clear hH hz hl hb hg hc hms hms0 SS0 SY2 IY2 IY HP HY BW e0 z0 z1 HX HB HL
        go_wp2
        go_roundw
        case rel => exact ⟨j + 1, by omega, by go_num, X10.out, B10.out, L10.out⟩
        case measure => simp [intOf]; omega
      · obtain rfl : mc = j := by omega
        go_wp2
        clear z0 z1
        go_loopw [9] (fun i wr => ∃ j : Nat, j ≤ m ∧ i = .int .i64 j ∧ Hid (Zx wr gz cm (.slice (some ⟨gl, 0, none⟩) m cap)) ∧ Hid (Below w3.heap.size w3 wr)) (fun i _ => m - (intOf i).toNat)
        case atStart => exact ⟨0, Nat.zero_le _, rfl, HX.out, HL.out⟩
        case round =>
          clear HX HL HB
          obtain ⟨j, hj, rfl, HX, HL⟩ := hrel
          obtain ⟨z0, z1⟩ := HX.out
          have ltz := HX.out.lt
          by_cases hlt2 : j < m
          · obtain ⟨b, off, hA, hbB, hcs⟩ := S3.out.2 (by omega)
            obtain ⟨rfl, rfl⟩ : gl = b ∧ 0 = off := by simp at hA; exact hA
            clear hA
            have hjl : j < R.length := by rw [HN.out]; exact hlt2
            obtain ⟨e0, e1, e2, e3, e4, e5⟩ : Ce wr gl (j * 6) R[j] := by have := (hcs j hjl).below HL.out hbB; rwa [Nat.zero_add] at this
            clear hcs
            have HI := Lib.hid (HRI.out _ (List.getElem_mem hjl))
            have IR := Lib.hid (IN.out _ (NMS.out _ (List.getElem_mem hjl)))
            have ER : Hid (∀ W : World, Below w3.heap.size w3 W → Calls Tryd.prog 13 #[.agg #[.string cm, .slice (some ⟨gl, 0, none⟩) m cap], .string R[j].name] W fun e w' => e = .returned (.bool true) ∧ Below W.heap.size W w') := by have h := EX.out _ (NMS.out _ (List.getElem_mem hjl)); rwa [HRE.out _ (List.getElem_mem hjl)] at h
            generalize R[j] = r at *
            have A1 := Lib.hid (bx_new wr 39 r)
            have X1 := Lib.hid (HX.out.alloc (.cells #[.string r.name, .int .i64 r.ty, .int .i64 r.ttl, .int .i64 r.n, .string r.host, .string r.text] 39))
            have L1 := Lib.hid (HL.out.alloc HL.out.size (.cells #[.string r.name, .int .i64 r.ty, .int .i64 r.ttl, .int .i64 r.n, .string r.host, .string r.text] 39))
            generalize iz cm r.name R = v at *
            have HT : Hid (v = true ∨ (v = false ∧ r.ty = 2) ∨ (v = false ∧ r.ty = 1)) := by
              show _ ∨ _
              rcases HI.out with h | h | h
              · exact Or.inl h
              · cases v
                · exact Or.inr (Or.inl ⟨rfl, h⟩)
                · exact Or.inl rfl
              · cases v
                · exact Or.inr (Or.inr ⟨rfl, h⟩)
                · exact Or.inl rfl
            clear HI
            go_wp2_with fail
            refine (IR.out _ L1.out).mono ?_
            rintro e wa ⟨rfl, hl⟩
            have A2 := Lib.hid (A1.out.below hl)
            have X2 := Lib.hid (X1.out.below hl)
            have L2 := Lib.hid (L1.out.trans (hl.mono L1.out.size))
            clear hl A1 X1 L1 IR z0 z1 e0 e1 e2 e3 e4 e5 HX HL ltz
            generalize wr.heap.size = ga at *
            obtain ⟨z0, z1⟩ := X2.out
            obtain ⟨a0, a1, a2, a3, a4, a5⟩ := A2.out
            have t0 := HT.out
            clear HT
            rcases t0 with rfl | ⟨rfl, hty⟩ | ⟨rfl, hty⟩
            · skip
              go_wp2_with fail
              refine (ER.out _ L2.out).mono ?_
              rintro e wb ⟨rfl, hl⟩
              have X4 := Lib.hid (X2.out.below hl)
              have L4 := Lib.hid (L2.out.trans (hl.mono L2.out.size))
              clear hl ER X2 L2 A2 z0 z1 a0 a1 a2 a3 a4 a5
              go_wp2
              go_roundw
              case rel => exact ⟨j + 1, by omega, by go_num, X4.out, L4.out⟩
              case measure => simp [intOf]; omega
            · have t1 : (r.ty != 2) = false := by simpa using hty
              clear hty
              go_wp2_with fail
              refine (ER.out _ L2.out).mono ?_
              rintro e wb ⟨rfl, hl⟩
              have X4 := Lib.hid (X2.out.below hl)
              have L4 := Lib.hid (L2.out.trans (hl.mono L2.out.size))
              clear hl ER X2 L2 A2 z0 z1 a0 a1 a2 a3 a4 a5
              go_wp2
              go_roundw
              case rel => exact ⟨j + 1, by omega, by go_num, X4.out, L4.out⟩
              case measure => simp [intOf]; omega
            · have t1 : (r.ty != 2) = true := by simp; omega
              have t2 : (r.ty != 1) = false := by simpa using hty
              clear hty
              go_wp2_with fail
              refine (ER.out _ L2.out).mono ?_
              rintro e wb ⟨rfl, hl⟩
              have X4 := Lib.hid (X2.out.below hl)
              have L4 := Lib.hid (L2.out.trans (hl.mono L2.out.size))
              clear hl ER X2 L2 A2 z0 z1 a0 a1 a2 a3 a4 a5
              go_wp2
              go_roundw
              case rel => exact ⟨j + 1, by omega, by go_num, X4.out, L4.out⟩
              case measure => simp [intOf]; omega
          · obtain rfl : m = j := by omega
            have HQ : Hid (Below w3.heap.size w3 wr) := HL.out
            have fq := field0 T0
            have s1 : (T0.name.toList == cm.toList) = true := by rw [SA.out]; simp
            have s2 : (T0.name.data.toList == cm.data.toList) = true := by rw [SA.out]; simp
            have SI2 : Hid (∀ W : World, ((W.cell? ⟨gz, 0, none⟩ = some (.string cm) ∧ W.cell? ⟨gz, 1, none⟩ = some (.slice (some ⟨gl, 0, none⟩) m cap)) ∧ Svz wr W) → Calls Tryd.prog 14 #[.agg #[.string cm, .slice (some ⟨gl, 0, none⟩) m cap]] W fun e w' => e = .returned (.agg #[.string T0.name, .int .i64 T0.ty, .int .i64 T0.ttl, .int .i64 T0.n, .string T0.host, .string T0.text]) ∧ Below W.heap.size W w') := fun W hW => SI.out W (HQ.out.trans ((show Below wr.heap.size wr W from hW.2).mono HQ.out.size))
            have SS0 : (wr.cell? ⟨gz, 0, none⟩ = some (.string cm) ∧ wr.cell? ⟨gz, 1, none⟩ = some (.slice (some ⟨gl, 0, none⟩) m cap)) ∧ Svz wr wr := ⟨HX.out, Below.refl _ _⟩
            go_upto_region 21 with (fail)
            clear z0 z1 HX
            go_region_held3 (fun w' => (w'.cell? ⟨gz, 0, none⟩ = some (.string cm) ∧ w'.cell? ⟨gz, 1, none⟩ = some (.slice (some ⟨gl, 0, none⟩) m cap)) ∧ Svz wr w')
              (first | with_reducible exact SS0 | with_reducible assumption | exact keptO (by assumption) hl | exact keptO_draw (by assumption) | fail)
              (first
                | (go_at_call 14; (with_reducible refine (SI2.out _ (by assumption)).mono ?_); rintro e we ⟨rfl, hl⟩)
                | fail)
            rename_i hH
            have hl := (show Below wr.heap.size wr we from hH.2)
            have LE := Lib.hid (L3.out.trans ((HQ.out.trans (hl.mono HQ.out.size)).mono L3.out.size))
            go_wp2
            go_ret
            exact ⟨rfl, LE.out⟩

end Go.Proofs.YtkpcanigdppegaaDoor.LawZones

/- What the world's shape gives the walks of this seat, and one world in which the listed tables of unicode/utf8 read as their text lays them. -/
namespace Go.Proofs.YtkpcanigdppegaaDoor.LaidU
open Go.RowKit Go.Proofs.YtkpcanigdppegaaDoor.Labels

theorem env {W : World} (h : W.ShapedOpen Tryd.prog) : Env W := Tryd.laysM146.s1_3 W h

def acc : List Int := [128, 191, 160, 191, 128, 159, 144, 191, 128, 143, 0, 0, 0, 0, 0, 0, 0, 0, 0, 0, 0, 0, 0, 0, 0, 0, 0, 0, 0, 0, 0, 0]
theorem gFirst : Tryd.prog.globalNamed "unicode/utf8.first" = some 1 := by kernel_rfl
theorem gAcc : Tryd.prog.globalNamed "unicode/utf8.acceptRanges" = some 2 := by kernel_rfl
/-- A block of cells, with other cells in it. -/
def put (cs : Array Value) : Obj → Obj
  | .cells _ t frozen => .cells cs t frozen
  | o => o
/-- The settled world, the two tables holding what their text lays. -/
noncomputable def laidWorld (os : Os) : World :=
  { World.holding Tryd.prog os ⟨#[], #[], []⟩ with heap := ((World.holding Tryd.prog os ⟨#[], #[], []⟩).heap.modify 1 (put (Go.Pinned.utf8FirstZ.map (fun n : Nat => Value.int .u8 (n : Int))).toArray)).modify 2 (put (acc.map (Value.int .u8)).toArray) }
def two : List (String × DataW Unit) := [("unicode/utf8.acceptRanges", Rows.laid_unicode_utf8_acceptRanges), ("unicode/utf8.first", Rows.laid_unicode_utf8_first)]
theorem laid_met (os : Os) (args : Array Value) : laidMet Tryd.prog two ((laidWorld os).forCall (fun _ _ => 0) ⟨#[], args, []⟩).memory :=
  laidMet_of_run' 8 (by kernel_rfl) (by kernel_rfl)
end Go.Proofs.YtkpcanigdppegaaDoor.LaidU

/- On every slice of bytes the law FnZones returns true: a name is in a zone, under a cut of it, or not under its apex, and every record except those of cuts is in the zone, where the listed tables of the library read as their text lays them (the card ties that to the program's text). -/
namespace Go.Proofs.YtkpcanigdppegaaDoor.zonesCard
open Go.ChangeShapes Go.WideShapes Go.ChangeAt Go.RowKit Go.Proofs.YtkpcanigdppegaaDoor.LaidU Go.Proofs.YtkpcanigdppegaaDoor.Mem

theorem own : ownKnob Tryd.prog.godebug = none := by kernel_rfl
theorem laidOut : laidOutB Tryd.prog = true := by kernel_rfl

set_option maxRecDepth 100000 in
theorem contract (H : Type) (enc : TypeId × Value → H) (W : World) (base : Nat) (args : Array Value) (ds gs : List (DataW H)) (before : List MemPlace)
    (hval0 : ∀ (j : Nat) t v, Tryd.f3.params[j]? = some t → args[j]? = some v → Value.okWide Tryd.prog W .any base t v)
    (hW : DataW.Whole enc Tryd.prog Tryd.f3.params.toList Rows.fnZonesSpec.vars false W args.toList ds gs before) (hsh : W.ShapedOpen Tryd.prog) :
    Calls Tryd.prog 3 args W fun e W' => ∃ v, e = .returned v ∧ Rows.fnZonesSpec.post enc Tryd.prog Tryd.f3 false true false false W args v W' := by
  have hval : ∀ (j : Nat) t v, Tryd.f3.params[j]? = some t → args[j]? = some v → Value.okWide Tryd.prog W .any base t v := hval0
  have hW' := hW
  obtain ⟨p, q, hA0, hV, rfl, _, _⟩ := hW
  have hA : DataW.TrodAll enc Tryd.prog W 0 (fun _ => true) true Tryd.f3.params.toList args.toList ds p := hA0
  rw [Tryd.params3] at hA hval
  obtain ⟨v0, vs0, d0, ds0, p0, q0, _, rfl, rfl, h0, r0⟩ := trodAll_cons hA
  obtain ⟨rfl, rfl, rfl⟩ := trodAll_nil r0
  obtain rfl : args = #[v0] := by cases args; simp_all
  obtain ⟨rfl, rfl⟩ := trodVars_none hV
  obtain ⟨a0, len0, cap0, rfl⟩ := okWide_slice Tryd.underlying22 (hval 0 22 v0 rfl rfl)
  have k0 := h0
  have lt0 : ∀ x ∈ p0, x.block < W.heap.size := by obtain ⟨m, hm⟩ := k0; exact DataW.trod_lt m _ _ _ hm
  obtain ⟨l0, s0, c0, z0⟩ : ∃ l : List UInt8, Sl W W.heap.size a0 len0 l ∧ len0 ≤ cap0 ∧ (a0 = none → len0 = 0 ∧ cap0 = 0) := by
    obtain ⟨fuel, hf⟩ := h0
    rcases open_ints Tryd.underlying22 Tryd.underlying5 (by kernel_rfl) hf with ⟨hcs, _⟩ | ⟨x, l, c, zs, hcs, _, hl, hm, hz, _, hcell, hwz⟩
    · simp [Value.cells] at hcs
      obtain ⟨rfl, rfl, rfl⟩ := hcs
      exact sl_of_row (zs := []) (.inl ⟨rfl, rfl, rfl, rfl⟩)
    · simp [Value.cells] at hcs
      obtain ⟨rfl, rfl, rfl⟩ := hcs
      exact sl_of_row (zs := zs) (.inr ⟨_, rfl, hl, hm, by simpa using hz, hcell, hwz⟩)
  clear hA0 hval0
  refine (LawZones.walk a0 len0 cap0 l0 W (env hsh) s0 c0 z0).mono fun e W' ⟨he, bel⟩ => ?_
  subst he
  exact ⟨_, rfl, _, _, _, [], _, [], hW', trodAll_mk1 (shut_bool Tryd.underlying4 _), (trodAll_cons_mk (Below.trod laidOut (by kernel_rfl) (of_decide_eq_true (by kernel_rfl)) k0 bel lt0) trodAll_mk0), rfl, bel.frame _, fun h => by cases h⟩

theorem reads (os : Os) {H : Type} (enc : TypeId × Value → H) : ∃ places, DataW.whole enc Tryd.prog ((laidWorld os).forCall (fun _ _ => 0) ⟨#[], #[.slice none 0 0], []⟩).memory Tryd.f3.params.toList Rows.fnZonesSpec.vars false #[Value.slice none 0 0].toList 8 = some ([.nil], [], places) :=
  ⟨[], by kernel_rfl⟩

set_option maxRecDepth 100000 in
theorem lifted (os : Os) (started : os.Started) (H : Type) (enc : TypeId × Value → H) (F : Stop.Interp) :
    ReturnsInHanded {} Tryd.checked os 3 .any ((OpenSpec.ofChange Rows.fnZonesSpec).preRow enc Tryd.prog Tryd.f3 Rows.fnZonesRow.domain false Rows.fnZonesRow.laid) (((OpenSpec.ofChange Rows.fnZonesSpec).at F).post enc Tryd.prog Tryd.f3 false true false false) := by
  obtain ⟨places, hx⟩ := reads os enc
  refine returnsInHanded_of_row (C := Tryd.checked) (s := OpenSpec.ofChange Rows.fnZonesSpec) own started (by kernel_rfl) Tryd.func3
    (witness_row_at (enc := enc) (C := Tryd.checked) false (laidWorld os) #[.slice none 0 0] rfl (by kernel_rfl) (by kernel_rfl) (by kernel_rfl)
      (OpenSpec.preRow_of_cond 8 hx (by kernel_rfl) (fun k hk => by cases hk) (by kernel_rfl) (laid_met os _))) ?_
  intro W base args ds gs before hval hW _ _ _ _ hsh _
  exact contract H enc W base args ds gs before hval hW hsh

theorem said : Rows.FnZonesSaid :=
  OpenClaim.holds_of_cond 3 Tryd.f3 rfl rfl rfl rfl rfl rfl rfl ⟨rfl, rfl, rfl, rfl, rfl⟩ rfl rfl rfl rfl rfl (by kernel_rfl) Tryd.func3 (by kernel_rfl)
    (of_decide_eq_true (by kernel_rfl)) (by unfold Func.isWrapper; first | (rw [if_pos (by decide +kernel)]; kernel_rfl) | (rw [if_neg (by decide +kernel)]; exact ⟨rfl, rfl⟩))
    (fun os started H enc _ F => by rw [OpenClaim.pre_eq_preRow]; exact lifted os started H enc F)

theorem plain (f : FuncId) (fn : Func) (hf : Tryd.pinned.checked.prog.funcNamed "loop.example/g00497/laws.FnZones" = some f) (hfn : Tryd.pinned.checked.prog.funcs[f]? = some fn) :
    false = Tryd.pinned.checked.prog.looks [] ∧ ∀ (j : Nat) t, fn.params[j]? = some t → Tryd.pinned.checked.prog.wantsStandIn t = false := by
  obtain rfl : f = 3 := Option.some.inj ((show Tryd.prog.funcNamed "loop.example/g00497/laws.FnZones" = some 3 by kernel_rfl).symm.trans hf) |>.symm
  obtain rfl : fn = Tryd.f3 := (Option.some.inj (Tryd.func3.symm.trans hfn)).symm
  refine ⟨by kernel_rfl, fun j t ht => ?_⟩
  rw [Tryd.params3] at ht
  obtain rfl : t = 22 := by simpa using Array.mem_of_getElem? ht
  exact (show Tryd.prog.wantsStandIn 22 = false by kernel_rfl)

theorem card : Rows.FnZonesCardSaid :=
  Claim7.holds_tied_plain_at .later [] _ _ _ _ said (fun _ h => by cases h) (by kernel_rfl) (fun _ h => by cases h) fnZones_row_tie rfl ⟨rfl, rfl⟩ (by kernel_rfl) rfl plain (by kernel_rfl)
end Go.Proofs.YtkpcanigdppegaaDoor.zonesCard
namespace Go.Proofs.YtkpcanigdppegaaDoor
theorem fnZones_holds : Rows.FnZonesCardSaid := zonesCard.card
end Go.Proofs.YtkpcanigdppegaaDoor
