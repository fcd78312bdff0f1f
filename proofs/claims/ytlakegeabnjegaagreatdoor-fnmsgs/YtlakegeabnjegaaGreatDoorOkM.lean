/- What QuestOk and MsgOk do in the program and in the model: whether a question, a message is valid. Conditions: at most 400000000 bytes in each text, fewer than 400000001 records; for the program: the library's variable internal/bytealg.MaxLen holds an int. -/
import Derived.Test.YtlakegeabnjegaaGreatDoorRecOk
import Derived.Test.YtlakegeabnjegaaGreatDoorTypes
import Derived.Test.YtlakegeabnjegaaGreatDoorResM
namespace Go.Proofs.YtlakegeabnjegaaGreatDoor.OkM
open Go.RowKit Go.Proofs.YtlakegeabnjegaaGreatDoor.Mem Go.Proofs.YtlakegeabnjegaaGreatDoor.MemR Go.Proofs.YtlakegeabnjegaaGreatDoor.Labels Go.Proofs.YtlakegeabnjegaaGreatDoor.NameOk Go.Proofs.YtlakegeabnjegaaGreatDoor.TextR Go.Proofs.YtlakegeabnjegaaGreatDoor.BoxR Go.Proofs.YtlakegeabnjegaaGreatDoor.RecOk Go.Proofs.YtlakegeabnjegaaGreatDoor.Types Go.Proofs.YtlakegeabnjegaaGreatDoor.MemM Go.Proofs.YtlakegeabnjegaaGreatDoor.ResM

/-- A valid question. A def, so that no step of a walk opens it. -/
def qok (s : ByteArray) (n : Int) : Bool := Nm s && ty n
/-- A valid section. -/
def rls (l : List Rec) : Bool := l.all rok && decide (l.length ≤ 8)
/-- A valid message. -/
def mok (h : Hd) (l1 l2 l3 : List Rec) : Bool := inn h.id 0 65535 && (inn h.code 0 15 && (qok h.qn h.qt && (rls l1 && (rls l2 && rls l3))))
/-- No text of the records is too long. -/
def Mods (l : List Rec) : Prop := ∀ r ∈ l, Mod r
theorem all_step {l : List Rec} {k : Nat} (h : k < l.length) (hk : (l.take k).all rok = true) (hx : rok l[k] = true) : (l.take (k + 1)).all rok = true := by
  rw [List.take_succ_eq_append_getElem h, List.all_append, hk]
  simp [hx]
theorem all_bad {l : List Rec} {k : Nat} (h : k < l.length) (hx : rok l[k] = false) : l.all rok = false := by
  rw [Bool.eq_false_iff]
  intro e
  rw [List.all_eq_true] at e
  have := e l[k] (List.getElem_mem h)
  rw [hx] at this
  cases this
theorem rls_bad {l : List Rec} (h : l.all rok = false) : rls l = false := by rw [rls, h]; rfl
theorem rls_long {l : List Rec} (h : ¬ l.length ≤ 8) : rls l = false := by rw [rls, decide_eq_false h, Bool.and_false]
theorem rls_good {l : List Rec} (h : l.all rok = true) (h8 : l.length ≤ 8) : rls l = true := by rw [rls, h, decide_eq_true h8]; rfl

set_option maxHeartbeats 2000000 in
theorem questS (s : ByteArray) (n : Int) (w : World) (hs : s.size ≤ 400000000) : Calls Tryz.prog 35 #[.agg #[.string s, .int .i64 n]] w fun e w' => e = .returned (.bool (qok s n)) ∧ Below w.heap.size w w' := by
  have L0 := Lib.hid ((Below.refl w.heap.size w).alloc (Nat.le_refl _) (.cells #[.string s, .int .i64 n] 25))
  have B0 : Hid (Bk (w.alloc (.cells #[.string s, .int .i64 n] 25)) w.heap.size 25 [.string s, .int .i64 n]) := heap_alloc_new w _
  cases hb : Nm s
  · have HQ : Hid (qok s n = false) := by show _ = _; rw [qok, hb]; rfl
    have HB := Lib.hid hb
    clear hb
    go_enter Tryz.func35, Tryz.ntmps35
    go_wp2_with fail
    refine (NameOk.spec s _ hs).mono ?_
    rw [HB.out]
    rintro e w1 ⟨rfl, hl⟩
    have L1 := Lib.hid (L0.out.trans (hl.mono L0.out.size))
    clear hl L0 B0
    go_wp2
    go_ret
    exact ⟨by rw [HQ.out]; rfl, L1.out⟩
  · have HQ : Hid (qok s n = ty n) := by show _ = _; rw [qok, hb]; rfl
    have HB := Lib.hid hb
    clear hb
    go_enter Tryz.func35, Tryz.ntmps35
    go_wp2_with fail
    refine (NameOk.spec s _ hs).mono ?_
    rw [HB.out]
    rintro e w1 ⟨rfl, hl⟩
    have L1 := Lib.hid (L0.out.trans (hl.mono L0.out.size))
    have x1 : w1.cell? ⟨w.heap.size, 1, none⟩ = some (.int .i64 n) := (B0.out.below hl B0.out.lt).cell 1
    clear hl L0 B0
    go_wp2_with fail
    refine (spec_ok n _).mono ?_
    rintro e w2 ⟨rfl, rfl⟩
    go_wp2
    go_ret
    exact ⟨by rw [HQ.out]; rfl, L1.out⟩

set_option maxHeartbeats 2000000 in
theorem questI (s : ByteArray) (n : Int) (w : World) (he : Env w) (hs : s.size ≤ 400000000) : Calls Tryz.prog 32 #[.agg #[.string s, .int .i64 n]] w fun e w' => e = .returned (.bool (qok s n)) ∧ Below w.heap.size w w' := by
  have L0 := Lib.hid ((Below.refl w.heap.size w).alloc (Nat.le_refl _) (.cells #[.string s, .int .i64 n] 25))
  have B0 : Hid (Bk (w.alloc (.cells #[.string s, .int .i64 n] 25)) w.heap.size 25 [.string s, .int .i64 n]) := heap_alloc_new w _
  have HE := Lib.hid he
  clear he
  cases hb : Nm s
  · have HQ : Hid (qok s n = false) := by show _ = _; rw [qok, hb]; rfl
    have HB := Lib.hid hb
    clear hb
    go_enter Tryz.func32, Tryz.ntmps32
    go_wp2_with fail
    refine (NameOk.impl s _ (HE.out.below L0.out) hs).mono ?_
    rw [HB.out]
    rintro e w1 ⟨rfl, hl⟩
    have L1 := Lib.hid (L0.out.trans (hl.mono L0.out.size))
    clear hl L0 B0
    go_wp2
    go_ret
    exact ⟨by rw [HQ.out]; rfl, L1.out⟩
  · have HQ : Hid (qok s n = ty n) := by show _ = _; rw [qok, hb]; rfl
    have HB := Lib.hid hb
    clear hb
    go_enter Tryz.func32, Tryz.ntmps32
    go_wp2_with fail
    refine (NameOk.impl s _ (HE.out.below L0.out) hs).mono ?_
    rw [HB.out]
    rintro e w1 ⟨rfl, hl⟩
    have L1 := Lib.hid (L0.out.trans (hl.mono L0.out.size))
    have x1 : w1.cell? ⟨w.heap.size, 1, none⟩ = some (.int .i64 n) := (B0.out.below hl B0.out.lt).cell 1
    clear hl L0 B0
    go_wp2_with fail
    refine (impl_ok n _).mono ?_
    rintro e w2 ⟨rfl, rfl⟩
    go_wp2
    go_ret
    exact ⟨by rw [HQ.out]; rfl, L1.out⟩

set_option maxHeartbeats 4000000 in
theorem listS (A : Option Addr) (n c : Nat) (l : List Rec) (w : World) (hs : Sr w w.heap.size A n l) (hn : n ≤ 400000000) (hm : Mods l) :
    Calls Tryz.prog 36 #[.slice A n c] w fun e w' => e = .returned (.bool (rls l)) ∧ Below w.heap.size w w' := by
  have HS := Lib.hid hs
  have HM := Lib.hid hm
  clear hs hm
  go_enter Tryz.func36, Tryz.ntmps36
  go_wp2
  go_loopw [3] (fun i wr => ∃ k : Nat, k ≤ n ∧ i = .int .i64 k ∧ Hid ((l.take k).all rok = true) ∧ Hid (Below w.heap.size w wr)) (fun i _ => n - (intOf i).toNat)
  case atStart => exact ⟨0, Nat.zero_le _, rfl, rfl, Below.refl _ _⟩
  case round =>
    obtain ⟨k, hk, rfl, HK, HL⟩ := hrel
    by_cases hlt : k < n
    · obtain ⟨b, off, rfl, hbB, hcs⟩ := HS.out.2 (by omega)
      have hkl : k < l.length := by rw [HS.out.1]; exact hlt
      obtain ⟨e0, e1, e2, e3, e4, e5⟩ := (hcs k hkl).below HL.out hbB
      have HR := Lib.hid (HM.out l[k] (List.getElem_mem hkl))
      clear hcs
      cases hb : rok l[k]
      · have HN := Lib.hid (rls_bad (all_bad hkl hb))
        have HB := Lib.hid hb
        clear hb
        generalize l[k] = r at *
        go_wp2_with fail
        refine (RecOk.spec r wr HR.out).mono ?_
        rw [HB.out]
        rintro e w1 ⟨rfl, hl⟩
        have L1 := Lib.hid (HL.out.trans (hl.mono HL.out.size))
        clear hl e0 e1 e2 e3 e4 e5 HL
        go_wp2
        go_ret
        exact ⟨by rw [HN.out]; rfl, L1.out⟩
      · have HN := Lib.hid (all_step hkl HK.out hb)
        have HB := Lib.hid hb
        clear hb
        generalize l[k] = r at *
        go_wp2_with fail
        refine (RecOk.spec r wr HR.out).mono ?_
        rw [HB.out]
        rintro e w1 ⟨rfl, hl⟩
        have L1 := Lib.hid (HL.out.trans (hl.mono HL.out.size))
        clear hl e0 e1 e2 e3 e4 e5 HL
        go_wp2
        go_roundw
        case rel => exact ⟨k + 1, by omega, by go_num, HN.out, L1.out⟩
        case measure => simp [intOf]; omega
    · have HA : Hid (l.all rok = true) := by
        have := HK.out
        rwa [List.take_of_length_le (by rw [HS.out.1]; omega)] at this
      by_cases h8 : n ≤ 8
      · have h8' : (n : Int) ≤ 8 := by omega
        have HN := Lib.hid (rls_good HA.out (by rw [HS.out.1]; exact h8))
        go_wp2
        go_ret
        exact ⟨by rw [HN.out]; rfl, HL.out⟩
      · have h8' : ¬ (n : Int) ≤ 8 := by omega
        have HN := Lib.hid (rls_long (l := l) (by rw [HS.out.1]; exact h8))
        go_wp2
        go_ret
        exact ⟨by rw [HN.out]; rfl, HL.out⟩

set_option maxHeartbeats 4000000 in
theorem listI (A : Option Addr) (n c : Nat) (l : List Rec) (w : World) (he : Env w) (hs : Sr w w.heap.size A n l) (hn : n ≤ 400000000) (hm : Mods l) :
    Calls Tryz.prog 33 #[.slice A n c, .int .i64 8] w fun e w' => e = .returned (.bool (rls l)) ∧ Below w.heap.size w w' := by
  have HE := Lib.hid he
  have HS := Lib.hid hs
  have HM := Lib.hid hm
  clear hs hm he
  by_cases h8 : ¬ n ≤ 8
  · have h8' : (8 : Int) < (n : Int) := by omega
    have HN := Lib.hid (rls_long (l := l) (by rw [HS.out.1]; exact h8))
    go_enter Tryz.func33, Tryz.ntmps33
    go_wp2
    go_ret
    exact ⟨by rw [HN.out]; rfl, Below.refl _ _⟩
  have h8' : ¬ (8 : Int) < (n : Int) := by omega
  go_enter Tryz.func33, Tryz.ntmps33
  go_wp2
  go_loopw [13] (fun i wr => ∃ k : Nat, k ≤ n ∧ i = .int .i64 k ∧ Hid ((l.take k).all rok = true) ∧ Hid (Below w.heap.size w wr)) (fun i _ => n - (intOf i).toNat)
  case atStart => exact ⟨0, Nat.zero_le _, rfl, rfl, Below.refl _ _⟩
  case round =>
    obtain ⟨k, hk, rfl, HK, HL⟩ := hrel
    by_cases hlt : k < n
    · obtain ⟨b, off, rfl, hbB, hcs⟩ := HS.out.2 (by omega)
      have hkl : k < l.length := by rw [HS.out.1]; exact hlt
      obtain ⟨e0, e1, e2, e3, e4, e5⟩ := (hcs k hkl).below HL.out hbB
      have HR := Lib.hid (HM.out l[k] (List.getElem_mem hkl))
      clear hcs
      cases hb : rok l[k]
      · have HN := Lib.hid (rls_bad (all_bad hkl hb))
        have HB := Lib.hid hb
        clear hb
        generalize l[k] = r at *
        have LA := Lib.hid (HL.out.alloc HL.out.size (.cells #[.string r.name, .int .i64 r.ty, .int .i64 r.ttl, .int .i64 r.n, .string r.host, .string r.text] 73))
        go_wp2_with fail
        refine (RecOk.impl r _ (HE.out.below LA.out) HR.out).mono ?_
        rw [HB.out]
        rintro e w1 ⟨rfl, hl⟩
        have L1 := Lib.hid (LA.out.trans (hl.mono LA.out.size))
        clear hl e0 e1 e2 e3 e4 e5 HL LA
        go_wp2
        go_ret
        exact ⟨by rw [HN.out]; rfl, L1.out⟩
      · have HN := Lib.hid (all_step hkl HK.out hb)
        have HB := Lib.hid hb
        clear hb
        generalize l[k] = r at *
        have LA := Lib.hid (HL.out.alloc HL.out.size (.cells #[.string r.name, .int .i64 r.ty, .int .i64 r.ttl, .int .i64 r.n, .string r.host, .string r.text] 73))
        go_wp2_with fail
        refine (RecOk.impl r _ (HE.out.below LA.out) HR.out).mono ?_
        rw [HB.out]
        rintro e w1 ⟨rfl, hl⟩
        have L1 := Lib.hid (LA.out.trans (hl.mono LA.out.size))
        clear hl e0 e1 e2 e3 e4 e5 HL LA
        go_wp2
        go_roundw
        case rel => exact ⟨k + 1, by omega, by go_num, HN.out, L1.out⟩
        case measure => simp [intOf]; omega
    · have HN : Hid (rls l = true) := by
        have := HK.out
        rw [List.take_of_length_le (by rw [HS.out.1]; omega)] at this
        exact rls_good this (by rw [HS.out.1]; omega)
      go_wp2
      go_ret
      exact ⟨by rw [HN.out]; rfl, HL.out⟩

set_option maxHeartbeats 2000000 in
theorem rangeI (i1 i2 : Int) (b1 b2 b3 b4 b5 : Bool) (w : World) : Calls Tryz.prog 31 #[.agg #[.int .i64 i1, .bool b1, .bool b2, .bool b3, .bool b4, .bool b5, .int .i64 i2]] w fun e w' => e = .returned (.bool (inn i1 0 65535 && inn i2 0 15)) ∧ Below w.heap.size w w' := by
  have L0 := Lib.hid ((Below.refl w.heap.size w).alloc (Nat.le_refl _) (.cells #[.int .i64 i1, .bool b1, .bool b2, .bool b3, .bool b4, .bool b5, .int .i64 i2] 51))
  have HA := Lib.hid (upTo_any i1 65535)
  have HB := Lib.hid (upTo_any i2 15)
  generalize inn i1 0 65535 = u at *
  generalize inn i2 0 15 = v at *
  cases u
  · go_enter Tryz.func31, Tryz.ntmps31
    go_wp2_with fail
    refine (HA.out _).mono ?_
    rintro e w1 ⟨rfl, rfl⟩
    go_wp2
    go_ret
    exact ⟨rfl, L0.out⟩
  · go_enter Tryz.func31, Tryz.ntmps31
    go_wp2_with fail
    refine (HA.out _).mono ?_
    rintro e w1 ⟨rfl, rfl⟩
    go_wp2_with fail
    refine (HB.out _).mono ?_
    rintro e w1 ⟨rfl, rfl⟩
    go_wp2
    go_ret
    exact ⟨rfl, L0.out⟩

set_option maxHeartbeats 2000000 in
theorem ofI (h : Hd) (A1 A2 A3 : Option Addr) (n1 c1 n2 c2 n3 c3 : Nat) (w : World) : Calls Tryz.prog 29 #[.agg #[.int .i64 h.id, .bool h.rp, .bool h.au, .bool h.ct, .bool h.wa, .bool h.ca, .int .i64 h.code, .string h.qn, .int .i64 h.qt, .slice A1 n1 c1, .slice A2 n2 c2, .slice A3 n3 c3]] w fun e w' => e = .returned (.agg #[.int .i64 h.id, .bool h.rp, .bool h.au, .bool h.ct, .bool h.wa, .bool h.ca, .int .i64 h.code, .string h.qn, .int .i64 h.qt, .slice A1 n1 c1, .slice A2 n2 c2, .slice A3 n3 c3]) ∧ Below w.heap.size w w' := by
  go_enter Tryz.func29, Tryz.ntmps29
  go_wp2
  refine bodyPost_ret (v := .agg #[.int .i64 h.id, .bool h.rp, .bool h.au, .bool h.ct, .bool h.wa, .bool h.ca, .int .i64 h.code, .string h.qn, .int .i64 h.qt, .slice A1 n1 c1, .slice A2 n2 c2, .slice A3 n3 c3]) (by simp [results, Tryz.results29, go_sem]) rfl ⟨rfl, ?_⟩
  repeat (first | exact Below.refl _ _ | refine Below.setCell ?_ (by simp; try omega) _ | refine Below.alloc ?_ (by simp; try omega) _)

theorem at0 (A1 A2 A3 : Option Addr) (n1 c1 n2 c2 n3 c3 : Nat) (W : World) : Sem.run Tryz.prog (Instr.index 52 (.agg #[.slice A1 n1 c1, .slice A2 n2 c2, .slice A3 n3 c3]) (.int .i64 0)) W = .ok (.slice A1 n1 c1) W := by
  simp [Instr.index, go_sem]

theorem at1' (A1 A2 A3 : Option Addr) (n1 c1 n2 c2 n3 c3 : Nat) (W : World) : Sem.run Tryz.prog (Instr.index 52 (.agg #[.slice A1 n1 c1, .slice A2 n2 c2, .slice A3 n3 c3]) (.int .i64 1)) W = .ok (.slice A2 n2 c2) W := by
  simp [Instr.index, go_sem]

theorem at2' (A1 A2 A3 : Option Addr) (n1 c1 n2 c2 n3 c3 : Nat) (W : World) : Sem.run Tryz.prog (Instr.index 52 (.agg #[.slice A1 n1 c1, .slice A2 n2 c2, .slice A3 n3 c3]) (.int .i64 2)) W = .ok (.slice A3 n3 c3) W := by
  simp [Instr.index, go_sem]

set_option maxRecDepth 100000 in
set_option maxHeartbeats 8000000 in
theorem spec (h : Hd) (A1 : Option Addr) (n1 c1 : Nat) (l1 : List Rec) (A2 : Option Addr) (n2 c2 : Nat) (l2 : List Rec) (A3 : Option Addr) (n3 c3 : Nat) (l3 : List Rec) (w : World) (hq : h.qn.size ≤ 400000000) (s1 : Sr w w.heap.size A1 n1 l1) (b1 : n1 ≤ 400000000) (m1 : Mods l1) (s2 : Sr w w.heap.size A2 n2 l2) (b2 : n2 ≤ 400000000) (m2 : Mods l2) (s3 : Sr w w.heap.size A3 n3 l3) (b3 : n3 ≤ 400000000) (m3 : Mods l3) : Calls Tryz.prog 15 #[.agg #[.int .i64 h.id, .bool h.rp, .bool h.au, .bool h.ct, .bool h.wa, .bool h.ca, .int .i64 h.code, .string h.qn, .int .i64 h.qt, .slice A1 n1 c1, .slice A2 n2 c2, .slice A3 n3 c3]] w fun e w' => e = .returned (.bool (mok h l1 l2 l3)) ∧ Below w.heap.size w w' := by
  have L0 := Lib.hid ((Below.refl w.heap.size w).alloc (Nat.le_refl _) (.cells #[.int .i64 h.id, .bool h.rp, .bool h.au, .bool h.ct, .bool h.wa, .bool h.ca, .int .i64 h.code, .string h.qn, .int .i64 h.qt, .slice A1 n1 c1, .slice A2 n2 c2, .slice A3 n3 c3] 28))
  have X0 := Lib.hid (mx_new w 28 h (.slice A1 n1 c1) (.slice A2 n2 c2) (.slice A3 n3 c3))
  have C1 := Lib.hid (l1In_inn h.id 0 65535)
  have C2 := Lib.hid (l1In_inn h.code 0 15)
  have C3 := Lib.hid (fun W => questS h.qn h.qt W hq)
  have C4 : Hid (∀ W : World, Below w.heap.size w W → Calls Tryz.prog 36 #[.slice A1 n1 c1] W fun e w' => e = .returned (.bool (rls l1)) ∧ Below W.heap.size W w') := fun W hW => listS A1 n1 c1 l1 W (s1.on hW) b1 m1
  have C5 : Hid (∀ W : World, Below w.heap.size w W → Calls Tryz.prog 36 #[.slice A2 n2 c2] W fun e w' => e = .returned (.bool (rls l2)) ∧ Below W.heap.size W w') := fun W hW => listS A2 n2 c2 l2 W (s2.on hW) b2 m2
  have C6 : Hid (∀ W : World, Below w.heap.size w W → Calls Tryz.prog 36 #[.slice A3 n3 c3] W fun e w' => e = .returned (.bool (rls l3)) ∧ Below W.heap.size W w') := fun W hW => listS A3 n3 c3 l3 W (s3.on hW) b3 m3
  have HM : Hid (mok h l1 l2 l3 = (inn h.id 0 65535 && (inn h.code 0 15 && (qok h.qn h.qt && (rls l1 && (rls l2 && rls l3)))))) := rfl
  rw [HM.out]
  clear HM s1 s2 s3 m1 m2 m3
  generalize inn h.id 0 65535 = u1 at *
  generalize inn h.code 0 15 = u2 at *
  generalize qok h.qn h.qt = u3 at *
  generalize rls l1 = u4 at *
  generalize rls l2 = u5 at *
  generalize rls l3 = u6 at *
  cases u1
  · go_enter Tryz.func15, Tryz.ntmps15
    go_wp2_with fail
    refine (C1.out _).mono ?_
    rintro e wx ⟨rfl, rfl⟩
    go_wp2
    go_ret
    exact ⟨rfl, L0.out⟩
  · cases u2
    · go_enter Tryz.func15, Tryz.ntmps15
      go_wp2_with fail
      refine (C1.out _).mono ?_
      rintro e wx ⟨rfl, rfl⟩
      go_wp2_with fail
      refine (C2.out _).mono ?_
      rintro e wx ⟨rfl, rfl⟩
      go_wp2
      go_ret
      exact ⟨rfl, L0.out⟩
    · cases u3
      · go_enter Tryz.func15, Tryz.ntmps15
        go_wp2_with fail
        refine (C1.out _).mono ?_
        rintro e wx ⟨rfl, rfl⟩
        go_wp2_with fail
        refine (C2.out _).mono ?_
        rintro e wx ⟨rfl, rfl⟩
        go_wp2_with fail
        refine (C3.out _).mono ?_
        rintro e w1 ⟨rfl, hl⟩
        have L1 := Lib.hid (L0.out.trans (hl.mono L0.out.size))
        have X1 := Lib.hid (X0.out.below hl)
        clear hl L0 X0 
        go_wp2
        go_ret
        exact ⟨rfl, L1.out⟩
      · cases u4
        · go_enter Tryz.func15, Tryz.ntmps15
          go_wp2_with fail
          refine (C1.out _).mono ?_
          rintro e wx ⟨rfl, rfl⟩
          go_wp2_with fail
          refine (C2.out _).mono ?_
          rintro e wx ⟨rfl, rfl⟩
          go_wp2_with fail
          refine (C3.out _).mono ?_
          rintro e w1 ⟨rfl, hl⟩
          have L1 := Lib.hid (L0.out.trans (hl.mono L0.out.size))
          have X1 := Lib.hid (X0.out.below hl)
          clear hl L0 X0 
          obtain ⟨x0, x1, x2, x3, x4, x5, x6, x7, x8, x9, x10, x11⟩ := X1.out
          go_wp2_with fail
          refine (C4.out _ L1.out).mono ?_
          rintro e w2 ⟨rfl, hl⟩
          have L2 := Lib.hid (L1.out.trans (hl.mono L1.out.size))
          have X2 := Lib.hid (X1.out.below hl)
          clear hl L1 X1 x0 x1 x2 x3 x4 x5 x6 x7 x8 x9 x10 x11
          go_wp2
          go_ret
          exact ⟨rfl, L2.out⟩
        · cases u5
          · go_enter Tryz.func15, Tryz.ntmps15
            go_wp2_with fail
            refine (C1.out _).mono ?_
            rintro e wx ⟨rfl, rfl⟩
            go_wp2_with fail
            refine (C2.out _).mono ?_
            rintro e wx ⟨rfl, rfl⟩
            go_wp2_with fail
            refine (C3.out _).mono ?_
            rintro e w1 ⟨rfl, hl⟩
            have L1 := Lib.hid (L0.out.trans (hl.mono L0.out.size))
            have X1 := Lib.hid (X0.out.below hl)
            clear hl L0 X0 
            obtain ⟨x0, x1, x2, x3, x4, x5, x6, x7, x8, x9, x10, x11⟩ := X1.out
            go_wp2_with fail
            refine (C4.out _ L1.out).mono ?_
            rintro e w2 ⟨rfl, hl⟩
            have L2 := Lib.hid (L1.out.trans (hl.mono L1.out.size))
            have X2 := Lib.hid (X1.out.below hl)
            clear hl L1 X1 x0 x1 x2 x3 x4 x5 x6 x7 x8 x9 x10 x11
            obtain ⟨x0, x1, x2, x3, x4, x5, x6, x7, x8, x9, x10, x11⟩ := X2.out
            go_wp2_with fail
            refine (C5.out _ L2.out).mono ?_
            rintro e w3 ⟨rfl, hl⟩
            have L3 := Lib.hid (L2.out.trans (hl.mono L2.out.size))
            have X3 := Lib.hid (X2.out.below hl)
            clear hl L2 X2 x0 x1 x2 x3 x4 x5 x6 x7 x8 x9 x10 x11
            go_wp2
            go_ret
            exact ⟨rfl, L3.out⟩
          · go_enter Tryz.func15, Tryz.ntmps15
            go_wp2_with fail
            refine (C1.out _).mono ?_
            rintro e wx ⟨rfl, rfl⟩
            go_wp2_with fail
            refine (C2.out _).mono ?_
            rintro e wx ⟨rfl, rfl⟩
            go_wp2_with fail
            refine (C3.out _).mono ?_
            rintro e w1 ⟨rfl, hl⟩
            have L1 := Lib.hid (L0.out.trans (hl.mono L0.out.size))
            have X1 := Lib.hid (X0.out.below hl)
            clear hl L0 X0 
            obtain ⟨x0, x1, x2, x3, x4, x5, x6, x7, x8, x9, x10, x11⟩ := X1.out
            go_wp2_with fail
            refine (C4.out _ L1.out).mono ?_
            rintro e w2 ⟨rfl, hl⟩
            have L2 := Lib.hid (L1.out.trans (hl.mono L1.out.size))
            have X2 := Lib.hid (X1.out.below hl)
            clear hl L1 X1 x0 x1 x2 x3 x4 x5 x6 x7 x8 x9 x10 x11
            obtain ⟨x0, x1, x2, x3, x4, x5, x6, x7, x8, x9, x10, x11⟩ := X2.out
            go_wp2_with fail
            refine (C5.out _ L2.out).mono ?_
            rintro e w3 ⟨rfl, hl⟩
            have L3 := Lib.hid (L2.out.trans (hl.mono L2.out.size))
            have X3 := Lib.hid (X2.out.below hl)
            clear hl L2 X2 x0 x1 x2 x3 x4 x5 x6 x7 x8 x9 x10 x11
            obtain ⟨x0, x1, x2, x3, x4, x5, x6, x7, x8, x9, x10, x11⟩ := X3.out
            go_wp2_with fail
            refine (C6.out _ L3.out).mono ?_
            rintro e w4 ⟨rfl, hl⟩
            have L4 := Lib.hid (L3.out.trans (hl.mono L3.out.size))
            have X4 := Lib.hid (X3.out.below hl)
            clear hl L3 X3 x0 x1 x2 x3 x4 x5 x6 x7 x8 x9 x10 x11
            go_wp2
            go_ret
            exact ⟨rfl, L4.out⟩

set_option maxRecDepth 100000 in
set_option maxHeartbeats 8000000 in
theorem impl (h : Hd) (A1 : Option Addr) (n1 c1 : Nat) (l1 : List Rec) (A2 : Option Addr) (n2 c2 : Nat) (l2 : List Rec) (A3 : Option Addr) (n3 c3 : Nat) (l3 : List Rec) (w : World) (he : Env w) (hq : h.qn.size ≤ 400000000) (s1 : Sr w w.heap.size A1 n1 l1) (b1 : n1 ≤ 400000000) (m1 : Mods l1) (s2 : Sr w w.heap.size A2 n2 l2) (b2 : n2 ≤ 400000000) (m2 : Mods l2) (s3 : Sr w w.heap.size A3 n3 l3) (b3 : n3 ≤ 400000000) (m3 : Mods l3) : Calls Tryz.prog 14 #[.agg #[.int .i64 h.id, .bool h.rp, .bool h.au, .bool h.ct, .bool h.wa, .bool h.ca, .int .i64 h.code, .string h.qn, .int .i64 h.qt, .slice A1 n1 c1, .slice A2 n2 c2, .slice A3 n3 c3]] w fun e w' => e = .returned (.bool (mok h l1 l2 l3)) ∧ Below w.heap.size w w' := by
  have L0 := Lib.hid ((Below.refl w.heap.size w).alloc (Nat.le_refl _) (.cells #[.int .i64 h.id, .bool h.rp, .bool h.au, .bool h.ct, .bool h.wa, .bool h.ca, .int .i64 h.code, .string h.qn, .int .i64 h.qt, .slice A1 n1 c1, .slice A2 n2 c2, .slice A3 n3 c3] 28))
  have C1 := Lib.hid (fun W => rangeI h.id h.code h.rp h.au h.ct h.wa h.ca W)
  have C3 : Hid (∀ W : World, Below w.heap.size w W → Calls Tryz.prog 32 #[.agg #[.string h.qn, .int .i64 h.qt]] W fun e w' => e = .returned (.bool (qok h.qn h.qt)) ∧ Below W.heap.size W w') := fun W hW => questI h.qn h.qt W (he.below hW) hq
  have C4 : Hid (∀ W : World, Below w.heap.size w W → Calls Tryz.prog 33 #[.slice A1 n1 c1, .int .i64 8] W fun e w' => e = .returned (.bool (rls l1)) ∧ Below W.heap.size W w') := fun W hW => listI A1 n1 c1 l1 W (he.below hW) (s1.on hW) b1 m1
  have C5 : Hid (∀ W : World, Below w.heap.size w W → Calls Tryz.prog 33 #[.slice A2 n2 c2, .int .i64 8] W fun e w' => e = .returned (.bool (rls l2)) ∧ Below W.heap.size W w') := fun W hW => listI A2 n2 c2 l2 W (he.below hW) (s2.on hW) b2 m2
  have C6 : Hid (∀ W : World, Below w.heap.size w W → Calls Tryz.prog 33 #[.slice A3 n3 c3, .int .i64 8] W fun e w' => e = .returned (.bool (rls l3)) ∧ Below W.heap.size W w') := fun W hW => listI A3 n3 c3 l3 W (he.below hW) (s3.on hW) b3 m3
  have HM : Hid (mok h l1 l2 l3 = ((inn h.id 0 65535 && inn h.code 0 15) && (qok h.qn h.qt && (rls l1 && (rls l2 && rls l3))))) := by show _ = _; rw [mok, Bool.and_assoc]
  rw [HM.out]
  clear HM s1 s2 s3 m1 m2 m3 he
  generalize (inn h.id 0 65535 && inn h.code 0 15) = qa at *
  generalize qok h.qn h.qt = qc at *
  generalize rls l1 = qd at *
  generalize rls l2 = qe at *
  generalize rls l3 = qf at *
  cases qa
  · go_enter Tryz.func14, Tryz.ntmps14
    go_wp2_with fail
    refine (ofI h A1 A2 A3 n1 c1 n2 c2 n3 c3 _).mono ?_
    rintro e w1 ⟨rfl, hl⟩
    have L1 := Lib.hid ((L0.out.trans (hl.mono L0.out.size)).alloc (L0.out.trans (hl.mono L0.out.size)).size (.cells #[.int .i64 h.id, .bool h.rp, .bool h.au, .bool h.ct, .bool h.wa, .bool h.ca, .int .i64 h.code, .string h.qn, .int .i64 h.qt, .slice A1 n1 c1, .slice A2 n2 c2, .slice A3 n3 c3] 54))
    have X1 := Lib.hid (mx_new w1 54 h (.slice A1 n1 c1) (.slice A2 n2 c2) (.slice A3 n3 c3))
    clear hl L0
    go_wp2_with fail
    refine (C1.out _).mono ?_
    rintro e w2 ⟨rfl, hl⟩
    have L2 := Lib.hid (L1.out.trans (hl.mono L1.out.size))
    have X2 := Lib.hid (X1.out.below hl)
    clear hl L1 X1
    go_wp2
    go_ret
    exact ⟨rfl, L2.out⟩
  cases qc
  · go_enter Tryz.func14, Tryz.ntmps14
    go_wp2_with fail
    refine (ofI h A1 A2 A3 n1 c1 n2 c2 n3 c3 _).mono ?_
    rintro e w1 ⟨rfl, hl⟩
    have L1 := Lib.hid ((L0.out.trans (hl.mono L0.out.size)).alloc (L0.out.trans (hl.mono L0.out.size)).size (.cells #[.int .i64 h.id, .bool h.rp, .bool h.au, .bool h.ct, .bool h.wa, .bool h.ca, .int .i64 h.code, .string h.qn, .int .i64 h.qt, .slice A1 n1 c1, .slice A2 n2 c2, .slice A3 n3 c3] 54))
    have X1 := Lib.hid (mx_new w1 54 h (.slice A1 n1 c1) (.slice A2 n2 c2) (.slice A3 n3 c3))
    clear hl L0
    go_wp2_with fail
    refine (C1.out _).mono ?_
    rintro e w2 ⟨rfl, hl⟩
    have L2 := Lib.hid (L1.out.trans (hl.mono L1.out.size))
    have X2 := Lib.hid (X1.out.below hl)
    clear hl L1 X1
    obtain ⟨x0, x1, x2, x3, x4, x5, x6, x7, x8, x9, x10, x11⟩ := X2.out
    go_wp2_with fail
    refine (C3.out w2 L2.out).mono ?_
    rintro e w3 ⟨rfl, hl⟩
    have L3 := Lib.hid (L2.out.trans (hl.mono L2.out.size))
    have X3 := Lib.hid (X2.out.below hl)
    clear hl L2 X2 x0 x1 x2 x3 x4 x5 x6 x7 x8 x9 x10 x11
    go_wp2
    go_ret
    exact ⟨rfl, L3.out⟩
  go_enter Tryz.func14, Tryz.ntmps14
  go_wp2_with fail
  refine (ofI h A1 A2 A3 n1 c1 n2 c2 n3 c3 _).mono ?_
  rintro e w1 ⟨rfl, hl⟩
  have L1 := Lib.hid ((L0.out.trans (hl.mono L0.out.size)).alloc (L0.out.trans (hl.mono L0.out.size)).size (.cells #[.int .i64 h.id, .bool h.rp, .bool h.au, .bool h.ct, .bool h.wa, .bool h.ca, .int .i64 h.code, .string h.qn, .int .i64 h.qt, .slice A1 n1 c1, .slice A2 n2 c2, .slice A3 n3 c3] 54))
  have X1 := Lib.hid (mx_new w1 54 h (.slice A1 n1 c1) (.slice A2 n2 c2) (.slice A3 n3 c3))
  clear hl L0
  go_wp2_with fail
  refine (C1.out _).mono ?_
  rintro e w2 ⟨rfl, hl⟩
  have L2 := Lib.hid (L1.out.trans (hl.mono L1.out.size))
  have X2 := Lib.hid (X1.out.below hl)
  clear hl L1 X1
  obtain ⟨x0, x1, x2, x3, x4, x5, x6, x7, x8, x9, x10, x11⟩ := X2.out
  go_wp2_with fail
  refine (C3.out w2 L2.out).mono ?_
  rintro e w3 ⟨rfl, hl⟩
  have L3 := Lib.hid (L2.out.trans (hl.mono L2.out.size))
  have X3 := Lib.hid (X2.out.below hl)
  clear hl L2 X2 x0 x1 x2 x3 x4 x5 x6 x7 x8 x9 x10 x11
  obtain ⟨x0, x1, x2, x3, x4, x5, x6, x7, x8, x9, x10, x11⟩ := X3.out
  go_wp2
  clear x0 x1 x2 x3 x4 x5 x6 x7 x8 x9 x10 x11 X3
  go_loopw [20] (fun i wr => ∃ k : Nat, k ≤ 3 ∧ i = .int .i64 k ∧ Hid ((0 < k → qd = true) ∧ (1 < k → qe = true) ∧ (2 < k → qf = true)) ∧ Hid (Below w.heap.size w wr)) (fun i _ => 3 - (intOf i).toNat)
  case atStart => exact ⟨0, by omega, rfl, ⟨fun h => by omega, fun h => by omega, fun h => by omega⟩, L3.out⟩
  case round =>
    clear L3
    obtain ⟨k, hk, rfl, HK, HL⟩ := hrel
    have ix0 := at0 A1 A2 A3 n1 c1 n2 c2 n3 c3
    have ix1 := at1' A1 A2 A3 n1 c1 n2 c2 n3 c3
    have ix2 := at2' A1 A2 A3 n1 c1 n2 c2 n3 c3
    rcases k with _ | _ | _ | _ | k
    · cases qd
      · go_wp2_with fail
        refine (C4.out wr HL.out).mono ?_
        rintro e w4 ⟨rfl, hl⟩
        have L4 := Lib.hid (HL.out.trans (hl.mono HL.out.size))
        clear hl HL
        go_wp2
        go_ret
        exact ⟨by simp, L4.out⟩
      · go_wp2_with fail
        refine (C4.out wr HL.out).mono ?_
        rintro e w4 ⟨rfl, hl⟩
        have L4 := Lib.hid (HL.out.trans (hl.mono HL.out.size))
        clear hl HL
        go_wp2
        go_roundw
        case rel => exact ⟨1, by omega, by first | rfl | go_num, ⟨fun hh => (by first | rfl | trivial | (exfalso; omega) | exact HK.out.1 (by omega)), fun hh => (by first | rfl | trivial | (exfalso; omega) | exact HK.out.2.1 (by omega)), fun hh => (by first | rfl | trivial | (exfalso; omega) | exact HK.out.2.2 (by omega))⟩, L4.out⟩
        case measure => simp [intOf]
    · cases qe
      · go_wp2_with fail
        refine (C5.out wr HL.out).mono ?_
        rintro e w4 ⟨rfl, hl⟩
        have L4 := Lib.hid (HL.out.trans (hl.mono HL.out.size))
        clear hl HL
        go_wp2
        go_ret
        exact ⟨by simp, L4.out⟩
      · go_wp2_with fail
        refine (C5.out wr HL.out).mono ?_
        rintro e w4 ⟨rfl, hl⟩
        have L4 := Lib.hid (HL.out.trans (hl.mono HL.out.size))
        clear hl HL
        go_wp2
        go_roundw
        case rel => exact ⟨2, by omega, by first | rfl | go_num, ⟨fun hh => (by first | rfl | trivial | (exfalso; omega) | exact HK.out.1 (by omega)), fun hh => (by first | rfl | trivial | (exfalso; omega) | exact HK.out.2.1 (by omega)), fun hh => (by first | rfl | trivial | (exfalso; omega) | exact HK.out.2.2 (by omega))⟩, L4.out⟩
        case measure => simp [intOf]
    · cases qf
      · go_wp2_with fail
        refine (C6.out wr HL.out).mono ?_
        rintro e w4 ⟨rfl, hl⟩
        have L4 := Lib.hid (HL.out.trans (hl.mono HL.out.size))
        clear hl HL
        go_wp2
        go_ret
        exact ⟨by simp, L4.out⟩
      · go_wp2_with fail
        refine (C6.out wr HL.out).mono ?_
        rintro e w4 ⟨rfl, hl⟩
        have L4 := Lib.hid (HL.out.trans (hl.mono HL.out.size))
        clear hl HL
        go_wp2
        go_roundw
        case rel => exact ⟨3, by omega, by first | rfl | go_num, ⟨fun hh => (by first | rfl | trivial | (exfalso; omega) | exact HK.out.1 (by omega)), fun hh => (by first | rfl | trivial | (exfalso; omega) | exact HK.out.2.1 (by omega)), fun hh => (by first | rfl | trivial | (exfalso; omega) | exact HK.out.2.2 (by omega))⟩, L4.out⟩
        case measure => simp [intOf]
    · have HF : Hid (qd = true ∧ qe = true ∧ qf = true) := ⟨HK.out.1 (by omega), HK.out.2.1 (by omega), HK.out.2.2 (by omega)⟩
      go_wp2
      go_ret
      exact ⟨by rw [HF.out.1, HF.out.2.1, HF.out.2.2]; rfl, HL.out⟩
    · omega

end Go.Proofs.YtlakegeabnjegaaGreatDoor.OkM
