/- Plain facts for GetRecords: what it answers (grA), and what it hands back: a new row of records of its own. -/
import Derived.Test.YtkfibepejlgniaaGreatDoorSzR
import Derived.Test.YtkfibepejlgniaaGreatDoorMemM
import Derived.Test.YtkfibepejlgniaaGreatDoorOkM
import Derived.Test.YtkfibepejlgniaaGreatDoorFieldMath
import Derived.Test.YtkfibepejlgniaaGreatDoorPutSpec
import Derived.Test.YtkfibepejlgniaaGreatDoorDataS
import Derived.Test.YtkfibepejlgniaaGreatDoorHeadDef
import Derived.Test.YtkfibepejlgniaaGreatDoorWireMath
import Derived.Test.YtkfibepejlgniaaGreatDoorMemR
import Derived.Test.YtkfibepejlgniaaGreatDoorApp
/- What the law's own helpers szQuest and szMsg do: they return a number that is not negative only where the records and the bytes of all texts are at most the given number together. -/
namespace Go.Proofs.YtkfibepejlgniaaGreatDoor.SzM
open Go.RowKit Go.Proofs.YtkfibepejlgniaaGreatDoor.Mem Go.Proofs.YtkfibepejlgniaaGreatDoor.MemR Go.Proofs.YtkfibepejlgniaaGreatDoor.BoxR Go.Proofs.YtkfibepejlgniaaGreatDoor.MemM Go.Proofs.YtkfibepejlgniaaGreatDoor.SzR

/-- The bytes of all texts, and the records. -/
def mz (h : Hd) (l1 l2 l3 : List Rec) : Nat := h.qn.size + (l1.length + tot l1) + (l2.length + tot l2) + (l3.length + tot l3)
/-- Records whose texts are no longer than any text. -/
def Sms (l : List Rec) : Prop := ∀ r ∈ l, r.name.size ≤ 9223372036854775807 ∧ r.host.size ≤ 9223372036854775807 ∧ r.text.size ≤ 9223372036854775807

set_option maxHeartbeats 1000000 in
theorem szQuest_any (s : ByteArray) (n x : Int) (w : World) (h0 : 0 ≤ x) (h1 : x ≤ 1048576) (hz : s.size ≤ 9223372036854775807) :
    Calls Tryz.prog 101 #[.agg #[.string s, .int .i64 n], .int .i64 x] w (Sz x s.size w) := by
  by_cases c1 : x - (s.size : Int) < 0
  · go_enter Tryz.func101, Tryz.ntmps101
    go_wp2
    go_ret
    exact ⟨-1, rfl, by omega, by omega, fun h => by omega, (Below.refl _ _).alloc (Nat.le_refl _) _⟩
  · go_enter Tryz.func101, Tryz.ntmps101
    go_wp2
    go_ret
    exact ⟨_, rfl, by omega, by omega, fun h => by omega, (Below.refl _ _).alloc (Nat.le_refl _) _⟩

set_option maxHeartbeats 4000000 in
theorem szMsg_any (h : Hd) (A1 : Option Addr) (n1 c1 : Nat) (l1 : List Rec) (A2 : Option Addr) (n2 c2 : Nat) (l2 : List Rec) (A3 : Option Addr) (n3 c3 : Nat) (l3 : List Rec) (x : Int) (w : World) (h0 : 0 ≤ x) (h1 : x ≤ 1048576) (hq : h.qn.size ≤ 9223372036854775807)
    (s1 : Sr w w.heap.size A1 n1 l1) (m1 : n1 ≤ 9223372036854775807) (z1 : Sms l1) (s2 : Sr w w.heap.size A2 n2 l2) (m2 : n2 ≤ 9223372036854775807) (z2 : Sms l2) (s3 : Sr w w.heap.size A3 n3 l3) (m3 : n3 ≤ 9223372036854775807) (z3 : Sms l3) :
    Calls Tryz.prog 43 #[.agg #[.int .i64 h.id, .bool h.rp, .bool h.au, .bool h.ct, .bool h.wa, .bool h.ca, .int .i64 h.code, .string h.qn, .int .i64 h.qt, .slice A1 n1 c1, .slice A2 n2 c2, .slice A3 n3 c3], .int .i64 x] w (Sz x (mz h l1 l2 l3) w) := by
  have L0 := Lib.hid ((Below.refl w.heap.size w).alloc (Nat.le_refl _) (.cells #[.int .i64 h.id, .bool h.rp, .bool h.au, .bool h.ct, .bool h.wa, .bool h.ca, .int .i64 h.code, .string h.qn, .int .i64 h.qt, .slice A1 n1 c1, .slice A2 n2 c2, .slice A3 n3 c3] 56))
  have X0 := Lib.hid (mx_new w 56 h (.slice A1 n1 c1) (.slice A2 n2 c2) (.slice A3 n3 c3))
  have S0 := Lib.hid (s1.on L0.out)
  have T0 := Lib.hid (s2.on L0.out)
  have U0 := Lib.hid (s3.on L0.out)
  have Z1 := Lib.hid z1
  have Z2 := Lib.hid z2
  have Z3 := Lib.hid z3
  clear s1 s2 s3 z1 z2 z3
  go_enter Tryz.func43, Tryz.ntmps43
  go_wp2_with fail
  refine (szQuest_any h.qn h.qt x _ h0 h1 hq).mono ?_
  rintro e w1 ⟨y1, rfl, a1, b1, e1, hl⟩
  have Y1 := Lib.hid e1
  have L1 := Lib.hid (L0.out.trans (hl.mono L0.out.size))
  have X1 := Lib.hid (X0.out.below hl)
  have S1 := Lib.hid (S0.out.on hl)
  have T1 := Lib.hid (T0.out.on hl)
  have U1 := Lib.hid (U0.out.on hl)
  clear hl L0 X0 S0 T0 U0 e1
  by_cases neg1 : y1 < 0
  · go_wp2
    go_ret
    exact ⟨-1, rfl, by omega, by omega, fun h => by omega, L1.out⟩
  obtain ⟨x0, x1, x2, x3, x4, x5, x6, x7, x8, x9, x10, x11⟩ := X1.out
  go_wp2_with fail
  refine (szRecordS_any A1 n1 c1 l1 y1 w1 S1.out (by omega) (by omega) m1 Z1.out).mono ?_
  rintro e w2 ⟨y2, rfl, a2, b2, e2, hl⟩
  have Y2 := Lib.hid e2
  have L2 := Lib.hid (L1.out.trans (hl.mono L1.out.size))
  have X2 := Lib.hid (X1.out.below hl)
  have T2 := Lib.hid (T1.out.on hl)
  have U2 := Lib.hid (U1.out.on hl)
  clear hl L1 X1 S1 T1 U1 e2 x0 x1 x2 x3 x4 x5 x6 x7 x8 x9 x10 x11
  by_cases neg2 : y2 < 0
  · go_wp2
    go_ret
    exact ⟨-1, rfl, by omega, by omega, fun h => by omega, L2.out⟩
  obtain ⟨x0, x1, x2, x3, x4, x5, x6, x7, x8, x9, x10, x11⟩ := X2.out
  go_wp2_with fail
  refine (szRecordS_any A2 n2 c2 l2 y2 w2 T2.out (by omega) (by omega) m2 Z2.out).mono ?_
  rintro e w3 ⟨y3, rfl, a3, b3, e3, hl⟩
  have Y3 := Lib.hid e3
  have L3 := Lib.hid (L2.out.trans (hl.mono L2.out.size))
  have X3 := Lib.hid (X2.out.below hl)
  have U3 := Lib.hid (U2.out.on hl)
  clear hl L2 X2 T2 U2 e3 x0 x1 x2 x3 x4 x5 x6 x7 x8 x9 x10 x11
  by_cases neg3 : y3 < 0
  · go_wp2
    go_ret
    exact ⟨-1, rfl, by omega, by omega, fun h => by omega, L3.out⟩
  obtain ⟨x0, x1, x2, x3, x4, x5, x6, x7, x8, x9, x10, x11⟩ := X3.out
  go_wp2_with fail
  refine (szRecordS_any A3 n3 c3 l3 y3 w3 U3.out (by omega) (by omega) m3 Z3.out).mono ?_
  rintro e w4 ⟨y4, rfl, a4, b4, e4, hl⟩
  have Y4 := Lib.hid e4
  have L4 := Lib.hid (L3.out.trans (hl.mono L3.out.size))
  clear hl L3 X3 U3 e4 x0 x1 x2 x3 x4 x5 x6 x7 x8 x9 x10 x11
  by_cases neg4 : y4 < 0
  · go_wp2
    go_ret
    exact ⟨-1, rfl, by omega, by omega, fun h => by omega, L4.out⟩
  go_wp2
  go_ret
  refine ⟨y4, rfl, by omega, by omega, fun _ => ?_, L4.out⟩
  have q1 := Y1.out (by omega)
  have q2 := Y2.out (by omega)
  have q3 := Y3.out (by omega)
  have q4 := Y4.out (by omega)
  unfold mz
  push_cast at q1 q2 q3 q4 ⊢
  omega
end Go.Proofs.YtkfibepejlgniaaGreatDoor.SzM

/- Plain facts: the message as bytes. -/
namespace Go.Proofs.YtkfibepejlgniaaGreatDoor.HeadMath
open Go.RowKit Go.Proofs.YtkfibepejlgniaaGreatDoor.Mem Go.Proofs.YtkfibepejlgniaaGreatDoor.MemR Go.Proofs.YtkfibepejlgniaaGreatDoor.MemM Go.Proofs.YtkfibepejlgniaaGreatDoor.App Go.Proofs.YtkfibepejlgniaaGreatDoor.Put Go.Proofs.YtkfibepejlgniaaGreatDoor.PutSpec Go.Proofs.YtkfibepejlgniaaGreatDoor.RecOk Go.Proofs.YtkfibepejlgniaaGreatDoor.FieldMath Go.Proofs.YtkfibepejlgniaaGreatDoor.OkM Go.Proofs.YtkfibepejlgniaaGreatDoor.DataS Go.Proofs.YtkfibepejlgniaaGreatDoor.HeadDef

/-- Records with texts that are not too long. -/
def Meds (l : List Rec) : Prop := ∀ r ∈ l, Med r
theorem Meds.mods {l : List Rec} (h : Meds l) : Mods l := fun r hr => by
  obtain ⟨a, b, c⟩ := h r hr
  exact ⟨by omega, by omega, by omega⟩
/-- The header and the question. -/
def hqs (h : Hd) (a b c : Nat) : List UInt8 := hdl h a b c ++ tailN (hdl h a b c) h.qn ++ tail2 h.qt ++ tail2 1
theorem hqs_len (h : Hd) (a b c : Nat) : (hqs h a b c).length ≤ 96 := by
  unfold hqs
  simp only [List.length_append]
  have := hdl_len h a b c; have := tail2_len h.qt; have := tail2_len 1; have := tailN_len (hdl h a b c) h.qn
  omega
/-- The message as bytes, whatever its size. -/
def pmr (h : Hd) (l1 l2 l3 : List Rec) : List UInt8 := puts (puts (puts (hqs h l1.length l2.length l3.length) l1) l2) l3
/-- What PutMsg answers. -/
def pm (h : Hd) (l1 l2 l3 : List Rec) : List UInt8 := if mok h l1 l2 l3 = true then (if 512 < (pmr h l1 l2 l3).length then [] else pmr h l1 l2 l3) else []
theorem pm_bad {h : Hd} {l1 l2 l3 : List Rec} (e : mok h l1 l2 l3 = false) : pm h l1 l2 l3 = [] := by rw [pm, e]; rfl
theorem pm_long {h : Hd} {l1 l2 l3 : List Rec} (e : mok h l1 l2 l3 = true) (g : 512 < (pmr h l1 l2 l3).length) : pm h l1 l2 l3 = [] := by rw [pm, if_pos e, if_pos g]
theorem pm_good {h : Hd} {l1 l2 l3 : List Rec} (e : mok h l1 l2 l3 = true) (g : ¬ 512 < (pmr h l1 l2 l3).length) : pm h l1 l2 l3 = pmr h l1 l2 l3 := by rw [pm, if_pos e, if_neg g]
theorem pm_len (h : Hd) (l1 l2 l3 : List Rec) : (pm h l1 l2 l3).length ≤ 512 := by
  unfold pm
  split
  · split
    · exact Nat.zero_le _
    · omega
  · exact Nat.zero_le _
theorem mok_parts {h : Hd} {l1 l2 l3 : List Rec} (e : mok h l1 l2 l3 = true) : (0 ≤ h.id ∧ h.id ≤ 65535) ∧ (0 ≤ h.code ∧ h.code ≤ 15) ∧ qok h.qn h.qt = true ∧ rls l1 = true ∧ rls l2 = true ∧ rls l3 = true := by
  unfold mok at e
  simp only [Bool.and_eq_true] at e
  exact ⟨of_decide_eq_true e.1, of_decide_eq_true e.2.1, e.2.2.1, e.2.2.2.1, e.2.2.2.2.1, e.2.2.2.2.2⟩
theorem rls_parts {l : List Rec} (e : rls l = true) : (∀ r ∈ l, rok r = true) ∧ l.length ≤ 8 := by
  unfold rls at e
  simp only [Bool.and_eq_true, List.all_eq_true] at e
  exact ⟨e.1, of_decide_eq_true e.2⟩
theorem meds_of {h : Hd} {l1 l2 l3 : List Rec} (hz : SzM.mz h l1 l2 l3 ≤ 1048576) : Meds l1 ∧ Meds l2 ∧ Meds l3 ∧ h.qn.size ≤ 1048576 := by
  unfold SzM.mz at hz
  have key : ∀ l : List Rec, tot l ≤ 1048576 → Meds l := fun l hl r hr => by
    have := tot_le l r hr
    unfold rz at this
    exact ⟨by omega, by omega, by omega⟩
  exact ⟨key l1 (by omega), key l2 (by omega), key l3 (by omega), by omega⟩
end Go.Proofs.YtkfibepejlgniaaGreatDoor.HeadMath

/- Plain mathematics: a name that is read is valid, ends behind its offset and inside the bytes, and follows no more pointers than there are bytes. -/
namespace Go.Proofs.YtkfibepejlgniaaGreatDoor.WireGood
open Go.Proofs.YtkfibepejlgniaaGreatDoor.JoinSpec Go.Proofs.YtkfibepejlgniaaGreatDoor.GetLabel Go.Proofs.YtkfibepejlgniaaGreatDoor.NameOk Go.Proofs.YtkfibepejlgniaaGreatDoor.WireMath

/-- What is known on the way from offset o. -/
def Way (l : List UInt8) (o k m : Int) (j : Nat) (x : Int) : Prop :=
  (x = -1 ∧ o ≤ k ∧ j = 0 ∧ m = o) ∨ (0 ≤ x ∧ o < x ∧ x ≤ (l.length : Int) ∧ 0 ≤ m ∧ (j : Int) + m ≤ (l.length : Int))
theorem go_good (l : List UInt8) (o : Int) (L' : List ByteArray) (x' : Int) (j' : Nat) : ∀ f L k m j x, go l f L k m j x = (0, L', x', j') → okL L = true → Nm (Jo L) = true → Way l o k m j x →
    okL L' = true ∧ Nm (Jo L') = true ∧ o < x' ∧ x' ≤ (l.length : Int) ∧ (j' : Int) ≤ (l.length : Int)
  | 0, L, k, m, j, x, h, _, _, _ => by simp [go] at h
  | f + 1, L, k, m, j, x, h, hok, hnm, hw => by
    unfold go at h
    split at h
    · simp at h
    · rename_i hk
      split at h
      · simp only [Prod.mk.injEq, true_and] at h
        obtain ⟨rfl, rfl, rfl⟩ := h
        refine ⟨hok, hnm, ?_⟩
        rcases hw with ⟨rfl, h1, rfl, rfl⟩ | ⟨h0, h1, h2, h3, h4⟩
        · rw [if_pos (by omega)]
          omega
        · rw [if_neg (by omega)]
          omega
      · rename_i h0
        split at h
        · rename_i h192
          split at h
          · simp at h
          · rename_i h1
            split at h
            · simp at h
            · rename_i h2
              have ht := tg_pos l k h192
              refine go_good l o L' x' j' f L _ _ _ _ h hok hnm (Or.inr ?_)
              rcases hw with ⟨rfl, h3, rfl, rfl⟩ | ⟨h3, h4, h5, h6, h7⟩
              · rw [if_pos (by omega)]
                omega
              · rw [if_neg (by omega)]
                omega
        · cases hh : has l k with
          | none =>
            rw [hh] at h
            simp only [Prod.mk.injEq] at h
            have := h.1
            split at this <;> omega
          | some q =>
            obtain ⟨p, e⟩ := q
            rw [hh] at h
            dsimp only at h
            split at h
            · rename_i h3
              have hs := has_some hh
              refine go_good l o L' x' j' f _ _ _ _ _ h (okL_snoc hok hs.2.2.2.1) h3 ?_
              rcases hw with ⟨rfl, h4, h5, h6⟩ | h4
              · exact Or.inl ⟨rfl, by omega, h5, h6⟩
              · exact Or.inr h4
            · simp at h
theorem rn_good {l : List UInt8} {k : Int} {L' : List ByteArray} {x' : Int} {j' : Nat} (h : rn l [] k k 0 (-1) = (0, L', x', j')) :
    okL L' = true ∧ Nm (Jo L') = true ∧ k < x' ∧ x' ≤ (l.length : Int) ∧ (j' : Int) ≤ (l.length : Int) :=
  go_good l k L' x' j' _ _ _ _ _ _ h rfl rfl (Or.inl ⟨rfl, Int.le_refl _, rfl, rfl⟩)
end Go.Proofs.YtkfibepejlgniaaGreatDoor.WireGood

/- Plain mathematics: a name is read back out of its encoding, with and without pointers. -/
namespace Go.Proofs.YtkfibepejlgniaaGreatDoor.WireBack
open Go.Proofs.YtkfibepejlgniaaGreatDoor.Mem Go.Proofs.YtkfibepejlgniaaGreatDoor.MemS Go.Proofs.YtkfibepejlgniaaGreatDoor.JoinSpec Go.Proofs.YtkfibepejlgniaaGreatDoor.Split Go.Proofs.YtkfibepejlgniaaGreatDoor.JoinLab Go.Proofs.YtkfibepejlgniaaGreatDoor.Label Go.Proofs.YtkfibepejlgniaaGreatDoor.Fold Go.Proofs.YtkfibepejlgniaaGreatDoor.GetLabel Go.Proofs.YtkfibepejlgniaaGreatDoor.PutLabel Go.Proofs.YtkfibepejlgniaaGreatDoor.NameOk Go.Proofs.YtkfibepejlgniaaGreatDoor.Plain Go.Proofs.YtkfibepejlgniaaGreatDoor.Place Go.Proofs.YtkfibepejlgniaaGreatDoor.Put Go.Proofs.YtkfibepejlgniaaGreatDoor.PutSpec Go.Proofs.YtkfibepejlgniaaGreatDoor.WireMath Go.Proofs.YtkfibepejlgniaaGreatDoor.WireGood

theorem fo_ok {x : UInt8} (h : okB x = true) : fo x = x := by
  unfold okB okC at h
  have h := of_decide_eq_true h
  unfold fo
  rw [if_neg (by omega)]
theorem Fo_ok {p : ByteArray} (h : lok p.data.toList = true) : Fo p = p := by
  apply text_ext
  rw [Fo_list]
  rw [lok, Bool.and_eq_true] at h
  have h2 := List.all_eq_true.1 h.2
  conv => rhs; rw [← List.map_id p.data.toList]
  exact List.map_congr_left fun x hx => fo_ok (h2 x hx)
theorem tailL_ok {p : ByteArray} (h : lok p.data.toList = true) : tailL p = one p.size ++ p.data.toList := by rw [tailL, h]; rfl
theorem tailL_two {p : ByteArray} (h : lok p.data.toList = true) : (tailL p).length = 1 + p.size ∧ 1 ≤ p.size ∧ p.size ≤ 12 := by
  have h1 := PutLabel.lok_len h
  have hz : p.data.toList.length = p.size := by simp
  rw [tailL_ok h, List.length_append, one_len, hz]
  omega
theorem get_mid (P Q R : List UInt8) (i : Nat) (h : i < Q.length) : (P ++ Q ++ R).getD (P.length + i) 0 = Q[i] := by
  rw [List.getD_eq_getElem?_getD, List.append_assoc, List.getElem?_append_right (by omega), Nat.add_sub_cancel_left, List.getElem?_append_left h, List.getElem?_eq_getElem h]
  rfl
theorem bt_mid (P Q R : List UInt8) (i : Nat) (h : i < Q.length) : bt (P ++ Q ++ R) ((P.length : Int) + (i : Int)) = (Q[i].toNat : Int) := by
  unfold bt
  rw [show ((P.length : Int) + (i : Int)).toNat = P.length + i by omega, get_mid P Q R i h]
/-- A label stands where its encoding stands. -/
theorem has_here (P R : List UInt8) (p : ByteArray) (h : lok p.data.toList = true) : has (P ++ tailL p ++ R) (P.length : Int) = some (p, P.length + (tailL p).length) := by
  obtain ⟨hl, h1, h2⟩ := tailL_two h
  have hz : p.data.toList.length = p.size := by simp
  have hlt : P.length < (P ++ tailL p ++ R).length := by rw [List.length_append, List.length_append]; omega
  have hb : (P ++ tailL p ++ R)[P.length].toNat = p.size := by
    have e : (P ++ tailL p ++ R)[P.length] = UInt8.ofNat p.size := by
      rw [List.getElem_append_left (by rw [List.length_append]; omega), List.getElem_append_right (Nat.le_refl _)]
      simp only [tailL_ok h, Nat.sub_self]
      rfl
    rw [e, UInt8.toNat_ofNat_of_lt' (by simp [UInt8.size]; omega)]
  have hp : piece (P ++ tailL p ++ R) P.length p.size = p := by
    apply text_ext
    rw [piece_list, tailL_ok h]
    have e : P ++ (one p.size ++ p.data.toList) ++ R = (P ++ one p.size) ++ (p.data.toList ++ R) := by simp [List.append_assoc]
    have e2 : P.length + 1 = (P ++ one p.size).length := by rw [List.length_append, one_len]
    rw [e, e2, List.drop_left, List.take_left' hz]
  rw [has_in _ _ hlt, hb, hp, Fo_ok h, if_pos ⟨by rw [List.length_append, List.length_append]; omega, h⟩, hl]
  congr 2
  omega

/-- The names that a valid name begins with are valid. -/
theorem jo_grow (L : List ByteArray) : ∀ k, k < L.length → (jo (L.take k)).length ≤ (jo (L.take (k + 1))).length := fun k h => by
  by_cases h0 : 0 < k
  · rw [jo_step L k h0 h, List.length_append, List.length_append]
    omega
  · obtain rfl : k = 0 := by omega
    simp [jo, Lib.join_nil]
theorem jo_upto (L : List ByteArray) (k : Nat) : ∀ d, k + d ≤ L.length → (jo (L.take k)).length ≤ (jo (L.take (k + d))).length
  | 0, _ => Nat.le_refl _
  | d + 1, h => by
    have h1 := jo_upto L k d (by omega)
    have h2 := jo_grow L (k + d) (by omega)
    rw [show k + (d + 1) = k + d + 1 by omega]
    omega
theorem okL_take {L : List ByteArray} (h : okL L = true) (k : Nat) : okL (L.take k) = true := by
  rw [okL, List.all_eq_true] at h ⊢
  exact fun x hx => h x (List.mem_of_mem_take hx)
theorem nm_of {L : List ByteArray} (h : okL L = true) : Nm (Jo L) = (decide ((Jo L).size ≤ 50) && decide (L.length ≤ 6)) := by
  rw [Nm, lab_ok h, h]
  rfl
theorem nm_take {L : List ByteArray} (h : okL L = true) (hn : Nm (Jo L) = true) (k : Nat) : Nm (Jo (L.take k)) = true := by
  by_cases hk : k ≤ L.length
  · rw [nm_of h, Bool.and_eq_true] at hn
    rw [nm_of (okL_take h k), Bool.and_eq_true]
    have h1 := of_decide_eq_true hn.1
    have h2 := of_decide_eq_true hn.2
    have h3 := jo_upto L k (L.length - k) (by omega)
    rw [show k + (L.length - k) = L.length by omega, List.take_length] at h3
    rw [Jo_size] at h1
    refine ⟨decide_eq_true (by rw [Jo_size]; omega), decide_eq_true (by rw [List.length_take]; omega)⟩
  · rw [List.take_of_length_le (by omega)]
    exact hn
theorem nm_pre {T D : List ByteArray} (h : okL D = true) (hn : Nm (Jo D) = true) (hp : T <+: D) : Nm (Jo T) = true := by
  obtain ⟨r, rfl⟩ := hp
  have := nm_take h hn T.length
  rwa [List.take_left] at this

/-- Labels that stand one behind another are read one after another. -/
theorem rn_tls (P : List UInt8) (m : Int) (j : Nat) (x : Int) (R : List UInt8) : ∀ (T L0 : List ByteArray) (Q : List UInt8), okL (L0 ++ T) = true → Nm (Jo (L0 ++ T)) = true →
    rn (P ++ Q ++ tls T ++ R) L0 ((P ++ Q).length : Int) m j x = rn (P ++ Q ++ tls T ++ R) (L0 ++ T) ((P ++ Q ++ tls T).length : Int) m j x
  | [], L0, Q, _, _ => by simp [tls_nil]
  | p :: T, L0, Q, hok, hnm => by
    have hp : lok p.data.toList = true := okL_mem hok p (by simp)
    obtain ⟨hl, h1, h2⟩ := tailL_two hp
    have e : P ++ Q ++ tls (p :: T) ++ R = P ++ Q ++ tailL p ++ (tls T ++ R) := by rw [tls_cons]; simp [List.append_assoc]
    have hh := has_here (P ++ Q) (tls T ++ R) p hp
    rw [← e] at hh
    have hb := has_bt hh
    have hs := has_some hh
    have ih := rn_tls P m j x R T (L0 ++ [p]) (Q ++ tailL p) (by rw [List.append_assoc]; exact hok) (by rw [List.append_assoc]; exact hnm)
    have e2 : P ++ (Q ++ tailL p) ++ tls T ++ R = P ++ Q ++ tls (p :: T) ++ R := by rw [tls_cons]; simp [List.append_assoc]
    have e3 : P ++ (Q ++ tailL p) ++ tls T = P ++ Q ++ tls (p :: T) := by rw [tls_cons]; simp [List.append_assoc]
    have e4 : ((P ++ (Q ++ tailL p)).length : Int) = (((P ++ Q).length + (tailL p).length : Nat) : Int) := by rw [← List.append_assoc, List.length_append]
    have e5 : L0 ++ [p] ++ T = L0 ++ p :: T := by simp
    rw [e2, e3, e4, e5] at ih
    rw [← ih]
    refine rn_label ?_ hb.1 (by omega) hh ?_
    · omega
    · exact nm_pre hok hnm ⟨T, by simp⟩

/-- The end of a name. -/
theorem rn_stop (P R : List UInt8) (L : List ByteArray) (m : Int) (j : Nat) (x : Int) : rn (P ++ zer ++ R) L (P.length : Int) m j x = (0, L, if x < 0 then (P.length : Int) + 1 else x, j) := by
  have hb : bt (P ++ zer ++ R) (P.length : Int) = 0 := by
    have h1 := bt_mid P zer R 0 (by simp [zer, one_len])
    have h2 : (zer[0]'(by simp [zer, one_len])).toNat = 0 := rfl
    rw [h2] at h1
    simpa using h1
  refine rn_zero ?_ hb
  rw [List.length_append, List.length_append, zer, one_len]
  omega

/-- Out of the plain encoding. -/
theorem back_plain (l : List UInt8) (s : ByteArray) (h : Nm s = true) : rn (l ++ tailP s) [] (l.length : Int) (l.length : Int) 0 (-1) = (0, Lab s, ((l ++ tailP s).length : Int), 0) := by
  have hok := (nm_parts h).2.2
  have e : l ++ tailP s = l ++ [] ++ tls (Lab s) ++ zer := by rw [tailP, if_pos h]; simp [List.append_assoc]
  have h1 := rn_tls l (l.length : Int) 0 (-1) zer (Lab s) [] [] (by simpa using hok) (by rw [List.nil_append, jo_lab]; exact h)
  rw [← e, List.append_nil, List.nil_append] at h1
  rw [h1]
  have h2 := rn_stop (l ++ tls (Lab s)) [] (Lab s) (l.length : Int) 0 (-1)
  have e2 : l ++ tls (Lab s) ++ zer ++ [] = l ++ tailP s := by rw [e]; simp
  rw [e2] at h2
  rw [h2, if_pos (by omega), e]
  have e3 : ((l ++ [] ++ tls (Lab s) ++ zer).length : Int) = ((l ++ tls (Lab s)).length : Int) + 1 := by simp [zer, one_len]; omega
  rw [e3]

/-- More fuel changes no name that was read. -/
theorem go_more (l : List UInt8) (D : List ByteArray) (y : Int) (i : Nat) : ∀ f g L k m j x, go l f L k m j x = (0, D, y, i) → f ≤ g → go l g L k m j x = (0, D, y, i)
  | 0, _, _, _, _, _, _, h, _ => by simp [go] at h
  | _ + 1, 0, _, _, _, _, _, _, h => absurd h (by omega)
  | f + 1, g + 1, L, k, m, j, x, h, hfg => by
    unfold go at h ⊢
    split at h
    · simp at h
    · rename_i hk
      rw [if_neg hk]
      split at h
      · rename_i h0
        rw [if_pos h0]
        exact h
      · rename_i h0
        rw [if_neg h0]
        split at h
        · rename_i h192
          rw [if_pos h192]
          split at h
          · simp at h
          · rename_i h1
            rw [if_neg h1]
            split at h
            · simp at h
            · rename_i h2
              rw [if_neg h2]
              exact go_more l D y i f g _ _ _ _ _ h (by omega)
        · rename_i h192
          rw [if_neg h192]
          cases hh : has l k with
          | none =>
            rw [hh] at h
            simp only [Prod.mk.injEq] at h
            have := h.1
            split at this <;> omega
          | some q =>
            obtain ⟨p, e⟩ := q
            rw [hh] at h
            dsimp only at h ⊢
            split at h
            · rename_i h3
              rw [if_pos h3]
              exact go_more l D y i f g _ _ _ _ _ h (by omega)
            · simp at h
/-- What has been read stays at the head of what is read. -/
theorem go_ext (l : List UInt8) (D : List ByteArray) (y : Int) (i : Nat) : ∀ f L k m j x, go l f L k m j x = (0, D, y, i) → L <+: D
  | 0, _, _, _, _, _, h => by simp [go] at h
  | f + 1, L, k, m, j, x, h => by
    unfold go at h
    split at h
    · simp at h
    · split at h
      · simp only [Prod.mk.injEq, true_and] at h
        exact h.1 ▸ List.prefix_refl _
      · split at h
        · split at h
          · simp at h
          · split at h
            · simp at h
            · exact go_ext l D y i f _ _ _ _ _ h
        · cases hh : has l k with
          | none =>
            rw [hh] at h
            simp only [Prod.mk.injEq] at h
            have := h.1
            split at this <;> omega
          | some q =>
            obtain ⟨p, e⟩ := q
            rw [hh] at h
            dsimp only at h
            split at h
            · exact (List.prefix_append L [p]).trans (go_ext l D y i f _ _ _ _ _ h)
            · simp at h
theorem bt_left (l R : List UInt8) (k : Int) (h0 : 0 ≤ k) (h : k < (l.length : Int)) : bt (l ++ R) k = bt l k := by
  unfold bt
  rw [List.getD_eq_getElem?_getD, List.getD_eq_getElem?_getD, List.getElem?_append_left (by omega)]
theorem has_left {l : List UInt8} (R : List UInt8) {k : Int} {p : ByteArray} {e : Nat} (h : has l k = some (p, e)) : has (l ++ R) k = some (p, e) := by
  have hs := has_some h
  obtain ⟨k', rfl⟩ := Int.eq_ofNat_of_zero_le hs.1
  have hkl : k' < l.length := by omega
  have hkl2 : k' < (l ++ R).length := by rw [List.length_append]; omega
  have hg : (l ++ R)[k'] = l[k'] := List.getElem_append_left hkl
  rw [has_in l k' hkl] at h
  split at h
  · rename_i hh
    have hp : piece (l ++ R) k' l[k'].toNat = piece l k' l[k'].toNat := by
      apply text_ext
      rw [piece_list, piece_list, List.drop_append_of_le_length (by omega), List.take_append_of_le_length (by rw [List.length_drop]; omega)]
    rw [has_in _ k' hkl2, hg, hp, if_pos ⟨by rw [List.length_append]; omega, hh.2⟩]
    exact h
  · cases h
/-- A name that is read is read behind other labels and with more bytes behind, too. -/
theorem go_left (l R : List UInt8) (T D : List ByteArray) (y : Int) (i : Nat) (hok : okL (T ++ D) = true) (hnm : Nm (Jo (T ++ D)) = true) : ∀ f L k m j x, go l f L k m j x = (0, D, y, i) → ∀ j' x', 0 ≤ x' →
    ∃ i', go (l ++ R) f (T ++ L) k m j' x' = (0, T ++ D, x', i')
  | 0, _, _, _, _, _, h, _, _, _ => by simp [go] at h
  | f + 1, L, k, m, j, x, h, j', x', hx => by
    have hext := go_ext l D y i (f + 1) L k m j x h
    unfold go at h ⊢
    split at h
    · simp at h
    · rename_i hk
      have hb := bt_left l R k (by omega) (by omega)
      rw [if_neg (by rw [List.length_append]; omega), hb]
      split at h
      · rename_i h0
        rw [if_pos h0]
        simp only [Prod.mk.injEq, true_and] at h
        exact ⟨j', by rw [h.1, if_neg (by omega)]⟩
      · rename_i h0
        rw [if_neg h0]
        split at h
        · rename_i h192
          rw [if_pos h192]
          split at h
          · simp at h
          · rename_i h1
            have ht : tg (l ++ R) k = tg l k := by unfold tg; rw [hb, bt_left l R (k + 1) (by omega) (by omega)]
            rw [if_neg (by rw [List.length_append]; omega), ht]
            split at h
            · simp at h
            · rename_i h2
              rw [if_neg h2, if_neg (by omega)]
              exact go_left l R T D y i hok hnm f _ _ _ _ _ h _ _ hx
        · rename_i h192
          rw [if_neg h192]
          cases hh : has l k with
          | none =>
            rw [hh] at h
            simp only [Prod.mk.injEq] at h
            have := h.1
            split at this <;> omega
          | some q =>
            obtain ⟨p, e⟩ := q
            rw [hh] at h
            rw [has_left R hh]
            dsimp only at h ⊢
            split at h
            · have hx2 := go_ext l D y i f _ _ _ _ _ h
              have hpre : T ++ L ++ [p] <+: T ++ D := by
                rw [List.append_assoc]
                exact (List.prefix_append_right_inj T).2 hx2
              rw [if_pos (nm_pre hok hnm hpre), List.append_assoc]
              exact go_left l R T D y i hok hnm f _ _ _ _ _ h _ _ hx
            · simp at h
theorem mu_more (l R : List UInt8) (k m : Int) : mu l k m ≤ mu (l ++ R) k m := by
  unfold mu
  rw [List.length_append]
  have h : m.toNat * (l.length + 1) ≤ m.toNat * (l.length + R.length + 1) := Nat.mul_le_mul_left _ (by omega)
  omega
theorem rn_left {l : List UInt8} (R : List UInt8) {T D : List ByteArray} {k m x y : Int} {j i : Nat} (h : rn l [] k m j x = (0, D, y, i)) (hok : okL (T ++ D) = true) (hnm : Nm (Jo (T ++ D)) = true) (j' : Nat) (x' : Int) (hx : 0 ≤ x') :
    ∃ i', rn (l ++ R) T k m j' x' = (0, T ++ D, x', i') := by
  unfold rn at h ⊢
  obtain ⟨i', h1⟩ := go_left l R T D y i hok hnm _ _ _ _ _ _ h j' x' hx
  rw [List.append_nil] at h1
  exact ⟨i', go_more _ _ _ _ _ _ _ _ _ _ _ h1 (by have := mu_more l R k m; omega)⟩

/-- How PutName's tail is built. -/
theorem pn_split (l : List UInt8) : ∀ L : List ByteArray, pn l L = tls L ++ zer ∨ ∃ (k q : Nat), k < L.length ∧ q < l.length ∧ q ≤ 16383 ∧ hit l (Jo (L.drop k)) q = true ∧ pn l L = tls (L.take k) ++ ptr (q : Int)
  | [] => Or.inl (by rw [pn, tls_nil]; rfl)
  | p :: r => by
    rw [pn]
    split
    · rename_i h
      obtain ⟨q, hq, h1, h2, h3⟩ := pl_some h
      exact Or.inr ⟨0, q, by simp, h1, h2, h3, by rw [hq]; simp [tls_nil]⟩
    · rcases pn_split l r with h | ⟨k, q, hk, h1, h2, h3, h4⟩
      · exact Or.inl (by rw [h, tls_cons, List.append_assoc])
      · exact Or.inr ⟨k + 1, q, by simpa using hk, h1, h2, by simpa using h3, by rw [h4, List.take_succ_cons, tls_cons, List.append_assoc]⟩
theorem ptr_bytes (q : Nat) (h : q ≤ 16383) : ((ptr (q : Int))[0]'(by rw [ptr_len]; omega)).toNat = 192 + q / 256 ∧ ((ptr (q : Int))[1]'(by rw [ptr_len]; omega)).toNat = q % 256 := by
  have e1 : ((49152 + (q : Int)) / 256).toNat = 192 + q / 256 := by omega
  have e2 : ((49152 + (q : Int)) % 256).toNat = q % 256 := by omega
  constructor
  · show (UInt8.ofNat ((49152 + (q : Int)) / 256).toNat).toNat = _
    rw [e1, UInt8.toNat_ofNat_of_lt' (by simp [UInt8.size]; omega)]
  · show (UInt8.ofNat ((49152 + (q : Int)) % 256).toNat).toNat = _
    rw [e2, UInt8.toNat_ofNat_of_lt' (by simp [UInt8.size]; omega)]

/-- Out of the encoding with pointers. -/
theorem back_name (l : List UInt8) (s : ByteArray) (h : Nm s = true) : ∃ i, rn (l ++ tailN l s) [] (l.length : Int) (l.length : Int) 0 (-1) = (0, Lab s, ((l ++ tailN l s).length : Int), i) := by
  obtain ⟨_, _, hok⟩ := nm_parts h
  have hnm : Nm (Jo (Lab s)) = true := by rw [jo_lab]; exact h
  have e0 : tailN l s = pn l (Lab s) := by rw [tailN, if_pos h]
  rcases pn_split l (Lab s) with e | ⟨k, q, hk, hq1, hq2, hh, e⟩
  · have e1 : tailN l s = tailP s := by rw [e0, e, tailP, if_pos h]
    rw [e1]
    exact ⟨0, back_plain l s h⟩
  · rw [e0, e]
    have ht : okL ((Lab s).take k) = true := okL_take hok k
    have hn : Nm (Jo ((Lab s).take k)) = true := nm_take hok hnm k
    have h1 := rn_tls l (l.length : Int) 0 (-1) (ptr (q : Int)) ((Lab s).take k) [] [] (by simpa using ht) (by simpa using hn)
    rw [List.append_nil, List.nil_append] at h1
    obtain ⟨hp0, hp1⟩ := ptr_bytes q hq2
    have hb0 : bt (l ++ tls ((Lab s).take k) ++ ptr (q : Int)) ((l ++ tls ((Lab s).take k)).length : Int) = ((192 + q / 256 : Nat) : Int) := by
      have := bt_mid (l ++ tls ((Lab s).take k)) (ptr (q : Int)) [] 0 (by rw [ptr_len]; omega)
      rw [hp0, List.append_nil] at this
      simpa using this
    have hb1 : bt (l ++ tls ((Lab s).take k) ++ ptr (q : Int)) (((l ++ tls ((Lab s).take k)).length : Int) + 1) = ((q % 256 : Nat) : Int) := by
      have := bt_mid (l ++ tls ((Lab s).take k)) (ptr (q : Int)) [] 1 (by rw [ptr_len]; omega)
      rw [hp1, List.append_nil] at this
      simpa using this
    have htg : tg (l ++ tls ((Lab s).take k) ++ ptr (q : Int)) ((l ++ tls ((Lab s).take k)).length : Int) = (q : Int) := by
      unfold tg
      rw [hb0, hb1]
      omega
    have hlen : ((l ++ tls ((Lab s).take k) ++ ptr (q : Int)).length : Int) = ((l ++ tls ((Lab s).take k)).length : Int) + 2 := by
      rw [List.length_append, ptr_len]
      omega
    have h2 := rn_jump (l := l ++ tls ((Lab s).take k) ++ ptr (q : Int)) (L := (Lab s).take k) (k := ((l ++ tls ((Lab s).take k)).length : Int)) (m := (l.length : Int)) (j := 0) (x := -1) (by omega) (by rw [hb0]; omega) (by omega) (by rw [htg]; omega)
    rw [htg, if_pos (by omega)] at h2
    obtain ⟨hd1, hd2⟩ := hit_iff.1 hh
    obtain ⟨c, D, y, i, hR⟩ : ∃ c D y i, rn l [] (q : Int) (q : Int) 0 (-1) = (c, D, y, i) := ⟨_, _, _, _, rfl⟩
    unfold dn at hd1 hd2
    rw [hR] at hd1 hd2
    dsimp only at hd1 hd2
    subst hd1
    have hDok := (rn_good hR).1
    have hD : D = (Lab s).drop k := by
      have e1 := lab_ok hDok
      have hdr : okL ((Lab s).drop k) = true := by
        rw [okL, List.all_eq_true] at hok ⊢
        exact fun x hx => hok x (List.mem_of_mem_drop hx)
      have e2 := lab_ok hdr
      rw [← e1, hd2, e2]
    subst hD
    have hfull : (Lab s).take k ++ (Lab s).drop k = Lab s := List.take_append_drop k _
    obtain ⟨i', h3⟩ := rn_left (tls ((Lab s).take k) ++ ptr (q : Int)) (T := (Lab s).take k) hR (by rw [hfull]; exact hok) (by rw [hfull]; exact hnm) 1 (((l ++ tls ((Lab s).take k)).length : Int) + 2) (by omega)
    rw [hfull, ← List.append_assoc] at h3
    refine ⟨i', ?_⟩
    rw [← List.append_assoc, h1, h2, hlen]
    exact h3

theorem pn_short (l : List UInt8) : ∀ L : List ByteArray, okL L = true → (pn l L).length ≤ (tls L).length + 1
  | [], _ => by simp [pn, zer, one_len]
  | p :: r, h => by
    have hp := tailL_two (okL_mem h p (by simp))
    have ih := pn_short l r (by rw [okL, List.all_cons, Bool.and_eq_true] at h; exact h.2)
    rw [pn, tls_cons, List.length_append]
    split
    · rw [ptr_len]
      omega
    · rw [List.length_append]
      omega
/-- The encoding with pointers is no longer. -/
theorem name_short (l : List UInt8) (s : ByteArray) (h : Nm s = true) : (tailN l s).length ≤ (tailP s).length := by
  have h1 := pn_short l (Lab s) (nm_parts h).2.2
  rw [tailN, if_pos h, tailP, if_pos h, List.length_append, zer, one_len]
  exact h1
/-- A name that has just been put is put again by one pointer. -/
theorem again (l : List UInt8) (s : ByteArray) (h : Nm s = true) (hl : l.length ≤ 16383) : (tailN (l ++ tailN l s) s).length ≤ 2 := by
  rw [show tailN (l ++ tailN l s) s = pn (l ++ tailN l s) (Lab s) by rw [tailN, if_pos h]]
  cases hL : Lab s with
  | nil => simp [pn, zer, one_len]
  | cons p r =>
    have hs : Jo (p :: r) = s := by rw [← hL, jo_lab]
    rw [pn]
    split
    · rw [ptr_len]
      exact Nat.le_refl _
    · rename_i hno
      exfalso
      rw [hs] at hno
      obtain ⟨i, hb⟩ := back_name l s h
      have hne : 0 < (tailN l s).length := by
        rw [tailN, if_pos h, hL, pn]
        split
        · rw [ptr_len]; omega
        · rw [List.length_append]
          have := tailL_two (okL_mem (nm_parts h).2.2 p (by rw [hL]; simp))
          omega
      have hm := pl_none hno l.length (by rw [List.length_append]; omega) hl
      have hy : hit (l ++ tailN l s) s l.length = true := by
        rw [hit_iff]
        unfold dn
        rw [hb]
        exact ⟨rfl, jo_lab s⟩
      rw [hy] at hm
      cases hm
end Go.Proofs.YtkfibepejlgniaaGreatDoor.WireBack

/- Plain mathematics: what was put as a record is read as that record, whatever stands ahead of it and behind it. Nothing of the program is named here but the seat itself. -/
namespace Go.Proofs.YtkfibepejlgniaaGreatDoor.FieldBack
open Go.Proofs.YtkfibepejlgniaaGreatDoor.Mem Go.Proofs.YtkfibepejlgniaaGreatDoor.MemR Go.Proofs.YtkfibepejlgniaaGreatDoor.JoinSpec Go.Proofs.YtkfibepejlgniaaGreatDoor.Split Go.Proofs.YtkfibepejlgniaaGreatDoor.JoinLab Go.Proofs.YtkfibepejlgniaaGreatDoor.GetLabel Go.Proofs.YtkfibepejlgniaaGreatDoor.PutLabel Go.Proofs.YtkfibepejlgniaaGreatDoor.NameOk Go.Proofs.YtkfibepejlgniaaGreatDoor.TextR Go.Proofs.YtkfibepejlgniaaGreatDoor.RecOk Go.Proofs.YtkfibepejlgniaaGreatDoor.WireMath Go.Proofs.YtkfibepejlgniaaGreatDoor.WireBack Go.Proofs.YtkfibepejlgniaaGreatDoor.Plain Go.Proofs.YtkfibepejlgniaaGreatDoor.PutSpec Go.Proofs.YtkfibepejlgniaaGreatDoor.Put Go.Proofs.YtkfibepejlgniaaGreatDoor.Get Go.Proofs.YtkfibepejlgniaaGreatDoor.FieldMath

/-- A name that is read is read with more bytes behind, too. -/
theorem go_behind (l R : List UInt8) (D : List ByteArray) (y : Int) (i : Nat) : ∀ f L k m j x, go l f L k m j x = (0, D, y, i) → go (l ++ R) f L k m j x = (0, D, y, i)
  | 0, _, _, _, _, _, h => by simp [go] at h
  | f + 1, L, k, m, j, x, h => by
    unfold go at h ⊢
    split at h
    · simp at h
    · rename_i hk
      have hb := bt_left l R k (by omega) (by omega)
      rw [if_neg (by rw [List.length_append]; omega), hb]
      split at h
      · rename_i h0
        rw [if_pos h0]
        exact h
      · rename_i h0
        rw [if_neg h0]
        split at h
        · rename_i h192
          rw [if_pos h192]
          split at h
          · simp at h
          · rename_i h1
            have ht : tg (l ++ R) k = tg l k := by unfold tg; rw [hb, bt_left l R (k + 1) (by omega) (by omega)]
            rw [if_neg (by rw [List.length_append]; omega), ht]
            split at h
            · simp at h
            · rename_i h2
              rw [if_neg h2]
              exact go_behind l R D y i f _ _ _ _ _ h
        · rename_i h192
          rw [if_neg h192]
          cases hh : has l k with
          | none =>
            rw [hh] at h
            simp only [Prod.mk.injEq] at h
            have := h.1
            split at this <;> omega
          | some q =>
            obtain ⟨p, e⟩ := q
            rw [hh] at h
            rw [has_left R hh]
            dsimp only at h ⊢
            split at h
            · rename_i h3
              rw [if_pos h3]
              exact go_behind l R D y i f _ _ _ _ _ h
            · simp at h
theorem rn_behind {l : List UInt8} (R : List UInt8) {D : List ByteArray} {k m x y : Int} {j i : Nat} (h : rn l [] k m j x = (0, D, y, i)) : rn (l ++ R) [] k m j x = (0, D, y, i) := by
  unfold rn at h ⊢
  exact go_more _ _ _ _ _ _ _ _ _ _ _ (go_behind l R D y i _ _ _ _ _ _ h) (by have := mu_more l R k m; omega)

theorem of_byte (x : Int) (h0 : 0 ≤ x) (h1 : x < 256) : ((UInt8.ofNat x.toNat).toNat : Int) = x := by
  rw [UInt8.toNat_ofNat_of_lt' (by simp [UInt8.size]; omega), Int.toNat_of_nonneg h0]
theorem be_quad (k : Int) (h0 : 0 ≤ k) (h1 : k ≤ 2147483647) : be (quad k) = k := by
  have e1 := of_byte (k / 16777216) (by omega) (by omega)
  have e2 := of_byte (k / 65536 % 256) (by omega) (by omega)
  have e3 := of_byte (k / 256 % 256) (by omega) (by omega)
  have e4 := of_byte (k % 256) (by omega) (by omega)
  simp only [be, quad, List.foldl_cons, List.foldl_nil, e1, e2, e3, e4]
  omega
theorem be_two (k : Int) (h0 : 0 ≤ k) (h1 : k ≤ 65535) : be (two k) = k := by
  have e1 := of_byte (k / 256) (by omega) (by omega)
  have e2 := of_byte (k % 256) (by omega) (by omega)
  simp only [be, two, List.foldl_cons, List.foldl_nil, e1, e2]
  omega
theorem mid (P X Q : List UInt8) (m : Nat) (h : X.length = m) : ((P ++ X ++ Q).drop P.length).take m = X := by
  rw [List.append_assoc, List.drop_left, ← h, List.take_left]
theorem n4_mid (P Q : List UInt8) (x : Int) (h0 : 0 ≤ x) (h1 : x ≤ 2147483647) (k : Int) (hk : k = (P.length : Int)) : n4 (P ++ quad x ++ Q) k = (x, true) := by
  subst hk
  have hl : (quad x).length = 4 := rfl
  have e : be (((P ++ quad x ++ Q).drop P.length).take 4) = x := by rw [mid _ _ _ 4 hl]; exact be_quad x h0 h1
  rw [n4, if_pos ⟨by omega, by simp only [List.length_append, hl]; omega⟩, Int.toNat_natCast, e, if_neg (by omega)]
theorem n2_mid (P Q : List UInt8) (x : Int) (h0 : 0 ≤ x) (h1 : x ≤ 65535) (k : Int) (hk : k = (P.length : Int)) : n2 (P ++ two x ++ Q) k = (x, true) := by
  subst hk
  have hl : (two x).length = 2 := rfl
  have e : be (((P ++ two x ++ Q).drop P.length).take 2) = x := by rw [mid _ _ _ 2 hl]; exact be_two x h0 h1
  rw [n2, if_pos ⟨by omega, by simp only [List.length_append, hl]; omega⟩, Int.toNat_natCast, e]
theorem emp_eq {s : ByteArray} (h : emp s = true) : s = ⟨#[]⟩ := by
  have h : s.size = 0 := of_decide_eq_true h
  obtain ⟨a⟩ := s
  have h : a.size = 0 := h
  rw [Array.eq_empty_of_size_eq_zero h]
theorem nul_eq {n : Int} (h : nul n = true) : n = 0 := of_decide_eq_true h
theorem inn_eq {x a b : Int} (h : inn x a b = true) : a ≤ x ∧ x ≤ b := of_decide_eq_true h
theorem name_mid (P Q : List UInt8) (s : ByteArray) (h : Nm s = true) (k : Int) (hk : k = (P.length : Int)) : rn (P ++ tailP s ++ Q) [] k k 0 (-1) = (0, Lab s, ((P ++ tailP s).length : Int), 0) := by
  subst hk
  exact rn_behind Q (back_plain P s h)
/-- The data of a record without name and time to live. -/
def core (r : Rec) : Rec := ⟨⟨#[]⟩, r.ty, 0, r.n, r.host, r.text⟩
theorem back_data (P Q : List UInt8) (r : Rec) (h : rok r = true) (k : Int) (hk : k = (P.length : Int)) : gd (P ++ dat r ++ Q) k ((dat r).length : Int) r.ty = (0, core r) := by
  have hd : dat r = dta r.ty r.n r.host r.text := if_pos h
  have hl := dat_len r
  rw [rok, Bool.and_eq_true, Bool.and_eq_true] at h
  have h := h.2.2
  have hn : 0 ≤ ((dat r).length : Int) ∧ ((dat r).length : Int) ≤ 255 := by omega
  have ho : ¬ (k < 0 ∨ ((P ++ dat r ++ Q).length : Int) - ((dat r).length : Int) < k) := by subst hk; simp only [List.length_append]; omega
  obtain ⟨nm, ty, ttl, n, host, text⟩ := r
  unfold core
  dsimp only at *
  by_cases h1 : ty = 1
  · subst h1
    rw [dko_1, Bool.and_eq_true, Bool.and_eq_true] at h
    obtain rfl := emp_eq h.2.1
    obtain rfl := emp_eq h.2.2
    have hr := inn_eq h.1
    rw [dta_1, tail4, if_pos hr] at hd
    have hd4 : (dat ⟨nm, 1, ttl, n, ⟨#[]⟩, ⟨#[]⟩⟩).length = 4 := by rw [hd]; rfl
    rw [gd_1 hn ho, hd4, hd, n4_mid P Q n hr.1 hr.2 k hk, if_pos ⟨rfl, rfl⟩]
    rfl
  by_cases h6 : ty = 6
  · subst h6
    rw [dko_6, Bool.and_eq_true, Bool.and_eq_true] at h
    obtain rfl := emp_eq h.2.2
    have hr := inn_eq h.2.1
    rw [dta_6, tail4, if_pos ⟨hr.1, by omega⟩] at hd
    have e : P ++ dat ⟨nm, 6, ttl, n, host, ⟨#[]⟩⟩ ++ Q = P ++ tailP host ++ (quad n ++ Q) := by rw [hd]; simp only [List.append_assoc]
    have e2 : P ++ tailP host ++ (quad n ++ Q) = P ++ tailP host ++ quad n ++ Q := by simp only [List.append_assoc]
    have hR := name_mid P (quad n ++ Q) host h.1 k hk
    have hN := n4_mid (P ++ tailP host) Q n hr.1 (by omega) _ rfl
    have hz : ((P ++ tailP host).length : Int) + 4 = k + ((dat ⟨nm, 6, ttl, n, host, ⟨#[]⟩⟩).length : Int) := by
      subst hk
      rw [hd]
      simp only [List.length_append]
      have : (quad n).length = 4 := rfl
      omega
    rw [gd_6 hn ho, e, hR]
    dsimp only
    rw [e2, hN, if_neg (fun e => e rfl), if_pos ⟨rfl, hz⟩, jo_lab]
    rfl
  by_cases h16 : ty = 16
  · subst h16
    rw [dko_16, Bool.and_eq_true, Bool.and_eq_true] at h
    obtain rfl := emp_eq h.2.2
    obtain rfl := nul_eq h.2.1
    have htx := h.1
    rw [dta_16] at hd
    have ht12 : text.size ≤ 12 := by rw [txo, Bool.and_eq_true] at htx; exact of_decide_eq_true htx.2
    have htl : text.data.toList.length = text.size := by simp
    have hz : (dat ⟨nm, 16, ttl, 0, ⟨#[]⟩, text⟩).length = text.size + 1 := by rw [hd, List.length_append, one_len, htl]; omega
    subst hk
    have hb : bt (P ++ dat ⟨nm, 16, ttl, 0, ⟨#[]⟩, text⟩ ++ Q) (P.length : Int) = (text.size : Int) := by
      have := bt_mid P (dat ⟨nm, 16, ttl, 0, ⟨#[]⟩, text⟩) Q 0 (by omega)
      rw [show (P.length : Int) + ((0 : Nat) : Int) = (P.length : Int) by omega] at this
      rw [this]
      have h0 : (dat ⟨nm, 16, ttl, 0, ⟨#[]⟩, text⟩)[0]'(by omega) = UInt8.ofNat text.size := by
        simp only [hd]
        rfl
      rw [h0, UInt8.toNat_ofNat_of_lt' (by simp [UInt8.size]; omega)]
    have hp : piece (P ++ dat ⟨nm, 16, ttl, 0, ⟨#[]⟩, text⟩ ++ Q) (P.length : Int).toNat (((dat ⟨nm, 16, ttl, 0, ⟨#[]⟩, text⟩).length : Int) - 1).toNat = text := by
      have e1 : (((dat ⟨nm, 16, ttl, 0, ⟨#[]⟩, text⟩).length : Int) - 1).toNat = text.size := by omega
      rw [e1, Int.toNat_natCast]
      have e2 : P ++ dat ⟨nm, 16, ttl, 0, ⟨#[]⟩, text⟩ ++ Q = P ++ one text.size ++ text.data.toList ++ Q := by rw [hd]; simp only [List.append_assoc]
      have e3 : P.length + 1 = (P ++ one text.size).length := by rw [List.length_append, one_len]
      unfold piece
      rw [e2, e3, mid _ _ _ _ htl]
    rw [gd_16 hn ho, hp, hb, if_pos ⟨by omega, by omega, htx⟩]
    rfl
  · have hh : ty = 2 ∨ ty = 5 := Decidable.byContradiction fun hne => by
      rw [dko_none _ _ _ h1 (by omega) (by omega) h6 h16] at h
      cases h
    have h : (Nm host && (nul n && emp text)) = true := by rcases hh with rfl | rfl <;> exact h
    rw [Bool.and_eq_true, Bool.and_eq_true] at h
    obtain rfl := emp_eq h.2.2
    obtain rfl := nul_eq h.2.1
    have hd : dat ⟨nm, ty, ttl, 0, host, ⟨#[]⟩⟩ = tailP host := by rcases hh with rfl | rfl <;> exact hd
    have hR := name_mid P Q host h.1 k hk
    have hz : ((P ++ tailP host).length : Int) = k + ((tailP host).length : Int) := by subst hk; rw [List.length_append]; omega
    rw [gd_h hn ho hh, hd, hR]
    dsimp only
    rw [if_neg (fun e => e rfl), if_pos hz, jo_lab]
    rfl

theorem back_rec (l Q : List UInt8) (r : Rec) (h : rok r = true) : gr (l ++ tailR l r ++ Q) (l.length : Int) = (0, ((l ++ tailR l r).length : Int), r) := by
  have hd := dat_len r
  have hty := rok_ty h
  have hr := h
  rw [rok, Bool.and_eq_true, Bool.and_eq_true] at hr
  have ht := inn_eq hr.2.1
  obtain ⟨i, hb⟩ := back_name l r.name hr.1
  generalize hN : l ++ tailN l r.name = N at *
  have e : l ++ tailR l r = N ++ two r.ty ++ two 1 ++ quad r.ttl ++ two ((dat r).length : Int) ++ dat r := by
    rw [tailR, if_pos h, tail2, if_pos ⟨by omega, by omega⟩, tail2, if_pos ⟨by omega, by omega⟩, tail4, if_pos ⟨by omega, by omega⟩, tail2, if_pos ⟨by omega, by omega⟩, ← hN]
    simp only [List.append_assoc]
  have l2 : ∀ x, (two x).length = 2 := fun _ => rfl
  have l4 : ∀ x, (quad x).length = 4 := fun _ => rfl
  have hz : ((l ++ tailR l r).length : Int) = (N.length : Int) + 10 + ((dat r).length : Int) := by
    rw [e]
    simp only [List.length_append, l2, l4]
    omega
  have hx : ∀ X, l ++ tailR l r ++ Q = X → rn X [] (l.length : Int) (l.length : Int) 0 (-1) = (0, Lab r.name, (N.length : Int), i) := fun X hX => by
    have e2 : X = N ++ (two r.ty ++ two 1 ++ quad r.ttl ++ two ((dat r).length : Int) ++ dat r ++ Q) := by
      rw [← hX, e]
      simp only [List.append_assoc]
    rw [e2]
    exact rn_behind _ hb
  have a1 : n2 (l ++ tailR l r ++ Q) (N.length : Int) = (r.ty, true) := by
    have := n2_mid N (two 1 ++ quad r.ttl ++ two ((dat r).length : Int) ++ dat r ++ Q) r.ty (by omega) (by omega) _ rfl
    rw [← this, e]
    simp only [List.append_assoc]
  have a2 : n2 (l ++ tailR l r ++ Q) ((N.length : Int) + 2) = (1, true) := by
    have := n2_mid (N ++ two r.ty) (quad r.ttl ++ two ((dat r).length : Int) ++ dat r ++ Q) 1 (by omega) (by omega) ((N.length : Int) + 2) (by rw [List.length_append, l2]; omega)
    rw [← this, e]
    simp only [List.append_assoc]
  have a3 : n4 (l ++ tailR l r ++ Q) ((N.length : Int) + 4) = (r.ttl, true) := by
    have := n4_mid (N ++ two r.ty ++ two 1) (two ((dat r).length : Int) ++ dat r ++ Q) r.ttl (by omega) (by omega) ((N.length : Int) + 4) (by simp only [List.length_append, l2]; omega)
    rw [← this, e]
    simp only [List.append_assoc]
  have a4 : n2 (l ++ tailR l r ++ Q) ((N.length : Int) + 8) = (((dat r).length : Int), true) := by
    have := n2_mid (N ++ two r.ty ++ two 1 ++ quad r.ttl) (dat r ++ Q) ((dat r).length : Int) (by omega) (by omega) ((N.length : Int) + 8) (by simp only [List.length_append, l2, l4]; omega)
    rw [← this, e]
    simp only [List.append_assoc]
  have a5 : gd (l ++ tailR l r ++ Q) ((N.length : Int) + 10) ((dat r).length : Int) r.ty = (0, core r) := by
    have := back_data (N ++ two r.ty ++ two 1 ++ quad r.ttl ++ two ((dat r).length : Int)) Q r h ((N.length : Int) + 10) (by simp only [List.length_append, l2, l4]; omega)
    rw [← this, e]
  have a6 : wn (core r) (Jo (Lab r.name)) r.ttl = r := by rw [jo_lab]; rfl
  rw [gr_good (hx _ rfl) (by rw [List.length_append]; omega) (by rw [a4, a1]; exact a5) (by rw [a3, a2]; exact ⟨rfl, rfl, by rw [a6]; exact h⟩), a4, a3, a6, hz]
theorem puts_pre : ∀ (L : List Rec) (l : List UInt8), ∃ T, puts l L = l ++ T
  | [], l => ⟨[], by simp [puts]⟩
  | r :: L, l => by
    obtain ⟨T, h⟩ := puts_pre L (l ++ tailR l r)
    exact ⟨tailR l r ++ T, by rw [puts, h, List.append_assoc]⟩
theorem back_list : ∀ (L : List Rec) (l : List UInt8) (M : List Rec), (∀ r ∈ L, rok r = true) → grs (puts l L) L.length (l.length : Int) M = (0, ((puts l L).length : Int), M ++ L)
  | [], l, M, _ => by simp [puts, grs]
  | r :: L, l, M, h => by
    obtain ⟨T, hT⟩ := puts_pre L (l ++ tailR l r)
    have hb := back_rec l T r (h r (by simp))
    have hi := back_list L (l ++ tailR l r) (M ++ [r]) (fun x hx => h x (by simp [hx]))
    rw [← hT] at hb
    rw [List.length_cons, grs, puts, hb]
    dsimp only
    rw [if_neg (fun e => e rfl), hi]
    simp
end Go.Proofs.YtkfibepejlgniaaGreatDoor.FieldBack

/- What the law's own helpers toRecord and toRecordS do: the same record; a new slice with the same records. Condition: fewer than 400000001 records. -/
namespace Go.Proofs.YtkfibepejlgniaaGreatDoor.CopyR
open Go.RowKit Go.Proofs.YtkfibepejlgniaaGreatDoor.Mem Go.Proofs.YtkfibepejlgniaaGreatDoor.MemR

theorem info : (Tryz.prog.info? 117).map (fun i => (i.zero, i.size, i.bytes)) = some (some (.agg #[.string ⟨#[]⟩, .int .i64 0, .int .i64 0, .int .i64 0, .string ⟨#[]⟩, .string ⟨#[]⟩]), 6, 72) := by kernel_rfl

set_option maxHeartbeats 1000000 in
theorem toRecord_any (r : Rec) (w : World) : Calls Tryz.prog 150 #[.agg #[.string r.name, .int .i64 r.ty, .int .i64 r.ttl, .int .i64 r.n, .string r.host, .string r.text]] w fun e w' => e = .returned (.agg #[.string r.name, .int .i64 r.ty, .int .i64 r.ttl, .int .i64 r.n, .string r.host, .string r.text]) ∧ Below w.heap.size w w' := by
  go_enter Tryz.func150, Tryz.ntmps150
  go_wp2
  refine bodyPost_ret (v := .agg #[.string r.name, .int .i64 r.ty, .int .i64 r.ttl, .int .i64 r.n, .string r.host, .string r.text]) (by simp [results, Tryz.results150, go_sem]) rfl ⟨rfl, ?_⟩
  repeat (first | exact Below.refl _ _ | refine Below.setCell ?_ (by simp; try omega) _ | refine Below.alloc ?_ (by simp; try omega) _)

theorem step_list (l : List Rec) (k n : Nat) (hn : l.length = n) (hk : k < n) (h : k < l.length) : (l.take k ++ List.replicate (n - k) zr).set k l[k] = l.take (k + 1) ++ List.replicate (n - (k + 1)) zr := by
  rw [List.set_append_right _ _ (by simp; omega)]
  have h1 : k - (l.take k).length = 0 := by simp; omega
  rw [h1, show n - k = (n - (k + 1)) + 1 by omega, List.replicate_succ, List.set_cons_zero, List.take_succ_eq_append_getElem h, List.append_assoc]
  rfl

set_option maxHeartbeats 1000000 in
theorem toRecordS_any (A : Option Addr) (n c : Nat) (l : List Rec) (w : World) (hs : Sr w w.heap.size A n l) (hn : n ≤ 400000000) :
    Calls Tryz.prog 104 #[.slice A n c] w fun e w' => e = .returned (.slice (some ⟨w.heap.size, 0, none⟩) n n) ∧ Bk w' w.heap.size 117 (fl l) ∧ Below w.heap.size w w' := by
  obtain ⟨i0, hi, hz0, hz1, hz2⟩ := info_parts info
  have HS := Lib.hid hs
  clear hs
  go_enter Tryz.func104, Tryz.ntmps104
  go_wp2_with (at_make; refine wpList_make_full _ rfl _ _ 26 rfl w.heap.size 117 i0 _ 6 Tryz.underlying26 hi hz0 hz1 .i64 .i64 _ _ n rfl rfl ?c0 ?c1 ?c2 ?c3 ?c4 ?_)
  case c0 => rfl
  case c1 => rfl
  case c2 => rw [hz2]; omega
  case c3 => unfold maxLen; omega
  case c4 => exact Nat.le_refl _
  intro w1 hown hgrow
  obtain ⟨r, hb0, hlen0, _, _⟩ := bk_of_owns6 hown
  rw [made_fl] at hb0 hlen0
  have hr : r = [] := by
    have : (fl (List.replicate n zr)).length + r.length = n * 6 := by rw [← List.length_append]; exact hlen0
    rw [fl_len] at this
    simp at this; exact this
  subst hr
  rw [List.append_nil] at hb0
  have HL0 := Lib.hid ((Below.refl w.heap.size w).grown hgrow (Nat.le_refl _) (fun k hk => by cases hk))
  have HB0 := Lib.hid hb0
  clear hb0 hown hgrow hlen0
  go_wp2
  go_loopw [4] (fun i wr => ∃ k : Nat, k ≤ n ∧ i = .int .i64 k ∧ Hid (Bk wr w.heap.size 117 (fl (l.take k ++ List.replicate (n - k) zr))) ∧ Hid (Below w.heap.size w wr)) (fun i _ => n - (intOf i).toNat)
  case atStart => exact ⟨0, Nat.zero_le _, rfl, by simpa [Hid] using HB0.out, HL0.out⟩
  case round =>
    clear HB0 HL0
    obtain ⟨k, hk, rfl, HB, HL⟩ := hrel
    by_cases hlt : k < n
    · obtain ⟨b, off, rfl, hbB, hcs⟩ := HS.out.2 (by omega)
      have hkl : k < l.length := by rw [HS.out.1]; exact hlt
      obtain ⟨e0, e1, e2, e3, e4, e5⟩ := (hcs k hkl).below HL.out hbB
      have HK := Lib.hid (step_list l k n HS.out.1 hlt hkl)
      clear hcs
      generalize l[k] = r at *
      go_wp2_with fail
      refine (toRecord_any r wr).mono ?_
      rintro e w2 ⟨rfl, hl⟩
      have hkk : k < (l.take k ++ List.replicate (n - k) zr).length := by simp; omega
      have B2 := Lib.hid (HB.out.below hl HB.out.lt)
      have L2 := Lib.hid (HL.out.trans (hl.mono HL.out.size))
      clear hl e0 e1 e2 e3 e4 e5 HB HL
      have z : ∀ j, j < n * 6 → (w2.cell? ⟨w.heap.size, j, none⟩).isSome = true := fun j hj => by
        rw [B2.out.cell, List.getElem?_eq_getElem (by rw [fl_len]; simp; have := HS.out.1; omega)]; rfl
      obtain ⟨u0, z0⟩ := Option.isSome_iff_exists.1 (z (k * 6) (by omega))
      obtain ⟨u1, z1⟩ := Option.isSome_iff_exists.1 (z (k * 6 + 1) (by omega))
      obtain ⟨u2, z2⟩ := Option.isSome_iff_exists.1 (z (k * 6 + 2) (by omega))
      obtain ⟨u3, z3⟩ := Option.isSome_iff_exists.1 (z (k * 6 + 3) (by omega))
      obtain ⟨u4, z4⟩ := Option.isSome_iff_exists.1 (z (k * 6 + 4) (by omega))
      obtain ⟨u5, z5⟩ := Option.isSome_iff_exists.1 (z (k * 6 + 5) (by omega))
      have f0 := B2.out.free (k * 6)
      have f1 := B2.out.free (k * 6 + 1)
      have f2 := B2.out.free (k * 6 + 2)
      have f3 := B2.out.free (k * 6 + 3)
      have f4 := B2.out.free (k * 6 + 4)
      have f5 := B2.out.free (k * 6 + 5)
      clear z
      go_wp2
      go_roundw
      case rel =>
        refine ⟨k + 1, by omega, by go_num, ?_, ?_⟩
        · show Bk _ _ _ _
          have h6 := (((((B2.out.set (k * 6) (.string r.name)).set (k * 6 + 1) (.int .i64 r.ty)).set (k * 6 + 2) (.int .i64 r.ttl)).set (k * 6 + 3) (.int .i64 r.n)).set (k * 6 + 4) (.string r.host)).set (k * 6 + 5) (.string r.text)
          rw [fl_put _ k r hkk, HK.out] at h6
          exact h6
        · show Below _ _ _
          exact (((((L2.out.setCell (Nat.le_refl _) _).setCell (Nat.le_refl _) _).setCell (Nat.le_refl _) _).setCell (Nat.le_refl _) _).setCell (Nat.le_refl _) _).setCell (Nat.le_refl _) _
      case measure => simp [intOf]; omega
    · have hkn : k = n := by omega
      subst hkn
      go_wp2
      go_ret
      refine ⟨rfl, ?_, HL.out⟩
      have := HB.out
      rw [List.take_of_length_le (by rw [HS.out.1]; omega)] at this
      simpa using this

end Go.Proofs.YtkfibepejlgniaaGreatDoor.CopyR

/- A new slice of records that a call gives back, and laws on append of records. -/
namespace Go.Proofs.YtkfibepejlgniaaGreatDoor.AppR
open Go.RowKit Go.Proofs.YtkfibepejlgniaaGreatDoor.Mem Go.Proofs.YtkfibepejlgniaaGreatDoor.MemR

theorem owns_new (w : World) : (w.alloc (.cells #[] 117)).ownsRow w.heap.size 117 6 (.slice (some ⟨w.heap.size, 0, none⟩) 0 0) 0 [] :=
  World.ownsRow_made w #[] 0 (Nat.le_refl _) (Nat.zero_le _) (by simp)
theorem one_fl (l : List Rec) : ∀ u ∈ fl l, u.oneCell' = true := by
  intro u hu
  obtain ⟨r, _, hr⟩ := List.mem_flatMap.1 hu
  simp [rc] at hr
  rcases hr with rfl | rfl | rfl | rfl | rfl | rfl <;> rfl
/-- The cells of a slice that reads as records, as the laws on append ask for them. -/
theorem cells_of {w : World} {B b off n : Nat} {l : List Rec} (hs : Sr w B (some ⟨b, off, none⟩) n l) : ∀ j u, (fl l)[j]? = some u → w.cell? ((⟨b, off, none⟩ : Addr).add j) = some u := by
  intro j u hu
  have hj : j < l.length * 6 := by
    have := (List.getElem?_eq_some_iff.1 hu).1
    rwa [fl_len] at this
  obtain ⟨b', off', hA, _, hc⟩ := hs.2 (by have := hs.1; omega)
  simp only [Option.some.injEq, Addr.mk.injEq, and_true] at hA
  obtain ⟨rfl, rfl⟩ := hA
  have hd : j / 6 < l.length := by omega
  have h6 : j % 6 < 6 := by omega
  have e : j = j / 6 * 6 + j % 6 := by omega
  have hg := fl_get l (j / 6) (j % 6) hd h6
  rw [← e, hu] at hg
  obtain ⟨c0, c1, c2, c3, c4, c5⟩ := hc (j / 6) hd
  rw [Addr.add_lit, show off + j = off + j / 6 * 6 + j % 6 by omega, hg]
  generalize j % 6 = c at h6 ⊢
  rcases c with _ | _ | _ | _ | _ | _ | c
  · exact c0
  · exact c1
  · exact c2
  · exact c3
  · exact c4
  · exact c5
  · omega
/-- append of a slice of records onto a row of the call's own. -/
theorem append_recs {w : World} {ops : Array Oper} {rest : List Oper} {o : Oper} {a : Act} {Q : Exit → Act → World → Prop} (hgd : o.guard = none) (s x : Operand)
    (ho : o.op = .call { callee := .builtin .append, args := #[s, x], argTypes := #[26, 26] })
    (base g n cap : Nat) (L : List Rec) (hs : a.eval s = .slice (some ⟨g, 0, none⟩) n cap) (hown : w.ownsRow base 117 6 (.slice (some ⟨g, 0, none⟩) n cap) n (fl L))
    (b off m c B : Nat) (l : List Rec) (hx : a.eval x = .slice (some ⟨b, off, none⟩) m c) (hl : Sr w B (some ⟨b, off, none⟩) m l)
    (hn : n ≤ 800000000) (hm : m ≤ 800000000) (hbase : base ≤ w.heap.size)
    (h : ∀ g' cap' w', w'.ownsRow base 117 6 (.slice (some ⟨g', 0, none⟩) (n + m) cap') (n + m) (fl (L ++ l)) → w.grownBy w' (some g) → wpList Tryz.prog ops Q rest (a.put o.dst (.slice (some ⟨g', 0, none⟩) (n + m) cap')) w') : wpList Tryz.prog ops Q (o :: rest) a w := by
  obtain ⟨i0, hi, hz0, hz1, hz2⟩ := info_parts CopyR.info
  exact wpList_append_own w hgd s x 26 ho base 117 i0 _ 6 72 Tryz.underlying26 hi hz0 hz1 hz2 rfl (by decide) _ n (fl L) hs hown ⟨b, off, none⟩ m c (fl l) hx (by rw [fl_len, hl.1]) (cells_of hl) (one_fl l) (by unfold maxLen; omega) (by omega) hbase
    (fun v' w' h1 h2 h3 => by
      rcases h1.2 with ⟨hv, _⟩ | ⟨g', cap', cur, hv, _⟩
      · have := (h3.1 hv).1
        cases this
      · subst hv
        exact h g' cap' w' (by rw [fl_append]; exact h1) h2)
end Go.Proofs.YtkfibepejlgniaaGreatDoor.AppR

/- Plain facts for GetRecords: what it answers (grA), and what it hands back: a new row of records of its own. -/
namespace Go.Proofs.YtkfibepejlgniaaGreatDoor.GetsM
open Go.RowKit Go.Proofs.YtkfibepejlgniaaGreatDoor.Mem Go.Proofs.YtkfibepejlgniaaGreatDoor.MemR Go.Proofs.YtkfibepejlgniaaGreatDoor.App Go.Proofs.YtkfibepejlgniaaGreatDoor.AppR Go.Proofs.YtkfibepejlgniaaGreatDoor.FieldMath

/-- What GetRecords answers. A def, so that no step of a walk opens it. -/
def grA (l : List UInt8) (k m : Int) : Nat × Int × List Rec := if 0 ≤ m ∧ m ≤ 8 then grs l m.toNat k [] else (2, 0, [])
/-- The call returned a row of records of its own, an offset and a code, and turned nothing that was there. -/
def Grs (w : World) (X : Nat × Int × List Rec) (e : Ending) (w' : World) : Prop :=
  ∃ g cap, e = .returned (.tuple #[.slice (some ⟨g, 0, none⟩) X.2.2.length cap, .int .i64 X.2.1, .int .i64 (X.1 : Int)]) ∧ w'.ownsRow w.heap.size 117 6 (.slice (some ⟨g, 0, none⟩) X.2.2.length cap) X.2.2.length (fl X.2.2) ∧ Below w.heap.size w w'
section
variable {w w' : World} {base g n cap : Nat} {L : List Rec}
theorem own_below (h : w.ownsRow base 117 6 (.slice (some ⟨g, 0, none⟩) n cap) n (fl L)) (hb : Below w.heap.size w w') : w'.ownsRow base 117 6 (.slice (some ⟨g, 0, none⟩) n cap) n (fl L) :=
  h.kept (row := none) ⟨hb.os, hb.tape, hb.output, hb.size, fun k hk _ => hb.block k hk⟩ (Or.inr (by simp [Value.ownBlock]))
theorem own_len (h : w.ownsRow base 117 6 (.slice (some ⟨g, 0, none⟩) n cap) n (fl L)) : L.length = n := by
  have := h.1
  rw [fl_len] at this
  omega
theorem grs_of (h : w'.ownsRow w.heap.size 117 6 (.slice (some ⟨g, 0, none⟩) n cap) n (fl L)) (hb : Below w.heap.size w w') (x : Int) (c : Nat) : Grs w (c, x, L) (.returned (.tuple #[.slice (some ⟨g, 0, none⟩) n cap, .int .i64 x, .int .i64 (c : Int)])) w' := by
  have hl := own_len h
  subst hl
  exact ⟨g, cap, rfl, h, hb⟩
theorem grs_nil {w1 : World} (hb : Below w.heap.size w w1) (x : Int) (c : Nat) : Grs w (c, x, []) (.returned (.tuple #[.slice (some ⟨w1.heap.size, 0, none⟩) 0 0, .int .i64 x, .int .i64 (c : Int)])) (w1.alloc (.cells #[] 117)) :=
  grs_of (L := []) (owns_base (AppR.owns_new w1) hb.size) (hb.alloc hb.size _) x c
theorem grs_nil2 {w1 : World} (hb : Below w.heap.size w w1) (x : Int) (c : Nat) (hg : w1.heap.size = g) : Grs w (c, x, []) (.returned (.tuple #[.slice (some ⟨g, 0, none⟩) 0 0, .int .i64 x, .int .i64 (c : Int)])) (w1.alloc (.cells #[] 117)) := by
  subst hg
  exact grs_nil hb x c
end
theorem one_sr (w : World) (r : Rec) : Sr (w.alloc (.cells #[.string r.name, .int .i64 r.ty, .int .i64 r.ttl, .int .i64 r.n, .string r.host, .string r.text] 117)) (w.alloc (.cells #[.string r.name, .int .i64 r.ty, .int .i64 r.ttl, .int .i64 r.n, .string r.host, .string r.text] 117)).heap.size (some ⟨w.heap.size, 0, none⟩) 1 [r] := by
  have hb : Bk (w.alloc (.cells #[.string r.name, .int .i64 r.ty, .int .i64 r.ttl, .int .i64 r.n, .string r.host, .string r.text] 117)) w.heap.size 117 (fl [r]) := heap_alloc_new w _
  exact bk_sr0 hb rfl
theorem grs_step (l : List UInt8) (n : Nat) (k : Int) (L : List Rec) : grs l (n + 1) k L = if (gr l k).1 ≠ 0 then ((gr l k).1, 0, []) else grs l n (gr l k).2.1 (L ++ [(gr l k).2.2]) := rfl
theorem grs_len (l : List UInt8) : ∀ (n : Nat) (k : Int) (L : List Rec), (grs l n k L).2.2.length ≤ L.length + n
  | 0, k, L => by simp [grs]
  | n + 1, k, L => by
    rw [grs_step]
    split
    · simp
    · have := grs_len l n (gr l k).2.1 (L ++ [(gr l k).2.2])
      rw [List.length_append] at this
      simp at this
      omega
theorem grA_len (l : List UInt8) (k m : Int) : (grA l k m).2.2.length ≤ 8 := by
  unfold grA
  split
  · have := grs_len l m.toNat k []
    simp at this
    omega
  · simp
theorem Grs.bk {w w' : World} {X : Nat × Int × List Rec} {e : Ending} (h : Grs w X e w') : ∃ g cap r, e = .returned (.tuple #[.slice (some ⟨g, 0, none⟩) X.2.2.length cap, .int .i64 X.2.1, .int .i64 (X.1 : Int)]) ∧ Bk w' g 117 (fl X.2.2 ++ r) ∧ w.heap.size ≤ g ∧ Below w.heap.size w w' := by
  obtain ⟨g, cap, he, ho, hb⟩ := h
  obtain ⟨r, h1, _, _, h4⟩ := bk_of_owns6 ho
  exact ⟨g, cap, r, he, h1, h4, hb⟩
end Go.Proofs.YtkfibepejlgniaaGreatDoor.GetsM
