/- What MsgText does in the program and in the model: the words of a valid message, and the empty text for an invalid one. Conditions: at most 400000000 bytes in each text, fewer than 400000001 records; for the program: the library's variable internal/bytealg.MaxLen holds an int, and its table of powers of ten reads as its text lays it. -/
import Derived.Test.YtbjhkhmhmldjoaaDoorOkM
import Derived.Test.YtbjhkhmhmldjoaaDoorRecTextI
import Derived.Deep.RegionHeld3
namespace Go.Proofs.YtbjhkhmhmldjoaaDoor.TxtM
open Go.RowKit Go.Proofs.YtbjhkhmhmldjoaaDoor.Mem Go.Proofs.YtbjhkhmhmldjoaaDoor.MemS Go.Proofs.YtbjhkhmhmldjoaaDoor.MemR Go.Proofs.YtbjhkhmhmldjoaaDoor.Labels Go.Proofs.YtbjhkhmhmldjoaaDoor.NameOk Go.Proofs.YtbjhkhmhmldjoaaDoor.TextR Go.Proofs.YtbjhkhmhmldjoaaDoor.BoxR Go.Proofs.YtbjhkhmhmldjoaaDoor.RecOk Go.Proofs.YtbjhkhmhmldjoaaDoor.Types Go.Proofs.YtbjhkhmhmldjoaaDoor.Num Go.Proofs.YtbjhkhmhmldjoaaDoor.RecText Go.Proofs.YtbjhkhmhmldjoaaDoor.MemM Go.Proofs.YtbjhkhmhmldjoaaDoor.ResM Go.Proofs.YtbjhkhmhmldjoaaDoor.OkM

/-- The first word with its blank. -/
def kw : Bool → ByteArray
  | false => ⟨#[97, 115, 107, 32]⟩
  | true => ⟨#[114, 101, 112, 108, 121, 32]⟩
/-- The first word. -/
def kd : Bool → ByteArray
  | false => ⟨#[97, 115, 107]⟩
  | true => ⟨#[114, 101, 112, 108, 121]⟩
theorem kd_kw (b : Bool) : kd b ++ ⟨#[32]⟩ = kw b := by cases b <;> rfl
theorem kw_size (b : Bool) : (kw b).size ≤ 6 := by cases b <;> decide
theorem kd_size (b : Bool) : (kd b).size ≤ 5 := by cases b <;> decide
/-- A text with the word of a flag behind it. -/
def fa (H : ByteArray) : Bool → ByteArray
  | false => H
  | true => H ++ ⟨#[32, 97, 117, 116, 104]⟩
def fc (H : ByteArray) : Bool → ByteArray
  | false => H
  | true => H ++ ⟨#[32, 99, 117, 116]⟩
/-- The head of a message as it is written. -/
def hx (rp : Bool) (id code : Int) (qn : ByteArray) (qt : Int) : ByteArray := kw rp ++ Txt id ++ ⟨#[32]⟩ ++ Txt code ++ ⟨#[32]⟩ ++ dot qn ++ ⟨#[32]⟩ ++ tt qt
/-- The flags as the program writes them. -/
def fg (au ct : Bool) : ByteArray := fc (fa ⟨#[]⟩ au) ct
theorem fg_size (au ct : Bool) : (fg au ct).size ≤ 9 := by cases au <;> cases ct <;> decide
theorem emp_add (a : ByteArray) : a ++ ⟨#[]⟩ = a := text_ext (by simp)
theorem add_emp (a : ByteArray) : (⟨#[]⟩ : ByteArray) ++ a = a := text_ext (by simp)
theorem fg_add (H : ByteArray) (au ct : Bool) : H ++ fg au ct = fc (fa H au) ct := by
  cases au <;> cases ct
  · exact emp_add H
  · show H ++ (⟨#[]⟩ ++ ⟨#[32, 99, 117, 116]⟩) = H ++ ⟨#[32, 99, 117, 116]⟩; rw [add_emp]
  · show H ++ (⟨#[]⟩ ++ ⟨#[32, 97, 117, 116, 104]⟩) = H ++ ⟨#[32, 97, 117, 116, 104]⟩; rw [add_emp]
  · show H ++ (⟨#[]⟩ ++ ⟨#[32, 97, 117, 116, 104]⟩ ++ ⟨#[32, 99, 117, 116]⟩) = H ++ ⟨#[32, 97, 117, 116, 104]⟩ ++ ⟨#[32, 99, 117, 116]⟩; rw [add_emp, add_assoc]
theorem fc_size (H : ByteArray) (b : Bool) : (fc H b).size ≤ H.size + 4 := by
  cases b
  · exact Nat.le_add_right _ _
  · show (H ++ _).size ≤ _; rw [add_size]; exact Nat.le_refl _
theorem fa_size (H : ByteArray) (b : Bool) : (fa H b).size ≤ H.size + 5 := by
  cases b
  · exact Nat.le_add_right _ _
  · show (H ++ _).size ≤ _; rw [add_size]; exact Nat.le_refl _
theorem hx_size (rp : Bool) (id code : Int) (qn : ByteArray) (qt : Int) (h1 : (Txt id).size ≤ 21) (h2 : (Txt code).size ≤ 21) (h3 : qn.size ≤ 50) : (hx rp id code qn qt).size ≤ 200 := by
  unfold hx
  have a := kw_size rp
  have b := dot_size qn
  have c := tt_size qt
  rw [add_size, add_size, add_size, add_size, add_size, add_size, add_size, one_size]
  omega
/-- The records as they are written. -/
def rts (l : List Rec) : ByteArray := l.foldl (fun a r => a ++ ⟨#[59, 32]⟩ ++ rtx r) ⟨#[]⟩
theorem rts_step {l : List Rec} {k : Nat} (h : k < l.length) : rts (l.take (k + 1)) = rts (l.take k) ++ ⟨#[59, 32]⟩ ++ rtx l[k] := by
  rw [rts, List.take_succ_eq_append_getElem h, List.foldl_append]
  rfl
theorem rtx_size {r : Rec} (h : rok r = true) : (rtx r).size ≤ 190 := by
  obtain ⟨⟨q0, q1⟩, ⟨q2, q3⟩, z1, z2, z3, _⟩ := rok_of h
  have zt := txt_size q0 (by omega)
  have zn := txt_size q2 q3
  have d1 := dot_size r.name
  have d3 := tt_size r.ty
  have d4 := dtx_size r.ty r.n r.host r.text zn z2 z3
  rw [rtx, if_pos h, pre, add_size, add_size, add_size, add_size, add_size, add_size, one_size]
  omega
theorem se_size : (⟨#[59, 32]⟩ : ByteArray).size = 2 := rfl
theorem rts_size {l : List Rec} (h : l.all rok = true) : ∀ k, (rts (l.take k)).size ≤ 200 * k
  | 0 => Nat.le_refl _
  | k + 1 => by
    have ih := rts_size h k
    by_cases hk : k < l.length
    · rw [rts_step hk, add_size, add_size, se_size]
      have := rtx_size (List.all_eq_true.1 h l[k] (List.getElem_mem hk))
      omega
    · rw [List.take_of_length_le (by omega)] at ih ⊢
      omega
theorem rts_full {l : List Rec} (h : rls l = true) : (rts l).size ≤ 1600 := by
  unfold rls at h
  rw [Bool.and_eq_true] at h
  have h8 : l.length ≤ 8 := of_decide_eq_true h.2
  have := rts_size h.1 l.length
  rw [List.take_length] at this
  omega
/-- A message as it is written. A def, so that no step of a walk opens it. -/
def mtx (h : Hd) (l1 l2 l3 : List Rec) : ByteArray := if mok h l1 l2 l3 = true then fc (fa (hx h.rp h.id h.code h.qn h.qt) h.au) h.ct ++ rts l1 ++ rts l2 ++ rts l3 else ⟨#[]⟩
theorem mok_of {h : Hd} {l1 l2 l3 : List Rec} (k : mok h l1 l2 l3 = true) : (0 ≤ h.id ∧ h.id ≤ 65535) ∧ (0 ≤ h.code ∧ h.code ≤ 15) ∧ h.qn.size ≤ 50 ∧ rls l1 = true ∧ rls l2 = true ∧ rls l3 = true := by
  unfold mok qok at k
  simp only [Bool.and_eq_true] at k
  exact ⟨inn_of k.1, inn_of k.2.1, nm_size k.2.2.1.1, k.2.2.2.1, k.2.2.2.2.1, k.2.2.2.2.2⟩
theorem mod_of {l : List Rec} (h : rls l = true) {k : Nat} (hk : k < l.length) : Mod l[k] ∧ (rtx l[k]).size ≤ 190 := by
  unfold rls at h
  rw [Bool.and_eq_true] at h
  have hr := List.all_eq_true.1 h.1 l[k] (List.getElem_mem hk)
  obtain ⟨_, _, z1, z2, z3, _⟩ := rok_of hr
  exact ⟨⟨by omega, by omega, by omega⟩, rtx_size hr⟩
theorem rls_len {l : List Rec} (h : rls l = true) : l.length ≤ 8 ∧ l.all rok = true := by
  unfold rls at h
  rw [Bool.and_eq_true] at h
  exact ⟨of_decide_eq_true h.2, h.1⟩

set_option maxHeartbeats 4000000 in
theorem textsS (A : Option Addr) (n c : Nat) (l : List Rec) (w : World) (hs : Sr w w.heap.size A n l) (hg : rls l = true) :
    Calls Tryd.prog 75 #[.slice A n c] w fun e w' => e = .returned (.string (rts l)) ∧ Below w.heap.size w w' := by
  have HS := Lib.hid hs
  have HG := Lib.hid hg
  have hn : n ≤ 8 := by have := (rls_len hg).1; rw [hs.1] at this; exact this
  clear hs hg
  go_enter Tryd.func75, Tryd.ntmps75
  go_wp2
  go_loopw [3, 4] (fun s i wr => ∃ (k : Nat) (t : ByteArray), k ≤ n ∧ i = .int .i64 k ∧ s = .string t ∧ Hid (t = rts (l.take k)) ∧ t.size ≤ 200 * k ∧ Hid (Below w.heap.size w wr)) (fun _ i _ => n - (intOf i).toNat)
  case atStart => exact ⟨0, _, Nat.zero_le _, rfl, rfl, rfl, Nat.le_refl _, Below.refl _ _⟩
  case round =>
    obtain ⟨k, t, hk, rfl, rfl, HT, hts, HL⟩ := hrel
    by_cases hlt : k < n
    · obtain ⟨b, off, rfl, hbB, hcs⟩ := HS.out.2 (by omega)
      have hkl : k < l.length := by rw [HS.out.1]; exact hlt
      obtain ⟨e0, e1, e2, e3, e4, e5⟩ := (hcs k hkl).below HL.out hbB
      obtain ⟨hmd, hz⟩ := mod_of HG.out hkl
      have HR := Lib.hid hmd
      have HN := Lib.hid (rts_step hkl)
      clear hcs hmd
      generalize l[k] = r at *
      have a1 := add_size t ⟨#[59, 32]⟩
      have a2 := add_size (t ++ ⟨#[59, 32]⟩) (rtx r)
      have a3 := se_size
      have k1 := cat t ⟨#[59, 32]⟩ (by omega) (by omega)
      have k2 := cat (t ++ ⟨#[59, 32]⟩) (rtx r) (by omega) (by omega)
      have hz2 : (t ++ ⟨#[59, 32]⟩ ++ rtx r).size ≤ 200 * (k + 1) := by omega
      clear a1 a2 a3
      go_wp2_with fail
      refine (RecText.spec r wr HR.out).mono ?_
      rintro e w1 ⟨rfl, hl⟩
      have L1 := Lib.hid (HL.out.trans (hl.mono HL.out.size))
      clear hl e0 e1 e2 e3 e4 e5 HL
      go_wp2
      go_roundw
      case rel => exact ⟨k + 1, _, by omega, by go_num, rfl, by show _ = _; rw [HN.out, HT.out], hz2, L1.out⟩
      case measure => simp [intOf]; omega
    · have HA : Hid (t = rts l) := by
        have := HT.out
        rwa [List.take_of_length_le (by rw [HS.out.1]; omega)] at this
      go_wp2
      go_ret
      exact ⟨by rw [← HA.out]; rfl, HL.out⟩

set_option maxHeartbeats 4000000 in
theorem textsI (A : Option Addr) (n c : Nat) (l : List Rec) (w : World) (he : Env w) (ht : Tab w) (hs : Sr w w.heap.size A n l) (hg : rls l = true) :
    Calls Tryd.prog 78 #[.slice A n c] w fun e w' => e = .returned (.string (rts l)) ∧ Below w.heap.size w w' := by
  have HE := Lib.hid he
  have HTB := Lib.hid ht
  have HS := Lib.hid hs
  have HG := Lib.hid hg
  have hn : n ≤ 8 := by have := (rls_len hg).1; rw [hs.1] at this; exact this
  clear hs hg he ht
  go_enter Tryd.func78, Tryd.ntmps78
  go_wp2
  go_loopw [3, 8] (fun s i wr => ∃ (k : Nat) (t : ByteArray), k ≤ n ∧ i = .int .i64 k ∧ s = .string t ∧ Hid (t = rts (l.take k)) ∧ t.size ≤ 200 * k ∧ Hid (Below w.heap.size w wr)) (fun _ i _ => n - (intOf i).toNat)
  case atStart => exact ⟨0, _, Nat.zero_le _, rfl, rfl, rfl, Nat.le_refl _, Below.refl _ _⟩
  case round =>
    obtain ⟨k, t, hk, rfl, rfl, HT, hts, HL⟩ := hrel
    by_cases hlt : k < n
    · obtain ⟨b, off, rfl, hbB, hcs⟩ := HS.out.2 (by omega)
      have hkl : k < l.length := by rw [HS.out.1]; exact hlt
      obtain ⟨e0, e1, e2, e3, e4, e5⟩ := (hcs k hkl).below HL.out hbB
      obtain ⟨hmd, hz⟩ := mod_of HG.out hkl
      have HR := Lib.hid hmd
      have HN := Lib.hid (rts_step hkl)
      clear hcs hmd
      generalize l[k] = r at *
      have a1 := add_size ⟨#[59, 32]⟩ (rtx r)
      have a2 := add_size t (⟨#[59, 32]⟩ ++ rtx r)
      have a3 := se_size
      have k1 := cat ⟨#[59, 32]⟩ (rtx r) (by omega) (by omega)
      have k2 := cat t (⟨#[59, 32]⟩ ++ rtx r) (by omega) (by omega)
      have hz2 : (t ++ (⟨#[59, 32]⟩ ++ rtx r)).size ≤ 200 * (k + 1) := by omega
      clear a1 a2 a3
      have LA := Lib.hid (HL.out.alloc HL.out.size (.cells #[.string r.name, .int .i64 r.ty, .int .i64 r.ttl, .int .i64 r.n, .string r.host, .string r.text] 25))
      go_wp2_with fail
      refine (RecTextI.impl r _ (HE.out.below LA.out) (HTB.out.below LA.out) HR.out).mono ?_
      rintro e w1 ⟨rfl, hl⟩
      have L1 := Lib.hid (LA.out.trans (hl.mono LA.out.size))
      clear hl e0 e1 e2 e3 e4 e5 HL LA
      go_wp2
      go_roundw
      case rel => exact ⟨k + 1, _, by omega, by go_num, rfl, by show _ = _; rw [HN.out, HT.out, add_assoc], hz2, L1.out⟩
      case measure => simp [intOf]; omega
    · have HA : Hid (t = rts l) := by
        have := HT.out
        rwa [List.take_of_length_le (by rw [HS.out.1]; omega)] at this
      go_wp2
      go_ret
      exact ⟨by rw [← HA.out]; rfl, HL.out⟩

set_option maxHeartbeats 1000000 in
theorem kindI (id code : Int) (rp au ct wa ca : Bool) (w : World) : Calls Tryd.prog 76 #[.agg #[.int .i64 id, .bool rp, .bool au, .bool ct, .bool wa, .bool ca, .int .i64 code]] w fun e w' => e = .returned (.string (kd rp)) ∧ Below w.heap.size w w' := by
  have L0 := Lib.hid ((Below.refl w.heap.size w).alloc (Nat.le_refl _) (.cells #[.int .i64 id, .bool rp, .bool au, .bool ct, .bool wa, .bool ca, .int .i64 code] 81))
  cases rp <;> (go_enter Tryd.func76, Tryd.ntmps76; go_wp2; go_ret; exact ⟨rfl, L0.out⟩)

set_option maxHeartbeats 1000000 in
theorem flagI (id code : Int) (rp au ct wa ca : Bool) (w : World) : Calls Tryd.prog 77 #[.agg #[.int .i64 id, .bool rp, .bool au, .bool ct, .bool wa, .bool ca, .int .i64 code]] w fun e w' => e = .returned (.string (fg au ct)) ∧ Below w.heap.size w w' := by
  have L0 := Lib.hid ((Below.refl w.heap.size w).alloc (Nat.le_refl _) (.cells #[.int .i64 id, .bool rp, .bool au, .bool ct, .bool wa, .bool ca, .int .i64 code] 81))
  have k1 := cat ⟨#[]⟩ ⟨#[32, 97, 117, 116, 104]⟩ (by decide) (by decide)
  have k2 := cat ⟨#[]⟩ ⟨#[32, 99, 117, 116]⟩ (by decide) (by decide)
  have k3 := cat (⟨#[]⟩ ++ ⟨#[32, 97, 117, 116, 104]⟩) ⟨#[32, 99, 117, 116]⟩ (by decide) (by decide)
  cases au <;> cases ct <;> (go_enter Tryd.func77, Tryd.ntmps77; go_wp2; go_ret; exact ⟨rfl, L0.out⟩)

set_option maxRecDepth 100000 in
set_option maxHeartbeats 4000000 in
theorem spec_bad (id code : Int) (rp au ct wa ca : Bool) (qn : ByteArray) (qt : Int) (A1 : Option Addr) (n1 c1 : Nat) (l1 : List Rec) (A2 : Option Addr) (n2 c2 : Nat) (l2 : List Rec) (A3 : Option Addr) (n3 c3 : Nat) (l3 : List Rec) (w : World) (hq : qn.size ≤ 400000000) (s1 : Sr w w.heap.size A1 n1 l1) (b1 : n1 ≤ 400000000) (m1 : Mods l1) (s2 : Sr w w.heap.size A2 n2 l2) (b2 : n2 ≤ 400000000) (m2 : Mods l2) (s3 : Sr w w.heap.size A3 n3 l3) (b3 : n3 ≤ 400000000) (m3 : Mods l3) (hk : mok ⟨id, rp, au, ct, wa, ca, code, qn, qt⟩ l1 l2 l3 = false) : Calls Tryd.prog 37 #[.agg #[.int .i64 id, .bool rp, .bool au, .bool ct, .bool wa, .bool ca, .int .i64 code, .string qn, .int .i64 qt, .slice A1 n1 c1, .slice A2 n2 c2, .slice A3 n3 c3]] w fun e w' => e = .returned (.string ⟨#[]⟩) ∧ Below w.heap.size w w' := by
  have L0 := Lib.hid ((Below.refl w.heap.size w).alloc (Nat.le_refl _) (.cells #[.int .i64 id, .bool rp, .bool au, .bool ct, .bool wa, .bool ca, .int .i64 code, .string qn, .int .i64 qt, .slice A1 n1 c1, .slice A2 n2 c2, .slice A3 n3 c3] 55))
  have CM : Hid (∀ W : World, Below w.heap.size w W → Calls Tryd.prog 33 #[.agg #[.int .i64 id, .bool rp, .bool au, .bool ct, .bool wa, .bool ca, .int .i64 code, .string qn, .int .i64 qt, .slice A1 n1 c1, .slice A2 n2 c2, .slice A3 n3 c3]] W fun e w' => e = .returned (.bool false) ∧ Below W.heap.size W w') := fun W hW => hk ▸ OkM.spec ⟨id, rp, au, ct, wa, ca, code, qn, qt⟩ A1 n1 c1 l1 A2 n2 c2 l2 A3 n3 c3 l3 W hq (s1.on hW) b1 m1 (s2.on hW) b2 m2 (s3.on hW) b3 m3
  clear s1 s2 s3 m1 m2 m3 hk
  go_enter Tryd.func37, Tryd.ntmps37
  go_wp2_with fail
  refine (CM.out _ L0.out).mono ?_
  rintro e w1 ⟨rfl, hl⟩
  have L1 := Lib.hid (L0.out.trans (hl.mono L0.out.size))
  clear hl L0
  go_wp2
  go_ret
  exact ⟨rfl, L1.out⟩

set_option maxRecDepth 100000 in
set_option maxHeartbeats 4000000 in
theorem impl_bad (id code : Int) (rp au ct wa ca : Bool) (qn : ByteArray) (qt : Int) (A1 : Option Addr) (n1 c1 : Nat) (l1 : List Rec) (A2 : Option Addr) (n2 c2 : Nat) (l2 : List Rec) (A3 : Option Addr) (n3 c3 : Nat) (l3 : List Rec) (w : World) (he : Env w) (_ht : Tab w) (hq : qn.size ≤ 400000000) (s1 : Sr w w.heap.size A1 n1 l1) (b1 : n1 ≤ 400000000) (m1 : Mods l1) (s2 : Sr w w.heap.size A2 n2 l2) (b2 : n2 ≤ 400000000) (m2 : Mods l2) (s3 : Sr w w.heap.size A3 n3 l3) (b3 : n3 ≤ 400000000) (m3 : Mods l3) (hk : mok ⟨id, rp, au, ct, wa, ca, code, qn, qt⟩ l1 l2 l3 = false) : Calls Tryd.prog 38 #[.agg #[.int .i64 id, .bool rp, .bool au, .bool ct, .bool wa, .bool ca, .int .i64 code, .string qn, .int .i64 qt, .slice A1 n1 c1, .slice A2 n2 c2, .slice A3 n3 c3]] w fun e w' => e = .returned (.string ⟨#[]⟩) ∧ Below w.heap.size w w' := by
  have L0 := Lib.hid ((Below.refl w.heap.size w).alloc (Nat.le_refl _) (.cells #[.int .i64 id, .bool rp, .bool au, .bool ct, .bool wa, .bool ca, .int .i64 code, .string qn, .int .i64 qt, .slice A1 n1 c1, .slice A2 n2 c2, .slice A3 n3 c3] 55))
  have CM : Hid (∀ W : World, Below w.heap.size w W → Calls Tryd.prog 35 #[.agg #[.int .i64 id, .bool rp, .bool au, .bool ct, .bool wa, .bool ca, .int .i64 code, .string qn, .int .i64 qt, .slice A1 n1 c1, .slice A2 n2 c2, .slice A3 n3 c3]] W fun e w' => e = .returned (.bool false) ∧ Below W.heap.size W w') := fun W hW => hk ▸ OkM.impl ⟨id, rp, au, ct, wa, ca, code, qn, qt⟩ A1 n1 c1 l1 A2 n2 c2 l2 A3 n3 c3 l3 W (he.below hW) hq (s1.on hW) b1 m1 (s2.on hW) b2 m2 (s3.on hW) b3 m3
  clear s1 s2 s3 m1 m2 m3 hk he
  go_enter Tryd.func38, Tryd.ntmps38
  go_wp2_with fail
  refine (CM.out _ L0.out).mono ?_
  rintro e w1 ⟨rfl, hl⟩
  have L1 := Lib.hid (L0.out.trans (hl.mono L0.out.size))
  clear hl L0
  go_wp2
  go_ret
  exact ⟨rfl, L1.out⟩

set_option maxRecDepth 100000 in
set_option maxHeartbeats 16000000 in
theorem spec_good (id code : Int) (rp au ct wa ca : Bool) (qn : ByteArray) (qt : Int) (A1 : Option Addr) (n1 c1 : Nat) (l1 : List Rec) (A2 : Option Addr) (n2 c2 : Nat) (l2 : List Rec) (A3 : Option Addr) (n3 c3 : Nat) (l3 : List Rec) (w : World) (hq : qn.size ≤ 400000000) (s1 : Sr w w.heap.size A1 n1 l1) (b1 : n1 ≤ 400000000) (m1 : Mods l1) (s2 : Sr w w.heap.size A2 n2 l2) (b2 : n2 ≤ 400000000) (m2 : Mods l2) (s3 : Sr w w.heap.size A3 n3 l3) (b3 : n3 ≤ 400000000) (m3 : Mods l3) (hk : mok ⟨id, rp, au, ct, wa, ca, code, qn, qt⟩ l1 l2 l3 = true) : Calls Tryd.prog 37 #[.agg #[.int .i64 id, .bool rp, .bool au, .bool ct, .bool wa, .bool ca, .int .i64 code, .string qn, .int .i64 qt, .slice A1 n1 c1, .slice A2 n2 c2, .slice A3 n3 c3]] w fun e w' => e = .returned (.string (fc (fa (hx rp id code qn qt) au) ct ++ rts l1 ++ rts l2 ++ rts l3)) ∧ Below w.heap.size w w' := by
  have mixed : Tryd.prog.follows .mixedOrders = true := by kernel_rfl
  obtain ⟨⟨i0, i1⟩, ⟨j0, j1⟩, qz, r1, r2, r3⟩ := mok_of hk
  dsimp only at i0 i1 j0 j1 qz
  have L0 := Lib.hid ((Below.refl w.heap.size w).alloc (Nat.le_refl _) (.cells #[.int .i64 id, .bool rp, .bool au, .bool ct, .bool wa, .bool ca, .int .i64 code, .string qn, .int .i64 qt, .slice A1 n1 c1, .slice A2 n2 c2, .slice A3 n3 c3] 55))
  have X0 : Hid (Mx (w.alloc (.cells #[.int .i64 id, .bool rp, .bool au, .bool ct, .bool wa, .bool ca, .int .i64 code, .string qn, .int .i64 qt, .slice A1 n1 c1, .slice A2 n2 c2, .slice A3 n3 c3] 55)) w.heap.size ⟨id, rp, au, ct, wa, ca, code, qn, qt⟩ (.slice A1 n1 c1) (.slice A2 n2 c2) (.slice A3 n3 c3)) := mx_new w 55 ⟨id, rp, au, ct, wa, ca, code, qn, qt⟩ (.slice A1 n1 c1) (.slice A2 n2 c2) (.slice A3 n3 c3)
  have CM : Hid (∀ W : World, Below w.heap.size w W → Calls Tryd.prog 33 #[.agg #[.int .i64 id, .bool rp, .bool au, .bool ct, .bool wa, .bool ca, .int .i64 code, .string qn, .int .i64 qt, .slice A1 n1 c1, .slice A2 n2 c2, .slice A3 n3 c3]] W fun e w' => e = .returned (.bool true) ∧ Below W.heap.size W w') := fun W hW => hk ▸ OkM.spec ⟨id, rp, au, ct, wa, ca, code, qn, qt⟩ A1 n1 c1 l1 A2 n2 c2 l2 A3 n3 c3 l3 W hq (s1.on hW) b1 m1 (s2.on hW) b2 m2 (s3.on hW) b3 m3
  have WI := Lib.hid (wf_of i0 (by omega))
  have WC := Lib.hid (wf_of j0 (by omega))
  have T1 : Hid (∀ W : World, Below w.heap.size w W → Calls Tryd.prog 75 #[.slice A1 n1 c1] W fun e w' => e = .returned (.string (rts l1)) ∧ Below W.heap.size W w') := fun W hW => textsS A1 n1 c1 l1 W (s1.on hW) r1
  have z1 := rts_full r1
  have T2 : Hid (∀ W : World, Below w.heap.size w W → Calls Tryd.prog 75 #[.slice A2 n2 c2] W fun e w' => e = .returned (.string (rts l2)) ∧ Below W.heap.size W w') := fun W hW => textsS A2 n2 c2 l2 W (s2.on hW) r2
  have z2 := rts_full r2
  have T3 : Hid (∀ W : World, Below w.heap.size w W → Calls Tryd.prog 75 #[.slice A3 n3 c3] W fun e w' => e = .returned (.string (rts l3)) ∧ Below W.heap.size W w') := fun W hW => textsS A3 n3 c3 l3 W (s3.on hW) r3
  have z3 := rts_full r3
  have zi := txt_size i0 (by omega)
  have zc := txt_size j0 (by omega)
  have zh := hx_size rp id code qn qt zi zc qz
  have HX : Hid (kw rp ++ Txt id ++ ⟨#[32]⟩ ++ Txt code ++ ⟨#[32]⟩ ++ dot qn ++ ⟨#[32]⟩ ++ tt qt = hx rp id code qn qt) := rfl
  have zq := dot_size qn
  have zt := tt_size qt
  have zw := kw_size rp
  have s1' := one_size 32
  have a0 := add_size (kw rp) (Txt id)
  have k0 := cat (kw rp) (Txt id) (by omega) (by omega)
  have a1 := add_size (kw rp ++ Txt id) (⟨#[32]⟩)
  have k1 := cat (kw rp ++ Txt id) (⟨#[32]⟩) (by omega) (by omega)
  have a2 := add_size (kw rp ++ Txt id ++ ⟨#[32]⟩) (Txt code)
  have k2 := cat (kw rp ++ Txt id ++ ⟨#[32]⟩) (Txt code) (by omega) (by omega)
  have a3 := add_size (kw rp ++ Txt id ++ ⟨#[32]⟩ ++ Txt code) (⟨#[32]⟩)
  have k3 := cat (kw rp ++ Txt id ++ ⟨#[32]⟩ ++ Txt code) (⟨#[32]⟩) (by omega) (by omega)
  have a4 := add_size (kw rp ++ Txt id ++ ⟨#[32]⟩ ++ Txt code ++ ⟨#[32]⟩) (dot qn)
  have k4 := cat (kw rp ++ Txt id ++ ⟨#[32]⟩ ++ Txt code ++ ⟨#[32]⟩) (dot qn) (by omega) (by omega)
  have a5 := add_size (kw rp ++ Txt id ++ ⟨#[32]⟩ ++ Txt code ++ ⟨#[32]⟩ ++ dot qn) (⟨#[32]⟩)
  have k5 := cat (kw rp ++ Txt id ++ ⟨#[32]⟩ ++ Txt code ++ ⟨#[32]⟩ ++ dot qn) (⟨#[32]⟩) (by omega) (by omega)
  have a6 := add_size (kw rp ++ Txt id ++ ⟨#[32]⟩ ++ Txt code ++ ⟨#[32]⟩ ++ dot qn ++ ⟨#[32]⟩) (tt qt)
  have k6 := cat (kw rp ++ Txt id ++ ⟨#[32]⟩ ++ Txt code ++ ⟨#[32]⟩ ++ dot qn ++ ⟨#[32]⟩) (tt qt) (by omega) (by omega)
  clear a0 a1 a2 a3 a4 a5 a6 s1 s2 s3 m1 m2 m3 hk r1 r2 r3 i0 i1 j0 j1 s1' zi zc zq zt zw
  generalize rts l1 = R1 at *
  generalize rts l2 = R2 at *
  generalize rts l3 = R3 at *
  cases rp
  · have KW : Hid (kw false = ⟨#[97, 115, 107, 32]⟩) := rfl
    rw [KW.out] at HX k0 k1 k2 k3 k4 k5 k6
    generalize hx false id code qn qt = H at *
    clear KW
    go_enter Tryd.func37, Tryd.ntmps37
    go_wp2_with fail
    refine (CM.out _ L0.out).mono ?_
    rintro e w1 ⟨rfl, hl⟩
    have L1 := Lib.hid (L0.out.trans (hl.mono L0.out.size))
    have X1 := Lib.hid (X0.out.below hl)
    clear hl L0 X0
    obtain ⟨x0, x1, x2, x3, x4, x5, x6, x7, x8, x9, x10, x11⟩ := X1.out
    go_wp2
    clear x0 x1 x2 x3 x4 x5 x6 x7 x8 x9 x10 x11
    have x0 : ∀ d os, (Sort.grow (redrawn w1 d) os).cell? _ = some _ := fun d os => (X1.out.drawn d os).1
    have x1 : ∀ d os, (Sort.grow (redrawn w1 d) os).cell? _ = some _ := fun d os => (X1.out.drawn d os).2.1
    have x2 : ∀ d os, (Sort.grow (redrawn w1 d) os).cell? _ = some _ := fun d os => (X1.out.drawn d os).2.2.1
    have x3 : ∀ d os, (Sort.grow (redrawn w1 d) os).cell? _ = some _ := fun d os => (X1.out.drawn d os).2.2.2.1
    have x4 : ∀ d os, (Sort.grow (redrawn w1 d) os).cell? _ = some _ := fun d os => (X1.out.drawn d os).2.2.2.2.1
    have x5 : ∀ d os, (Sort.grow (redrawn w1 d) os).cell? _ = some _ := fun d os => (X1.out.drawn d os).2.2.2.2.2.1
    have x6 : ∀ d os, (Sort.grow (redrawn w1 d) os).cell? _ = some _ := fun d os => (X1.out.drawn d os).2.2.2.2.2.2.1
    have x7 : ∀ d os, (Sort.grow (redrawn w1 d) os).cell? _ = some _ := fun d os => (X1.out.drawn d os).2.2.2.2.2.2.2.1
    have x8 : ∀ d os, (Sort.grow (redrawn w1 d) os).cell? _ = some _ := fun d os => (X1.out.drawn d os).2.2.2.2.2.2.2.2.1
    have x9 : ∀ d os, (Sort.grow (redrawn w1 d) os).cell? _ = some _ := fun d os => (X1.out.drawn d os).2.2.2.2.2.2.2.2.2.1
    have x10 : ∀ d os, (Sort.grow (redrawn w1 d) os).cell? _ = some _ := fun d os => (X1.out.drawn d os).2.2.2.2.2.2.2.2.2.2.1
    have x11 : ∀ d os, (Sort.grow (redrawn w1 d) os).cell? _ = some _ := fun d os => (X1.out.drawn d os).2.2.2.2.2.2.2.2.2.2.2
    refine wp_region_quiet_below (by assumption) (by kernel_rfl) ?_
    repeat (quiet_step (first | (go_at_call 54; exact in_class (fun W _ => same_below (dot_spec qn W))) | (go_at_call 56; exact in_class (fun W _ => same_below (spec_text qt W))) | (go_at_call 55; exact in_class (fun W _ => Num.spec _ (by first | exact WI.out | exact WC.out) W))))
    refine wpQuiet_nil ?_
    intro w2 hw2
    have hl := of_class hw2
    have L2 := Lib.hid (L1.out.trans (hl.mono L1.out.size))
    have X2 := Lib.hid (X1.out.below hl)
    clear hl hw2 x0 x1 x2 x3 x4 x5 x6 x7 x8 x9 x10 x11 L1 X1 k0 k1 k2 k3 k4 k5 k6
    rw [HX.out]
    have c1 := cat H ⟨#[32, 97, 117, 116, 104]⟩ (by omega) (by decide)
    have c2 := cat H ⟨#[32, 99, 117, 116]⟩ (by omega) (by decide)
    have d1 := add_size H ⟨#[32, 97, 117, 116, 104]⟩
    have d2 : (⟨#[32, 97, 117, 116, 104]⟩ : ByteArray).size = 5 := rfl
    have c3 := cat (H ++ ⟨#[32, 97, 117, 116, 104]⟩) ⟨#[32, 99, 117, 116]⟩ (by omega) (by decide)
    have HFS := Lib.hid (Nat.le_trans (fc_size (fa H au) ct) (Nat.add_le_add_right (fa_size H au) 4))
    clear d1 d2
    obtain ⟨x0, x1, x2, x3, x4, x5, x6, x7, x8, x9, x10, x11⟩ := X2.out
    have HF : Hid (∀ F, fc (fa H au) ct = F → F.size ≤ 209) := fun F e => by rw [← e]; have := HFS.out; omega
    cases au
    · cases ct
      · have fz : (H).size ≤ 209 := HF.out _ rfl
        have f1 := add_size (H) R1
        have f2 := add_size (H ++ R1) R2
        have k1 := cat (H) R1 (by omega) (by omega)
        have k2 := cat (H ++ R1) R2 (by omega) (by omega)
        have k3 := cat (H ++ R1 ++ R2) R3 (by omega) (by omega)
        clear f1 f2 fz
        go_wp2
        clear x0 x1 x2 x3 x4 x5 x6 x7 x8 x9 x10 x11 c1 c2 c3
        have x0 : ∀ d os, (Sort.grow (redrawn w2 d) os).cell? _ = some _ := fun d os => (X2.out.drawn d os).1
        have x1 : ∀ d os, (Sort.grow (redrawn w2 d) os).cell? _ = some _ := fun d os => (X2.out.drawn d os).2.1
        have x2 : ∀ d os, (Sort.grow (redrawn w2 d) os).cell? _ = some _ := fun d os => (X2.out.drawn d os).2.2.1
        have x3 : ∀ d os, (Sort.grow (redrawn w2 d) os).cell? _ = some _ := fun d os => (X2.out.drawn d os).2.2.2.1
        have x4 : ∀ d os, (Sort.grow (redrawn w2 d) os).cell? _ = some _ := fun d os => (X2.out.drawn d os).2.2.2.2.1
        have x5 : ∀ d os, (Sort.grow (redrawn w2 d) os).cell? _ = some _ := fun d os => (X2.out.drawn d os).2.2.2.2.2.1
        have x6 : ∀ d os, (Sort.grow (redrawn w2 d) os).cell? _ = some _ := fun d os => (X2.out.drawn d os).2.2.2.2.2.2.1
        have x7 : ∀ d os, (Sort.grow (redrawn w2 d) os).cell? _ = some _ := fun d os => (X2.out.drawn d os).2.2.2.2.2.2.2.1
        have x8 : ∀ d os, (Sort.grow (redrawn w2 d) os).cell? _ = some _ := fun d os => (X2.out.drawn d os).2.2.2.2.2.2.2.2.1
        have x9 : ∀ d os, (Sort.grow (redrawn w2 d) os).cell? _ = some _ := fun d os => (X2.out.drawn d os).2.2.2.2.2.2.2.2.2.1
        have x10 : ∀ d os, (Sort.grow (redrawn w2 d) os).cell? _ = some _ := fun d os => (X2.out.drawn d os).2.2.2.2.2.2.2.2.2.2.1
        have x11 : ∀ d os, (Sort.grow (redrawn w2 d) os).cell? _ = some _ := fun d os => (X2.out.drawn d os).2.2.2.2.2.2.2.2.2.2.2
        refine wp_region_quiet_below (by assumption) (by kernel_rfl) ?_
        repeat (quiet_step (first | (go_at_call 75; with_reducible exact in_class (fun W hW => T1.out W (L2.out.trans (hW.mono L2.out.size)))) | (go_at_call 75; with_reducible exact in_class (fun W hW => T2.out W (L2.out.trans (hW.mono L2.out.size)))) | (go_at_call 75; with_reducible exact in_class (fun W hW => T3.out W (L2.out.trans (hW.mono L2.out.size))))))
        refine wpQuiet_nil ?_
        intro w3 hw3
        have hl := of_class hw3
        have L3 := Lib.hid (L2.out.trans (hl.mono L2.out.size))
        clear hl hw3 x0 x1 x2 x3 x4 x5 x6 x7 x8 x9 x10 x11
        go_wp2
        go_ret
        exact ⟨rfl, L3.out⟩
      · have fz : (H ++ ⟨#[32, 99, 117, 116]⟩).size ≤ 209 := HF.out _ rfl
        have f1 := add_size (H ++ ⟨#[32, 99, 117, 116]⟩) R1
        have f2 := add_size (H ++ ⟨#[32, 99, 117, 116]⟩ ++ R1) R2
        have k1 := cat (H ++ ⟨#[32, 99, 117, 116]⟩) R1 (by omega) (by omega)
        have k2 := cat (H ++ ⟨#[32, 99, 117, 116]⟩ ++ R1) R2 (by omega) (by omega)
        have k3 := cat (H ++ ⟨#[32, 99, 117, 116]⟩ ++ R1 ++ R2) R3 (by omega) (by omega)
        clear f1 f2 fz
        go_wp2
        clear x0 x1 x2 x3 x4 x5 x6 x7 x8 x9 x10 x11 c1 c2 c3
        have x0 : ∀ d os, (Sort.grow (redrawn w2 d) os).cell? _ = some _ := fun d os => (X2.out.drawn d os).1
        have x1 : ∀ d os, (Sort.grow (redrawn w2 d) os).cell? _ = some _ := fun d os => (X2.out.drawn d os).2.1
        have x2 : ∀ d os, (Sort.grow (redrawn w2 d) os).cell? _ = some _ := fun d os => (X2.out.drawn d os).2.2.1
        have x3 : ∀ d os, (Sort.grow (redrawn w2 d) os).cell? _ = some _ := fun d os => (X2.out.drawn d os).2.2.2.1
        have x4 : ∀ d os, (Sort.grow (redrawn w2 d) os).cell? _ = some _ := fun d os => (X2.out.drawn d os).2.2.2.2.1
        have x5 : ∀ d os, (Sort.grow (redrawn w2 d) os).cell? _ = some _ := fun d os => (X2.out.drawn d os).2.2.2.2.2.1
        have x6 : ∀ d os, (Sort.grow (redrawn w2 d) os).cell? _ = some _ := fun d os => (X2.out.drawn d os).2.2.2.2.2.2.1
        have x7 : ∀ d os, (Sort.grow (redrawn w2 d) os).cell? _ = some _ := fun d os => (X2.out.drawn d os).2.2.2.2.2.2.2.1
        have x8 : ∀ d os, (Sort.grow (redrawn w2 d) os).cell? _ = some _ := fun d os => (X2.out.drawn d os).2.2.2.2.2.2.2.2.1
        have x9 : ∀ d os, (Sort.grow (redrawn w2 d) os).cell? _ = some _ := fun d os => (X2.out.drawn d os).2.2.2.2.2.2.2.2.2.1
        have x10 : ∀ d os, (Sort.grow (redrawn w2 d) os).cell? _ = some _ := fun d os => (X2.out.drawn d os).2.2.2.2.2.2.2.2.2.2.1
        have x11 : ∀ d os, (Sort.grow (redrawn w2 d) os).cell? _ = some _ := fun d os => (X2.out.drawn d os).2.2.2.2.2.2.2.2.2.2.2
        refine wp_region_quiet_below (by assumption) (by kernel_rfl) ?_
        repeat (quiet_step (first | (go_at_call 75; with_reducible exact in_class (fun W hW => T1.out W (L2.out.trans (hW.mono L2.out.size)))) | (go_at_call 75; with_reducible exact in_class (fun W hW => T2.out W (L2.out.trans (hW.mono L2.out.size)))) | (go_at_call 75; with_reducible exact in_class (fun W hW => T3.out W (L2.out.trans (hW.mono L2.out.size))))))
        refine wpQuiet_nil ?_
        intro w3 hw3
        have hl := of_class hw3
        have L3 := Lib.hid (L2.out.trans (hl.mono L2.out.size))
        clear hl hw3 x0 x1 x2 x3 x4 x5 x6 x7 x8 x9 x10 x11
        go_wp2
        go_ret
        exact ⟨rfl, L3.out⟩
    · cases ct
      · have fz : (H ++ ⟨#[32, 97, 117, 116, 104]⟩).size ≤ 209 := HF.out _ rfl
        have f1 := add_size (H ++ ⟨#[32, 97, 117, 116, 104]⟩) R1
        have f2 := add_size (H ++ ⟨#[32, 97, 117, 116, 104]⟩ ++ R1) R2
        have k1 := cat (H ++ ⟨#[32, 97, 117, 116, 104]⟩) R1 (by omega) (by omega)
        have k2 := cat (H ++ ⟨#[32, 97, 117, 116, 104]⟩ ++ R1) R2 (by omega) (by omega)
        have k3 := cat (H ++ ⟨#[32, 97, 117, 116, 104]⟩ ++ R1 ++ R2) R3 (by omega) (by omega)
        clear f1 f2 fz
        go_wp2
        clear x0 x1 x2 x3 x4 x5 x6 x7 x8 x9 x10 x11 c1 c2 c3
        have x0 : ∀ d os, (Sort.grow (redrawn w2 d) os).cell? _ = some _ := fun d os => (X2.out.drawn d os).1
        have x1 : ∀ d os, (Sort.grow (redrawn w2 d) os).cell? _ = some _ := fun d os => (X2.out.drawn d os).2.1
        have x2 : ∀ d os, (Sort.grow (redrawn w2 d) os).cell? _ = some _ := fun d os => (X2.out.drawn d os).2.2.1
        have x3 : ∀ d os, (Sort.grow (redrawn w2 d) os).cell? _ = some _ := fun d os => (X2.out.drawn d os).2.2.2.1
        have x4 : ∀ d os, (Sort.grow (redrawn w2 d) os).cell? _ = some _ := fun d os => (X2.out.drawn d os).2.2.2.2.1
        have x5 : ∀ d os, (Sort.grow (redrawn w2 d) os).cell? _ = some _ := fun d os => (X2.out.drawn d os).2.2.2.2.2.1
        have x6 : ∀ d os, (Sort.grow (redrawn w2 d) os).cell? _ = some _ := fun d os => (X2.out.drawn d os).2.2.2.2.2.2.1
        have x7 : ∀ d os, (Sort.grow (redrawn w2 d) os).cell? _ = some _ := fun d os => (X2.out.drawn d os).2.2.2.2.2.2.2.1
        have x8 : ∀ d os, (Sort.grow (redrawn w2 d) os).cell? _ = some _ := fun d os => (X2.out.drawn d os).2.2.2.2.2.2.2.2.1
        have x9 : ∀ d os, (Sort.grow (redrawn w2 d) os).cell? _ = some _ := fun d os => (X2.out.drawn d os).2.2.2.2.2.2.2.2.2.1
        have x10 : ∀ d os, (Sort.grow (redrawn w2 d) os).cell? _ = some _ := fun d os => (X2.out.drawn d os).2.2.2.2.2.2.2.2.2.2.1
        have x11 : ∀ d os, (Sort.grow (redrawn w2 d) os).cell? _ = some _ := fun d os => (X2.out.drawn d os).2.2.2.2.2.2.2.2.2.2.2
        refine wp_region_quiet_below (by assumption) (by kernel_rfl) ?_
        repeat (quiet_step (first | (go_at_call 75; with_reducible exact in_class (fun W hW => T1.out W (L2.out.trans (hW.mono L2.out.size)))) | (go_at_call 75; with_reducible exact in_class (fun W hW => T2.out W (L2.out.trans (hW.mono L2.out.size)))) | (go_at_call 75; with_reducible exact in_class (fun W hW => T3.out W (L2.out.trans (hW.mono L2.out.size))))))
        refine wpQuiet_nil ?_
        intro w3 hw3
        have hl := of_class hw3
        have L3 := Lib.hid (L2.out.trans (hl.mono L2.out.size))
        clear hl hw3 x0 x1 x2 x3 x4 x5 x6 x7 x8 x9 x10 x11
        go_wp2
        go_ret
        exact ⟨rfl, L3.out⟩
      · have fz : (H ++ ⟨#[32, 97, 117, 116, 104]⟩ ++ ⟨#[32, 99, 117, 116]⟩).size ≤ 209 := HF.out _ rfl
        have f1 := add_size (H ++ ⟨#[32, 97, 117, 116, 104]⟩ ++ ⟨#[32, 99, 117, 116]⟩) R1
        have f2 := add_size (H ++ ⟨#[32, 97, 117, 116, 104]⟩ ++ ⟨#[32, 99, 117, 116]⟩ ++ R1) R2
        have k1 := cat (H ++ ⟨#[32, 97, 117, 116, 104]⟩ ++ ⟨#[32, 99, 117, 116]⟩) R1 (by omega) (by omega)
        have k2 := cat (H ++ ⟨#[32, 97, 117, 116, 104]⟩ ++ ⟨#[32, 99, 117, 116]⟩ ++ R1) R2 (by omega) (by omega)
        have k3 := cat (H ++ ⟨#[32, 97, 117, 116, 104]⟩ ++ ⟨#[32, 99, 117, 116]⟩ ++ R1 ++ R2) R3 (by omega) (by omega)
        clear f1 f2 fz
        go_wp2
        clear x0 x1 x2 x3 x4 x5 x6 x7 x8 x9 x10 x11 c1 c2 c3
        have x0 : ∀ d os, (Sort.grow (redrawn w2 d) os).cell? _ = some _ := fun d os => (X2.out.drawn d os).1
        have x1 : ∀ d os, (Sort.grow (redrawn w2 d) os).cell? _ = some _ := fun d os => (X2.out.drawn d os).2.1
        have x2 : ∀ d os, (Sort.grow (redrawn w2 d) os).cell? _ = some _ := fun d os => (X2.out.drawn d os).2.2.1
        have x3 : ∀ d os, (Sort.grow (redrawn w2 d) os).cell? _ = some _ := fun d os => (X2.out.drawn d os).2.2.2.1
        have x4 : ∀ d os, (Sort.grow (redrawn w2 d) os).cell? _ = some _ := fun d os => (X2.out.drawn d os).2.2.2.2.1
        have x5 : ∀ d os, (Sort.grow (redrawn w2 d) os).cell? _ = some _ := fun d os => (X2.out.drawn d os).2.2.2.2.2.1
        have x6 : ∀ d os, (Sort.grow (redrawn w2 d) os).cell? _ = some _ := fun d os => (X2.out.drawn d os).2.2.2.2.2.2.1
        have x7 : ∀ d os, (Sort.grow (redrawn w2 d) os).cell? _ = some _ := fun d os => (X2.out.drawn d os).2.2.2.2.2.2.2.1
        have x8 : ∀ d os, (Sort.grow (redrawn w2 d) os).cell? _ = some _ := fun d os => (X2.out.drawn d os).2.2.2.2.2.2.2.2.1
        have x9 : ∀ d os, (Sort.grow (redrawn w2 d) os).cell? _ = some _ := fun d os => (X2.out.drawn d os).2.2.2.2.2.2.2.2.2.1
        have x10 : ∀ d os, (Sort.grow (redrawn w2 d) os).cell? _ = some _ := fun d os => (X2.out.drawn d os).2.2.2.2.2.2.2.2.2.2.1
        have x11 : ∀ d os, (Sort.grow (redrawn w2 d) os).cell? _ = some _ := fun d os => (X2.out.drawn d os).2.2.2.2.2.2.2.2.2.2.2
        refine wp_region_quiet_below (by assumption) (by kernel_rfl) ?_
        repeat (quiet_step (first | (go_at_call 75; with_reducible exact in_class (fun W hW => T1.out W (L2.out.trans (hW.mono L2.out.size)))) | (go_at_call 75; with_reducible exact in_class (fun W hW => T2.out W (L2.out.trans (hW.mono L2.out.size)))) | (go_at_call 75; with_reducible exact in_class (fun W hW => T3.out W (L2.out.trans (hW.mono L2.out.size))))))
        refine wpQuiet_nil ?_
        intro w3 hw3
        have hl := of_class hw3
        have L3 := Lib.hid (L2.out.trans (hl.mono L2.out.size))
        clear hl hw3 x0 x1 x2 x3 x4 x5 x6 x7 x8 x9 x10 x11
        go_wp2
        go_ret
        exact ⟨rfl, L3.out⟩
  · have KW : Hid (kw true = ⟨#[114, 101, 112, 108, 121, 32]⟩) := rfl
    rw [KW.out] at HX k0 k1 k2 k3 k4 k5 k6
    generalize hx true id code qn qt = H at *
    clear KW
    go_enter Tryd.func37, Tryd.ntmps37
    go_wp2_with fail
    refine (CM.out _ L0.out).mono ?_
    rintro e w1 ⟨rfl, hl⟩
    have L1 := Lib.hid (L0.out.trans (hl.mono L0.out.size))
    have X1 := Lib.hid (X0.out.below hl)
    clear hl L0 X0
    obtain ⟨x0, x1, x2, x3, x4, x5, x6, x7, x8, x9, x10, x11⟩ := X1.out
    go_wp2
    clear x0 x1 x2 x3 x4 x5 x6 x7 x8 x9 x10 x11
    have x0 : ∀ d os, (Sort.grow (redrawn w1 d) os).cell? _ = some _ := fun d os => (X1.out.drawn d os).1
    have x1 : ∀ d os, (Sort.grow (redrawn w1 d) os).cell? _ = some _ := fun d os => (X1.out.drawn d os).2.1
    have x2 : ∀ d os, (Sort.grow (redrawn w1 d) os).cell? _ = some _ := fun d os => (X1.out.drawn d os).2.2.1
    have x3 : ∀ d os, (Sort.grow (redrawn w1 d) os).cell? _ = some _ := fun d os => (X1.out.drawn d os).2.2.2.1
    have x4 : ∀ d os, (Sort.grow (redrawn w1 d) os).cell? _ = some _ := fun d os => (X1.out.drawn d os).2.2.2.2.1
    have x5 : ∀ d os, (Sort.grow (redrawn w1 d) os).cell? _ = some _ := fun d os => (X1.out.drawn d os).2.2.2.2.2.1
    have x6 : ∀ d os, (Sort.grow (redrawn w1 d) os).cell? _ = some _ := fun d os => (X1.out.drawn d os).2.2.2.2.2.2.1
    have x7 : ∀ d os, (Sort.grow (redrawn w1 d) os).cell? _ = some _ := fun d os => (X1.out.drawn d os).2.2.2.2.2.2.2.1
    have x8 : ∀ d os, (Sort.grow (redrawn w1 d) os).cell? _ = some _ := fun d os => (X1.out.drawn d os).2.2.2.2.2.2.2.2.1
    have x9 : ∀ d os, (Sort.grow (redrawn w1 d) os).cell? _ = some _ := fun d os => (X1.out.drawn d os).2.2.2.2.2.2.2.2.2.1
    have x10 : ∀ d os, (Sort.grow (redrawn w1 d) os).cell? _ = some _ := fun d os => (X1.out.drawn d os).2.2.2.2.2.2.2.2.2.2.1
    have x11 : ∀ d os, (Sort.grow (redrawn w1 d) os).cell? _ = some _ := fun d os => (X1.out.drawn d os).2.2.2.2.2.2.2.2.2.2.2
    refine wp_region_quiet_below (by assumption) (by kernel_rfl) ?_
    repeat (quiet_step (first | (go_at_call 54; exact in_class (fun W _ => same_below (dot_spec qn W))) | (go_at_call 56; exact in_class (fun W _ => same_below (spec_text qt W))) | (go_at_call 55; exact in_class (fun W _ => Num.spec _ (by first | exact WI.out | exact WC.out) W))))
    refine wpQuiet_nil ?_
    intro w2 hw2
    have hl := of_class hw2
    have L2 := Lib.hid (L1.out.trans (hl.mono L1.out.size))
    have X2 := Lib.hid (X1.out.below hl)
    clear hl hw2 x0 x1 x2 x3 x4 x5 x6 x7 x8 x9 x10 x11 L1 X1 k0 k1 k2 k3 k4 k5 k6
    rw [HX.out]
    have c1 := cat H ⟨#[32, 97, 117, 116, 104]⟩ (by omega) (by decide)
    have c2 := cat H ⟨#[32, 99, 117, 116]⟩ (by omega) (by decide)
    have d1 := add_size H ⟨#[32, 97, 117, 116, 104]⟩
    have d2 : (⟨#[32, 97, 117, 116, 104]⟩ : ByteArray).size = 5 := rfl
    have c3 := cat (H ++ ⟨#[32, 97, 117, 116, 104]⟩) ⟨#[32, 99, 117, 116]⟩ (by omega) (by decide)
    have HFS := Lib.hid (Nat.le_trans (fc_size (fa H au) ct) (Nat.add_le_add_right (fa_size H au) 4))
    clear d1 d2
    obtain ⟨x0, x1, x2, x3, x4, x5, x6, x7, x8, x9, x10, x11⟩ := X2.out
    have HF : Hid (∀ F, fc (fa H au) ct = F → F.size ≤ 209) := fun F e => by rw [← e]; have := HFS.out; omega
    cases au
    · cases ct
      · have fz : (H).size ≤ 209 := HF.out _ rfl
        have f1 := add_size (H) R1
        have f2 := add_size (H ++ R1) R2
        have k1 := cat (H) R1 (by omega) (by omega)
        have k2 := cat (H ++ R1) R2 (by omega) (by omega)
        have k3 := cat (H ++ R1 ++ R2) R3 (by omega) (by omega)
        clear f1 f2 fz
        go_wp2
        clear x0 x1 x2 x3 x4 x5 x6 x7 x8 x9 x10 x11 c1 c2 c3
        have x0 : ∀ d os, (Sort.grow (redrawn w2 d) os).cell? _ = some _ := fun d os => (X2.out.drawn d os).1
        have x1 : ∀ d os, (Sort.grow (redrawn w2 d) os).cell? _ = some _ := fun d os => (X2.out.drawn d os).2.1
        have x2 : ∀ d os, (Sort.grow (redrawn w2 d) os).cell? _ = some _ := fun d os => (X2.out.drawn d os).2.2.1
        have x3 : ∀ d os, (Sort.grow (redrawn w2 d) os).cell? _ = some _ := fun d os => (X2.out.drawn d os).2.2.2.1
        have x4 : ∀ d os, (Sort.grow (redrawn w2 d) os).cell? _ = some _ := fun d os => (X2.out.drawn d os).2.2.2.2.1
        have x5 : ∀ d os, (Sort.grow (redrawn w2 d) os).cell? _ = some _ := fun d os => (X2.out.drawn d os).2.2.2.2.2.1
        have x6 : ∀ d os, (Sort.grow (redrawn w2 d) os).cell? _ = some _ := fun d os => (X2.out.drawn d os).2.2.2.2.2.2.1
        have x7 : ∀ d os, (Sort.grow (redrawn w2 d) os).cell? _ = some _ := fun d os => (X2.out.drawn d os).2.2.2.2.2.2.2.1
        have x8 : ∀ d os, (Sort.grow (redrawn w2 d) os).cell? _ = some _ := fun d os => (X2.out.drawn d os).2.2.2.2.2.2.2.2.1
        have x9 : ∀ d os, (Sort.grow (redrawn w2 d) os).cell? _ = some _ := fun d os => (X2.out.drawn d os).2.2.2.2.2.2.2.2.2.1
        have x10 : ∀ d os, (Sort.grow (redrawn w2 d) os).cell? _ = some _ := fun d os => (X2.out.drawn d os).2.2.2.2.2.2.2.2.2.2.1
        have x11 : ∀ d os, (Sort.grow (redrawn w2 d) os).cell? _ = some _ := fun d os => (X2.out.drawn d os).2.2.2.2.2.2.2.2.2.2.2
        refine wp_region_quiet_below (by assumption) (by kernel_rfl) ?_
        repeat (quiet_step (first | (go_at_call 75; with_reducible exact in_class (fun W hW => T1.out W (L2.out.trans (hW.mono L2.out.size)))) | (go_at_call 75; with_reducible exact in_class (fun W hW => T2.out W (L2.out.trans (hW.mono L2.out.size)))) | (go_at_call 75; with_reducible exact in_class (fun W hW => T3.out W (L2.out.trans (hW.mono L2.out.size))))))
        refine wpQuiet_nil ?_
        intro w3 hw3
        have hl := of_class hw3
        have L3 := Lib.hid (L2.out.trans (hl.mono L2.out.size))
        clear hl hw3 x0 x1 x2 x3 x4 x5 x6 x7 x8 x9 x10 x11
        go_wp2
        go_ret
        exact ⟨rfl, L3.out⟩
      · have fz : (H ++ ⟨#[32, 99, 117, 116]⟩).size ≤ 209 := HF.out _ rfl
        have f1 := add_size (H ++ ⟨#[32, 99, 117, 116]⟩) R1
        have f2 := add_size (H ++ ⟨#[32, 99, 117, 116]⟩ ++ R1) R2
        have k1 := cat (H ++ ⟨#[32, 99, 117, 116]⟩) R1 (by omega) (by omega)
        have k2 := cat (H ++ ⟨#[32, 99, 117, 116]⟩ ++ R1) R2 (by omega) (by omega)
        have k3 := cat (H ++ ⟨#[32, 99, 117, 116]⟩ ++ R1 ++ R2) R3 (by omega) (by omega)
        clear f1 f2 fz
        go_wp2
        clear x0 x1 x2 x3 x4 x5 x6 x7 x8 x9 x10 x11 c1 c2 c3
        have x0 : ∀ d os, (Sort.grow (redrawn w2 d) os).cell? _ = some _ := fun d os => (X2.out.drawn d os).1
        have x1 : ∀ d os, (Sort.grow (redrawn w2 d) os).cell? _ = some _ := fun d os => (X2.out.drawn d os).2.1
        have x2 : ∀ d os, (Sort.grow (redrawn w2 d) os).cell? _ = some _ := fun d os => (X2.out.drawn d os).2.2.1
        have x3 : ∀ d os, (Sort.grow (redrawn w2 d) os).cell? _ = some _ := fun d os => (X2.out.drawn d os).2.2.2.1
        have x4 : ∀ d os, (Sort.grow (redrawn w2 d) os).cell? _ = some _ := fun d os => (X2.out.drawn d os).2.2.2.2.1
        have x5 : ∀ d os, (Sort.grow (redrawn w2 d) os).cell? _ = some _ := fun d os => (X2.out.drawn d os).2.2.2.2.2.1
        have x6 : ∀ d os, (Sort.grow (redrawn w2 d) os).cell? _ = some _ := fun d os => (X2.out.drawn d os).2.2.2.2.2.2.1
        have x7 : ∀ d os, (Sort.grow (redrawn w2 d) os).cell? _ = some _ := fun d os => (X2.out.drawn d os).2.2.2.2.2.2.2.1
        have x8 : ∀ d os, (Sort.grow (redrawn w2 d) os).cell? _ = some _ := fun d os => (X2.out.drawn d os).2.2.2.2.2.2.2.2.1
        have x9 : ∀ d os, (Sort.grow (redrawn w2 d) os).cell? _ = some _ := fun d os => (X2.out.drawn d os).2.2.2.2.2.2.2.2.2.1
        have x10 : ∀ d os, (Sort.grow (redrawn w2 d) os).cell? _ = some _ := fun d os => (X2.out.drawn d os).2.2.2.2.2.2.2.2.2.2.1
        have x11 : ∀ d os, (Sort.grow (redrawn w2 d) os).cell? _ = some _ := fun d os => (X2.out.drawn d os).2.2.2.2.2.2.2.2.2.2.2
        refine wp_region_quiet_below (by assumption) (by kernel_rfl) ?_
        repeat (quiet_step (first | (go_at_call 75; with_reducible exact in_class (fun W hW => T1.out W (L2.out.trans (hW.mono L2.out.size)))) | (go_at_call 75; with_reducible exact in_class (fun W hW => T2.out W (L2.out.trans (hW.mono L2.out.size)))) | (go_at_call 75; with_reducible exact in_class (fun W hW => T3.out W (L2.out.trans (hW.mono L2.out.size))))))
        refine wpQuiet_nil ?_
        intro w3 hw3
        have hl := of_class hw3
        have L3 := Lib.hid (L2.out.trans (hl.mono L2.out.size))
        clear hl hw3 x0 x1 x2 x3 x4 x5 x6 x7 x8 x9 x10 x11
        go_wp2
        go_ret
        exact ⟨rfl, L3.out⟩
    · cases ct
      · have fz : (H ++ ⟨#[32, 97, 117, 116, 104]⟩).size ≤ 209 := HF.out _ rfl
        have f1 := add_size (H ++ ⟨#[32, 97, 117, 116, 104]⟩) R1
        have f2 := add_size (H ++ ⟨#[32, 97, 117, 116, 104]⟩ ++ R1) R2
        have k1 := cat (H ++ ⟨#[32, 97, 117, 116, 104]⟩) R1 (by omega) (by omega)
        have k2 := cat (H ++ ⟨#[32, 97, 117, 116, 104]⟩ ++ R1) R2 (by omega) (by omega)
        have k3 := cat (H ++ ⟨#[32, 97, 117, 116, 104]⟩ ++ R1 ++ R2) R3 (by omega) (by omega)
        clear f1 f2 fz
        go_wp2
        clear x0 x1 x2 x3 x4 x5 x6 x7 x8 x9 x10 x11 c1 c2 c3
        have x0 : ∀ d os, (Sort.grow (redrawn w2 d) os).cell? _ = some _ := fun d os => (X2.out.drawn d os).1
        have x1 : ∀ d os, (Sort.grow (redrawn w2 d) os).cell? _ = some _ := fun d os => (X2.out.drawn d os).2.1
        have x2 : ∀ d os, (Sort.grow (redrawn w2 d) os).cell? _ = some _ := fun d os => (X2.out.drawn d os).2.2.1
        have x3 : ∀ d os, (Sort.grow (redrawn w2 d) os).cell? _ = some _ := fun d os => (X2.out.drawn d os).2.2.2.1
        have x4 : ∀ d os, (Sort.grow (redrawn w2 d) os).cell? _ = some _ := fun d os => (X2.out.drawn d os).2.2.2.2.1
        have x5 : ∀ d os, (Sort.grow (redrawn w2 d) os).cell? _ = some _ := fun d os => (X2.out.drawn d os).2.2.2.2.2.1
        have x6 : ∀ d os, (Sort.grow (redrawn w2 d) os).cell? _ = some _ := fun d os => (X2.out.drawn d os).2.2.2.2.2.2.1
        have x7 : ∀ d os, (Sort.grow (redrawn w2 d) os).cell? _ = some _ := fun d os => (X2.out.drawn d os).2.2.2.2.2.2.2.1
        have x8 : ∀ d os, (Sort.grow (redrawn w2 d) os).cell? _ = some _ := fun d os => (X2.out.drawn d os).2.2.2.2.2.2.2.2.1
        have x9 : ∀ d os, (Sort.grow (redrawn w2 d) os).cell? _ = some _ := fun d os => (X2.out.drawn d os).2.2.2.2.2.2.2.2.2.1
        have x10 : ∀ d os, (Sort.grow (redrawn w2 d) os).cell? _ = some _ := fun d os => (X2.out.drawn d os).2.2.2.2.2.2.2.2.2.2.1
        have x11 : ∀ d os, (Sort.grow (redrawn w2 d) os).cell? _ = some _ := fun d os => (X2.out.drawn d os).2.2.2.2.2.2.2.2.2.2.2
        refine wp_region_quiet_below (by assumption) (by kernel_rfl) ?_
        repeat (quiet_step (first | (go_at_call 75; with_reducible exact in_class (fun W hW => T1.out W (L2.out.trans (hW.mono L2.out.size)))) | (go_at_call 75; with_reducible exact in_class (fun W hW => T2.out W (L2.out.trans (hW.mono L2.out.size)))) | (go_at_call 75; with_reducible exact in_class (fun W hW => T3.out W (L2.out.trans (hW.mono L2.out.size))))))
        refine wpQuiet_nil ?_
        intro w3 hw3
        have hl := of_class hw3
        have L3 := Lib.hid (L2.out.trans (hl.mono L2.out.size))
        clear hl hw3 x0 x1 x2 x3 x4 x5 x6 x7 x8 x9 x10 x11
        go_wp2
        go_ret
        exact ⟨rfl, L3.out⟩
      · have fz : (H ++ ⟨#[32, 97, 117, 116, 104]⟩ ++ ⟨#[32, 99, 117, 116]⟩).size ≤ 209 := HF.out _ rfl
        have f1 := add_size (H ++ ⟨#[32, 97, 117, 116, 104]⟩ ++ ⟨#[32, 99, 117, 116]⟩) R1
        have f2 := add_size (H ++ ⟨#[32, 97, 117, 116, 104]⟩ ++ ⟨#[32, 99, 117, 116]⟩ ++ R1) R2
        have k1 := cat (H ++ ⟨#[32, 97, 117, 116, 104]⟩ ++ ⟨#[32, 99, 117, 116]⟩) R1 (by omega) (by omega)
        have k2 := cat (H ++ ⟨#[32, 97, 117, 116, 104]⟩ ++ ⟨#[32, 99, 117, 116]⟩ ++ R1) R2 (by omega) (by omega)
        have k3 := cat (H ++ ⟨#[32, 97, 117, 116, 104]⟩ ++ ⟨#[32, 99, 117, 116]⟩ ++ R1 ++ R2) R3 (by omega) (by omega)
        clear f1 f2 fz
        go_wp2
        clear x0 x1 x2 x3 x4 x5 x6 x7 x8 x9 x10 x11 c1 c2 c3
        have x0 : ∀ d os, (Sort.grow (redrawn w2 d) os).cell? _ = some _ := fun d os => (X2.out.drawn d os).1
        have x1 : ∀ d os, (Sort.grow (redrawn w2 d) os).cell? _ = some _ := fun d os => (X2.out.drawn d os).2.1
        have x2 : ∀ d os, (Sort.grow (redrawn w2 d) os).cell? _ = some _ := fun d os => (X2.out.drawn d os).2.2.1
        have x3 : ∀ d os, (Sort.grow (redrawn w2 d) os).cell? _ = some _ := fun d os => (X2.out.drawn d os).2.2.2.1
        have x4 : ∀ d os, (Sort.grow (redrawn w2 d) os).cell? _ = some _ := fun d os => (X2.out.drawn d os).2.2.2.2.1
        have x5 : ∀ d os, (Sort.grow (redrawn w2 d) os).cell? _ = some _ := fun d os => (X2.out.drawn d os).2.2.2.2.2.1
        have x6 : ∀ d os, (Sort.grow (redrawn w2 d) os).cell? _ = some _ := fun d os => (X2.out.drawn d os).2.2.2.2.2.2.1
        have x7 : ∀ d os, (Sort.grow (redrawn w2 d) os).cell? _ = some _ := fun d os => (X2.out.drawn d os).2.2.2.2.2.2.2.1
        have x8 : ∀ d os, (Sort.grow (redrawn w2 d) os).cell? _ = some _ := fun d os => (X2.out.drawn d os).2.2.2.2.2.2.2.2.1
        have x9 : ∀ d os, (Sort.grow (redrawn w2 d) os).cell? _ = some _ := fun d os => (X2.out.drawn d os).2.2.2.2.2.2.2.2.2.1
        have x10 : ∀ d os, (Sort.grow (redrawn w2 d) os).cell? _ = some _ := fun d os => (X2.out.drawn d os).2.2.2.2.2.2.2.2.2.2.1
        have x11 : ∀ d os, (Sort.grow (redrawn w2 d) os).cell? _ = some _ := fun d os => (X2.out.drawn d os).2.2.2.2.2.2.2.2.2.2.2
        refine wp_region_quiet_below (by assumption) (by kernel_rfl) ?_
        repeat (quiet_step (first | (go_at_call 75; with_reducible exact in_class (fun W hW => T1.out W (L2.out.trans (hW.mono L2.out.size)))) | (go_at_call 75; with_reducible exact in_class (fun W hW => T2.out W (L2.out.trans (hW.mono L2.out.size)))) | (go_at_call 75; with_reducible exact in_class (fun W hW => T3.out W (L2.out.trans (hW.mono L2.out.size))))))
        refine wpQuiet_nil ?_
        intro w3 hw3
        have hl := of_class hw3
        have L3 := Lib.hid (L2.out.trans (hl.mono L2.out.size))
        clear hl hw3 x0 x1 x2 x3 x4 x5 x6 x7 x8 x9 x10 x11
        go_wp2
        go_ret
        exact ⟨rfl, L3.out⟩

theorem spec (h : Hd) (A1 : Option Addr) (n1 c1 : Nat) (l1 : List Rec) (A2 : Option Addr) (n2 c2 : Nat) (l2 : List Rec) (A3 : Option Addr) (n3 c3 : Nat) (l3 : List Rec) (w : World) (hq : h.qn.size ≤ 400000000) (s1 : Sr w w.heap.size A1 n1 l1) (b1 : n1 ≤ 400000000) (m1 : Mods l1) (s2 : Sr w w.heap.size A2 n2 l2) (b2 : n2 ≤ 400000000) (m2 : Mods l2) (s3 : Sr w w.heap.size A3 n3 l3) (b3 : n3 ≤ 400000000) (m3 : Mods l3) : Calls Tryd.prog 37 #[.agg #[.int .i64 h.id, .bool h.rp, .bool h.au, .bool h.ct, .bool h.wa, .bool h.ca, .int .i64 h.code, .string h.qn, .int .i64 h.qt, .slice A1 n1 c1, .slice A2 n2 c2, .slice A3 n3 c3]] w fun e w' => e = .returned (.string (mtx h l1 l2 l3)) ∧ Below w.heap.size w w' := by
  cases hk : mok h l1 l2 l3
  · rw [show mtx h l1 l2 l3 = ⟨#[]⟩ from if_neg (by rw [hk]; simp)]
    exact spec_bad h.id h.code h.rp h.au h.ct h.wa h.ca h.qn h.qt A1 n1 c1 l1 A2 n2 c2 l2 A3 n3 c3 l3 w hq s1 b1 m1 s2 b2 m2 s3 b3 m3 hk
  · rw [show mtx h l1 l2 l3 = fc (fa (hx h.rp h.id h.code h.qn h.qt) h.au) h.ct ++ rts l1 ++ rts l2 ++ rts l3 from if_pos hk]
    exact spec_good h.id h.code h.rp h.au h.ct h.wa h.ca h.qn h.qt A1 n1 c1 l1 A2 n2 c2 l2 A3 n3 c3 l3 w hq s1 b1 m1 s2 b2 m2 s3 b3 m3 hk

theorem join5 (a b c d e : ByteArray) : Lib.join ([a, b, c, d, e].map (·.data.toList)) [32] = (a ++ ⟨#[32]⟩ ++ b ++ ⟨#[32]⟩ ++ c ++ ⟨#[32]⟩ ++ d ++ ⟨#[32]⟩ ++ e).data.toList := by
  simp [Lib.join, List.intercalate]

/-- strings.Join of five words with a blank between them. -/
theorem words (W : World) (g : Nat) (a b c d e : ByteArray) (hb : Bk W g 9 [.string a, .string b, .string c, .string d, .string e]) (ha : a.size ≤ 1000) (hb' : b.size ≤ 1000) (hc : c.size ≤ 1000) (hd : d.size ≤ 1000) (he : e.size ≤ 1000) :
    Calls Tryd.prog 53 #[.slice (some ⟨g, 0, none⟩) 5 5, .string ⟨#[32]⟩] W fun x w' => x = .returned (.string (a ++ ⟨#[32]⟩ ++ b ++ ⟨#[32]⟩ ++ c ++ ⟨#[32]⟩ ++ d ++ ⟨#[32]⟩ ++ e)) ∧ Below W.heap.size W w' := by
  have hs := bk_ssw0 (l := [a, b, c, d, e]) (n := 5) hb rfl
  obtain ⟨b', off, hA, hlt, hcs⟩ := hs.2 (by omega)
  simp only [Option.some.injEq, Addr.mk.injEq, and_true] at hA
  obtain ⟨rfl, rfl⟩ := hA
  have ee : (⟨(Lib.join ([a, b, c, d, e].map (·.data.toList)) [32]).toArray⟩ : ByteArray) = a ++ ⟨#[32]⟩ ++ b ++ ⟨#[32]⟩ ++ c ++ ⟨#[32]⟩ ++ d ++ ⟨#[32]⟩ ++ e := text_ext (by rw [← join5])
  rw [← ee]
  refine Go.Proofs.Any.strings_Join Tryd.lays156 Tryd.Builder_Extra_156 g 0 5 [a, b, c, d, e] ⟨#[32]⟩ W (fun j x hx => by
    obtain ⟨hj, rfl⟩ := List.getElem?_eq_some_iff.1 hx
    exact hcs j hj) hlt (by simp) (by simp) ?_
  show (Lib.join ([a, b, c, d, e].map (·.data.toList)) [32]).length ≤ _
  rw [join5]
  have z : ∀ x : ByteArray, x.data.toList.length = x.size := fun x => by simp
  rw [z, add_size, add_size, add_size, add_size, add_size, add_size, add_size, add_size, one_size]
  omega

/-- The loop over the sections: which text stands at which number. -/
def Lp (H R1 R2 R3 : ByteArray) (s i : Value) : Prop :=
  (i = .int .i64 0 ∧ s = .string H) ∨ (i = .int .i64 1 ∧ s = .string (H ++ R1)) ∨ (i = .int .i64 2 ∧ s = .string (H ++ R1 ++ R2)) ∨ (i = .int .i64 3 ∧ s = .string (H ++ R1 ++ R2 ++ R3))
theorem kept1 {w0 w w' : World} {g : Nat} {h : Hd} {x y z : Value} (m : Mx w g h x y z ∧ Sv w0 w) (hl : Below w.heap.size w w') : Mx w' g h x y z ∧ Sv w0 w' := ⟨m.1.below hl, m.2.trans (hl.mono m.2.size)⟩
theorem kept1_draw {w0 w : World} {g : Nat} {h : Hd} {x y z : Value} (m : Mx w g h x y z ∧ Sv w0 w) : Mx w.drew g h x y z ∧ Sv w0 w.drew := kept1 m ((Below.refl _ _).drew)
theorem kept1_alloc {w0 w : World} {g : Nat} {h : Hd} {x y z : Value} (m : Mx w g h x y z ∧ Sv w0 w) (a : Obj) : Mx (w.alloc a) g h x y z ∧ Sv w0 (w.alloc a) := kept1 m ((Below.refl _ _).alloc (Nat.le_refl _) _)

set_option maxRecDepth 100000 in
set_option maxHeartbeats 16000000 in
theorem impl_good (id code : Int) (rp au ct wa ca : Bool) (qn : ByteArray) (qt : Int) (A1 : Option Addr) (n1 c1 : Nat) (l1 : List Rec) (A2 : Option Addr) (n2 c2 : Nat) (l2 : List Rec) (A3 : Option Addr) (n3 c3 : Nat) (l3 : List Rec) (w : World) (he : Env w) (ht : Tab w) (hq : qn.size ≤ 400000000) (s1 : Sr w w.heap.size A1 n1 l1) (b1 : n1 ≤ 400000000) (m1 : Mods l1) (s2 : Sr w w.heap.size A2 n2 l2) (b2 : n2 ≤ 400000000) (m2 : Mods l2) (s3 : Sr w w.heap.size A3 n3 l3) (b3 : n3 ≤ 400000000) (m3 : Mods l3) (hk : mok ⟨id, rp, au, ct, wa, ca, code, qn, qt⟩ l1 l2 l3 = true) : Calls Tryd.prog 38 #[.agg #[.int .i64 id, .bool rp, .bool au, .bool ct, .bool wa, .bool ca, .int .i64 code, .string qn, .int .i64 qt, .slice A1 n1 c1, .slice A2 n2 c2, .slice A3 n3 c3]] w fun e w' => e = .returned (.string (fc (fa (hx rp id code qn qt) au) ct ++ rts l1 ++ rts l2 ++ rts l3)) ∧ Below w.heap.size w w' := by
  have mixed : Tryd.prog.follows .mixedOrders = true := by kernel_rfl
  obtain ⟨⟨i0, i1⟩, ⟨j0, j1⟩, qz, r1, r2, r3⟩ := mok_of hk
  dsimp only at i0 i1 j0 j1 qz
  have L0 := Lib.hid ((Below.refl w.heap.size w).alloc (Nat.le_refl _) (.cells #[.int .i64 id, .bool rp, .bool au, .bool ct, .bool wa, .bool ca, .int .i64 code, .string qn, .int .i64 qt, .slice A1 n1 c1, .slice A2 n2 c2, .slice A3 n3 c3] 55))
  have X0 : Hid (Mx (w.alloc (.cells #[.int .i64 id, .bool rp, .bool au, .bool ct, .bool wa, .bool ca, .int .i64 code, .string qn, .int .i64 qt, .slice A1 n1 c1, .slice A2 n2 c2, .slice A3 n3 c3] 55)) w.heap.size ⟨id, rp, au, ct, wa, ca, code, qn, qt⟩ (.slice A1 n1 c1) (.slice A2 n2 c2) (.slice A3 n3 c3)) := mx_new w 55 ⟨id, rp, au, ct, wa, ca, code, qn, qt⟩ (.slice A1 n1 c1) (.slice A2 n2 c2) (.slice A3 n3 c3)
  have CM : Hid (∀ W : World, Below w.heap.size w W → Calls Tryd.prog 35 #[.agg #[.int .i64 id, .bool rp, .bool au, .bool ct, .bool wa, .bool ca, .int .i64 code, .string qn, .int .i64 qt, .slice A1 n1 c1, .slice A2 n2 c2, .slice A3 n3 c3]] W fun e w' => e = .returned (.bool true) ∧ Below W.heap.size W w') := fun W hW => hk ▸ OkM.impl ⟨id, rp, au, ct, wa, ca, code, qn, qt⟩ A1 n1 c1 l1 A2 n2 c2 l2 A3 n3 c3 l3 W (he.below hW) hq (s1.on hW) b1 m1 (s2.on hW) b2 m2 (s3.on hW) b3 m3
  have OF : Hid (∀ W : World, Calls Tryd.prog 71 #[.agg #[.int .i64 id, .bool rp, .bool au, .bool ct, .bool wa, .bool ca, .int .i64 code, .string qn, .int .i64 qt, .slice A1 n1 c1, .slice A2 n2 c2, .slice A3 n3 c3]] W fun e w' => e = .returned (.agg #[.int .i64 id, .bool rp, .bool au, .bool ct, .bool wa, .bool ca, .int .i64 code, .string qn, .int .i64 qt, .slice A1 n1 c1, .slice A2 n2 c2, .slice A3 n3 c3]) ∧ Below W.heap.size W w') := fun W => ofI ⟨id, rp, au, ct, wa, ca, code, qn, qt⟩ A1 A2 A3 n1 c1 n2 c2 n3 c3 W
  have WI := wf_of i0 (by omega)
  have WC := wf_of j0 (by omega)
  have NI : Hid (∀ W : World, Sv w W → Calls Tryd.prog 50 #[.int .i64 id] W fun e w' => e = .returned (.string (Txt id)) ∧ Below W.heap.size W w') := fun W hW => Num.impl id WI W (ht.below hW)
  have NC : Hid (∀ W : World, Sv w W → Calls Tryd.prog 50 #[.int .i64 code] W fun e w' => e = .returned (.string (Txt code)) ∧ Below W.heap.size W w') := fun W hW => Num.impl code WC W (ht.below hW)
  have KI := Lib.hid (kindI id code rp au ct wa ca)
  have FI := Lib.hid (flagI id code rp au ct wa ca)
  have T1 : Hid (∀ W : World, Below w.heap.size w W → Calls Tryd.prog 78 #[.slice A1 n1 c1] W fun e w' => e = .returned (.string (rts l1)) ∧ Below W.heap.size W w') := fun W hW => textsI A1 n1 c1 l1 W (he.below hW) (ht.below hW) (s1.on hW) r1
  have z1 := rts_full r1
  have T2 : Hid (∀ W : World, Below w.heap.size w W → Calls Tryd.prog 78 #[.slice A2 n2 c2] W fun e w' => e = .returned (.string (rts l2)) ∧ Below W.heap.size W w') := fun W hW => textsI A2 n2 c2 l2 W (he.below hW) (ht.below hW) (s2.on hW) r2
  have z2 := rts_full r2
  have T3 : Hid (∀ W : World, Below w.heap.size w W → Calls Tryd.prog 78 #[.slice A3 n3 c3] W fun e w' => e = .returned (.string (rts l3)) ∧ Below W.heap.size W w') := fun W hW => textsI A3 n3 c3 l3 W (he.below hW) (ht.below hW) (s3.on hW) r3
  have z3 := rts_full r3
  have zi := txt_size i0 (by omega)
  have zc := txt_size j0 (by omega)
  have zh := hx_size rp id code qn qt zi zc qz
  have HX : Hid (kd rp ++ ⟨#[32]⟩ ++ Txt id ++ ⟨#[32]⟩ ++ Txt code ++ ⟨#[32]⟩ ++ dot qn ++ ⟨#[32]⟩ ++ tt qt = hx rp id code qn qt) := by show _ = _; rw [kd_kw]; rfl
  have HFG := Lib.hid (fg_add (hx rp id code qn qt) au ct)
  have zq := dot_size qn
  have zt := tt_size qt
  have zw := kd_size rp
  have zg := fg_size au ct
  clear s1 s2 s3 m1 m2 m3 hk r1 r2 r3 i0 i1 j0 j1 WI WC he ht
  generalize rts l1 = R1 at *
  generalize rts l2 = R2 at *
  generalize rts l3 = R3 at *
  generalize kd rp = KD at *
  generalize fg au ct = FG at *
  generalize Txt id = TI at *
  generalize Txt code = TC at *
  generalize hx rp id code qn qt = H at *
  go_enter Tryd.func38, Tryd.ntmps38
  go_wp2_with fail
  refine (CM.out _ L0.out).mono ?_
  rintro e w1 ⟨rfl, hl⟩
  have L1 := Lib.hid (L0.out.trans (hl.mono L0.out.size))
  have X1 := Lib.hid (X0.out.below hl)
  clear hl L0 X0
  obtain ⟨x0, x1, x2, x3, x4, x5, x6, x7, x8, x9, x10, x11⟩ := X1.out
  go_wp2_with fail
  refine (OF.out w1).mono ?_
  rintro e w2 ⟨rfl, hl⟩
  have L2' := L1.out.trans (hl.mono L1.out.size)
  have L2 := Lib.hid (L2'.alloc L2'.size (.cells #[.int .i64 id, .bool rp, .bool au, .bool ct, .bool wa, .bool ca, .int .i64 code, .string qn, .int .i64 qt, .slice A1 n1 c1, .slice A2 n2 c2, .slice A3 n3 c3] 84))
  have X2 : Hid (Mx (w2.alloc (.cells #[.int .i64 id, .bool rp, .bool au, .bool ct, .bool wa, .bool ca, .int .i64 code, .string qn, .int .i64 qt, .slice A1 n1 c1, .slice A2 n2 c2, .slice A3 n3 c3] 84)) w2.heap.size ⟨id, rp, au, ct, wa, ca, code, qn, qt⟩ (.slice A1 n1 c1) (.slice A2 n2 c2) (.slice A3 n3 c3)) := mx_new w2 84 ⟨id, rp, au, ct, wa, ca, code, qn, qt⟩ (.slice A1 n1 c1) (.slice A2 n2 c2) (.slice A3 n3 c3)
  clear hl L1 X1 L2' x0 x1 x2 x3 x4 x5 x6 x7 x8 x9 x10 x11
  go_wp2_with fail
  generalize w2.alloc (.cells #[.int .i64 id, .bool rp, .bool au, .bool ct, .bool wa, .bool ca, .int .i64 code, .string qn, .int .i64 qt, .slice A1 n1 c1, .slice A2 n2 c2, .slice A3 n3 c3] 84) = w3 at *
  generalize w2.heap.size = gm at *
  have S0 : (w3.cell? ⟨gm, 0, none⟩ = some (.int .i64 id) ∧ w3.cell? ⟨gm, 1, none⟩ = some (.bool rp) ∧ w3.cell? ⟨gm, 2, none⟩ = some (.bool au) ∧ w3.cell? ⟨gm, 3, none⟩ = some (.bool ct) ∧ w3.cell? ⟨gm, 4, none⟩ = some (.bool wa) ∧ w3.cell? ⟨gm, 5, none⟩ = some (.bool ca) ∧ w3.cell? ⟨gm, 6, none⟩ = some (.int .i64 code) ∧ w3.cell? ⟨gm, 7, none⟩ = some (.string qn) ∧ w3.cell? ⟨gm, 8, none⟩ = some (.int .i64 qt) ∧ w3.cell? ⟨gm, 9, none⟩ = some (.slice A1 n1 c1) ∧ w3.cell? ⟨gm, 10, none⟩ = some (.slice A2 n2 c2) ∧ w3.cell? ⟨gm, 11, none⟩ = some (.slice A3 n3 c3)) ∧ Sv w w3 := ⟨X2.out, L2.out⟩
  go_region_held3 (fun w' => (w'.cell? ⟨gm, 0, none⟩ = some (.int .i64 id) ∧ w'.cell? ⟨gm, 1, none⟩ = some (.bool rp) ∧ w'.cell? ⟨gm, 2, none⟩ = some (.bool au) ∧ w'.cell? ⟨gm, 3, none⟩ = some (.bool ct) ∧ w'.cell? ⟨gm, 4, none⟩ = some (.bool wa) ∧ w'.cell? ⟨gm, 5, none⟩ = some (.bool ca) ∧ w'.cell? ⟨gm, 6, none⟩ = some (.int .i64 code) ∧ w'.cell? ⟨gm, 7, none⟩ = some (.string qn) ∧ w'.cell? ⟨gm, 8, none⟩ = some (.int .i64 qt) ∧ w'.cell? ⟨gm, 9, none⟩ = some (.slice A1 n1 c1) ∧ w'.cell? ⟨gm, 10, none⟩ = some (.slice A2 n2 c2) ∧ w'.cell? ⟨gm, 11, none⟩ = some (.slice A3 n3 c3)) ∧ Sv w w')
    (first | with_reducible exact S0 | with_reducible assumption | exact kept1 (h := ⟨id, rp, au, ct, wa, ca, code, qn, qt⟩) (x := .slice A1 n1 c1) (y := .slice A2 n2 c2) (z := .slice A3 n3 c3) (by assumption) hl | exact kept1_alloc (h := ⟨id, rp, au, ct, wa, ca, code, qn, qt⟩) (x := .slice A1 n1 c1) (y := .slice A2 n2 c2) (z := .slice A3 n3 c3) (by assumption) _ | exact kept1_draw (h := ⟨id, rp, au, ct, wa, ca, code, qn, qt⟩) (x := .slice A1 n1 c1) (y := .slice A2 n2 c2) (z := .slice A3 n3 c3) (by assumption) | fail)
    (first
      | (go_at_call 76; (with_reducible refine (KI.out _).mono ?_); rintro e w10 ⟨rfl, hl⟩)
      | (go_at_call 50; (with_reducible refine (NI.out _ (And.right (by assumption))).mono ?_); rintro e w11 ⟨rfl, hl⟩)
      | (go_at_call 50; (with_reducible refine (NC.out _ (And.right (by assumption))).mono ?_); rintro e w12 ⟨rfl, hl⟩)
      | (go_at_call 49; (with_reducible refine (dot_impl qn _).mono ?_); rintro e w13 ⟨rfl, rfl⟩)
      | (go_at_call 51; (with_reducible refine (impl_text qt _).mono ?_); rintro e w14 ⟨rfl, rfl⟩)
      | fail)
  rename_i hH
  have X4 : Hid (Mx (w12.alloc (.cells #[.string KD, .string TI, .string TC, .string (dot qn), .string (tt qt)] 9)) gm ⟨id, rp, au, ct, wa, ca, code, qn, qt⟩ (.slice A1 n1 c1) (.slice A2 n2 c2) (.slice A3 n3 c3)) := hH.1
  have L4 : Hid (Below w.heap.size w (w12.alloc (.cells #[.string KD, .string TI, .string TC, .string (dot qn), .string (tt qt)] 9))) := hH.2
  have B4 := Lib.hid (show Bk (w12.alloc (.cells #[.string KD, .string TI, .string TC, .string (dot qn), .string (tt qt)] 9)) w12.heap.size 9 [.string KD, .string TI, .string TC, .string (dot qn), .string (tt qt)] from heap_alloc_new _ _)
  clear hH S0 X2 L2 hl
  generalize w12.alloc (.cells #[.string KD, .string TI, .string TC, .string (dot qn), .string (tt qt)] 9) = w5 at *
  generalize w12.heap.size = gw at *
  have WD : Hid (∀ W : World, Below w5.heap.size w5 W → Calls Tryd.prog 53 #[.slice (some ⟨gw, 0, none⟩) 5 5, .string ⟨#[32]⟩] W fun e w' => e = .returned (.string H) ∧ Below W.heap.size W w') := fun W hW => HX.out ▸ words W gw KD TI TC (dot qn) (tt qt) (B4.out.below hW B4.out.lt) (by omega) (by omega) (by omega) (by omega) (by omega)
  have c1 := cat H FG (by omega) (by omega)
  go_wp2
  have x0 : ∀ d os, (Sort.grow (redrawn w5 d) os).cell? _ = some _ := fun d os => (X4.out.drawn d os).1
  have x1 : ∀ d os, (Sort.grow (redrawn w5 d) os).cell? _ = some _ := fun d os => (X4.out.drawn d os).2.1
  have x2 : ∀ d os, (Sort.grow (redrawn w5 d) os).cell? _ = some _ := fun d os => (X4.out.drawn d os).2.2.1
  have x3 : ∀ d os, (Sort.grow (redrawn w5 d) os).cell? _ = some _ := fun d os => (X4.out.drawn d os).2.2.2.1
  have x4 : ∀ d os, (Sort.grow (redrawn w5 d) os).cell? _ = some _ := fun d os => (X4.out.drawn d os).2.2.2.2.1
  have x5 : ∀ d os, (Sort.grow (redrawn w5 d) os).cell? _ = some _ := fun d os => (X4.out.drawn d os).2.2.2.2.2.1
  have x6 : ∀ d os, (Sort.grow (redrawn w5 d) os).cell? _ = some _ := fun d os => (X4.out.drawn d os).2.2.2.2.2.2.1
  have x7 : ∀ d os, (Sort.grow (redrawn w5 d) os).cell? _ = some _ := fun d os => (X4.out.drawn d os).2.2.2.2.2.2.2.1
  have x8 : ∀ d os, (Sort.grow (redrawn w5 d) os).cell? _ = some _ := fun d os => (X4.out.drawn d os).2.2.2.2.2.2.2.2.1
  have x9 : ∀ d os, (Sort.grow (redrawn w5 d) os).cell? _ = some _ := fun d os => (X4.out.drawn d os).2.2.2.2.2.2.2.2.2.1
  have x10 : ∀ d os, (Sort.grow (redrawn w5 d) os).cell? _ = some _ := fun d os => (X4.out.drawn d os).2.2.2.2.2.2.2.2.2.2.1
  have x11 : ∀ d os, (Sort.grow (redrawn w5 d) os).cell? _ = some _ := fun d os => (X4.out.drawn d os).2.2.2.2.2.2.2.2.2.2.2
  refine wp_region_quiet_below (by assumption) (by kernel_rfl) ?_
  repeat (quiet_step (first | (go_at_call 53; with_reducible exact in_class (fun W hW => WD.out W hW)) | (go_at_call 77; with_reducible exact in_class (fun W _ => FI.out W))))
  refine wpQuiet_nil ?_
  intro w6 hw6
  have hl := of_class hw6
  have L6 := Lib.hid (L4.out.trans (hl.mono L4.out.size))
  have X6 := Lib.hid (X4.out.below hl)
  clear hl hw6 L4 X4 B4 c1 WD x0 x1 x2 x3 x4 x5 x6 x7 x8 x9 x10 x11
  have hz := add_size H FG
  generalize H ++ FG = F at *
  have fz : F.size ≤ 209 := by omega
  have f1 := add_size F R1
  have f2 := add_size (F ++ R1) R2
  have k1 := cat F R1 (by omega) (by omega)
  have k2 := cat (F ++ R1) R2 (by omega) (by omega)
  have k3 := cat (F ++ R1 ++ R2) R3 (by omega) (by omega)
  clear f1 f2 hz
  obtain ⟨x0, x1, x2, x3, x4, x5, x6, x7, x8, x9, x10, x11⟩ := X6.out
  go_wp2
  clear x0 x1 x2 x3 x4 x5 x6 x7 x8 x9 x10 x11 X6
  go_loopw [5, 41] (fun s i wr => Lp F R1 R2 R3 s i ∧ Hid (Below w.heap.size w wr)) (fun _ i _ => 3 - (intOf i).toNat)
  case atStart => exact ⟨Or.inl ⟨rfl, rfl⟩, L6.out⟩
  case round =>
    clear L6
    obtain ⟨HK, HL⟩ := hrel
    have ix0 := at0 A1 A2 A3 n1 c1 n2 c2 n3 c3
    have ix1 := at1' A1 A2 A3 n1 c1 n2 c2 n3 c3
    have ix2 := at2' A1 A2 A3 n1 c1 n2 c2 n3 c3
    rcases HK with ⟨rfl, rfl⟩ | ⟨rfl, rfl⟩ | ⟨rfl, rfl⟩ | ⟨rfl, rfl⟩
    · go_wp2_with fail
      refine (T1.out wr HL.out).mono ?_
      rintro e w7 ⟨rfl, hl⟩
      have L7 := Lib.hid (HL.out.trans (hl.mono HL.out.size))
      clear hl HL
      go_wp2
      go_roundw
      case rel => exact ⟨Or.inr (Or.inl ⟨by first | rfl | go_num, rfl⟩), L7.out⟩
      case measure => simp [intOf]
    · go_wp2_with fail
      refine (T2.out wr HL.out).mono ?_
      rintro e w7 ⟨rfl, hl⟩
      have L7 := Lib.hid (HL.out.trans (hl.mono HL.out.size))
      clear hl HL
      go_wp2
      go_roundw
      case rel => exact ⟨Or.inr (Or.inr (Or.inl ⟨by first | rfl | go_num, rfl⟩)), L7.out⟩
      case measure => simp [intOf]
    · go_wp2_with fail
      refine (T3.out wr HL.out).mono ?_
      rintro e w7 ⟨rfl, hl⟩
      have L7 := Lib.hid (HL.out.trans (hl.mono HL.out.size))
      clear hl HL
      go_wp2
      go_roundw
      case rel => exact ⟨Or.inr (Or.inr (Or.inr ⟨by first | rfl | go_num, rfl⟩)), L7.out⟩
      case measure => simp [intOf]
    · go_wp2
      go_ret
      exact ⟨by rw [← HFG.out]; rfl, HL.out⟩

theorem impl (h : Hd) (A1 : Option Addr) (n1 c1 : Nat) (l1 : List Rec) (A2 : Option Addr) (n2 c2 : Nat) (l2 : List Rec) (A3 : Option Addr) (n3 c3 : Nat) (l3 : List Rec) (w : World) (he : Env w) (ht : Tab w) (hq : h.qn.size ≤ 400000000) (s1 : Sr w w.heap.size A1 n1 l1) (b1 : n1 ≤ 400000000) (m1 : Mods l1) (s2 : Sr w w.heap.size A2 n2 l2) (b2 : n2 ≤ 400000000) (m2 : Mods l2) (s3 : Sr w w.heap.size A3 n3 l3) (b3 : n3 ≤ 400000000) (m3 : Mods l3) : Calls Tryd.prog 38 #[.agg #[.int .i64 h.id, .bool h.rp, .bool h.au, .bool h.ct, .bool h.wa, .bool h.ca, .int .i64 h.code, .string h.qn, .int .i64 h.qt, .slice A1 n1 c1, .slice A2 n2 c2, .slice A3 n3 c3]] w fun e w' => e = .returned (.string (mtx h l1 l2 l3)) ∧ Below w.heap.size w w' := by
  cases hk : mok h l1 l2 l3
  · rw [show mtx h l1 l2 l3 = ⟨#[]⟩ from if_neg (by rw [hk]; simp)]
    exact impl_bad h.id h.code h.rp h.au h.ct h.wa h.ca h.qn h.qt A1 n1 c1 l1 A2 n2 c2 l2 A3 n3 c3 l3 w he ht hq s1 b1 m1 s2 b2 m2 s3 b3 m3 hk
  · rw [show mtx h l1 l2 l3 = fc (fa (hx h.rp h.id h.code h.qn h.qt) h.au) h.ct ++ rts l1 ++ rts l2 ++ rts l3 from if_pos hk]
    exact impl_good h.id h.code h.rp h.au h.ct h.wa h.ca h.qn h.qt A1 n1 c1 l1 A2 n2 c2 l2 A3 n3 c3 l3 w he ht hq s1 b1 m1 s2 b2 m2 s3 b3 m3 hk

end Go.Proofs.YtbjhkhmhmldjoaaDoor.TxtM
