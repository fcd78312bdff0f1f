/- On every slice of bytes the law FnFields returns true: a record is read back out of its encoding, where the listed tables of the library read as their text lays them (the card ties that to the program's text). -/
import Derived.Test.YtcpadkehalgddaaGreatDoorFieldsP2
import Derived.Test.YtcpadkehalgddaaGreatDoorPutSpec
import Derived.Test.YtcpadkehalgddaaGreatDoorFieldMath
import Derived.Test.YtcpadkehalgddaaGreatDoorMem
import Derived.Deep.QuietTactic
import Derived.BigQuiet
import Derived.Test.YtcpadkehalgddaaGreatDoorMemR
import Derived.Laws.StructEq
import Derived.Test.YtcpadkehalgddaaGreatDoorFieldsP1
import Derived.Test.YtcpadkehalgddaaGreatDoorLabels
import Derived.LaidLaws
import Derived.Test.YtcpadkehalgddaaGreatDoorCards
import Derived.Test.YtcpadkehalgddaaGreatDoorTie
import Derived.ProofKit
import Derived.OpenShut
import Derived.ShutString
import Derived.ChangeOld
import Derived.Below
import Derived.Deep.DeepHandedRow
/- Plain mathematics: a name is read back out of its encoding, with and without pointers. -/
namespace Go.Proofs.YtcpadkehalgddaaGreatDoor.WireBack
open Go.Proofs.YtcpadkehalgddaaGreatDoor.Mem Go.Proofs.YtcpadkehalgddaaGreatDoor.MemS Go.Proofs.YtcpadkehalgddaaGreatDoor.JoinSpec Go.Proofs.YtcpadkehalgddaaGreatDoor.Split Go.Proofs.YtcpadkehalgddaaGreatDoor.JoinLab Go.Proofs.YtcpadkehalgddaaGreatDoor.Label Go.Proofs.YtcpadkehalgddaaGreatDoor.Fold Go.Proofs.YtcpadkehalgddaaGreatDoor.GetLabel Go.Proofs.YtcpadkehalgddaaGreatDoor.PutLabel Go.Proofs.YtcpadkehalgddaaGreatDoor.NameOk Go.Proofs.YtcpadkehalgddaaGreatDoor.Plain Go.Proofs.YtcpadkehalgddaaGreatDoor.Place Go.Proofs.YtcpadkehalgddaaGreatDoor.Put Go.Proofs.YtcpadkehalgddaaGreatDoor.PutSpec Go.Proofs.YtcpadkehalgddaaGreatDoor.WireMath Go.Proofs.YtcpadkehalgddaaGreatDoor.WireGood

theorem fo_ok {x : UInt8} (h : okB x = true) : fo x = x := by
  unfold okB okC at h
  have h := of_decide_eq_true h
  unfold fo
  rw [if_neg (by omega)]
theorem Fo_ok {p : ByteArray} (h : lok p.data.toList = true) : Fo p = p := by
  apply text_ext
  rw [Fo_list]
  rw [lok, Bool.and_eq_true] at h
  have h2 := List.all_eq_true.1 h.2
  conv => rhs; rw [← List.map_id p.data.toList]
  exact List.map_congr_left fun x hx => fo_ok (h2 x hx)
theorem tailL_ok {p : ByteArray} (h : lok p.data.toList = true) : tailL p = one p.size ++ p.data.toList := by rw [tailL, h]; rfl
theorem tailL_two {p : ByteArray} (h : lok p.data.toList = true) : (tailL p).length = 1 + p.size ∧ 1 ≤ p.size ∧ p.size ≤ 12 := by
  have h1 := PutLabel.lok_len h
  have hz : p.data.toList.length = p.size := by simp
  rw [tailL_ok h, List.length_append, one_len, hz]
  omega
theorem get_mid (P Q R : List UInt8) (i : Nat) (h : i < Q.length) : (P ++ Q ++ R).getD (P.length + i) 0 = Q[i] := by
  rw [List.getD_eq_getElem?_getD, List.append_assoc, List.getElem?_append_right (by omega), Nat.add_sub_cancel_left, List.getElem?_append_left h, List.getElem?_eq_getElem h]
  rfl
theorem bt_mid (P Q R : List UInt8) (i : Nat) (h : i < Q.length) : bt (P ++ Q ++ R) ((P.length : Int) + (i : Int)) = (Q[i].toNat : Int) := by
  unfold bt
  rw [show ((P.length : Int) + (i : Int)).toNat = P.length + i by omega, get_mid P Q R i h]
/-- A label stands where its encoding stands. -/
theorem has_here (P R : List UInt8) (p : ByteArray) (h : lok p.data.toList = true) : has (P ++ tailL p ++ R) (P.length : Int) = some (p, P.length + (tailL p).length) := by
  obtain ⟨hl, h1, h2⟩ := tailL_two h
  have hz : p.data.toList.length = p.size := by simp
  have hlt : P.length < (P ++ tailL p ++ R).length := by rw [List.length_append, List.length_append]; omega
  have hb : (P ++ tailL p ++ R)[P.length].toNat = p.size := by
    have e : (P ++ tailL p ++ R)[P.length] = UInt8.ofNat p.size := by
      rw [List.getElem_append_left (by rw [List.length_append]; omega), List.getElem_append_right (Nat.le_refl _)]
      simp only [tailL_ok h, Nat.sub_self]
      rfl
    rw [e, UInt8.toNat_ofNat_of_lt' (by simp [UInt8.size]; omega)]
  have hp : piece (P ++ tailL p ++ R) P.length p.size = p := by
    apply text_ext
    rw [piece_list, tailL_ok h]
    have e : P ++ (one p.size ++ p.data.toList) ++ R = (P ++ one p.size) ++ (p.data.toList ++ R) := by simp [List.append_assoc]
    have e2 : P.length + 1 = (P ++ one p.size).length := by rw [List.length_append, one_len]
    rw [e, e2, List.drop_left, List.take_left' hz]
  rw [has_in _ _ hlt, hb, hp, Fo_ok h, if_pos ⟨by rw [List.length_append, List.length_append]; omega, h⟩, hl]
  congr 2
  omega

/-- The names that a valid name begins with are valid. -/
theorem jo_grow (L : List ByteArray) : ∀ k, k < L.length → (jo (L.take k)).length ≤ (jo (L.take (k + 1))).length := fun k h => by
  by_cases h0 : 0 < k
  · rw [jo_step L k h0 h, List.length_append, List.length_append]
    omega
  · obtain rfl : k = 0 := by omega
    simp [jo, Lib.join_nil]
theorem jo_upto (L : List ByteArray) (k : Nat) : ∀ d, k + d ≤ L.length → (jo (L.take k)).length ≤ (jo (L.take (k + d))).length
  | 0, _ => Nat.le_refl _
  | d + 1, h => by
    have h1 := jo_upto L k d (by omega)
    have h2 := jo_grow L (k + d) (by omega)
    rw [show k + (d + 1) = k + d + 1 by omega]
    omega
theorem okL_take {L : List ByteArray} (h : okL L = true) (k : Nat) : okL (L.take k) = true := by
  rw [okL, List.all_eq_true] at h ⊢
  exact fun x hx => h x (List.mem_of_mem_take hx)
theorem nm_of {L : List ByteArray} (h : okL L = true) : Nm (Jo L) = (decide ((Jo L).size ≤ 50) && decide (L.length ≤ 6)) := by
  rw [Nm, lab_ok h, h]
  rfl
theorem nm_take {L : List ByteArray} (h : okL L = true) (hn : Nm (Jo L) = true) (k : Nat) : Nm (Jo (L.take k)) = true := by
  by_cases hk : k ≤ L.length
  · rw [nm_of h, Bool.and_eq_true] at hn
    rw [nm_of (okL_take h k), Bool.and_eq_true]
    have h1 := of_decide_eq_true hn.1
    have h2 := of_decide_eq_true hn.2
    have h3 := jo_upto L k (L.length - k) (by omega)
    rw [show k + (L.length - k) = L.length by omega, List.take_length] at h3
    rw [Jo_size] at h1
    refine ⟨decide_eq_true (by rw [Jo_size]; omega), decide_eq_true (by rw [List.length_take]; omega)⟩
  · rw [List.take_of_length_le (by omega)]
    exact hn
theorem nm_pre {T D : List ByteArray} (h : okL D = true) (hn : Nm (Jo D) = true) (hp : T <+: D) : Nm (Jo T) = true := by
  obtain ⟨r, rfl⟩ := hp
  have := nm_take h hn T.length
  rwa [List.take_left] at this

/-- Labels that stand one behind another are read one after another. -/
theorem rn_tls (P : List UInt8) (m : Int) (j : Nat) (x : Int) (R : List UInt8) : ∀ (T L0 : List ByteArray) (Q : List UInt8), okL (L0 ++ T) = true → Nm (Jo (L0 ++ T)) = true →
    rn (P ++ Q ++ tls T ++ R) L0 ((P ++ Q).length : Int) m j x = rn (P ++ Q ++ tls T ++ R) (L0 ++ T) ((P ++ Q ++ tls T).length : Int) m j x
  | [], L0, Q, _, _ => by simp [tls_nil]
  | p :: T, L0, Q, hok, hnm => by
    have hp : lok p.data.toList = true := okL_mem hok p (by simp)
    obtain ⟨hl, h1, h2⟩ := tailL_two hp
    have e : P ++ Q ++ tls (p :: T) ++ R = P ++ Q ++ tailL p ++ (tls T ++ R) := by rw [tls_cons]; simp [List.append_assoc]
    have hh := has_here (P ++ Q) (tls T ++ R) p hp
    rw [← e] at hh
    have hb := has_bt hh
    have hs := has_some hh
    have ih := rn_tls P m j x R T (L0 ++ [p]) (Q ++ tailL p) (by rw [List.append_assoc]; exact hok) (by rw [List.append_assoc]; exact hnm)
    have e2 : P ++ (Q ++ tailL p) ++ tls T ++ R = P ++ Q ++ tls (p :: T) ++ R := by rw [tls_cons]; simp [List.append_assoc]
    have e3 : P ++ (Q ++ tailL p) ++ tls T = P ++ Q ++ tls (p :: T) := by rw [tls_cons]; simp [List.append_assoc]
    have e4 : ((P ++ (Q ++ tailL p)).length : Int) = (((P ++ Q).length + (tailL p).length : Nat) : Int) := by rw [← List.append_assoc, List.length_append]
    have e5 : L0 ++ [p] ++ T = L0 ++ p :: T := by simp
    rw [e2, e3, e4, e5] at ih
    rw [← ih]
    refine rn_label ?_ hb.1 (by omega) hh ?_
    · omega
    · exact nm_pre hok hnm ⟨T, by simp⟩

/-- The end of a name. -/
theorem rn_stop (P R : List UInt8) (L : List ByteArray) (m : Int) (j : Nat) (x : Int) : rn (P ++ zer ++ R) L (P.length : Int) m j x = (0, L, if x < 0 then (P.length : Int) + 1 else x, j) := by
  have hb : bt (P ++ zer ++ R) (P.length : Int) = 0 := by
    have h1 := bt_mid P zer R 0 (by simp [zer, one_len])
    have h2 : (zer[0]'(by simp [zer, one_len])).toNat = 0 := rfl
    rw [h2] at h1
    simpa using h1
  refine rn_zero ?_ hb
  rw [List.length_append, List.length_append, zer, one_len]
  omega

/-- Out of the plain encoding. -/
theorem back_plain (l : List UInt8) (s : ByteArray) (h : Nm s = true) : rn (l ++ tailP s) [] (l.length : Int) (l.length : Int) 0 (-1) = (0, Lab s, ((l ++ tailP s).length : Int), 0) := by
  have hok := (nm_parts h).2.2
  have e : l ++ tailP s = l ++ [] ++ tls (Lab s) ++ zer := by rw [tailP, if_pos h]; simp [List.append_assoc]
  have h1 := rn_tls l (l.length : Int) 0 (-1) zer (Lab s) [] [] (by simpa using hok) (by rw [List.nil_append, jo_lab]; exact h)
  rw [← e, List.append_nil, List.nil_append] at h1
  rw [h1]
  have h2 := rn_stop (l ++ tls (Lab s)) [] (Lab s) (l.length : Int) 0 (-1)
  have e2 : l ++ tls (Lab s) ++ zer ++ [] = l ++ tailP s := by rw [e]; simp
  rw [e2] at h2
  rw [h2, if_pos (by omega), e]
  have e3 : ((l ++ [] ++ tls (Lab s) ++ zer).length : Int) = ((l ++ tls (Lab s)).length : Int) + 1 := by simp [zer, one_len]; omega
  rw [e3]

/-- More fuel changes no name that was read. -/
theorem go_more (l : List UInt8) (D : List ByteArray) (y : Int) (i : Nat) : ∀ f g L k m j x, go l f L k m j x = (0, D, y, i) → f ≤ g → go l g L k m j x = (0, D, y, i)
  | 0, _, _, _, _, _, _, h, _ => by simp [go] at h
  | _ + 1, 0, _, _, _, _, _, _, h => absurd h (by omega)
  | f + 1, g + 1, L, k, m, j, x, h, hfg => by
    unfold go at h ⊢
    split at h
    · simp at h
    · rename_i hk
      rw [if_neg hk]
      split at h
      · rename_i h0
        rw [if_pos h0]
        exact h
      · rename_i h0
        rw [if_neg h0]
        split at h
        · rename_i h192
          rw [if_pos h192]
          split at h
          · simp at h
          · rename_i h1
            rw [if_neg h1]
            split at h
            · simp at h
            · rename_i h2
              rw [if_neg h2]
              exact go_more l D y i f g _ _ _ _ _ h (by omega)
        · rename_i h192
          rw [if_neg h192]
          cases hh : has l k with
          | none =>
            rw [hh] at h
            simp only [Prod.mk.injEq] at h
            have := h.1
            split at this <;> omega
          | some q =>
            obtain ⟨p, e⟩ := q
            rw [hh] at h
            dsimp only at h ⊢
            split at h
            · rename_i h3
              rw [if_pos h3]
              exact go_more l D y i f g _ _ _ _ _ h (by omega)
            · simp at h
/-- What has been read stays at the head of what is read. -/
theorem go_ext (l : List UInt8) (D : List ByteArray) (y : Int) (i : Nat) : ∀ f L k m j x, go l f L k m j x = (0, D, y, i) → L <+: D
  | 0, _, _, _, _, _, h => by simp [go] at h
  | f + 1, L, k, m, j, x, h => by
    unfold go at h
    split at h
    · simp at h
    · split at h
      · simp only [Prod.mk.injEq, true_and] at h
        exact h.1 ▸ List.prefix_refl _
      · split at h
        · split at h
          · simp at h
          · split at h
            · simp at h
            · exact go_ext l D y i f _ _ _ _ _ h
        · cases hh : has l k with
          | none =>
            rw [hh] at h
            simp only [Prod.mk.injEq] at h
            have := h.1
            split at this <;> omega
          | some q =>
            obtain ⟨p, e⟩ := q
            rw [hh] at h
            dsimp only at h
            split at h
            · exact (List.prefix_append L [p]).trans (go_ext l D y i f _ _ _ _ _ h)
            · simp at h
theorem bt_left (l R : List UInt8) (k : Int) (h0 : 0 ≤ k) (h : k < (l.length : Int)) : bt (l ++ R) k = bt l k := by
  unfold bt
  rw [List.getD_eq_getElem?_getD, List.getD_eq_getElem?_getD, List.getElem?_append_left (by omega)]
theorem has_left {l : List UInt8} (R : List UInt8) {k : Int} {p : ByteArray} {e : Nat} (h : has l k = some (p, e)) : has (l ++ R) k = some (p, e) := by
  have hs := has_some h
  obtain ⟨k', rfl⟩ := Int.eq_ofNat_of_zero_le hs.1
  have hkl : k' < l.length := by omega
  have hkl2 : k' < (l ++ R).length := by rw [List.length_append]; omega
  have hg : (l ++ R)[k'] = l[k'] := List.getElem_append_left hkl
  rw [has_in l k' hkl] at h
  split at h
  · rename_i hh
    have hp : piece (l ++ R) k' l[k'].toNat = piece l k' l[k'].toNat := by
      apply text_ext
      rw [piece_list, piece_list, List.drop_append_of_le_length (by omega), List.take_append_of_le_length (by rw [List.length_drop]; omega)]
    rw [has_in _ k' hkl2, hg, hp, if_pos ⟨by rw [List.length_append]; omega, hh.2⟩]
    exact h
  · cases h
/-- A name that is read is read behind other labels and with more bytes behind, too. -/
theorem go_left (l R : List UInt8) (T D : List ByteArray) (y : Int) (i : Nat) (hok : okL (T ++ D) = true) (hnm : Nm (Jo (T ++ D)) = true) : ∀ f L k m j x, go l f L k m j x = (0, D, y, i) → ∀ j' x', 0 ≤ x' →
    ∃ i', go (l ++ R) f (T ++ L) k m j' x' = (0, T ++ D, x', i')
  | 0, _, _, _, _, _, h, _, _, _ => by simp [go] at h
  | f + 1, L, k, m, j, x, h, j', x', hx => by
    have hext := go_ext l D y i (f + 1) L k m j x h
    unfold go at h ⊢
    split at h
    · simp at h
    · rename_i hk
      have hb := bt_left l R k (by omega) (by omega)
      rw [if_neg (by rw [List.length_append]; omega), hb]
      split at h
      · rename_i h0
        rw [if_pos h0]
        simp only [Prod.mk.injEq, true_and] at h
        exact ⟨j', by rw [h.1, if_neg (by omega)]⟩
      · rename_i h0
        rw [if_neg h0]
        split at h
        · rename_i h192
          rw [if_pos h192]
          split at h
          · simp at h
          · rename_i h1
            have ht : tg (l ++ R) k = tg l k := by unfold tg; rw [hb, bt_left l R (k + 1) (by omega) (by omega)]
            rw [if_neg (by rw [List.length_append]; omega), ht]
            split at h
            · simp at h
            · rename_i h2
              rw [if_neg h2, if_neg (by omega)]
              exact go_left l R T D y i hok hnm f _ _ _ _ _ h _ _ hx
        · rename_i h192
          rw [if_neg h192]
          cases hh : has l k with
          | none =>
            rw [hh] at h
            simp only [Prod.mk.injEq] at h
            have := h.1
            split at this <;> omega
          | some q =>
            obtain ⟨p, e⟩ := q
            rw [hh] at h
            rw [has_left R hh]
            dsimp only at h ⊢
            split at h
            · have hx2 := go_ext l D y i f _ _ _ _ _ h
              have hpre : T ++ L ++ [p] <+: T ++ D := by
                rw [List.append_assoc]
                exact (List.prefix_append_right_inj T).2 hx2
              rw [if_pos (nm_pre hok hnm hpre), List.append_assoc]
              exact go_left l R T D y i hok hnm f _ _ _ _ _ h _ _ hx
            · simp at h
theorem mu_more (l R : List UInt8) (k m : Int) : mu l k m ≤ mu (l ++ R) k m := by
  unfold mu
  rw [List.length_append]
  have h : m.toNat * (l.length + 1) ≤ m.toNat * (l.length + R.length + 1) := Nat.mul_le_mul_left _ (by omega)
  omega
theorem rn_left {l : List UInt8} (R : List UInt8) {T D : List ByteArray} {k m x y : Int} {j i : Nat} (h : rn l [] k m j x = (0, D, y, i)) (hok : okL (T ++ D) = true) (hnm : Nm (Jo (T ++ D)) = true) (j' : Nat) (x' : Int) (hx : 0 ≤ x') :
    ∃ i', rn (l ++ R) T k m j' x' = (0, T ++ D, x', i') := by
  unfold rn at h ⊢
  obtain ⟨i', h1⟩ := go_left l R T D y i hok hnm _ _ _ _ _ _ h j' x' hx
  rw [List.append_nil] at h1
  exact ⟨i', go_more _ _ _ _ _ _ _ _ _ _ _ h1 (by have := mu_more l R k m; omega)⟩

/-- How PutName's tail is built. -/
theorem pn_split (l : List UInt8) : ∀ L : List ByteArray, pn l L = tls L ++ zer ∨ ∃ (k q : Nat), k < L.length ∧ q < l.length ∧ q ≤ 16383 ∧ hit l (Jo (L.drop k)) q = true ∧ pn l L = tls (L.take k) ++ ptr (q : Int)
  | [] => Or.inl (by rw [pn, tls_nil]; rfl)
  | p :: r => by
    rw [pn]
    split
    · rename_i h
      obtain ⟨q, hq, h1, h2, h3⟩ := pl_some h
      exact Or.inr ⟨0, q, by simp, h1, h2, h3, by rw [hq]; simp [tls_nil]⟩
    · rcases pn_split l r with h | ⟨k, q, hk, h1, h2, h3, h4⟩
      · exact Or.inl (by rw [h, tls_cons, List.append_assoc])
      · exact Or.inr ⟨k + 1, q, by simpa using hk, h1, h2, by simpa using h3, by rw [h4, List.take_succ_cons, tls_cons, List.append_assoc]⟩
theorem ptr_bytes (q : Nat) (h : q ≤ 16383) : ((ptr (q : Int))[0]'(by rw [ptr_len]; omega)).toNat = 192 + q / 256 ∧ ((ptr (q : Int))[1]'(by rw [ptr_len]; omega)).toNat = q % 256 := by
  have e1 : ((49152 + (q : Int)) / 256).toNat = 192 + q / 256 := by omega
  have e2 : ((49152 + (q : Int)) % 256).toNat = q % 256 := by omega
  constructor
  · show (UInt8.ofNat ((49152 + (q : Int)) / 256).toNat).toNat = _
    rw [e1, UInt8.toNat_ofNat_of_lt' (by simp [UInt8.size]; omega)]
  · show (UInt8.ofNat ((49152 + (q : Int)) % 256).toNat).toNat = _
    rw [e2, UInt8.toNat_ofNat_of_lt' (by simp [UInt8.size]; omega)]

/-- Out of the encoding with pointers. -/
theorem back_name (l : List UInt8) (s : ByteArray) (h : Nm s = true) : ∃ i, rn (l ++ tailN l s) [] (l.length : Int) (l.length : Int) 0 (-1) = (0, Lab s, ((l ++ tailN l s).length : Int), i) := by
  obtain ⟨_, _, hok⟩ := nm_parts h
  have hnm : Nm (Jo (Lab s)) = true := by rw [jo_lab]; exact h
  have e0 : tailN l s = pn l (Lab s) := by rw [tailN, if_pos h]
  rcases pn_split l (Lab s) with e | ⟨k, q, hk, hq1, hq2, hh, e⟩
  · have e1 : tailN l s = tailP s := by rw [e0, e, tailP, if_pos h]
    rw [e1]
    exact ⟨0, back_plain l s h⟩
  · rw [e0, e]
    have ht : okL ((Lab s).take k) = true := okL_take hok k
    have hn : Nm (Jo ((Lab s).take k)) = true := nm_take hok hnm k
    have h1 := rn_tls l (l.length : Int) 0 (-1) (ptr (q : Int)) ((Lab s).take k) [] [] (by simpa using ht) (by simpa using hn)
    rw [List.append_nil, List.nil_append] at h1
    obtain ⟨hp0, hp1⟩ := ptr_bytes q hq2
    have hb0 : bt (l ++ tls ((Lab s).take k) ++ ptr (q : Int)) ((l ++ tls ((Lab s).take k)).length : Int) = ((192 + q / 256 : Nat) : Int) := by
      have := bt_mid (l ++ tls ((Lab s).take k)) (ptr (q : Int)) [] 0 (by rw [ptr_len]; omega)
      rw [hp0, List.append_nil] at this
      simpa using this
    have hb1 : bt (l ++ tls ((Lab s).take k) ++ ptr (q : Int)) (((l ++ tls ((Lab s).take k)).length : Int) + 1) = ((q % 256 : Nat) : Int) := by
      have := bt_mid (l ++ tls ((Lab s).take k)) (ptr (q : Int)) [] 1 (by rw [ptr_len]; omega)
      rw [hp1, List.append_nil] at this
      simpa using this
    have htg : tg (l ++ tls ((Lab s).take k) ++ ptr (q : Int)) ((l ++ tls ((Lab s).take k)).length : Int) = (q : Int) := by
      unfold tg
      rw [hb0, hb1]
      omega
    have hlen : ((l ++ tls ((Lab s).take k) ++ ptr (q : Int)).length : Int) = ((l ++ tls ((Lab s).take k)).length : Int) + 2 := by
      rw [List.length_append, ptr_len]
      omega
    have h2 := rn_jump (l := l ++ tls ((Lab s).take k) ++ ptr (q : Int)) (L := (Lab s).take k) (k := ((l ++ tls ((Lab s).take k)).length : Int)) (m := (l.length : Int)) (j := 0) (x := -1) (by omega) (by rw [hb0]; omega) (by omega) (by rw [htg]; omega)
    rw [htg, if_pos (by omega)] at h2
    obtain ⟨hd1, hd2⟩ := hit_iff.1 hh
    obtain ⟨c, D, y, i, hR⟩ : ∃ c D y i, rn l [] (q : Int) (q : Int) 0 (-1) = (c, D, y, i) := ⟨_, _, _, _, rfl⟩
    unfold dn at hd1 hd2
    rw [hR] at hd1 hd2
    dsimp only at hd1 hd2
    subst hd1
    have hDok := (rn_good hR).1
    have hD : D = (Lab s).drop k := by
      have e1 := lab_ok hDok
      have hdr : okL ((Lab s).drop k) = true := by
        rw [okL, List.all_eq_true] at hok ⊢
        exact fun x hx => hok x (List.mem_of_mem_drop hx)
      have e2 := lab_ok hdr
      rw [← e1, hd2, e2]
    subst hD
    have hfull : (Lab s).take k ++ (Lab s).drop k = Lab s := List.take_append_drop k _
    obtain ⟨i', h3⟩ := rn_left (tls ((Lab s).take k) ++ ptr (q : Int)) (T := (Lab s).take k) hR (by rw [hfull]; exact hok) (by rw [hfull]; exact hnm) 1 (((l ++ tls ((Lab s).take k)).length : Int) + 2) (by omega)
    rw [hfull, ← List.append_assoc] at h3
    refine ⟨i', ?_⟩
    rw [← List.append_assoc, h1, h2, hlen]
    exact h3

theorem pn_short (l : List UInt8) : ∀ L : List ByteArray, okL L = true → (pn l L).length ≤ (tls L).length + 1
  | [], _ => by simp [pn, zer, one_len]
  | p :: r, h => by
    have hp := tailL_two (okL_mem h p (by simp))
    have ih := pn_short l r (by rw [okL, List.all_cons, Bool.and_eq_true] at h; exact h.2)
    rw [pn, tls_cons, List.length_append]
    split
    · rw [ptr_len]
      omega
    · rw [List.length_append]
      omega
/-- The encoding with pointers is no longer. -/
theorem name_short (l : List UInt8) (s : ByteArray) (h : Nm s = true) : (tailN l s).length ≤ (tailP s).length := by
  have h1 := pn_short l (Lab s) (nm_parts h).2.2
  rw [tailN, if_pos h, tailP, if_pos h, List.length_append, zer, one_len]
  exact h1
/-- A name that has just been put is put again by one pointer. -/
theorem again (l : List UInt8) (s : ByteArray) (h : Nm s = true) (hl : l.length ≤ 16383) : (tailN (l ++ tailN l s) s).length ≤ 2 := by
  rw [show tailN (l ++ tailN l s) s = pn (l ++ tailN l s) (Lab s) by rw [tailN, if_pos h]]
  cases hL : Lab s with
  | nil => simp [pn, zer, one_len]
  | cons p r =>
    have hs : Jo (p :: r) = s := by rw [← hL, jo_lab]
    rw [pn]
    split
    · rw [ptr_len]
      exact Nat.le_refl _
    · rename_i hno
      exfalso
      rw [hs] at hno
      obtain ⟨i, hb⟩ := back_name l s h
      have hne : 0 < (tailN l s).length := by
        rw [tailN, if_pos h, hL, pn]
        split
        · rw [ptr_len]; omega
        · rw [List.length_append]
          have := tailL_two (okL_mem (nm_parts h).2.2 p (by rw [hL]; simp))
          omega
      have hm := pl_none hno l.length (by rw [List.length_append]; omega) hl
      have hy : hit (l ++ tailN l s) s l.length = true := by
        rw [hit_iff]
        unfold dn
        rw [hb]
        exact ⟨rfl, jo_lab s⟩
      rw [hy] at hm
      cases hm
end Go.Proofs.YtcpadkehalgddaaGreatDoor.WireBack

/- Plain mathematics: what was put as a record is read as that record, whatever stands ahead of it and behind it. Nothing of the program is named here but the seat itself. -/
namespace Go.Proofs.YtcpadkehalgddaaGreatDoor.FieldBack
open Go.Proofs.YtcpadkehalgddaaGreatDoor.Mem Go.Proofs.YtcpadkehalgddaaGreatDoor.MemR Go.Proofs.YtcpadkehalgddaaGreatDoor.JoinSpec Go.Proofs.YtcpadkehalgddaaGreatDoor.Split Go.Proofs.YtcpadkehalgddaaGreatDoor.JoinLab Go.Proofs.YtcpadkehalgddaaGreatDoor.GetLabel Go.Proofs.YtcpadkehalgddaaGreatDoor.PutLabel Go.Proofs.YtcpadkehalgddaaGreatDoor.NameOk Go.Proofs.YtcpadkehalgddaaGreatDoor.TextR Go.Proofs.YtcpadkehalgddaaGreatDoor.RecOk Go.Proofs.YtcpadkehalgddaaGreatDoor.WireMath Go.Proofs.YtcpadkehalgddaaGreatDoor.WireBack Go.Proofs.YtcpadkehalgddaaGreatDoor.Plain Go.Proofs.YtcpadkehalgddaaGreatDoor.PutSpec Go.Proofs.YtcpadkehalgddaaGreatDoor.Put Go.Proofs.YtcpadkehalgddaaGreatDoor.Get Go.Proofs.YtcpadkehalgddaaGreatDoor.FieldMath

/-- A name that is read is read with more bytes behind, too. -/
theorem go_behind (l R : List UInt8) (D : List ByteArray) (y : Int) (i : Nat) : ∀ f L k m j x, go l f L k m j x = (0, D, y, i) → go (l ++ R) f L k m j x = (0, D, y, i)
  | 0, _, _, _, _, _, h => by simp [go] at h
  | f + 1, L, k, m, j, x, h => by
    unfold go at h ⊢
    split at h
    · simp at h
    · rename_i hk
      have hb := bt_left l R k (by omega) (by omega)
      rw [if_neg (by rw [List.length_append]; omega), hb]
      split at h
      · rename_i h0
        rw [if_pos h0]
        exact h
      · rename_i h0
        rw [if_neg h0]
        split at h
        · rename_i h192
          rw [if_pos h192]
          split at h
          · simp at h
          · rename_i h1
            have ht : tg (l ++ R) k = tg l k := by unfold tg; rw [hb, bt_left l R (k + 1) (by omega) (by omega)]
            rw [if_neg (by rw [List.length_append]; omega), ht]
            split at h
            · simp at h
            · rename_i h2
              rw [if_neg h2]
              exact go_behind l R D y i f _ _ _ _ _ h
        · rename_i h192
          rw [if_neg h192]
          cases hh : has l k with
          | none =>
            rw [hh] at h
            simp only [Prod.mk.injEq] at h
            have := h.1
            split at this <;> omega
          | some q =>
            obtain ⟨p, e⟩ := q
            rw [hh] at h
            rw [has_left R hh]
            dsimp only at h ⊢
            split at h
            · rename_i h3
              rw [if_pos h3]
              exact go_behind l R D y i f _ _ _ _ _ h
            · simp at h
theorem rn_behind {l : List UInt8} (R : List UInt8) {D : List ByteArray} {k m x y : Int} {j i : Nat} (h : rn l [] k m j x = (0, D, y, i)) : rn (l ++ R) [] k m j x = (0, D, y, i) := by
  unfold rn at h ⊢
  exact go_more _ _ _ _ _ _ _ _ _ _ _ (go_behind l R D y i _ _ _ _ _ _ h) (by have := mu_more l R k m; omega)

theorem of_byte (x : Int) (h0 : 0 ≤ x) (h1 : x < 256) : ((UInt8.ofNat x.toNat).toNat : Int) = x := by
  rw [UInt8.toNat_ofNat_of_lt' (by simp [UInt8.size]; omega), Int.toNat_of_nonneg h0]
theorem be_quad (k : Int) (h0 : 0 ≤ k) (h1 : k ≤ 2147483647) : be (quad k) = k := by
  have e1 := of_byte (k / 16777216) (by omega) (by omega)
  have e2 := of_byte (k / 65536 % 256) (by omega) (by omega)
  have e3 := of_byte (k / 256 % 256) (by omega) (by omega)
  have e4 := of_byte (k % 256) (by omega) (by omega)
  simp only [be, quad, List.foldl_cons, List.foldl_nil, e1, e2, e3, e4]
  omega
theorem be_two (k : Int) (h0 : 0 ≤ k) (h1 : k ≤ 65535) : be (two k) = k := by
  have e1 := of_byte (k / 256) (by omega) (by omega)
  have e2 := of_byte (k % 256) (by omega) (by omega)
  simp only [be, two, List.foldl_cons, List.foldl_nil, e1, e2]
  omega
theorem mid (P X Q : List UInt8) (m : Nat) (h : X.length = m) : ((P ++ X ++ Q).drop P.length).take m = X := by
  rw [List.append_assoc, List.drop_left, ← h, List.take_left]
theorem n4_mid (P Q : List UInt8) (x : Int) (h0 : 0 ≤ x) (h1 : x ≤ 2147483647) (k : Int) (hk : k = (P.length : Int)) : n4 (P ++ quad x ++ Q) k = (x, true) := by
  subst hk
  have hl : (quad x).length = 4 := rfl
  have e : be (((P ++ quad x ++ Q).drop P.length).take 4) = x := by rw [mid _ _ _ 4 hl]; exact be_quad x h0 h1
  rw [n4, if_pos ⟨by omega, by simp only [List.length_append, hl]; omega⟩, Int.toNat_natCast, e, if_neg (by omega)]
theorem n2_mid (P Q : List UInt8) (x : Int) (h0 : 0 ≤ x) (h1 : x ≤ 65535) (k : Int) (hk : k = (P.length : Int)) : n2 (P ++ two x ++ Q) k = (x, true) := by
  subst hk
  have hl : (two x).length = 2 := rfl
  have e : be (((P ++ two x ++ Q).drop P.length).take 2) = x := by rw [mid _ _ _ 2 hl]; exact be_two x h0 h1
  rw [n2, if_pos ⟨by omega, by simp only [List.length_append, hl]; omega⟩, Int.toNat_natCast, e]
theorem emp_eq {s : ByteArray} (h : emp s = true) : s = ⟨#[]⟩ := by
  have h : s.size = 0 := of_decide_eq_true h
  obtain ⟨a⟩ := s
  have h : a.size = 0 := h
  rw [Array.eq_empty_of_size_eq_zero h]
theorem nul_eq {n : Int} (h : nul n = true) : n = 0 := of_decide_eq_true h
theorem inn_eq {x a b : Int} (h : inn x a b = true) : a ≤ x ∧ x ≤ b := of_decide_eq_true h
theorem name_mid (P Q : List UInt8) (s : ByteArray) (h : Nm s = true) (k : Int) (hk : k = (P.length : Int)) : rn (P ++ tailP s ++ Q) [] k k 0 (-1) = (0, Lab s, ((P ++ tailP s).length : Int), 0) := by
  subst hk
  exact rn_behind Q (back_plain P s h)
/-- The data of a record without name and time to live. -/
def core (r : Rec) : Rec := ⟨⟨#[]⟩, r.ty, 0, r.n, r.host, r.text⟩
theorem back_data (P Q : List UInt8) (r : Rec) (h : rok r = true) (k : Int) (hk : k = (P.length : Int)) : gd (P ++ dat r ++ Q) k ((dat r).length : Int) r.ty = (0, core r) := by
  have hd : dat r = dta r.ty r.n r.host r.text := if_pos h
  have hl := dat_len r
  rw [rok, Bool.and_eq_true, Bool.and_eq_true] at h
  have h := h.2.2
  have hn : 0 ≤ ((dat r).length : Int) ∧ ((dat r).length : Int) ≤ 255 := by omega
  have ho : ¬ (k < 0 ∨ ((P ++ dat r ++ Q).length : Int) - ((dat r).length : Int) < k) := by subst hk; simp only [List.length_append]; omega
  obtain ⟨nm, ty, ttl, n, host, text⟩ := r
  unfold core
  dsimp only at *
  by_cases h1 : ty = 1
  · subst h1
    rw [dko_1, Bool.and_eq_true, Bool.and_eq_true] at h
    obtain rfl := emp_eq h.2.1
    obtain rfl := emp_eq h.2.2
    have hr := inn_eq h.1
    rw [dta_1, tail4, if_pos hr] at hd
    have hd4 : (dat ⟨nm, 1, ttl, n, ⟨#[]⟩, ⟨#[]⟩⟩).length = 4 := by rw [hd]; rfl
    rw [gd_1 hn ho, hd4, hd, n4_mid P Q n hr.1 hr.2 k hk, if_pos ⟨rfl, rfl⟩]
    rfl
  by_cases h6 : ty = 6
  · subst h6
    rw [dko_6, Bool.and_eq_true, Bool.and_eq_true] at h
    obtain rfl := emp_eq h.2.2
    have hr := inn_eq h.2.1
    rw [dta_6, tail4, if_pos ⟨hr.1, by omega⟩] at hd
    have e : P ++ dat ⟨nm, 6, ttl, n, host, ⟨#[]⟩⟩ ++ Q = P ++ tailP host ++ (quad n ++ Q) := by rw [hd]; simp only [List.append_assoc]
    have e2 : P ++ tailP host ++ (quad n ++ Q) = P ++ tailP host ++ quad n ++ Q := by simp only [List.append_assoc]
    have hR := name_mid P (quad n ++ Q) host h.1 k hk
    have hN := n4_mid (P ++ tailP host) Q n hr.1 (by omega) _ rfl
    have hz : ((P ++ tailP host).length : Int) + 4 = k + ((dat ⟨nm, 6, ttl, n, host, ⟨#[]⟩⟩).length : Int) := by
      subst hk
      rw [hd]
      simp only [List.length_append]
      have : (quad n).length = 4 := rfl
      omega
    rw [gd_6 hn ho, e, hR]
    dsimp only
    rw [e2, hN, if_neg (fun e => e rfl), if_pos ⟨rfl, hz⟩, jo_lab]
    rfl
  by_cases h16 : ty = 16
  · subst h16
    rw [dko_16, Bool.and_eq_true, Bool.and_eq_true] at h
    obtain rfl := emp_eq h.2.2
    obtain rfl := nul_eq h.2.1
    have htx := h.1
    rw [dta_16] at hd
    have ht12 : text.size ≤ 12 := by rw [txo, Bool.and_eq_true] at htx; exact of_decide_eq_true htx.2
    have htl : text.data.toList.length = text.size := by simp
    have hz : (dat ⟨nm, 16, ttl, 0, ⟨#[]⟩, text⟩).length = text.size + 1 := by rw [hd, List.length_append, one_len, htl]; omega
    subst hk
    have hb : bt (P ++ dat ⟨nm, 16, ttl, 0, ⟨#[]⟩, text⟩ ++ Q) (P.length : Int) = (text.size : Int) := by
      have := bt_mid P (dat ⟨nm, 16, ttl, 0, ⟨#[]⟩, text⟩) Q 0 (by omega)
      rw [show (P.length : Int) + ((0 : Nat) : Int) = (P.length : Int) by omega] at this
      rw [this]
      have h0 : (dat ⟨nm, 16, ttl, 0, ⟨#[]⟩, text⟩)[0]'(by omega) = UInt8.ofNat text.size := by
        simp only [hd]
        rfl
      rw [h0, UInt8.toNat_ofNat_of_lt' (by simp [UInt8.size]; omega)]
    have hp : piece (P ++ dat ⟨nm, 16, ttl, 0, ⟨#[]⟩, text⟩ ++ Q) (P.length : Int).toNat (((dat ⟨nm, 16, ttl, 0, ⟨#[]⟩, text⟩).length : Int) - 1).toNat = text := by
      have e1 : (((dat ⟨nm, 16, ttl, 0, ⟨#[]⟩, text⟩).length : Int) - 1).toNat = text.size := by omega
      rw [e1, Int.toNat_natCast]
      have e2 : P ++ dat ⟨nm, 16, ttl, 0, ⟨#[]⟩, text⟩ ++ Q = P ++ one text.size ++ text.data.toList ++ Q := by rw [hd]; simp only [List.append_assoc]
      have e3 : P.length + 1 = (P ++ one text.size).length := by rw [List.length_append, one_len]
      unfold piece
      rw [e2, e3, mid _ _ _ _ htl]
    rw [gd_16 hn ho, hp, hb, if_pos ⟨by omega, by omega, htx⟩]
    rfl
  · have hh : ty = 2 ∨ ty = 5 := Decidable.byContradiction fun hne => by
      rw [dko_none _ _ _ h1 (by omega) (by omega) h6 h16] at h
      cases h
    have h : (Nm host && (nul n && emp text)) = true := by rcases hh with rfl | rfl <;> exact h
    rw [Bool.and_eq_true, Bool.and_eq_true] at h
    obtain rfl := emp_eq h.2.2
    obtain rfl := nul_eq h.2.1
    have hd : dat ⟨nm, ty, ttl, 0, host, ⟨#[]⟩⟩ = tailP host := by rcases hh with rfl | rfl <;> exact hd
    have hR := name_mid P Q host h.1 k hk
    have hz : ((P ++ tailP host).length : Int) = k + ((tailP host).length : Int) := by subst hk; rw [List.length_append]; omega
    rw [gd_h hn ho hh, hd, hR]
    dsimp only
    rw [if_neg (fun e => e rfl), if_pos hz, jo_lab]
    rfl

theorem back_rec (l Q : List UInt8) (r : Rec) (h : rok r = true) : gr (l ++ tailR l r ++ Q) (l.length : Int) = (0, ((l ++ tailR l r).length : Int), r) := by
  have hd := dat_len r
  have hty := rok_ty h
  have hr := h
  rw [rok, Bool.and_eq_true, Bool.and_eq_true] at hr
  have ht := inn_eq hr.2.1
  obtain ⟨i, hb⟩ := back_name l r.name hr.1
  generalize hN : l ++ tailN l r.name = N at *
  have e : l ++ tailR l r = N ++ two r.ty ++ two 1 ++ quad r.ttl ++ two ((dat r).length : Int) ++ dat r := by
    rw [tailR, if_pos h, tail2, if_pos ⟨by omega, by omega⟩, tail2, if_pos ⟨by omega, by omega⟩, tail4, if_pos ⟨by omega, by omega⟩, tail2, if_pos ⟨by omega, by omega⟩, ← hN]
    simp only [List.append_assoc]
  have l2 : ∀ x, (two x).length = 2 := fun _ => rfl
  have l4 : ∀ x, (quad x).length = 4 := fun _ => rfl
  have hz : ((l ++ tailR l r).length : Int) = (N.length : Int) + 10 + ((dat r).length : Int) := by
    rw [e]
    simp only [List.length_append, l2, l4]
    omega
  have hx : ∀ X, l ++ tailR l r ++ Q = X → rn X [] (l.length : Int) (l.length : Int) 0 (-1) = (0, Lab r.name, (N.length : Int), i) := fun X hX => by
    have e2 : X = N ++ (two r.ty ++ two 1 ++ quad r.ttl ++ two ((dat r).length : Int) ++ dat r ++ Q) := by
      rw [← hX, e]
      simp only [List.append_assoc]
    rw [e2]
    exact rn_behind _ hb
  have a1 : n2 (l ++ tailR l r ++ Q) (N.length : Int) = (r.ty, true) := by
    have := n2_mid N (two 1 ++ quad r.ttl ++ two ((dat r).length : Int) ++ dat r ++ Q) r.ty (by omega) (by omega) _ rfl
    rw [← this, e]
    simp only [List.append_assoc]
  have a2 : n2 (l ++ tailR l r ++ Q) ((N.length : Int) + 2) = (1, true) := by
    have := n2_mid (N ++ two r.ty) (quad r.ttl ++ two ((dat r).length : Int) ++ dat r ++ Q) 1 (by omega) (by omega) ((N.length : Int) + 2) (by rw [List.length_append, l2]; omega)
    rw [← this, e]
    simp only [List.append_assoc]
  have a3 : n4 (l ++ tailR l r ++ Q) ((N.length : Int) + 4) = (r.ttl, true) := by
    have := n4_mid (N ++ two r.ty ++ two 1) (two ((dat r).length : Int) ++ dat r ++ Q) r.ttl (by omega) (by omega) ((N.length : Int) + 4) (by simp only [List.length_append, l2]; omega)
    rw [← this, e]
    simp only [List.append_assoc]
  have a4 : n2 (l ++ tailR l r ++ Q) ((N.length : Int) + 8) = (((dat r).length : Int), true) := by
    have := n2_mid (N ++ two r.ty ++ two 1 ++ quad r.ttl) (dat r ++ Q) ((dat r).length : Int) (by omega) (by omega) ((N.length : Int) + 8) (by simp only [List.length_append, l2, l4]; omega)
    rw [← this, e]
    simp only [List.append_assoc]
  have a5 : gd (l ++ tailR l r ++ Q) ((N.length : Int) + 10) ((dat r).length : Int) r.ty = (0, core r) := by
    have := back_data (N ++ two r.ty ++ two 1 ++ quad r.ttl ++ two ((dat r).length : Int)) Q r h ((N.length : Int) + 10) (by simp only [List.length_append, l2, l4]; omega)
    rw [← this, e]
  have a6 : wn (core r) (Jo (Lab r.name)) r.ttl = r := by rw [jo_lab]; rfl
  rw [gr_good (hx _ rfl) (by rw [List.length_append]; omega) (by rw [a4, a1]; exact a5) (by rw [a3, a2]; exact ⟨rfl, rfl, by rw [a6]; exact h⟩), a4, a3, a6, hz]
theorem puts_pre : ∀ (L : List Rec) (l : List UInt8), ∃ T, puts l L = l ++ T
  | [], l => ⟨[], by simp [puts]⟩
  | r :: L, l => by
    obtain ⟨T, h⟩ := puts_pre L (l ++ tailR l r)
    exact ⟨tailR l r ++ T, by rw [puts, h, List.append_assoc]⟩
theorem back_list : ∀ (L : List Rec) (l : List UInt8) (M : List Rec), (∀ r ∈ L, rok r = true) → grs (puts l L) L.length (l.length : Int) M = (0, ((puts l L).length : Int), M ++ L)
  | [], l, M, _ => by simp [puts, grs]
  | r :: L, l, M, h => by
    obtain ⟨T, hT⟩ := puts_pre L (l ++ tailR l r)
    have hb := back_rec l T r (h r (by simp))
    have hi := back_list L (l ++ tailR l r) (M ++ [r]) (fun x hx => h x (by simp [hx]))
    rw [← hT] at hb
    rw [List.length_cons, grs, puts, hb]
    dsimp only
    rw [if_neg (fun e => e rfl), hi]
    simp
end Go.Proofs.YtcpadkehalgddaaGreatDoor.FieldBack

/- What the law's own helpers eqByteS, markByteS and heldByteS do on slices of bytes. Condition: fewer than 400000001 bytes. -/
namespace Go.Proofs.YtcpadkehalgddaaGreatDoor.Eq
open Go.RowKit Go.Proofs.YtcpadkehalgddaaGreatDoor.Mem

theorem cast_ne {a b : UInt8} (h : a ≠ b) : ((a.toNat : Int) != (b.toNat : Int)) = true := by
  rw [bne_iff_ne]; intro e; exact h (UInt8.toNat_inj.1 (by omega))
theorem cast_eq {a b : UInt8} (h : a = b) : ((a.toNat : Int) != (b.toNat : Int)) = false := by subst h; simp

/-- Two lists that agree as far as k, and part at k. -/
theorem ne_at {l m : List UInt8} {k : Nat} (h : k < l.length) (h' : k < m.length) (hne : l[k] ≠ m[k]) : (l == m) = false := by
  rw [beq_eq_false_iff_ne]; rintro rfl; exact hne rfl
theorem eq_all {l m : List UInt8} (hl : l.length = m.length) (h : l.take l.length = m.take l.length) : (l == m) = true := by
  rw [List.take_length, hl, List.take_length] at h; simp [h]
theorem take_step {l m : List UInt8} {k : Nat} (hk : k < l.length) (hk' : k < m.length) (h : l.take k = m.take k) (he : l[k] = m[k]) : l.take (k + 1) = m.take (k + 1) := by
  rw [List.take_succ_eq_append_getElem hk, List.take_succ_eq_append_getElem hk', h, he]

set_option maxHeartbeats 1000000 in
theorem eqByteS_any (A A' : Option Addr) (n c n' c' : Nat) (l m : List UInt8) (w : World) (B : Nat) (hs : Sl w B A n l) (hs' : Sl w B A' n' m) (hn : n ≤ 400000000) (hn' : n' ≤ 400000000) :
    Calls Tryz.prog 24 #[.slice A n c, .slice A' n' c'] w fun e w' => e = .returned (.bool (l == m)) ∧ ∃ k, w' = w.drewN k := by
  have HL := Lib.hid hs.1
  have HM := Lib.hid hs'.1
  by_cases hnn : n = n'
  · subst hnn
    have hd : ((n : Int) != (n : Int)) = false := by simp
    go_enter Tryz.func24, Tryz.ntmps24
    go_wp2
    go_loopw [5] (fun i wr => ∃ k : Nat, k ≤ n ∧ i = .int .i64 k ∧ Hid (l.take k = m.take k) ∧ Hid (∃ q, wr = w.drewN q)) (fun i _ => n - (intOf i).toNat)
    case atStart => exact ⟨0, Nat.zero_le _, rfl, rfl, ⟨0, rfl⟩⟩
    case round =>
      obtain ⟨k, hk, rfl, HT, HW⟩ := hrel
      obtain ⟨q, rfl⟩ := HW.out
      clear HW
      by_cases hlt : k < n
      · obtain ⟨b, off, rfl, hbB, hcs⟩ := hs.2 (by omega)
        obtain ⟨b', off', rfl, hbB', hcs'⟩ := hs'.2 (by omega)
        have hkl : k < l.length := by rw [HL.out]; exact hlt
        have hkm : k < m.length := by rw [HM.out]; exact hlt
        have hx : w.cell? ⟨b, off + k, none⟩ = some (.int .u8 (l[k].toNat : Int)) := hcs k hkl
        have hy : w.cell? ⟨b', off' + k, none⟩ = some (.int .u8 (m[k].toNat : Int)) := hcs' k hkm
        clear hcs hcs' hs hs'
        by_cases he : l[k] = m[k]
        · have hbb := cast_eq he
          have HE := Lib.hid he
          clear he
          go_wp2
          go_quiet (fail)
          go_wp2
          go_roundw
          case rel => exact ⟨k + 1, by omega, by go_num, take_step hkl hkm HT.out HE.out, ⟨_, rfl⟩⟩
          case measure => simp [intOf]; omega
        · have hbb := cast_ne he
          have HE := Lib.hid he
          clear he
          go_wp2
          go_quiet (fail)
          go_wp2
          go_ret
          exact ⟨by rw [ne_at hkl hkm HE.out]; rfl, ⟨q + nq, World.drewN_drewN _ _ _⟩⟩
      · go_wp2
        go_ret
        have hk2 : k = l.length := by rw [HL.out]; omega
        refine ⟨?_, ⟨_, rfl⟩⟩
        rw [eq_all (by rw [HL.out, HM.out]) (by rw [← hk2]; exact HT.out)]
        rfl
  · have hd : ((n : Int) != (n' : Int)) = true := by rw [bne_iff_ne]; omega
    go_enter Tryz.func24, Tryz.ntmps24
    go_wp2
    go_ret
    refine ⟨?_, ⟨0, rfl⟩⟩
    have : (l == m) = false := by
      rw [beq_eq_false_iff_ne]; rintro rfl; exact hnn (HL.out.symm.trans HM.out)
    rw [this]
    rfl

/-- Two slices that read alike are found equal. -/
theorem eqByteS_same (A A' : Option Addr) (n c n' c' : Nat) (l : List UInt8) (w : World) (hs : Sl w w.heap.size A n l) (hs' : Sl w w.heap.size A' n' l) (hn : n ≤ 400000000) (hn' : n' ≤ 400000000) :
    Calls Tryz.prog 24 #[.slice A n c, .slice A' n' c'] w fun e w' => e = .returned (.bool true) ∧ Below w.heap.size w w' := by
  refine (eqByteS_any A A' n c n' c' l l w _ hs hs' hn hn').mono fun e w' ⟨he, k, hw⟩ => ?_
  subst hw
  exact ⟨by rw [he]; simp, drewN_below _ _ _⟩

/-- The numbers that markByteS lays: k, k + 1 and so on, as bytes. -/
def marks : Nat → Nat → List Value
  | _, 0 => []
  | k, n + 1 => Value.int .u8 ((k : Int) % 256) :: marks (k + 1) n
theorem marks_length (k n : Nat) : (marks k n).length = n := by
  induction n generalizing k with
  | zero => rfl
  | succ n ih => simp [marks, ih]
theorem marks_at (k n j : Nat) (h : j < n) : (marks k n)[j]? = some (Value.int .u8 (((k : Int) + (j : Int)) % 256)) := by
  induction n generalizing k j with
  | zero => omega
  | succ n ih =>
    cases j with
    | zero => simp [marks]
    | succ j => simp only [marks, List.getElem?_cons_succ]; rw [ih (k + 1) j (by omega)]; rw [show ((k + 1 : Nat) : Int) + (j : Int) = (k : Int) + ((j + 1 : Nat) : Int) by omega]
theorem marks_snoc (k n : Nat) : marks k (n + 1) = marks k n ++ [Value.int .u8 (((k : Int) + (n : Int)) % 256)] := by
  induction n generalizing k with
  | zero => simp [marks]
  | succ n ih => rw [marks, ih (k + 1), marks, List.cons_append, show ((k + 1 : Nat) : Int) + (n : Int) = (k : Int) + ((n + 1 : Nat) : Int) by omega]

theorem mark_step (cs : List Value) (k j n : Nat) (hj : j < n) (hn : n ≤ cs.length) :
    (marks k j ++ cs.drop j).set j (Value.int .u8 (((k : Int) + (j : Int)) % 256)) = marks k (j + 1) ++ cs.drop (j + 1) := by
  rw [List.set_append_right _ _ (by rw [marks_length]; omega), marks_length, Nat.sub_self, List.drop_eq_getElem_cons (by omega), List.set_cons_zero, marks_snoc, List.append_assoc]
  rfl
theorem mark_at (cs : List Value) (k j : Nat) (hj : j < cs.length) : (marks k j ++ cs.drop j)[j]? = some cs[j] := by
  rw [List.getElem?_append_right (by rw [marks_length]; omega), marks_length, Nat.sub_self, List.drop_eq_getElem_cons hj]
  rfl

theorem grown_set {w wr : World} {g : Nat} (h : w.grownBy wr (some g)) (j : Nat) (u : Value) : w.grownBy (wr.setCell ⟨g, j, none⟩ u) (some g) :=
  ⟨h.os, h.tape, h.output, by simpa [World.setCell] using h.size, fun k hk hne => by
    rw [Below.heap_setCell _ _ _ _ (fun e => hne (by simp [e]))]; exact h.block k hk hne⟩

set_option maxHeartbeats 1000000 in
/-- markByteS on a block of the call's own: n of its cells are written. -/
theorem markByteS_any (g n c k0 : Nat) (cs : List Value) (w : World) (hb : Bk w g 5 cs) (hint : ∀ j, j < n → ∃ x : Int, cs[j]? = some (.int .u8 x)) (hl : n ≤ cs.length) (hn : n ≤ 400000000) (hk0 : k0 ≤ 400000000) :
    Calls Tryz.prog 26 #[.slice (some ⟨g, 0, none⟩) n c, .int .i64 (k0 : Int)] w fun e w' => e = .returned (.int .i64 ((k0 + n : Nat) : Int)) ∧ Bk w' g 5 (marks k0 n ++ cs.drop n) ∧ w.grownBy w' (some g) := by
  have HB := Lib.hid hb
  clear hb
  go_enter Tryz.func26, Tryz.ntmps26
  go_wp2
  go_loopw [1, 5] (fun kk i wr => ∃ j : Nat, j ≤ n ∧ i = .int .i64 j ∧ kk = .int .i64 ((k0 + j : Nat) : Int) ∧ Hid (Bk wr g 5 (marks k0 j ++ cs.drop j)) ∧ Hid (w.grownBy wr (some g))) (fun _ i _ => n - (intOf i).toNat)
  case atStart => exact ⟨0, Nat.zero_le _, rfl, rfl, HB.out, World.grownBy.refl _ _⟩
  case round =>
    obtain ⟨j, hj, rfl, rfl, HJ, HG⟩ := hrel
    by_cases hlt : j < n
    · obtain ⟨x, hxx⟩ := hint j hlt
      have hx : wr.cell? ⟨g, j, none⟩ = some (.int .u8 x) := by
        rw [HJ.out.cell, mark_at cs k0 j (by omega), ← hxx, List.getElem?_eq_getElem (by omega)]
      have hf : wr.frozen? ⟨g, j, none⟩ = false := HJ.out.free j
      clear hxx
      go_wp2
      go_roundw
      case rel =>
        refine ⟨j + 1, by omega, by go_num, by go_num, ?_, grown_set HG.out _ _⟩
        have := HJ.out.set j (.int .u8 (((k0 : Int) + (j : Int)) % 256))
        rw [mark_step cs k0 j n hlt hl] at this
        exact this
      case measure => simp [intOf]; omega
    · have hjn : j = n := by omega
      subst hjn
      go_wp2
      go_ret
      exact ⟨by go_num, HJ.out, HG.out⟩

theorem byte_ne_self (x : Int) : (x != x) = false := by simp

set_option maxHeartbeats 1000000 in
/-- heldByteS on a block that holds the marks. -/
theorem heldByteS_any (g n c k0 : Nat) (r : List Value) (w : World) (hb : Bk w g 5 (marks k0 n ++ r)) (hn : n ≤ 400000000) (hk0 : k0 ≤ 400000000) :
    Calls Tryz.prog 28 #[.slice (some ⟨g, 0, none⟩) n c, .int .i64 (k0 : Int)] w fun e w' => e = .returned (.int .i64 ((k0 + n : Nat) : Int)) ∧ w = w' := by
  have HB := Lib.hid hb
  clear hb
  go_enter Tryz.func28, Tryz.ntmps28
  go_wp2
  go_loop [1, 5] (fun kk i => ∃ j : Nat, j ≤ n ∧ i = .int .i64 j ∧ kk = .int .i64 ((k0 + j : Nat) : Int)) (fun _ i => n - (intOf i).toNat)
  case atStart => exact ⟨0, Nat.zero_le _, rfl, rfl⟩
  case round =>
    obtain ⟨j, hj, rfl, rfl⟩ := hrel
    by_cases hlt : j < n
    · have hx : w.cell? ⟨g, j, none⟩ = some (Value.int .u8 (((k0 : Int) + (j : Int)) % 256)) := by
        rw [HB.out.cell, List.getElem?_append_left (by rw [marks_length]; exact hlt), marks_at k0 n j hlt]
      have hne := byte_ne_self (((k0 : Int) + (j : Int)) % 256)
      go_wp2
      go_round
      case rel => exact ⟨j + 1, by omega, by go_num, by go_num⟩
      case measure => simp [intOf]; omega
    · have hjn : j = n := by omega
      subst hjn
      go_wp2
      go_ret
      exact ⟨by go_num, rfl⟩

/-- The law marks from 1 on. -/
theorem markByteS_one (g n c : Nat) (l : List UInt8) (r : List Value) (w : World) (hb : Bk w g 5 (l.map bv ++ r)) (hl : l.length = n) (hn : n ≤ 400000000) :
    Calls Tryz.prog 26 #[.slice (some ⟨g, 0, none⟩) n c, .int .i64 1] w fun e w' => e = .returned (.int .i64 (1 + (n : Int))) ∧ Bk w' g 5 (marks 1 n ++ r) ∧ w.grownBy w' (some g) := by
  refine (markByteS_any g n c 1 (l.map bv ++ r) w hb (fun j hj => ⟨((l[j]'(by omega)).toNat : Int), ?_⟩) (by simp; omega) hn (by omega)).mono fun e w' ⟨he, h1, h2⟩ => ⟨?_, ?_, h2⟩
  · rw [List.getElem?_append_left (by simp; omega), List.getElem?_map, List.getElem?_eq_getElem (by omega)]
    rfl
  · rw [he]; simp
  · rw [List.drop_append_of_le_length (by simp; omega), List.drop_eq_nil_of_le (by simp; omega), List.nil_append] at h1
    exact h1
theorem heldByteS_one (g n c : Nat) (r : List Value) (w : World) (hb : Bk w g 5 (marks 1 n ++ r)) (hn : n ≤ 400000000) :
    Calls Tryz.prog 28 #[.slice (some ⟨g, 0, none⟩) n c, .int .i64 1] w fun e w' => e = .returned (.int .i64 (1 + (n : Int))) ∧ w = w' :=
  (heldByteS_any g n c 1 r w hb hn (by omega)).mono fun e w' ⟨he, h1⟩ => ⟨by rw [he]; simp, h1⟩

end Go.Proofs.YtcpadkehalgddaaGreatDoor.Eq

/- What the laws' own comparison of two slices of bytes does. Condition: fewer than 400000001 bytes. -/
namespace Go.Proofs.YtcpadkehalgddaaGreatDoor.Same
open Go.RowKit Go.Proofs.YtcpadkehalgddaaGreatDoor.Mem Go.Proofs.YtcpadkehalgddaaGreatDoor.Eq

set_option maxHeartbeats 1000000 in
theorem same_any (A A' : Option Addr) (n c n' c' : Nat) (l m : List UInt8) (w : World) (B : Nat) (hs : Sl w B A n l) (hs' : Sl w B A' n' m) (hn : n ≤ 400000000) (hn' : n' ≤ 400000000) :
    Calls Tryz.prog 10 #[.slice A n c, .slice A' n' c'] w fun e w' => e = .returned (.bool (l == m)) ∧ ∃ k, w' = w.drewN k := by
  have HL := Lib.hid hs.1
  have HM := Lib.hid hs'.1
  by_cases hnn : n = n'
  · subst hnn
    have hd : ((n : Int) != (n : Int)) = false := by simp
    go_enter Tryz.func10, Tryz.ntmps10
    go_wp2
    go_loopw [5] (fun i wr => ∃ k : Nat, k ≤ n ∧ i = .int .i64 k ∧ Hid (l.take k = m.take k) ∧ Hid (∃ q, wr = w.drewN q)) (fun i _ => n - (intOf i).toNat)
    case atStart => exact ⟨0, Nat.zero_le _, rfl, rfl, ⟨0, rfl⟩⟩
    case round =>
      obtain ⟨k, hk, rfl, HT, HW⟩ := hrel
      obtain ⟨q, rfl⟩ := HW.out
      clear HW
      by_cases hlt : k < n
      · obtain ⟨b, off, rfl, hbB, hcs⟩ := hs.2 (by omega)
        obtain ⟨b', off', rfl, hbB', hcs'⟩ := hs'.2 (by omega)
        have hkl : k < l.length := by rw [HL.out]; exact hlt
        have hkm : k < m.length := by rw [HM.out]; exact hlt
        have hx : w.cell? ⟨b, off + k, none⟩ = some (.int .u8 (l[k].toNat : Int)) := hcs k hkl
        have hy : w.cell? ⟨b', off' + k, none⟩ = some (.int .u8 (m[k].toNat : Int)) := hcs' k hkm
        clear hcs hcs' hs hs'
        by_cases he : l[k] = m[k]
        · have hbb := cast_eq he
          have HE := Lib.hid he
          clear he
          go_wp2
          go_quiet (fail)
          go_wp2
          go_roundw
          case rel => exact ⟨k + 1, by omega, by go_num, take_step hkl hkm HT.out HE.out, ⟨_, rfl⟩⟩
          case measure => simp [intOf]; omega
        · have hbb := cast_ne he
          have HE := Lib.hid he
          clear he
          go_wp2
          go_quiet (fail)
          go_wp2
          go_ret
          exact ⟨by rw [ne_at hkl hkm HE.out]; rfl, ⟨q + nq, World.drewN_drewN _ _ _⟩⟩
      · go_wp2
        go_ret
        have hk2 : k = l.length := by rw [HL.out]; omega
        refine ⟨?_, ⟨_, rfl⟩⟩
        rw [eq_all (by rw [HL.out, HM.out]) (by rw [← hk2]; exact HT.out)]
        rfl
  · have hd : ((n : Int) != (n' : Int)) = true := by rw [bne_iff_ne]; omega
    go_enter Tryz.func10, Tryz.ntmps10
    go_wp2
    go_ret
    refine ⟨?_, ⟨0, rfl⟩⟩
    have : (l == m) = false := by
      rw [beq_eq_false_iff_ne]; rintro rfl; exact hnn (HL.out.symm.trans HM.out)
    rw [this]
    rfl

/-- Two slices that read alike are found equal. -/
theorem same_same (A A' : Option Addr) (n c n' c' : Nat) (l : List UInt8) (w : World) (hs : Sl w w.heap.size A n l) (hs' : Sl w w.heap.size A' n' l) (hn : n ≤ 400000000) (hn' : n' ≤ 400000000) :
    Calls Tryz.prog 10 #[.slice A n c, .slice A' n' c'] w fun e w' => e = .returned (.bool true) ∧ Below w.heap.size w w' := by
  refine (same_any A A' n c n' c' l l w _ hs hs' hn hn').mono fun e w' ⟨he, k, hw⟩ => ?_
  subst hw
  exact ⟨by rw [he]; simp, drewN_below _ _ _⟩

theorem big_no (A : Option Addr) (n c : Nat) (w : World) (h : n ≤ 1048576) : Calls Tryz.prog 6 #[.slice A n c] w fun e w' => e = .returned (.bool false) ∧ w = w' := by
  have hd : decide ((1048576 : Int) < (n : Int)) = false := by simp; omega
  go_enter Tryz.func6, Tryz.ntmps6
  go_wp2
  go_ret
  exact ⟨rfl, rfl⟩
theorem big_yes (A : Option Addr) (n c : Nat) (w : World) (h : ¬ n ≤ 1048576) : Calls Tryz.prog 6 #[.slice A n c] w fun e w' => e = .returned (.bool true) ∧ w = w' := by
  have hd : decide ((1048576 : Int) < (n : Int)) = true := by simp; omega
  go_enter Tryz.func6, Tryz.ntmps6
  go_wp2
  go_ret
  exact ⟨rfl, rfl⟩
end Go.Proofs.YtcpadkehalgddaaGreatDoor.Same

/- Two records that are the same, compared with == : true, and nothing is turned. -/
namespace Go.Proofs.YtcpadkehalgddaaGreatDoor.EqlR
open Go.RowKit Go.Proofs.YtcpadkehalgddaaGreatDoor.Mem Go.Proofs.YtcpadkehalgddaaGreatDoor.MemR

theorem eql_same (r : Rec) (w : World) : Sem.run Tryz.prog (binOp .eql 25 (.agg #[.string r.name, .int .i64 r.ty, .int .i64 r.ttl, .int .i64 r.n, .string r.host, .string r.text]) (.agg #[.string r.name, .int .i64 r.ty, .int .i64 r.ttl, .int .i64 r.n, .string r.host, .string r.text])) w = .ok (.bool true) w := by
  have u3 := Tryz.underlying3
  have a3 := Tryz.isAgg3
  have z3 := Tryz.sizeOf3
  have u9 := Tryz.underlying9
  have a9 := Tryz.isAgg9
  have z9 := Tryz.sizeOf9
  have hS : Tryz.prog.underlying 25 = some (.struct (Tryz.prog.fieldsOf 25)) := by kernel_rfl
  have hp : Tryz.prog.stoodInHeld 25 = false := by kernel_rfl
  rw [run_eql_struct, show (10000 : Nat) = 9999 + 1 from rfl, run_equalIn_agg w 9999 25 _ _ hS hp]
  simp only [Program.fieldsOf, Tryz.underlying25]
  go_simp

theorem grd : Tryz.prog.eqGuardType Tryz.prog.depth 25 = false := by kernel_rfl
end Go.Proofs.YtcpadkehalgddaaGreatDoor.EqlR

/- The law FnFields returns true on every slice that reads as bytes, where the library's variable internal/bytealg.MaxLen holds an int, and turns nothing that was there: a record is read back out of its encoding. -/
namespace Go.Proofs.YtcpadkehalgddaaGreatDoor.LawFields
open Go.RowKit Go.Proofs.YtcpadkehalgddaaGreatDoor.Mem Go.Proofs.YtcpadkehalgddaaGreatDoor.MemR Go.Proofs.YtcpadkehalgddaaGreatDoor.BoxR Go.Proofs.YtcpadkehalgddaaGreatDoor.Labels Go.Proofs.YtcpadkehalgddaaGreatDoor.RecOk Go.Proofs.YtcpadkehalgddaaGreatDoor.Same Go.Proofs.YtcpadkehalgddaaGreatDoor.App Go.Proofs.YtcpadkehalgddaaGreatDoor.FieldMath Go.Proofs.YtcpadkehalgddaaGreatDoor.FieldBack Go.Proofs.YtcpadkehalgddaaGreatDoor.DataS Go.Proofs.YtcpadkehalgddaaGreatDoor.RecS Go.Proofs.YtcpadkehalgddaaGreatDoor.GetI Go.Proofs.YtcpadkehalgddaaGreatDoor.GetRecI Go.Proofs.YtcpadkehalgddaaGreatDoor.DrawR Go.Proofs.YtcpadkehalgddaaGreatDoor.DrawP

theorem sml_med {r : Rec} (h : Sml r) : Med r := ⟨Nat.le_trans h.1 (by decide), Nat.le_trans h.2.1 (by decide), Nat.le_trans h.2.2 (by decide)⟩
theorem rok_core {r : Rec} (h : rok r = true) : rok (core r) = true := by
  rw [rok, Bool.and_eq_true, Bool.and_eq_true] at h
  have e : rok (core r) = dko r.ty r.n r.host r.text := rfl
  rw [e]
  exact h.2.2
/-- The data of a valid record are read back. -/
theorem back_d {r : Rec} (h : rok r = true) : fx (gd (dat r) 0 ((dat r).length : Int) r.ty) = (0, core r) := by
  have := back_data [] [] r h 0 rfl
  rw [List.nil_append, List.append_nil] at this
  rw [this]
  exact fx_ok (rok_core h)
theorem back_r (l : List UInt8) {r : Rec} (h : rok r = true) : gr (l ++ tailR l r) (l.length : Int) = (0, ((l ++ tailR l r).length : Int), r) := by
  have := back_rec l [] r h
  rw [List.append_nil] at this
  exact this

set_option maxRecDepth 100000 in
set_option maxHeartbeats 8000000 in
theorem walk (A : Option Addr) (n c : Nat) (l : List UInt8) (w : World) (he : Env w) (hs : Sl w w.heap.size A n l) (_hc : n ≤ c) (_hnil : A = none → n = 0 ∧ c = 0) :
    Calls Tryz.prog 3 #[.slice A n c] w fun e w' => e = .returned (.bool true) ∧ Below w.heap.size w w' := by
  have HS := Lib.hid hs
  have HE := Lib.hid he
  clear hs he _hnil
  by_cases hn : ¬ n ≤ 1048576
  · go_enter Tryz.func3, Tryz.ntmps3
    go_wp2_with fail
    refine (big_yes A n c w hn).mono ?_
    rintro e w0 ⟨rfl, rfl⟩
    go_wp2
    go_ret
    exact ⟨rfl, Below.refl _ _⟩
  have hn : n ≤ 1048576 := Decidable.byContradiction hn
  go_enter Tryz.func3, Tryz.ntmps3
  go_wp2_with fail
  refine (big_no A n c w hn).mono ?_
  rintro e w0 ⟨rfl, rfl⟩
  go_wp2_with fail
  refine (drawPutRecord_any A n c l w HS.out hn).mono ?_
  rintro e w1 ⟨gb, m, cap, lb, r, rfl, hm, hmc, hr, hsl, hl⟩
  have FA := Lib.hid (sml_med hr)
  have L1 := Lib.hid (hl.alloc hl.size (.cells #[.string r.name, .int .i64 r.ty, .int .i64 r.ttl, .int .i64 r.n, .string r.host, .string r.text] 25))
  have R1 := Lib.hid (bx_new w1 25 r)
  have HB := Lib.hid (show Sl (w1.alloc (.cells #[.string r.name, .int .i64 r.ty, .int .i64 r.ttl, .int .i64 r.n, .string r.host, .string r.text] 25)) (w1.alloc (.cells #[.string r.name, .int .i64 r.ty, .int .i64 r.ttl, .int .i64 r.n, .string r.host, .string r.text] 25)).heap.size (some ⟨gb, 0, none⟩) m lb from sl_alloc hsl _)
  have ML := Lib.hid hsl.1
  clear hl hsl hr
  have SBx : Hid (∀ W : World, Below (w1.alloc (.cells #[.string r.name, .int .i64 r.ty, .int .i64 r.ttl, .int .i64 r.n, .string r.host, .string r.text] 25)).heap.size (w1.alloc (.cells #[.string r.name, .int .i64 r.ty, .int .i64 r.ttl, .int .i64 r.n, .string r.host, .string r.text] 25)) W → Sl W W.heap.size (some ⟨gb, 0, none⟩) m lb) := fun W hW => (HB.out.below hW).wider hW.size
  have EN : Hid (∀ W : World, Below (w1.alloc (.cells #[.string r.name, .int .i64 r.ty, .int .i64 r.ttl, .int .i64 r.n, .string r.host, .string r.text] 25)).heap.size (w1.alloc (.cells #[.string r.name, .int .i64 r.ty, .int .i64 r.ttl, .int .i64 r.n, .string r.host, .string r.text] 25)) W → Env W) := fun W hW => HE.out.below (L1.out.trans (hW.mono L1.out.size))
  have XI : Hid (∀ W : World, Below (w1.alloc (.cells #[.string r.name, .int .i64 r.ty, .int .i64 r.ttl, .int .i64 r.n, .string r.host, .string r.text] 25)).heap.size (w1.alloc (.cells #[.string r.name, .int .i64 r.ty, .int .i64 r.ttl, .int .i64 r.n, .string r.host, .string r.text] 25)) W → Calls Tryz.prog 8 #[.slice (some ⟨gb, 0, none⟩) m cap, .agg #[.string r.name, .int .i64 r.ty, .int .i64 r.ttl, .int .i64 r.n, .string r.host, .string r.text]] W (Gives W (lb ++ tailR lb r))) :=
    fun W hW => (RecP.impl _ m cap lb r W (EN.out W hW) (SBx.out W hW) hmc (fun h => by cases h) (by omega) FA.out).mono fun _ _ h => h.gives
  have XS : Hid (∀ W : World, Below (w1.alloc (.cells #[.string r.name, .int .i64 r.ty, .int .i64 r.ttl, .int .i64 r.n, .string r.host, .string r.text] 25)).heap.size (w1.alloc (.cells #[.string r.name, .int .i64 r.ty, .int .i64 r.ttl, .int .i64 r.n, .string r.host, .string r.text] 25)) W → Calls Tryz.prog 11 #[.slice (some ⟨gb, 0, none⟩) m cap, .agg #[.string r.name, .int .i64 r.ty, .int .i64 r.ttl, .int .i64 r.n, .string r.host, .string r.text]] W (Gives W (lb ++ tailR lb r))) :=
    fun W hW => (RecS.spec _ m cap lb r W (SBx.out W hW) hmc (fun h => by cases h) (by omega) FA.out).mono fun _ _ h => h.gives
  have DI : Hid (∀ W : World, Below (w1.alloc (.cells #[.string r.name, .int .i64 r.ty, .int .i64 r.ttl, .int .i64 r.n, .string r.host, .string r.text] 25)).heap.size (w1.alloc (.cells #[.string r.name, .int .i64 r.ty, .int .i64 r.ttl, .int .i64 r.n, .string r.host, .string r.text] 25)) W → Calls Tryz.prog 9 #[.agg #[.string r.name, .int .i64 r.ty, .int .i64 r.ttl, .int .i64 r.n, .string r.host, .string r.text]] W (Gives W (dat r))) := fun W hW => DataP.impl r W (EN.out W hW) FA.out
  have DS : Hid (∀ W : World, Calls Tryz.prog 12 #[.agg #[.string r.name, .int .i64 r.ty, .int .i64 r.ttl, .int .i64 r.n, .string r.host, .string r.text]] W (Gives W (dat r))) := fun W => DataS.spec r W FA.out
  have RO : Hid (∀ W : World, Below (w1.alloc (.cells #[.string r.name, .int .i64 r.ty, .int .i64 r.ttl, .int .i64 r.n, .string r.host, .string r.text] 25)).heap.size (w1.alloc (.cells #[.string r.name, .int .i64 r.ty, .int .i64 r.ttl, .int .i64 r.n, .string r.host, .string r.text] 25)) W → Calls Tryz.prog 13 #[.agg #[.string r.name, .int .i64 r.ty, .int .i64 r.ttl, .int .i64 r.n, .string r.host, .string r.text]] W fun e w' => e = .returned (.bool (rok r)) ∧ Below W.heap.size W w') := fun W hW => RecOk.impl r W (EN.out W hW) FA.out.mod
  have HXL : Hid ((lb ++ tailR lb r).length ≤ 600) := by show _ ≤ _; rw [List.length_append, ML.out]; have := tailR_len lb r; omega
  have HDL := Lib.hid (dat_len r)
  have BAD : Hid (rok r = false → lb ++ tailR lb r = lb ∧ dat r = []) := fun h => ⟨t_none lb r h, by rw [dat, h]; rfl⟩
  have GR : Hid (rok r = true → ∀ (g mx cx : Nat) (rx : List Value) (W : World), Below (w1.alloc (.cells #[.string r.name, .int .i64 r.ty, .int .i64 r.ttl, .int .i64 r.n, .string r.host, .string r.text] 25)).heap.size (w1.alloc (.cells #[.string r.name, .int .i64 r.ty, .int .i64 r.ttl, .int .i64 r.n, .string r.host, .string r.text] 25)) W → (lb ++ tailR lb r).length = mx → mx ≤ cx → Bk W g 5 ((lb ++ tailR lb r).map bv ++ rx) → Calls Tryz.prog 14 #[.slice (some ⟨g, 0, none⟩) mx cx, .int .i64 (m : Int)] W fun e w' => e = .returned (.tuple #[.agg #[.string r.name, .int .i64 r.ty, .int .i64 r.ttl, .int .i64 r.n, .string r.host, .string r.text], .int .i64 (mx : Int), .int .i64 0]) ∧ Below W.heap.size W w') := fun h g mx cx rx W hW hm hc hb => by
    have := GetRecI.record (some ⟨g, 0, none⟩) mx cx (lb ++ tailR lb r) (m : Int) W (EN.out W hW) (hm ▸ (hb.sl'.wider hb.lt)) hc (by have := HXL.out; omega)
    rw [← ML.out, back_r lb h, ML.out] at this
    unfold valR at this
    dsimp only at this
    rw [hm] at this
    exact this
  have GD : Hid (rok r = true → ∀ (g md cd : Nat) (rx : List Value) (W : World), Below (w1.alloc (.cells #[.string r.name, .int .i64 r.ty, .int .i64 r.ttl, .int .i64 r.n, .string r.host, .string r.text] 25)).heap.size (w1.alloc (.cells #[.string r.name, .int .i64 r.ty, .int .i64 r.ttl, .int .i64 r.n, .string r.host, .string r.text] 25)) W → (dat r).length = md → md ≤ cd → Bk W g 5 ((dat r).map bv ++ rx) → Calls Tryz.prog 15 #[.slice (some ⟨g, 0, none⟩) md cd, .int .i64 0, .int .i64 (md : Int), .int .i64 r.ty] W fun e w' => e = .returned (.tuple #[.agg #[.string ⟨#[]⟩, .int .i64 r.ty, .int .i64 0, .int .i64 r.n, .string r.host, .string r.text], .int .i64 0]) ∧ Below W.heap.size W w') := fun h g md cd rx W hW hm hc hb => by
    have := GetI.data (some ⟨g, 0, none⟩) md cd (dat r) 0 (md : Int) r.ty W (EN.out W hW) (hm ▸ (hb.sl'.wider hb.lt)) hc (by have := HDL.out; omega)
    rw [← hm, back_d h, hm] at this
    exact this
  have LW : Hid (Below w.heap.size w (w1.alloc (.cells #[.string r.name, .int .i64 r.ty, .int .i64 r.ttl, .int .i64 r.n, .string r.host, .string r.text] 25))) := L1.out
  clear L1 HE HS
  have L1 := Lib.hid (Below.refl (w1.alloc (.cells #[.string r.name, .int .i64 r.ty, .int .i64 r.ttl, .int .i64 r.n, .string r.host, .string r.text] 25)).heap.size (w1.alloc (.cells #[.string r.name, .int .i64 r.ty, .int .i64 r.ttl, .int .i64 r.n, .string r.host, .string r.text] 25)))
  generalize lb ++ tailR lb r = X at *
  generalize dat r = D at *
  obtain ⟨x0, x1, x2, x3, x4, x5⟩ := R1.out
  go_wp2_with fail
  refine (XI.out _ L1.out).mono ?_
  rintro e w2 ⟨gx, mx, cx, rx, rfl, hmx, hcx, hg, hb, hl⟩
  have MX := Lib.hid hmx
  have X2 := Lib.hid hb
  have L2 := Lib.hid (L1.out.trans (hl.mono L1.out.size))
  have R2 := Lib.hid (R1.out.below hl)
  clear hl L1 R1 hmx hg hb x0 x1 x2 x3 x4 x5
  obtain ⟨x0, x1, x2, x3, x4, x5⟩ := R2.out
  go_wp2_with fail
  refine (DI.out w2 L2.out).mono ?_
  rintro e w3 ⟨gd, md, cd, rd, rfl, hmd, hcd, hg, hb, hl⟩
  have MD := Lib.hid hmd
  have D3 := Lib.hid hb
  have L3 := Lib.hid (L2.out.trans (hl.mono L2.out.size))
  have R3 := Lib.hid (R2.out.below hl)
  have X3 := Lib.hid (X2.out.below hl X2.out.lt)
  clear hl L2 R2 X2 hmd hg hb x0 x1 x2 x3 x4 x5
  obtain ⟨x0, x1, x2, x3, x4, x5⟩ := R3.out
  go_wp2_with fail
  refine (XS.out w3 L3.out).mono ?_
  rintro e w4 ⟨gy, my, cy, ry, rfl, hmy, hcy, hg, hb, hl⟩
  have MY := Lib.hid hmy
  have Y4 := Lib.hid hb
  have L4 := Lib.hid (L3.out.trans (hl.mono L3.out.size))
  have R4 := Lib.hid (R3.out.below hl)
  have X4 := Lib.hid (X3.out.below hl X3.out.lt)
  have D4 := Lib.hid (D3.out.below hl D3.out.lt)
  clear hl L3 R3 X3 D3 hmy hg hb x0 x1 x2 x3 x4 x5
  go_wp2_with fail
  refine (same_same _ _ mx cx my cy X w4 (MX.out ▸ (X4.out.sl'.wider X4.out.lt)) (MY.out ▸ (Y4.out.sl'.wider Y4.out.lt)) (by have := HXL.out; have := MX.out; omega) (by have := HXL.out; have := MY.out; omega)).mono ?_
  rintro e w5 ⟨rfl, hl⟩
  have L5 := Lib.hid (L4.out.trans (hl.mono L4.out.size))
  have R5 := Lib.hid (R4.out.below hl)
  have X5 := Lib.hid (X4.out.below hl X4.out.lt)
  have D5 := Lib.hid (D4.out.below hl D4.out.lt)
  clear hl L4 R4 X4 D4 Y4 
  obtain ⟨x0, x1, x2, x3, x4, x5⟩ := R5.out
  go_wp2_with fail
  refine (DS.out w5).mono ?_
  rintro e w6 ⟨ge, me, ce, re, rfl, hme, hce, hg, hb, hl⟩
  have ME := Lib.hid hme
  have E6 := Lib.hid hb
  have L6 := Lib.hid (L5.out.trans (hl.mono L5.out.size))
  have R6 := Lib.hid (R5.out.below hl)
  have X6 := Lib.hid (X5.out.below hl X5.out.lt)
  have D6 := Lib.hid (D5.out.below hl D5.out.lt)
  clear hl L5 R5 X5 D5 hme hg hb x0 x1 x2 x3 x4 x5
  go_wp2_with fail
  refine (same_same _ _ md cd me ce D w6 (MD.out ▸ (D6.out.sl'.wider D6.out.lt)) (ME.out ▸ (E6.out.sl'.wider E6.out.lt)) (by have := HDL.out; have := MD.out; omega) (by have := HDL.out; have := ME.out; omega)).mono ?_
  rintro e w7 ⟨rfl, hl⟩
  have L7 := Lib.hid (L6.out.trans (hl.mono L6.out.size))
  have R7 := Lib.hid (R6.out.below hl)
  have X7 := Lib.hid (X6.out.below hl X6.out.lt)
  have D7 := Lib.hid (D6.out.below hl D6.out.lt)
  clear hl L6 R6 X6 D6 E6 
  obtain ⟨u, hu⟩ : ∃ u, rok r = u := ⟨_, rfl⟩
  have HU := Lib.hid hu
  rw [hu] at RO
  clear hu
  obtain ⟨x0, x1, x2, x3, x4, x5⟩ := R7.out
  go_wp2_with fail
  refine (RO.out w7 L7.out).mono ?_
  rintro e w8 ⟨rfl, hl⟩
  have L8 := Lib.hid (L7.out.trans (hl.mono L7.out.size))
  have R8 := Lib.hid (R7.out.below hl)
  have X8 := Lib.hid (X7.out.below hl X7.out.lt)
  have D8 := Lib.hid (D7.out.below hl D7.out.lt)
  clear hl L7 R7 X7 D7 x0 x1 x2 x3 x4 x5
  have hmx6 : mx ≤ 600 := by have := HXL.out; have := MX.out; omega
  have hmd8 : md ≤ 83 := by have := HDL.out; have := MD.out; omega
  cases u
  · obtain ⟨hX, hD⟩ := BAD.out HU.out
    rw [hX] at X8
    have hmd0 : md = 0 := by have := MD.out; rw [hD] at this; simpa using this.symm
    subst hmd0
    have hmm : mx = m := by have := MX.out; rw [hX, ML.out] at this; exact this.symm
    subst hmm
    have SX := Lib.hid (show Sl w8 w8.heap.size (some ⟨gx, 0, none⟩) mx lb from ML.out ▸ (X8.out.sl'.wider X8.out.lt))
    clear hX hD
    go_wp2_with fail
    refine (same_same _ _ mx cx mx cap lb w8 SX.out (SBx.out w8 L8.out) (by omega) (by omega)).mono ?_
    rintro e w9 ⟨rfl, hl⟩
    have L9 := Lib.hid (L8.out.trans (hl.mono L8.out.size))
    clear hl
    go_wp2
    go_ret
    exact ⟨rfl, LW.out.trans (L9.out.mono LW.out.size)⟩
  · have GR1 := Lib.hid (GR.out HU.out gx mx cx rx w8 L8.out MX.out hcx X8.out)
    have hq := EqlR.eql_same r
    have hgd := EqlR.grd
    have hmm : ((mx : Int) == (mx : Int)) = true := by simp
    go_wp2_with fail
    refine GR1.out.mono ?_
    rintro e w9 ⟨rfl, hl⟩
    have L9 := Lib.hid ((L8.out.trans (hl.mono L8.out.size)).alloc (L8.out.trans (hl.mono L8.out.size)).size (.cells #[.string r.name, .int .i64 r.ty, .int .i64 r.ttl, .int .i64 r.n, .string r.host, .string r.text] 25))
    have D9 := Lib.hid ((D8.out.below hl D8.out.lt).alloc (.cells #[.string r.name, .int .i64 r.ty, .int .i64 r.ttl, .int .i64 r.n, .string r.host, .string r.text] 25))
    have R9 := Lib.hid ((R8.out.below hl).alloc (.cells #[.string r.name, .int .i64 r.ty, .int .i64 r.ttl, .int .i64 r.n, .string r.host, .string r.text] 25))
    have Y9 := Lib.hid (bx_new w9 25 r)
    clear hl
    have GD1 := Lib.hid (GD.out HU.out gd md cd rd _ L9.out MD.out hcd D9.out)
    obtain ⟨x0, x1, x2, x3, x4, x5⟩ := R9.out
    go_wp2_with fail
    refine GD1.out.mono ?_
    rintro e w10 ⟨rfl, hl⟩
    have L10 := Lib.hid ((L9.out.trans (hl.mono L9.out.size)).alloc (L9.out.trans (hl.mono L9.out.size)).size (.cells #[.string r.name, .int .i64 r.ty, .int .i64 r.ttl, .int .i64 r.n, .string r.host, .string r.text] 25))
    have R10 := Lib.hid ((R9.out.below hl).alloc (.cells #[.string r.name, .int .i64 r.ty, .int .i64 r.ttl, .int .i64 r.n, .string r.host, .string r.text] 25))
    have Y10 := Lib.hid ((Y9.out.below hl).alloc (.cells #[.string r.name, .int .i64 r.ty, .int .i64 r.ttl, .int .i64 r.n, .string r.host, .string r.text] 25))
    have r10 := Lib.hid (R9.out.below hl)
    clear hl x0 x1 x2 x3 x4 x5
    have xa := (r10.out.alloc (.cells #[.string ⟨#[]⟩, .int .i64 r.ty, .int .i64 0, .int .i64 r.n, .string r.host, .string r.text] 25)).1
    have xb := (r10.out.alloc (.cells #[.string r.name, .int .i64 r.ty, .int .i64 0, .int .i64 r.n, .string r.host, .string r.text] 25)).2.2.1
    obtain ⟨x0, x1, x2, x3, x4, x5⟩ := R10.out
    obtain ⟨y0, y1, y2, y3, y4, y5⟩ := Y10.out
    go_wp2
    go_ret
    exact ⟨rfl, LW.out.trans (L10.out.mono LW.out.size)⟩
end Go.Proofs.YtcpadkehalgddaaGreatDoor.LawFields

/- What the world's shape gives the walks of this seat, and one world in which the listed tables of unicode/utf8 read as their text lays them. -/
namespace Go.Proofs.YtcpadkehalgddaaGreatDoor.LaidU
open Go.RowKit Go.Proofs.YtcpadkehalgddaaGreatDoor.Labels

theorem env {W : World} (h : W.ShapedOpen Tryz.prog) : Env W := Tryz.laysM146.s1_3 W h

def acc : List Int := [128, 191, 160, 191, 128, 159, 144, 191, 128, 143, 0, 0, 0, 0, 0, 0, 0, 0, 0, 0, 0, 0, 0, 0, 0, 0, 0, 0, 0, 0, 0, 0]
theorem gFirst : Tryz.prog.globalNamed "unicode/utf8.first" = some 1 := by kernel_rfl
theorem gAcc : Tryz.prog.globalNamed "unicode/utf8.acceptRanges" = some 2 := by kernel_rfl
/-- A block of cells, with other cells in it. -/
def put (cs : Array Value) : Obj → Obj
  | .cells _ t frozen => .cells cs t frozen
  | o => o
/-- The settled world, the two tables holding what their text lays. -/
noncomputable def laidWorld (os : Os) : World :=
  { World.holding Tryz.prog os ⟨#[], #[], []⟩ with heap := ((World.holding Tryz.prog os ⟨#[], #[], []⟩).heap.modify 1 (put (Go.Pinned.utf8FirstZ.map (fun n : Nat => Value.int .u8 (n : Int))).toArray)).modify 2 (put (acc.map (Value.int .u8)).toArray) }
def two : List (String × DataW Unit) := [("unicode/utf8.acceptRanges", Rows.laid_unicode_utf8_acceptRanges), ("unicode/utf8.first", Rows.laid_unicode_utf8_first)]
theorem laid_met (os : Os) (args : Array Value) : laidMet Tryz.prog two ((laidWorld os).forCall (fun _ _ => 0) ⟨#[], args, []⟩).memory :=
  laidMet_of_run' 8 (by kernel_rfl) (by kernel_rfl)
end Go.Proofs.YtcpadkehalgddaaGreatDoor.LaidU

/- On every slice of bytes the law FnFields returns true: a record is read back out of its encoding, where the listed tables of the library read as their text lays them (the card ties that to the program's text). -/
namespace Go.Proofs.YtcpadkehalgddaaGreatDoor.fieldsCard
open Go.ChangeShapes Go.WideShapes Go.ChangeAt Go.RowKit Go.Proofs.YtcpadkehalgddaaGreatDoor.LaidU Go.Proofs.YtcpadkehalgddaaGreatDoor.Mem

theorem own : ownKnob Tryz.prog.godebug = none := by kernel_rfl
theorem laidOut : laidOutB Tryz.prog = true := by kernel_rfl

set_option maxRecDepth 100000 in
theorem contract (H : Type) (enc : TypeId × Value → H) (W : World) (base : Nat) (args : Array Value) (ds gs : List (DataW H)) (before : List MemPlace)
    (hval0 : ∀ (j : Nat) t v, Tryz.f3.params[j]? = some t → args[j]? = some v → Value.okWide Tryz.prog W .any base t v)
    (hW : DataW.Whole enc Tryz.prog Tryz.f3.params.toList Rows.fnFieldsSpec.vars false W args.toList ds gs before) (hsh : W.ShapedOpen Tryz.prog) :
    Calls Tryz.prog 3 args W fun e W' => ∃ v, e = .returned v ∧ Rows.fnFieldsSpec.post enc Tryz.prog Tryz.f3 false true false false W args v W' := by
  have hval : ∀ (j : Nat) t v, Tryz.f3.params[j]? = some t → args[j]? = some v → Value.okWide Tryz.prog W .any base t v := hval0
  have hW' := hW
  obtain ⟨p, q, hA0, hV, rfl, _, _⟩ := hW
  have hA : DataW.TrodAll enc Tryz.prog W 0 (fun _ => true) true Tryz.f3.params.toList args.toList ds p := hA0
  rw [Tryz.params3] at hA hval
  obtain ⟨v0, vs0, d0, ds0, p0, q0, _, rfl, rfl, h0, r0⟩ := trodAll_cons hA
  obtain ⟨rfl, rfl, rfl⟩ := trodAll_nil r0
  obtain rfl : args = #[v0] := by cases args; simp_all
  obtain ⟨rfl, rfl⟩ := trodVars_none hV
  obtain ⟨a0, len0, cap0, rfl⟩ := okWide_slice Tryz.underlying22 (hval 0 22 v0 rfl rfl)
  have k0 := h0
  have lt0 : ∀ x ∈ p0, x.block < W.heap.size := by obtain ⟨m, hm⟩ := k0; exact DataW.trod_lt m _ _ _ hm
  obtain ⟨l0, s0, c0, z0⟩ : ∃ l : List UInt8, Sl W W.heap.size a0 len0 l ∧ len0 ≤ cap0 ∧ (a0 = none → len0 = 0 ∧ cap0 = 0) := by
    obtain ⟨fuel, hf⟩ := h0
    rcases open_ints Tryz.underlying22 Tryz.underlying5 (by kernel_rfl) hf with ⟨hcs, _⟩ | ⟨x, l, c, zs, hcs, _, hl, hm, hz, _, hcell, hwz⟩
    · simp [Value.cells] at hcs
      obtain ⟨rfl, rfl, rfl⟩ := hcs
      exact sl_of_row (zs := []) (.inl ⟨rfl, rfl, rfl, rfl⟩)
    · simp [Value.cells] at hcs
      obtain ⟨rfl, rfl, rfl⟩ := hcs
      exact sl_of_row (zs := zs) (.inr ⟨_, rfl, hl, hm, by simpa using hz, hcell, hwz⟩)
  clear hA0 hval0
  refine (LawFields.walk a0 len0 cap0 l0 W (env hsh) s0 c0 z0).mono fun e W' ⟨he, bel⟩ => ?_
  subst he
  exact ⟨_, rfl, _, _, _, [], _, [], hW', trodAll_mk1 (shut_bool Tryz.underlying4 _), (trodAll_cons_mk (Below.trod laidOut (by kernel_rfl) (of_decide_eq_true (by kernel_rfl)) k0 bel lt0) trodAll_mk0), rfl, bel.frame _, fun h => by cases h⟩

theorem reads (os : Os) {H : Type} (enc : TypeId × Value → H) : ∃ places, DataW.whole enc Tryz.prog ((laidWorld os).forCall (fun _ _ => 0) ⟨#[], #[.slice none 0 0], []⟩).memory Tryz.f3.params.toList Rows.fnFieldsSpec.vars false #[Value.slice none 0 0].toList 8 = some ([.nil], [], places) :=
  ⟨[], by kernel_rfl⟩

set_option maxRecDepth 100000 in
theorem lifted (os : Os) (started : os.Started) (H : Type) (enc : TypeId × Value → H) (F : Stop.Interp) :
    ReturnsInHanded {} Tryz.checked os 3 .any ((OpenSpec.ofChange Rows.fnFieldsSpec).preRow enc Tryz.prog Tryz.f3 Rows.fnFieldsRow.domain false Rows.fnFieldsRow.laid) (((OpenSpec.ofChange Rows.fnFieldsSpec).at F).post enc Tryz.prog Tryz.f3 false true false false) := by
  obtain ⟨places, hx⟩ := reads os enc
  refine returnsInHanded_of_row (C := Tryz.checked) (s := OpenSpec.ofChange Rows.fnFieldsSpec) own started (by kernel_rfl) Tryz.func3
    (witness_row_at (enc := enc) (C := Tryz.checked) false (laidWorld os) #[.slice none 0 0] rfl (by kernel_rfl) (by kernel_rfl) (by kernel_rfl)
      (OpenSpec.preRow_of_cond 8 hx (by kernel_rfl) (fun k hk => by cases hk) (by kernel_rfl) (laid_met os _))) ?_
  intro W base args ds gs before hval hW _ _ _ _ hsh _
  exact contract H enc W base args ds gs before hval hW hsh

theorem said : Rows.FnFieldsSaid :=
  OpenClaim.holds_of_cond 3 Tryz.f3 rfl rfl rfl rfl rfl rfl rfl ⟨rfl, rfl, rfl, rfl, rfl⟩ rfl rfl rfl rfl rfl (by kernel_rfl) Tryz.func3 (by kernel_rfl)
    (of_decide_eq_true (by kernel_rfl)) (by unfold Func.isWrapper; first | (rw [if_pos (by decide +kernel)]; kernel_rfl) | (rw [if_neg (by decide +kernel)]; exact ⟨rfl, rfl⟩))
    (fun os started H enc _ F => by rw [OpenClaim.pre_eq_preRow]; exact lifted os started H enc F)

theorem plain (f : FuncId) (fn : Func) (hf : Tryz.pinned.checked.prog.funcNamed "loop.example/g00497/laws.FnFields" = some f) (hfn : Tryz.pinned.checked.prog.funcs[f]? = some fn) :
    true = Tryz.pinned.checked.prog.looks [] ∧ ∀ (j : Nat) t, fn.params[j]? = some t → Tryz.pinned.checked.prog.wantsStandIn t = false := by
  obtain rfl : f = 3 := Option.some.inj ((show Tryz.prog.funcNamed "loop.example/g00497/laws.FnFields" = some 3 by kernel_rfl).symm.trans hf) |>.symm
  obtain rfl : fn = Tryz.f3 := (Option.some.inj (Tryz.func3.symm.trans hfn)).symm
  refine ⟨by kernel_rfl, fun j t ht => ?_⟩
  rw [Tryz.params3] at ht
  obtain rfl : t = 22 := by simpa using Array.mem_of_getElem? ht
  exact (show Tryz.prog.wantsStandIn 22 = false by kernel_rfl)

theorem card : Rows.FnFieldsCardSaid :=
  Claim7.holds_tied_plain_at .later [] _ _ _ _ said (fun _ h => by cases h) (by kernel_rfl) (fun _ h => by cases h) fnFields_row_tie rfl ⟨rfl, rfl⟩ (by kernel_rfl) rfl plain (by kernel_rfl)
end Go.Proofs.YtcpadkehalgddaaGreatDoor.fieldsCard
namespace Go.Proofs.YtcpadkehalgddaaGreatDoor
theorem fnFields_holds : Rows.FnFieldsCardSaid := fieldsCard.card
end Go.Proofs.YtcpadkehalgddaaGreatDoor
