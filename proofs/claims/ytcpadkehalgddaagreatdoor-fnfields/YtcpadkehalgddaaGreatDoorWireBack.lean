/- Plain mathematics: a name is read back out of its encoding, with and without pointers. -/
import Derived.Test.YtcpadkehalgddaaGreatDoorWireGood
import Derived.Test.YtcpadkehalgddaaGreatDoorPutSpec
namespace Go.Proofs.YtcpadkehalgddaaGreatDoor.WireBack
open Go.Proofs.YtcpadkehalgddaaGreatDoor.Mem Go.Proofs.YtcpadkehalgddaaGreatDoor.MemS Go.Proofs.YtcpadkehalgddaaGreatDoor.JoinSpec Go.Proofs.YtcpadkehalgddaaGreatDoor.Split Go.Proofs.YtcpadkehalgddaaGreatDoor.JoinLab Go.Proofs.YtcpadkehalgddaaGreatDoor.Label Go.Proofs.YtcpadkehalgddaaGreatDoor.Fold Go.Proofs.YtcpadkehalgddaaGreatDoor.GetLabel Go.Proofs.YtcpadkehalgddaaGreatDoor.PutLabel Go.Proofs.YtcpadkehalgddaaGreatDoor.NameOk Go.Proofs.YtcpadkehalgddaaGreatDoor.Plain Go.Proofs.YtcpadkehalgddaaGreatDoor.Place Go.Proofs.YtcpadkehalgddaaGreatDoor.Put Go.Proofs.YtcpadkehalgddaaGreatDoor.PutSpec Go.Proofs.YtcpadkehalgddaaGreatDoor.WireMath Go.Proofs.YtcpadkehalgddaaGreatDoor.WireGood

theorem fo_ok {x : UInt8} (h : okB x = true) : fo x = x := by
  unfold okB okC at h
  have h := of_decide_eq_true h
  unfold fo
  rw [if_neg (by omega)]
theorem Fo_ok {p : ByteArray} (h : lok p.data.toList = true) : Fo p = p := by
  apply text_ext
  rw [Fo_list]
  rw [lok, Bool.and_eq_true] at h
  have h2 := List.all_eq_true.1 h.2
  conv => rhs; rw [← List.map_id p.data.toList]
  exact List.map_congr_left fun x hx => fo_ok (h2 x hx)
theorem tailL_ok {p : ByteArray} (h : lok p.data.toList = true) : tailL p = one p.size ++ p.data.toList := by rw [tailL, h]; rfl
theorem tailL_two {p : ByteArray} (h : lok p.data.toList = true) : (tailL p).length = 1 + p.size ∧ 1 ≤ p.size ∧ p.size ≤ 12 := by
  have h1 := PutLabel.lok_len h
  have hz : p.data.toList.length = p.size := by simp
  rw [tailL_ok h, List.length_append, one_len, hz]
  omega
theorem get_mid (P Q R : List UInt8) (i : Nat) (h : i < Q.length) : (P ++ Q ++ R).getD (P.length + i) 0 = Q[i] := by
  rw [List.getD_eq_getElem?_getD, List.append_assoc, List.getElem?_append_right (by omega), Nat.add_sub_cancel_left, List.getElem?_append_left h, List.getElem?_eq_getElem h]
  rfl
theorem bt_mid (P Q R : List UInt8) (i : Nat) (h : i < Q.length) : bt (P ++ Q ++ R) ((P.length : Int) + (i : Int)) = (Q[i].toNat : Int) := by
  unfold bt
  rw [show ((P.length : Int) + (i : Int)).toNat = P.length + i by omega, get_mid P Q R i h]
/-- A label stands where its encoding stands. -/
theorem has_here (P R : List UInt8) (p : ByteArray) (h : lok p.data.toList = true) : has (P ++ tailL p ++ R) (P.length : Int) = some (p, P.length + (tailL p).length) := by
  obtain ⟨hl, h1, h2⟩ := tailL_two h
  have hz : p.data.toList.length = p.size := by simp
  have hlt : P.length < (P ++ tailL p ++ R).length := by rw [List.length_append, List.length_append]; omega
  have hb : (P ++ tailL p ++ R)[P.length].toNat = p.size := by
    have e : (P ++ tailL p ++ R)[P.length] = UInt8.ofNat p.size := by
      rw [List.getElem_append_left (by rw [List.length_append]; omega), List.getElem_append_right (Nat.le_refl _)]
      simp only [tailL_ok h, Nat.sub_self]
      rfl
    rw [e, UInt8.toNat_ofNat_of_lt' (by simp [UInt8.size]; omega)]
  have hp : piece (P ++ tailL p ++ R) P.length p.size = p := by
    apply text_ext
    rw [piece_list, tailL_ok h]
    have e : P ++ (one p.size ++ p.data.toList) ++ R = (P ++ one p.size) ++ (p.data.toList ++ R) := by simp [List.append_assoc]
    have e2 : P.length + 1 = (P ++ one p.size).length := by rw [List.length_append, one_len]
    rw [e, e2, List.drop_left, List.take_left' hz]
  rw [has_in _ _ hlt, hb, hp, Fo_ok h, if_pos ⟨by rw [List.length_append, List.length_append]; omega, h⟩, hl]
  congr 2
  omega

/-- The names that a valid name begins with are valid. -/
theorem jo_grow (L : List ByteArray) : ∀ k, k < L.length → (jo (L.take k)).length ≤ (jo (L.take (k + 1))).length := fun k h => by
  by_cases h0 : 0 < k
  · rw [jo_step L k h0 h, List.length_append, List.length_append]
    omega
  · obtain rfl : k = 0 := by omega
    simp [jo, Lib.join_nil]
theorem jo_upto (L : List ByteArray) (k : Nat) : ∀ d, k + d ≤ L.length → (jo (L.take k)).length ≤ (jo (L.take (k + d))).length
  | 0, _ => Nat.le_refl _
  | d + 1, h => by
    have h1 := jo_upto L k d (by omega)
    have h2 := jo_grow L (k + d) (by omega)
    rw [show k + (d + 1) = k + d + 1 by omega]
    omega
theorem okL_take {L : List ByteArray} (h : okL L = true) (k : Nat) : okL (L.take k) = true := by
  rw [okL, List.all_eq_true] at h ⊢
  exact fun x hx => h x (List.mem_of_mem_take hx)
theorem nm_of {L : List ByteArray} (h : okL L = true) : Nm (Jo L) = (decide ((Jo L).size ≤ 50) && decide (L.length ≤ 6)) := by
  rw [Nm, lab_ok h, h]
  rfl
theorem nm_take {L : List ByteArray} (h : okL L = true) (hn : Nm (Jo L) = true) (k : Nat) : Nm (Jo (L.take k)) = true := by
  by_cases hk : k ≤ L.length
  · rw [nm_of h, Bool.and_eq_true] at hn
    rw [nm_of (okL_take h k), Bool.and_eq_true]
    have h1 := of_decide_eq_true hn.1
    have h2 := of_decide_eq_true hn.2
    have h3 := jo_upto L k (L.length - k) (by omega)
    rw [show k + (L.length - k) = L.length by omega, List.take_length] at h3
    rw [Jo_size] at h1
    refine ⟨decide_eq_true (by rw [Jo_size]; omega), decide_eq_true (by rw [List.length_take]; omega)⟩
  · rw [List.take_of_length_le (by omega)]
    exact hn
theorem nm_pre {T D : List ByteArray} (h : okL D = true) (hn : Nm (Jo D) = true) (hp : T <+: D) : Nm (Jo T) = true := by
  obtain ⟨r, rfl⟩ := hp
  have := nm_take h hn T.length
  rwa [List.take_left] at this

/-- Labels that stand one behind another are read one after another. -/
theorem rn_tls (P : List UInt8) (m : Int) (j : Nat) (x : Int) (R : List UInt8) : ∀ (T L0 : List ByteArray) (Q : List UInt8), okL (L0 ++ T) = true → Nm (Jo (L0 ++ T)) = true →
    rn (P ++ Q ++ tls T ++ R) L0 ((P ++ Q).length : Int) m j x = rn (P ++ Q ++ tls T ++ R) (L0 ++ T) ((P ++ Q ++ tls T).length : Int) m j x
  | [], L0, Q, _, _ => by simp [tls_nil]
  | p :: T, L0, Q, hok, hnm => by
    have hp : lok p.data.toList = true := okL_mem hok p (by simp)
    obtain ⟨hl, h1, h2⟩ := tailL_two hp
    have e : P ++ Q ++ tls (p :: T) ++ R = P ++ Q ++ tailL p ++ (tls T ++ R) := by rw [tls_cons]; simp [List.append_assoc]
    have hh := has_here (P ++ Q) (tls T ++ R) p hp
    rw [← e] at hh
    have hb := has_bt hh
    have hs := has_some hh
    have ih := rn_tls P m j x R T (L0 ++ [p]) (Q ++ tailL p) (by rw [List.append_assoc]; exact hok) (by rw [List.append_assoc]; exact hnm)
    have e2 : P ++ (Q ++ tailL p) ++ tls T ++ R = P ++ Q ++ tls (p :: T) ++ R := by rw [tls_cons]; simp [List.append_assoc]
    have e3 : P ++ (Q ++ tailL p) ++ tls T = P ++ Q ++ tls (p :: T) := by rw [tls_cons]; simp [List.append_assoc]
    have e4 : ((P ++ (Q ++ tailL p)).length : Int) = (((P ++ Q).length + (tailL p).length : Nat) : Int) := by rw [← List.append_assoc, List.length_append]
    have e5 : L0 ++ [p] ++ T = L0 ++ p :: T := by simp
    rw [e2, e3, e4, e5] at ih
    rw [← ih]
    refine rn_label ?_ hb.1 (by omega) hh ?_
    · omega
    · exact nm_pre hok hnm ⟨T, by simp⟩

/-- The end of a name. -/
theorem rn_stop (P R : List UInt8) (L : List ByteArray) (m : Int) (j : Nat) (x : Int) : rn (P ++ zer ++ R) L (P.length : Int) m j x = (0, L, if x < 0 then (P.length : Int) + 1 else x, j) := by
  have hb : bt (P ++ zer ++ R) (P.length : Int) = 0 := by
    have h1 := bt_mid P zer R 0 (by simp [zer, one_len])
    have h2 : (zer[0]'(by simp [zer, one_len])).toNat = 0 := rfl
    rw [h2] at h1
    simpa using h1
  refine rn_zero ?_ hb
  rw [List.length_append, List.length_append, zer, one_len]
  omega

/-- Out of the plain encoding. -/
theorem back_plain (l : List UInt8) (s : ByteArray) (h : Nm s = true) : rn (l ++ tailP s) [] (l.length : Int) (l.length : Int) 0 (-1) = (0, Lab s, ((l ++ tailP s).length : Int), 0) := by
  have hok := (nm_parts h).2.2
  have e : l ++ tailP s = l ++ [] ++ tls (Lab s) ++ zer := by rw [tailP, if_pos h]; simp [List.append_assoc]
  have h1 := rn_tls l (l.length : Int) 0 (-1) zer (Lab s) [] [] (by simpa using hok) (by rw [List.nil_append, jo_lab]; exact h)
  rw [← e, List.append_nil, List.nil_append] at h1
  rw [h1]
  have h2 := rn_stop (l ++ tls (Lab s)) [] (Lab s) (l.length : Int) 0 (-1)
  have e2 : l ++ tls (Lab s) ++ zer ++ [] = l ++ tailP s := by rw [e]; simp
  rw [e2] at h2
  rw [h2, if_pos (by omega), e]
  have e3 : ((l ++ [] ++ tls (Lab s) ++ zer).length : Int) = ((l ++ tls (Lab s)).length : Int) + 1 := by simp [zer, one_len]; omega
  rw [e3]

/-- More fuel changes no name that was read. -/
theorem go_more (l : List UInt8) (D : List ByteArray) (y : Int) (i : Nat) : ∀ f g L k m j x, go l f L k m j x = (0, D, y, i) → f ≤ g → go l g L k m j x = (0, D, y, i)
  | 0, _, _, _, _, _, _, h, _ => by simp [go] at h
  | _ + 1, 0, _, _, _, _, _, _, h => absurd h (by omega)
  | f + 1, g + 1, L, k, m, j, x, h, hfg => by
    unfold go at h ⊢
    split at h
    · simp at h
    · rename_i hk
      rw [if_neg hk]
      split at h
      · rename_i h0
        rw [if_pos h0]
        exact h
      · rename_i h0
        rw [if_neg h0]
        split at h
        · rename_i h192
          rw [if_pos h192]
          split at h
          · simp at h
          · rename_i h1
            rw [if_neg h1]
            split at h
            · simp at h
            · rename_i h2
              rw [if_neg h2]
              exact go_more l D y i f g _ _ _ _ _ h (by omega)
        · rename_i h192
          rw [if_neg h192]
          cases hh : has l k with
          | none =>
            rw [hh] at h
            simp only [Prod.mk.injEq] at h
            have := h.1
            split at this <;> omega
          | some q =>
            obtain ⟨p, e⟩ := q
            rw [hh] at h
            dsimp only at h ⊢
            split at h
            · rename_i h3
              rw [if_pos h3]
              exact go_more l D y i f g _ _ _ _ _ h (by omega)
            · simp at h
/-- What has been read stays at the head of what is read. -/
theorem go_ext (l : List UInt8) (D : List ByteArray) (y : Int) (i : Nat) : ∀ f L k m j x, go l f L k m j x = (0, D, y, i) → L <+: D
  | 0, _, _, _, _, _, h => by simp [go] at h
  | f + 1, L, k, m, j, x, h => by
    unfold go at h
    split at h
    · simp at h
    · split at h
      · simp only [Prod.mk.injEq, true_and] at h
        exact h.1 ▸ List.prefix_refl _
      · split at h
        · split at h
          · simp at h
          · split at h
            · simp at h
            · exact go_ext l D y i f _ _ _ _ _ h
        · cases hh : has l k with
          | none =>
            rw [hh] at h
            simp only [Prod.mk.injEq] at h
            have := h.1
            split at this <;> omega
          | some q =>
            obtain ⟨p, e⟩ := q
            rw [hh] at h
            dsimp only at h
            split at h
            · exact (List.prefix_append L [p]).trans (go_ext l D y i f _ _ _ _ _ h)
            · simp at h
theorem bt_left (l R : List UInt8) (k : Int) (h0 : 0 ≤ k) (h : k < (l.length : Int)) : bt (l ++ R) k = bt l k := by
  unfold bt
  rw [List.getD_eq_getElem?_getD, List.getD_eq_getElem?_getD, List.getElem?_append_left (by omega)]
theorem has_left {l : List UInt8} (R : List UInt8) {k : Int} {p : ByteArray} {e : Nat} (h : has l k = some (p, e)) : has (l ++ R) k = some (p, e) := by
  have hs := has_some h
  obtain ⟨k', rfl⟩ := Int.eq_ofNat_of_zero_le hs.1
  have hkl : k' < l.length := by omega
  have hkl2 : k' < (l ++ R).length := by rw [List.length_append]; omega
  have hg : (l ++ R)[k'] = l[k'] := List.getElem_append_left hkl
  rw [has_in l k' hkl] at h
  split at h
  · rename_i hh
    have hp : piece (l ++ R) k' l[k'].toNat = piece l k' l[k'].toNat := by
      apply text_ext
      rw [piece_list, piece_list, List.drop_append_of_le_length (by omega), List.take_append_of_le_length (by rw [List.length_drop]; omega)]
    rw [has_in _ k' hkl2, hg, hp, if_pos ⟨by rw [List.length_append]; omega, hh.2⟩]
    exact h
  · cases h
/-- A name that is read is read behind other labels and with more bytes behind, too. -/
theorem go_left (l R : List UInt8) (T D : List ByteArray) (y : Int) (i : Nat) (hok : okL (T ++ D) = true) (hnm : Nm (Jo (T ++ D)) = true) : ∀ f L k m j x, go l f L k m j x = (0, D, y, i) → ∀ j' x', 0 ≤ x' →
    ∃ i', go (l ++ R) f (T ++ L) k m j' x' = (0, T ++ D, x', i')
  | 0, _, _, _, _, _, h, _, _, _ => by simp [go] at h
  | f + 1, L, k, m, j, x, h, j', x', hx => by
    have hext := go_ext l D y i (f + 1) L k m j x h
    unfold go at h ⊢
    split at h
    · simp at h
    · rename_i hk
      have hb := bt_left l R k (by omega) (by omega)
      rw [if_neg (by rw [List.length_append]; omega), hb]
      split at h
      · rename_i h0
        rw [if_pos h0]
        simp only [Prod.mk.injEq, true_and] at h
        exact ⟨j', by rw [h.1, if_neg (by omega)]⟩
      · rename_i h0
        rw [if_neg h0]
        split at h
        · rename_i h192
          rw [if_pos h192]
          split at h
          · simp at h
          · rename_i h1
            have ht : tg (l ++ R) k = tg l k := by unfold tg; rw [hb, bt_left l R (k + 1) (by omega) (by omega)]
            rw [if_neg (by rw [List.length_append]; omega), ht]
            split at h
            · simp at h
            · rename_i h2
              rw [if_neg h2, if_neg (by omega)]
              exact go_left l R T D y i hok hnm f _ _ _ _ _ h _ _ hx
        · rename_i h192
          rw [if_neg h192]
          cases hh : has l k with
          | none =>
            rw [hh] at h
            simp only [Prod.mk.injEq] at h
            have := h.1
            split at this <;> omega
          | some q =>
            obtain ⟨p, e⟩ := q
            rw [hh] at h
            rw [has_left R hh]
            dsimp only at h ⊢
            split at h
            · have hx2 := go_ext l D y i f _ _ _ _ _ h
              have hpre : T ++ L ++ [p] <+: T ++ D := by
                rw [List.append_assoc]
                exact (List.prefix_append_right_inj T).2 hx2
              rw [if_pos (nm_pre hok hnm hpre), List.append_assoc]
              exact go_left l R T D y i hok hnm f _ _ _ _ _ h _ _ hx
            · simp at h
theorem mu_more (l R : List UInt8) (k m : Int) : mu l k m ≤ mu (l ++ R) k m := by
  unfold mu
  rw [List.length_append]
  have h : m.toNat * (l.length + 1) ≤ m.toNat * (l.length + R.length + 1) := Nat.mul_le_mul_left _ (by omega)
  omega
theorem rn_left {l : List UInt8} (R : List UInt8) {T D : List ByteArray} {k m x y : Int} {j i : Nat} (h : rn l [] k m j x = (0, D, y, i)) (hok : okL (T ++ D) = true) (hnm : Nm (Jo (T ++ D)) = true) (j' : Nat) (x' : Int) (hx : 0 ≤ x') :
    ∃ i', rn (l ++ R) T k m j' x' = (0, T ++ D, x', i') := by
  unfold rn at h ⊢
  obtain ⟨i', h1⟩ := go_left l R T D y i hok hnm _ _ _ _ _ _ h j' x' hx
  rw [List.append_nil] at h1
  exact ⟨i', go_more _ _ _ _ _ _ _ _ _ _ _ h1 (by have := mu_more l R k m; omega)⟩

/-- How PutName's tail is built. -/
theorem pn_split (l : List UInt8) : ∀ L : List ByteArray, pn l L = tls L ++ zer ∨ ∃ (k q : Nat), k < L.length ∧ q < l.length ∧ q ≤ 16383 ∧ hit l (Jo (L.drop k)) q = true ∧ pn l L = tls (L.take k) ++ ptr (q : Int)
  | [] => Or.inl (by rw [pn, tls_nil]; rfl)
  | p :: r => by
    rw [pn]
    split
    · rename_i h
      obtain ⟨q, hq, h1, h2, h3⟩ := pl_some h
      exact Or.inr ⟨0, q, by simp, h1, h2, h3, by rw [hq]; simp [tls_nil]⟩
    · rcases pn_split l r with h | ⟨k, q, hk, h1, h2, h3, h4⟩
      · exact Or.inl (by rw [h, tls_cons, List.append_assoc])
      · exact Or.inr ⟨k + 1, q, by simpa using hk, h1, h2, by simpa using h3, by rw [h4, List.take_succ_cons, tls_cons, List.append_assoc]⟩
theorem ptr_bytes (q : Nat) (h : q ≤ 16383) : ((ptr (q : Int))[0]'(by rw [ptr_len]; omega)).toNat = 192 + q / 256 ∧ ((ptr (q : Int))[1]'(by rw [ptr_len]; omega)).toNat = q % 256 := by
  have e1 : ((49152 + (q : Int)) / 256).toNat = 192 + q / 256 := by omega
  have e2 : ((49152 + (q : Int)) % 256).toNat = q % 256 := by omega
  constructor
  · show (UInt8.ofNat ((49152 + (q : Int)) / 256).toNat).toNat = _
    rw [e1, UInt8.toNat_ofNat_of_lt' (by simp [UInt8.size]; omega)]
  · show (UInt8.ofNat ((49152 + (q : Int)) % 256).toNat).toNat = _
    rw [e2, UInt8.toNat_ofNat_of_lt' (by simp [UInt8.size]; omega)]

/-- Out of the encoding with pointers. -/
theorem back_name (l : List UInt8) (s : ByteArray) (h : Nm s = true) : ∃ i, rn (l ++ tailN l s) [] (l.length : Int) (l.length : Int) 0 (-1) = (0, Lab s, ((l ++ tailN l s).length : Int), i) := by
  obtain ⟨_, _, hok⟩ := nm_parts h
  have hnm : Nm (Jo (Lab s)) = true := by rw [jo_lab]; exact h
  have e0 : tailN l s = pn l (Lab s) := by rw [tailN, if_pos h]
  rcases pn_split l (Lab s) with e | ⟨k, q, hk, hq1, hq2, hh, e⟩
  · have e1 : tailN l s = tailP s := by rw [e0, e, tailP, if_pos h]
    rw [e1]
    exact ⟨0, back_plain l s h⟩
  · rw [e0, e]
    have ht : okL ((Lab s).take k) = true := okL_take hok k
    have hn : Nm (Jo ((Lab s).take k)) = true := nm_take hok hnm k
    have h1 := rn_tls l (l.length : Int) 0 (-1) (ptr (q : Int)) ((Lab s).take k) [] [] (by simpa using ht) (by simpa using hn)
    rw [List.append_nil, List.nil_append] at h1
    obtain ⟨hp0, hp1⟩ := ptr_bytes q hq2
    have hb0 : bt (l ++ tls ((Lab s).take k) ++ ptr (q : Int)) ((l ++ tls ((Lab s).take k)).length : Int) = ((192 + q / 256 : Nat) : Int) := by
      have := bt_mid (l ++ tls ((Lab s).take k)) (ptr (q : Int)) [] 0 (by rw [ptr_len]; omega)
      rw [hp0, List.append_nil] at this
      simpa using this
    have hb1 : bt (l ++ tls ((Lab s).take k) ++ ptr (q : Int)) (((l ++ tls ((Lab s).take k)).length : Int) + 1) = ((q % 256 : Nat) : Int) := by
      have := bt_mid (l ++ tls ((Lab s).take k)) (ptr (q : Int)) [] 1 (by rw [ptr_len]; omega)
      rw [hp1, List.append_nil] at this
      simpa using this
    have htg : tg (l ++ tls ((Lab s).take k) ++ ptr (q : Int)) ((l ++ tls ((Lab s).take k)).length : Int) = (q : Int) := by
      unfold tg
      rw [hb0, hb1]
      omega
    have hlen : ((l ++ tls ((Lab s).take k) ++ ptr (q : Int)).length : Int) = ((l ++ tls ((Lab s).take k)).length : Int) + 2 := by
      rw [List.length_append, ptr_len]
      omega
    have h2 := rn_jump (l := l ++ tls ((Lab s).take k) ++ ptr (q : Int)) (L := (Lab s).take k) (k := ((l ++ tls ((Lab s).take k)).length : Int)) (m := (l.length : Int)) (j := 0) (x := -1) (by omega) (by rw [hb0]; omega) (by omega) (by rw [htg]; omega)
    rw [htg, if_pos (by omega)] at h2
    obtain ⟨hd1, hd2⟩ := hit_iff.1 hh
    obtain ⟨c, D, y, i, hR⟩ : ∃ c D y i, rn l [] (q : Int) (q : Int) 0 (-1) = (c, D, y, i) := ⟨_, _, _, _, rfl⟩
    unfold dn at hd1 hd2
    rw [hR] at hd1 hd2
    dsimp only at hd1 hd2
    subst hd1
    have hDok := (rn_good hR).1
    have hD : D = (Lab s).drop k := by
      have e1 := lab_ok hDok
      have hdr : okL ((Lab s).drop k) = true := by
        rw [okL, List.all_eq_true] at hok ⊢
        exact fun x hx => hok x (List.mem_of_mem_drop hx)
      have e2 := lab_ok hdr
      rw [← e1, hd2, e2]
    subst hD
    have hfull : (Lab s).take k ++ (Lab s).drop k = Lab s := List.take_append_drop k _
    obtain ⟨i', h3⟩ := rn_left (tls ((Lab s).take k) ++ ptr (q : Int)) (T := (Lab s).take k) hR (by rw [hfull]; exact hok) (by rw [hfull]; exact hnm) 1 (((l ++ tls ((Lab s).take k)).length : Int) + 2) (by omega)
    rw [hfull, ← List.append_assoc] at h3
    refine ⟨i', ?_⟩
    rw [← List.append_assoc, h1, h2, hlen]
    exact h3

theorem pn_short (l : List UInt8) : ∀ L : List ByteArray, okL L = true → (pn l L).length ≤ (tls L).length + 1
  | [], _ => by simp [pn, zer, one_len]
  | p :: r, h => by
    have hp := tailL_two (okL_mem h p (by simp))
    have ih := pn_short l r (by rw [okL, List.all_cons, Bool.and_eq_true] at h; exact h.2)
    rw [pn, tls_cons, List.length_append]
    split
    · rw [ptr_len]
      omega
    · rw [List.length_append]
      omega
/-- The encoding with pointers is no longer. -/
theorem name_short (l : List UInt8) (s : ByteArray) (h : Nm s = true) : (tailN l s).length ≤ (tailP s).length := by
  have h1 := pn_short l (Lab s) (nm_parts h).2.2
  rw [tailN, if_pos h, tailP, if_pos h, List.length_append, zer, one_len]
  exact h1
/-- A name that has just been put is put again by one pointer. -/
theorem again (l : List UInt8) (s : ByteArray) (h : Nm s = true) (hl : l.length ≤ 16383) : (tailN (l ++ tailN l s) s).length ≤ 2 := by
  rw [show tailN (l ++ tailN l s) s = pn (l ++ tailN l s) (Lab s) by rw [tailN, if_pos h]]
  cases hL : Lab s with
  | nil => simp [pn, zer, one_len]
  | cons p r =>
    have hs : Jo (p :: r) = s := by rw [← hL, jo_lab]
    rw [pn]
    split
    · rw [ptr_len]
      exact Nat.le_refl _
    · rename_i hno
      exfalso
      rw [hs] at hno
      obtain ⟨i, hb⟩ := back_name l s h
      have hne : 0 < (tailN l s).length := by
        rw [tailN, if_pos h, hL, pn]
        split
        · rw [ptr_len]; omega
        · rw [List.length_append]
          have := tailL_two (okL_mem (nm_parts h).2.2 p (by rw [hL]; simp))
          omega
      have hm := pl_none hno l.length (by rw [List.length_append]; omega) hl
      have hy : hit (l ++ tailN l s) s l.length = true := by
        rw [hit_iff]
        unfold dn
        rw [hb]
        exact ⟨rfl, jo_lab s⟩
      rw [hy] at hm
      cases hm
end Go.Proofs.YtcpadkehalgddaaGreatDoor.WireBack
