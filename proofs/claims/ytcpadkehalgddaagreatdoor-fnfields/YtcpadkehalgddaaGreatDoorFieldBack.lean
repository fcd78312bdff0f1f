/- Plain mathematics: what was put as a record is read as that record, whatever stands ahead of it and behind it. Nothing of the program is named here but the seat itself. -/
import Derived.Test.YtcpadkehalgddaaGreatDoorFieldMath
import Derived.Test.YtcpadkehalgddaaGreatDoorWireBack
namespace Go.Proofs.YtcpadkehalgddaaGreatDoor.FieldBack
open Go.Proofs.YtcpadkehalgddaaGreatDoor.Mem Go.Proofs.YtcpadkehalgddaaGreatDoor.MemR Go.Proofs.YtcpadkehalgddaaGreatDoor.JoinSpec Go.Proofs.YtcpadkehalgddaaGreatDoor.Split Go.Proofs.YtcpadkehalgddaaGreatDoor.JoinLab Go.Proofs.YtcpadkehalgddaaGreatDoor.GetLabel Go.Proofs.YtcpadkehalgddaaGreatDoor.PutLabel Go.Proofs.YtcpadkehalgddaaGreatDoor.NameOk Go.Proofs.YtcpadkehalgddaaGreatDoor.TextR Go.Proofs.YtcpadkehalgddaaGreatDoor.RecOk Go.Proofs.YtcpadkehalgddaaGreatDoor.WireMath Go.Proofs.YtcpadkehalgddaaGreatDoor.WireBack Go.Proofs.YtcpadkehalgddaaGreatDoor.Plain Go.Proofs.YtcpadkehalgddaaGreatDoor.PutSpec Go.Proofs.YtcpadkehalgddaaGreatDoor.Put Go.Proofs.YtcpadkehalgddaaGreatDoor.Get Go.Proofs.YtcpadkehalgddaaGreatDoor.FieldMath

/-- A name that is read is read with more bytes behind, too. -/
theorem go_behind (l R : List UInt8) (D : List ByteArray) (y : Int) (i : Nat) : ∀ f L k m j x, go l f L k m j x = (0, D, y, i) → go (l ++ R) f L k m j x = (0, D, y, i)
  | 0, _, _, _, _, _, h => by simp [go] at h
  | f + 1, L, k, m, j, x, h => by
    unfold go at h ⊢
    split at h
    · simp at h
    · rename_i hk
      have hb := bt_left l R k (by omega) (by omega)
      rw [if_neg (by rw [List.length_append]; omega), hb]
      split at h
      · rename_i h0
        rw [if_pos h0]
        exact h
      · rename_i h0
        rw [if_neg h0]
        split at h
        · rename_i h192
          rw [if_pos h192]
          split at h
          · simp at h
          · rename_i h1
            have ht : tg (l ++ R) k = tg l k := by unfold tg; rw [hb, bt_left l R (k + 1) (by omega) (by omega)]
            rw [if_neg (by rw [List.length_append]; omega), ht]
            split at h
            · simp at h
            · rename_i h2
              rw [if_neg h2]
              exact go_behind l R D y i f _ _ _ _ _ h
        · rename_i h192
          rw [if_neg h192]
          cases hh : has l k with
          | none =>
            rw [hh] at h
            simp only [Prod.mk.injEq] at h
            have := h.1
            split at this <;> omega
          | some q =>
            obtain ⟨p, e⟩ := q
            rw [hh] at h
            rw [has_left R hh]
            dsimp only at h ⊢
            split at h
            · rename_i h3
              rw [if_pos h3]
              exact go_behind l R D y i f _ _ _ _ _ h
            · simp at h
theorem rn_behind {l : List UInt8} (R : List UInt8) {D : List ByteArray} {k m x y : Int} {j i : Nat} (h : rn l [] k m j x = (0, D, y, i)) : rn (l ++ R) [] k m j x = (0, D, y, i) := by
  unfold rn at h ⊢
  exact go_more _ _ _ _ _ _ _ _ _ _ _ (go_behind l R D y i _ _ _ _ _ _ h) (by have := mu_more l R k m; omega)

theorem of_byte (x : Int) (h0 : 0 ≤ x) (h1 : x < 256) : ((UInt8.ofNat x.toNat).toNat : Int) = x := by
  rw [UInt8.toNat_ofNat_of_lt' (by simp [UInt8.size]; omega), Int.toNat_of_nonneg h0]
theorem be_quad (k : Int) (h0 : 0 ≤ k) (h1 : k ≤ 2147483647) : be (quad k) = k := by
  have e1 := of_byte (k / 16777216) (by omega) (by omega)
  have e2 := of_byte (k / 65536 % 256) (by omega) (by omega)
  have e3 := of_byte (k / 256 % 256) (by omega) (by omega)
  have e4 := of_byte (k % 256) (by omega) (by omega)
  simp only [be, quad, List.foldl_cons, List.foldl_nil, e1, e2, e3, e4]
  omega
theorem be_two (k : Int) (h0 : 0 ≤ k) (h1 : k ≤ 65535) : be (two k) = k := by
  have e1 := of_byte (k / 256) (by omega) (by omega)
  have e2 := of_byte (k % 256) (by omega) (by omega)
  simp only [be, two, List.foldl_cons, List.foldl_nil, e1, e2]
  omega
theorem mid (P X Q : List UInt8) (m : Nat) (h : X.length = m) : ((P ++ X ++ Q).drop P.length).take m = X := by
  rw [List.append_assoc, List.drop_left, ← h, List.take_left]
theorem n4_mid (P Q : List UInt8) (x : Int) (h0 : 0 ≤ x) (h1 : x ≤ 2147483647) (k : Int) (hk : k = (P.length : Int)) : n4 (P ++ quad x ++ Q) k = (x, true) := by
  subst hk
  have hl : (quad x).length = 4 := rfl
  have e : be (((P ++ quad x ++ Q).drop P.length).take 4) = x := by rw [mid _ _ _ 4 hl]; exact be_quad x h0 h1
  rw [n4, if_pos ⟨by omega, by simp only [List.length_append, hl]; omega⟩, Int.toNat_natCast, e, if_neg (by omega)]
theorem n2_mid (P Q : List UInt8) (x : Int) (h0 : 0 ≤ x) (h1 : x ≤ 65535) (k : Int) (hk : k = (P.length : Int)) : n2 (P ++ two x ++ Q) k = (x, true) := by
  subst hk
  have hl : (two x).length = 2 := rfl
  have e : be (((P ++ two x ++ Q).drop P.length).take 2) = x := by rw [mid _ _ _ 2 hl]; exact be_two x h0 h1
  rw [n2, if_pos ⟨by omega, by simp only [List.length_append, hl]; omega⟩, Int.toNat_natCast, e]
theorem emp_eq {s : ByteArray} (h : emp s = true) : s = ⟨#[]⟩ := by
  have h : s.size = 0 := of_decide_eq_true h
  obtain ⟨a⟩ := s
  have h : a.size = 0 := h
  rw [Array.eq_empty_of_size_eq_zero h]
theorem nul_eq {n : Int} (h : nul n = true) : n = 0 := of_decide_eq_true h
theorem inn_eq {x a b : Int} (h : inn x a b = true) : a ≤ x ∧ x ≤ b := of_decide_eq_true h
theorem name_mid (P Q : List UInt8) (s : ByteArray) (h : Nm s = true) (k : Int) (hk : k = (P.length : Int)) : rn (P ++ tailP s ++ Q) [] k k 0 (-1) = (0, Lab s, ((P ++ tailP s).length : Int), 0) := by
  subst hk
  exact rn_behind Q (back_plain P s h)
/-- The data of a record without name and time to live. -/
def core (r : Rec) : Rec := ⟨⟨#[]⟩, r.ty, 0, r.n, r.host, r.text⟩
theorem back_data (P Q : List UInt8) (r : Rec) (h : rok r = true) (k : Int) (hk : k = (P.length : Int)) : gd (P ++ dat r ++ Q) k ((dat r).length : Int) r.ty = (0, core r) := by
  have hd : dat r = dta r.ty r.n r.host r.text := if_pos h
  have hl := dat_len r
  rw [rok, Bool.and_eq_true, Bool.and_eq_true] at h
  have h := h.2.2
  have hn : 0 ≤ ((dat r).length : Int) ∧ ((dat r).length : Int) ≤ 255 := by omega
  have ho : ¬ (k < 0 ∨ ((P ++ dat r ++ Q).length : Int) - ((dat r).length : Int) < k) := by subst hk; simp only [List.length_append]; omega
  obtain ⟨nm, ty, ttl, n, host, text⟩ := r
  unfold core
  dsimp only at *
  by_cases h1 : ty = 1
  · subst h1
    rw [dko_1, Bool.and_eq_true, Bool.and_eq_true] at h
    obtain rfl := emp_eq h.2.1
    obtain rfl := emp_eq h.2.2
    have hr := inn_eq h.1
    rw [dta_1, tail4, if_pos hr] at hd
    have hd4 : (dat ⟨nm, 1, ttl, n, ⟨#[]⟩, ⟨#[]⟩⟩).length = 4 := by rw [hd]; rfl
    rw [gd_1 hn ho, hd4, hd, n4_mid P Q n hr.1 hr.2 k hk, if_pos ⟨rfl, rfl⟩]
    rfl
  by_cases h6 : ty = 6
  · subst h6
    rw [dko_6, Bool.and_eq_true, Bool.and_eq_true] at h
    obtain rfl := emp_eq h.2.2
    have hr := inn_eq h.2.1
    rw [dta_6, tail4, if_pos ⟨hr.1, by omega⟩] at hd
    have e : P ++ dat ⟨nm, 6, ttl, n, host, ⟨#[]⟩⟩ ++ Q = P ++ tailP host ++ (quad n ++ Q) := by rw [hd]; simp only [List.append_assoc]
    have e2 : P ++ tailP host ++ (quad n ++ Q) = P ++ tailP host ++ quad n ++ Q := by simp only [List.append_assoc]
    have hR := name_mid P (quad n ++ Q) host h.1 k hk
    have hN := n4_mid (P ++ tailP host) Q n hr.1 (by omega) _ rfl
    have hz : ((P ++ tailP host).length : Int) + 4 = k + ((dat ⟨nm, 6, ttl, n, host, ⟨#[]⟩⟩).length : Int) := by
      subst hk
      rw [hd]
      simp only [List.length_append]
      have : (quad n).length = 4 := rfl
      omega
    rw [gd_6 hn ho, e, hR]
    dsimp only
    rw [e2, hN, if_neg (fun e => e rfl), if_pos ⟨rfl, hz⟩, jo_lab]
    rfl
  by_cases h16 : ty = 16
  · subst h16
    rw [dko_16, Bool.and_eq_true, Bool.and_eq_true] at h
    obtain rfl := emp_eq h.2.2
    obtain rfl := nul_eq h.2.1
    have htx := h.1
    rw [dta_16] at hd
    have ht12 : text.size ≤ 12 := by rw [txo, Bool.and_eq_true] at htx; exact of_decide_eq_true htx.2
    have htl : text.data.toList.length = text.size := by simp
    have hz : (dat ⟨nm, 16, ttl, 0, ⟨#[]⟩, text⟩).length = text.size + 1 := by rw [hd, List.length_append, one_len, htl]; omega
    subst hk
    have hb : bt (P ++ dat ⟨nm, 16, ttl, 0, ⟨#[]⟩, text⟩ ++ Q) (P.length : Int) = (text.size : Int) := by
      have := bt_mid P (dat ⟨nm, 16, ttl, 0, ⟨#[]⟩, text⟩) Q 0 (by omega)
      rw [show (P.length : Int) + ((0 : Nat) : Int) = (P.length : Int) by omega] at this
      rw [this]
      have h0 : (dat ⟨nm, 16, ttl, 0, ⟨#[]⟩, text⟩)[0]'(by omega) = UInt8.ofNat text.size := by
        simp only [hd]
        rfl
      rw [h0, UInt8.toNat_ofNat_of_lt' (by simp [UInt8.size]; omega)]
    have hp : piece (P ++ dat ⟨nm, 16, ttl, 0, ⟨#[]⟩, text⟩ ++ Q) (P.length : Int).toNat (((dat ⟨nm, 16, ttl, 0, ⟨#[]⟩, text⟩).length : Int) - 1).toNat = text := by
      have e1 : (((dat ⟨nm, 16, ttl, 0, ⟨#[]⟩, text⟩).length : Int) - 1).toNat = text.size := by omega
      rw [e1, Int.toNat_natCast]
      have e2 : P ++ dat ⟨nm, 16, ttl, 0, ⟨#[]⟩, text⟩ ++ Q = P ++ one text.size ++ text.data.toList ++ Q := by rw [hd]; simp only [List.append_assoc]
      have e3 : P.length + 1 = (P ++ one text.size).length := by rw [List.length_append, one_len]
      unfold piece
      rw [e2, e3, mid _ _ _ _ htl]
    rw [gd_16 hn ho, hp, hb, if_pos ⟨by omega, by omega, htx⟩]
    rfl
  · have hh : ty = 2 ∨ ty = 5 := Decidable.byContradiction fun hne => by
      rw [dko_none _ _ _ h1 (by omega) (by omega) h6 h16] at h
      cases h
    have h : (Nm host && (nul n && emp text)) = true := by rcases hh with rfl | rfl <;> exact h
    rw [Bool.and_eq_true, Bool.and_eq_true] at h
    obtain rfl := emp_eq h.2.2
    obtain rfl := nul_eq h.2.1
    have hd : dat ⟨nm, ty, ttl, 0, host, ⟨#[]⟩⟩ = tailP host := by rcases hh with rfl | rfl <;> exact hd
    have hR := name_mid P Q host h.1 k hk
    have hz : ((P ++ tailP host).length : Int) = k + ((tailP host).length : Int) := by subst hk; rw [List.length_append]; omega
    rw [gd_h hn ho hh, hd, hR]
    dsimp only
    rw [if_neg (fun e => e rfl), if_pos hz, jo_lab]
    rfl

theorem back_rec (l Q : List UInt8) (r : Rec) (h : rok r = true) : gr (l ++ tailR l r ++ Q) (l.length : Int) = (0, ((l ++ tailR l r).length : Int), r) := by
  have hd := dat_len r
  have hty := rok_ty h
  have hr := h
  rw [rok, Bool.and_eq_true, Bool.and_eq_true] at hr
  have ht := inn_eq hr.2.1
  obtain ⟨i, hb⟩ := back_name l r.name hr.1
  generalize hN : l ++ tailN l r.name = N at *
  have e : l ++ tailR l r = N ++ two r.ty ++ two 1 ++ quad r.ttl ++ two ((dat r).length : Int) ++ dat r := by
    rw [tailR, if_pos h, tail2, if_pos ⟨by omega, by omega⟩, tail2, if_pos ⟨by omega, by omega⟩, tail4, if_pos ⟨by omega, by omega⟩, tail2, if_pos ⟨by omega, by omega⟩, ← hN]
    simp only [List.append_assoc]
  have l2 : ∀ x, (two x).length = 2 := fun _ => rfl
  have l4 : ∀ x, (quad x).length = 4 := fun _ => rfl
  have hz : ((l ++ tailR l r).length : Int) = (N.length : Int) + 10 + ((dat r).length : Int) := by
    rw [e]
    simp only [List.length_append, l2, l4]
    omega
  have hx : ∀ X, l ++ tailR l r ++ Q = X → rn X [] (l.length : Int) (l.length : Int) 0 (-1) = (0, Lab r.name, (N.length : Int), i) := fun X hX => by
    have e2 : X = N ++ (two r.ty ++ two 1 ++ quad r.ttl ++ two ((dat r).length : Int) ++ dat r ++ Q) := by
      rw [← hX, e]
      simp only [List.append_assoc]
    rw [e2]
    exact rn_behind _ hb
  have a1 : n2 (l ++ tailR l r ++ Q) (N.length : Int) = (r.ty, true) := by
    have := n2_mid N (two 1 ++ quad r.ttl ++ two ((dat r).length : Int) ++ dat r ++ Q) r.ty (by omega) (by omega) _ rfl
    rw [← this, e]
    simp only [List.append_assoc]
  have a2 : n2 (l ++ tailR l r ++ Q) ((N.length : Int) + 2) = (1, true) := by
    have := n2_mid (N ++ two r.ty) (quad r.ttl ++ two ((dat r).length : Int) ++ dat r ++ Q) 1 (by omega) (by omega) ((N.length : Int) + 2) (by rw [List.length_append, l2]; omega)
    rw [← this, e]
    simp only [List.append_assoc]
  have a3 : n4 (l ++ tailR l r ++ Q) ((N.length : Int) + 4) = (r.ttl, true) := by
    have := n4_mid (N ++ two r.ty ++ two 1) (two ((dat r).length : Int) ++ dat r ++ Q) r.ttl (by omega) (by omega) ((N.length : Int) + 4) (by simp only [List.length_append, l2]; omega)
    rw [← this, e]
    simp only [List.append_assoc]
  have a4 : n2 (l ++ tailR l r ++ Q) ((N.length : Int) + 8) = (((dat r).length : Int), true) := by
    have := n2_mid (N ++ two r.ty ++ two 1 ++ quad r.ttl) (dat r ++ Q) ((dat r).length : Int) (by omega) (by omega) ((N.length : Int) + 8) (by simp only [List.length_append, l2, l4]; omega)
    rw [← this, e]
    simp only [List.append_assoc]
  have a5 : gd (l ++ tailR l r ++ Q) ((N.length : Int) + 10) ((dat r).length : Int) r.ty = (0, core r) := by
    have := back_data (N ++ two r.ty ++ two 1 ++ quad r.ttl ++ two ((dat r).length : Int)) Q r h ((N.length : Int) + 10) (by simp only [List.length_append, l2, l4]; omega)
    rw [← this, e]
  have a6 : wn (core r) (Jo (Lab r.name)) r.ttl = r := by rw [jo_lab]; rfl
  rw [gr_good (hx _ rfl) (by rw [List.length_append]; omega) (by rw [a4, a1]; exact a5) (by rw [a3, a2]; exact ⟨rfl, rfl, by rw [a6]; exact h⟩), a4, a3, a6, hz]
theorem puts_pre : ∀ (L : List Rec) (l : List UInt8), ∃ T, puts l L = l ++ T
  | [], l => ⟨[], by simp [puts]⟩
  | r :: L, l => by
    obtain ⟨T, h⟩ := puts_pre L (l ++ tailR l r)
    exact ⟨tailR l r ++ T, by rw [puts, h, List.append_assoc]⟩
theorem back_list : ∀ (L : List Rec) (l : List UInt8) (M : List Rec), (∀ r ∈ L, rok r = true) → grs (puts l L) L.length (l.length : Int) M = (0, ((puts l L).length : Int), M ++ L)
  | [], l, M, _ => by simp [puts, grs]
  | r :: L, l, M, h => by
    obtain ⟨T, hT⟩ := puts_pre L (l ++ tailR l r)
    have hb := back_rec l T r (h r (by simp))
    have hi := back_list L (l ++ tailR l r) (M ++ [r]) (fun x hx => h x (by simp [hx]))
    rw [← hT] at hb
    rw [List.length_cons, grs, puts, hb]
    dsimp only
    rw [if_neg (fun e => e rfl), hi]
    simp
end Go.Proofs.YtcpadkehalgddaaGreatDoor.FieldBack
