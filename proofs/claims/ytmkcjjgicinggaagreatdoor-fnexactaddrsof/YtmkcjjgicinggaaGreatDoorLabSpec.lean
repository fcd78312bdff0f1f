/- What the model's Labels does: a new slice with the pieces of the text between its dots, none for the empty text. Condition: at most 400000000 bytes. -/
import Derived.Test.YtmkcjjgicinggaaGreatDoorSplit
import Derived.Test.YtmkcjjgicinggaaGreatDoorAppS
namespace Go.Proofs.YtmkcjjgicinggaaGreatDoor.Labels
open Go.RowKit Go.Proofs.YtmkcjjgicinggaaGreatDoor.Mem Go.Proofs.YtmkcjjgicinggaaGreatDoor.MemS Go.Proofs.YtmkcjjgicinggaaGreatDoor.AppS Go.Proofs.YtmkcjjgicinggaaGreatDoor.Split

/-- What the model's loop has done before its round k: the pieces L, and the next one begins at f. -/
def Inv (l : List UInt8) (k f : Nat) (L : List ByteArray) : Prop :=
  (k ≤ l.length ∧ f ≤ k ∧ L.map (·.data.toList) ++ spa ((l.drop f).take (k - f)) (l.drop k) = spa [] l) ∨ (k = l.length + 1 ∧ L.map (·.data.toList) = spa [] l)
theorem extract_list (s : ByteArray) (f k : Nat) : (s.extract f k).data.toList = (s.data.toList.drop f).take (k - f) := Lib.extract_data s f k
theorem Inv.start (l : List UInt8) : Inv l 0 0 [] := Or.inl ⟨Nat.zero_le _, Nat.le_refl _, by simp⟩
theorem Inv.here {l : List UInt8} {k f : Nat} {L : List ByteArray} (h : Inv l k f L) (hk : k ≤ l.length) : f ≤ k ∧ L.map (·.data.toList) ++ spa ((l.drop f).take (k - f)) (l.drop k) = spa [] l := by
  rcases h with ⟨_, h1, h2⟩ | ⟨h1, _⟩
  · exact ⟨h1, h2⟩
  · omega
theorem Inv.last {s : ByteArray} {k f f' : Nat} {L : List ByteArray} (h : Inv s.data.toList k f L) (hk : k = s.data.toList.length) : Inv s.data.toList (k + 1) f' (L ++ [s.extract f k]) := by
  obtain ⟨h1, h2⟩ := h.here (by omega)
  refine Or.inr ⟨by omega, ?_⟩
  rw [List.map_append, List.map_cons, List.map_nil, extract_list]
  rw [hk, List.drop_length, spa] at h2
  rw [hk]
  exact h2
theorem Inv.dot {s : ByteArray} {k f : Nat} {L : List ByteArray} (h : Inv s.data.toList k f L) (hk : k < s.data.toList.length) (hd : s.data.toList[k] = 46) : Inv s.data.toList (k + 1) (k + 1) (L ++ [s.extract f k]) := by
  obtain ⟨h1, h2⟩ := h.here (by omega)
  refine Or.inl ⟨by omega, Nat.le_refl _, ?_⟩
  rw [List.drop_eq_getElem_cons hk, hd, spa_dot] at h2
  rw [List.map_append, List.map_cons, List.map_nil, extract_list, Nat.sub_self, List.take_zero, List.append_assoc, List.singleton_append]
  exact h2
theorem Inv.other {s : ByteArray} {k f : Nat} {L : List ByteArray} (h : Inv s.data.toList k f L) (hk : k < s.data.toList.length) (hd : s.data.toList[k] ≠ 46) : Inv s.data.toList (k + 1) f L := by
  obtain ⟨h1, h2⟩ := h.here (by omega)
  refine Or.inl ⟨by omega, by omega, ?_⟩
  rw [List.drop_eq_getElem_cons hk, spa_other _ _ _ hd] at h2
  have e : (s.data.toList.drop f).take (k + 1 - f) = (s.data.toList.drop f).take (k - f) ++ [s.data.toList[k]] := by
    rw [show k + 1 - f = (k - f) + 1 by omega, List.take_succ_eq_append_getElem (by rw [List.length_drop]; omega), List.getElem_drop]
    congr 3
    omega
  rw [e]
  exact h2
theorem map_inj : ∀ (x y : List ByteArray), x.map (·.data.toList) = y.map (·.data.toList) → x = y
  | [], [], _ => rfl
  | [], _ :: _, h => by simp at h
  | _ :: _, [], h => by simp at h
  | a :: x, b :: y, h => by
    simp only [List.map_cons, List.cons.injEq] at h
    rw [text_ext h.1, map_inj x y h.2]
theorem Inv.fin {s : ByteArray} {k f : Nat} {L : List ByteArray} (h : Inv s.data.toList k f L) (hk : s.data.toList.length < k) (hs : s.size ≠ 0) : L = Lab s := by
  rcases h with ⟨h1, _⟩ | ⟨_, h1⟩
  · omega
  · exact map_inj _ _ (by rw [h1, lab_list s hs])

theorem not_empty (s : ByteArray) (h : s.size ≠ 0) : s.toList.isEmpty = false := by
  rw [ByteArray.toList_eq]
  cases e : s.data.toList with
  | nil =>
    have hz : s.data.toList.length = s.size := by simp
    rw [e] at hz
    exact absurd hz.symm h
  | cons => rfl

set_option maxHeartbeats 2000000 in
theorem spec (s : ByteArray) (w : World) (hs : s.size ≤ 400000000) : Calls Tryz.prog 133 #[.string s] w (GivesS w (Lab s)) := by
  obtain ⟨i0, hi, hz0, hz1, hz2⟩ := info_parts AppS.info
  have hsz : s.data.toList.length = s.size := by simp
  have HZ := Lib.hid hsz
  clear hsz
  by_cases h0 : s.size = 0
  · have HL : Hid (Lab s = []) := if_pos h0
    obtain rfl : s = ⟨#[]⟩ := text_ext (List.eq_nil_of_length_eq_zero (by rw [HZ.out]; exact h0))
    clear h0 hs
    go_enter Tryz.func133, Tryz.ntmps133
    go_wp2
    go_loop [3, 4, 5] (fun v f i => v = .slice (some ⟨w.heap.size, 0, none⟩) 0 0 ∧ f = .int .i64 0 ∧ i = .int .i64 0) (fun _ _ _ => 0)
    case atStart => exact ⟨rfl, rfl, rfl⟩
    case round =>
      obtain ⟨rfl, rfl, rfl⟩ := hrel
      go_wp2
      go_ret
      rw [HL.out]
      exact gives_of_owns (l := []) (owns_new w) ((Below.refl _ _).alloc (Nat.le_refl _) _)
  · have hne : s.toList.isEmpty = false := not_empty s h0
    have hne2 : (!s.toList.isEmpty) = true := by rw [hne]; rfl
    have hpos : 0 < s.size := by omega
    have H0 := Lib.hid h0
    clear h0
    go_enter Tryz.func133, Tryz.ntmps133
    go_wp2
    go_loopw [3, 4, 5] (fun v ff ii wr => ∃ (k f : Nat) (L : List ByteArray) (g m cap : Nat), k ≤ s.size + 1 ∧ m ≤ k ∧ ii = .int .i64 k ∧ ff = .int .i64 f ∧ v = .slice (some ⟨g, 0, none⟩) m cap ∧ Hid (Inv s.data.toList k f L) ∧ Hid (L.length = m) ∧ Hid (wr.ownsRow w.heap.size 9 1 (.slice (some ⟨g, 0, none⟩) m cap) m (L.map tv)) ∧ Hid (Below w.heap.size w wr)) (fun _ _ ii _ => s.size + 1 - (intOf ii).toNat)
    case atStart => exact ⟨0, 0, [], w.heap.size, 0, 0, Nat.zero_le _, Nat.le_refl _, rfl, rfl, rfl, Inv.start _, rfl, owns_new w, (Below.refl _ _).alloc (Nat.le_refl _) _⟩
    case round =>
      obtain ⟨k, f, L, g, m, cap, hk, hm, rfl, rfl, rfl, HI, HM, HO, HB⟩ := hrel
      by_cases hkn : k ≤ s.size
      · have hf : f ≤ k := (HI.out.here (by rw [HZ.out]; exact hkn)).1
        by_cases hlast : k = s.size
        · have HN := Lib.hid (HI.out.last (f' := k + 1) (by rw [HZ.out]; exact hlast))
          have hq : ((k : Int) == (s.size : Int)) = true := by rw [hlast]; simp
          clear hlast
          go_wp2_with (at_builtin; refine append_one rfl (.tmp 27) (.tmp 32) 39 rfl w.heap.size 9 i0 (.string ⟨#[]⟩) Tryz.underlying39 hi hz0 hz1 hz2 rfl g m cap L rfl HO.out (s.extract f k) rfl ?c1 ?c2 ?_)
          case c1 => omega
          case c2 => exact HB.out.size
          intro g' cap' w' hown hgrow
          have HO' := Lib.hid hown
          have HB' := Lib.hid ((HB.out.alloc HB.out.size _).grown hgrow (by have := HB.out.size; simp; omega) (fun j hj => by cases hj; exact (HO.out.lt g rfl).1))
          clear hown hgrow
          go_wp2
          go_roundw
          case rel => exact ⟨k + 1, k + 1, L ++ [s.extract f k], g', m + 1, cap', by omega, by omega, by go_num, by go_num, rfl, HN.out, by show _ = _; rw [List.length_append, HM.out]; rfl, by show World.ownsRow _ _ _ _ _ _ _; rw [List.map_append]; exact HO'.out, HB'.out⟩
          case measure => simp [intOf]; omega
        · have hlt : k < s.size := by omega
          have hkl : k < s.data.toList.length := by rw [HZ.out]; exact hlt
          have hq : ((k : Int) == (s.size : Int)) = false := by rw [beq_eq_false_iff_ne]; omega
          have HG : Hid (s.data.toList[k] = s[k]) := rfl
          clear hlast
          by_cases hd : s[k] = 46
          · have HN := Lib.hid (HI.out.dot hkl (HG.out.trans hd))
            have hq2 : ((s[k].toNat : Int) == 46) = true := by rw [hd]; rfl
            clear hd
            go_wp2_with (at_builtin; refine append_one rfl (.tmp 27) (.tmp 32) 39 rfl w.heap.size 9 i0 (.string ⟨#[]⟩) Tryz.underlying39 hi hz0 hz1 hz2 rfl g m cap L rfl HO.out (s.extract f k) rfl ?c1 ?c2 ?_)
            case c1 => omega
            case c2 => exact HB.out.size
            intro g' cap' w' hown hgrow
            have HO' := Lib.hid hown
            have HB' := Lib.hid ((HB.out.alloc HB.out.size _).grown hgrow (by have := HB.out.size; simp; omega) (fun j hj => by cases hj; exact (HO.out.lt g rfl).1))
            clear hown hgrow
            go_wp2
            go_roundw
            case rel => exact ⟨k + 1, k + 1, L ++ [s.extract f k], g', m + 1, cap', by omega, by omega, by go_num, by go_num, rfl, HN.out, by show _ = _; rw [List.length_append, HM.out]; rfl, by show World.ownsRow _ _ _ _ _ _ _; rw [List.map_append]; exact HO'.out, HB'.out⟩
            case measure => simp [intOf]; omega
          · have HN := Lib.hid (HI.out.other hkl (fun e => hd (HG.out.symm.trans e)))
            have hq2 : ((s[k].toNat : Int) == 46) = false := by
              rw [beq_eq_false_iff_ne]
              intro e
              exact hd (UInt8.toNat_inj.1 (by rw [show (46 : UInt8).toNat = 46 from rfl]; omega))
            clear hd
            go_wp2
            go_roundw
            case rel => exact ⟨k + 1, f, L, g, m, cap, by omega, by omega, by go_num, rfl, rfl, HN.out, HM.out, HO.out, HB.out⟩
            case measure => simp [intOf]; omega
      · have HE := Lib.hid (HI.out.fin (by rw [HZ.out]; omega) H0.out)
        go_wp2
        go_ret
        rw [← HE.out]
        exact gives_of_owns HO.out HB.out

/-- The library's variable internal/bytealg.MaxLen holds an int. -/
def Env (w : World) : Prop := ∃ m : Int, w.cell? ⟨0, 0, none⟩ = some (.int .i64 m)
theorem Env.lt {w : World} (h : Env w) : 0 < w.heap.size := by
  obtain ⟨m, hm⟩ := h
  exact World.block_lt_of_cell? _ _ hm
theorem Env.below {w w' : World} (h : Env w) (hb : Below w.heap.size w w') : Env w' := by
  have hlt := h.lt
  obtain ⟨m, hm⟩ := h
  exact ⟨m, (hb.cell (p := ⟨0, 0, none⟩) hlt).trans hm⟩
end Go.Proofs.YtmkcjjgicinggaaGreatDoor.Labels
