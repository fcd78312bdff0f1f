/- What LessRecord does in the program and in the model, and compareRecords in the program: the order of records by name, type, number, host, text and time to live. Condition: at most 400000000 bytes in each name and host; for the program: the library's variable internal/bytealg.MaxLen holds an int. -/
import Derived.Test.YtmkcjjgicinggaaGreatDoorExactReplyAtP1
import Derived.Test.YtmkcjjgicinggaaGreatDoorShelf
import Derived.Test.YtmkcjjgicinggaaGreatDoorMem
import Derived.Deep.QuietTactic
import Derived.BigQuiet
import Derived.Test.YtmkcjjgicinggaaGreatDoorMemR
/- What the model's Labels does: a new slice with the pieces of the text between its dots, none for the empty text. Condition: at most 400000000 bytes. -/
namespace Go.Proofs.YtmkcjjgicinggaaGreatDoor.Labels
open Go.RowKit Go.Proofs.YtmkcjjgicinggaaGreatDoor.Mem Go.Proofs.YtmkcjjgicinggaaGreatDoor.MemS Go.Proofs.YtmkcjjgicinggaaGreatDoor.AppS Go.Proofs.YtmkcjjgicinggaaGreatDoor.Split

/-- What the model's loop has done before its round k: the pieces L, and the next one begins at f. -/
def Inv (l : List UInt8) (k f : Nat) (L : List ByteArray) : Prop :=
  (k ≤ l.length ∧ f ≤ k ∧ L.map (·.data.toList) ++ spa ((l.drop f).take (k - f)) (l.drop k) = spa [] l) ∨ (k = l.length + 1 ∧ L.map (·.data.toList) = spa [] l)
theorem extract_list (s : ByteArray) (f k : Nat) : (s.extract f k).data.toList = (s.data.toList.drop f).take (k - f) := Lib.extract_data s f k
theorem Inv.start (l : List UInt8) : Inv l 0 0 [] := Or.inl ⟨Nat.zero_le _, Nat.le_refl _, by simp⟩
theorem Inv.here {l : List UInt8} {k f : Nat} {L : List ByteArray} (h : Inv l k f L) (hk : k ≤ l.length) : f ≤ k ∧ L.map (·.data.toList) ++ spa ((l.drop f).take (k - f)) (l.drop k) = spa [] l := by
  rcases h with ⟨_, h1, h2⟩ | ⟨h1, _⟩
  · exact ⟨h1, h2⟩
  · omega
theorem Inv.last {s : ByteArray} {k f f' : Nat} {L : List ByteArray} (h : Inv s.data.toList k f L) (hk : k = s.data.toList.length) : Inv s.data.toList (k + 1) f' (L ++ [s.extract f k]) := by
  obtain ⟨h1, h2⟩ := h.here (by omega)
  refine Or.inr ⟨by omega, ?_⟩
  rw [List.map_append, List.map_cons, List.map_nil, extract_list]
  rw [hk, List.drop_length, spa] at h2
  rw [hk]
  exact h2
theorem Inv.dot {s : ByteArray} {k f : Nat} {L : List ByteArray} (h : Inv s.data.toList k f L) (hk : k < s.data.toList.length) (hd : s.data.toList[k] = 46) : Inv s.data.toList (k + 1) (k + 1) (L ++ [s.extract f k]) := by
  obtain ⟨h1, h2⟩ := h.here (by omega)
  refine Or.inl ⟨by omega, Nat.le_refl _, ?_⟩
  rw [List.drop_eq_getElem_cons hk, hd, spa_dot] at h2
  rw [List.map_append, List.map_cons, List.map_nil, extract_list, Nat.sub_self, List.take_zero, List.append_assoc, List.singleton_append]
  exact h2
theorem Inv.other {s : ByteArray} {k f : Nat} {L : List ByteArray} (h : Inv s.data.toList k f L) (hk : k < s.data.toList.length) (hd : s.data.toList[k] ≠ 46) : Inv s.data.toList (k + 1) f L := by
  obtain ⟨h1, h2⟩ := h.here (by omega)
  refine Or.inl ⟨by omega, by omega, ?_⟩
  rw [List.drop_eq_getElem_cons hk, spa_other _ _ _ hd] at h2
  have e : (s.data.toList.drop f).take (k + 1 - f) = (s.data.toList.drop f).take (k - f) ++ [s.data.toList[k]] := by
    rw [show k + 1 - f = (k - f) + 1 by omega, List.take_succ_eq_append_getElem (by rw [List.length_drop]; omega), List.getElem_drop]
    congr 3
    omega
  rw [e]
  exact h2
theorem map_inj : ∀ (x y : List ByteArray), x.map (·.data.toList) = y.map (·.data.toList) → x = y
  | [], [], _ => rfl
  | [], _ :: _, h => by simp at h
  | _ :: _, [], h => by simp at h
  | a :: x, b :: y, h => by
    simp only [List.map_cons, List.cons.injEq] at h
    rw [text_ext h.1, map_inj x y h.2]
theorem Inv.fin {s : ByteArray} {k f : Nat} {L : List ByteArray} (h : Inv s.data.toList k f L) (hk : s.data.toList.length < k) (hs : s.size ≠ 0) : L = Lab s := by
  rcases h with ⟨h1, _⟩ | ⟨_, h1⟩
  · omega
  · exact map_inj _ _ (by rw [h1, lab_list s hs])

theorem not_empty (s : ByteArray) (h : s.size ≠ 0) : s.toList.isEmpty = false := by
  rw [ByteArray.toList_eq]
  cases e : s.data.toList with
  | nil =>
    have hz : s.data.toList.length = s.size := by simp
    rw [e] at hz
    exact absurd hz.symm h
  | cons => rfl

set_option maxHeartbeats 2000000 in
theorem spec (s : ByteArray) (w : World) (hs : s.size ≤ 400000000) : Calls Tryz.prog 133 #[.string s] w (GivesS w (Lab s)) := by
  obtain ⟨i0, hi, hz0, hz1, hz2⟩ := info_parts AppS.info
  have hsz : s.data.toList.length = s.size := by simp
  have HZ := Lib.hid hsz
  clear hsz
  by_cases h0 : s.size = 0
  · have HL : Hid (Lab s = []) := if_pos h0
    obtain rfl : s = ⟨#[]⟩ := text_ext (List.eq_nil_of_length_eq_zero (by rw [HZ.out]; exact h0))
    clear h0 hs
    go_enter Tryz.func133, Tryz.ntmps133
    go_wp2
    go_loop [3, 4, 5] (fun v f i => v = .slice (some ⟨w.heap.size, 0, none⟩) 0 0 ∧ f = .int .i64 0 ∧ i = .int .i64 0) (fun _ _ _ => 0)
    case atStart => exact ⟨rfl, rfl, rfl⟩
    case round =>
      obtain ⟨rfl, rfl, rfl⟩ := hrel
      go_wp2
      go_ret
      rw [HL.out]
      exact gives_of_owns (l := []) (owns_new w) ((Below.refl _ _).alloc (Nat.le_refl _) _)
  · have hne : s.toList.isEmpty = false := not_empty s h0
    have hne2 : (!s.toList.isEmpty) = true := by rw [hne]; rfl
    have hpos : 0 < s.size := by omega
    have H0 := Lib.hid h0
    clear h0
    go_enter Tryz.func133, Tryz.ntmps133
    go_wp2
    go_loopw [3, 4, 5] (fun v ff ii wr => ∃ (k f : Nat) (L : List ByteArray) (g m cap : Nat), k ≤ s.size + 1 ∧ m ≤ k ∧ ii = .int .i64 k ∧ ff = .int .i64 f ∧ v = .slice (some ⟨g, 0, none⟩) m cap ∧ Hid (Inv s.data.toList k f L) ∧ Hid (L.length = m) ∧ Hid (wr.ownsRow w.heap.size 9 1 (.slice (some ⟨g, 0, none⟩) m cap) m (L.map tv)) ∧ Hid (Below w.heap.size w wr)) (fun _ _ ii _ => s.size + 1 - (intOf ii).toNat)
    case atStart => exact ⟨0, 0, [], w.heap.size, 0, 0, Nat.zero_le _, Nat.le_refl _, rfl, rfl, rfl, Inv.start _, rfl, owns_new w, (Below.refl _ _).alloc (Nat.le_refl _) _⟩
    case round =>
      obtain ⟨k, f, L, g, m, cap, hk, hm, rfl, rfl, rfl, HI, HM, HO, HB⟩ := hrel
      by_cases hkn : k ≤ s.size
      · have hf : f ≤ k := (HI.out.here (by rw [HZ.out]; exact hkn)).1
        by_cases hlast : k = s.size
        · have HN := Lib.hid (HI.out.last (f' := k + 1) (by rw [HZ.out]; exact hlast))
          have hq : ((k : Int) == (s.size : Int)) = true := by rw [hlast]; simp
          clear hlast
          go_wp2_with (at_builtin; refine append_one rfl (.tmp 27) (.tmp 32) 39 rfl w.heap.size 9 i0 (.string ⟨#[]⟩) Tryz.underlying39 hi hz0 hz1 hz2 rfl g m cap L rfl HO.out (s.extract f k) rfl ?c1 ?c2 ?_)
          case c1 => omega
          case c2 => exact HB.out.size
          intro g' cap' w' hown hgrow
          have HO' := Lib.hid hown
          have HB' := Lib.hid ((HB.out.alloc HB.out.size _).grown hgrow (by have := HB.out.size; simp; omega) (fun j hj => by cases hj; exact (HO.out.lt g rfl).1))
          clear hown hgrow
          go_wp2
          go_roundw
          case rel => exact ⟨k + 1, k + 1, L ++ [s.extract f k], g', m + 1, cap', by omega, by omega, by go_num, by go_num, rfl, HN.out, by show _ = _; rw [List.length_append, HM.out]; rfl, by show World.ownsRow _ _ _ _ _ _ _; rw [List.map_append]; exact HO'.out, HB'.out⟩
          case measure => simp [intOf]; omega
        · have hlt : k < s.size := by omega
          have hkl : k < s.data.toList.length := by rw [HZ.out]; exact hlt
          have hq : ((k : Int) == (s.size : Int)) = false := by rw [beq_eq_false_iff_ne]; omega
          have HG : Hid (s.data.toList[k] = s[k]) := rfl
          clear hlast
          by_cases hd : s[k] = 46
          · have HN := Lib.hid (HI.out.dot hkl (HG.out.trans hd))
            have hq2 : ((s[k].toNat : Int) == 46) = true := by rw [hd]; rfl
            clear hd
            go_wp2_with (at_builtin; refine append_one rfl (.tmp 27) (.tmp 32) 39 rfl w.heap.size 9 i0 (.string ⟨#[]⟩) Tryz.underlying39 hi hz0 hz1 hz2 rfl g m cap L rfl HO.out (s.extract f k) rfl ?c1 ?c2 ?_)
            case c1 => omega
            case c2 => exact HB.out.size
            intro g' cap' w' hown hgrow
            have HO' := Lib.hid hown
            have HB' := Lib.hid ((HB.out.alloc HB.out.size _).grown hgrow (by have := HB.out.size; simp; omega) (fun j hj => by cases hj; exact (HO.out.lt g rfl).1))
            clear hown hgrow
            go_wp2
            go_roundw
            case rel => exact ⟨k + 1, k + 1, L ++ [s.extract f k], g', m + 1, cap', by omega, by omega, by go_num, by go_num, rfl, HN.out, by show _ = _; rw [List.length_append, HM.out]; rfl, by show World.ownsRow _ _ _ _ _ _ _; rw [List.map_append]; exact HO'.out, HB'.out⟩
            case measure => simp [intOf]; omega
          · have HN := Lib.hid (HI.out.other hkl (fun e => hd (HG.out.symm.trans e)))
            have hq2 : ((s[k].toNat : Int) == 46) = false := by
              rw [beq_eq_false_iff_ne]
              intro e
              exact hd (UInt8.toNat_inj.1 (by rw [show (46 : UInt8).toNat = 46 from rfl]; omega))
            clear hd
            go_wp2
            go_roundw
            case rel => exact ⟨k + 1, f, L, g, m, cap, by omega, by omega, by go_num, rfl, rfl, HN.out, HM.out, HO.out, HB.out⟩
            case measure => simp [intOf]; omega
      · have HE := Lib.hid (HI.out.fin (by rw [HZ.out]; omega) H0.out)
        go_wp2
        go_ret
        rw [← HE.out]
        exact gives_of_owns HO.out HB.out

/-- The library's variable internal/bytealg.MaxLen holds an int. -/
def Env (w : World) : Prop := ∃ m : Int, w.cell? ⟨0, 0, none⟩ = some (.int .i64 m)
theorem Env.lt {w : World} (h : Env w) : 0 < w.heap.size := by
  obtain ⟨m, hm⟩ := h
  exact World.block_lt_of_cell? _ _ hm
theorem Env.below {w w' : World} (h : Env w) (hb : Below w.heap.size w w') : Env w' := by
  have hlt := h.lt
  obtain ⟨m, hm⟩ := h
  exact ⟨m, (hb.cell (p := ⟨0, 0, none⟩) hlt).trans hm⟩
end Go.Proofs.YtmkcjjgicinggaaGreatDoor.Labels

/- What the program's Labels does, by the library's proved contract of strings.Split: a new slice with the pieces of the text between its dots, none for the empty text. Condition: at most 400000000 bytes; the library's variable internal/bytealg.MaxLen holds an int. -/
namespace Go.Proofs.YtmkcjjgicinggaaGreatDoor.Labels
open Go.RowKit Go.Proofs.YtmkcjjgicinggaaGreatDoor.Mem Go.Proofs.YtmkcjjgicinggaaGreatDoor.MemS Go.Proofs.YtmkcjjgicinggaaGreatDoor.AppS Go.Proofs.YtmkcjjgicinggaaGreatDoor.Split

theorem split (s : ByteArray) (w : World) (he : Env w) (hs : s.size ≤ 400000000) (h0 : s.size ≠ 0) : Calls Tryz.prog 209 #[.string s, .string ⟨#[46]⟩] w (GivesS w (Lab s)) := by
  obtain ⟨m, hm⟩ := he
  refine (Go.Proofs.Any.strings_Split { Tryz.laysM146 with } Tryz.laysM146.i9 s ⟨#[46]⟩ m w (by omega) hm (Nat.le_refl 1)).mono fun e w' ⟨hr, hw⟩ => ?_
  have hl := Lib.splitB_all ⟨#[46]⟩ (Nat.le_refl 1) 0 _ s rfl
  rw [split_lab s h0] at hw hl
  refine ⟨w.heap.size, _, _, [], hr, hl, Nat.le_refl _, Nat.le_refl _, ?_, hw ▸ (Below.refl _ _).alloc (Nat.le_refl _) _⟩
  rw [hw, List.append_nil]
  exact heap_alloc_new w _

set_option maxHeartbeats 1000000 in
theorem impl (s : ByteArray) (w : World) (he : Env w) (hs : s.size ≤ 400000000) : Calls Tryz.prog 158 #[.string s] w (GivesS w (Lab s)) := by
  have HE := Lib.hid he
  clear he
  by_cases h0 : s.size = 0
  · have HL : Hid (Lab s = []) := if_pos h0
    obtain rfl : s = ⟨#[]⟩ := text_ext (List.eq_nil_of_length_eq_zero (by simpa using h0))
    clear h0 hs
    go_enter Tryz.func158, Tryz.ntmps158
    go_wp2
    go_ret
    rw [HL.out]
    exact gives_of_owns (l := []) (owns_new w) ((Below.refl _ _).alloc (Nat.le_refl _) _)
  · have hne : s.toList.isEmpty = false := not_empty s h0
    have H0 := Lib.hid h0
    clear h0
    go_enter Tryz.func158, Tryz.ntmps158
    go_wp2_with fail
    refine (split s w HE.out hs H0.out).mono ?_
    rintro e w1 ⟨g, m, c, r, rfl, hm, hc, hg, hb, hl⟩
    have HM := Lib.hid hm
    have HG := Lib.hid hg
    have HB := Lib.hid hb
    have HL := Lib.hid hl
    clear hm hg hb hl
    go_wp2
    go_ret
    exact ⟨g, m, c, r, rfl, HM.out, hc, HG.out, HB.out, HL.out⟩
end Go.Proofs.YtmkcjjgicinggaaGreatDoor.Labels

/- What LabelOk does in the program and in the model: it tells whether a text has 1 to 12 bytes, each of them a small letter, a digit, '-' or '_'. No condition but that the text is no longer than Go lets it be. -/
namespace Go.Proofs.YtmkcjjgicinggaaGreatDoor.Label
open Go.RowKit Go.Proofs.YtmkcjjgicinggaaGreatDoor.Mem

/-- A sign that a label may hold. -/
def okC (c : Int) : Bool := decide ((97 ≤ c ∧ c ≤ 122) ∨ (48 ≤ c ∧ c ≤ 57) ∨ c = 45 ∨ c = 95)
def okB (x : UInt8) : Bool := okC (x.toNat : Int)
/-- The bytes of a label. -/
def lok (l : List UInt8) : Bool := decide (1 ≤ l.length ∧ l.length ≤ 12) && l.all okB

theorem okC_high (c : Int) (h : 128 ≤ c) : okC c = false := by unfold okC; simp; omega

theorem ret_bool {a b : Bool} (h : a = b) : Ending.returned (.bool a) = .returned (.bool b) := by rw [h]

set_option maxHeartbeats 1000000 in
theorem labelRune_any (c : Int) (w : World) : Calls Tryz.prog 231 #[.int .i32 c] w fun e w' => e = .returned (.bool (okC c)) ∧ w = w' := by
  go_enter Tryz.func231, Tryz.ntmps231
  go_wp2
  all_goals
    go_ret
    refine ⟨ret_bool ?_, rfl⟩
    first | (simp [okC]; done) | (simp [okC]; omega) | (rw [Bool.eq_iff_iff]; simp [okC]; omega)

set_option maxHeartbeats 1000000 in
theorem l1In_any (x a b : Int) (w : World) : Calls Tryz.prog 74 #[.int .i64 x, .int .i64 a, .int .i64 b] w fun e w' => e = .returned (.bool (decide (a ≤ x ∧ x ≤ b))) ∧ w = w' := by
  go_enter Tryz.func74, Tryz.ntmps74
  go_wp2
  all_goals
    go_ret
    refine ⟨ret_bool ?_, rfl⟩
    first | (simp; done) | (simp; omega) | (rw [Bool.eq_iff_iff]; simp; omega)

set_option maxHeartbeats 1000000 in
theorem l2Byte_any (x : UInt8) (w : World) : Calls Tryz.prog 222 #[.int .u8 (x.toNat : Int)] w fun e w' => e = .returned (.bool (okB x)) ∧ w = w' := by
  have hx : (x.toNat : Int) < 256 := by have := x.toNat_lt; omega
  unfold okB
  generalize hc : (x.toNat : Int) = c at *
  have h0 : 0 ≤ c := by omega
  clear hc
  go_enter Tryz.func222, Tryz.ntmps222
  by_cases h1 : 97 ≤ c ∧ c ≤ 122 <;> by_cases h2 : 48 ≤ c ∧ c ≤ 57
  all_goals
    have d1 := decide_eq_true (p := 97 ≤ c ∧ c ≤ 122)
    clear d1
    go_wp2_with (go_at_call 74; refine (l1In_any _ _ _ _).mono ?_; rintro e w' ⟨rfl, rfl⟩)
    all_goals
      go_ret
      refine ⟨ret_bool ?_, rfl⟩
      first | (simp [okC]; done) | (simp [okC]; omega) | (rw [Bool.eq_iff_iff]; simp [okC]; omega)

set_option maxHeartbeats 1000000 in
theorem spec_any (s : ByteArray) (w : World) (hs : s.size ≤ 140737488355328) : Calls Tryz.prog 180 #[.string s] w fun e w' => e = .returned (.bool (lok s.data.toList)) ∧ w = w' := by
  go_enter Tryz.func180, Tryz.ntmps180
  go_wp2
  go_loop [3] (fun i => ∃ k : Nat, k ≤ s.size ∧ i = .int .i64 k ∧ Hid ((s.data.toList.take k).all okB = true)) (fun i => s.size - (intOf i).toNat)
  case atStart => exact ⟨0, Nat.zero_le _, rfl, rfl⟩
  case round =>
    obtain ⟨k, hk, rfl, HA⟩ := hrel
    by_cases hlt : k < s.size
    · have hlen : k < s.data.toList.length := by simpa using hlt
      have HS : Hid ((s.data.toList.take (k + 1)).all okB = okB s[k]) := by
        show _ = _
        rw [List.take_succ_eq_append_getElem hlen, List.all_append, HA.out]
        simp
        rfl
      cases hb : okB s[k]
      · have HB := Lib.hid hb
        clear hb
        go_wp2_with (go_at_call 222; refine (l2Byte_any _ _).mono ?_; rintro e w' ⟨rfl, rfl⟩; rw [HB.out])
        go_ret
        refine ⟨ret_bool ?_, rfl⟩
        have : s.data.toList.all okB = false := by
          rw [← List.take_append_drop (k + 1) s.data.toList, List.all_append, HS.out, HB.out]; rfl
        rw [lok, this, Bool.and_false]
      · have HB := Lib.hid hb
        clear hb
        go_wp2_with (go_at_call 222; refine (l2Byte_any _ _).mono ?_; rintro e w' ⟨rfl, rfl⟩; rw [HB.out])
        go_round
        case rel => exact ⟨k + 1, by omega, by go_num, by show _ = _; rw [HS.out, HB.out]⟩
        case measure => simp [intOf]; omega
    · go_wp2_with (go_at_call 74; refine (l1In_any _ _ _ _).mono ?_; rintro e w' ⟨rfl, rfl⟩)
      go_ret
      refine ⟨ret_bool ?_, rfl⟩
      have := HA.out
      rw [List.take_of_length_le (by simp; omega)] at this
      rw [lok, this, Bool.and_true]
      rw [Bool.eq_iff_iff]
      simp only [Bool.and_eq_true, decide_eq_true_eq]
      have : s.data.toList.length = s.size := by simp
      omega

set_option maxHeartbeats 1000000 in
theorem impl_any (s : ByteArray) (w : World) (hs : s.size ≤ 140737488355328) : Calls Tryz.prog 211 #[.string s] w fun e w' => e = .returned (.bool (lok s.data.toList)) ∧ Below w.heap.size w w' := by
  have hsz : s.data.toList.length = s.size := by simp
  have HZ := Lib.hid hsz
  clear hsz
  by_cases h1 : s.size < 1 ∨ 12 < s.size
  · have HL : Hid (lok s.data.toList = false) := by
      show _ = _
      rw [lok, Bool.and_eq_false_iff]
      left
      simp only [decide_eq_false_iff_not]
      rw [HZ.out]
      omega
    rcases (show s.size < 1 ∨ (¬ s.size < 1 ∧ 12 < s.size) by omega) with h2 | ⟨h2, h3⟩
    all_goals
      clear h1
      go_enter Tryz.func211, Tryz.ntmps211
      go_wp2
      go_ret
      exact ⟨ret_bool HL.out.symm, Below.refl _ _⟩
  · obtain ⟨h2, h3⟩ : ¬ s.size < 1 ∧ s.size ≤ 12 := by omega
    clear h1
    have HL : Hid (lok s.data.toList = s.data.toList.all okB) := by
      show _ = _
      rw [lok, HZ.out, decide_eq_true (by omega), Bool.true_and]
    go_enter Tryz.func211, Tryz.ntmps211
    go_wp2
    go_loopw [4] (fun _ wr => ∃ k : Nat, k ≤ s.size ∧ wr = w.iter s k ∧ Hid ((s.data.toList.take k).all okB = true)) (fun _ wr => s.size - wr.iterPos w.heap.size)
    case atStart => exact ⟨0, Nat.zero_le _, rfl, rfl⟩
    case round =>
      obtain ⟨k, hk, rfl, HA⟩ := hrel
      have HB0 : Hid (∀ k', Below w.heap.size w (w.iter s k')) := fun k' => (Below.refl _ _).alloc (Nat.le_refl _) _
      by_cases hlt : k < s.size
      · have hlen : k < s.data.toList.length := by simpa using hlt
        have HS : Hid ((s.data.toList.take (k + 1)).all okB = okB s[k]) := by
          show _ = _
          rw [List.take_succ_eq_append_getElem hlen, List.all_append, HA.out]
          simp
          rfl
        have HF : Hid (okB s[k] = false → s.data.toList.all okB = false) := fun hb => by
          rw [← List.take_append_drop (k + 1) s.data.toList, List.all_append, HS.out, hb]; rfl
        by_cases hasc : s[k].toNat < 128
        · have hnx : ∀ ty, (Instr.next (.pointer (some ⟨w.heap.size, 0, none⟩)) true ty).run Tryz.prog (w.iter s k) = _ := fun ty => run_next_ascii w s k ty hlt hasc
          cases hb : okB s[k]
          · have HB : Hid (okC (s[k].toNat : Int) = false) := hb
            clear hb
            go_wp2_with (go_at_call 231; refine (labelRune_any _ _).mono ?_; rintro e w' ⟨rfl, rfl⟩; rw [HB.out])
            go_ret
            exact ⟨ret_bool (by rw [HL.out, HF.out HB.out]), HB0.out _⟩
          · have HB : Hid (okC (s[k].toNat : Int) = true) := hb
            clear hb
            go_wp2_with (go_at_call 231; refine (labelRune_any _ _).mono ?_; rintro e w' ⟨rfl, rfl⟩; rw [HB.out])
            go_roundw
            case rel => exact ⟨k + 1, by omega, rfl, by show _ = _; rw [HS.out]; exact HB.out⟩
            case measure => simp; omega
        · have hnx : ∀ ty, (Instr.next (.pointer (some ⟨w.heap.size, 0, none⟩)) true ty).run Tryz.prog (w.iter s k) = _ := fun ty => run_next_any w s k ty hlt
          have HB : Hid (okC ((Utf8.decode s k).1 : Int) = false) := okC_high _ (by have := (decode_high s k hlt (by omega)).1; omega)
          have HC : Hid (okB s[k] = false) := okC_high _ (by omega)
          go_wp2_with (go_at_call 231; refine (labelRune_any _ _).mono ?_; rintro e w' ⟨rfl, rfl⟩; rw [HB.out])
          go_ret
          exact ⟨ret_bool (by rw [HL.out, HF.out HC.out]), HB0.out _⟩
      · have hnx : ∀ ty, (Instr.next (.pointer (some ⟨w.heap.size, 0, none⟩)) true ty).run Tryz.prog (w.iter s k) = _ := fun ty => run_next_end w s k ty hlt
        go_wp2
        go_ret
        have := HA.out
        rw [List.take_of_length_le (by simp; omega)] at this
        exact ⟨ret_bool (by rw [HL.out, this]), HB0.out _⟩
end Go.Proofs.YtmkcjjgicinggaaGreatDoor.Label

/- Plain mathematics: joining the labels of a text gives the text; the labels of joined labels are these. -/
namespace Go.Proofs.YtmkcjjgicinggaaGreatDoor.JoinLab
open Go.Proofs.YtmkcjjgicinggaaGreatDoor.MemS Go.Proofs.YtmkcjjgicinggaaGreatDoor.JoinSpec Go.Proofs.YtmkcjjgicinggaaGreatDoor.Split Go.Proofs.YtmkcjjgicinggaaGreatDoor.Label

theorem join_more (a : List UInt8) (X : List (List UInt8)) (h : X ≠ []) : Lib.join (a :: X) [46] = a ++ 46 :: Lib.join X [46] := by
  cases X with
  | nil => exact absurd rfl h
  | cons y r =>
    rw [Lib.join_cons, Lib.join_cons]
    simp [Lib.joinTail]
theorem spa_ne : ∀ (l acc : List UInt8), spa acc l ≠ []
  | [], acc => by simp [spa]
  | c :: l, acc => by
    unfold spa
    split
    · simp
    · exact spa_ne l _
theorem join_spa : ∀ (l acc : List UInt8), Lib.join (spa acc l) [46] = acc ++ l
  | [], acc => by rw [spa, Lib.join_one, List.append_nil]
  | c :: l, acc => by
    by_cases hc : c = 46
    · subst hc
      rw [spa_dot, join_more _ _ (spa_ne l []), join_spa l []]
      rfl
    · rw [spa_other acc l c hc, join_spa l]
      simp
theorem jo_lab (s : ByteArray) : Jo (Lab s) = s := by
  apply text_ext
  rw [Jo_list]
  by_cases h : s.size = 0
  · have hz : s.data.toList.length = s.size := by simp
    have e : s.data.toList = [] := List.eq_nil_of_length_eq_zero (by omega)
    rw [Lab, if_pos h, e]
    rfl
  · rw [jo, lab_list s h, join_spa, List.nil_append]
theorem no_dot {l : List UInt8} (h : lok l = true) : 46 ∉ l := by
  rw [lok, Bool.and_eq_true] at h
  intro hm
  have := List.all_eq_true.1 h.2 46 hm
  exact absurd this (by decide)
theorem lok_ne {l : List UInt8} (h : lok l = true) : 0 < l.length := by
  rw [lok, Bool.and_eq_true] at h
  have := of_decide_eq_true h.1
  omega
theorem spa_jo : ∀ (L : List ByteArray), L ≠ [] → (∀ x ∈ L, lok x.data.toList = true) → spa [] (jo L) = L.map (·.data.toList)
  | [], h, _ => absurd rfl h
  | [x], _, h => by
    rw [jo, List.map_cons, List.map_nil, Lib.join_one, spa_none _ _ (no_dot (h x (by simp)))]
    rfl
  | x :: y :: r, _, h => by
    have ih := spa_jo (y :: r) (by simp) (fun z hz => h z (by simp at hz ⊢; exact Or.inr hz))
    have e : jo (x :: y :: r) = x.data.toList ++ 46 :: jo (y :: r) := by
      rw [jo, List.map_cons, join_more _ _ (by simp)]
      rfl
    rw [e, spa_some _ _ _ (no_dot (h x (by simp))), ih]
    rfl
theorem lab_jo (L : List ByteArray) (h : ∀ x ∈ L, lok x.data.toList = true) : Lab (Jo L) = L := by
  cases L with
  | nil => rfl
  | cons x r =>
    have hx := lok_ne (h x (by simp))
    have hs : (Jo (x :: r)).size ≠ 0 := by
      rw [Jo_size, jo, List.map_cons, Lib.join_cons, List.length_append]
      omega
    have e : (Lab (Jo (x :: r))).map (·.data.toList) = (x :: r).map (·.data.toList) := by
      rw [lab_list _ hs, Jo_list, spa_jo (x :: r) (by simp) h]
    have inj : ∀ (a b : List ByteArray), a.map (·.data.toList) = b.map (·.data.toList) → a = b := by
      intro a
      induction a with
      | nil => intro b hb; cases b with
        | nil => rfl
        | cons => simp at hb
      | cons p a ih => intro b hb; cases b with
        | nil => simp at hb
        | cons q b =>
          simp only [List.map_cons, List.cons.injEq] at hb
          rw [text_ext hb.1, ih b hb.2]
    exact inj _ _ e
/-- How great the joined text is. -/
theorem jo_short (L : List ByteArray) (n : Nat) (h : ∀ x ∈ L, x.size ≤ n) : (L.map (·.size)).sum ≤ L.length * n := by
  induction L with
  | nil => simp
  | cons x r ih =>
    have h1 := ih (fun y hy => h y (by simp [hy]))
    have h2 := h x (by simp)
    rw [List.map_cons, List.sum_cons, List.length_cons, Nat.add_mul]
    omega
end Go.Proofs.YtmkcjjgicinggaaGreatDoor.JoinLab

/- Plain mathematics: names by their labels: which lie under which, and which is less. Nothing of the program is named here but the seat itself. -/
namespace Go.Proofs.YtmkcjjgicinggaaGreatDoor.NameMath
open Go.Proofs.YtmkcjjgicinggaaGreatDoor.MemS Go.Proofs.YtmkcjjgicinggaaGreatDoor.JoinSpec Go.Proofs.YtmkcjjgicinggaaGreatDoor.Split Go.Proofs.YtmkcjjgicinggaaGreatDoor.JoinLab
open Go.Op (bytesLess)

theorem lab_inj {a b : ByteArray} (h : Lab a = Lab b) : a = b := by rw [← jo_lab a, ← jo_lab b, h]
theorem lab_nil {a : ByteArray} (h : a.size = 0) : Lab a = [] := if_pos h
theorem lab_ne {a : ByteArray} (h : a.size ≠ 0) : Lab a ≠ [] := by
  intro e
  have := lab_list a h
  rw [e] at this
  exact spa_ne _ _ this.symm
theorem spa_more : ∀ (y acc b : List UInt8), spa acc (y ++ 46 :: b) = spa acc y ++ spa [] b
  | [], acc, b => by rw [List.nil_append, spa_dot, spa]; rfl
  | c :: y, acc, b => by
    by_cases hc : c = 46
    · subst hc
      rw [List.cons_append, spa_dot, spa_dot, spa_more y [] b]
      rfl
    · rw [List.cons_append, spa_other _ _ _ hc, spa_other _ _ _ hc, spa_more y _ b]
theorem map_inj : ∀ (x y : List ByteArray), x.map (·.data.toList) = y.map (·.data.toList) → x = y
  | [], [], _ => rfl
  | [], _ :: _, h => by simp at h
  | _ :: _, [], h => by simp at h
  | a :: x, b :: y, h => by
    simp only [List.map_cons, List.cons.injEq] at h
    rw [text_ext h.1, map_inj x y h.2]
theorem same_iff (p q : ByteArray) : (p.data.toList == q.data.toList) = true ↔ p = q :=
  ⟨fun h => text_ext (eq_of_beq h), fun h => by rw [h]; exact beq_self_eq_true _⟩

/-- Whether the second list begins with the first. -/
def pfx : List ByteArray → List ByteArray → Bool
  | [], _ => true
  | _ :: _, [] => false
  | q :: y, p :: x => p.data.toList == q.data.toList && pfx y x
theorem pfx_iff : ∀ (y x : List ByteArray), pfx y x = true ↔ y <+: x
  | [], x => by simp [pfx]
  | q :: y, [] => by simp [pfx]
  | q :: y, p :: x => by
    rw [pfx, Bool.and_eq_true, same_iff, pfx_iff y x, List.cons_prefix_cons]
    exact ⟨fun h => ⟨h.1.symm, h.2⟩, fun h => ⟨h.1.symm, h.2⟩⟩
theorem pfx_long {y x : List ByteArray} (h : x.length < y.length) : pfx y x = false := by
  cases e : pfx y x with
  | false => rfl
  | true =>
    have := ((pfx_iff y x).1 e).length_le
    omega

/-- Whether the labels of b end those of a. A def, so that no step of a walk opens it. -/
def Un (a b : ByteArray) : Bool := pfx (Lab b).reverse (Lab a).reverse
theorem un_iff (a b : ByteArray) : Un a b = true ↔ Lab b <:+ Lab a := by
  rw [Un, pfx_iff, List.reverse_prefix]
theorem un_root {a b : ByteArray} (h : b.size = 0) : Un a b = true := by
  rw [un_iff, lab_nil h]
  exact List.nil_suffix
theorem un_self (a : ByteArray) : Un a a = true := (un_iff a a).2 (List.suffix_refl _)
theorem join_append (X Y : List (List UInt8)) (hx : X ≠ []) (hy : Y ≠ []) : Lib.join (X ++ Y) [46] = Lib.join X [46] ++ 46 :: Lib.join Y [46] := by
  induction X with
  | nil => exact absurd rfl hx
  | cons a X ih =>
    cases X with
    | nil => rw [List.singleton_append, join_more _ _ hy, Lib.join_one]
    | cons b X =>
      rw [List.cons_append, join_more a (b :: X ++ Y) (by simp), ih (by simp), join_more a (b :: X) (by simp)]
      simp
theorem un_else {a b : ByteArray} (hb : b.size ≠ 0) (h : a ≠ b) : Un a b = Lib.hasSuffix a.data.toList (46 :: b.data.toList) := by
  rw [Bool.eq_iff_iff, un_iff, Lib.hasSuffix, List.isSuffixOf_iff_suffix]
  constructor
  · rintro ⟨X, hX⟩
    have hne : X ≠ [] := fun e => h (lab_inj (by rw [← hX, e]; rfl))
    have ha : a.data.toList = jo (X ++ Lab b) := by rw [hX, ← Jo_list, jo_lab]
    have hbj : jo (Lab b) = b.data.toList := by rw [← Jo_list, jo_lab]
    rw [ha, jo, List.map_append, join_append _ _ (by simpa using hne) (by simpa using lab_ne hb)]
    refine ⟨Lib.join (X.map (·.data.toList)) [46], ?_⟩
    rw [← hbj]
    rfl
  · rintro ⟨y, hy⟩
    have hz : a.data.toList.length = a.size := by simp
    have ha : a.size ≠ 0 := by
      rw [← hz, ← hy]
      simp
    have e := spa_more y [] b.data.toList
    rw [hy, ← lab_list a ha, ← lab_list b hb] at e
    refine ⟨(spa [] y).map (fun l => ⟨l.toArray⟩), map_inj _ _ ?_⟩
    rw [List.map_append, List.map_map, e]
    congr 1
    conv => rhs; rw [← List.map_id (spa [] y)]
    exact List.map_congr_left fun l _ => by simp

theorem bl_irr : ∀ x : List UInt8, bytesLess x x = false
  | [] => rfl
  | a :: x => by
    rw [bytesLess, bl_irr x]
    simp
theorem bl_asym : ∀ x y : List UInt8, bytesLess x y = true → bytesLess y x = false
  | _, [], h => by simp [bytesLess] at h
  | [], _ :: _, _ => rfl
  | a :: x, b :: y, h => by
    rw [bytesLess, Bool.or_eq_true, Bool.and_eq_true] at h
    rw [bytesLess, Bool.or_eq_false_iff, Bool.and_eq_false_iff]
    rcases h with h | ⟨h, h'⟩
    · have h := of_decide_eq_true h
      have hn := UInt8.lt_iff_toNat_lt.1 h
      refine ⟨decide_eq_false fun k => ?_, Or.inl (beq_eq_false_iff_ne.2 fun k => ?_)⟩
      · have := UInt8.lt_iff_toNat_lt.1 k
        omega
      · rw [k] at hn
        omega
    · obtain rfl := eq_of_beq h
      refine ⟨decide_eq_false fun k => ?_, Or.inr (bl_asym x y h')⟩
      have := UInt8.lt_iff_toNat_lt.1 k
      omega
theorem bl_tot : ∀ x y : List UInt8, x ≠ y → bytesLess x y = false → bytesLess y x = true
  | [], [], h, _ => absurd rfl h
  | _ :: _, [], _, _ => rfl
  | [], _ :: _, _, h => by simp [bytesLess] at h
  | a :: x, b :: y, h, h' => by
    rw [bytesLess, Bool.or_eq_false_iff, Bool.and_eq_false_iff] at h'
    rw [bytesLess, Bool.or_eq_true, Bool.and_eq_true]
    obtain ⟨h1, h2⟩ := h'
    have h1 := of_decide_eq_false h1
    have hn : ¬ a.toNat < b.toNat := fun k => h1 (UInt8.lt_iff_toNat_lt.2 k)
    by_cases e : a = b
    · subst e
      refine Or.inr ⟨beq_self_eq_true _, bl_tot x y (fun e => h (by rw [e])) (h2.resolve_left (by simp))⟩
    · refine Or.inl (decide_eq_true (UInt8.lt_iff_toNat_lt.2 ?_))
      have : a.toNat ≠ b.toNat := fun k => e (UInt8.toNat_inj.1 k)
      omega

/-- Which of two lists of labels is less, from their heads on. -/
def ln : List ByteArray → List ByteArray → Bool
  | _, [] => false
  | [], _ :: _ => true
  | p :: x, q :: y => if p.data.toList == q.data.toList then ln x y else bytesLess p.data.toList q.data.toList
/-- Which of two names is less. A def, so that no step of a walk opens it. -/
def Ls (a b : ByteArray) : Bool := ln (Lab a).reverse (Lab b).reverse
theorem ln_irr : ∀ x : List ByteArray, ln x x = false
  | [] => rfl
  | p :: x => by rw [ln, if_pos (beq_self_eq_true _), ln_irr x]
theorem ln_asym : ∀ x y : List ByteArray, ln x y = true → ln y x = false
  | _, [], h => by simp [ln] at h
  | [], _ :: _, _ => rfl
  | p :: x, q :: y, h => by
    by_cases e : p = q
    · subst e
      rw [ln, if_pos (beq_self_eq_true _)] at h ⊢
      exact ln_asym x y h
    · rw [ln, if_neg (fun k => e ((same_iff p q).1 k))] at h
      rw [ln, if_neg (fun k => e ((same_iff q p).1 k).symm)]
      exact bl_asym _ _ h
theorem ln_tot : ∀ x y : List ByteArray, x ≠ y → ln x y = false → ln y x = true
  | [], [], h, _ => absurd rfl h
  | _ :: _, [], _, _ => rfl
  | [], _ :: _, _, h => by simp [ln] at h
  | p :: x, q :: y, h, h' => by
    by_cases e : p = q
    · subst e
      rw [ln, if_pos (beq_self_eq_true _)] at h' ⊢
      exact ln_tot x y (fun e => h (by rw [e])) h'
    · rw [ln, if_neg (fun k => e ((same_iff p q).1 k))] at h'
      rw [ln, if_neg (fun k => e ((same_iff q p).1 k).symm)]
      exact bl_tot _ _ (fun k => e (text_ext k)) h'
theorem ln_pfx : ∀ y x : List ByteArray, pfx y x = true → x ≠ y → ln y x = true
  | [], [], _, h => absurd rfl h
  | [], _ :: _, _, _ => rfl
  | _ :: _, [], h, _ => by simp [pfx] at h
  | q :: y, p :: x, h, hn => by
    rw [pfx, Bool.and_eq_true] at h
    obtain rfl := (same_iff p q).1 h.1
    rw [ln, if_pos (beq_self_eq_true _)]
    exact ln_pfx y x h.2 (fun e => hn (by rw [e]))
theorem ls_irr (a : ByteArray) : Ls a a = false := ln_irr _
theorem ls_asym {a b : ByteArray} (h : Ls a b = true) : Ls b a = false := ln_asym _ _ h
theorem ls_tot {a b : ByteArray} (h : a ≠ b) (k : Ls a b = false) : Ls b a = true :=
  ln_tot _ _ (fun e => h (lab_inj (List.reverse_inj.1 e))) k
theorem ls_under {a b : ByteArray} (h : Un a b = true) (k : a ≠ b) : Ls b a = true :=
  ln_pfx _ _ h (fun e => k (lab_inj (List.reverse_inj.1 e)))

theorem rev_drop (L : List ByteArray) (j k : Nat) (h : j + k + 1 = L.length) : L.reverse.drop k = (L[j]'(by omega)) :: L.reverse.drop (k + 1) := by
  rw [List.drop_eq_getElem_cons (by simp; omega), List.getElem_reverse]
  congr 2
  omega
theorem rev_end (L : List ByteArray) (k : Nat) (h : L.length ≤ k) : L.reverse.drop k = [] := List.drop_of_length_le (by simpa using h)
end Go.Proofs.YtmkcjjgicinggaaGreatDoor.NameMath

/- What LessName does in the program and in the model: it compares the labels of two names from the last to the first. Condition: at most 400000000 bytes each; for the program: the library's variable internal/bytealg.MaxLen holds an int. -/
namespace Go.Proofs.YtmkcjjgicinggaaGreatDoor.Less
open Go.RowKit Go.Proofs.YtmkcjjgicinggaaGreatDoor.Mem Go.Proofs.YtmkcjjgicinggaaGreatDoor.MemS Go.Proofs.YtmkcjjgicinggaaGreatDoor.AppS Go.Proofs.YtmkcjjgicinggaaGreatDoor.Split Go.Proofs.YtmkcjjgicinggaaGreatDoor.Labels Go.Proofs.YtmkcjjgicinggaaGreatDoor.NameMath
open Go.Op (bytesLess)

theorem ln_none (x : List ByteArray) : ln x [] = false := by cases x <;> rfl
theorem ln_some (y : List ByteArray) (h : 0 < y.length) : ln [] y = true := by
  cases y with
  | nil => simp at h
  | cons => rfl
theorem ln_end {x y : List ByteArray} (k : Nat) (hx : k ≤ x.length) (hy : k ≤ y.length) (h : x.length ≤ k ∨ y.length ≤ k) : ln (x.reverse.drop k) (y.reverse.drop k) = decide (x.length < y.length) := by
  by_cases hk : y.length ≤ k
  · rw [rev_end y k hk, ln_none]
    exact (decide_eq_false (by omega)).symm
  · rw [rev_end x k (h.resolve_right hk), ln_some _ (by simp; omega)]
    exact (decide_eq_true (by omega)).symm

set_option maxHeartbeats 4000000 in
theorem spec (a b : ByteArray) (w : World) (ha : a.size ≤ 400000000) (hb : b.size ≤ 400000000) : Calls Tryz.prog 224 #[.string a, .string b] w fun e w' => e = .returned (.bool (Ls a b)) ∧ Below w.heap.size w w' := by
  have SA := Lib.hid (fun w => Labels.spec a w ha)
  have SB := Lib.hid (fun w => Labels.spec b w hb)
  have hla := lab_len a
  have hlb := lab_len b
  have HU : Hid (Ls a b = ln (Lab a).reverse (Lab b).reverse) := rfl
  generalize Ls a b = U at *
  generalize Lab a = X at *
  generalize Lab b = Y at *
  have HX : Hid (X.length ≤ 400000001) := by show _ ≤ _; omega
  have HY : Hid (Y.length ≤ 400000001) := by show _ ≤ _; omega
  clear hla hlb ha hb
  go_enter Tryz.func224, Tryz.ntmps224
  go_wp2_with fail
  refine (SA.out w).mono ?_
  rintro e w1 ⟨gx, n, cx, rx, rfl, hm, hcx, hg, hk, hl⟩
  have hn : n ≤ 400000001 := by have := HX.out; omega
  have NX := Lib.hid hm
  have X1 := Lib.hid hk
  have L1 := Lib.hid hl
  clear hm hg hk hl HX
  go_wp2_with fail
  refine (SB.out w1).mono ?_
  rintro e w2 ⟨gy, m, cy, ry, rfl, hm, hcy, hg, hk, hl⟩
  have hm' : m ≤ 400000001 := by have := HY.out; omega
  have NY := Lib.hid hm
  have X2 := Lib.hid (bk_ssw (X1.out.below hl X1.out.lt) NX.out)
  have Y2 := Lib.hid (bk_ssw hk NY.out)
  have L2 := Lib.hid (L1.out.trans (hl.mono L1.out.size))
  clear hm hg hk hl HY X1 L1
  go_wp2
  go_loop [7, 8, 9] (fun i p q => ∃ k : Nat, k ≤ n ∧ k ≤ m ∧ i = .int .i64 (k + 1) ∧ Hid (U = ln (X.reverse.drop k) (Y.reverse.drop k))) (fun i _ _ => m + 1 - (intOf i).toNat)
  case atStart => exact ⟨0, Nat.zero_le _, Nat.zero_le _, rfl, HU.out⟩
  case round =>
    clear HU
    obtain ⟨k, hk, hk', rfl, HU⟩ := hrel
    by_cases hlt : k < n
    · by_cases hlt' : k < m
      · obtain ⟨jx, hjx⟩ : ∃ j, j + k + 1 = n := ⟨n - k - 1, by omega⟩
        obtain ⟨jy, hjy⟩ : ∃ j, j + k + 1 = m := ⟨m - k - 1, by omega⟩
        have EX := rev_drop X jx k (by rw [NX.out]; exact hjx)
        have EY := rev_drop Y jy k (by rw [NY.out]; exact hjy)
        obtain ⟨_, _, e1, _, hcs⟩ := X2.out.2 (by omega)
        obtain ⟨_, _, e2, _, hcs2⟩ := Y2.out.2 (by omega)
        cases e1
        cases e2
        have hcx' : w2.cell? ⟨gx, jx, none⟩ = some (.string (X[jx]'(by rw [NX.out]; omega))) := by have := hcs jx (by rw [NX.out]; omega); rwa [Nat.zero_add] at this
        have hcy' : w2.cell? ⟨gy, jy, none⟩ = some (.string (Y[jy]'(by rw [NY.out]; omega))) := by have := hcs2 jy (by rw [NY.out]; omega); rwa [Nat.zero_add] at this
        have HR := HU.out
        rw [EX, EY, ln] at HR
        clear EX EY hcs hcs2
        generalize X[jx]'(by rw [NX.out]; omega) = p at *
        generalize Y[jy]'(by rw [NY.out]; omega) = q at *
        have HR' := Lib.hid HR
        clear HR HU
        have hsx : (n : Int) - ((k : Int) + 1) = (jx : Int) := by omega
        have hsy : (m : Int) - ((k : Int) + 1) = (jy : Int) := by omega
        cases hq : (p.data.toList == q.data.toList) with
        | true =>
          have HN : Hid (U = ln (X.reverse.drop (k + 1)) (Y.reverse.drop (k + 1))) := by
            show _ = _
            rw [HR'.out, hq]
            rfl
          have hq2 : (!(p.toList == q.toList)) = false := by rw [ByteArray.toList_eq, ByteArray.toList_eq, hq]; rfl
          clear HR'
          go_wp2
          go_round
          case rel => exact ⟨k + 1, by omega, by omega, by go_num, HN.out⟩
          case measure => simp [intOf]; omega
        | false =>
          have HN : Hid (U = bytesLess p.toList q.toList) := by
            show _ = _
            rw [HR'.out, hq, ByteArray.toList_eq, ByteArray.toList_eq]
            rfl
          have hq2 : (!(p.toList == q.toList)) = true := by rw [ByteArray.toList_eq, ByteArray.toList_eq, hq]; rfl
          clear HR'
          go_wp2
          go_ret
          rw [HN.out]
          exact ⟨rfl, L2.out⟩
      · have HN := Lib.hid (HU.out.trans (ln_end k (by rw [NX.out]; exact hk) (by rw [NY.out]; exact hk') (Or.inr (by rw [NY.out]; omega))))
        go_wp2
        go_ret
        rw [HN.out, NX.out, NY.out]
        exact ⟨by simp, L2.out⟩
    · have HN := Lib.hid (HU.out.trans (ln_end k (by rw [NX.out]; exact hk) (by rw [NY.out]; exact hk') (Or.inl (by rw [NX.out]; omega))))
      go_wp2
      go_ret
      rw [HN.out, NX.out, NY.out]
      exact ⟨by simp, L2.out⟩

set_option maxHeartbeats 4000000 in
theorem impl (a b : ByteArray) (w : World) (he : Env w) (ha : a.size ≤ 400000000) (hb : b.size ≤ 400000000) : Calls Tryz.prog 112 #[.string a, .string b] w fun e w' => e = .returned (.bool (Ls a b)) ∧ Below w.heap.size w w' := by
  have HE := Lib.hid he
  clear he
  have SA := Lib.hid (fun w he => Labels.impl a w he ha)
  have SB := Lib.hid (fun w he => Labels.impl b w he hb)
  have hla := lab_len a
  have hlb := lab_len b
  have HU : Hid (Ls a b = ln (Lab a).reverse (Lab b).reverse) := rfl
  generalize Ls a b = U at *
  generalize Lab a = X at *
  generalize Lab b = Y at *
  have HX : Hid (X.length ≤ 400000001) := by show _ ≤ _; omega
  have HY : Hid (Y.length ≤ 400000001) := by show _ ≤ _; omega
  clear hla hlb ha hb
  go_enter Tryz.func112, Tryz.ntmps112
  go_wp2_with fail
  refine (SA.out w HE.out).mono ?_
  rintro e w1 ⟨gx, n, cx, rx, rfl, hm, hcx, hg, hk, hl⟩
  have hn : n ≤ 400000001 := by have := HX.out; omega
  have NX := Lib.hid hm
  have X1 := Lib.hid hk
  have L1 := Lib.hid hl
  clear hm hg hk hl HX
  go_wp2_with fail
  refine (SB.out w1 (HE.out.below L1.out)).mono ?_
  rintro e w2 ⟨gy, m, cy, ry, rfl, hm, hcy, hg, hk, hl⟩
  have hm' : m ≤ 400000001 := by have := HY.out; omega
  have NY := Lib.hid hm
  have X2 := Lib.hid (bk_ssw (X1.out.below hl X1.out.lt) NX.out)
  have Y2 := Lib.hid (bk_ssw hk NY.out)
  have L2 := Lib.hid (L1.out.trans (hl.mono L1.out.size))
  clear hm hg hk hl HY X1 L1
  go_wp2
  go_loopw [7, 8] (fun i j wr => ∃ k : Nat, k ≤ n ∧ k ≤ m ∧ i = .int .i64 ((n : Int) - 1 - k) ∧ j = .int .i64 ((m : Int) - 1 - k) ∧ Hid (U = ln (X.reverse.drop k) (Y.reverse.drop k)) ∧ Hid (Ss wr w2.heap.size (some ⟨gx, 0, none⟩) n X) ∧ Hid (Ss wr w2.heap.size (some ⟨gy, 0, none⟩) m Y) ∧ Hid (Below w.heap.size w wr)) (fun _ j _ => (intOf j + 1).toNat)
  case atStart => exact ⟨0, Nat.zero_le _, Nat.zero_le _, by simp, by simp, HU.out, X2.out, Y2.out, L2.out⟩
  case round =>
    clear HU X2 Y2 L2
    obtain ⟨k, hk, hk', rfl, rfl, HU, X2, Y2, L2⟩ := hrel
    by_cases hlt : k < n
    · obtain ⟨jx, hjx⟩ : ∃ j, j + k + 1 = n := ⟨n - k - 1, by omega⟩
      have hsx : (n : Int) - 1 - (k : Int) = (jx : Int) := by omega
      by_cases hlt' : k < m
      · obtain ⟨jy, hjy⟩ : ∃ j, j + k + 1 = m := ⟨m - k - 1, by omega⟩
        have hsy : (m : Int) - 1 - (k : Int) = (jy : Int) := by omega
        have EX := rev_drop X jx k (by rw [NX.out]; exact hjx)
        have EY := rev_drop Y jy k (by rw [NY.out]; exact hjy)
        obtain ⟨_, _, e1, _, hcs⟩ := X2.out.2 (by omega)
        obtain ⟨_, _, e2, _, hcs2⟩ := Y2.out.2 (by omega)
        cases e1
        cases e2
        have hcx' : wr.cell? ⟨gx, jx, none⟩ = some (.string (X[jx]'(by rw [NX.out]; omega))) := by have := hcs jx (by rw [NX.out]; omega); rwa [Nat.zero_add] at this
        have hcy' : wr.cell? ⟨gy, jy, none⟩ = some (.string (Y[jy]'(by rw [NY.out]; omega))) := by have := hcs2 jy (by rw [NY.out]; omega); rwa [Nat.zero_add] at this
        have HR := HU.out
        rw [EX, EY, ln] at HR
        clear EX EY hcs hcs2
        generalize X[jx]'(by rw [NX.out]; omega) = p at *
        generalize Y[jy]'(by rw [NY.out]; omega) = q at *
        have HR' := Lib.hid HR
        clear HR HU
        rw [hsx, hsy]
        have SX := Lib.hid hsx
        have SY := Lib.hid hsy
        clear hsx hsy
        cases hq : (p.data.toList == q.data.toList) with
        | true =>
          have HN : Hid (U = ln (X.reverse.drop (k + 1)) (Y.reverse.drop (k + 1))) := by
            show _ = _
            rw [HR'.out, hq]
            rfl
          have hq2 : (!(p.toList == q.toList)) = false := by rw [ByteArray.toList_eq, ByteArray.toList_eq, hq]; rfl
          clear HR' hq
          go_wp2
          go_quiet (fail)
          go_wp2
          go_roundw
          case rel => exact ⟨k + 1, by omega, by omega, by rw [← SX.out]; go_num, by rw [← SY.out]; go_num, HN.out, X2.out, Y2.out, L2.out.trans (drewN_below _ _ _)⟩
          case measure => simp [intOf]
        | false =>
          have HN : Hid (U = bytesLess p.toList q.toList) := by
            show _ = _
            rw [HR'.out, hq, ByteArray.toList_eq, ByteArray.toList_eq]
            rfl
          have hq2 : (!(p.toList == q.toList)) = true := by rw [ByteArray.toList_eq, ByteArray.toList_eq, hq]; rfl
          clear HR' hq
          go_wp2
          go_quiet (fail)
          have hcx2 : (wr.drewN nq).cell? ⟨gx, jx, none⟩ = some (.string p) := hcx'
          have hcy2 : (wr.drewN nq).cell? ⟨gy, jy, none⟩ = some (.string q) := hcy'
          have L3 : Hid (Below w.heap.size w (wr.drewN nq)) := L2.out.trans (drewN_below _ _ _)
          clear hcx' hcy' L2 X2 Y2
          generalize wr.drewN nq = w3 at *
          go_wp2
          go_quiet (fail)
          go_wp2
          go_ret
          rw [HN.out]
          exact ⟨rfl, L3.out.trans (drewN_below _ _ _)⟩
      · have HN := Lib.hid (HU.out.trans (ln_end k (by rw [NX.out]; exact hk) (by rw [NY.out]; exact hk') (Or.inr (by rw [NY.out]; omega))))
        rw [hsx]
        clear hsx
        go_wp2
        go_ret
        rw [HN.out, NX.out, NY.out]
        exact ⟨by simp, L2.out⟩
    · have HN := Lib.hid (HU.out.trans (ln_end k (by rw [NX.out]; exact hk) (by rw [NY.out]; exact hk') (Or.inl (by rw [NX.out]; omega))))
      go_wp2
      go_ret
      rw [HN.out, NX.out, NY.out]
      exact ⟨by simp, L2.out⟩
end Go.Proofs.YtmkcjjgicinggaaGreatDoor.Less

/- What the program's Under does, by the library's proved contract of strings.HasSuffix: it tells whether the labels of its second text end those of its first. Condition: at most 400000000 bytes each. -/
namespace Go.Proofs.YtmkcjjgicinggaaGreatDoor.UnderImpl
open Go.RowKit Go.Proofs.YtmkcjjgicinggaaGreatDoor.Mem Go.Proofs.YtmkcjjgicinggaaGreatDoor.MemS Go.Proofs.YtmkcjjgicinggaaGreatDoor.Split Go.Proofs.YtmkcjjgicinggaaGreatDoor.NameMath

theorem hasSuffix (s p : ByteArray) (w : World) (hs : s.size ≤ 400000000) : Calls Tryz.prog 58 #[.string s, .string p] w fun e w' => e = .returned (.bool (Lib.hasSuffix s.data.toList p.data.toList)) ∧ w' = w :=
  Go.Proofs.Any.strings_HasSuffix Tryz.lays100 s p w (by omega)

set_option maxHeartbeats 1000000 in
theorem impl (a b : ByteArray) (w : World) (ha : a.size ≤ 400000000) (hb : b.size ≤ 400000000) : Calls Tryz.prog 12 #[.string a, .string b] w fun e w' => e = .returned (.bool (Un a b)) ∧ w = w' := by
  by_cases h0 : b.size = 0
  · have HU := Lib.hid (un_root (a := a) h0)
    obtain rfl : b = ⟨#[]⟩ := text_ext (List.eq_nil_of_length_eq_zero (by simpa using h0))
    clear h0 hb
    go_enter Tryz.func12, Tryz.ntmps12
    go_wp2
    go_ret
    rw [HU.out]
    exact ⟨rfl, rfl⟩
  · have hne : b.toList.isEmpty = false := Labels.not_empty b h0
    by_cases h : a = b
    · subst h
      have HU := Lib.hid (un_self a)
      clear h0
      go_enter Tryz.func12, Tryz.ntmps12
      go_wp2
      go_ret
      rw [HU.out]
      exact ⟨rfl, rfl⟩
    · have HU : Hid (Un a b = Lib.hasSuffix a.data.toList ((⟨#[46]⟩ : ByteArray) ++ b).data.toList) := by
        show _ = _
        rw [un_else h0 h, text_add]
        rfl
      have hq : (a.toList == b.toList) = false := by
        rw [beq_eq_false_iff_ne, ByteArray.toList_eq, ByteArray.toList_eq]
        exact fun e => h (text_ext e)
      have hq2 : (a.data.toList == b.data.toList) = false := by
        rw [beq_eq_false_iff_ne]
        exact fun e => h (text_ext e)
      clear h0 h
      have HS := Lib.hid (fun p w => hasSuffix a p w ha)
      go_enter Tryz.func12, Tryz.ntmps12
      go_wp2_with fail
      refine (HS.out _ w).mono ?_
      rintro e w1 ⟨rfl, rfl⟩
      go_wp2
      go_ret
      rw [HU.out]
      exact ⟨rfl, rfl⟩
end Go.Proofs.YtmkcjjgicinggaaGreatDoor.UnderImpl

/- What LessRecord does in the program and in the model, and compareRecords in the program: the order of records by name, type, number, host, text and time to live. Condition: at most 400000000 bytes in each name and host; for the program: the library's variable internal/bytealg.MaxLen holds an int. -/
namespace Go.Proofs.YtmkcjjgicinggaaGreatDoor.LessR
open Go.RowKit Go.Proofs.YtmkcjjgicinggaaGreatDoor.Mem Go.Proofs.YtmkcjjgicinggaaGreatDoor.MemS Go.Proofs.YtmkcjjgicinggaaGreatDoor.MemR Go.Proofs.YtmkcjjgicinggaaGreatDoor.Labels Go.Proofs.YtmkcjjgicinggaaGreatDoor.NameMath
open Go.Op (bytesLess)

/-- Which of two records is less. A def, so that no step of a walk opens it. -/
def lr (a b : Rec) : Bool :=
  if a.name.data.toList ≠ b.name.data.toList then Ls a.name b.name else if a.ty ≠ b.ty then decide (a.ty < b.ty) else if a.n ≠ b.n then decide (a.n < b.n) else
  if a.host.data.toList ≠ b.host.data.toList then Ls a.host b.host else if a.text.data.toList ≠ b.text.data.toList then bytesLess a.text.data.toList b.text.data.toList else decide (a.ttl < b.ttl)
/-- The names of a record are not too long. -/
def Fine (r : Rec) : Prop := r.name.size ≤ 400000000 ∧ r.host.size ≤ 400000000

theorem ne_list {p q : ByteArray} (h : p ≠ q) : p.data.toList ≠ q.data.toList := fun e => h (text_ext e)
theorem bq (p q : ByteArray) (h : p ≠ q) : (p.toList == q.toList) = false ∧ (p.data.toList == q.data.toList) = false ∧ (!(p.toList == q.toList)) = true ∧ (!(p.data.toList == q.data.toList)) = true := by
  have e : (p.data.toList == q.data.toList) = false := beq_eq_false_iff_ne.2 (ne_list h)
  refine ⟨by rw [ByteArray.toList_eq, ByteArray.toList_eq]; exact e, e, by rw [ByteArray.toList_eq, ByteArray.toList_eq, e]; rfl, by rw [e]; rfl⟩

section
variable {n1 n2 h1 h2 x1 x2 : ByteArray} {t1 t2 l1 l2 m1 m2 : Int}
theorem lr_name (h : n1 ≠ n2) : lr ⟨n1, t1, l1, m1, h1, x1⟩ ⟨n2, t2, l2, m2, h2, x2⟩ = Ls n1 n2 := if_pos (ne_list h)
theorem lr_ty (h : t1 ≠ t2) : lr ⟨n1, t1, l1, m1, h1, x1⟩ ⟨n1, t2, l2, m2, h2, x2⟩ = decide (t1 < t2) := (if_neg (fun h => h rfl)).trans (if_pos h)
theorem lr_n (h : m1 ≠ m2) : lr ⟨n1, t1, l1, m1, h1, x1⟩ ⟨n1, t1, l2, m2, h2, x2⟩ = decide (m1 < m2) := (if_neg (fun h => h rfl)).trans ((if_neg (fun h => h rfl)).trans (if_pos h))
theorem lr_host (h : h1 ≠ h2) : lr ⟨n1, t1, l1, m1, h1, x1⟩ ⟨n1, t1, l2, m1, h2, x2⟩ = Ls h1 h2 := (if_neg (fun h => h rfl)).trans ((if_neg (fun h => h rfl)).trans ((if_neg (fun h => h rfl)).trans (if_pos (ne_list h))))
theorem lr_text (h : x1 ≠ x2) : lr ⟨n1, t1, l1, m1, h1, x1⟩ ⟨n1, t1, l2, m1, h1, x2⟩ = bytesLess x1.data.toList x2.data.toList :=
  (if_neg (fun h => h rfl)).trans ((if_neg (fun h => h rfl)).trans ((if_neg (fun h => h rfl)).trans ((if_neg (fun h => h rfl)).trans (if_pos (ne_list h)))))
theorem lr_ttl : lr ⟨n1, t1, l1, m1, h1, x1⟩ ⟨n1, t1, l2, m1, h1, x1⟩ = decide (l1 < l2) :=
  (if_neg (fun h => h rfl)).trans ((if_neg (fun h => h rfl)).trans ((if_neg (fun h => h rfl)).trans ((if_neg (fun h => h rfl)).trans (if_neg (fun h => h rfl)))))
end

theorem boxed (w : World) (o p : Obj) : Below w.heap.size w ((w.alloc o).alloc p) := ((Below.refl _ _).alloc (Nat.le_refl _) _).alloc (by simp) _

set_option maxHeartbeats 4000000 in
theorem spec (a b : Rec) (w : World) (ha : Fine a) (hb : Fine b) : Calls Tryz.prog 182 #[.agg #[.string a.name, .int .i64 a.ty, .int .i64 a.ttl, .int .i64 a.n, .string a.host, .string a.text], .agg #[.string b.name, .int .i64 b.ty, .int .i64 b.ttl, .int .i64 b.n, .string b.host, .string b.text]] w fun e w' => e = .returned (.bool (lr a b)) ∧ Below w.heap.size w w' := by
  obtain ⟨n1, t1, l1, m1, h1, x1⟩ := a
  obtain ⟨n2, t2, l2, m2, h2, x2⟩ := b
  obtain ⟨a1, a2⟩ := ha
  obtain ⟨b1, b2⟩ := hb
  simp only at a1 a2 b1 b2 ⊢
  by_cases c0 : n1 = n2
  · subst c0
    by_cases c1 : t1 = t2
    · subst c1
      by_cases c2 : m1 = m2
      · subst c2
        by_cases c3 : h1 = h2
        · subst c3
          by_cases c4 : x1 = x2
          · subst c4
            rw [lr_ttl]
            go_enter Tryz.func182, Tryz.ntmps182
            go_wp2
            all_goals go_ret
            exact ⟨rfl, boxed _ _ _⟩
          · rw [lr_text c4]
            obtain ⟨k1, k2, k3, k4⟩ := bq _ _ c4
            clear c4
            go_enter Tryz.func182, Tryz.ntmps182
            go_wp2
            all_goals go_ret
            exact ⟨by simp [ByteArray.toList_eq], boxed _ _ _⟩
        · rw [lr_host c3]
          obtain ⟨k1, k2, k3, k4⟩ := bq _ _ c3
          clear c3
          go_enter Tryz.func182, Tryz.ntmps182
          go_wp2_with fail
          refine (Less.spec h1 h2 _ a2 b2).mono ?_
          rintro e w1 ⟨rfl, hl⟩
          have L := Lib.hid ((boxed _ _ _).trans (hl.mono (boxed _ _ _).size))
          clear hl k1 k2 k3 k4
          go_wp2
          go_ret
          exact ⟨rfl, L.out⟩
      · rw [lr_n c2]
        have k1 : (m1 == m2) = false := beq_eq_false_iff_ne.2 c2
        have k2 : (m1 != m2) = true := by rw [bne_iff_ne]; exact c2
        clear c2
        go_enter Tryz.func182, Tryz.ntmps182
        go_wp2
        all_goals go_ret
        exact ⟨rfl, boxed _ _ _⟩
    · rw [lr_ty c1]
      have k1 : (t1 == t2) = false := beq_eq_false_iff_ne.2 c1
      have k2 : (t1 != t2) = true := by rw [bne_iff_ne]; exact c1
      clear c1
      go_enter Tryz.func182, Tryz.ntmps182
      go_wp2
      all_goals go_ret
      exact ⟨rfl, boxed _ _ _⟩
  · rw [lr_name c0]
    obtain ⟨k1, k2, k3, k4⟩ := bq _ _ c0
    clear c0
    go_enter Tryz.func182, Tryz.ntmps182
    go_wp2_with fail
    refine (Less.spec n1 n2 _ a1 b1).mono ?_
    rintro e w1 ⟨rfl, hl⟩
    have L := Lib.hid ((boxed _ _ _).trans (hl.mono (boxed _ _ _).size))
    clear hl k1 k2 k3 k4
    go_wp2
    go_ret
    exact ⟨rfl, L.out⟩

set_option maxHeartbeats 4000000 in
theorem impl (a b : Rec) (w : World) (he : Env w) (ha : Fine a) (hb : Fine b) : Calls Tryz.prog 213 #[.agg #[.string a.name, .int .i64 a.ty, .int .i64 a.ttl, .int .i64 a.n, .string a.host, .string a.text], .agg #[.string b.name, .int .i64 b.ty, .int .i64 b.ttl, .int .i64 b.n, .string b.host, .string b.text]] w fun e w' => e = .returned (.bool (lr a b)) ∧ Below w.heap.size w w' := by
  have HE := Lib.hid he
  clear he
  obtain ⟨n1, t1, l1, m1, h1, x1⟩ := a
  obtain ⟨n2, t2, l2, m2, h2, x2⟩ := b
  obtain ⟨a1, a2⟩ := ha
  obtain ⟨b1, b2⟩ := hb
  simp only at a1 a2 b1 b2 ⊢
  by_cases c0 : n1 = n2
  · subst c0
    by_cases c1 : t1 = t2
    · subst c1
      by_cases c2 : m1 = m2
      · subst c2
        by_cases c3 : h1 = h2
        · subst c3
          by_cases c4 : x1 = x2
          · subst c4
            rw [lr_ttl]
            go_enter Tryz.func213, Tryz.ntmps213
            go_wp2
            all_goals go_ret
            exact ⟨rfl, boxed _ _ _⟩
          · rw [lr_text c4]
            obtain ⟨k1, k2, k3, k4⟩ := bq _ _ c4
            clear c4
            go_enter Tryz.func213, Tryz.ntmps213
            go_wp2
            all_goals go_ret
            exact ⟨by simp [ByteArray.toList_eq], boxed _ _ _⟩
        · rw [lr_host c3]
          obtain ⟨k1, k2, k3, k4⟩ := bq _ _ c3
          clear c3
          go_enter Tryz.func213, Tryz.ntmps213
          go_wp2_with fail
          refine (Less.impl h1 h2 _ (HE.out.below (boxed _ _ _)) a2 b2).mono ?_
          rintro e w1 ⟨rfl, hl⟩
          have L := Lib.hid ((boxed _ _ _).trans (hl.mono (boxed _ _ _).size))
          clear hl k1 k2 k3 k4
          go_wp2
          go_ret
          exact ⟨rfl, L.out⟩
      · rw [lr_n c2]
        have k1 : (m1 == m2) = false := beq_eq_false_iff_ne.2 c2
        have k2 : (m1 != m2) = true := by rw [bne_iff_ne]; exact c2
        clear c2
        go_enter Tryz.func213, Tryz.ntmps213
        go_wp2
        all_goals go_ret
        exact ⟨rfl, boxed _ _ _⟩
    · rw [lr_ty c1]
      have k1 : (t1 == t2) = false := beq_eq_false_iff_ne.2 c1
      have k2 : (t1 != t2) = true := by rw [bne_iff_ne]; exact c1
      clear c1
      go_enter Tryz.func213, Tryz.ntmps213
      go_wp2
      all_goals go_ret
      exact ⟨rfl, boxed _ _ _⟩
  · rw [lr_name c0]
    obtain ⟨k1, k2, k3, k4⟩ := bq _ _ c0
    clear c0
    go_enter Tryz.func213, Tryz.ntmps213
    go_wp2_with fail
    refine (Less.impl n1 n2 _ (HE.out.below (boxed _ _ _)) a1 b1).mono ?_
    rintro e w1 ⟨rfl, hl⟩
    have L := Lib.hid ((boxed _ _ _).trans (hl.mono (boxed _ _ _).size))
    clear hl k1 k2 k3 k4
    go_wp2
    go_ret
    exact ⟨rfl, L.out⟩

end Go.Proofs.YtmkcjjgicinggaaGreatDoor.LessR
