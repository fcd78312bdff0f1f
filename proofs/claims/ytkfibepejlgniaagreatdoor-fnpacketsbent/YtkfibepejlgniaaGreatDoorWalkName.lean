/- What the program's walkName, GetName and JumpsIn do: they read a name as WireMath tells, and turn nothing that was there. Conditions: at most 400000000 bytes; the library's variable internal/bytealg.MaxLen holds an int. -/
import Derived.Test.YtkfibepejlgniaaGreatDoorWalkImpl
import Derived.WalkMore
namespace Go.Proofs.YtkfibepejlgniaaGreatDoor.WalkName
open Go.RowKit Go.Proofs.YtkfibepejlgniaaGreatDoor.Mem Go.Proofs.YtkfibepejlgniaaGreatDoor.MemS Go.Proofs.YtkfibepejlgniaaGreatDoor.AppS Go.Proofs.YtkfibepejlgniaaGreatDoor.JoinSpec Go.Proofs.YtkfibepejlgniaaGreatDoor.Labels Go.Proofs.YtkfibepejlgniaaGreatDoor.Label Go.Proofs.YtkfibepejlgniaaGreatDoor.GetLabel Go.Proofs.YtkfibepejlgniaaGreatDoor.NameOk Go.Proofs.YtkfibepejlgniaaGreatDoor.WireMath Go.Proofs.YtkfibepejlgniaaGreatDoor.WalkSpec Go.Proofs.YtkfibepejlgniaaGreatDoor.WalkImpl

/-- What walkName gives: the progress as it ended, and the code. -/
def Wn (w : World) (n : Nat) (R : Nat × List ByteArray × Int × Nat) (e : Ending) (w' : World) : Prop :=
  ∃ (A' : Option Addr) (n' c' : Nat) (k m a : Int), e = .returned (.tuple #[.agg #[.slice A' n' c', .int .i64 k, .int .i64 m, .int .i64 (R.2.2.2 : Int), .int .i64 a], .int .i64 (R.1 : Int)]) ∧
    (R.1 = 0 → Ss w' w'.heap.size A' n' R.2.1 ∧ n' ≤ c' ∧ okL R.2.1 = true ∧ n' ≤ 6 ∧ 0 ≤ k ∧ k < (n : Int) ∧ R.2.2.1 = (if 0 < R.2.2.2 then a else k + 1)) ∧ Below w.heap.size w w'
/-- The block of the result. -/
def Rs (w : World) (g : Nat) : Prop := ∃ v0 v1 v2 v3 v4, Bk w g 144 [v0, v1, v2, v3, v4]
theorem Rs.below {w w' : World} {g B : Nat} (h : Rs w g) (hb : Below B w w') (hg : g < B) : Rs w' g := by
  obtain ⟨v0, v1, v2, v3, v4, h⟩ := h
  exact ⟨v0, v1, v2, v3, v4, h.below hb hg⟩
theorem Rs.grown {w w' : World} {g : Nat} {r : Option Nat} (h : Rs w g) (hb : w.grownBy w' r) (hg : some g ≠ r) : Rs w' g := by
  obtain ⟨v0, v1, v2, v3, v4, h⟩ := h
  exact ⟨v0, v1, v2, v3, v4, h.grown hb hg⟩
/-- What is known between two rounds. -/
def St (w : World) (n : Nat) (l : List UInt8) (R : Nat × List ByteArray × Int × Nat) (L : List ByteArray) (A' : Option Addr) (c' : Nat) (k m a x : Int) (j : Nat) (wr : World) : Prop :=
  Nw wr (w.heap.size + 1) (.slice A' L.length c') k m (j : Int) a ∧ Rw wr (w.heap.size + 1 + 1) (.slice A' L.length c') L ∧ rn l L k m j x = R ∧ okL L = true ∧ Nm (Jo L) = true ∧ Jm j m ∧ ((j = 0 ∧ x = -1) ∨ (0 < j ∧ x = a ∧ 0 ≤ a ∧ a ≤ (n : Int) + 1)) ∧ Rs wr w.heap.size ∧ Below w.heap.size w wr
/-- A cell's integer. -/
def ci (w : World) (p : Addr) : Int := match w.cell? p with
  | some v => intOf v
  | none => 0

theorem ci_of {w : World} {p : Addr} {k : Int} (h : w.cell? p = some (.int .i64 k)) : ci w p = k := by
  unfold ci
  rw [h]
  rfl
/-- The result's block, filled. -/
theorem filled {w : World} {r : Nat} {v0 v1 v2 v3 v4 : Value} (h : Bk w r 144 [v0, v1, v2, v3, v4]) (u0 u1 u2 u3 u4 : Value) :
    Bk (((((w.setCell ⟨r, 0, none⟩ u0).setCell ⟨r, 1, none⟩ u1).setCell ⟨r, 2, none⟩ u2).setCell ⟨r, 3, none⟩ u3).setCell ⟨r, 4, none⟩ u4) r 144 [u0, u1, u2, u3, u4] :=
  ((((h.set 0 u0).set 1 u1).set 2 u2).set 3 u3).set 4 u4
theorem filled_below {B : Nat} {a w : World} {r : Nat} (h : Below B a w) (hr : B ≤ r) (u0 u1 u2 u3 u4 : Value) :
    Below B a (((((w.setCell ⟨r, 0, none⟩ u0).setCell ⟨r, 1, none⟩ u1).setCell ⟨r, 2, none⟩ u2).setCell ⟨r, 3, none⟩ u3).setCell ⟨r, 4, none⟩ u4) :=
  ((((h.setCell (p := ⟨r, 0, none⟩) hr u0).setCell (p := ⟨r, 1, none⟩) hr u1).setCell (p := ⟨r, 2, none⟩) hr u2).setCell (p := ⟨r, 3, none⟩) hr u3).setCell (p := ⟨r, 4, none⟩) hr u4
theorem filled_grown (w : World) (r : Nat) (u0 u1 u2 u3 u4 : Value) :
    w.grownBy (((((w.setCell ⟨r, 0, none⟩ u0).setCell ⟨r, 1, none⟩ u1).setCell ⟨r, 2, none⟩ u2).setCell ⟨r, 3, none⟩ u3).setCell ⟨r, 4, none⟩ u4) (some r) :=
  grown_set (grown_set (grown_set (grown_set (grown_set (grown_refl w (some r)) 0 u0) 1 u1) 2 u2) 3 u3) 4 u4
theorem res_at {w : World} {r : Nat} {u0 u1 u2 u3 u4 u5 : Value} {tmps : Array Value} (h : Bk w r 144 [u0, u1, u2, u3, u4]) (h4 : tmps.getD 4 undef = .pointer (some ⟨r, 0, none⟩)) (h5 : tmps.getD 5 undef = u5) :
    (results Tryz.f146 tmps).run Tryz.prog w = .ok (.tuple #[.agg #[u0, u1, u2, u3, u4], u5]) w := by
  have c0 : w.cell? ⟨r, 0, none⟩ = some u0 := by rw [h.cell]; rfl
  have c1 : w.cell? ⟨r, 1, none⟩ = some u1 := by rw [h.cell]; rfl
  have c2 : w.cell? ⟨r, 2, none⟩ = some u2 := by rw [h.cell]; rfl
  have c3 : w.cell? ⟨r, 3, none⟩ = some u3 := by rw [h.cell]; rfl
  have c4 : w.cell? ⟨r, 4, none⟩ = some u4 := by rw [h.cell]; rfl
  rw [results_cell_tmp (show Tryz.f146.results = #[.cell 4 144, .tmp 5] from rfl), h4, h5]
  simp [go_sem, c0, c1, c2, c3, c4]
theorem fin_bad {w wr : World} {n : Nat} {R : Nat × List ByteArray × Int × Nat} {A' : Option Addr} {n' c' : Nat} {k m a : Int} {j q : Nat} (hV : R = (q, [], 0, j)) (hq : q ≠ 0) (hb : Below w.heap.size w wr) :
    Wn w n R (.returned (.tuple #[.agg #[.slice A' n' c', .int .i64 k, .int .i64 m, .int .i64 (j : Int), .int .i64 a], .int .i64 (q : Int)])) wr := by
  subst hV
  exact ⟨A', n', c', k, m, a, rfl, fun h => absurd h hq, hb⟩
theorem fin_good {w wr w' : World} {n : Nat} {l : List UInt8} {R : Nat × List ByteArray × Int × Nat} {L : List ByteArray} {A' : Option Addr} {c' : Nat} {k m a x : Int} {j : Nat} (hT : St w n l R L A' c' k m a x j wr) (hV : R = (0, L, if x < 0 then k + 1 else x, j)) (h0 : 0 ≤ k) (h1 : k < (n : Int))
    (hg : wr.grownBy w' (some w.heap.size)) (hb : Below w.heap.size w w') :
    Wn w n R (.returned (.tuple #[.agg #[.slice A' L.length c', .int .i64 k, .int .i64 m, .int .i64 (j : Int), .int .i64 a], .int .i64 0])) w' := by
  obtain ⟨_, hrw, _, hok, hnm, _, hxa, _, _⟩ := hT
  subst hV
  have hr2 : Rw w' (w.heap.size + 1 + 1) (.slice A' L.length c') L := by
    refine World.ownsRow.kept hrw hg ?_
    cases hv : (Value.slice A' L.length c').ownBlock with
    | none => exact Or.inl rfl
    | some q =>
      have := (World.ownsRow.lt hrw q hv).1
      exact Or.inr (fun e => by have := Option.some.inj e; omega)
  refine ⟨A', L.length, c', k, m, a, rfl, fun _ => ⟨?_, ?_, hok, nm_len hok hnm, h0, h1, ?_⟩, hb⟩
  · rcases hr2.2 with ⟨h, h'⟩ | ⟨g, cap, cur, hv, _⟩
    · have hL : L = [] := List.eq_nil_of_length_eq_zero h'
      subst hL
      exact Ss.nil
    · simp only [Value.slice.injEq, true_and] at hv
      obtain ⟨rfl, rfl⟩ := hv
      exact (hr2.ss rfl).1
  · rcases hr2.2 with ⟨h, h'⟩ | ⟨g, cap, cur, hv, _, _, hle, _⟩
    · omega
    · simp only [Value.slice.injEq, true_and] at hv
      obtain ⟨rfl, rfl⟩ := hv
      exact hle
  · dsimp only
    rcases hxa with ⟨rfl, rfl⟩ | ⟨hj, rfl, ha, _⟩
    · simp
    · rw [if_neg (by omega), if_pos hj]
theorem St.jump {w wr w' : World} {n : Nat} {l : List UInt8} {R : Nat × List ByteArray × Int × Nat} {L : List ByteArray} {A' : Option Addr} {c' : Nat} {k m a x t : Int} {j : Nat} (hT : St w n l R L A' c' k m a x j wr) (h0 : 0 ≤ k) (h1 : k < (n : Int)) (ht0 : 0 ≤ t) (ht1 : t < 16384) (htm : t < m)
    (hV : rn l L t t (j + 1) (if x < 0 then k + 2 else x) = R) (hw : Nw w' (w.heap.size + 1) (.slice A' L.length c') t t ((j + 1 : Nat) : Int) (aft j k a)) (hg : wr.grownBy w' (some (w.heap.size + 1))) :
    St w n l R L A' c' t t (aft j k a) (if x < 0 then k + 2 else x) (j + 1) w' := by
  obtain ⟨hnw, hrw, hrn, hok, hnm, hjm, hxa, hrs, hbl⟩ := hT
  refine ⟨hw, hrw.far hg, hV, hok, hnm, hjm.more ht0 htm ht1, Or.inr ⟨by omega, ?_⟩, hrs.grown hg (fun e => by have := Option.some.inj e; omega), hbl.grown hg hbl.size (fun q hq => by cases hq; omega)⟩
  unfold aft
  rcases hxa with ⟨rfl, rfl⟩ | ⟨hj, rfl, ha, ha2⟩
  · rw [if_pos (by omega), if_pos rfl]
    omega
  · rw [if_neg (by omega), if_neg (by omega)]
    exact ⟨rfl, ha, ha2⟩
theorem St.take {w wr w' : World} {n : Nat} {l : List UInt8} {R : Nat × List ByteArray × Int × Nat} {L : List ByteArray} {A' : Option Addr} {c' g' c2 : Nat} {k m a x e : Int} {j : Nat} {p : ByteArray} (hT : St w n l R L A' c' k m a x j wr)
    (hV : rn l (L ++ [p]) e m j x = R) (hok : okL (L ++ [p]) = true) (hnm : Nm (Jo (L ++ [p])) = true) (hw : Nw w' (w.heap.size + 1) (.slice (some ⟨g', 0, none⟩) (L ++ [p]).length c2) e m (j : Int) a) (hr : Rw w' (w.heap.size + 1 + 1) (.slice (some ⟨g', 0, none⟩) (L ++ [p]).length c2) (L ++ [p])) (hb : Below (w.heap.size + 1) wr w') :
    St w n l R (L ++ [p]) (some ⟨g', 0, none⟩) c2 e m a x j w' := by
  obtain ⟨hnw, hrw, hrn, _, _, hjm, hxa, hrs, hbl⟩ := hT
  exact ⟨hw, hr, hV, hok, hnm, hjm, hxa, hrs.below hb (by omega), hbl.trans (hb.mono (by omega))⟩

set_option maxRecDepth 100000 in
set_option maxHeartbeats 16000000 in
theorem walkName (A : Option Addr) (n c : Nat) (l : List UInt8) (k0 : Int) (w : World) (R : Nat × List ByteArray × Int × Nat) (hR : rn l [] k0 k0 0 (-1) = R) (he : Env w) (hs : Sl w w.heap.size A n l) (hn : n ≤ 400000000) (hnc : n ≤ c) :
    Calls Tryz.prog 146 #[.slice A n c, .int .i64 k0] w (Wn w n R) := by
  have HS := Lib.hid hs
  have HL := Lib.hid hs.1
  have HR := Lib.hid hR
  have HE := Lib.hid he
  clear hs hR he
  go_enter Tryz.func146, Tryz.ntmps146
  go_wp2
  go_step3
  go_wp2
  go_step3
  go_wp2
  go_loopw [7] (fun q wr => q = .int .i64 0 ∧ ∃ (L : List ByteArray) (A' : Option Addr) (c' : Nat) (k m a x : Int) (j : Nat), Hid (St w n l R L A' c' k m a x j wr)) (fun _ wr => mu l (ci wr ⟨w.heap.size + 1, 1, none⟩) (ci wr ⟨w.heap.size + 1, 2, none⟩))
  case atStart =>
    refine ⟨rfl, [], none, 0, k0, k0, 0, -1, 0, ?_⟩
    have hb := (((Below.refl w.heap.size w).alloc (Nat.le_refl _) (.cells #[Value.slice none 0 0, .int .i64 0, .int .i64 0, .int .i64 0, .int .i64 0] 144)).alloc (by simp) (.cells #[Value.slice none 0 0, .int .i64 k0, .int .i64 k0, .int .i64 0, .int .i64 0] 144))
    refine ⟨?_, World.ownsRow_nil _ _ _ _, HR.out, rfl, rfl, Or.inl rfl, Or.inl ⟨rfl, rfl⟩, ?_, hb⟩
    · have := heap_alloc_new (w.alloc (.cells #[Value.slice none 0 0, .int .i64 0, .int .i64 0, .int .i64 0, .int .i64 0] 144)) (.cells #[Value.slice none 0 0, .int .i64 k0, .int .i64 k0, .int .i64 0, .int .i64 0] 144)
      rw [World.size_alloc] at this
      exact this
    · exact ⟨_, _, _, _, _, (Below.heap_alloc _ _ _ (by simp)).trans (heap_alloc_new w _)⟩
  case round =>
    obtain ⟨rfl, L, A', c', k, m, a, x, j, HT⟩ := hrel
    obtain ⟨hnw, hrw, hrn, hok, hnm, hjm, hxa, hrs, hbl⟩ := HT.out
    have NW := Lib.hid hnw
    have RW := Lib.hid hrw
    have HI := Lib.hid hrn
    have HK := Lib.hid hok
    have HN := Lib.hid hnm
    have HB := Lib.hid hbl
    have HRS := Lib.hid hrs
    have hj := hjm.lt
    have hL6 := nm_len hok hnm
    have HSR := Lib.hid ((HS.out.below hbl).wider hbl.size)
    have h0 := hnw.c0
    have h1 := hnw.c1
    have h2 := hnw.c2
    have h3 := hnw.c3
    have h4 := hnw.c4
    clear hnw hrw hrn hok hnm hjm hxa hrs hbl
    by_cases hk : k < 0 ∨ (n : Int) ≤ k
    · have HV := Lib.hid (HI.out.symm.trans (rn_out (by rw [HL.out]; exact hk)))
      obtain ⟨v0, v1, v2, v3, v4, hz⟩ := HRS.out
      have z0 : wr.cell? ⟨w.heap.size, 0, none⟩ = some v0 := by rw [hz.cell]; rfl
      have z1 : wr.cell? ⟨w.heap.size, 1, none⟩ = some v1 := by rw [hz.cell]; rfl
      have z2 : wr.cell? ⟨w.heap.size, 2, none⟩ = some v2 := by rw [hz.cell]; rfl
      have z3 : wr.cell? ⟨w.heap.size, 3, none⟩ = some v3 := by rw [hz.cell]; rfl
      have z4 : wr.cell? ⟨w.heap.size, 4, none⟩ = some v4 := by rw [hz.cell]; rfl
      have y0 := hz.free 0
      have y1 := hz.free 1
      have y2 := hz.free 2
      have y3 := hz.free 3
      have y4 := hz.free 4
      have HZ := Lib.hid hz
      clear hz
      rcases (show k < 0 ∨ (¬ k < 0 ∧ (n : Int) ≤ k) by omega) with hk1 | ⟨hk0, hk1⟩
      all_goals
        clear hk
        go_wp2
        (try rw [Exit.noGoto_ret]); refine bodyPost_ret (res_at (filled HZ.out _ _ _ _ _) rfl rfl) rfl ?_
        exact fin_bad HV.out (by decide) (filled_below HB.out (Nat.le_refl _) _ _ _ _ _)
    · obtain ⟨k', rfl⟩ := Int.eq_ofNat_of_zero_le (show 0 ≤ k by omega)
      have hkn : k' < n := by omega
      have hkl : k' < l.length := by rw [HL.out]; exact hkn
      have HO : Hid (¬ ((k' : Int) < 0 ∨ (l.length : Int) ≤ (k' : Int))) := by show ¬ _; rw [HL.out]; exact hk
      obtain ⟨b, off, hAA, hbB, hcs⟩ := HS.out.2 (by omega)
      have hcell : wr.cell? ⟨b, off + k', none⟩ = some (.int .u8 (l[k'].toNat : Int)) := (HB.out.cell (p := ⟨b, off + k', none⟩) hbB).trans (hcs k' hkl)
      subst hAA
      have HY := Lib.hid (bt_nat l k' hkl)
      have hy1 : l[k'].toNat < 256 := l[k'].toNat_lt
      clear hk hcs
      generalize l[k'].toNat = y at *
      by_cases hy0 : y = 0
      · subst hy0
        have HV := Lib.hid (HI.out.symm.trans (rn_zero HO.out HY.out))
        obtain ⟨v0, v1, v2, v3, v4, hz⟩ := HRS.out
        have z0 : wr.cell? ⟨w.heap.size, 0, none⟩ = some v0 := by rw [hz.cell]; rfl
        have z1 : wr.cell? ⟨w.heap.size, 1, none⟩ = some v1 := by rw [hz.cell]; rfl
        have z2 : wr.cell? ⟨w.heap.size, 2, none⟩ = some v2 := by rw [hz.cell]; rfl
        have z3 : wr.cell? ⟨w.heap.size, 3, none⟩ = some v3 := by rw [hz.cell]; rfl
        have z4 : wr.cell? ⟨w.heap.size, 4, none⟩ = some v4 := by rw [hz.cell]; rfl
        have y0 := hz.free 0
        have y1 := hz.free 1
        have y2 := hz.free 2
        have y3 := hz.free 3
        have y4 := hz.free 4
        have HZ := Lib.hid hz
        clear hz
        go_wp2
        (try rw [Exit.noGoto_ret]); refine bodyPost_ret (res_at (filled HZ.out _ _ _ _ _) rfl rfl) rfl ?_
        exact fin_good HT.out HV.out (by omega) (by omega) (filled_grown _ _ _ _ _ _ _) (filled_below HB.out (Nat.le_refl _) _ _ _ _ _)
      · have hyne : ((y : Int) == 0) = false := by rw [beq_eq_false_iff_ne]; omega
        have HY0 : Hid (bt l (k' : Int) ≠ 0) := by show _ ≠ _; rw [HY.out]; omega
        by_cases hy192 : 192 ≤ y
        · have H192 : Hid (192 ≤ bt l (k' : Int)) := by show _ ≤ _; rw [HY.out]; omega
          have hq : (192 : Int) ≤ (y : Int) := by omega
          by_cases hk1 : n ≤ k' + 1
          · have HV := Lib.hid (HI.out.symm.trans (rn_cut HO.out H192.out (by rw [HL.out]; omega)))
            obtain ⟨v0, v1, v2, v3, v4, hz⟩ := HRS.out
            have z0 : wr.cell? ⟨w.heap.size, 0, none⟩ = some v0 := by rw [hz.cell]; rfl
            have z1 : wr.cell? ⟨w.heap.size, 1, none⟩ = some v1 := by rw [hz.cell]; rfl
            have z2 : wr.cell? ⟨w.heap.size, 2, none⟩ = some v2 := by rw [hz.cell]; rfl
            have z3 : wr.cell? ⟨w.heap.size, 3, none⟩ = some v3 := by rw [hz.cell]; rfl
            have z4 : wr.cell? ⟨w.heap.size, 4, none⟩ = some v4 := by rw [hz.cell]; rfl
            have y0 := hz.free 0
            have y1 := hz.free 1
            have y2 := hz.free 2
            have y3 := hz.free 3
            have y4 := hz.free 4
            have HZ := Lib.hid hz
            clear hz
            go_wp2_with fail
            refine (follow_cut _ n c (w.heap.size + 1) _ k' m (j : Int) a wr NW.out hn hk1 hkn).mono ?_
            rintro e w2 ⟨rfl, rfl⟩
            go_wp2
            (try rw [Exit.noGoto_ret]); refine bodyPost_ret (res_at (filled HZ.out _ _ _ _ _) rfl rfl) rfl ?_
            exact fin_bad HV.out (by decide) (filled_below HB.out (Nat.le_refl _) _ _ _ _ _)
          · have HK1 : Hid (¬ (l.length : Int) ≤ (k' : Int) + 1) := by show ¬ _; rw [HL.out]; omega
            by_cases hm : m ≤ tg l (k' : Int)
            · have HV := Lib.hid (HI.out.symm.trans (rn_bad HO.out H192.out HK1.out hm))
              have HM := Lib.hid hm
              clear hm
              obtain ⟨v0, v1, v2, v3, v4, hz⟩ := HRS.out
              have z0 : wr.cell? ⟨w.heap.size, 0, none⟩ = some v0 := by rw [hz.cell]; rfl
              have z1 : wr.cell? ⟨w.heap.size, 1, none⟩ = some v1 := by rw [hz.cell]; rfl
              have z2 : wr.cell? ⟨w.heap.size, 2, none⟩ = some v2 := by rw [hz.cell]; rfl
              have z3 : wr.cell? ⟨w.heap.size, 3, none⟩ = some v3 := by rw [hz.cell]; rfl
              have z4 : wr.cell? ⟨w.heap.size, 4, none⟩ = some v4 := by rw [hz.cell]; rfl
              have y0 := hz.free 0
              have y1 := hz.free 1
              have y2 := hz.free 2
              have y3 := hz.free 3
              have y4 := hz.free 4
              have HZ := Lib.hid hz
              clear hz
              go_wp2_with fail
              refine (follow_bad _ n c l (w.heap.size + 1) _ k' m (j : Int) a wr _ HSR.out NW.out hn hnc (by omega) HM.out).mono ?_
              rintro e w2 ⟨rfl, rfl⟩
              go_wp2
              (try rw [Exit.noGoto_ret]); refine bodyPost_ret (res_at (filled HZ.out _ _ _ _ _) rfl rfl) rfl ?_
              exact fin_bad HV.out (by decide) (filled_below HB.out (Nat.le_refl _) _ _ _ _ _)
            · have HV := Lib.hid ((rn_jump HO.out H192.out HK1.out hm).symm.trans HI.out)
              have HM := Lib.hid hm
              have HMU := Lib.hid (mu_jump l (k' : Int) m (tg l (k' : Int)) (tg_pos l _ H192.out) (by omega))
              have HC := Lib.hid (show ci wr ⟨w.heap.size + 1, 1, none⟩ = (k' : Int) ∧ ci wr ⟨w.heap.size + 1, 2, none⟩ = m from ⟨ci_of h1, ci_of h2⟩)
              clear hm
              go_wp2_with fail
              refine (follow_jump _ n c l (w.heap.size + 1) _ k' m a j wr _ HSR.out NW.out hn hnc (by omega) (by have := HM.out; omega) hj).mono ?_
              rintro e w2 ⟨rfl, hw2, hg2⟩
              have T2 := Lib.hid (HT.out.jump (by omega) (by omega) (tg_pos l _ H192.out) (tg_lt l _) (by have := HM.out; omega) HV.out hw2 hg2)
              have D2 := Lib.hid (show ci w2 ⟨w.heap.size + 1, 1, none⟩ = tg l (k' : Int) ∧ ci w2 ⟨w.heap.size + 1, 2, none⟩ = tg l (k' : Int) from ⟨ci_of hw2.c1, ci_of hw2.c2⟩)
              clear hw2 hg2 hcell h0 h1 h2 h3 h4
              go_wp2
              go_roundw
              case rel => exact ⟨rfl, _, _, _, _, _, _, _, _, T2.out⟩
              case measure => rw [HC.out.1, HC.out.2, D2.out.1, D2.out.2]; exact HMU.out
        · have H192 : Hid (¬ 192 ≤ bt l (k' : Int)) := by show ¬ _; rw [HY.out]; omega
          have hq : ¬ (192 : Int) ≤ (y : Int) := by omega
          have hq2 : decide ((192 : Int) ≤ (y : Int)) = false := decide_eq_false hq
          cases hh : has l (k' : Int) with
          | none =>
            have HV : Hid (R = (ler l (k' : Int), [], 0, j)) := HI.out.symm.trans (rn_none HO.out HY0.out H192.out hh)
            have HLE : Hid (ler l (k' : Int) ≠ 0) := by show _ ≠ _; unfold ler; split <;> omega
            have hle2 : ((ler l (k' : Int) : Int) != 0) = true := by have := HLE.out; simp; omega
            have TN := Lib.hid (take_none (some ⟨b, off, none⟩) n c l (w.heap.size + 1) _ k' m (j : Int) a wr HSR.out NW.out hn hnc hkn hh)
            clear hh
            generalize ler l (k' : Int) = q at *
            go_wp2_with fail
            refine TN.out.mono ?_
            rintro e w2 ⟨rfl, hl⟩
            have W2 := Lib.hid (NW.out.below hl NW.out.lt)
            have B2 := Lib.hid (HB.out.trans (hl.mono HB.out.size))
            have S2 := Lib.hid (HRS.out.below hl (by have := NW.out.lt; omega))
            clear hl hcell h0 h1 h2 h3 h4
            have h0 := W2.out.c0
            have h1 := W2.out.c1
            have h2 := W2.out.c2
            have h3 := W2.out.c3
            have h4 := W2.out.c4
            obtain ⟨v0, v1, v2, v3, v4, hz⟩ := S2.out
            have z0 : w2.cell? ⟨w.heap.size, 0, none⟩ = some v0 := by rw [hz.cell]; rfl
            have z1 : w2.cell? ⟨w.heap.size, 1, none⟩ = some v1 := by rw [hz.cell]; rfl
            have z2 : w2.cell? ⟨w.heap.size, 2, none⟩ = some v2 := by rw [hz.cell]; rfl
            have z3 : w2.cell? ⟨w.heap.size, 3, none⟩ = some v3 := by rw [hz.cell]; rfl
            have z4 : w2.cell? ⟨w.heap.size, 4, none⟩ = some v4 := by rw [hz.cell]; rfl
            have y0 := hz.free 0
            have y1 := hz.free 1
            have y2 := hz.free 2
            have y3 := hz.free 3
            have y4 := hz.free 4
            have HZ := Lib.hid hz
            clear hz
            go_wp2
            (try rw [Exit.noGoto_ret]); refine bodyPost_ret (res_at (filled HZ.out _ _ _ _ _) rfl rfl) rfl ?_
            exact fin_bad HV.out HLE.out (filled_below B2.out (Nat.le_refl _) _ _ _ _ _)
          | some qq =>
            obtain ⟨p, e0⟩ := qq
            have hsome := has_some hh
            have HK2 := Lib.hid (okL_snoc HK.out hsome.2.2.2.1)
            have hke : (k' : Int) < (e0 : Int) := hsome.2.1
            have HMU := Lib.hid (mu_label l (k' : Int) m (e0 : Int) (by omega) hke (by omega))
            have HH := Lib.hid hh
            have HC := Lib.hid (show ci wr ⟨w.heap.size + 1, 1, none⟩ = (k' : Int) ∧ ci wr ⟨w.heap.size + 1, 2, none⟩ = m from ⟨ci_of h1, ci_of h2⟩)
            have HEN := Lib.hid (HE.out.below HB.out)
            clear hh hsome
            cases hb : Nm (Jo (L ++ [p])) with
            | true =>
              have HV := Lib.hid ((rn_label HO.out HY0.out H192.out HH.out hb).symm.trans HI.out)
              have HNM := Lib.hid hb
              clear hb
              go_wp2_with fail
              refine (take_ok (some ⟨b, off, none⟩) n c l (w.heap.size + 1) A' L.length c' L k' m (j : Int) a p e0 wr (by omega) HEN.out HSR.out NW.out RW.out hn hnc HH.out hL6 HK2.out HNM.out).mono ?_
              rintro e w2 ⟨rfl, ⟨g2, c2, hw2, hr2⟩, hb2⟩
              have T2 := Lib.hid (HT.out.take HV.out HK2.out HNM.out hw2 hr2 hb2)
              have D2 := Lib.hid (show ci w2 ⟨w.heap.size + 1, 1, none⟩ = (e0 : Int) ∧ ci w2 ⟨w.heap.size + 1, 2, none⟩ = m from ⟨ci_of hw2.c1, ci_of hw2.c2⟩)
              clear hw2 hr2 hb2 hcell h0 h1 h2 h3 h4
              go_wp2
              go_roundw
              case rel => exact ⟨rfl, _, _, _, _, _, _, _, _, T2.out⟩
              case measure => rw [HC.out.1, HC.out.2, D2.out.1, D2.out.2]; exact HMU.out
            | false =>
              have HV := Lib.hid (HI.out.symm.trans (rn_long HO.out HY0.out H192.out HH.out hb))
              have HNM := Lib.hid hb
              clear hb
              go_wp2_with fail
              refine (take_long (some ⟨b, off, none⟩) n c l (w.heap.size + 1) A' L.length c' L k' m (j : Int) a p e0 wr (by omega) HEN.out HSR.out NW.out RW.out hn hnc HH.out hL6 HK2.out HNM.out).mono ?_
              rintro e w2 ⟨rfl, ⟨g2, c2, hw2, hr2⟩, hb2⟩
              have S2 := Lib.hid (HRS.out.below hb2 (by omega))
              have B2 := Lib.hid (HB.out.trans (hb2.mono (by omega)))
              clear hr2 hb2 hcell h0 h1 h2 h3 h4
              have h0 := hw2.c0
              have h1 := hw2.c1
              have h2 := hw2.c2
              have h3 := hw2.c3
              have h4 := hw2.c4
              clear hw2
              obtain ⟨v0, v1, v2, v3, v4, hz⟩ := S2.out
              have z0 : w2.cell? ⟨w.heap.size, 0, none⟩ = some v0 := by rw [hz.cell]; rfl
              have z1 : w2.cell? ⟨w.heap.size, 1, none⟩ = some v1 := by rw [hz.cell]; rfl
              have z2 : w2.cell? ⟨w.heap.size, 2, none⟩ = some v2 := by rw [hz.cell]; rfl
              have z3 : w2.cell? ⟨w.heap.size, 3, none⟩ = some v3 := by rw [hz.cell]; rfl
              have z4 : w2.cell? ⟨w.heap.size, 4, none⟩ = some v4 := by rw [hz.cell]; rfl
              have y0 := hz.free 0
              have y1 := hz.free 1
              have y2 := hz.free 2
              have y3 := hz.free 3
              have y4 := hz.free 4
              have HZ := Lib.hid hz
              clear hz
              generalize (L ++ [p]).length = n2 at *
              go_wp2
              (try rw [Exit.noGoto_ret]); refine bodyPost_ret (res_at (filled HZ.out _ _ _ _ _) rfl rfl) rfl ?_
              exact fin_bad HV.out (by decide) (filled_below B2.out (Nat.le_refl _) _ _ _ _ _)
end Go.Proofs.YtkfibepejlgniaaGreatDoor.WalkName
