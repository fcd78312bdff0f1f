/- The law FnExactAddrsOf returns true at every name space and every name, where the library variable internal/bytealg.MaxLen holds an int: AddrsOf answers as its model. -/
import Derived.Test.YtmkcjjgicinggaaGreatDoorMemI
import Derived.Deep.QuietTactic
import Derived.BigQuiet
import Derived.Test.YtmkcjjgicinggaaGreatDoorSzF
import Derived.Test.YtmkcjjgicinggaaGreatDoorToF
import Derived.Test.YtmkcjjgicinggaaGreatDoorEqF
import Derived.Test.YtmkcjjgicinggaaGreatDoorMarkF
import Derived.Test.YtmkcjjgicinggaaGreatDoorAdoS
import Derived.Test.YtmkcjjgicinggaaGreatDoorExactAddrsOfP3
import Derived.Deep.RegionHeld3
import Derived.Test.YtmkcjjgicinggaaGreatDoorLabels
import Derived.LaidLaws
import Derived.Test.YtmkcjjgicinggaaGreatDoorMemR
import Derived.Deep.Slices
import Derived.Deep.Fields
import Derived.ChangeSame
import Derived.ProofKit
import Derived.OpenShut
import Derived.Test.YtmkcjjgicinggaaGreatDoorCards
import Derived.Test.YtmkcjjgicinggaaGreatDoorTie
import Derived.ShutString
import Derived.ChangeOld
import Derived.Below
import Derived.Deep.DeepHandedRow
/- What eqIntS does on two slices that read the same: it returns true and turns nothing. Condition: fewer than 400000001 ints. -/
namespace Go.Proofs.YtmkcjjgicinggaaGreatDoor.EqI
open Go.RowKit Go.Proofs.YtmkcjjgicinggaaGreatDoor.Mem Go.Proofs.YtmkcjjgicinggaaGreatDoor.MemI

set_option maxHeartbeats 1000000 in
theorem eqIntS_same (A A' : Option Addr) (n c c' : Nat) (l : List Int) (w : World) (hs : Si w A n l) (hs' : Si w A' n l) (hn : n ≤ 400000000) :
    Calls Tryz.prog 37 #[.slice A n c, .slice A' n c'] w fun e w' => e = .returned (.bool true) ∧ Below w.heap.size w w' := by
  have HL := Lib.hid hs.1
  have hd : ((n : Int) != (n : Int)) = false := by simp
  go_enter Tryz.func37, Tryz.ntmps37
  go_wp2
  go_loopw [5] (fun i wr => ∃ k : Nat, k ≤ n ∧ i = .int .i64 k ∧ Hid (∃ q, wr = w.drewN q)) (fun i _ => n - (intOf i).toNat)
  case atStart => exact ⟨0, Nat.zero_le _, rfl, ⟨0, rfl⟩⟩
  case round =>
    obtain ⟨k, hk, rfl, HW⟩ := hrel
    obtain ⟨q, rfl⟩ := HW.out
    clear HW
    by_cases hlt : k < n
    · obtain ⟨b, off, rfl, hbB, hcs⟩ := hs.2 (by omega)
      obtain ⟨b', off', rfl, hbB', hcs'⟩ := hs'.2 (by omega)
      have hkl : k < l.length := by rw [HL.out]; exact hlt
      have hx : w.cell? ⟨b, off + k, none⟩ = some (.int .i64 l[k]) := hcs k hkl
      have hy : w.cell? ⟨b', off' + k, none⟩ = some (.int .i64 l[k]) := hcs' k hkl
      have hbb : (l[k] != l[k]) = false := by simp
      clear hcs hcs' hs hs'
      go_wp2
      go_quiet (fail)
      go_wp2
      go_roundw
      case rel => exact ⟨k + 1, by omega, by go_num, ⟨_, rfl⟩⟩
      case measure => simp [intOf]; omega
    · go_wp2
      go_ret
      exact ⟨rfl, drewN_below _ _ _⟩
end Go.Proofs.YtmkcjjgicinggaaGreatDoor.EqI

/- What the law's own helpers markIntS and heldIntS do: every element becomes its number; they are found again. Condition: fewer than 2000001 ints. -/
namespace Go.Proofs.YtmkcjjgicinggaaGreatDoor.MarkI
open Go.RowKit Go.Proofs.YtmkcjjgicinggaaGreatDoor.Mem Go.Proofs.YtmkcjjgicinggaaGreatDoor.MemI

/-- The marks: k, k + 1 and so on. -/
def nums (k n : Nat) : List Int := (List.range n).map (fun j => ((k + j : Nat) : Int))
theorem nums_len (k n : Nat) : (nums k n).length = n := by simp [nums]
theorem nums_at (k n j : Nat) (h : j < n) : (nums k n)[j]? = some ((k + j : Nat) : Int) := by simp [nums, h]
theorem nums_snoc (k n : Nat) : nums k (n + 1) = nums k n ++ [((k + n : Nat) : Int)] := by simp [nums, List.range_succ]
theorem mark_step (cs : List Value) (k j n : Nat) (hj : j < n) (hn : n ≤ cs.length) :
    ((nums k j).map iv ++ cs.drop j).set j (Value.int .i64 ((k + j : Nat) : Int)) = (nums k (j + 1)).map iv ++ cs.drop (j + 1) := by
  rw [List.set_append_right _ _ (by rw [List.length_map, nums_len]; omega), List.length_map, nums_len, Nat.sub_self, List.drop_eq_getElem_cons (by omega), List.set_cons_zero, nums_snoc, List.map_append, List.append_assoc]
  rfl
theorem mark_at (cs : List Value) (k j : Nat) (hj : j < cs.length) : ((nums k j).map iv ++ cs.drop j)[j]? = some cs[j] := by
  rw [List.getElem?_append_right (by rw [List.length_map, nums_len]; omega), List.length_map, nums_len, Nat.sub_self, List.drop_eq_getElem_cons hj]
  rfl
theorem grown_set {w wr : World} {g : Nat} (h : w.grownBy wr (some g)) (j : Nat) (u : Value) : w.grownBy (wr.setCell ⟨g, j, none⟩ u) (some g) :=
  ⟨h.os, h.tape, h.output, by simpa [World.setCell] using h.size, fun k hk hne => by
    rw [Below.heap_setCell _ _ _ _ (fun e => hne (by simp [e]))]; exact h.block k hk hne⟩

set_option maxHeartbeats 1000000 in
theorem markIntS_one (g n c : Nat) (l : List Int) (r : List Value) (w : World) (hb : Bk w g 3 (l.map iv ++ r)) (hl : l.length = n) (hn : n ≤ 2000000) :
    Calls Tryz.prog 40 #[.slice (some ⟨g, 0, none⟩) n c, .int .i64 1] w fun e w' => e = .returned (.int .i64 (1 + (n : Int))) ∧ Bk w' g 3 ((nums 1 n).map iv ++ r) ∧ w.grownBy w' (some g) := by
  have HB := Lib.hid hb
  have HC : Hid ((l.map iv ++ r).drop n = r) := by
    show _ = _
    rw [List.drop_append_of_le_length (by rw [List.length_map, hl]; omega), List.drop_eq_nil_of_le (by rw [List.length_map, hl]; omega), List.nil_append]
  have HX : Hid (∀ j, j < n → ∃ x : Int, (l.map iv ++ r)[j]? = some (.int .i64 x)) := fun j hj => ⟨l[j]'(by omega), by
    rw [List.getElem?_append_left (by rw [List.length_map, hl]; exact hj), iv_get l j (by omega)]⟩
  have hle : Hid (n ≤ (l.map iv ++ r).length) := by show _ ≤ _; rw [List.length_append, List.length_map, hl]; omega
  clear hb hl
  generalize hcs : l.map iv ++ r = cs at *
  clear hcs
  go_enter Tryz.func40, Tryz.ntmps40
  go_wp2
  go_loopw [1, 5] (fun kk i wr => ∃ j u : Nat, j ≤ n ∧ i = .int .i64 j ∧ kk = .int .i64 (u : Int) ∧ Hid (u = 1 + j) ∧ Hid (Bk wr g 3 ((nums 1 j).map iv ++ cs.drop j)) ∧ Hid (w.grownBy wr (some g))) (fun _ i _ => n - (intOf i).toNat)
  case atStart => exact ⟨0, 1, Nat.zero_le _, rfl, rfl, rfl, HB.out, World.grownBy.refl _ _⟩
  case round =>
    obtain ⟨j, u, hj, rfl, rfl, HU, HJ, HG⟩ := hrel
    have hu : u ≤ 2000001 := by have := HU.out; omega
    by_cases hlt : j < n
    · obtain ⟨x, hxx⟩ := HX.out j hlt
      have hx : wr.cell? ⟨g, j, none⟩ = some (.int .i64 x) := by
        have := hle.out
        rw [HJ.out.cell, mark_at cs 1 j (by omega), ← hxx, List.getElem?_eq_getElem (by omega)]
      have hf : wr.frozen? ⟨g, j, none⟩ = false := HJ.out.free j
      clear hxx
      go_wp2
      go_roundw
      case rel =>
        refine ⟨j + 1, u + 1, by omega, by go_num, by go_num, by show _ = _; rw [HU.out]; omega, ?_, grown_set HG.out _ _⟩
        have := HJ.out.set j (.int .i64 ((1 + j : Nat) : Int))
        rw [mark_step cs 1 j n hlt hle.out, ← HU.out] at this
        exact this
      case measure => simp [intOf]; omega
    · obtain rfl : n = j := by omega
      go_wp2
      go_ret
      refine ⟨by rw [HU.out]; go_num, ?_, HG.out⟩
      have := HJ.out
      rw [HC.out] at this
      exact this

set_option maxHeartbeats 1000000 in
theorem heldIntS_one (g n c : Nat) (r : List Value) (w : World) (hb : Bk w g 3 ((nums 1 n).map iv ++ r)) (hn : n ≤ 2000000) :
    Calls Tryz.prog 41 #[.slice (some ⟨g, 0, none⟩) n c, .int .i64 1] w fun e w' => e = .returned (.int .i64 (1 + (n : Int))) ∧ Below w.heap.size w w' := by
  have HB := Lib.hid hb
  clear hb
  go_enter Tryz.func41, Tryz.ntmps41
  go_wp2
  go_loopw [1, 5] (fun kk i wr => ∃ j u : Nat, j ≤ n ∧ i = .int .i64 j ∧ kk = .int .i64 (u : Int) ∧ Hid (u = 1 + j) ∧ Hid (Below w.heap.size w wr)) (fun _ i _ => n - (intOf i).toNat)
  case atStart => exact ⟨0, 1, Nat.zero_le _, rfl, rfl, rfl, Below.refl _ _⟩
  case round =>
    obtain ⟨j, u, hj, rfl, rfl, HU, HW⟩ := hrel
    have hu : u ≤ 2000001 := by have := HU.out; omega
    by_cases hlt : j < n
    · have hx : wr.cell? ⟨g, j, none⟩ = some (.int .i64 (u : Int)) := by
        rw [(HB.out.below HW.out HB.out.lt).cell, List.getElem?_append_left (by rw [List.length_map, nums_len]; exact hlt), List.getElem?_map, nums_at 1 n j hlt, ← HU.out]
        rfl
      have hq : ((u : Int) != (u : Int)) = false := by simp
      go_wp2
      go_roundw
      case rel => exact ⟨j + 1, u + 1, by omega, by go_num, by go_num, by show _ = _; rw [HU.out]; omega, HW.out⟩
      case measure => simp [intOf]; omega
    · obtain rfl : n = j := by omega
      go_wp2
      go_ret
      exact ⟨by rw [HU.out]; go_num, HW.out⟩
end Go.Proofs.YtmkcjjgicinggaaGreatDoor.MarkI

/- The law FnExactAddrsOf returns true at every name space and every name, where the library variable internal/bytealg.MaxLen holds an int, and turns nothing that was there: AddrsOf answers as its model. -/
namespace Go.Proofs.YtmkcjjgicinggaaGreatDoor.LawAddrsOf
open Go.RowKit Go.Proofs.YtmkcjjgicinggaaGreatDoor.Mem Go.Proofs.YtmkcjjgicinggaaGreatDoor.MemR Go.Proofs.YtmkcjjgicinggaaGreatDoor.MemZ Go.Proofs.YtmkcjjgicinggaaGreatDoor.MemF Go.Proofs.YtmkcjjgicinggaaGreatDoor.SzZ Go.Proofs.YtmkcjjgicinggaaGreatDoor.SzF Go.Proofs.YtmkcjjgicinggaaGreatDoor.ToF Go.Proofs.YtmkcjjgicinggaaGreatDoor.EqF Go.Proofs.YtmkcjjgicinggaaGreatDoor.MarkF Go.Proofs.YtmkcjjgicinggaaGreatDoor.AdoM Go.Proofs.YtmkcjjgicinggaaGreatDoor.Labels Go.Proofs.YtmkcjjgicinggaaGreatDoor.SetMath Go.Proofs.YtmkcjjgicinggaaGreatDoor.MemI Go.Proofs.YtmkcjjgicinggaaGreatDoor.EqI Go.Proofs.YtmkcjjgicinggaaGreatDoor.MarkI

theorem kept2f {w0 w w' : World} {g k : Nat} {x y x' y' : Value} (m : (Fx w g x y ∧ Fx w k x' y') ∧ Svz w0 w) (hl : Below w.heap.size w w') : (Fx w' g x y ∧ Fx w' k x' y') ∧ Svz w0 w' := ⟨⟨m.1.1.below hl, m.1.2.below hl⟩, m.2.trans (hl.mono m.2.size)⟩
theorem kept2f_draw {w0 w : World} {g k : Nat} {x y x' y' : Value} (m : (Fx w g x y ∧ Fx w k x' y') ∧ Svz w0 w) : (Fx w.drew g x y ∧ Fx w.drew k x' y') ∧ Svz w0 w.drew := kept2f m ((Below.refl _ _).drew)

theorem mws_le : ∀ (zs : List Zn) (gs : List Nat), mws (zs.zip gs) ≤ zs.length + 6 * zws zs
  | [], _ => Nat.zero_le _
  | z :: zs, [] => Nat.zero_le _
  | z :: zs, g :: gs => by
    have h := mws_le zs gs
    have e1 : mws ((z :: zs).zip (g :: gs)) = (1 + 6 * z.l.length) + mws (zs.zip gs) := by unfold mws; rw [List.zip_cons_cons, List.map_cons, List.sum_cons]
    have e2 : zws (z :: zs) = zw z + zws zs := by unfold zws; rw [List.map_cons, List.sum_cons]
    have e3 : z.l.length ≤ zw z := by unfold zw; omega
    rw [e1, e2, List.length_cons]
    omega

/-- A copy of the name space, all of it the call's own. -/
def Of (zs : List Zn) (ps : List Pst) (lo g : Nat) (gs : List Nat) (h : Nat) (W : World) : Prop := Oz W lo g zs gs ∧ Bk W h 103 (fp ps)
theorem Of.below {zs : List Zn} {ps : List Pst} {lo g : Nat} {gs : List Nat} {h : Nat} {W W' : World} (k : Of zs ps lo g gs h W) (hb : Below W.heap.size W W') : Of zs ps lo g gs h W' := ⟨k.1.below hb, k.2.below hb k.2.lt⟩
theorem Of.sf {zs : List Zn} {ps : List Pst} {lo g : Nat} {gs : List Nat} {h n m : Nat} {W : World} (k : Of zs ps lo g gs h W) (hn : zs.length = n) (hm : ps.length = m) : Sf True W (some ⟨g, 0, none⟩) n zs (some ⟨h, 0, none⟩) m ps := ⟨k.1.sz hn, bk_sp0 k.2 hm⟩
theorem Of.lt {zs : List Zn} {ps : List Pst} {lo g : Nat} {gs : List Nat} {h : Nat} {W : World} (k : Of zs ps lo g gs h W) : ∀ j ∈ h :: g :: gs, j < W.heap.size := fun j hj => by
  rcases List.mem_cons.1 hj with rfl | hj
  · exact k.2.lt
  · exact Nat.lt_of_not_le fun hx => oz_high k.1 hx hj

set_option maxHeartbeats 8000000 in
theorem walk (A : Option Addr) (n c : Nat) (zs : List Zn) (P : Option Addr) (m d : Nat) (ps : List Pst) (s : ByteArray) (w : World) (he : Env w) (hs : Sf False w A n zs P m ps) (hn : n ≤ 9223372036854775807) (hm : m ≤ 9223372036854775807) (hz : ∀ z ∈ zs, SmallZ z) (hp : ∀ p ∈ ps, p.apex.size ≤ 9223372036854775807) :
    Calls Tryz.prog 5 #[.agg #[.slice A n c, .slice P m d], .string s] w fun e w' => e = .returned (.bool true) ∧ Below w.heap.size w w' := by
  have HE := Lib.hid he
  have S0 := Lib.hid hs
  have Z0 := Lib.hid hz
  have P0 := Lib.hid hp
  clear he hs hz hp
  have L0 := Lib.hid ((Below.refl w.heap.size w).alloc (Nat.le_refl _) (.cells #[.slice A n c, .slice P m d] 63))
  have J0 := Lib.hid (fx_new w 63 (.slice A n c) (.slice P m d))
  by_cases hbig : 1048576 < s.size
  · have hb' : (1048576 : Int) < (s.size : Int) := by omega
    go_enter Tryz.func5, Tryz.ntmps5
    go_wp2
    go_ret
    exact ⟨rfl, L0.out⟩
  have hb' : ¬ (1048576 : Int) < (s.size : Int) := by omega
  go_enter Tryz.func5, Tryz.ntmps5
  obtain ⟨x0, x1⟩ := J0.out
  go_wp2_with fail
  refine (szForest_any False A n c zs P m d ps 1048576 _ (by omega) (by omega) (S0.out.on L0.out) hn hm Z0.out P0.out).mono ?_
  rintro e w1 ⟨y, rfl, hy0, hy1, hy, hl⟩
  have Y0 := Lib.hid hy
  have L1 := Lib.hid (L0.out.trans (hl.mono L0.out.size))
  have J1 := Lib.hid (J0.out.below hl)
  clear hy hl L0 J0 x0 x1
  by_cases hneg : y < 0
  · go_wp2
    go_ret
    exact ⟨rfl, L1.out⟩
  have Y1 := Lib.hid (Y0.out (by omega))
  clear Y0
  have HN : Hid (zs.length = n) := S0.out.1.1
  have HM : Hid (ps.length = m) := S0.out.2.1
  have bn : n ≤ 1048576 := by have := Y1.out; have := HN.out; omega
  have bm : m ≤ 1048576 := by have := Y1.out; have := HM.out; omega
  have HZ : Hid (∀ z ∈ zs, z.apex.size ≤ 400000000 ∧ z.l.length ≤ 1048576) := fun z hz => by
    have := Y1.out
    have h1 := zws_le zs z hz
    unfold zw at h1
    constructor <;> omega
  have HW : Hid (∀ gs, 1 + mws (zs.zip gs) + 2 * m ≤ 20000000) := fun gs => by
    have h1 := mws_le zs gs
    have := Y1.out
    have := HM.out
    omega
  clear Y1 Z0 P0
  have TR : Hid (∀ W : World, Below w.heap.size w W → Calls Tryz.prog 36 #[.agg #[.slice A n c, .slice P m d]] W fun e w' => ∃ g gs h, e = .returned (.agg #[.slice (some ⟨g, 0, none⟩) n n, .slice (some ⟨h, 0, none⟩) m m]) ∧ Of zs ps W.heap.size g gs h w' ∧ h ∉ g :: gs ∧ (∀ j ∈ h :: g :: gs, W.heap.size ≤ j) ∧ Below W.heap.size W w') :=
    fun W hW => (toForest_any False A n c zs P m d ps W (S0.out.on hW) (by omega) (by omega) (fun z hz => Nat.le_trans (HZ.out z hz).2 (by decide))).mono fun e w' ⟨g, gs, h, h1, h2, h3, h4, h5, h6⟩ => ⟨g, gs, h, by rw [h1, HN.out, HM.out], ⟨h2, h3⟩, h4, fun j hj => by
      rcases List.mem_cons.1 hj with rfl | hj
      · exact h5
      · exact h2.2.2.2.2 j hj, h6⟩
  have SP : Hid (∀ (g h : Nat) (W : World), Sf True W (some ⟨g, 0, none⟩) n zs (some ⟨h, 0, none⟩) m ps → Calls Tryz.prog 30 #[.agg #[.slice (some ⟨g, 0, none⟩) n n, .slice (some ⟨h, 0, none⟩) m m], .string s] W fun e w' => ∃ g u c r, e = .returned (.slice (some ⟨g, 0, none⟩) u c) ∧ (adl zs s).length = u ∧ u ≤ c ∧ W.heap.size ≤ g ∧ Bk w' g 3 ((adl zs s).map iv ++ r) ∧ Below W.heap.size W w') :=
    fun g h W hW => AdoS.spec _ n n zs _ m m s W hW.1 (by omega) (fun z hz => ⟨(HZ.out z hz).1, Nat.le_trans (HZ.out z hz).2 (by decide)⟩) (by omega)
  have IM : Hid (∀ (g h : Nat) (W : World), Env W → Sf True W (some ⟨g, 0, none⟩) n zs (some ⟨h, 0, none⟩) m ps → Calls Tryz.prog 16 #[.agg #[.slice (some ⟨g, 0, none⟩) n n, .slice (some ⟨h, 0, none⟩) m m], .string s] W fun e w' => ∃ g u c r, e = .returned (.slice (some ⟨g, 0, none⟩) u c) ∧ (adl zs s).length = u ∧ u ≤ c ∧ W.heap.size ≤ g ∧ Bk w' g 3 ((adl zs s).map iv ++ r) ∧ Below W.heap.size W w') :=
    fun g h W hE hW => AdoI.impl _ n n zs _ m m s W hE hW.1 (by omega) (fun z hz => ⟨(HZ.out z hz).1, Nat.le_trans (HZ.out z hz).2 (by decide)⟩) (by omega)
  have HLL : Hid ((adl zs s).length ≤ 1048576) := adl_len zs s 1048576 (fun z hz => (HZ.out z hz).2)
  generalize adl zs s = L at *
  have EQ : Hid (∀ (g h u c c' : Nat) (r r' : List Value) (W : World), L.length = u → u ≤ 1048576 → Bk W g 3 (L.map iv ++ r) → Bk W h 3 (L.map iv ++ r') → Calls Tryz.prog 37 #[.slice (some ⟨g, 0, none⟩) u c, .slice (some ⟨h, 0, none⟩) u c'] W fun e w' => e = .returned (.bool true) ∧ Below W.heap.size W w') :=
    fun g h u c c' r r' W hm hmn h1 h2 => eqIntS_same _ _ u c c' L W (bk_si h1 hm) (bk_si h2 hm) (by omega)
  obtain ⟨x0, x1⟩ := J1.out
  go_wp2_with fail
  refine (TR.out _ L1.out).mono ?_
  rintro e w2 ⟨gv, gsv, hv, rfl, hb, -, -, hl⟩
  have V2 := Lib.hid (hb.sf HN.out HM.out)
  have L2 := Lib.hid (L1.out.trans (hl.mono L1.out.size))
  have J2 := Lib.hid (J1.out.below hl)
  clear hl L1 J1 hb x0 x1
  go_wp2_with fail
  refine (SP.out _ _ w2 V2.out).mono ?_
  rintro e w3 ⟨gw, u, cw, rw, rfl, hm', hcw, hg, hb, hl⟩
  have HU := Lib.hid hm'
  have hum : u ≤ 1048576 := by have := HLL.out; omega
  have W3 := Lib.hid hb
  have L3 := Lib.hid (L2.out.trans (hl.mono L2.out.size))
  have J3 := Lib.hid (J2.out.below hl)
  clear hl L2 J2 V2 hm' hcw hg hb
  obtain ⟨x0, x1⟩ := J3.out
  go_wp2_with fail
  refine (TR.out _ L3.out).mono ?_
  rintro e w4 ⟨gx, gs, hx, rfl, hb, hne, hlo, hl⟩
  have X4 := Lib.hid hb
  have NH := Lib.hid hne
  have NW : Hid (¬ gw ∈ hx :: gx :: gs) := fun e => by have h1 := W3.out.lt; have h2 := hlo _ e; omega
  have NJ : Hid (¬ w.heap.size ∈ hx :: gx :: gs) := fun e => by have h1 := J3.out.lt; have h2 := hlo _ e; omega
  have NLo : Hid (∀ j ∈ hx :: gx :: gs, w.heap.size ≤ j) := fun j hj => Nat.le_trans L3.out.size (hlo j hj)
  have NQ : Hid (¬ w4.heap.size ∈ hx :: gx :: gs) := fun e => by have h1 := hb.lt _ e; omega
  have L4 := Lib.hid (L3.out.trans (hl.mono L3.out.size))
  have J4 := Lib.hid (J3.out.below hl)
  have W4 := Lib.hid (W3.out.below hl W3.out.lt)
  clear hl L3 J3 W3 hb x0 x1 hne hlo
  have al : Below w4.heap.size w4 (w4.alloc (.cells #[.slice (some ⟨gx, 0, none⟩) n n, .slice (some ⟨hx, 0, none⟩) m m] 27)) := (Below.refl _ _).alloc (Nat.le_refl _) _
  have NWQ := Lib.hid (show gw < w4.heap.size from W4.out.lt)
  have L5 := Lib.hid (L4.out.trans (al.mono L4.out.size))
  have J5 := Lib.hid (J4.out.below al)
  have W5 := Lib.hid (W4.out.below al W4.out.lt)
  have X5 := Lib.hid (X4.out.below al)
  have Q5 := Lib.hid (fx_new w4 27 (.slice (some ⟨gx, 0, none⟩) n n) (.slice (some ⟨hx, 0, none⟩) m m))
  clear al L4 J4 X4 W4
  go_wp2_with fail
  refine (IM.out _ _ _ (HE.out.below L5.out) (X5.out.sf HN.out HM.out)).mono ?_
  rintro e w6 ⟨gg, u', cg, rg, rfl, hm', hcg, hg, hb, hl⟩
  obtain rfl : u = u' := HU.out.symm.trans hm'
  have G6 := Lib.hid hb
  have NWG := Lib.hid (show gw ≠ gg from fun e => by have := W5.out.lt; omega)
  have NG : Hid (¬ gg ∈ hx :: gx :: gs) := fun e => by have := X5.out.lt _ e; omega
  have GG := Lib.hid (Nat.le_trans L5.out.size hg)
  have NJG := Lib.hid (show w.heap.size ≠ gg from fun e => by have := J5.out.lt; omega)
  have NQG := Lib.hid (show w4.heap.size ≠ gg from fun e => by have := Q5.out.lt; omega)
  have L6 := Lib.hid (L5.out.trans (hl.mono L5.out.size))
  have J6 := Lib.hid (J5.out.below hl)
  have W6 := Lib.hid (W5.out.below hl W5.out.lt)
  have X6 := Lib.hid (X5.out.below hl)
  have Q6 := Lib.hid (Q5.out.below hl)
  clear hl L5 J5 W5 X5 Q5 hm' hcg hg hb
  generalize w4.heap.size = gq at *
  go_wp2_with fail
  refine (EQ.out gg gw u cg cw rg rw w6 HU.out hum G6.out W6.out).mono ?_
  rintro e w7 ⟨rfl, hl⟩
  have L7 := Lib.hid (L6.out.trans (hl.mono L6.out.size))
  have J7 := Lib.hid (J6.out.below hl)
  have W7 := Lib.hid (W6.out.below hl W6.out.lt)
  have X7 := Lib.hid (X6.out.below hl)
  have Q7 := Lib.hid (Q6.out.below hl)
  have G7 := Lib.hid (G6.out.below hl G6.out.lt)
  clear hl L6 J6 W6 X6 Q6 G6
  have TM : Hid (∀ W : World, (((W.cell? ⟨w.heap.size, 0, none⟩ = some (.slice A n c) ∧ W.cell? ⟨w.heap.size, 1, none⟩ = some (.slice P m d)) ∧ (W.cell? ⟨gq, 0, none⟩ = some (.slice (some ⟨gx, 0, none⟩) n n) ∧ W.cell? ⟨gq, 1, none⟩ = some (.slice (some ⟨hx, 0, none⟩) m m))) ∧ Svz w7 W) → Calls Tryz.prog 36 #[.agg #[.slice A n c, .slice P m d]] W fun e w' => ∃ g h, e = .returned (.agg #[.slice (some ⟨g, 0, none⟩) n n, .slice (some ⟨h, 0, none⟩) m m]) ∧ Sf True w' (some ⟨g, 0, none⟩) n zs (some ⟨h, 0, none⟩) m ps ∧ Below W.heap.size W w') := fun W hW => (TR.out W (L7.out.trans ((show Below w7.heap.size w7 W from hW.2).mono L7.out.size))).mono fun e w' ⟨g, gs, h, h1, h2, _, _, h5⟩ => ⟨g, h, h1, h2.sf HN.out HM.out, h5⟩
  have EQZ : Hid (∀ (W : World) (s t : Nat), (((W.cell? ⟨w.heap.size, 0, none⟩ = some (.slice A n c) ∧ W.cell? ⟨w.heap.size, 1, none⟩ = some (.slice P m d)) ∧ (W.cell? ⟨gq, 0, none⟩ = some (.slice (some ⟨gx, 0, none⟩) n n) ∧ W.cell? ⟨gq, 1, none⟩ = some (.slice (some ⟨hx, 0, none⟩) m m))) ∧ Svz w7 W) → Sf True W (some ⟨s, 0, none⟩) n zs (some ⟨t, 0, none⟩) m ps → Calls Tryz.prog 38 #[.agg #[.slice (some ⟨gx, 0, none⟩) n n, .slice (some ⟨hx, 0, none⟩) m m], .agg #[.slice (some ⟨s, 0, none⟩) n n, .slice (some ⟨t, 0, none⟩) m m]] W fun e w' => e = .returned (.bool true) ∧ Below W.heap.size W w') := fun W s t hW ht => eqForest_same True True _ _ _ _ n n n m m m zs ps W ((X7.out.sf HN.out HM.out).on (show Below w7.heap.size w7 W from hW.2)) ht (by omega) (by omega) (fun z hz => Nat.le_trans (HZ.out z hz).2 (by decide))
  have SS0 : ((w7.cell? ⟨w.heap.size, 0, none⟩ = some (.slice A n c) ∧ w7.cell? ⟨w.heap.size, 1, none⟩ = some (.slice P m d)) ∧ (w7.cell? ⟨gq, 0, none⟩ = some (.slice (some ⟨gx, 0, none⟩) n n) ∧ w7.cell? ⟨gq, 1, none⟩ = some (.slice (some ⟨hx, 0, none⟩) m m))) ∧ Svz w7 w7 := ⟨⟨J7.out, Q7.out⟩, Below.refl _ _⟩
  go_wp2
  go_region_held3 (fun w' => ((w'.cell? ⟨w.heap.size, 0, none⟩ = some (.slice A n c) ∧ w'.cell? ⟨w.heap.size, 1, none⟩ = some (.slice P m d)) ∧ (w'.cell? ⟨gq, 0, none⟩ = some (.slice (some ⟨gx, 0, none⟩) n n) ∧ w'.cell? ⟨gq, 1, none⟩ = some (.slice (some ⟨hx, 0, none⟩) m m))) ∧ Svz w7 w')
    (first | with_reducible exact SS0 | with_reducible assumption | exact kept2f (by assumption) hl | exact kept2f_draw (by assumption) | fail)
    (first
      | (go_at_call 36; (with_reducible refine (TM.out _ (by assumption)).mono ?_); rintro e wt6 ⟨t1, t2, rfl, hb1, hl⟩)
      | (go_at_call 38; (with_reducible refine (EQZ.out _ _ _ (by assumption) hb1).mono ?_); rintro e w8 ⟨rfl, hl⟩)
      | fail)
  rename_i hH
  have hz : Below w7.heap.size w7 w8 := hH.2
  clear hH hb1 hl SS0 TM EQZ
  have L8 := Lib.hid (L7.out.trans (hz.mono L7.out.size))
  have J8 := Lib.hid (J7.out.below hz)
  have W8 := Lib.hid (W7.out.below hz W7.out.lt)
  have X8 := Lib.hid (X7.out.below hz)
  have Q8 := Lib.hid (Q7.out.below hz)
  have G8 := Lib.hid (G7.out.below hz G7.out.lt)
  clear hz L7 J7 W7 X7 Q7 G7
  obtain ⟨x0, x1⟩ := Q8.out
  go_wp2_with fail
  refine (markForest_any gx hx n m n m zs ps gs _ w8 X8.out.1 X8.out.2 NH.out HN.out HM.out (HW.out gs)).mono ?_
  rintro e w9 ⟨x, rfl, kp⟩
  have L9 := Lib.hid (below_kp L8.out kp L8.out.size NLo.out)
  have J9 := Lib.hid (fx_kp J8.out kp NJ.out)
  have W9 := Lib.hid (bk_kp W8.out kp NW.out)
  have G9 := Lib.hid (bk_kp G8.out kp NG.out)
  have hk0 : ¬ (x : Int) < 0 := by omega
  clear kp L8 J8 W8 X8 Q8 G8 x0 x1
  go_wp2_with fail
  refine (EQ.out gg gw u cg cw rg rw w9 HU.out hum G9.out W9.out).mono ?_
  rintro e w10 ⟨rfl, hl⟩
  have L10 := Lib.hid (L9.out.trans (hl.mono L9.out.size))
  have J10 := Lib.hid (J9.out.below hl)
  have W10 := Lib.hid (W9.out.below hl W9.out.lt)
  have G10 := Lib.hid (G9.out.below hl G9.out.lt)
  clear hl L9 J9 W9 G9
  go_wp2_with fail
  refine (markIntS_one gg u cg L rg w10 G10.out HU.out (by omega)).mono ?_
  rintro e w11 ⟨rfl, mm, gr⟩
  have M11 := Lib.hid mm
  have L11 := Lib.hid (L10.out.grown gr L10.out.size (fun j hj => by cases hj; exact GG.out))
  have J11 := Lib.hid (J10.out.grown gr (fun e => NJG.out (Option.some.inj e)))
  have W11 := Lib.hid (W10.out.grown gr (fun e => NWG.out (Option.some.inj e)))
  clear gr L10 J10 W10 G10 mm
  have q0 : ¬ (1 : Int) + (u : Int) < 0 := by omega
  have q1 : ((1 : Int) + (u : Int) != 1 + (u : Int)) = false := by simp
  go_wp2_with fail
  refine (heldIntS_one gg u cg rg w11 M11.out (by omega)).mono ?_
  rintro e w12 ⟨rfl, hl⟩
  have L12 := Lib.hid (L11.out.trans (hl.mono L11.out.size))
  have J12 := Lib.hid (J11.out.below hl)
  have W12 := Lib.hid (W11.out.below hl W11.out.lt)
  have M12 := Lib.hid (M11.out.below hl M11.out.lt)
  clear hl L11 J11 W11 M11
  obtain ⟨x0, x1⟩ := J12.out
  go_wp2_with fail
  refine (TR.out _ L12.out).mono ?_
  rintro e w13 ⟨gt, gst, ht, rfl, hb, -, -, hl⟩
  have T13 := Lib.hid (hb.sf HN.out HM.out)
  have L13 := Lib.hid (L12.out.trans (hl.mono L12.out.size))
  have W13 := Lib.hid (W12.out.below hl W12.out.lt)
  have M13 := Lib.hid (M12.out.below hl M12.out.lt)
  clear hl L12 J12 W12 M12 hb x0 x1
  go_wp2_with fail
  refine (IM.out _ _ w13 (HE.out.below L13.out) T13.out).mono ?_
  rintro e w14 ⟨gh, u', ch, rh, rfl, hm', hcg, hg, hb, hl⟩
  obtain rfl : u = u' := HU.out.symm.trans hm'
  have H14 := Lib.hid hb
  have L14 := Lib.hid (L13.out.trans (hl.mono L13.out.size))
  have W14 := Lib.hid (W13.out.below hl W13.out.lt)
  have M14 := Lib.hid (M13.out.below hl M13.out.lt)
  clear hl L13 W13 M13 T13 hm' hcg hg hb
  go_wp2_with fail
  refine (EQ.out gh gw u ch cw rh rw w14 HU.out hum H14.out W14.out).mono ?_
  rintro e w15 ⟨rfl, hl⟩
  have L15 := Lib.hid (L14.out.trans (hl.mono L14.out.size))
  have M15 := Lib.hid (M14.out.below hl M14.out.lt)
  clear hl L14 W14 M14 H14
  go_wp2_with fail
  refine (heldIntS_one gg u cg rg w15 M15.out (by omega)).mono ?_
  rintro e w16 ⟨rfl, hl⟩
  have L16 := Lib.hid (L15.out.trans (hl.mono L15.out.size))
  clear hl L15 M15
  go_wp2
  go_ret
  exact ⟨rfl, L16.out⟩

end Go.Proofs.YtmkcjjgicinggaaGreatDoor.LawAddrsOf

/- What the world's shape gives the walks of this seat, and one world in which the listed tables of unicode/utf8 read as their text lays them. -/
namespace Go.Proofs.YtmkcjjgicinggaaGreatDoor.LaidU
open Go.RowKit Go.Proofs.YtmkcjjgicinggaaGreatDoor.Labels

theorem env {W : World} (h : W.ShapedOpen Tryz.prog) : Env W := Tryz.laysM146.s1_3 W h

def acc : List Int := [128, 191, 160, 191, 128, 159, 144, 191, 128, 143, 0, 0, 0, 0, 0, 0, 0, 0, 0, 0, 0, 0, 0, 0, 0, 0, 0, 0, 0, 0, 0, 0]
theorem gFirst : Tryz.prog.globalNamed "unicode/utf8.first" = some 1 := by kernel_rfl
theorem gAcc : Tryz.prog.globalNamed "unicode/utf8.acceptRanges" = some 2 := by kernel_rfl
/-- A block of cells, with other cells in it. -/
def put (cs : Array Value) : Obj → Obj
  | .cells _ t frozen => .cells cs t frozen
  | o => o
/-- The settled world, the two tables holding what their text lays. -/
noncomputable def laidWorld (os : Os) : World :=
  { World.holding Tryz.prog os ⟨#[], #[], []⟩ with heap := ((World.holding Tryz.prog os ⟨#[], #[], []⟩).heap.modify 1 (put (Go.Pinned.utf8FirstZ.map (fun n : Nat => Value.int .u8 (n : Int))).toArray)).modify 2 (put (acc.map (Value.int .u8)).toArray) }
def two : List (String × DataW Unit) := [("unicode/utf8.acceptRanges", Rows.laid_unicode_utf8_acceptRanges), ("unicode/utf8.first", Rows.laid_unicode_utf8_first)]
theorem laid_met (os : Os) (args : Array Value) : laidMet Tryz.prog two ((laidWorld os).forCall (fun _ _ => 0) ⟨#[], args, []⟩).memory :=
  laidMet_of_run' 8 (by kernel_rfl) (by kernel_rfl)
end Go.Proofs.YtmkcjjgicinggaaGreatDoor.LaidU

/- What a record that comes in, and a slice of records that comes in, read as. -/
namespace Go.Proofs.YtmkcjjgicinggaaGreatDoor.RowR
open Go.Proofs.YtmkcjjgicinggaaGreatDoor.Mem Go.Proofs.YtmkcjjgicinggaaGreatDoor.MemR
open Go.ChangeShapes Go.WideShapes Go.ChangeAt Go.RowKit Go.Deep

/-- The texts of a record are no longer than any text. -/
def Small (r : Rec) : Prop := r.name.size ≤ 9223372036854775807 ∧ r.host.size ≤ 9223372036854775807 ∧ r.text.size ≤ 9223372036854775807
/-- The argument reads as records. -/
def IsRecs (w : World) (a : Option Addr) (len : Nat) (l : List Rec) : Prop :=
  Sr w w.heap.size a len l ∧ len ≤ 9223372036854775807 ∧ ∀ r ∈ l, Small r

section
variable {H : Type} {enc : TypeId × Value → H} {w : World} {base : Nat} {spare : Nat → Bool} {held : Bool}
theorem six_of {cs : List Value} {s0 s4 s5 : ByteArray} {x1 x2 x3 : Int} (h : cs.length = 6) (e0 : (cs.drop 0).take 1 = [.string s0]) (e1 : (cs.drop 1).take 1 = [.int .i64 x1]) (e2 : (cs.drop 2).take 1 = [.int .i64 x2])
    (e3 : (cs.drop 3).take 1 = [.int .i64 x3]) (e4 : (cs.drop 4).take 1 = [.string s4]) (e5 : (cs.drop 5).take 1 = [.string s5]) : cs = rc ⟨s0, x1, x2, x3, s4, s5⟩ := by
  match cs, h with
  | [c0, c1, c2, c3, c4, c5], _ =>
    simp only [List.drop_zero, List.drop_succ_cons, List.take_succ_cons, List.take_zero, List.cons.injEq, and_true] at e0 e1 e2 e3 e4 e5
    subst e0 e1 e2 e3 e4 e5
    rfl
theorem rec_of {fuel : Nat} {cs : List Value} {x : DataW H × List MemPlace} (h : DataW.trod enc Tryz.prog w base spare held fuel 169 cs = some x) : ∃ r : Rec, cs = rc r ∧ Small r := by
  obtain ⟨xs, n, _, _, hc, hl, hg⟩ := DataW.trod_struct Tryz.underlying169 h
  have h6 : cs.length = 6 := hc.trans (by kernel_rfl)
  have hx : xs.length = 6 := hl
  have ks : Tryz.prog.cellsOf 9 = 1 := by kernel_rfl
  have ki : Tryz.prog.cellsOf 3 = 1 := by kernel_rfl
  have g : ∀ i, i < 6 → xs[i]? = some (xs[i]!) := fun i hi => by rw [getElem!_pos xs i (by omega)]; exact List.getElem?_eq_getElem (by omega)
  have f0 := (hg 0 _ rfl).trans (g 0 (by omega))
  have f1 := (hg 1 _ rfl).trans (g 1 (by omega))
  have f2 := (hg 2 _ rfl).trans (g 2 (by omega))
  have f3 := (hg 3 _ rfl).trans (g 3 (by omega))
  have f4 := (hg 4 _ rfl).trans (g 4 (by omega))
  have f5 := (hg 5 _ rfl).trans (g 5 (by omega))
  obtain ⟨s0, e0, _, z0⟩ := DataW.trod_string Tryz.underlying9 f0
  obtain ⟨x1, e1, _⟩ := DataW.trod_int Tryz.underlying3 f1
  obtain ⟨x2, e2, _⟩ := DataW.trod_int Tryz.underlying3 f2
  obtain ⟨x3, e3, _⟩ := DataW.trod_int Tryz.underlying3 f3
  obtain ⟨s4, e4, _, z4⟩ := DataW.trod_string Tryz.underlying9 f4
  obtain ⟨s5, e5, _, z5⟩ := DataW.trod_string Tryz.underlying9 f5
  replace e0 : (cs.drop 0).take (Tryz.prog.cellsOf 9) = [.string s0] := e0
  replace e1 : (cs.drop 1).take (Tryz.prog.cellsOf 3) = [.int .i64 x1] := e1
  replace e2 : (cs.drop 2).take (Tryz.prog.cellsOf 3) = [.int .i64 x2] := e2
  replace e3 : (cs.drop 3).take (Tryz.prog.cellsOf 3) = [.int .i64 x3] := e3
  replace e4 : (cs.drop 4).take (Tryz.prog.cellsOf 9) = [.string s4] := e4
  replace e5 : (cs.drop 5).take (Tryz.prog.cellsOf 9) = [.string s5] := e5
  rw [ks] at e0 e4 e5
  rw [ki] at e1 e2 e3
  unfold maxLen at z0 z4 z5
  exact ⟨⟨s0, x1, x2, x3, s4, s5⟩, six_of h6 e0 e1 e2 e3 e4 e5, z0, z4, z5⟩
set_option maxRecDepth 100000 in
/-- A record that comes in. -/
theorem rec_in {r : Reach} {b0 : Nat} {v : Value} {d : DataW H} {p : List MemPlace} (hv : Value.okWide Tryz.prog w r b0 169 v) (h : DataW.Trod enc Tryz.prog w base spare held 169 v d p) :
    ∃ r : Rec, v = .agg #[.string r.name, .int .i64 r.ty, .int .i64 r.ttl, .int .i64 r.n, .string r.host, .string r.text] ∧ Small r := by
  obtain ⟨cs, rfl, _⟩ := okWide_struct Tryz.underlying169 hv
  obtain ⟨fuel, hf⟩ := h
  obtain ⟨r, hr, hz⟩ := rec_of hf
  refine ⟨r, ?_, hz⟩
  have e : cs.toList = rc r := hr
  rw [show cs = (rc r).toArray from by rw [← e]]
  rfl
end

section
variable {H : Type} {enc : TypeId × Value → H} {w : World}

set_option maxRecDepth 100000 in
/-- A slice of records that comes in. -/
theorem recs_in {a : Option Addr} {len cap : Nat} {d : DataW H} {p : List MemPlace} (h : DataW.Trod enc Tryz.prog w 0 (fun _ => true) true 71 (.slice a len cap) d p) : ∃ l, IsRecs w a len l := by
  obtain ⟨fuel, hf⟩ := h
  rcases open_slice Tryz.underlying71 hf with ⟨hcs, _⟩ | ⟨x, len', cap', m, n, D, Pl, hcs, _, hl, hm, hmm, _, hx⟩
  · simp [Value.cells] at hcs
    obtain ⟨rfl, rfl, rfl⟩ := hcs
    exact ⟨[], Sr.nil, by omega, fun r h => by simp at h⟩
  · simp [Value.cells] at hcs
    obtain ⟨rfl, rfl, rfl⟩ := hcs
    unfold maxLen at hm
    simp only [if_true] at hmm
    subst hmm
    have hC : Tryz.prog.cellsOf 169 = 6 := by kernel_rfl
    rw [hC] at hx
    obtain ⟨b, off, spot⟩ := x
    rcases Nat.eq_zero_or_pos len with h0 | h0
    · subst h0
      exact ⟨[], Sr.nil, by omega, fun r h => by simp at h⟩
    have hs : spot = none := by
      obtain ⟨cs', hc, _⟩ := hx 0 (by omega)
      obtain ⟨_, hl6, hat⟩ := World.cells?_some hc
      have c0 := hat 0 (by omega)
      rw [List.getElem?_eq_getElem (by omega)] at c0
      simpa [Addr.add] using World.cell?_spot c0
    subst hs
    have key : ∀ i : Nat, ∃ r : Rec, i < len → (b < w.heap.size ∧ Ce w b (off + i * 6) r ∧ Small r) := fun i => by
      by_cases hi : i < len
      · obtain ⟨cs', hc, ht⟩ := hx i (by omega)
        obtain ⟨r, rfl, hz⟩ := rec_of ht
        obtain ⟨_, _, hat⟩ := World.cells?_some hc
        refine ⟨r, fun _ => ?_⟩
        have hc : ∀ c, c < 6 → w.cell? ⟨b, off + i * 6 + c, none⟩ = (rc r)[c]? := fun c hc => by
          rw [← hat c hc, Addr.add_lit, Addr.add_lit]
        have c0 : w.cell? ⟨b, off + i * 6 + 0, none⟩ = some (.string r.name) := hc 0 (by omega)
        exact ⟨World.block_lt_of_cell? _ _ c0, ⟨c0, hc 1 (by omega), hc 2 (by omega), hc 3 (by omega), hc 4 (by omega), hc 5 (by omega)⟩, hz⟩
      · exact ⟨zr, fun h => absurd h hi⟩
    obtain ⟨f, hf⟩ := Classical.axiomOfChoice key
    refine ⟨(List.range len).map f, ⟨by simp, fun hn => ?_⟩, by omega, fun r hr => ?_⟩
    · refine ⟨b, off, rfl, (hf 0 hn).1, fun j hj => ?_⟩
      have hj' : j < len := by simpa using hj
      have := (hf j hj').2.1
      simpa using this
    · obtain ⟨i, hi, rfl⟩ := List.mem_map.1 hr
      exact (hf i (List.mem_range.1 hi)).2.2

end
end Go.Proofs.YtmkcjjgicinggaaGreatDoor.RowR

/- What a zone that comes in reads as. -/
namespace Go.Proofs.YtmkcjjgicinggaaGreatDoor.RowZ
open Go.Proofs.YtmkcjjgicinggaaGreatDoor.Mem Go.Proofs.YtmkcjjgicinggaaGreatDoor.MemR Go.Proofs.YtmkcjjgicinggaaGreatDoor.RowR
open Go.ChangeShapes Go.WideShapes Go.ChangeAt Go.RowKit Go.Deep

section
variable {H : Type} {enc : TypeId × Value → H} {w : World} {base : Nat} {spare : Nat → Bool} {held : Bool}
theorem zone_cells {cs : List Value} {s0 : ByteArray} {v1 : Value} (h : cs.length = 2) (e0 : (cs.drop 0).take 1 = [.string s0]) (e1 : (cs.drop 1).take 1 = [v1]) : cs = [.string s0, v1] := by
  match cs, h with
  | [c0, c1], _ =>
    simp only [List.drop_zero, List.drop_succ_cons, List.take_succ_cons, List.take_zero, List.cons.injEq, and_true] at e0 e1
    subst e0 e1
    rfl

theorem slice_cells {fuel : Nat} {cs : List Value} {x : DataW H × List MemPlace} (h : DataW.trod enc Tryz.prog w base spare held fuel 71 cs = some x) : ∃ a len cap, cs = [.slice a len cap] := by
  rcases open_slice Tryz.underlying71 h with ⟨hcs, _⟩ | ⟨x, len', cap', m, n, D, Pl, hcs, _⟩
  · exact ⟨_, _, _, hcs⟩
  · exact ⟨_, _, _, hcs⟩
end

section
variable {H : Type} {enc : TypeId × Value → H} {w : World}

theorem recs_of {fuel : Nat} {cs : List Value} {x : DataW H × List MemPlace} (h : DataW.trod enc Tryz.prog w 0 (fun _ => true) true fuel 71 cs = some x) : ∃ a len cap l, cs = [.slice a len cap] ∧ IsRecs w a len l := by
  obtain ⟨a, len, cap, rfl⟩ := slice_cells h
  obtain ⟨d, p⟩ := x
  obtain ⟨l, hl⟩ := recs_in (a := a) (len := len) (cap := cap) (d := d) (p := p) ⟨fuel, h⟩
  exact ⟨a, len, cap, l, rfl, hl⟩

theorem zone_of {fuel : Nat} {cs : List Value} {x : DataW H × List MemPlace} (h : DataW.trod enc Tryz.prog w 0 (fun _ => true) true fuel 161 cs = some x) :
    ∃ (s : ByteArray) (a : Option Addr) (n c : Nat) (l : List Rec), cs = [.string s, .slice a n c] ∧ s.size ≤ 9223372036854775807 ∧ IsRecs w a n l := by
  obtain ⟨xs, n, _, _, hc, hl, hg⟩ := DataW.trod_struct Tryz.underlying161 h
  have h2 : cs.length = 2 := hc.trans (by kernel_rfl)
  have hx : xs.length = 2 := hl
  have ks : Tryz.prog.cellsOf 9 = 1 := by kernel_rfl
  have kr : Tryz.prog.cellsOf 71 = 1 := by kernel_rfl
  have g : ∀ i, i < 2 → xs[i]? = some (xs[i]!) := fun i hi => by rw [getElem!_pos xs i (by omega)]; exact List.getElem?_eq_getElem (by omega)
  have f0 := (hg 0 _ rfl).trans (g 0 (by omega))
  have f1 := (hg 1 _ rfl).trans (g 1 (by omega))
  obtain ⟨s0, e0, _, z0⟩ := DataW.trod_string Tryz.underlying9 f0
  obtain ⟨a1, n1, c1, l1, e1, z1⟩ := recs_of f1
  replace e0 : (cs.drop 0).take (Tryz.prog.cellsOf 9) = [.string s0] := e0
  replace e1 : (cs.drop 1).take (Tryz.prog.cellsOf 71) = [.slice a1 n1 c1] := e1
  rw [ks] at e0
  rw [kr] at e1
  unfold maxLen at z0
  exact ⟨s0, a1, n1, c1, l1, zone_cells h2 e0 e1, z0, z1⟩

set_option maxRecDepth 100000 in
/-- A zone that comes in. -/
theorem zone_in {r : Reach} {b0 : Nat} {v : Value} {d : DataW H} {p : List MemPlace} (hv : Value.okWide Tryz.prog w r b0 161 v) (h : DataW.Trod enc Tryz.prog w 0 (fun _ => true) true 161 v d p) :
    ∃ (s : ByteArray) (a : Option Addr) (n c : Nat) (l : List Rec), v = .agg #[.string s, .slice a n c] ∧ s.size ≤ 9223372036854775807 ∧ IsRecs w a n l := by
  obtain ⟨cs, rfl, _⟩ := okWide_struct Tryz.underlying161 hv
  obtain ⟨fuel, hf⟩ := h
  obtain ⟨s, a, n, c, l, hr, hz⟩ := zone_of hf
  refine ⟨s, a, n, c, l, ?_, hz⟩
  have e : cs.toList = [.string s, .slice a n c] := hr
  rw [show cs = ([.string s, .slice a n c] : List Value).toArray from by rw [← e]]

end
end Go.Proofs.YtmkcjjgicinggaaGreatDoor.RowZ

/- What a name space that comes in reads as. -/
namespace Go.Proofs.YtmkcjjgicinggaaGreatDoor.RowF
open Go.Proofs.YtmkcjjgicinggaaGreatDoor.Mem Go.Proofs.YtmkcjjgicinggaaGreatDoor.MemR Go.Proofs.YtmkcjjgicinggaaGreatDoor.RowR Go.Proofs.YtmkcjjgicinggaaGreatDoor.RowZ Go.Proofs.YtmkcjjgicinggaaGreatDoor.MemF Go.Proofs.YtmkcjjgicinggaaGreatDoor.SzF
open Go.ChangeShapes Go.WideShapes Go.ChangeAt Go.RowKit Go.Deep

section
variable {H : Type} {enc : TypeId × Value → H} {w : World}

theorem two_cells {cs : List Value} {v0 v1 : Value} (h : cs.length = 2) (e0 : (cs.drop 0).take 1 = [v0]) (e1 : (cs.drop 1).take 1 = [v1]) : cs = [v0, v1] := by
  match cs, h with
  | [c0, c1], _ =>
    simp only [List.drop_zero, List.drop_succ_cons, List.take_succ_cons, List.take_zero, List.cons.injEq, and_true] at e0 e1
    subst e0 e1
    rfl

theorem post_of {fuel : Nat} {cs : List Value} {x : DataW H × List MemPlace} (h : DataW.trod enc Tryz.prog w 0 (fun _ => true) true fuel 163 cs = some x) :
    ∃ p : Pst, cs = [.int .i64 p.addr, .string p.apex] ∧ p.apex.size ≤ 9223372036854775807 := by
  obtain ⟨xs, n, _, _, hc, hl, hg⟩ := DataW.trod_struct Tryz.underlying163 h
  have h2 : cs.length = 2 := hc.trans (by kernel_rfl)
  have hx : xs.length = 2 := hl
  have ks : Tryz.prog.cellsOf 9 = 1 := by kernel_rfl
  have ki : Tryz.prog.cellsOf 3 = 1 := by kernel_rfl
  have g : ∀ i, i < 2 → xs[i]? = some (xs[i]!) := fun i hi => by rw [getElem!_pos xs i (by omega)]; exact List.getElem?_eq_getElem (by omega)
  have f0 := (hg 0 _ rfl).trans (g 0 (by omega))
  have f1 := (hg 1 _ rfl).trans (g 1 (by omega))
  obtain ⟨x0, e0, _⟩ := DataW.trod_int Tryz.underlying3 f0
  obtain ⟨s1, e1, _, z1⟩ := DataW.trod_string Tryz.underlying9 f1
  replace e0 : (cs.drop 0).take (Tryz.prog.cellsOf 3) = [.int .i64 x0] := e0
  replace e1 : (cs.drop 1).take (Tryz.prog.cellsOf 9) = [.string s1] := e1
  rw [ki] at e0
  rw [ks] at e1
  unfold maxLen at z1
  exact ⟨⟨x0, s1⟩, two_cells h2 e0 e1, z1⟩

set_option maxRecDepth 100000 in
theorem posts_of {fuel : Nat} {cs : List Value} {x : DataW H × List MemPlace} (h : DataW.trod enc Tryz.prog w 0 (fun _ => true) true fuel 61 cs = some x) :
    ∃ a len cap ps, cs = [.slice a len cap] ∧ Rp w w.heap.size a len ps ∧ len ≤ 9223372036854775807 ∧ ∀ p ∈ ps, p.apex.size ≤ 9223372036854775807 := by
  rcases open_slice Tryz.underlying61 h with ⟨hcs, _⟩ | ⟨x, len, cap, m, n, D, Pl, hcs, _, hl, hm, hmm, _, hx⟩
  · exact ⟨none, 0, 0, [], hcs, Rp.nil, by omega, fun r h => by simp at h⟩
  · unfold maxLen at hm
    simp only [if_true] at hmm
    subst hmm
    have hC : Tryz.prog.cellsOf 163 = 2 := by kernel_rfl
    rw [hC] at hx
    obtain ⟨b, off, spot⟩ := x
    rcases Nat.eq_zero_or_pos len with h0 | h0
    · subst h0
      exact ⟨_, _, _, [], hcs, Rp.nil, by omega, fun r h => by simp at h⟩
    have hs : spot = none := by
      obtain ⟨cs', hc, _⟩ := hx 0 (by omega)
      obtain ⟨_, hl6, hat⟩ := World.cells?_some hc
      have c0 := hat 0 (by omega)
      rw [List.getElem?_eq_getElem (by omega)] at c0
      simpa [Addr.add] using World.cell?_spot c0
    subst hs
    have key : ∀ i : Nat, ∃ r : Pst, i < len → (b < w.heap.size ∧ Cp w b (off + i * 2) r ∧ r.apex.size ≤ 9223372036854775807) := fun i => by
      by_cases hi : i < len
      · obtain ⟨cs', hc, ht⟩ := hx i (by omega)
        obtain ⟨r, rfl, hz⟩ := post_of ht
        obtain ⟨_, _, hat⟩ := World.cells?_some hc
        refine ⟨r, fun _ => ?_⟩
        have hc : ∀ c, c < 2 → w.cell? ⟨b, off + i * 2 + c, none⟩ = ([.int .i64 r.addr, .string r.apex] : List Value)[c]? := fun c hc => by
          rw [← hat c hc, Addr.add_lit, Addr.add_lit]
        have c0 : w.cell? ⟨b, off + i * 2 + 0, none⟩ = some (.int .i64 r.addr) := hc 0 (by omega)
        exact ⟨World.block_lt_of_cell? _ _ c0, ⟨c0, hc 1 (by omega)⟩, hz⟩
      · exact ⟨⟨0, ⟨#[]⟩⟩, fun h => absurd h hi⟩
    obtain ⟨f, hf⟩ := Classical.axiomOfChoice key
    refine ⟨_, _, _, (List.range len).map f, hcs, ⟨by simp, fun hn => ?_⟩, by omega, fun r hr => ?_⟩
    · refine ⟨b, off, rfl, (hf 0 hn).1, fun j hj => ?_⟩
      have hj' : j < len := by simpa using hj
      have := (hf j hj').2.1
      simpa using this
    · obtain ⟨i, hi, rfl⟩ := List.mem_map.1 hr
      exact (hf i (List.mem_range.1 hi)).2.2

set_option maxRecDepth 100000 in
theorem zones_of {fuel : Nat} {cs : List Value} {x : DataW H × List MemPlace} (h : DataW.trod enc Tryz.prog w 0 (fun _ => true) true fuel 60 cs = some x) :
    ∃ a len cap zs, cs = [.slice a len cap] ∧ Rz False w w.heap.size a len zs ∧ len ≤ 9223372036854775807 ∧ ∀ z ∈ zs, SmallZ z := by
  rcases open_slice Tryz.underlying60 h with ⟨hcs, _⟩ | ⟨x, len, cap, m, n, D, Pl, hcs, _, hl, hm, hmm, _, hx⟩
  · exact ⟨none, 0, 0, [], hcs, Rz.nil, by omega, fun r h => by simp at h⟩
  · unfold maxLen at hm
    simp only [if_true] at hmm
    subst hmm
    have hC : Tryz.prog.cellsOf 161 = 2 := by kernel_rfl
    rw [hC] at hx
    obtain ⟨b, off, spot⟩ := x
    rcases Nat.eq_zero_or_pos len with h0 | h0
    · subst h0
      exact ⟨_, _, _, [], hcs, Rz.nil, by omega, fun r h => by simp at h⟩
    have hs : spot = none := by
      obtain ⟨cs', hc, _⟩ := hx 0 (by omega)
      obtain ⟨_, hl6, hat⟩ := World.cells?_some hc
      have c0 := hat 0 (by omega)
      rw [List.getElem?_eq_getElem (by omega)] at c0
      simpa [Addr.add] using World.cell?_spot c0
    subst hs
    have key : ∀ i : Nat, ∃ r : Zn, i < len → (b < w.heap.size ∧ Cz False w w.heap.size b (off + i * 2) r ∧ SmallZ r) := fun i => by
      by_cases hi : i < len
      · obtain ⟨cs', hc, ht⟩ := hx i (by omega)
        obtain ⟨s, a, n, c, l, rfl, hz, hr⟩ := zone_of ht
        obtain ⟨_, _, hat⟩ := World.cells?_some hc
        refine ⟨⟨s, l⟩, fun _ => ?_⟩
        have hc : ∀ c', c' < 2 → w.cell? ⟨b, off + i * 2 + c', none⟩ = ([.string s, .slice a n c] : List Value)[c']? := fun c' hc => by
          rw [← hat c' hc, Addr.add_lit, Addr.add_lit]
        have c0 : w.cell? ⟨b, off + i * 2 + 0, none⟩ = some (.string s) := hc 0 (by omega)
        exact ⟨World.block_lt_of_cell? _ _ c0, ⟨c0, a, n, c, hc 1 (by omega), hr.1, fun h => h.elim⟩, hz, by have := hr.1.1; have := hr.2.1; show l.length ≤ _; omega, hr.2.2⟩
      · exact ⟨⟨⟨#[]⟩, []⟩, fun h => absurd h hi⟩
    obtain ⟨f, hf⟩ := Classical.axiomOfChoice key
    refine ⟨_, _, _, (List.range len).map f, hcs, ⟨by simp, fun hn => ?_⟩, by omega, fun r hr => ?_⟩
    · refine ⟨b, off, rfl, (hf 0 hn).1, fun j hj => ?_⟩
      have hj' : j < len := by simpa using hj
      have := (hf j hj').2.1
      simpa using this
    · obtain ⟨i, hi, rfl⟩ := List.mem_map.1 hr
      exact (hf i (List.mem_range.1 hi)).2.2

/-- The arguments read as a name space. -/
def IsForest (w : World) (A : Option Addr) (n : Nat) (zs : List Zn) (P : Option Addr) (m : Nat) (ps : List Pst) : Prop :=
  Sf False w A n zs P m ps ∧ n ≤ 9223372036854775807 ∧ m ≤ 9223372036854775807 ∧ (∀ z ∈ zs, SmallZ z) ∧ ∀ p ∈ ps, p.apex.size ≤ 9223372036854775807

theorem forest_of {fuel : Nat} {cs : List Value} {x : DataW H × List MemPlace} (h : DataW.trod enc Tryz.prog w 0 (fun _ => true) true fuel 63 cs = some x) :
    ∃ (A : Option Addr) (n c : Nat) (zs : List Zn) (P : Option Addr) (m d : Nat) (ps : List Pst), cs = [.slice A n c, .slice P m d] ∧ IsForest w A n zs P m ps := by
  obtain ⟨xs, n, _, _, hc, hl, hg⟩ := DataW.trod_struct Tryz.underlying63 h
  have h2 : cs.length = 2 := hc.trans (by kernel_rfl)
  have hx : xs.length = 2 := hl
  have kz : Tryz.prog.cellsOf 60 = 1 := by kernel_rfl
  have kp : Tryz.prog.cellsOf 61 = 1 := by kernel_rfl
  have g : ∀ i, i < 2 → xs[i]? = some (xs[i]!) := fun i hi => by rw [getElem!_pos xs i (by omega)]; exact List.getElem?_eq_getElem (by omega)
  have f0 := (hg 0 _ rfl).trans (g 0 (by omega))
  have f1 := (hg 1 _ rfl).trans (g 1 (by omega))
  obtain ⟨a0, n0, c0, zs, e0, r0, b0, z0⟩ := zones_of f0
  obtain ⟨a1, n1, c1, ps, e1, r1, b1, z1⟩ := posts_of f1
  replace e0 : (cs.drop 0).take (Tryz.prog.cellsOf 60) = [.slice a0 n0 c0] := e0
  replace e1 : (cs.drop 1).take (Tryz.prog.cellsOf 61) = [.slice a1 n1 c1] := e1
  rw [kz] at e0
  rw [kp] at e1
  exact ⟨a0, n0, c0, zs, a1, n1, c1, ps, two_cells h2 e0 e1, ⟨r0, r1⟩, b0, b1, z0, z1⟩

set_option maxRecDepth 100000 in
/-- A name space that comes in. -/
theorem forest_in {r : Reach} {b0 : Nat} {v : Value} {d : DataW H} {p : List MemPlace} (hv : Value.okWide Tryz.prog w r b0 63 v) (h : DataW.Trod enc Tryz.prog w 0 (fun _ => true) true 63 v d p) :
    ∃ (A : Option Addr) (n c : Nat) (zs : List Zn) (P : Option Addr) (m d : Nat) (ps : List Pst), v = .agg #[.slice A n c, .slice P m d] ∧ IsForest w A n zs P m ps := by
  obtain ⟨cs, rfl, _⟩ := okWide_struct Tryz.underlying63 hv
  obtain ⟨fuel, hf⟩ := h
  obtain ⟨A, n, c, zs, P, m, d, ps, hr, hz⟩ := forest_of hf
  refine ⟨A, n, c, zs, P, m, d, ps, ?_, hz⟩
  have e : cs.toList = [.slice A n c, .slice P m d] := hr
  rw [show cs = ([.slice A n c, .slice P m d] : List Value).toArray from by rw [← e]]
end
end Go.Proofs.YtmkcjjgicinggaaGreatDoor.RowF

/- The law FnExactAddrsOf returns true at every name space and every name, where the library variable internal/bytealg.MaxLen holds an int: AddrsOf answers as its model. -/
namespace Go.Proofs.YtmkcjjgicinggaaGreatDoor.exactAddrsOfCard
open Go.ChangeShapes Go.WideShapes Go.ChangeAt Go.RowKit Go.Proofs.YtmkcjjgicinggaaGreatDoor.LaidU Go.Proofs.YtmkcjjgicinggaaGreatDoor.Mem Go.Proofs.YtmkcjjgicinggaaGreatDoor.RowF
open Go.ChangeMaps (open_string shut_string)

theorem own : ownKnob Tryz.prog.godebug = none := by kernel_rfl
theorem laidOut : laidOutB Tryz.prog = true := by kernel_rfl

set_option maxRecDepth 100000 in
theorem contract (H : Type) (enc : TypeId × Value → H) (W : World) (base : Nat) (args : Array Value) (ds gs : List (DataW H)) (before : List MemPlace)
    (hval0 : ∀ (j : Nat) t v, Tryz.f5.params[j]? = some t → args[j]? = some v → Value.okWide Tryz.prog W .any base t v)
    (hW : DataW.Whole enc Tryz.prog Tryz.f5.params.toList Rows.fnExactAddrsOfSpec.vars false W args.toList ds gs before) (hsh : W.ShapedOpen Tryz.prog) :
    Calls Tryz.prog 5 args W fun e W' => ∃ v, e = .returned v ∧ Rows.fnExactAddrsOfSpec.post enc Tryz.prog Tryz.f5 false true false false W args v W' := by
  have hval : ∀ (j : Nat) t v, Tryz.f5.params[j]? = some t → args[j]? = some v → Value.okWide Tryz.prog W .any base t v := hval0
  have hW' := hW
  obtain ⟨p, q, hA0, hV, rfl, _, _⟩ := hW
  have hA : DataW.TrodAll enc Tryz.prog W 0 (fun _ => true) true Tryz.f5.params.toList args.toList ds p := hA0
  rw [Tryz.params5] at hA hval
  obtain ⟨v0, vs0, d0, ds0, p0, q0, _, rfl, rfl, h0, r0⟩ := trodAll_cons hA
  obtain ⟨v1, vs1, d1, ds1, p1, q1, _, rfl, rfl, h1, r1⟩ := trodAll_cons r0
  obtain ⟨rfl, rfl, rfl⟩ := trodAll_nil r1
  obtain rfl : args = #[v0, v1] := by cases args; simp_all
  obtain ⟨rfl, rfl⟩ := trodVars_none hV
  have k0 := h0
  have lt0 : ∀ x ∈ p0, x.block < W.heap.size := by obtain ⟨m, hm⟩ := k0; exact DataW.trod_lt m _ _ _ hm
  obtain ⟨a0, len0, cap0, zs0, P0, m0, d0, ps0, rfl, f0⟩ := forest_in (hval 0 63 v0 rfl rfl) h0
  obtain ⟨x1, rfl, rfl, rfl, hx1⟩ := open_string Tryz.underlying9 (hval 1 9 v1 rfl rfl) h1
  clear hA0 hval0
  refine (LawAddrsOf.walk a0 len0 cap0 zs0 P0 m0 d0 ps0 x1 W (env hsh) f0.1 f0.2.1 f0.2.2.1 f0.2.2.2.1 f0.2.2.2.2).mono fun e W' ⟨he, bel⟩ => ?_
  subst he
  exact ⟨_, rfl, _, _, _, [], _, [], hW', trodAll_mk1 (shut_bool Tryz.underlying4 _), (trodAll_cons_mk (Below.trod laidOut (by kernel_rfl) (of_decide_eq_true (by kernel_rfl)) k0 bel lt0) (trodAll_cons_mk (shut_string Tryz.underlying9 hx1) trodAll_mk0)), rfl, bel.frame _, fun h => by cases h⟩

theorem reads (os : Os) {H : Type} (enc : TypeId × Value → H) : ∃ places, DataW.whole enc Tryz.prog ((laidWorld os).forCall (fun _ _ => 0) ⟨#[], #[.agg #[.slice none 0 0, .slice none 0 0], .string ⟨#[]⟩], []⟩).memory Tryz.f5.params.toList Rows.fnExactAddrsOfSpec.vars false #[Value.agg #[.slice none 0 0, .slice none 0 0], Value.string ⟨#[]⟩].toList 8 = some ([.agg [.nil, .nil], .lit (.string [])], [], places) :=
  ⟨[], by kernel_rfl⟩

set_option maxRecDepth 100000 in
theorem lifted (os : Os) (started : os.Started) (H : Type) (enc : TypeId × Value → H) (F : Stop.Interp) :
    ReturnsInHanded {} Tryz.checked os 5 .any ((OpenSpec.ofChange Rows.fnExactAddrsOfSpec).preRow enc Tryz.prog Tryz.f5 Rows.fnExactAddrsOfRow.domain false Rows.fnExactAddrsOfRow.laid) (((OpenSpec.ofChange Rows.fnExactAddrsOfSpec).at F).post enc Tryz.prog Tryz.f5 false true false false) := by
  obtain ⟨places, hx⟩ := reads os enc
  refine returnsInHanded_of_row (C := Tryz.checked) (s := OpenSpec.ofChange Rows.fnExactAddrsOfSpec) own started (by kernel_rfl) Tryz.func5
    (witness_row_at (enc := enc) (C := Tryz.checked) false (laidWorld os) #[.agg #[.slice none 0 0, .slice none 0 0], .string ⟨#[]⟩] rfl (by kernel_rfl) (by kernel_rfl) (by kernel_rfl)
      (OpenSpec.preRow_of_cond 8 hx (by kernel_rfl) (fun k hk => by cases hk) (by kernel_rfl) (laid_met os _))) ?_
  intro W base args ds gs before hval hW _ _ _ _ hsh _
  exact contract H enc W base args ds gs before hval hW hsh

theorem said : Rows.FnExactAddrsOfSaid :=
  OpenClaim.holds_of_cond 5 Tryz.f5 rfl rfl rfl rfl rfl rfl rfl ⟨rfl, rfl, rfl, rfl, rfl⟩ rfl rfl rfl rfl rfl (by kernel_rfl) Tryz.func5 (by kernel_rfl)
    (of_decide_eq_true (by kernel_rfl)) (by unfold Func.isWrapper; first | (rw [if_pos (by decide +kernel)]; kernel_rfl) | (rw [if_neg (by decide +kernel)]; exact ⟨rfl, rfl⟩))
    (fun os started H enc _ F => by rw [OpenClaim.pre_eq_preRow]; exact lifted os started H enc F)

theorem plain (f : FuncId) (fn : Func) (hf : Tryz.pinned.checked.prog.funcNamed "loop.example/g00497/laws.FnExactAddrsOf" = some f) (hfn : Tryz.pinned.checked.prog.funcs[f]? = some fn) :
    false = Tryz.pinned.checked.prog.looks [] ∧ ∀ (j : Nat) t, fn.params[j]? = some t → Tryz.pinned.checked.prog.wantsStandIn t = false := by
  obtain rfl : f = 5 := Option.some.inj ((show Tryz.prog.funcNamed "loop.example/g00497/laws.FnExactAddrsOf" = some 5 by kernel_rfl).symm.trans hf) |>.symm
  obtain rfl : fn = Tryz.f5 := (Option.some.inj (Tryz.func5.symm.trans hfn)).symm
  refine ⟨by kernel_rfl, fun j t ht => ?_⟩
  rw [Tryz.params5] at ht
  have hm : t = 63 ∨ t = 9 := by simpa using Array.mem_of_getElem? ht
  rcases hm with rfl | rfl
  · exact (show Tryz.prog.wantsStandIn 63 = false by kernel_rfl)
  · exact (show Tryz.prog.wantsStandIn 9 = false by kernel_rfl)

theorem card : Rows.FnExactAddrsOfCardSaid :=
  Claim7.holds_tied_plain_at .later [] _ _ _ _ said (fun _ h => by cases h) (by kernel_rfl) (fun _ h => by cases h) fnExactAddrsOf_row_tie rfl ⟨rfl, rfl⟩ (by kernel_rfl) rfl plain (by kernel_rfl)
end Go.Proofs.YtmkcjjgicinggaaGreatDoor.exactAddrsOfCard
namespace Go.Proofs.YtmkcjjgicinggaaGreatDoor
theorem fnExactAddrsOf_holds : Rows.FnExactAddrsOfCardSaid := exactAddrsOfCard.card
end Go.Proofs.YtmkcjjgicinggaaGreatDoor
