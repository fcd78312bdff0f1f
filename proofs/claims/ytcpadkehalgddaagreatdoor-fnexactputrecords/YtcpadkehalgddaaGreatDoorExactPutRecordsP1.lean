/- What the world's shape gives the walks of this seat, and one world in which the listed tables of unicode/utf8 read as their text lays them. -/
import Derived.Test.YtcpadkehalgddaaGreatDoorMemR
import Derived.Test.YtcpadkehalgddaaGreatDoorMem
import Derived.Deep.QuietTactic
import Derived.BigQuiet
import Derived.Lib.QuietBelow
import Derived.Test.YtcpadkehalgddaaGreatDoorMemS
import Derived.Laws.IdiomStrings
import Derived.Deep.RegionLaw
import Derived.Test.YtcpadkehalgddaaGreatDoorBoxR
import Derived.Test.YtcpadkehalgddaaGreatDoorPutsP
import Derived.Test.YtcpadkehalgddaaGreatDoorLabels
import Derived.LaidLaws
/- What the law's own helpers szRecord and szRecordS do: they return a number that is not negative only where the records and the bytes of their texts are at most the given number together. -/
namespace Go.Proofs.YtcpadkehalgddaaGreatDoor.SzR
open Go.RowKit Go.Proofs.YtcpadkehalgddaaGreatDoor.Mem Go.Proofs.YtcpadkehalgddaaGreatDoor.MemR

/-- A number is returned that is not above x; where it is not negative it is x less z. Nothing that was there is turned. -/
def Sz (x : Int) (z : Nat) (w : World) (e : Ending) (w' : World) : Prop := ∃ y : Int, e = .returned (.int .i64 y) ∧ -1 ≤ y ∧ y ≤ x ∧ (0 ≤ y → y = x - (z : Int)) ∧ Below w.heap.size w w'

set_option maxHeartbeats 1000000 in
theorem szRecord_any (r : Rec) (x : Int) (w : World) (h0 : 0 ≤ x) (h1 : x ≤ 1048576) (hz : r.name.size ≤ 9223372036854775807 ∧ r.host.size ≤ 9223372036854775807 ∧ r.text.size ≤ 9223372036854775807) :
    Calls Tryz.prog 54 #[.agg #[.string r.name, .int .i64 r.ty, .int .i64 r.ttl, .int .i64 r.n, .string r.host, .string r.text], .int .i64 x] w (Sz x (rz r) w) := by
  obtain ⟨hz1, hz2, hz3⟩ := hz
  have HR : Hid (rz r = r.name.size + r.host.size + r.text.size) := rfl
  obtain ⟨name, ty, ttl, n, host, text⟩ := r
  simp only at hz1 hz2 hz3 HR ⊢
  by_cases c1 : x - (name.size : Int) < 0
  · go_enter Tryz.func54, Tryz.ntmps54
    go_wp2
    go_ret
    exact ⟨-1, rfl, by omega, by omega, fun h => by omega, (Below.refl _ _).alloc (Nat.le_refl _) _⟩
  · by_cases c2 : x - (name.size : Int) - (host.size : Int) < 0
    · go_enter Tryz.func54, Tryz.ntmps54
      go_wp2
      go_ret
      exact ⟨-1, rfl, by omega, by omega, fun h => by omega, (Below.refl _ _).alloc (Nat.le_refl _) _⟩
    · by_cases c3 : x - (name.size : Int) - (host.size : Int) - (text.size : Int) < 0
      · go_enter Tryz.func54, Tryz.ntmps54
        go_wp2
        go_ret
        exact ⟨-1, rfl, by omega, by omega, fun h => by omega, (Below.refl _ _).alloc (Nat.le_refl _) _⟩
      · go_enter Tryz.func54, Tryz.ntmps54
        go_wp2
        go_ret
        exact ⟨_, rfl, by omega, by omega, fun h => by rw [HR.out]; omega, (Below.refl _ _).alloc (Nat.le_refl _) _⟩

set_option maxHeartbeats 1000000 in
theorem szRecordS_any (A : Option Addr) (n c : Nat) (l : List Rec) (x : Int) (w : World) (hs : Sr w w.heap.size A n l) (h0 : 0 ≤ x) (h1 : x ≤ 1048576) (hn : n ≤ 9223372036854775807) (hz : ∀ r ∈ l, r.name.size ≤ 9223372036854775807 ∧ r.host.size ≤ 9223372036854775807 ∧ r.text.size ≤ 9223372036854775807) :
    Calls Tryz.prog 21 #[.slice A n c, .int .i64 x] w (Sz x (l.length + tot l) w) := by
  have HS := Lib.hid hs
  have HZ := Lib.hid hz
  clear hz hs
  by_cases hbig : (n : Int) ≤ x
  · go_enter Tryz.func21, Tryz.ntmps21
    go_wp2
    go_loopw [1, 5] (fun r i wr => ∃ (k : Nat) (y : Int), k ≤ n ∧ i = .int .i64 k ∧ r = .int .i64 y ∧ 0 ≤ y ∧ y ≤ x ∧ Hid (y = x - (n : Int) - (tot (l.take k) : Int)) ∧ Hid (Below w.heap.size w wr)) (fun _ i _ => n - (intOf i).toNat)
    case atStart => exact ⟨0, x - (n : Int), Nat.zero_le _, rfl, rfl, by omega, by omega, by show _ = _; simp [tot], Below.refl _ _⟩
    case round =>
      obtain ⟨k, y, hk, rfl, rfl, hy0, hy1, HX, HB⟩ := hrel
      by_cases hlt : k < n
      · obtain ⟨b, off, rfl, hbB, hcs⟩ := HS.out.2 (by omega)
        have hkl : k < l.length := by rw [HS.out.1]; exact hlt
        have HR := Lib.hid (HZ.out l[k] (List.getElem_mem hkl))
        have HT := Lib.hid (tot_step l k hkl)
        obtain ⟨e0, e1, e2, e3, e4, e5⟩ := (hcs k hkl).below HB.out hbB
        clear hcs
        generalize l[k] = r at *
        go_wp2_with fail
        refine (szRecord_any r y wr hy0 (by omega) HR.out).mono ?_
        rintro e w1 ⟨z, rfl, hz0, hz1, hz, hl⟩
        have HY := Lib.hid hz
        have HL := Lib.hid (HB.out.trans (hl.mono HB.out.size))
        clear hz hl e0 e1 e2 e3 e4 e5
        by_cases hneg : z < 0
        · go_wp2
          go_ret
          exact ⟨-1, rfl, by omega, by omega, fun h => by omega, HL.out⟩
        · go_wp2
          go_roundw
          case rel => exact ⟨k + 1, z, by omega, by go_num, rfl, by omega, by omega, by show _ = _; rw [HT.out, HY.out (by omega), HX.out]; omega, HL.out⟩
          case measure => simp [intOf]; omega
      · go_wp2
        go_ret
        refine ⟨y, rfl, by omega, by omega, fun _ => ?_, HB.out⟩
        have h1 := HX.out
        rw [List.take_of_length_le (by rw [HS.out.1]; omega)] at h1
        rw [HS.out.1]
        omega
  · go_enter Tryz.func21, Tryz.ntmps21
    go_wp2
    go_ret
    exact ⟨-1, rfl, by omega, by omega, fun h => by omega, Below.refl _ _⟩

end Go.Proofs.YtcpadkehalgddaaGreatDoor.SzR

/- What the law's own helpers toRecord and toRecordS do: the same record; a new slice with the same records. Condition: fewer than 400000001 records. -/
namespace Go.Proofs.YtcpadkehalgddaaGreatDoor.CopyR
open Go.RowKit Go.Proofs.YtcpadkehalgddaaGreatDoor.Mem Go.Proofs.YtcpadkehalgddaaGreatDoor.MemR

theorem info : (Tryz.prog.info? 25).map (fun i => (i.zero, i.size, i.bytes)) = some (some (.agg #[.string ⟨#[]⟩, .int .i64 0, .int .i64 0, .int .i64 0, .string ⟨#[]⟩, .string ⟨#[]⟩]), 6, 72) := by kernel_rfl

set_option maxHeartbeats 1000000 in
theorem toRecord_any (r : Rec) (w : World) : Calls Tryz.prog 55 #[.agg #[.string r.name, .int .i64 r.ty, .int .i64 r.ttl, .int .i64 r.n, .string r.host, .string r.text]] w fun e w' => e = .returned (.agg #[.string r.name, .int .i64 r.ty, .int .i64 r.ttl, .int .i64 r.n, .string r.host, .string r.text]) ∧ Below w.heap.size w w' := by
  go_enter Tryz.func55, Tryz.ntmps55
  go_wp2
  refine bodyPost_ret (v := .agg #[.string r.name, .int .i64 r.ty, .int .i64 r.ttl, .int .i64 r.n, .string r.host, .string r.text]) (by simp [results, Tryz.results55, go_sem]) rfl ⟨rfl, ?_⟩
  repeat (first | exact Below.refl _ _ | refine Below.setCell ?_ (by simp; try omega) _ | refine Below.alloc ?_ (by simp; try omega) _)

theorem step_list (l : List Rec) (k n : Nat) (hn : l.length = n) (hk : k < n) (h : k < l.length) : (l.take k ++ List.replicate (n - k) zr).set k l[k] = l.take (k + 1) ++ List.replicate (n - (k + 1)) zr := by
  rw [List.set_append_right _ _ (by simp; omega)]
  have h1 : k - (l.take k).length = 0 := by simp; omega
  rw [h1, show n - k = (n - (k + 1)) + 1 by omega, List.replicate_succ, List.set_cons_zero, List.take_succ_eq_append_getElem h, List.append_assoc]
  rfl

set_option maxHeartbeats 1000000 in
theorem toRecordS_any (A : Option Addr) (n c : Nat) (l : List Rec) (w : World) (hs : Sr w w.heap.size A n l) (hn : n ≤ 400000000) :
    Calls Tryz.prog 23 #[.slice A n c] w fun e w' => e = .returned (.slice (some ⟨w.heap.size, 0, none⟩) n n) ∧ Bk w' w.heap.size 25 (fl l) ∧ Below w.heap.size w w' := by
  obtain ⟨i0, hi, hz0, hz1, hz2⟩ := info_parts info
  have HS := Lib.hid hs
  clear hs
  go_enter Tryz.func23, Tryz.ntmps23
  go_wp2_with (at_make; refine wpList_make_full _ rfl _ _ 36 rfl w.heap.size 25 i0 _ 6 Tryz.underlying36 hi hz0 hz1 .i64 .i64 _ _ n rfl rfl ?c0 ?c1 ?c2 ?c3 ?c4 ?_)
  case c0 => rfl
  case c1 => rfl
  case c2 => rw [hz2]; omega
  case c3 => unfold maxLen; omega
  case c4 => exact Nat.le_refl _
  intro w1 hown hgrow
  obtain ⟨r, hb0, hlen0, _, _⟩ := bk_of_owns6 hown
  rw [made_fl] at hb0 hlen0
  have hr : r = [] := by
    have : (fl (List.replicate n zr)).length + r.length = n * 6 := by rw [← List.length_append]; exact hlen0
    rw [fl_len] at this
    simp at this; exact this
  subst hr
  rw [List.append_nil] at hb0
  have HL0 := Lib.hid ((Below.refl w.heap.size w).grown hgrow (Nat.le_refl _) (fun k hk => by cases hk))
  have HB0 := Lib.hid hb0
  clear hb0 hown hgrow hlen0
  go_wp2
  go_loopw [4] (fun i wr => ∃ k : Nat, k ≤ n ∧ i = .int .i64 k ∧ Hid (Bk wr w.heap.size 25 (fl (l.take k ++ List.replicate (n - k) zr))) ∧ Hid (Below w.heap.size w wr)) (fun i _ => n - (intOf i).toNat)
  case atStart => exact ⟨0, Nat.zero_le _, rfl, by simpa [Hid] using HB0.out, HL0.out⟩
  case round =>
    clear HB0 HL0
    obtain ⟨k, hk, rfl, HB, HL⟩ := hrel
    by_cases hlt : k < n
    · obtain ⟨b, off, rfl, hbB, hcs⟩ := HS.out.2 (by omega)
      have hkl : k < l.length := by rw [HS.out.1]; exact hlt
      obtain ⟨e0, e1, e2, e3, e4, e5⟩ := (hcs k hkl).below HL.out hbB
      have HK := Lib.hid (step_list l k n HS.out.1 hlt hkl)
      clear hcs
      generalize l[k] = r at *
      go_wp2_with fail
      refine (toRecord_any r wr).mono ?_
      rintro e w2 ⟨rfl, hl⟩
      have hkk : k < (l.take k ++ List.replicate (n - k) zr).length := by simp; omega
      have B2 := Lib.hid (HB.out.below hl HB.out.lt)
      have L2 := Lib.hid (HL.out.trans (hl.mono HL.out.size))
      clear hl e0 e1 e2 e3 e4 e5 HB HL
      have z : ∀ j, j < n * 6 → (w2.cell? ⟨w.heap.size, j, none⟩).isSome = true := fun j hj => by
        rw [B2.out.cell, List.getElem?_eq_getElem (by rw [fl_len]; simp; have := HS.out.1; omega)]; rfl
      obtain ⟨u0, z0⟩ := Option.isSome_iff_exists.1 (z (k * 6) (by omega))
      obtain ⟨u1, z1⟩ := Option.isSome_iff_exists.1 (z (k * 6 + 1) (by omega))
      obtain ⟨u2, z2⟩ := Option.isSome_iff_exists.1 (z (k * 6 + 2) (by omega))
      obtain ⟨u3, z3⟩ := Option.isSome_iff_exists.1 (z (k * 6 + 3) (by omega))
      obtain ⟨u4, z4⟩ := Option.isSome_iff_exists.1 (z (k * 6 + 4) (by omega))
      obtain ⟨u5, z5⟩ := Option.isSome_iff_exists.1 (z (k * 6 + 5) (by omega))
      have f0 := B2.out.free (k * 6)
      have f1 := B2.out.free (k * 6 + 1)
      have f2 := B2.out.free (k * 6 + 2)
      have f3 := B2.out.free (k * 6 + 3)
      have f4 := B2.out.free (k * 6 + 4)
      have f5 := B2.out.free (k * 6 + 5)
      clear z
      go_wp2
      go_roundw
      case rel =>
        refine ⟨k + 1, by omega, by go_num, ?_, ?_⟩
        · show Bk _ _ _ _
          have h6 := (((((B2.out.set (k * 6) (.string r.name)).set (k * 6 + 1) (.int .i64 r.ty)).set (k * 6 + 2) (.int .i64 r.ttl)).set (k * 6 + 3) (.int .i64 r.n)).set (k * 6 + 4) (.string r.host)).set (k * 6 + 5) (.string r.text)
          rw [fl_put _ k r hkk, HK.out] at h6
          exact h6
        · show Below _ _ _
          exact (((((L2.out.setCell (Nat.le_refl _) _).setCell (Nat.le_refl _) _).setCell (Nat.le_refl _) _).setCell (Nat.le_refl _) _).setCell (Nat.le_refl _) _).setCell (Nat.le_refl _) _
      case measure => simp [intOf]; omega
    · have hkn : k = n := by omega
      subst hkn
      go_wp2
      go_ret
      refine ⟨rfl, ?_, HL.out⟩
      have := HB.out
      rw [List.take_of_length_le (by rw [HS.out.1]; omega)] at this
      simpa using this

end Go.Proofs.YtcpadkehalgddaaGreatDoor.CopyR

/- What the law's own helpers eqByteS, markByteS and heldByteS do on slices of bytes. Condition: fewer than 400000001 bytes. -/
namespace Go.Proofs.YtcpadkehalgddaaGreatDoor.Eq
open Go.RowKit Go.Proofs.YtcpadkehalgddaaGreatDoor.Mem

theorem cast_ne {a b : UInt8} (h : a ≠ b) : ((a.toNat : Int) != (b.toNat : Int)) = true := by
  rw [bne_iff_ne]; intro e; exact h (UInt8.toNat_inj.1 (by omega))
theorem cast_eq {a b : UInt8} (h : a = b) : ((a.toNat : Int) != (b.toNat : Int)) = false := by subst h; simp

/-- Two lists that agree as far as k, and part at k. -/
theorem ne_at {l m : List UInt8} {k : Nat} (h : k < l.length) (h' : k < m.length) (hne : l[k] ≠ m[k]) : (l == m) = false := by
  rw [beq_eq_false_iff_ne]; rintro rfl; exact hne rfl
theorem eq_all {l m : List UInt8} (hl : l.length = m.length) (h : l.take l.length = m.take l.length) : (l == m) = true := by
  rw [List.take_length, hl, List.take_length] at h; simp [h]
theorem take_step {l m : List UInt8} {k : Nat} (hk : k < l.length) (hk' : k < m.length) (h : l.take k = m.take k) (he : l[k] = m[k]) : l.take (k + 1) = m.take (k + 1) := by
  rw [List.take_succ_eq_append_getElem hk, List.take_succ_eq_append_getElem hk', h, he]

set_option maxHeartbeats 1000000 in
theorem eqByteS_any (A A' : Option Addr) (n c n' c' : Nat) (l m : List UInt8) (w : World) (B : Nat) (hs : Sl w B A n l) (hs' : Sl w B A' n' m) (hn : n ≤ 400000000) (hn' : n' ≤ 400000000) :
    Calls Tryz.prog 24 #[.slice A n c, .slice A' n' c'] w fun e w' => e = .returned (.bool (l == m)) ∧ ∃ k, w' = w.drewN k := by
  have HL := Lib.hid hs.1
  have HM := Lib.hid hs'.1
  by_cases hnn : n = n'
  · subst hnn
    have hd : ((n : Int) != (n : Int)) = false := by simp
    go_enter Tryz.func24, Tryz.ntmps24
    go_wp2
    go_loopw [5] (fun i wr => ∃ k : Nat, k ≤ n ∧ i = .int .i64 k ∧ Hid (l.take k = m.take k) ∧ Hid (∃ q, wr = w.drewN q)) (fun i _ => n - (intOf i).toNat)
    case atStart => exact ⟨0, Nat.zero_le _, rfl, rfl, ⟨0, rfl⟩⟩
    case round =>
      obtain ⟨k, hk, rfl, HT, HW⟩ := hrel
      obtain ⟨q, rfl⟩ := HW.out
      clear HW
      by_cases hlt : k < n
      · obtain ⟨b, off, rfl, hbB, hcs⟩ := hs.2 (by omega)
        obtain ⟨b', off', rfl, hbB', hcs'⟩ := hs'.2 (by omega)
        have hkl : k < l.length := by rw [HL.out]; exact hlt
        have hkm : k < m.length := by rw [HM.out]; exact hlt
        have hx : w.cell? ⟨b, off + k, none⟩ = some (.int .u8 (l[k].toNat : Int)) := hcs k hkl
        have hy : w.cell? ⟨b', off' + k, none⟩ = some (.int .u8 (m[k].toNat : Int)) := hcs' k hkm
        clear hcs hcs' hs hs'
        by_cases he : l[k] = m[k]
        · have hbb := cast_eq he
          have HE := Lib.hid he
          clear he
          go_wp2
          go_quiet (fail)
          go_wp2
          go_roundw
          case rel => exact ⟨k + 1, by omega, by go_num, take_step hkl hkm HT.out HE.out, ⟨_, rfl⟩⟩
          case measure => simp [intOf]; omega
        · have hbb := cast_ne he
          have HE := Lib.hid he
          clear he
          go_wp2
          go_quiet (fail)
          go_wp2
          go_ret
          exact ⟨by rw [ne_at hkl hkm HE.out]; rfl, ⟨q + nq, World.drewN_drewN _ _ _⟩⟩
      · go_wp2
        go_ret
        have hk2 : k = l.length := by rw [HL.out]; omega
        refine ⟨?_, ⟨_, rfl⟩⟩
        rw [eq_all (by rw [HL.out, HM.out]) (by rw [← hk2]; exact HT.out)]
        rfl
  · have hd : ((n : Int) != (n' : Int)) = true := by rw [bne_iff_ne]; omega
    go_enter Tryz.func24, Tryz.ntmps24
    go_wp2
    go_ret
    refine ⟨?_, ⟨0, rfl⟩⟩
    have : (l == m) = false := by
      rw [beq_eq_false_iff_ne]; rintro rfl; exact hnn (HL.out.symm.trans HM.out)
    rw [this]
    rfl

/-- Two slices that read alike are found equal. -/
theorem eqByteS_same (A A' : Option Addr) (n c n' c' : Nat) (l : List UInt8) (w : World) (hs : Sl w w.heap.size A n l) (hs' : Sl w w.heap.size A' n' l) (hn : n ≤ 400000000) (hn' : n' ≤ 400000000) :
    Calls Tryz.prog 24 #[.slice A n c, .slice A' n' c'] w fun e w' => e = .returned (.bool true) ∧ Below w.heap.size w w' := by
  refine (eqByteS_any A A' n c n' c' l l w _ hs hs' hn hn').mono fun e w' ⟨he, k, hw⟩ => ?_
  subst hw
  exact ⟨by rw [he]; simp, drewN_below _ _ _⟩

/-- The numbers that markByteS lays: k, k + 1 and so on, as bytes. -/
def marks : Nat → Nat → List Value
  | _, 0 => []
  | k, n + 1 => Value.int .u8 ((k : Int) % 256) :: marks (k + 1) n
theorem marks_length (k n : Nat) : (marks k n).length = n := by
  induction n generalizing k with
  | zero => rfl
  | succ n ih => simp [marks, ih]
theorem marks_at (k n j : Nat) (h : j < n) : (marks k n)[j]? = some (Value.int .u8 (((k : Int) + (j : Int)) % 256)) := by
  induction n generalizing k j with
  | zero => omega
  | succ n ih =>
    cases j with
    | zero => simp [marks]
    | succ j => simp only [marks, List.getElem?_cons_succ]; rw [ih (k + 1) j (by omega)]; rw [show ((k + 1 : Nat) : Int) + (j : Int) = (k : Int) + ((j + 1 : Nat) : Int) by omega]
theorem marks_snoc (k n : Nat) : marks k (n + 1) = marks k n ++ [Value.int .u8 (((k : Int) + (n : Int)) % 256)] := by
  induction n generalizing k with
  | zero => simp [marks]
  | succ n ih => rw [marks, ih (k + 1), marks, List.cons_append, show ((k + 1 : Nat) : Int) + (n : Int) = (k : Int) + ((n + 1 : Nat) : Int) by omega]

theorem mark_step (cs : List Value) (k j n : Nat) (hj : j < n) (hn : n ≤ cs.length) :
    (marks k j ++ cs.drop j).set j (Value.int .u8 (((k : Int) + (j : Int)) % 256)) = marks k (j + 1) ++ cs.drop (j + 1) := by
  rw [List.set_append_right _ _ (by rw [marks_length]; omega), marks_length, Nat.sub_self, List.drop_eq_getElem_cons (by omega), List.set_cons_zero, marks_snoc, List.append_assoc]
  rfl
theorem mark_at (cs : List Value) (k j : Nat) (hj : j < cs.length) : (marks k j ++ cs.drop j)[j]? = some cs[j] := by
  rw [List.getElem?_append_right (by rw [marks_length]; omega), marks_length, Nat.sub_self, List.drop_eq_getElem_cons hj]
  rfl

theorem grown_set {w wr : World} {g : Nat} (h : w.grownBy wr (some g)) (j : Nat) (u : Value) : w.grownBy (wr.setCell ⟨g, j, none⟩ u) (some g) :=
  ⟨h.os, h.tape, h.output, by simpa [World.setCell] using h.size, fun k hk hne => by
    rw [Below.heap_setCell _ _ _ _ (fun e => hne (by simp [e]))]; exact h.block k hk hne⟩

set_option maxHeartbeats 1000000 in
/-- markByteS on a block of the call's own: n of its cells are written. -/
theorem markByteS_any (g n c k0 : Nat) (cs : List Value) (w : World) (hb : Bk w g 5 cs) (hint : ∀ j, j < n → ∃ x : Int, cs[j]? = some (.int .u8 x)) (hl : n ≤ cs.length) (hn : n ≤ 400000000) (hk0 : k0 ≤ 400000000) :
    Calls Tryz.prog 26 #[.slice (some ⟨g, 0, none⟩) n c, .int .i64 (k0 : Int)] w fun e w' => e = .returned (.int .i64 ((k0 + n : Nat) : Int)) ∧ Bk w' g 5 (marks k0 n ++ cs.drop n) ∧ w.grownBy w' (some g) := by
  have HB := Lib.hid hb
  clear hb
  go_enter Tryz.func26, Tryz.ntmps26
  go_wp2
  go_loopw [1, 5] (fun kk i wr => ∃ j : Nat, j ≤ n ∧ i = .int .i64 j ∧ kk = .int .i64 ((k0 + j : Nat) : Int) ∧ Hid (Bk wr g 5 (marks k0 j ++ cs.drop j)) ∧ Hid (w.grownBy wr (some g))) (fun _ i _ => n - (intOf i).toNat)
  case atStart => exact ⟨0, Nat.zero_le _, rfl, rfl, HB.out, World.grownBy.refl _ _⟩
  case round =>
    obtain ⟨j, hj, rfl, rfl, HJ, HG⟩ := hrel
    by_cases hlt : j < n
    · obtain ⟨x, hxx⟩ := hint j hlt
      have hx : wr.cell? ⟨g, j, none⟩ = some (.int .u8 x) := by
        rw [HJ.out.cell, mark_at cs k0 j (by omega), ← hxx, List.getElem?_eq_getElem (by omega)]
      have hf : wr.frozen? ⟨g, j, none⟩ = false := HJ.out.free j
      clear hxx
      go_wp2
      go_roundw
      case rel =>
        refine ⟨j + 1, by omega, by go_num, by go_num, ?_, grown_set HG.out _ _⟩
        have := HJ.out.set j (.int .u8 (((k0 : Int) + (j : Int)) % 256))
        rw [mark_step cs k0 j n hlt hl] at this
        exact this
      case measure => simp [intOf]; omega
    · have hjn : j = n := by omega
      subst hjn
      go_wp2
      go_ret
      exact ⟨by go_num, HJ.out, HG.out⟩

theorem byte_ne_self (x : Int) : (x != x) = false := by simp

set_option maxHeartbeats 1000000 in
/-- heldByteS on a block that holds the marks. -/
theorem heldByteS_any (g n c k0 : Nat) (r : List Value) (w : World) (hb : Bk w g 5 (marks k0 n ++ r)) (hn : n ≤ 400000000) (hk0 : k0 ≤ 400000000) :
    Calls Tryz.prog 28 #[.slice (some ⟨g, 0, none⟩) n c, .int .i64 (k0 : Int)] w fun e w' => e = .returned (.int .i64 ((k0 + n : Nat) : Int)) ∧ w = w' := by
  have HB := Lib.hid hb
  clear hb
  go_enter Tryz.func28, Tryz.ntmps28
  go_wp2
  go_loop [1, 5] (fun kk i => ∃ j : Nat, j ≤ n ∧ i = .int .i64 j ∧ kk = .int .i64 ((k0 + j : Nat) : Int)) (fun _ i => n - (intOf i).toNat)
  case atStart => exact ⟨0, Nat.zero_le _, rfl, rfl⟩
  case round =>
    obtain ⟨j, hj, rfl, rfl⟩ := hrel
    by_cases hlt : j < n
    · have hx : w.cell? ⟨g, j, none⟩ = some (Value.int .u8 (((k0 : Int) + (j : Int)) % 256)) := by
        rw [HB.out.cell, List.getElem?_append_left (by rw [marks_length]; exact hlt), marks_at k0 n j hlt]
      have hne := byte_ne_self (((k0 : Int) + (j : Int)) % 256)
      go_wp2
      go_round
      case rel => exact ⟨j + 1, by omega, by go_num, by go_num⟩
      case measure => simp [intOf]; omega
    · have hjn : j = n := by omega
      subst hjn
      go_wp2
      go_ret
      exact ⟨by go_num, rfl⟩

/-- The law marks from 1 on. -/
theorem markByteS_one (g n c : Nat) (l : List UInt8) (r : List Value) (w : World) (hb : Bk w g 5 (l.map bv ++ r)) (hl : l.length = n) (hn : n ≤ 400000000) :
    Calls Tryz.prog 26 #[.slice (some ⟨g, 0, none⟩) n c, .int .i64 1] w fun e w' => e = .returned (.int .i64 (1 + (n : Int))) ∧ Bk w' g 5 (marks 1 n ++ r) ∧ w.grownBy w' (some g) := by
  refine (markByteS_any g n c 1 (l.map bv ++ r) w hb (fun j hj => ⟨((l[j]'(by omega)).toNat : Int), ?_⟩) (by simp; omega) hn (by omega)).mono fun e w' ⟨he, h1, h2⟩ => ⟨?_, ?_, h2⟩
  · rw [List.getElem?_append_left (by simp; omega), List.getElem?_map, List.getElem?_eq_getElem (by omega)]
    rfl
  · rw [he]; simp
  · rw [List.drop_append_of_le_length (by simp; omega), List.drop_eq_nil_of_le (by simp; omega), List.nil_append] at h1
    exact h1
theorem heldByteS_one (g n c : Nat) (r : List Value) (w : World) (hb : Bk w g 5 (marks 1 n ++ r)) (hn : n ≤ 400000000) :
    Calls Tryz.prog 28 #[.slice (some ⟨g, 0, none⟩) n c, .int .i64 1] w fun e w' => e = .returned (.int .i64 (1 + (n : Int))) ∧ w = w' :=
  (heldByteS_any g n c 1 r w hb hn (by omega)).mono fun e w' ⟨he, h1⟩ => ⟨by rw [he]; simp, h1⟩

end Go.Proofs.YtcpadkehalgddaaGreatDoor.Eq

/- What the law's own helpers eqRecord and eqRecordS do on records that are the same: they return true and turn nothing. Condition: fewer than 400000001 records. -/
namespace Go.Proofs.YtcpadkehalgddaaGreatDoor.EqR
open Go.RowKit Go.Proofs.YtcpadkehalgddaaGreatDoor.Mem Go.Proofs.YtcpadkehalgddaaGreatDoor.MemR

set_option maxHeartbeats 1000000 in
theorem eqRecord_same (r : Rec) (w : World) : Calls Tryz.prog 56 #[.agg #[.string r.name, .int .i64 r.ty, .int .i64 r.ttl, .int .i64 r.n, .string r.host, .string r.text], .agg #[.string r.name, .int .i64 r.ty, .int .i64 r.ttl, .int .i64 r.n, .string r.host, .string r.text]] w fun e w' => e = .returned (.bool true) ∧ Below w.heap.size w w' := by
  obtain ⟨name, ty, ttl, n, host, text⟩ := r
  simp only
  go_enter Tryz.func56, Tryz.ntmps56
  go_wp2
  go_ret
  exact ⟨rfl, ((Below.refl _ _).alloc (Nat.le_refl _) _).alloc (by simp) _⟩

set_option maxHeartbeats 1000000 in
theorem eqRecordS_same (A A' : Option Addr) (n c c' : Nat) (l : List Rec) (w : World) (hs : Sr w w.heap.size A n l) (hs' : Sr w w.heap.size A' n l) (hn : n ≤ 400000000) :
    Calls Tryz.prog 25 #[.slice A n c, .slice A' n c'] w fun e w' => e = .returned (.bool true) ∧ Below w.heap.size w w' := by
  have mixed : Tryz.prog.follows .mixedOrders = true := by kernel_rfl
  have hd : ((n : Int) != (n : Int)) = false := by simp
  have HS := Lib.hid hs
  have HT := Lib.hid hs'
  clear hs hs'
  go_enter Tryz.func25, Tryz.ntmps25
  go_wp2
  go_loopw [5] (fun i wr => ∃ k : Nat, k ≤ n ∧ i = .int .i64 k ∧ Hid (Below w.heap.size w wr)) (fun i _ => n - (intOf i).toNat)
  case atStart => exact ⟨0, Nat.zero_le _, rfl, Below.refl _ _⟩
  case round =>
    obtain ⟨k, hk, rfl, HL⟩ := hrel
    by_cases hlt : k < n
    · obtain ⟨b, off, rfl, hbB, hcs⟩ := HS.out.2 (by omega)
      obtain ⟨b', off', rfl, hbB', hcs'⟩ := HT.out.2 (by omega)
      have hkl : k < l.length := by rw [HS.out.1]; exact hlt
      have E := (hcs k hkl).below HL.out hbB
      have E' := (hcs' k hkl).below HL.out hbB'
      clear hcs hcs'
      generalize l[k] = r at *
      have x0 : ∀ d os, (Sort.grow (redrawn wr d) os).cell? _ = some _ := cell_regrown E.1
      have x1 : ∀ d os, (Sort.grow (redrawn wr d) os).cell? _ = some _ := cell_regrown E.2.1
      have x2 : ∀ d os, (Sort.grow (redrawn wr d) os).cell? _ = some _ := cell_regrown E.2.2.1
      have x3 : ∀ d os, (Sort.grow (redrawn wr d) os).cell? _ = some _ := cell_regrown E.2.2.2.1
      have x4 : ∀ d os, (Sort.grow (redrawn wr d) os).cell? _ = some _ := cell_regrown E.2.2.2.2.1
      have x5 : ∀ d os, (Sort.grow (redrawn wr d) os).cell? _ = some _ := cell_regrown E.2.2.2.2.2
      have y0 : ∀ d os, (Sort.grow (redrawn wr d) os).cell? _ = some _ := cell_regrown E'.1
      have y1 : ∀ d os, (Sort.grow (redrawn wr d) os).cell? _ = some _ := cell_regrown E'.2.1
      have y2 : ∀ d os, (Sort.grow (redrawn wr d) os).cell? _ = some _ := cell_regrown E'.2.2.1
      have y3 : ∀ d os, (Sort.grow (redrawn wr d) os).cell? _ = some _ := cell_regrown E'.2.2.2.1
      have y4 : ∀ d os, (Sort.grow (redrawn wr d) os).cell? _ = some _ := cell_regrown E'.2.2.2.2.1
      have y5 : ∀ d os, (Sort.grow (redrawn wr d) os).cell? _ = some _ := cell_regrown E'.2.2.2.2.2
      clear E E'
      go_wp2_with fail
      refine wp_region_quiet_below (by assumption) (by kernel_rfl) ?_
      repeat (quiet_step (first | (go_at_call 56; exact Calls.regrown_of (eqRecord_same _ _))))
      refine wpQuiet_nil ?_
      intro w2 hw2
      have L2 := Lib.hid (HL.out.trans ((show Below wr.heap.size wr w2 by obtain ⟨p, rfl⟩ := hw2; exact below_regrown _ _ _).mono HL.out.size))
      clear hw2 x0 x1 x2 x3 x4 x5 y0 y1 y2 y3 y4 y5
      go_wp2
      go_roundw
      case rel => exact ⟨k + 1, by omega, by go_num, L2.out⟩
      case measure => simp [intOf]; omega
    · go_wp2
      go_ret
      exact ⟨rfl, HL.out⟩

end Go.Proofs.YtcpadkehalgddaaGreatDoor.EqR

/- What the law's own helpers markText, markStringS and heldStringS do: a text for each number; every element becomes the text of its number; they are found again. Condition: fewer than 2000001 texts. -/
namespace Go.Proofs.YtcpadkehalgddaaGreatDoor.MarkS
open Go.RowKit Go.Proofs.YtcpadkehalgddaaGreatDoor.Mem Go.Proofs.YtcpadkehalgddaaGreatDoor.MemS

/-- The last digit of v. -/
def dg (v : Nat) : UInt8 := UInt8.ofNat (48 + v % 10)
theorem dg_cell (v : Nat) : ((dg v).toNat : Int) = 48 + (v : Int) % 10 := by
  unfold dg
  rw [UInt8.toNat_ofNat_of_lt' (by simp [UInt8.size]; omega)]
  omega
/-- The digits of v, none for 0, in at most so many rounds. -/
def dsf : Nat → Nat → List UInt8
  | 0, _ => []
  | f + 1, v => if v = 0 then [] else dsf f (v / 10) ++ [dg v]
theorem dsf_same : ∀ (f g v : Nat), v ≤ f → v ≤ g → dsf f v = dsf g v
  | 0, 0, _, _, _ => rfl
  | 0, g + 1, v, h, _ => by rw [dsf, dsf, if_pos (by omega)]
  | f + 1, 0, v, _, h => by rw [dsf, dsf, if_pos (by omega)]
  | f + 1, g + 1, v, h1, h2 => by
    rw [dsf, dsf]
    by_cases h : v = 0
    · rw [if_pos h, if_pos h]
    · rw [if_neg h, if_neg h, dsf_same f g (v / 10) (by omega) (by omega)]
/-- The digits of v, none for 0. -/
def ds (v : Nat) : List UInt8 := dsf v v
theorem ds_zero : ds 0 = [] := rfl
theorem ds_step (v : Nat) (h : v ≠ 0) : ds v = ds (v / 10) ++ [dg v] := by
  obtain ⟨n, rfl⟩ : ∃ n, v = n + 1 := ⟨v - 1, by omega⟩
  rw [ds, ds, dsf, if_neg h, dsf_same n ((n + 1) / 10) ((n + 1) / 10) (by omega) (Nat.le_refl _)]
theorem ds_len (v : Nat) : (ds v).length ≤ v := by
  induction v using Nat.strongRecOn with
  | ind v ih =>
    by_cases h : v = 0
    · subst h; rw [ds_zero]; simp
    · rw [ds_step v h, List.length_append]
      have := ih (v / 10) (by omega)
      simp
      omega
theorem ds_tenth (v : Nat) : (ds v).length ≤ v / 10 + 1 := by
  by_cases h : v = 0
  · subst h; rw [ds_zero]; simp
  · rw [ds_step v h, List.length_append]
    have := ds_len (v / 10)
    simp
    omega
/-- The text of a number. A def, so that no step of a walk opens it. -/
def Mt (v : Nat) : ByteArray := ⟨(109 :: ds v).toArray⟩

/-- One byte in a new block, made a string. -/
theorem back (P : Program) (w : World) {src dst e : TypeId} (x : UInt8) (hs : P.underlying src = some (.slice e)) (he : P.underlying e = some (.int .u8)) (hd : P.underlying dst = some .string) :
    (convert src dst (.slice (some ⟨w.heap.size, 0, none⟩) 1 1)).run P (w.alloc (.cells #[.int .u8 (x.toNat : Int)] e)) = .ok (.string ⟨[x].toArray⟩) (w.alloc (.cells #[.int .u8 (x.toNat : Int)] e)) := by
  refine run_convert_bytes_back _ src dst e ⟨w.heap.size, 0, none⟩ 1 [x] hs he hd fun j hj => ?_
  have hj0 : j = 0 := by simp at hj; exact hj
  subst hj0
  rw [Addr.add_lit]
  have hb : Bk (w.alloc (.cells #[.int .u8 (x.toNat : Int)] e)) w.heap.size e [.int .u8 (x.toNat : Int)] := heap_alloc_new w _
  rw [hb.cell]
  rfl

set_option maxHeartbeats 400000 in
theorem markText_any (u : Nat) (h0 : 0 < u) (h1 : u ≤ 20000000) (w : World) :
    Calls Tryz.prog 57 #[.int .i64 (u : Int)] w fun e w' => e = .returned (.string (Mt u)) ∧ Below w.heap.size w w' := by
  have hz : ¬ (u : Int) ≤ 0 := by omega
  go_enter Tryz.func57, Tryz.ntmps57
  go_wp2
  go_loopw [0, 3] (fun x s wr => ∃ (v : Nat) (acc : List UInt8), v ≤ u ∧ x = .int .i64 (v : Int) ∧ s = .string ⟨acc.toArray⟩ ∧ Hid (ds v ++ acc = ds u) ∧ Hid (Below w.heap.size w wr)) (fun x _ _ => (intOf x).toNat)
  case atStart => exact ⟨u, [], Nat.le_refl _, rfl, rfl, by show _ = _; rw [List.append_nil], Below.refl _ _⟩
  case round =>
    obtain ⟨v, acc, hv, rfl, rfl, HA, HB⟩ := hrel
    have hsum : ((acc.length : Int)) ≤ 8388608 := by
      have h2 := ds_tenth u
      rw [← HA.out, List.length_append] at h2
      omega
    by_cases hv0 : v = 0
    · have hacc : Hid (acc = ds u) := by show _ = _; rw [← HA.out, hv0, ds_zero]; rfl
      have hle : ¬ (0 : Int) < (v : Int) := by omega
      have hcat := fun w => run_string_add_lists (P := Tryz.prog) w [109] acc (by simp) hsum
      clear hv0
      go_wp2
      go_ret
      exact ⟨by rw [hacc.out]; rfl, HB.out⟩
    · have hvp : 0 < v := by omega
      have hconv := fun w => back Tryz.prog w (dg v) Tryz.underlying22 Tryz.underlying5 Tryz.underlying9
      have hcat := fun w => run_string_add_lists (P := Tryz.prog) w [dg v] acc (by simp) hsum
      rw [dg_cell] at hconv
      go_wp2
      go_roundw
      case rel => exact ⟨v / 10, dg v :: acc, by omega, by go_num, rfl, by show _ = _; rw [← HA.out, ds_step v hv0, List.append_assoc]; rfl, HB.out.alloc HB.out.size _⟩
      case measure => simp [intOf]; omega

/-- The texts that markStringS lays: those of k, k + 1 and so on. -/
def marks : Nat → Nat → List ByteArray
  | _, 0 => []
  | k, n + 1 => Mt k :: marks (k + 1) n
theorem marks_length (k n : Nat) : (marks k n).length = n := by
  induction n generalizing k with
  | zero => rfl
  | succ n ih => simp [marks, ih]
theorem marks_at (k n j : Nat) (h : j < n) : (marks k n)[j]? = some (Mt (k + j)) := by
  induction n generalizing k j with
  | zero => omega
  | succ n ih =>
    cases j with
    | zero => simp [marks]
    | succ j => simp only [marks, List.getElem?_cons_succ]; rw [ih (k + 1) j (by omega), show k + 1 + j = k + (j + 1) by omega]
theorem marks_snoc (k n : Nat) : marks k (n + 1) = marks k n ++ [Mt (k + n)] := by
  induction n generalizing k with
  | zero => simp [marks]
  | succ n ih => rw [marks, ih (k + 1), marks, List.cons_append, show k + 1 + n = k + (n + 1) by omega]
theorem mark_step (cs : List Value) (k j n : Nat) (hj : j < n) (hn : n ≤ cs.length) :
    ((marks k j).map tv ++ cs.drop j).set j (Value.string (Mt (k + j))) = (marks k (j + 1)).map tv ++ cs.drop (j + 1) := by
  rw [List.set_append_right _ _ (by rw [List.length_map, marks_length]; omega), List.length_map, marks_length, Nat.sub_self, List.drop_eq_getElem_cons (by omega), List.set_cons_zero, marks_snoc, List.map_append, List.append_assoc]
  rfl
theorem mark_at (cs : List Value) (k j : Nat) (hj : j < cs.length) : ((marks k j).map tv ++ cs.drop j)[j]? = some cs[j] := by
  rw [List.getElem?_append_right (by rw [List.length_map, marks_length]; omega), List.length_map, marks_length, Nat.sub_self, List.drop_eq_getElem_cons hj]
  rfl
theorem grown_of_below {w w' : World} (h : Below w.heap.size w w') (r : Option Nat) : w.grownBy w' r := ⟨h.os, h.tape, h.output, h.size, fun k hk _ => h.block k hk⟩
theorem grown_trans {a b d : World} {r : Option Nat} (h : a.grownBy b r) (k : b.grownBy d r) : a.grownBy d r :=
  ⟨k.os.trans h.os, k.tape.trans h.tape, k.output.trans h.output, Nat.le_trans h.size k.size, fun i hi hne => (k.block i (Nat.lt_of_lt_of_le hi h.size) hne).trans (h.block i hi hne)⟩
theorem grown_set {w wr : World} {g : Nat} (h : w.grownBy wr (some g)) (j : Nat) (u : Value) : w.grownBy (wr.setCell ⟨g, j, none⟩ u) (some g) :=
  ⟨h.os, h.tape, h.output, by simpa [World.setCell] using h.size, fun k hk hne => by
    rw [Below.heap_setCell _ _ _ _ (fun e => hne (by simp [e]))]; exact h.block k hk hne⟩

end Go.Proofs.YtcpadkehalgddaaGreatDoor.MarkS

/- What the law's own helpers markRecordS and heldRecordS do: every field of every record is overwritten by a mark of its own; and the marks are found. Condition: fewer than 2000001 records. -/
namespace Go.Proofs.YtcpadkehalgddaaGreatDoor.MarkR
open Go.RowKit Go.Proofs.YtcpadkehalgddaaGreatDoor.Mem Go.Proofs.YtcpadkehalgddaaGreatDoor.MemR Go.Proofs.YtcpadkehalgddaaGreatDoor.MarkS Go.Proofs.YtcpadkehalgddaaGreatDoor.BoxR

/-- The record of marks from u on. -/
def mr (u : Nat) : Rec := ⟨Mt u, (u : Int) + 1, (u : Int) + 1 + 1, (u : Int) + 1 + 1 + 1, Mt (u + 4), Mt (u + 5)⟩
/-- So many of them. -/
def mks (n : Nat) : List Rec := (List.range n).map (fun j => mr (1 + 6 * j))
theorem mks_len (n : Nat) : (mks n).length = n := by simp [mks]
theorem mks_at (n j : Nat) (h : j < (mks n).length) : (mks n)[j] = mr (1 + 6 * j) := by simp [mks]
theorem mks_snoc (n : Nat) : mks (n + 1) = mks n ++ [mr (1 + 6 * n)] := by simp [mks, List.range_succ]
theorem mid_at (l : List Rec) (j : Nat) (h : j < l.length) : ∃ h' : j < (mks j ++ l.drop j).length, (mks j ++ l.drop j)[j] = l[j] := by
  refine ⟨by rw [List.length_append, mks_len, List.length_drop]; omega, ?_⟩
  rw [List.getElem_append_right (by rw [mks_len]; omega), List.getElem_drop]
  congr 1
  rw [mks_len]
  omega
theorem mid_set (l : List Rec) (j : Nat) (h : j < l.length) : (mks j ++ l.drop j).set j (mr (1 + 6 * j)) = mks (j + 1) ++ l.drop (j + 1) := by
  rw [List.set_append_right _ _ (by rw [mks_len]; omega), mks_len, Nat.sub_self, List.drop_eq_getElem_cons h, List.set_cons_zero, mks_snoc, List.append_assoc]
  rfl
theorem mid_len (l : List Rec) (j : Nat) (h : j ≤ l.length) : (mks j ++ l.drop j).length = l.length := by
  rw [List.length_append, mks_len, List.length_drop]; omega
theorem set_left (X r : List Value) (i : Nat) (u : Value) (h : i < X.length) : (X ++ r).set i u = X.set i u ++ r := List.set_append_left _ _ h
theorem put_r (L : List Rec) (r : List Value) (k : Nat) (x : Rec) (h : k < L.length) :
    ((((((fl L ++ r).set (k * 6) (.string x.name)).set (k * 6 + 1) (.int .i64 x.ty)).set (k * 6 + 2) (.int .i64 x.ttl)).set (k * 6 + 3) (.int .i64 x.n)).set (k * 6 + 4) (.string x.host)).set (k * 6 + 5) (.string x.text) = fl (L.set k x) ++ r := by
  have hl := fl_len L
  rw [set_left _ _ _ _ (by omega), set_left _ _ _ _ (by simp; omega), set_left _ _ _ _ (by simp; omega), set_left _ _ _ _ (by simp; omega), set_left _ _ _ _ (by simp; omega), set_left _ _ _ _ (by simp; omega), fl_put L k x h]

set_option maxHeartbeats 4000000 in
theorem markRecordS_one (g n c : Nat) (l : List Rec) (r : List Value) (w : World) (hb : Bk w g 25 (fl l ++ r)) (hl : l.length = n) (hn : n ≤ 2000000) :
    Calls Tryz.prog 27 #[.slice (some ⟨g, 0, none⟩) n c, .int .i64 1] w fun e w' => e = .returned (.int .i64 (1 + 6 * (n : Int))) ∧ Bk w' g 25 (fl (mks n) ++ r) ∧ w.grownBy w' (some g) := by
  have HB := Lib.hid hb
  have HL := Lib.hid hl
  clear hb hl
  go_enter Tryz.func27, Tryz.ntmps27
  go_wp2
  go_loopw [1, 5] (fun kk i wr => ∃ j u : Nat, j ≤ n ∧ i = .int .i64 j ∧ kk = .int .i64 (u : Int) ∧ Hid (u = 1 + 6 * j) ∧ Hid (Bk wr g 25 (fl (mks j ++ l.drop j) ++ r)) ∧ Hid (w.grownBy wr (some g))) (fun _ i _ => n - (intOf i).toNat)
  case atStart => exact ⟨0, 1, Nat.zero_le _, rfl, rfl, rfl, HB.out, World.grownBy.refl _ _⟩
  case round =>
    clear HB
    obtain ⟨j, u, hj, rfl, rfl, HU, HJ, HG⟩ := hrel
    have hu : u ≤ 12000001 := by have := HU.out; omega
    by_cases hlt : j < n
    · have hu0 : 0 < u := by have := HU.out; omega
      have hjl : j < l.length := by rw [HL.out]; exact hlt
      have HM := Lib.hid (mid_set l j hjl)
      have hML : j < (mks j ++ l.drop j).length := (mid_at l j hjl).1
      generalize mks j ++ l.drop j = M at *
      go_wp2_with fail
      refine (markText_any u hu0 (by omega) wr).mono ?_
      rintro e w1 ⟨rfl, hl1⟩
      have B1 := Lib.hid (HJ.out.below hl1 HJ.out.lt)
      have G1 := Lib.hid (grown_trans HG.out (grown_of_below hl1 (some g)))
      clear hl1 HJ HG
      obtain ⟨z0, z1, z2, z3, z4, z5⟩ := bk_ce B1.out j hML
      have f0 := B1.out.free (j * 6)
      have f1 := B1.out.free (j * 6 + 1)
      have f2 := B1.out.free (j * 6 + 2)
      have f3 := B1.out.free (j * 6 + 3)
      have Z4 : Hid ((fl M ++ r)[j * 6 + 4]? = some (.string M[j].host)) := (B1.out.cell (j * 6 + 4)).symm.trans z4
      have Z5 : Hid ((fl M ++ r)[j * 6 + 5]? = some (.string M[j].text)) := (B1.out.cell (j * 6 + 5)).symm.trans z5
      clear z4 z5
      have B2 := Lib.hid ((((B1.out.set (j * 6) (.string (Mt u))).set (j * 6 + 1) (.int .i64 ((u : Int) + 1))).set (j * 6 + 2) (.int .i64 ((u : Int) + 1 + 1))).set (j * 6 + 3) (.int .i64 ((u : Int) + 1 + 1 + 1)))
      have G2 := Lib.hid (grown_set (grown_set (grown_set (grown_set G1.out (j * 6) (.string (Mt u))) (j * 6 + 1) (.int .i64 ((u : Int) + 1))) (j * 6 + 2) (.int .i64 ((u : Int) + 1 + 1))) (j * 6 + 3) (.int .i64 ((u : Int) + 1 + 1 + 1)))
      have e4 : (u : Int) + 1 + 1 + 1 + 1 = ((u + 4 : Nat) : Int) := by omega
      have E4 := Lib.hid e4
      clear e4
      go_wp2_with fail
      rw [E4.out]
      refine (markText_any (u + 4) (by omega) (by omega) _).mono ?_
      rintro e w3 ⟨rfl, hl3⟩
      have B3 := Lib.hid (B2.out.below hl3 B2.out.lt)
      have G3 := Lib.hid (grown_trans G2.out (grown_of_below hl3 (some g)))
      clear hl3 B2 G2 z0 z1 z2 z3 f0 f1 f2 f3 B1 G1
      have z4 : w3.cell? ⟨g, j * 6 + 4, none⟩ = some (.string M[j].host) := by
        rw [B3.out.cell, List.getElem?_set_ne (by omega), List.getElem?_set_ne (by omega), List.getElem?_set_ne (by omega), List.getElem?_set_ne (by omega)]
        exact Z4.out
      have f4 := B3.out.free (j * 6 + 4)
      have B4 := Lib.hid (B3.out.set (j * 6 + 4) (.string (Mt (u + 4))))
      have G4 := Lib.hid (grown_set G3.out (j * 6 + 4) (.string (Mt (u + 4))))
      go_wp2_with fail
      have e5 : Hid ((u : Int) + 4 + 1 = ((u + 5 : Nat) : Int)) := show _ = _ by omega
      rw [e5.out]
      refine (markText_any (u + 5) (by omega) (by omega) _).mono ?_
      rintro e w5 ⟨rfl, hl5⟩
      have B5 := Lib.hid (B4.out.below hl5 B4.out.lt)
      have G5 := Lib.hid (grown_trans G4.out (grown_of_below hl5 (some g)))
      clear hl5 B3 G3 B4 G4 z4 f4
      have z5 : w5.cell? ⟨g, j * 6 + 5, none⟩ = some (.string M[j].text) := by
        rw [B5.out.cell, List.getElem?_set_ne (by omega), List.getElem?_set_ne (by omega), List.getElem?_set_ne (by omega), List.getElem?_set_ne (by omega), List.getElem?_set_ne (by omega)]
        exact Z5.out
      have f5 := B5.out.free (j * 6 + 5)
      have B6 := Lib.hid (B5.out.set (j * 6 + 5) (.string (Mt (u + 5))))
      have G6 := Lib.hid (grown_set G5.out (j * 6 + 5) (.string (Mt (u + 5))))
      go_wp2
      go_roundw
      case rel =>
        refine ⟨j + 1, u + 6, by omega, by go_num, by go_num, show _ = _ by have := HU.out; omega, ?_, G6.out⟩
        show Bk _ _ _ _
        have h := B6.out
        have hp := put_r M r j (mr u) hML
        have hq : mr u = mr (1 + 6 * j) := by rw [HU.out]
        rw [hq, HM.out, ← hq] at hp
        have hx := hp.symm
        rw [hx]
        exact h
      case measure => simp [intOf]; omega
    · have hje : j = n := by omega
      subst hje
      go_wp2
      go_ret
      refine ⟨?_, ?_, HG.out⟩
      · rw [HU.out]
        push_cast
        rfl
      · have h := HJ.out
        rw [List.drop_eq_nil_of_le (by rw [HL.out]; exact Nat.le_refl _), List.append_nil] at h
        exact h

theorem mark_at (z : Int) (v : Nat) (hz : z = (v : Int)) (h0 : 0 < v) (h1 : v ≤ 20000000) (w : World) :
    Calls Tryz.prog 57 #[.int .i64 z] w fun e w' => e = .returned (.string (Mt v)) ∧ Below w.heap.size w w' := by
  subst hz
  exact markText_any v h0 h1 w

end Go.Proofs.YtcpadkehalgddaaGreatDoor.MarkR

/- What the law's own helper markRecordS does from any first mark on: it returns the mark behind the last, and turns only the block of the records. Condition: fewer than 1100001 records, a first mark of at most 2000000. -/
namespace Go.Proofs.YtcpadkehalgddaaGreatDoor.MarkR2
open Go.RowKit Go.Proofs.YtcpadkehalgddaaGreatDoor.Mem Go.Proofs.YtcpadkehalgddaaGreatDoor.MemR Go.Proofs.YtcpadkehalgddaaGreatDoor.MarkS Go.Proofs.YtcpadkehalgddaaGreatDoor.MarkR Go.Proofs.YtcpadkehalgddaaGreatDoor.BoxR

set_option maxHeartbeats 4000000 in
theorem markRecordS_from (g n c u0 : Nat) (l : List Rec) (r : List Value) (w : World) (hb : Bk w g 25 (fl l ++ r)) (hl : l.length = n) (hn : n ≤ 1100000) (hu0 : 0 < u0) (hu1 : u0 ≤ 2000000) :
    Calls Tryz.prog 27 #[.slice (some ⟨g, 0, none⟩) n c, .int .i64 (u0 : Int)] w fun e w' => e = .returned (.int .i64 ((u0 : Int) + 6 * (n : Int))) ∧ w.grownBy w' (some g) := by
  have HB := Lib.hid hb
  have HL := Lib.hid hl
  clear hb hl
  go_enter Tryz.func27, Tryz.ntmps27
  go_wp2
  go_loopw [1, 5] (fun kk i wr => ∃ j u : Nat, j ≤ n ∧ i = .int .i64 j ∧ kk = .int .i64 (u : Int) ∧ Hid (u = u0 + 6 * j) ∧ (∃ M : List Rec, Hid (M.length = n) ∧ Hid (Bk wr g 25 (fl M ++ r))) ∧ Hid (w.grownBy wr (some g))) (fun _ i _ => n - (intOf i).toNat)
  case atStart => exact ⟨0, u0, Nat.zero_le _, rfl, rfl, rfl, ⟨l, HL.out, HB.out⟩, World.grownBy.refl _ _⟩
  case round =>
    clear HB
    obtain ⟨j, u, hj, rfl, rfl, HU, ⟨M, HML, HJ⟩, HG⟩ := hrel
    have hu : u ≤ 8600000 := by have := HU.out; omega
    by_cases hlt : j < n
    · have hup : 0 < u := by have := HU.out; omega
      have hML : j < M.length := by rw [HML.out]; exact hlt
      go_wp2_with fail
      refine (markText_any u hup (by omega) wr).mono ?_
      rintro e w1 ⟨rfl, hl1⟩
      have B1 := Lib.hid (HJ.out.below hl1 HJ.out.lt)
      have G1 := Lib.hid (grown_trans HG.out (grown_of_below hl1 (some g)))
      clear hl1 HJ HG
      obtain ⟨z0, z1, z2, z3, z4, z5⟩ := bk_ce B1.out j hML
      have f0 := B1.out.free (j * 6)
      have f1 := B1.out.free (j * 6 + 1)
      have f2 := B1.out.free (j * 6 + 2)
      have f3 := B1.out.free (j * 6 + 3)
      have Z4 : Hid ((fl M ++ r)[j * 6 + 4]? = some (.string M[j].host)) := (B1.out.cell (j * 6 + 4)).symm.trans z4
      have Z5 : Hid ((fl M ++ r)[j * 6 + 5]? = some (.string M[j].text)) := (B1.out.cell (j * 6 + 5)).symm.trans z5
      clear z4 z5
      have B2 := Lib.hid ((((B1.out.set (j * 6) (.string (Mt u))).set (j * 6 + 1) (.int .i64 ((u : Int) + 1))).set (j * 6 + 2) (.int .i64 ((u : Int) + 1 + 1))).set (j * 6 + 3) (.int .i64 ((u : Int) + 1 + 1 + 1)))
      have G2 := Lib.hid (grown_set (grown_set (grown_set (grown_set G1.out (j * 6) (.string (Mt u))) (j * 6 + 1) (.int .i64 ((u : Int) + 1))) (j * 6 + 2) (.int .i64 ((u : Int) + 1 + 1))) (j * 6 + 3) (.int .i64 ((u : Int) + 1 + 1 + 1)))
      have e4 : (u : Int) + 1 + 1 + 1 + 1 = ((u + 4 : Nat) : Int) := by omega
      have E4 := Lib.hid e4
      clear e4
      go_wp2_with fail
      rw [E4.out]
      refine (markText_any (u + 4) (by omega) (by omega) _).mono ?_
      rintro e w3 ⟨rfl, hl3⟩
      have B3 := Lib.hid (B2.out.below hl3 B2.out.lt)
      have G3 := Lib.hid (grown_trans G2.out (grown_of_below hl3 (some g)))
      clear hl3 B2 G2 z0 z1 z2 z3 f0 f1 f2 f3 B1 G1
      have z4 : w3.cell? ⟨g, j * 6 + 4, none⟩ = some (.string M[j].host) := by
        rw [B3.out.cell, List.getElem?_set_ne (by omega), List.getElem?_set_ne (by omega), List.getElem?_set_ne (by omega), List.getElem?_set_ne (by omega)]
        exact Z4.out
      have f4 := B3.out.free (j * 6 + 4)
      have B4 := Lib.hid (B3.out.set (j * 6 + 4) (.string (Mt (u + 4))))
      have G4 := Lib.hid (grown_set G3.out (j * 6 + 4) (.string (Mt (u + 4))))
      go_wp2_with fail
      have e5 : Hid ((u : Int) + 4 + 1 = ((u + 5 : Nat) : Int)) := show _ = _ by omega
      rw [e5.out]
      refine (markText_any (u + 5) (by omega) (by omega) _).mono ?_
      rintro e w5 ⟨rfl, hl5⟩
      have B5 := Lib.hid (B4.out.below hl5 B4.out.lt)
      have G5 := Lib.hid (grown_trans G4.out (grown_of_below hl5 (some g)))
      clear hl5 B3 G3 B4 G4 z4 f4
      have z5 : w5.cell? ⟨g, j * 6 + 5, none⟩ = some (.string M[j].text) := by
        rw [B5.out.cell, List.getElem?_set_ne (by omega), List.getElem?_set_ne (by omega), List.getElem?_set_ne (by omega), List.getElem?_set_ne (by omega), List.getElem?_set_ne (by omega)]
        exact Z5.out
      have f5 := B5.out.free (j * 6 + 5)
      have B6 := Lib.hid (B5.out.set (j * 6 + 5) (.string (Mt (u + 5))))
      have G6 := Lib.hid (grown_set G5.out (j * 6 + 5) (.string (Mt (u + 5))))
      go_wp2
      go_roundw
      case rel =>
        refine ⟨j + 1, u + 6, by omega, by go_num, by go_num, show _ = _ by have := HU.out; omega, ⟨M.set j (mr u), ?_, ?_⟩, G6.out⟩
        · show _ = _
          rw [List.length_set]
          exact HML.out
        · show Bk _ _ _ _
          rw [← put_r M r j (mr u) hML]
          exact B6.out
      case measure => simp [intOf]; omega
    · have hje : j = n := by omega
      subst hje
      go_wp2
      go_ret
      refine ⟨?_, HG.out⟩
      rw [HU.out]
      push_cast
      rfl
end Go.Proofs.YtcpadkehalgddaaGreatDoor.MarkR2

/- The law FnExactPutRecords returns true at every slice of bytes and every slice of records, where the library's variable internal/bytealg.MaxLen holds an int, and turns nothing that was there: PutRecords answers as its model. -/
namespace Go.Proofs.YtcpadkehalgddaaGreatDoor.LawPutRecords
open Go.RowKit Go.Proofs.YtcpadkehalgddaaGreatDoor.Mem Go.Proofs.YtcpadkehalgddaaGreatDoor.MemR Go.Proofs.YtcpadkehalgddaaGreatDoor.Labels Go.Proofs.YtcpadkehalgddaaGreatDoor.SzR Go.Proofs.YtcpadkehalgddaaGreatDoor.Copy Go.Proofs.YtcpadkehalgddaaGreatDoor.CopyR Go.Proofs.YtcpadkehalgddaaGreatDoor.Eq Go.Proofs.YtcpadkehalgddaaGreatDoor.EqR Go.Proofs.YtcpadkehalgddaaGreatDoor.FieldMath Go.Proofs.YtcpadkehalgddaaGreatDoor.App Go.Proofs.YtcpadkehalgddaaGreatDoor.DataS

set_option maxRecDepth 100000 in
set_option maxHeartbeats 8000000 in
theorem walk (A : Option Addr) (n c : Nat) (l : List UInt8) (A' : Option Addr) (n' c' : Nat) (R : List Rec) (w : World) (he : Env w) (hs : Sl w w.heap.size A n l) (_hc : n ≤ c) (_hnil : A = none → n = 0 ∧ c = 0) (hS : Sr w w.heap.size A' n' R) (hn : n' ≤ 9223372036854775807) (hz : ∀ r ∈ R, r.name.size ≤ 9223372036854775807 ∧ r.host.size ≤ 9223372036854775807 ∧ r.text.size ≤ 9223372036854775807) :
    Calls Tryz.prog 5 #[.slice A n c, .slice A' n' c'] w fun e w' => e = .returned (.bool true) ∧ Below w.heap.size w w' := by
  have HE := Lib.hid he
  have HS := Lib.hid hs
  have HL := Lib.hid hs.1
  have S0 := Lib.hid hS
  have Z0 := Lib.hid hz
  clear he hs hS hz _hnil
  by_cases hbig : 1048576 < n
  · have hb' : (1048576 : Int) < (n : Int) := by omega
    go_enter Tryz.func5, Tryz.ntmps5
    go_wp2
    go_ret
    exact ⟨rfl, Below.refl _ _⟩
  have hb' : ¬ (1048576 : Int) < (n : Int) := by omega
  go_enter Tryz.func5, Tryz.ntmps5
  go_wp2_with fail
  refine (szRecordS_any A' n' c' R 1048576 w S0.out (by omega) (by omega) hn Z0.out).mono ?_
  rintro e w1 ⟨y, rfl, hy0, hy1, hy, hl⟩
  have Y0 := Lib.hid hy
  have L1 := Lib.hid hl
  clear hy hl
  by_cases hneg : y < 0
  · go_wp2
    go_ret
    exact ⟨rfl, L1.out⟩
  have Y1 := Lib.hid (Y0.out (by omega))
  clear Y0
  have bn : n' ≤ 1048576 := by have := Y1.out; have := S0.out.1; omega
  have HF : Hid (∀ r ∈ R, Med r) := fun r hr => by
    have h1 := tot_le R r hr
    have h2 := Y1.out
    unfold rz at h1
    exact ⟨by omega, by omega, by omega⟩
  have HN : Hid (R.length = n') := S0.out.1
  clear Y1 Z0
  have HLL : Hid ((puts l R).length ≤ 190000000) := by
    show _ ≤ _
    have := puts_len R l
    rw [HL.out, HN.out] at this
    omega
  have SP : Hid (∀ (g h : Nat) (W : World), Bk W g 5 (l.map bv) → Bk W h 25 (fl R) → Calls Tryz.prog 18 #[.slice (some ⟨g, 0, none⟩) n n, .slice (some ⟨h, 0, none⟩) n' n'] W (Gives W (puts l R))) :=
    fun g h W hb hr => (PutsS.spec _ _ n n n' n' l R W (HL.out ▸ (hb.sl.wider hb.lt)) (fun h => by cases h) (by omega) (bk_sr0 hr HN.out) bn HF.out).mono fun _ _ h => h.gives
  have IM : Hid (∀ (g h : Nat) (W : World), Below w.heap.size w W → Bk W g 5 (l.map bv) → Bk W h 25 (fl R) → Calls Tryz.prog 17 #[.slice (some ⟨g, 0, none⟩) n n, .slice (some ⟨h, 0, none⟩) n' n'] W (Gives W (puts l R))) :=
    fun g h W hW hb hr => (PutsP.impl _ _ n n n' n' l R W (HE.out.below hW) (HL.out ▸ (hb.sl.wider hb.lt)) (fun h => by cases h) (by omega) (bk_sr0 hr HN.out) bn HF.out).mono fun _ _ h => h.gives
  have TB : Hid (∀ W : World, Below w.heap.size w W → Calls Tryz.prog 22 #[.slice A n c] W fun e w' => ∃ g, e = .returned (.slice (some ⟨g, 0, none⟩) n n) ∧ Bk w' g 5 (l.map bv) ∧ W.heap.size ≤ g ∧ Below W.heap.size W w') :=
    fun W hW => (toByteS_any A n c l W ((HS.out.below hW).wider hW.size) (by omega)).mono fun e w' ⟨h1, h2, h3⟩ => ⟨_, h1, h2, Nat.le_refl _, h3⟩
  have TR : Hid (∀ W : World, Below w.heap.size w W → Calls Tryz.prog 23 #[.slice A' n' c'] W fun e w' => ∃ g, e = .returned (.slice (some ⟨g, 0, none⟩) n' n') ∧ Bk w' g 25 (fl R) ∧ W.heap.size ≤ g ∧ Below W.heap.size W w') :=
    fun W hW => (toRecordS_any A' n' c' R W ((S0.out.below hW).wider hW.size) (by omega)).mono fun e w' ⟨h1, h2, h3⟩ => ⟨_, h1, h2, Nat.le_refl _, h3⟩
  generalize puts l R = L at *
  have hk0 : ¬ ((1 + n : Nat) : Int) + 6 * (n' : Int) < 0 := by omega
  go_wp2_with fail
  refine (TB.out w1 L1.out).mono ?_
  rintro e w2 ⟨gb, rfl, hb, hg, hl⟩
  have B2 := Lib.hid hb
  have L2 := Lib.hid (L1.out.trans (hl.mono L1.out.size))
  clear hl L1 hb hg
  go_wp2_with fail
  refine (TR.out w2 L2.out).mono ?_
  rintro e w3 ⟨gv, rfl, hb, hg, hl⟩
  have V3 := Lib.hid hb
  have L3 := Lib.hid (L2.out.trans (hl.mono L2.out.size))
  have B3 := Lib.hid (B2.out.below hl B2.out.lt)
  clear hl L2 B2 hb hg
  go_wp2_with fail
  refine (SP.out _ _ w3 B3.out V3.out).mono ?_
  rintro e w4 ⟨gw, mw, cw, rw, rfl, hm, hcw, hg, hb, hl⟩
  have hmw : mw ≤ 190000000 := by have := HLL.out; omega
  have MW := Lib.hid hm
  have W4 := Lib.hid hb
  have L4 := Lib.hid (L3.out.trans (hl.mono L3.out.size))
  clear hl L3 B3 V3 hm hg hb
  go_wp2_with fail
  refine (TB.out w4 L4.out).mono ?_
  rintro e w5 ⟨gx, rfl, hb, hg, hl⟩
  have X5 := Lib.hid hb
  have NWX := Lib.hid (show gw ≠ gx from fun e => by have := W4.out.lt; omega)
  have GX := Lib.hid (Nat.le_trans L4.out.size hg)
  have L5 := Lib.hid (L4.out.trans (hl.mono L4.out.size))
  have W5 := Lib.hid (W4.out.below hl W4.out.lt)
  clear hl L4 W4 hb hg
  go_wp2_with fail
  refine (TR.out w5 L5.out).mono ?_
  rintro e w6 ⟨gy, rfl, hb, hg, hl⟩
  have Y6 := Lib.hid hb
  have NWY := Lib.hid (show gw ≠ gy from fun e => by have := W5.out.lt; omega)
  have NXY := Lib.hid (show gx ≠ gy from fun e => by have := X5.out.lt; omega)
  have GY := Lib.hid (Nat.le_trans L5.out.size hg)
  have L6 := Lib.hid (L5.out.trans (hl.mono L5.out.size))
  have W6 := Lib.hid (W5.out.below hl W5.out.lt)
  have X6 := Lib.hid (X5.out.below hl X5.out.lt)
  clear hl L5 W5 X5 hb hg
  go_wp2_with fail
  refine (IM.out _ _ w6 L6.out X6.out Y6.out).mono ?_
  rintro e w7 ⟨gg, mg, cg, rg, rfl, hm, hcg, hg, hb, hl⟩
  have hmg : mg ≤ 190000000 := by have := HLL.out; omega
  have MG := Lib.hid hm
  have G7 := Lib.hid hb
  have NWG := Lib.hid (show gw ≠ gg from fun e => by have := W6.out.lt; omega)
  have NXG := Lib.hid (show gx ≠ gg from fun e => by have := X6.out.lt; omega)
  have NYG := Lib.hid (show gy ≠ gg from fun e => by have := Y6.out.lt; omega)
  have GG := Lib.hid (Nat.le_trans L6.out.size hg)
  have L7 := Lib.hid (L6.out.trans (hl.mono L6.out.size))
  have W7 := Lib.hid (W6.out.below hl W6.out.lt)
  have X7 := Lib.hid (X6.out.below hl X6.out.lt)
  have Y7 := Lib.hid (Y6.out.below hl Y6.out.lt)
  clear hl L6 W6 X6 Y6 hm hg hb
  go_wp2_with fail
  refine (eqByteS_same _ _ mg cg mw cw L w7 (MG.out ▸ (G7.out.sl'.wider G7.out.lt)) (MW.out ▸ (W7.out.sl'.wider W7.out.lt)) (by omega) (by omega)).mono ?_
  rintro e w8 ⟨rfl, hl⟩
  have L8 := Lib.hid (L7.out.trans (hl.mono L7.out.size))
  have W8 := Lib.hid (W7.out.below hl W7.out.lt)
  have X8 := Lib.hid (X7.out.below hl X7.out.lt)
  have Y8 := Lib.hid (Y7.out.below hl Y7.out.lt)
  have G8 := Lib.hid (G7.out.below hl G7.out.lt)
  clear hl L7 W7 X7 Y7 G7 
  go_wp2_with fail
  refine (TB.out w8 L8.out).mono ?_
  rintro e w9 ⟨gt, rfl, hb, hg, hl⟩
  have T9 := Lib.hid hb
  have L9 := Lib.hid (L8.out.trans (hl.mono L8.out.size))
  have W9 := Lib.hid (W8.out.below hl W8.out.lt)
  have X9 := Lib.hid (X8.out.below hl X8.out.lt)
  have Y9 := Lib.hid (Y8.out.below hl Y8.out.lt)
  have G9 := Lib.hid (G8.out.below hl G8.out.lt)
  clear hl L8 W8 X8 Y8 G8 hb hg
  go_wp2_with fail
  refine (eqByteS_same _ _ n n n n l w9 (HL.out ▸ (X9.out.sl.wider X9.out.lt)) (HL.out ▸ (T9.out.sl.wider T9.out.lt)) (by omega) (by omega)).mono ?_
  rintro e w10 ⟨rfl, hl⟩
  have L10 := Lib.hid (L9.out.trans (hl.mono L9.out.size))
  have W10 := Lib.hid (W9.out.below hl W9.out.lt)
  have X10 := Lib.hid (X9.out.below hl X9.out.lt)
  have Y10 := Lib.hid (Y9.out.below hl Y9.out.lt)
  have G10 := Lib.hid (G9.out.below hl G9.out.lt)
  clear hl L9 W9 X9 Y9 G9 T9 
  go_wp2_with fail
  refine (TR.out w10 L10.out).mono ?_
  rintro e w11 ⟨gu, rfl, hb, hg, hl⟩
  have U11 := Lib.hid hb
  have L11 := Lib.hid (L10.out.trans (hl.mono L10.out.size))
  have W11 := Lib.hid (W10.out.below hl W10.out.lt)
  have X11 := Lib.hid (X10.out.below hl X10.out.lt)
  have Y11 := Lib.hid (Y10.out.below hl Y10.out.lt)
  have G11 := Lib.hid (G10.out.below hl G10.out.lt)
  clear hl L10 W10 X10 Y10 G10 hb hg
  go_wp2_with fail
  refine (eqRecordS_same _ _ n' n' n' R w11 (bk_sr0 Y11.out HN.out) (bk_sr0 U11.out HN.out) (by omega)).mono ?_
  rintro e w12 ⟨rfl, hl⟩
  have L12 := Lib.hid (L11.out.trans (hl.mono L11.out.size))
  have W12 := Lib.hid (W11.out.below hl W11.out.lt)
  have X12 := Lib.hid (X11.out.below hl X11.out.lt)
  have Y12 := Lib.hid (Y11.out.below hl Y11.out.lt)
  have G12 := Lib.hid (G11.out.below hl G11.out.lt)
  clear hl L11 W11 X11 Y11 G11 U11 
  go_wp2_with fail
  refine (markByteS_one gx n n l [] w12 (by rw [List.append_nil]; exact X12.out) HL.out (by omega)).mono ?_
  rintro e w13 ⟨rfl, _, gr⟩
  have L13 := Lib.hid (L12.out.grown gr L12.out.size (fun j hj => by cases hj; exact GX.out))
  have W13 := Lib.hid (W12.out.grown gr (fun e => NWX.out (Option.some.inj e)))
  have Y13 := Lib.hid (Y12.out.grown gr (fun e => NXY.out (Option.some.inj e).symm))
  have G13 := Lib.hid (G12.out.grown gr (fun e => NXG.out (Option.some.inj e).symm))
  clear gr L12 W12 X12 Y12 G12 
  go_wp2_with fail
  refine (MarkR2.markRecordS_from gy n' n' (1 + n) R [] w13 (by rw [List.append_nil]; exact Y13.out) HN.out (by omega) (by omega) (by omega)).mono ?_
  rintro e w14 ⟨rfl, gr⟩
  have L14 := Lib.hid (L13.out.grown gr L13.out.size (fun j hj => by cases hj; exact GY.out))
  have W14 := Lib.hid (W13.out.grown gr (fun e => NWY.out (Option.some.inj e)))
  have G14 := Lib.hid (G13.out.grown gr (fun e => NYG.out (Option.some.inj e).symm))
  clear gr L13 W13 Y13 G13 
  go_wp2_with fail
  refine (eqByteS_same _ _ mg cg mw cw L w14 (MG.out ▸ (G14.out.sl'.wider G14.out.lt)) (MW.out ▸ (W14.out.sl'.wider W14.out.lt)) (by omega) (by omega)).mono ?_
  rintro e w15 ⟨rfl, hl⟩
  have L15 := Lib.hid (L14.out.trans (hl.mono L14.out.size))
  have W15 := Lib.hid (W14.out.below hl W14.out.lt)
  have G15 := Lib.hid (G14.out.below hl G14.out.lt)
  clear hl L14 W14 G14 
  go_wp2_with fail
  refine (markByteS_one gg mg cg L rg w15 G15.out MG.out (by omega)).mono ?_
  rintro e w16 ⟨rfl, mm, gr⟩
  have M16 := Lib.hid mm
  have L16 := Lib.hid (L15.out.grown gr L15.out.size (fun j hj => by cases hj; exact GG.out))
  have W16 := Lib.hid (W15.out.grown gr (fun e => NWG.out (Option.some.inj e)))
  clear gr L15 W15 G15 mm
  go_wp2_with fail
  refine (heldByteS_one gg mg cg rg w16 M16.out (by omega)).mono ?_
  rintro e w17 ⟨rfl, rfl⟩
  go_wp2_with fail
  refine (TB.out w16 L16.out).mono ?_
  rintro e w17 ⟨gp, rfl, hb, hg, hl⟩
  have P17 := Lib.hid hb
  have L17 := Lib.hid (L16.out.trans (hl.mono L16.out.size))
  have W17 := Lib.hid (W16.out.below hl W16.out.lt)
  have M17 := Lib.hid (M16.out.below hl M16.out.lt)
  clear hl L16 W16 M16 hb hg
  go_wp2_with fail
  refine (TR.out w17 L17.out).mono ?_
  rintro e w18 ⟨gq, rfl, hb, hg, hl⟩
  have Q18 := Lib.hid hb
  have L18 := Lib.hid (L17.out.trans (hl.mono L17.out.size))
  have W18 := Lib.hid (W17.out.below hl W17.out.lt)
  have M18 := Lib.hid (M17.out.below hl M17.out.lt)
  have P18 := Lib.hid (P17.out.below hl P17.out.lt)
  clear hl L17 W17 M17 P17 hb hg
  go_wp2_with fail
  refine (IM.out _ _ w18 L18.out P18.out Q18.out).mono ?_
  rintro e w19 ⟨gh, mh, ch, rh, rfl, hm, hch, hg, hb, hl⟩
  have hmh : mh ≤ 190000000 := by have := HLL.out; omega
  have MH := Lib.hid hm
  have H19 := Lib.hid hb
  have L19 := Lib.hid (L18.out.trans (hl.mono L18.out.size))
  have W19 := Lib.hid (W18.out.below hl W18.out.lt)
  have M19 := Lib.hid (M18.out.below hl M18.out.lt)
  clear hl L18 W18 M18 P18 Q18 hm hg hb
  go_wp2_with fail
  refine (eqByteS_same _ _ mh ch mw cw L w19 (MH.out ▸ (H19.out.sl'.wider H19.out.lt)) (MW.out ▸ (W19.out.sl'.wider W19.out.lt)) (by omega) (by omega)).mono ?_
  rintro e w20 ⟨rfl, hl⟩
  have L20 := Lib.hid (L19.out.trans (hl.mono L19.out.size))
  have M20 := Lib.hid (M19.out.below hl M19.out.lt)
  clear hl L19 W19 M19 H19 
  go_wp2_with fail
  refine (heldByteS_one gg mg cg rg w20 M20.out (by omega)).mono ?_
  rintro e w21 ⟨rfl, rfl⟩
  go_wp2
  go_ret
  exact ⟨rfl, L20.out⟩
end Go.Proofs.YtcpadkehalgddaaGreatDoor.LawPutRecords

/- What the world's shape gives the walks of this seat, and one world in which the listed tables of unicode/utf8 read as their text lays them. -/
namespace Go.Proofs.YtcpadkehalgddaaGreatDoor.LaidU
open Go.RowKit Go.Proofs.YtcpadkehalgddaaGreatDoor.Labels

theorem env {W : World} (h : W.ShapedOpen Tryz.prog) : Env W := Tryz.laysM146.s1_3 W h

def acc : List Int := [128, 191, 160, 191, 128, 159, 144, 191, 128, 143, 0, 0, 0, 0, 0, 0, 0, 0, 0, 0, 0, 0, 0, 0, 0, 0, 0, 0, 0, 0, 0, 0]
theorem gFirst : Tryz.prog.globalNamed "unicode/utf8.first" = some 1 := by kernel_rfl
theorem gAcc : Tryz.prog.globalNamed "unicode/utf8.acceptRanges" = some 2 := by kernel_rfl
/-- A block of cells, with other cells in it. -/
def put (cs : Array Value) : Obj → Obj
  | .cells _ t frozen => .cells cs t frozen
  | o => o
/-- The settled world, the two tables holding what their text lays. -/
noncomputable def laidWorld (os : Os) : World :=
  { World.holding Tryz.prog os ⟨#[], #[], []⟩ with heap := ((World.holding Tryz.prog os ⟨#[], #[], []⟩).heap.modify 1 (put (Go.Pinned.utf8FirstZ.map (fun n : Nat => Value.int .u8 (n : Int))).toArray)).modify 2 (put (acc.map (Value.int .u8)).toArray) }
def two : List (String × DataW Unit) := [("unicode/utf8.acceptRanges", Rows.laid_unicode_utf8_acceptRanges), ("unicode/utf8.first", Rows.laid_unicode_utf8_first)]
theorem laid_met (os : Os) (args : Array Value) : laidMet Tryz.prog two ((laidWorld os).forCall (fun _ _ => 0) ⟨#[], args, []⟩).memory :=
  laidMet_of_run' 8 (by kernel_rfl) (by kernel_rfl)
end Go.Proofs.YtcpadkehalgddaaGreatDoor.LaidU
