/- What the law's own helpers szRecord and szRecordS do: they return a number that is not negative only where the records and the bytes of their texts are at most the given number together. -/
import Derived.Test.YtmkcjjgicinggaaGreatDoorMemR
namespace Go.Proofs.YtmkcjjgicinggaaGreatDoor.SzR
open Go.RowKit Go.Proofs.YtmkcjjgicinggaaGreatDoor.Mem Go.Proofs.YtmkcjjgicinggaaGreatDoor.MemR

/-- A number is returned that is not above x; where it is not negative it is x less z. Nothing that was there is turned. -/
def Sz (x : Int) (z : Nat) (w : World) (e : Ending) (w' : World) : Prop := ∃ y : Int, e = .returned (.int .i64 y) ∧ -1 ≤ y ∧ y ≤ x ∧ (0 ≤ y → y = x - (z : Int)) ∧ Below w.heap.size w w'

set_option maxHeartbeats 1000000 in
theorem szRecord_any (r : Rec) (x : Int) (w : World) (h0 : 0 ≤ x) (h1 : x ≤ 1048576) (hz : r.name.size ≤ 9223372036854775807 ∧ r.host.size ≤ 9223372036854775807 ∧ r.text.size ≤ 9223372036854775807) :
    Calls Tryz.prog 147 #[.agg #[.string r.name, .int .i64 r.ty, .int .i64 r.ttl, .int .i64 r.n, .string r.host, .string r.text], .int .i64 x] w (Sz x (rz r) w) := by
  obtain ⟨hz1, hz2, hz3⟩ := hz
  have HR : Hid (rz r = r.name.size + r.host.size + r.text.size) := rfl
  obtain ⟨name, ty, ttl, n, host, text⟩ := r
  simp only at hz1 hz2 hz3 HR ⊢
  by_cases c1 : x - (name.size : Int) < 0
  · go_enter Tryz.func147, Tryz.ntmps147
    go_wp2
    go_ret
    exact ⟨-1, rfl, by omega, by omega, fun h => by omega, (Below.refl _ _).alloc (Nat.le_refl _) _⟩
  · by_cases c2 : x - (name.size : Int) - (host.size : Int) < 0
    · go_enter Tryz.func147, Tryz.ntmps147
      go_wp2
      go_ret
      exact ⟨-1, rfl, by omega, by omega, fun h => by omega, (Below.refl _ _).alloc (Nat.le_refl _) _⟩
    · by_cases c3 : x - (name.size : Int) - (host.size : Int) - (text.size : Int) < 0
      · go_enter Tryz.func147, Tryz.ntmps147
        go_wp2
        go_ret
        exact ⟨-1, rfl, by omega, by omega, fun h => by omega, (Below.refl _ _).alloc (Nat.le_refl _) _⟩
      · go_enter Tryz.func147, Tryz.ntmps147
        go_wp2
        go_ret
        exact ⟨_, rfl, by omega, by omega, fun h => by rw [HR.out]; omega, (Below.refl _ _).alloc (Nat.le_refl _) _⟩

set_option maxHeartbeats 1000000 in
theorem szRecordS_any (A : Option Addr) (n c : Nat) (l : List Rec) (x : Int) (w : World) (hs : Sr w w.heap.size A n l) (h0 : 0 ≤ x) (h1 : x ≤ 1048576) (hn : n ≤ 9223372036854775807) (hz : ∀ r ∈ l, r.name.size ≤ 9223372036854775807 ∧ r.host.size ≤ 9223372036854775807 ∧ r.text.size ≤ 9223372036854775807) :
    Calls Tryz.prog 96 #[.slice A n c, .int .i64 x] w (Sz x (l.length + tot l) w) := by
  have HS := Lib.hid hs
  have HZ := Lib.hid hz
  clear hz hs
  by_cases hbig : (n : Int) ≤ x
  · go_enter Tryz.func96, Tryz.ntmps96
    go_wp2
    go_loopw [1, 5] (fun r i wr => ∃ (k : Nat) (y : Int), k ≤ n ∧ i = .int .i64 k ∧ r = .int .i64 y ∧ 0 ≤ y ∧ y ≤ x ∧ Hid (y = x - (n : Int) - (tot (l.take k) : Int)) ∧ Hid (Below w.heap.size w wr)) (fun _ i _ => n - (intOf i).toNat)
    case atStart => exact ⟨0, x - (n : Int), Nat.zero_le _, rfl, rfl, by omega, by omega, by show _ = _; simp [tot], Below.refl _ _⟩
    case round =>
      obtain ⟨k, y, hk, rfl, rfl, hy0, hy1, HX, HB⟩ := hrel
      by_cases hlt : k < n
      · obtain ⟨b, off, rfl, hbB, hcs⟩ := HS.out.2 (by omega)
        have hkl : k < l.length := by rw [HS.out.1]; exact hlt
        have HR := Lib.hid (HZ.out l[k] (List.getElem_mem hkl))
        have HT := Lib.hid (tot_step l k hkl)
        obtain ⟨e0, e1, e2, e3, e4, e5⟩ := (hcs k hkl).below HB.out hbB
        clear hcs
        generalize l[k] = r at *
        go_wp2_with fail
        refine (szRecord_any r y wr hy0 (by omega) HR.out).mono ?_
        rintro e w1 ⟨z, rfl, hz0, hz1, hz, hl⟩
        have HY := Lib.hid hz
        have HL := Lib.hid (HB.out.trans (hl.mono HB.out.size))
        clear hz hl e0 e1 e2 e3 e4 e5
        by_cases hneg : z < 0
        · go_wp2
          go_ret
          exact ⟨-1, rfl, by omega, by omega, fun h => by omega, HL.out⟩
        · go_wp2
          go_roundw
          case rel => exact ⟨k + 1, z, by omega, by go_num, rfl, by omega, by omega, by show _ = _; rw [HT.out, HY.out (by omega), HX.out]; omega, HL.out⟩
          case measure => simp [intOf]; omega
      · go_wp2
        go_ret
        refine ⟨y, rfl, by omega, by omega, fun _ => ?_, HB.out⟩
        have h1 := HX.out
        rw [List.take_of_length_le (by rw [HS.out.1]; omega)] at h1
        rw [HS.out.1]
        omega
  · go_enter Tryz.func96, Tryz.ntmps96
    go_wp2
    go_ret
    exact ⟨-1, rfl, by omega, by omega, fun h => by omega, Below.refl _ _⟩

end Go.Proofs.YtmkcjjgicinggaaGreatDoor.SzR
