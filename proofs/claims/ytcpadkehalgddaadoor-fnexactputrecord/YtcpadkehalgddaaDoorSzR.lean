/- What the law's own helpers szRecord and szRecordS do: they return a number that is not negative only where the records and the bytes of their texts are at most the given number together. -/
import Derived.Test.YtcpadkehalgddaaDoorMemR
namespace Go.Proofs.YtcpadkehalgddaaDoor.SzR
open Go.RowKit Go.Proofs.YtcpadkehalgddaaDoor.Mem Go.Proofs.YtcpadkehalgddaaDoor.MemR

/-- A number is returned that is not above x; where it is not negative it is x less z. Nothing that was there is turned. -/
def Sz (x : Int) (z : Nat) (w : World) (e : Ending) (w' : World) : Prop := ∃ y : Int, e = .returned (.int .i64 y) ∧ -1 ≤ y ∧ y ≤ x ∧ (0 ≤ y → y = x - (z : Int)) ∧ Below w.heap.size w w'

set_option maxHeartbeats 1000000 in
theorem szRecord_any (r : Rec) (x : Int) (w : World) (h0 : 0 ≤ x) (h1 : x ≤ 1048576) (hz : r.name.size ≤ 9223372036854775807 ∧ r.host.size ≤ 9223372036854775807 ∧ r.text.size ≤ 9223372036854775807) :
    Calls Tryd.prog 24 #[.agg #[.string r.name, .int .i64 r.ty, .int .i64 r.ttl, .int .i64 r.n, .string r.host, .string r.text], .int .i64 x] w (Sz x (rz r) w) := by
  obtain ⟨hz1, hz2, hz3⟩ := hz
  have HR : Hid (rz r = r.name.size + r.host.size + r.text.size) := rfl
  obtain ⟨name, ty, ttl, n, host, text⟩ := r
  simp only at hz1 hz2 hz3 HR ⊢
  by_cases c1 : x - (name.size : Int) < 0
  · go_enter Tryd.func24, Tryd.ntmps24
    go_wp2
    go_ret
    exact ⟨-1, rfl, by omega, by omega, fun h => by omega, (Below.refl _ _).alloc (Nat.le_refl _) _⟩
  · by_cases c2 : x - (name.size : Int) - (host.size : Int) < 0
    · go_enter Tryd.func24, Tryd.ntmps24
      go_wp2
      go_ret
      exact ⟨-1, rfl, by omega, by omega, fun h => by omega, (Below.refl _ _).alloc (Nat.le_refl _) _⟩
    · by_cases c3 : x - (name.size : Int) - (host.size : Int) - (text.size : Int) < 0
      · go_enter Tryd.func24, Tryd.ntmps24
        go_wp2
        go_ret
        exact ⟨-1, rfl, by omega, by omega, fun h => by omega, (Below.refl _ _).alloc (Nat.le_refl _) _⟩
      · go_enter Tryd.func24, Tryd.ntmps24
        go_wp2
        go_ret
        exact ⟨_, rfl, by omega, by omega, fun h => by rw [HR.out]; omega, (Below.refl _ _).alloc (Nat.le_refl _) _⟩

end Go.Proofs.YtcpadkehalgddaaDoor.SzR
