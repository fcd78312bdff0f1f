/- What the law's own helpers eqRecord and eqRecordS do on records that are the same: they return true and turn nothing. Condition: fewer than 400000001 records. -/
import Derived.Test.YtmkcjjgicinggaaGreatDoorMemR
import Derived.Lib.QuietBelow
namespace Go.Proofs.YtmkcjjgicinggaaGreatDoor.EqR
open Go.RowKit Go.Proofs.YtmkcjjgicinggaaGreatDoor.Mem Go.Proofs.YtmkcjjgicinggaaGreatDoor.MemR

set_option maxHeartbeats 1000000 in
theorem eqRecord_same (r : Rec) (w : World) : Calls Tryz.prog 149 #[.agg #[.string r.name, .int .i64 r.ty, .int .i64 r.ttl, .int .i64 r.n, .string r.host, .string r.text], .agg #[.string r.name, .int .i64 r.ty, .int .i64 r.ttl, .int .i64 r.n, .string r.host, .string r.text]] w fun e w' => e = .returned (.bool true) ∧ Below w.heap.size w w' := by
  obtain ⟨name, ty, ttl, n, host, text⟩ := r
  simp only
  go_enter Tryz.func149, Tryz.ntmps149
  go_wp2
  go_ret
  exact ⟨rfl, ((Below.refl _ _).alloc (Nat.le_refl _) _).alloc (by simp) _⟩

set_option maxHeartbeats 1000000 in
theorem eqRecordS_wide (A A' : Option Addr) (n c c' : Nat) (l : List Rec) (w : World) (hs : Sr w w.heap.size A n l) (hs' : Sr w w.heap.size A' n l) (hn : n ≤ 1100000000000) :
    Calls Tryz.prog 100 #[.slice A n c, .slice A' n c'] w fun e w' => e = .returned (.bool true) ∧ Below w.heap.size w w' := by
  have mixed : Tryz.prog.follows .mixedOrders = true := by kernel_rfl
  have hd : ((n : Int) != (n : Int)) = false := by simp
  have HS := Lib.hid hs
  have HT := Lib.hid hs'
  clear hs hs'
  go_enter Tryz.func100, Tryz.ntmps100
  go_wp2
  go_loopw [5] (fun i wr => ∃ k : Nat, k ≤ n ∧ i = .int .i64 k ∧ Hid (Below w.heap.size w wr)) (fun i _ => n - (intOf i).toNat)
  case atStart => exact ⟨0, Nat.zero_le _, rfl, Below.refl _ _⟩
  case round =>
    obtain ⟨k, hk, rfl, HL⟩ := hrel
    by_cases hlt : k < n
    · obtain ⟨b, off, rfl, hbB, hcs⟩ := HS.out.2 (by omega)
      obtain ⟨b', off', rfl, hbB', hcs'⟩ := HT.out.2 (by omega)
      have hkl : k < l.length := by rw [HS.out.1]; exact hlt
      have E := (hcs k hkl).below HL.out hbB
      have E' := (hcs' k hkl).below HL.out hbB'
      clear hcs hcs'
      generalize l[k] = r at *
      have x0 : ∀ d os, (Sort.grow (redrawn wr d) os).cell? _ = some _ := cell_regrown E.1
      have x1 : ∀ d os, (Sort.grow (redrawn wr d) os).cell? _ = some _ := cell_regrown E.2.1
      have x2 : ∀ d os, (Sort.grow (redrawn wr d) os).cell? _ = some _ := cell_regrown E.2.2.1
      have x3 : ∀ d os, (Sort.grow (redrawn wr d) os).cell? _ = some _ := cell_regrown E.2.2.2.1
      have x4 : ∀ d os, (Sort.grow (redrawn wr d) os).cell? _ = some _ := cell_regrown E.2.2.2.2.1
      have x5 : ∀ d os, (Sort.grow (redrawn wr d) os).cell? _ = some _ := cell_regrown E.2.2.2.2.2
      have y0 : ∀ d os, (Sort.grow (redrawn wr d) os).cell? _ = some _ := cell_regrown E'.1
      have y1 : ∀ d os, (Sort.grow (redrawn wr d) os).cell? _ = some _ := cell_regrown E'.2.1
      have y2 : ∀ d os, (Sort.grow (redrawn wr d) os).cell? _ = some _ := cell_regrown E'.2.2.1
      have y3 : ∀ d os, (Sort.grow (redrawn wr d) os).cell? _ = some _ := cell_regrown E'.2.2.2.1
      have y4 : ∀ d os, (Sort.grow (redrawn wr d) os).cell? _ = some _ := cell_regrown E'.2.2.2.2.1
      have y5 : ∀ d os, (Sort.grow (redrawn wr d) os).cell? _ = some _ := cell_regrown E'.2.2.2.2.2
      clear E E'
      go_wp2_with fail
      refine wp_region_quiet_below (by assumption) (by kernel_rfl) ?_
      repeat (quiet_step (first | (go_at_call 149; exact Calls.regrown_of (eqRecord_same _ _))))
      refine wpQuiet_nil ?_
      intro w2 hw2
      have L2 := Lib.hid (HL.out.trans ((show Below wr.heap.size wr w2 by obtain ⟨p, rfl⟩ := hw2; exact below_regrown _ _ _).mono HL.out.size))
      clear hw2 x0 x1 x2 x3 x4 x5 y0 y1 y2 y3 y4 y5
      go_wp2
      go_roundw
      case rel => exact ⟨k + 1, by omega, by go_num, L2.out⟩
      case measure => simp [intOf]; omega
    · go_wp2
      go_ret
      exact ⟨rfl, HL.out⟩

theorem eqRecordS_same (A A' : Option Addr) (n c c' : Nat) (l : List Rec) (w : World) (hs : Sr w w.heap.size A n l) (hs' : Sr w w.heap.size A' n l) (hn : n ≤ 400000000) :
    Calls Tryz.prog 100 #[.slice A n c, .slice A' n c'] w fun e w' => e = .returned (.bool true) ∧ Below w.heap.size w w' :=
  eqRecordS_wide A A' n c c' l w hs hs' (by omega)
end Go.Proofs.YtmkcjjgicinggaaGreatDoor.EqR
