/- What the law's own helpers toRecord and toRecordS do: the same record; a new slice with the same records. Condition: fewer than 400000001 records. -/
import Derived.Test.YtmkcjjgicinggaaGreatDoorMemR
namespace Go.Proofs.YtmkcjjgicinggaaGreatDoor.CopyR
open Go.RowKit Go.Proofs.YtmkcjjgicinggaaGreatDoor.Mem Go.Proofs.YtmkcjjgicinggaaGreatDoor.MemR

theorem info : (Tryz.prog.info? 93).map (fun i => (i.zero, i.size, i.bytes)) = some (some (.agg #[.string ⟨#[]⟩, .int .i64 0, .int .i64 0, .int .i64 0, .string ⟨#[]⟩, .string ⟨#[]⟩]), 6, 72) := by kernel_rfl

set_option maxHeartbeats 1000000 in
theorem toRecord_any (r : Rec) (w : World) : Calls Tryz.prog 148 #[.agg #[.string r.name, .int .i64 r.ty, .int .i64 r.ttl, .int .i64 r.n, .string r.host, .string r.text]] w fun e w' => e = .returned (.agg #[.string r.name, .int .i64 r.ty, .int .i64 r.ttl, .int .i64 r.n, .string r.host, .string r.text]) ∧ Below w.heap.size w w' := by
  go_enter Tryz.func148, Tryz.ntmps148
  go_wp2
  refine bodyPost_ret (v := .agg #[.string r.name, .int .i64 r.ty, .int .i64 r.ttl, .int .i64 r.n, .string r.host, .string r.text]) (by simp [results, Tryz.results148, go_sem]) rfl ⟨rfl, ?_⟩
  repeat (first | exact Below.refl _ _ | refine Below.setCell ?_ (by simp; try omega) _ | refine Below.alloc ?_ (by simp; try omega) _)

theorem step_list (l : List Rec) (k n : Nat) (hn : l.length = n) (hk : k < n) (h : k < l.length) : (l.take k ++ List.replicate (n - k) zr).set k l[k] = l.take (k + 1) ++ List.replicate (n - (k + 1)) zr := by
  rw [List.set_append_right _ _ (by simp; omega)]
  have h1 : k - (l.take k).length = 0 := by simp; omega
  rw [h1, show n - k = (n - (k + 1)) + 1 by omega, List.replicate_succ, List.set_cons_zero, List.take_succ_eq_append_getElem h, List.append_assoc]
  rfl

set_option maxHeartbeats 1000000 in
theorem toRecordS_any (A : Option Addr) (n c : Nat) (l : List Rec) (w : World) (hs : Sr w w.heap.size A n l) (hn : n ≤ 400000000) :
    Calls Tryz.prog 98 #[.slice A n c] w fun e w' => e = .returned (.slice (some ⟨w.heap.size, 0, none⟩) n n) ∧ Bk w' w.heap.size 93 (fl l) ∧ Below w.heap.size w w' := by
  obtain ⟨i0, hi, hz0, hz1, hz2⟩ := info_parts info
  have HS := Lib.hid hs
  clear hs
  go_enter Tryz.func98, Tryz.ntmps98
  go_wp2_with (at_make; refine wpList_make_full _ rfl _ _ 35 rfl w.heap.size 93 i0 _ 6 Tryz.underlying35 hi hz0 hz1 .i64 .i64 _ _ n rfl rfl ?c0 ?c1 ?c2 ?c3 ?c4 ?_)
  case c0 => rfl
  case c1 => rfl
  case c2 => rw [hz2]; omega
  case c3 => unfold maxLen; omega
  case c4 => exact Nat.le_refl _
  intro w1 hown hgrow
  obtain ⟨r, hb0, hlen0, _, _⟩ := bk_of_owns6 hown
  rw [made_fl] at hb0 hlen0
  have hr : r = [] := by
    have : (fl (List.replicate n zr)).length + r.length = n * 6 := by rw [← List.length_append]; exact hlen0
    rw [fl_len] at this
    simp at this; exact this
  subst hr
  rw [List.append_nil] at hb0
  have HL0 := Lib.hid ((Below.refl w.heap.size w).grown hgrow (Nat.le_refl _) (fun k hk => by cases hk))
  have HB0 := Lib.hid hb0
  clear hb0 hown hgrow hlen0
  go_wp2
  go_loopw [4] (fun i wr => ∃ k : Nat, k ≤ n ∧ i = .int .i64 k ∧ Hid (Bk wr w.heap.size 93 (fl (l.take k ++ List.replicate (n - k) zr))) ∧ Hid (Below w.heap.size w wr)) (fun i _ => n - (intOf i).toNat)
  case atStart => exact ⟨0, Nat.zero_le _, rfl, by simpa [Hid] using HB0.out, HL0.out⟩
  case round =>
    clear HB0 HL0
    obtain ⟨k, hk, rfl, HB, HL⟩ := hrel
    by_cases hlt : k < n
    · obtain ⟨b, off, rfl, hbB, hcs⟩ := HS.out.2 (by omega)
      have hkl : k < l.length := by rw [HS.out.1]; exact hlt
      obtain ⟨e0, e1, e2, e3, e4, e5⟩ := (hcs k hkl).below HL.out hbB
      have HK := Lib.hid (step_list l k n HS.out.1 hlt hkl)
      clear hcs
      generalize l[k] = r at *
      go_wp2_with fail
      refine (toRecord_any r wr).mono ?_
      rintro e w2 ⟨rfl, hl⟩
      have hkk : k < (l.take k ++ List.replicate (n - k) zr).length := by simp; omega
      have B2 := Lib.hid (HB.out.below hl HB.out.lt)
      have L2 := Lib.hid (HL.out.trans (hl.mono HL.out.size))
      clear hl e0 e1 e2 e3 e4 e5 HB HL
      have z : ∀ j, j < n * 6 → (w2.cell? ⟨w.heap.size, j, none⟩).isSome = true := fun j hj => by
        rw [B2.out.cell, List.getElem?_eq_getElem (by rw [fl_len]; simp; have := HS.out.1; omega)]; rfl
      obtain ⟨u0, z0⟩ := Option.isSome_iff_exists.1 (z (k * 6) (by omega))
      obtain ⟨u1, z1⟩ := Option.isSome_iff_exists.1 (z (k * 6 + 1) (by omega))
      obtain ⟨u2, z2⟩ := Option.isSome_iff_exists.1 (z (k * 6 + 2) (by omega))
      obtain ⟨u3, z3⟩ := Option.isSome_iff_exists.1 (z (k * 6 + 3) (by omega))
      obtain ⟨u4, z4⟩ := Option.isSome_iff_exists.1 (z (k * 6 + 4) (by omega))
      obtain ⟨u5, z5⟩ := Option.isSome_iff_exists.1 (z (k * 6 + 5) (by omega))
      have f0 := B2.out.free (k * 6)
      have f1 := B2.out.free (k * 6 + 1)
      have f2 := B2.out.free (k * 6 + 2)
      have f3 := B2.out.free (k * 6 + 3)
      have f4 := B2.out.free (k * 6 + 4)
      have f5 := B2.out.free (k * 6 + 5)
      clear z
      go_wp2
      go_roundw
      case rel =>
        refine ⟨k + 1, by omega, by go_num, ?_, ?_⟩
        · show Bk _ _ _ _
          have h6 := (((((B2.out.set (k * 6) (.string r.name)).set (k * 6 + 1) (.int .i64 r.ty)).set (k * 6 + 2) (.int .i64 r.ttl)).set (k * 6 + 3) (.int .i64 r.n)).set (k * 6 + 4) (.string r.host)).set (k * 6 + 5) (.string r.text)
          rw [fl_put _ k r hkk, HK.out] at h6
          exact h6
        · show Below _ _ _
          exact (((((L2.out.setCell (Nat.le_refl _) _).setCell (Nat.le_refl _) _).setCell (Nat.le_refl _) _).setCell (Nat.le_refl _) _).setCell (Nat.le_refl _) _).setCell (Nat.le_refl _) _
      case measure => simp [intOf]; omega
    · have hkn : k = n := by omega
      subst hkn
      go_wp2
      go_ret
      refine ⟨rfl, ?_, HL.out⟩
      have := HB.out
      rw [List.take_of_length_le (by rw [HS.out.1]; omega)] at this
      simpa using this

end Go.Proofs.YtmkcjjgicinggaaGreatDoor.CopyR
