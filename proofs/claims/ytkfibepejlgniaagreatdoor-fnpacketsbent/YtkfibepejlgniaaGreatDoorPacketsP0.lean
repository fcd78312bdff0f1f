/- A new slice of records that a call gives back, and laws on append of records. -/
import Derived.Test.YtkfibepejlgniaaGreatDoorMemR
/- What the law's own helpers toRecord and toRecordS do: the same record; a new slice with the same records. Condition: fewer than 400000001 records. -/
namespace Go.Proofs.YtkfibepejlgniaaGreatDoor.CopyR
open Go.RowKit Go.Proofs.YtkfibepejlgniaaGreatDoor.Mem Go.Proofs.YtkfibepejlgniaaGreatDoor.MemR

theorem info : (Tryz.prog.info? 117).map (fun i => (i.zero, i.size, i.bytes)) = some (some (.agg #[.string ⟨#[]⟩, .int .i64 0, .int .i64 0, .int .i64 0, .string ⟨#[]⟩, .string ⟨#[]⟩]), 6, 72) := by kernel_rfl

set_option maxHeartbeats 1000000 in
theorem toRecord_any (r : Rec) (w : World) : Calls Tryz.prog 150 #[.agg #[.string r.name, .int .i64 r.ty, .int .i64 r.ttl, .int .i64 r.n, .string r.host, .string r.text]] w fun e w' => e = .returned (.agg #[.string r.name, .int .i64 r.ty, .int .i64 r.ttl, .int .i64 r.n, .string r.host, .string r.text]) ∧ Below w.heap.size w w' := by
  go_enter Tryz.func150, Tryz.ntmps150
  go_wp2
  refine bodyPost_ret (v := .agg #[.string r.name, .int .i64 r.ty, .int .i64 r.ttl, .int .i64 r.n, .string r.host, .string r.text]) (by simp [results, Tryz.results150, go_sem]) rfl ⟨rfl, ?_⟩
  repeat (first | exact Below.refl _ _ | refine Below.setCell ?_ (by simp; try omega) _ | refine Below.alloc ?_ (by simp; try omega) _)

theorem step_list (l : List Rec) (k n : Nat) (hn : l.length = n) (hk : k < n) (h : k < l.length) : (l.take k ++ List.replicate (n - k) zr).set k l[k] = l.take (k + 1) ++ List.replicate (n - (k + 1)) zr := by
  rw [List.set_append_right _ _ (by simp; omega)]
  have h1 : k - (l.take k).length = 0 := by simp; omega
  rw [h1, show n - k = (n - (k + 1)) + 1 by omega, List.replicate_succ, List.set_cons_zero, List.take_succ_eq_append_getElem h, List.append_assoc]
  rfl

set_option maxHeartbeats 1000000 in
theorem toRecordS_any (A : Option Addr) (n c : Nat) (l : List Rec) (w : World) (hs : Sr w w.heap.size A n l) (hn : n ≤ 400000000) :
    Calls Tryz.prog 104 #[.slice A n c] w fun e w' => e = .returned (.slice (some ⟨w.heap.size, 0, none⟩) n n) ∧ Bk w' w.heap.size 117 (fl l) ∧ Below w.heap.size w w' := by
  obtain ⟨i0, hi, hz0, hz1, hz2⟩ := info_parts info
  have HS := Lib.hid hs
  clear hs
  go_enter Tryz.func104, Tryz.ntmps104
  go_wp2_with (at_make; refine wpList_make_full _ rfl _ _ 26 rfl w.heap.size 117 i0 _ 6 Tryz.underlying26 hi hz0 hz1 .i64 .i64 _ _ n rfl rfl ?c0 ?c1 ?c2 ?c3 ?c4 ?_)
  case c0 => rfl
  case c1 => rfl
  case c2 => rw [hz2]; omega
  case c3 => unfold maxLen; omega
  case c4 => exact Nat.le_refl _
  intro w1 hown hgrow
  obtain ⟨r, hb0, hlen0, _, _⟩ := bk_of_owns6 hown
  rw [made_fl] at hb0 hlen0
  have hr : r = [] := by
    have : (fl (List.replicate n zr)).length + r.length = n * 6 := by rw [← List.length_append]; exact hlen0
    rw [fl_len] at this
    simp at this; exact this
  subst hr
  rw [List.append_nil] at hb0
  have HL0 := Lib.hid ((Below.refl w.heap.size w).grown hgrow (Nat.le_refl _) (fun k hk => by cases hk))
  have HB0 := Lib.hid hb0
  clear hb0 hown hgrow hlen0
  go_wp2
  go_loopw [4] (fun i wr => ∃ k : Nat, k ≤ n ∧ i = .int .i64 k ∧ Hid (Bk wr w.heap.size 117 (fl (l.take k ++ List.replicate (n - k) zr))) ∧ Hid (Below w.heap.size w wr)) (fun i _ => n - (intOf i).toNat)
  case atStart => exact ⟨0, Nat.zero_le _, rfl, by simpa [Hid] using HB0.out, HL0.out⟩
  case round =>
    clear HB0 HL0
    obtain ⟨k, hk, rfl, HB, HL⟩ := hrel
    by_cases hlt : k < n
    · obtain ⟨b, off, rfl, hbB, hcs⟩ := HS.out.2 (by omega)
      have hkl : k < l.length := by rw [HS.out.1]; exact hlt
      obtain ⟨e0, e1, e2, e3, e4, e5⟩ := (hcs k hkl).below HL.out hbB
      have HK := Lib.hid (step_list l k n HS.out.1 hlt hkl)
      clear hcs
      generalize l[k] = r at *
      go_wp2_with fail
      refine (toRecord_any r wr).mono ?_
      rintro e w2 ⟨rfl, hl⟩
      have hkk : k < (l.take k ++ List.replicate (n - k) zr).length := by simp; omega
      have B2 := Lib.hid (HB.out.below hl HB.out.lt)
      have L2 := Lib.hid (HL.out.trans (hl.mono HL.out.size))
      clear hl e0 e1 e2 e3 e4 e5 HB HL
      have z : ∀ j, j < n * 6 → (w2.cell? ⟨w.heap.size, j, none⟩).isSome = true := fun j hj => by
        rw [B2.out.cell, List.getElem?_eq_getElem (by rw [fl_len]; simp; have := HS.out.1; omega)]; rfl
      obtain ⟨u0, z0⟩ := Option.isSome_iff_exists.1 (z (k * 6) (by omega))
      obtain ⟨u1, z1⟩ := Option.isSome_iff_exists.1 (z (k * 6 + 1) (by omega))
      obtain ⟨u2, z2⟩ := Option.isSome_iff_exists.1 (z (k * 6 + 2) (by omega))
      obtain ⟨u3, z3⟩ := Option.isSome_iff_exists.1 (z (k * 6 + 3) (by omega))
      obtain ⟨u4, z4⟩ := Option.isSome_iff_exists.1 (z (k * 6 + 4) (by omega))
      obtain ⟨u5, z5⟩ := Option.isSome_iff_exists.1 (z (k * 6 + 5) (by omega))
      have f0 := B2.out.free (k * 6)
      have f1 := B2.out.free (k * 6 + 1)
      have f2 := B2.out.free (k * 6 + 2)
      have f3 := B2.out.free (k * 6 + 3)
      have f4 := B2.out.free (k * 6 + 4)
      have f5 := B2.out.free (k * 6 + 5)
      clear z
      go_wp2
      go_roundw
      case rel =>
        refine ⟨k + 1, by omega, by go_num, ?_, ?_⟩
        · show Bk _ _ _ _
          have h6 := (((((B2.out.set (k * 6) (.string r.name)).set (k * 6 + 1) (.int .i64 r.ty)).set (k * 6 + 2) (.int .i64 r.ttl)).set (k * 6 + 3) (.int .i64 r.n)).set (k * 6 + 4) (.string r.host)).set (k * 6 + 5) (.string r.text)
          rw [fl_put _ k r hkk, HK.out] at h6
          exact h6
        · show Below _ _ _
          exact (((((L2.out.setCell (Nat.le_refl _) _).setCell (Nat.le_refl _) _).setCell (Nat.le_refl _) _).setCell (Nat.le_refl _) _).setCell (Nat.le_refl _) _).setCell (Nat.le_refl _) _
      case measure => simp [intOf]; omega
    · have hkn : k = n := by omega
      subst hkn
      go_wp2
      go_ret
      refine ⟨rfl, ?_, HL.out⟩
      have := HB.out
      rw [List.take_of_length_le (by rw [HS.out.1]; omega)] at this
      simpa using this

end Go.Proofs.YtkfibepejlgniaaGreatDoor.CopyR

/- A new slice of records that a call gives back, and laws on append of records. -/
namespace Go.Proofs.YtkfibepejlgniaaGreatDoor.AppR
open Go.RowKit Go.Proofs.YtkfibepejlgniaaGreatDoor.Mem Go.Proofs.YtkfibepejlgniaaGreatDoor.MemR

theorem owns_new (w : World) : (w.alloc (.cells #[] 117)).ownsRow w.heap.size 117 6 (.slice (some ⟨w.heap.size, 0, none⟩) 0 0) 0 [] :=
  World.ownsRow_made w #[] 0 (Nat.le_refl _) (Nat.zero_le _) (by simp)
theorem one_fl (l : List Rec) : ∀ u ∈ fl l, u.oneCell' = true := by
  intro u hu
  obtain ⟨r, _, hr⟩ := List.mem_flatMap.1 hu
  simp [rc] at hr
  rcases hr with rfl | rfl | rfl | rfl | rfl | rfl <;> rfl
/-- The cells of a slice that reads as records, as the laws on append ask for them. -/
theorem cells_of {w : World} {B b off n : Nat} {l : List Rec} (hs : Sr w B (some ⟨b, off, none⟩) n l) : ∀ j u, (fl l)[j]? = some u → w.cell? ((⟨b, off, none⟩ : Addr).add j) = some u := by
  intro j u hu
  have hj : j < l.length * 6 := by
    have := (List.getElem?_eq_some_iff.1 hu).1
    rwa [fl_len] at this
  obtain ⟨b', off', hA, _, hc⟩ := hs.2 (by have := hs.1; omega)
  simp only [Option.some.injEq, Addr.mk.injEq, and_true] at hA
  obtain ⟨rfl, rfl⟩ := hA
  have hd : j / 6 < l.length := by omega
  have h6 : j % 6 < 6 := by omega
  have e : j = j / 6 * 6 + j % 6 := by omega
  have hg := fl_get l (j / 6) (j % 6) hd h6
  rw [← e, hu] at hg
  obtain ⟨c0, c1, c2, c3, c4, c5⟩ := hc (j / 6) hd
  rw [Addr.add_lit, show off + j = off + j / 6 * 6 + j % 6 by omega, hg]
  generalize j % 6 = c at h6 ⊢
  rcases c with _ | _ | _ | _ | _ | _ | c
  · exact c0
  · exact c1
  · exact c2
  · exact c3
  · exact c4
  · exact c5
  · omega
/-- append of a slice of records onto a row of the call's own. -/
theorem append_recs {w : World} {ops : Array Oper} {rest : List Oper} {o : Oper} {a : Act} {Q : Exit → Act → World → Prop} (hgd : o.guard = none) (s x : Operand)
    (ho : o.op = .call { callee := .builtin .append, args := #[s, x], argTypes := #[26, 26] })
    (base g n cap : Nat) (L : List Rec) (hs : a.eval s = .slice (some ⟨g, 0, none⟩) n cap) (hown : w.ownsRow base 117 6 (.slice (some ⟨g, 0, none⟩) n cap) n (fl L))
    (b off m c B : Nat) (l : List Rec) (hx : a.eval x = .slice (some ⟨b, off, none⟩) m c) (hl : Sr w B (some ⟨b, off, none⟩) m l)
    (hn : n ≤ 800000000) (hm : m ≤ 800000000) (hbase : base ≤ w.heap.size)
    (h : ∀ g' cap' w', w'.ownsRow base 117 6 (.slice (some ⟨g', 0, none⟩) (n + m) cap') (n + m) (fl (L ++ l)) → w.grownBy w' (some g) → wpList Tryz.prog ops Q rest (a.put o.dst (.slice (some ⟨g', 0, none⟩) (n + m) cap')) w') : wpList Tryz.prog ops Q (o :: rest) a w := by
  obtain ⟨i0, hi, hz0, hz1, hz2⟩ := info_parts CopyR.info
  exact wpList_append_own w hgd s x 26 ho base 117 i0 _ 6 72 Tryz.underlying26 hi hz0 hz1 hz2 rfl (by decide) _ n (fl L) hs hown ⟨b, off, none⟩ m c (fl l) hx (by rw [fl_len, hl.1]) (cells_of hl) (one_fl l) (by unfold maxLen; omega) (by omega) hbase
    (fun v' w' h1 h2 h3 => by
      rcases h1.2 with ⟨hv, _⟩ | ⟨g', cap', cur, hv, _⟩
      · have := (h3.1 hv).1
        cases this
      · subst hv
        exact h g' cap' w' (by rw [fl_append]; exact h1) h2)
end Go.Proofs.YtkfibepejlgniaaGreatDoor.AppR
