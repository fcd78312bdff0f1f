/- What Addrs does in the model. Condition: fewer than 400000001 records. -/
import Derived.Test.YtmkcjjgicinggaaGreatDoorIsin
import Derived.Test.YtmkcjjgicinggaaGreatDoorMemI
namespace Go.Proofs.YtmkcjjgicinggaaGreatDoor.AdrS
open Go.RowKit Go.Proofs.YtmkcjjgicinggaaGreatDoor.Mem Go.Proofs.YtmkcjjgicinggaaGreatDoor.MemR Go.Proofs.YtmkcjjgicinggaaGreatDoor.SetMath Go.Proofs.YtmkcjjgicinggaaGreatDoor.Isin Go.Proofs.YtmkcjjgicinggaaGreatDoor.MemI

theorem grown_of_below {w w' : World} (h : Below w.heap.size w w') (r : Option Nat) : w.grownBy w' r := ⟨h.os, h.tape, h.output, h.size, fun k hk _ => h.block k hk⟩

set_option maxHeartbeats 1000000 in
theorem has (A : Option Addr) (n c : Nat) (l : List Int) (x : Int) (w : World) (hs : Si w A n l) (hn : n ≤ 400000000) :
    Calls Tryz.prog 86 #[.slice A n c, .int .i64 x] w fun e w' => e = .returned (.bool (isin l x)) ∧ Below w.heap.size w w' := by
  have HS := Lib.hid hs
  clear hs
  go_enter Tryz.func86, Tryz.ntmps86
  go_wp2
  go_loopw [5] (fun i wr => ∃ k : Nat, k ≤ n ∧ i = .int .i64 k ∧ Hid (x ∉ l.take k) ∧ Hid (Below w.heap.size w wr)) (fun i _ => n - (intOf i).toNat)
  case atStart => exact ⟨0, Nat.zero_le _, rfl, not_zero l x, Below.refl _ _⟩
  case round =>
    obtain ⟨k, hk, rfl, HX, HL⟩ := hrel
    by_cases hlt : k < n
    · obtain ⟨b, off, rfl, hbB, hcs⟩ := HS.out.2 (by omega)
      have hkl : k < l.length := by rw [HS.out.1]; exact hlt
      have e0 : wr.cell? ⟨b, off + k, none⟩ = some (.int .i64 l[k]) := (HL.out.cell (p := ⟨b, off + k, none⟩) hbB).trans (hcs k hkl)
      clear hcs
      have HI := Lib.hid (isin_at l x k hkl)
      have HO := Lib.hid (not_next l x k hkl)
      generalize l[k] = y at *
      by_cases hne : y = x
      · have HT := Lib.hid (HI.out hne)
        subst hne
        have q1 : (y == y) = true := by simp
        go_wp2
        go_ret
        exact ⟨by rw [HT.out]; rfl, HL.out⟩
      · have HN := Lib.hid (HO.out HX.out hne)
        have q1 : (y == x) = false := by simpa using hne
        clear hne
        go_wp2
        go_roundw
        case rel => exact ⟨k + 1, by omega, by go_num, HN.out, HL.out⟩
        case measure => simp [intOf]; omega
    · obtain rfl : n = k := by omega
      have HF : Hid (isin l x = false) := isin_false (by rw [take_all HS.out.1] at HX; exact HX.out)
      go_wp2
      go_ret
      exact ⟨by rw [HF.out]; rfl, HL.out⟩

set_option maxHeartbeats 4000000 in
theorem spec (s : ByteArray) (b0 o0 n c : Nat) (l : List Rec) (w : World) (hs : Sr w w.heap.size (some ⟨b0, o0, none⟩) n l) (hn : n ≤ 400000000) : Calls Tryz.prog 81 #[.slice (some ⟨b0, o0, none⟩) n c, .string s] w (GivesI w (uq (al s l))) := by
  have HS := Lib.hid hs
  clear hs
  have P0 := Lib.hid (owns_new w)
  have L0 := Lib.hid ((Below.refl w.heap.size w).alloc (Nat.le_refl _) (.cells #[] 3))
  go_enter Tryz.func81, Tryz.ntmps81
  go_wp2
  generalize w.alloc (.cells #[] 3) = w0 at *
  go_loopw [5, 6] (fun out i wr => ∃ k g m cap : Nat, k ≤ n ∧ m ≤ k ∧ i = .int .i64 k ∧ out = .slice (some ⟨g, 0, none⟩) m cap ∧ Hid (wr.ownsRow w.heap.size 3 1 (.slice (some ⟨g, 0, none⟩) m cap) m ((uq (al s (l.take k))).map iv)) ∧ Hid (Below w.heap.size w wr)) (fun _ i _ => n - (intOf i).toNat)
  case atStart => exact ⟨0, w.heap.size, 0, 0, Nat.zero_le _, Nat.le_refl _, rfl, rfl, P0.out, L0.out⟩
  case round =>
    clear P0 L0
    obtain ⟨k, g, m, cap, hk, hm, rfl, rfl, HO, HL⟩ := hrel
    by_cases hlt : k < n
    · obtain ⟨b, off, hA, hbB, hcs⟩ := HS.out.2 (by omega)
      obtain ⟨rfl, rfl⟩ : b0 = b ∧ o0 = off := by simp at hA; exact hA
      clear hA
      have hkl : k < l.length := by rw [HS.out.1]; exact hlt
      obtain ⟨e0, e1, e2, e3, e4, e5⟩ := (hcs k hkl).below HL.out hbB
      clear hcs
      have HT := Lib.hid (al_take s l k hkl)
      generalize l[k] = r at *
      by_cases hty : ¬ r.ty = 1
      · have HA := Lib.hid (show uq (al s (l.take (k + 1))) = uq (al s (l.take k)) from by rw [HT.out, isk_false (fun h => hty h.2), if_neg (by decide), List.append_nil])
        have t0 : (r.ty == 1) = false := by simpa using hty
        clear hty
        go_wp2
        go_roundw
        case rel => exact ⟨k + 1, g, m, cap, by omega, by omega, by go_num, rfl, by rw [HA.out]; exact HO.out, HL.out⟩
        case measure => simp [intOf]; omega
      replace hty : r.ty = 1 := Classical.not_not.1 hty
      by_cases hnm : ¬ r.name = s
      · have HA := Lib.hid (show uq (al s (l.take (k + 1))) = uq (al s (l.take k)) from by rw [HT.out, isk_false (fun h => hnm h.1), if_neg (by decide), List.append_nil])
        have t0 : (r.ty == 1) = true := by simpa using hty
        have t1 : (r.name.toList == s.toList) = false := bytes_ne hnm
        have t2 : (r.name.data.toList == s.data.toList) = false := by rw [← ByteArray.toList_eq, ← ByteArray.toList_eq]; exact t1
        clear hty hnm
        go_wp2
        go_roundw
        case rel => exact ⟨k + 1, g, m, cap, by omega, by omega, by go_num, rfl, by rw [HA.out]; exact HO.out, HL.out⟩
        case measure => simp [intOf]; omega
      replace hnm : r.name = s := Classical.not_not.1 hnm
      have HU := Lib.hid (show uq (al s (l.take (k + 1))) = add (uq (al s (l.take k))) r.n from by rw [HT.out, isk_true ⟨hnm, hty⟩, if_pos rfl, uq_snoc])
      have t0 : (r.ty == 1) = true := by simpa using hty
      have t1 : (r.name.toList == s.toList) = true := by rw [hnm]; simp
      have t2 : (r.name.data.toList == s.data.toList) = true := by rw [hnm]; simp
      clear hty hnm
      have HZ : Hid ((uq (al s (l.take k))).length = m) := show _ = _ by have := HO.out.1; simpa using this
      have SS : Hid (∀ W : World, W.ownsRow w.heap.size 3 1 (.slice (some ⟨g, 0, none⟩) m cap) m ((uq (al s (l.take k))).map iv) → Calls Tryz.prog 86 #[.slice (some ⟨g, 0, none⟩) m cap, .int .i64 r.n] W fun e w' => e = .returned (.bool (isin (uq (al s (l.take k))) (r.n))) ∧ Below W.heap.size W w') :=
        fun W O => has _ m cap (uq (al s (l.take k))) (r.n) W (show Si W (some ⟨g, 0, none⟩) m (uq (al s (l.take k))) from by obtain ⟨r', hb, _, _⟩ := bk_of_owns O; exact bk_si hb HZ.out) (by omega)
      go_wp2_with fail
      refine (SS.out _ HO.out).mono ?_
      rintro e w1 ⟨rfl, hl⟩
      have O1 := Lib.hid (HO.out.kept (grown_of_below hl none) (Or.inr (fun e => by cases e)))
      have L1 := Lib.hid (HL.out.trans (hl.mono HL.out.size))
      have C1 := (show Ce w1 b0 (o0 + k * 6) r from ⟨(hl.cell (p := ⟨b0, o0 + k * 6, none⟩) (Nat.lt_of_lt_of_le hbB HL.out.size)).trans e0, (hl.cell (p := ⟨b0, o0 + k * 6 + 1, none⟩) (Nat.lt_of_lt_of_le hbB HL.out.size)).trans e1, (hl.cell (p := ⟨b0, o0 + k * 6 + 2, none⟩) (Nat.lt_of_lt_of_le hbB HL.out.size)).trans e2, (hl.cell (p := ⟨b0, o0 + k * 6 + 3, none⟩) (Nat.lt_of_lt_of_le hbB HL.out.size)).trans e3, (hl.cell (p := ⟨b0, o0 + k * 6 + 4, none⟩) (Nat.lt_of_lt_of_le hbB HL.out.size)).trans e4, (hl.cell (p := ⟨b0, o0 + k * 6 + 5, none⟩) (Nat.lt_of_lt_of_le hbB HL.out.size)).trans e5⟩)
      clear hl e0 e1 e2 e3 e4 e5 SS
      obtain ⟨e0, e1, e2, e3, e4, e5⟩ := C1
      by_cases hin : r.n ∈ uq (al s (l.take k))
      · have HA := Lib.hid (HU.out.trans (add_in hin))
        have HB := Lib.hid (isin_true hin)
        clear hin
        rw [HB.out]
        go_wp2
        go_roundw
        case rel => exact ⟨k + 1, g, m, cap, by omega, by omega, by go_num, rfl, by rw [HA.out]; exact O1.out, L1.out⟩
        case measure => simp [intOf]; omega
      · have HA := Lib.hid (HU.out.trans (add_out hin))
        have HB := Lib.hid (isin_false hin)
        clear hin
        rw [HB.out]
        go_wp2_with (at_builtin; refine append_one (w := w1) rfl (.tmp 39) (.tmp 45) rfl w.heap.size g m cap (uq (al s (l.take k))) rfl O1.out r.n rfl (by omega) (by have h1 := O1.out.lt g rfl; omega) ?_)
        intro g' cap' w3 hown hgrow _
        have O3 := Lib.hid hown
        have L3 := Lib.hid ((L1.out.alloc L1.out.size (.cells #[.int .i64 r.n] 3)).grown hgrow (Nat.le_trans L1.out.size (by simp)) (fun j hj => by cases hj; have h1 := O1.out.lt g rfl; omega))
        clear hown hgrow
        go_wp2
        go_roundw
        case rel => exact ⟨k + 1, g', m + 1, cap', by omega, by omega, by go_num, rfl, by rw [HA.out, List.map_append]; exact O3.out, L3.out⟩
        case measure => simp [intOf]; omega
    · obtain rfl : n = k := by omega
      have HN := Lib.hid (take_all HS.out.1)
      go_wp2
      go_ret
      have ho := HO.out
      rw [HN.out] at ho
      exact gives_of_owns ho HL.out
end Go.Proofs.YtmkcjjgicinggaaGreatDoor.AdrS
