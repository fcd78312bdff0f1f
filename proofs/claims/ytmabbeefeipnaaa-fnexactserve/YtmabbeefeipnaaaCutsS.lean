/- What CutsOf does in the model: the names of the cuts, each once. Condition: fewer than 400000001 records, no name of more than 400000000 bytes. -/
import Derived.Test.YtmabbeefeipnaaaZoneMath
import Derived.Test.YtmabbeefeipnaaaMemZ
import Derived.Test.YtmabbeefeipnaaaUnder
import Derived.Test.YtmabbeefeipnaaaHostS
namespace Go.Proofs.Ytmabbeefeipnaaa.CutsS
open Go.RowKit Go.Proofs.Ytmabbeefeipnaaa.Mem Go.Proofs.Ytmabbeefeipnaaa.MemR Go.Proofs.Ytmabbeefeipnaaa.BoxR Go.Proofs.Ytmabbeefeipnaaa.SetMath Go.Proofs.Ytmabbeefeipnaaa.NameMath Go.Proofs.Ytmabbeefeipnaaa.ZoneMath Go.Proofs.Ytmabbeefeipnaaa.MemZ Go.Proofs.Ytmabbeefeipnaaa.Isin Go.Proofs.Ytmabbeefeipnaaa.MemS Go.Proofs.Ytmabbeefeipnaaa.AppS Go.Proofs.Ytmabbeefeipnaaa.HostS

set_option maxHeartbeats 8000000 in
theorem spec (s : ByteArray) (b0 o0 n c : Nat) (l : List Rec) (w : World) (hs : Sr w w.heap.size (some ⟨b0, o0, none⟩) n l) (hn : n ≤ 400000000) (hm : s.size ≤ 400000000) (hz : ∀ r ∈ l, r.name.size ≤ 400000000) :
    Calls Try.prog 59 #[.agg #[.string s, .slice (some ⟨b0, o0, none⟩) n c]] w (GivesS w (uq (cn s l))) := by
  obtain ⟨i0, hi, hz0, hz1, hz2⟩ := info_parts info
  have Z0 := Lib.hid ((zx_new w 32 s (.slice (some ⟨b0, o0, none⟩) n c)).alloc (.cells #[] 9))
  have L0 := Lib.hid (((Below.refl w.heap.size w).alloc (Nat.le_refl _) (.cells #[.string s, .slice (some ⟨b0, o0, none⟩) n c] 32)).alloc (by simp) (.cells #[] 9))
  have P0 := Lib.hid (owns_new (w.alloc (.cells #[.string s, .slice (some ⟨b0, o0, none⟩) n c] 32)))
  rw [show (w.alloc (.cells #[.string s, .slice (some ⟨b0, o0, none⟩) n c] 32)).heap.size = w.heap.size + 1 by simp] at P0
  have HS := Lib.hid hs
  have HZ := Lib.hid hz
  clear hs hz
  go_enter Try.func59, Try.ntmps59
  go_wp2
  generalize (w.alloc (.cells #[.string s, .slice (some ⟨b0, o0, none⟩) n c] 32)).alloc (.cells #[] 9) = w0 at *
  go_loopw [3, 4] (fun out i wr => ∃ k g m cap : Nat, k ≤ n ∧ m ≤ k ∧ i = .int .i64 k ∧ out = .slice (some ⟨g, 0, none⟩) m cap ∧ Hid (wr.ownsRow (w.heap.size + 1) 9 1 (.slice (some ⟨g, 0, none⟩) m cap) m ((uq (cn s (l.take k))).map tv)) ∧ Hid (Zx wr w.heap.size s (.slice (some ⟨b0, o0, none⟩) n c)) ∧ Hid (Below w.heap.size w wr)) (fun _ i _ => n - (intOf i).toNat)
  case atStart => exact ⟨0, w.heap.size + 1, 0, 0, Nat.zero_le _, Nat.le_refl _, rfl, rfl, P0.out, Z0.out, L0.out⟩
  case round =>
    clear Z0 L0 P0
    obtain ⟨k, g, m, cap, hk, hm', rfl, rfl, HO, HX, HL⟩ := hrel
    obtain ⟨z0, z1⟩ := HX.out
    have ltz := HX.out.lt
    by_cases hlt : k < n
    · obtain ⟨b, off, hA, hbB, hcs⟩ := HS.out.2 (by omega)
      obtain ⟨rfl, rfl⟩ : b0 = b ∧ o0 = off := by simp at hA; exact hA
      clear hA
      have hkl : k < l.length := by rw [HS.out.1]; exact hlt
      obtain ⟨e0, e1, e2, e3, e4, e5⟩ := (hcs k hkl).below HL.out hbB
      clear hcs
      have HT := Lib.hid (cn_take s l k hkl)
      have HM := Lib.hid (HZ.out _ (List.getElem_mem hkl))
      generalize l[k] = r at *
      have R0 := Lib.hid (bx_new wr 68 r)
      have O0 := Lib.hid (HO.out.alloc (.cells #[.string r.name, .int .i64 r.ty, .int .i64 r.ttl, .int .i64 r.n, .string r.host, .string r.text] 68))
      have X0 := Lib.hid (HX.out.alloc (.cells #[.string r.name, .int .i64 r.ty, .int .i64 r.ttl, .int .i64 r.n, .string r.host, .string r.text] 68))
      have L0 := Lib.hid (HL.out.alloc HL.out.size (.cells #[.string r.name, .int .i64 r.ty, .int .i64 r.ttl, .int .i64 r.n, .string r.host, .string r.text] 68))
      by_cases hty : ¬ r.ty = 2
      · have HA := Lib.hid (show uq (cn s (l.take (k + 1))) = uq (cn s (l.take k)) from by rw [HT.out, isc_false (fun h => hty h.1), if_neg (by decide), List.append_nil])
        have t0 : (r.ty == 2) = false := by simpa using hty
        clear hty
        go_wp2
        go_roundw
        case rel => exact ⟨k + 1, g, m, cap, by omega, by omega, by go_num, rfl, by rw [HA.out]; exact O0.out, X0.out, L0.out⟩
        case measure => simp [intOf]; omega
      replace hty : r.ty = 2 := Classical.not_not.1 hty
      have t0 : (r.ty == 2) = true := by simpa using hty
      by_cases hnm : r.name = s
      · have HA := Lib.hid (show uq (cn s (l.take (k + 1))) = uq (cn s (l.take k)) from by rw [HT.out, isc_false (fun h => h.2.1 hnm), if_neg (by decide), List.append_nil])
        have t1 : (r.name.toList == s.toList) = true := by rw [hnm]; simp
        have t2 : (r.name.data.toList == s.data.toList) = true := by rw [hnm]; simp
        clear hty hnm
        go_wp2
        go_roundw
        case rel => exact ⟨k + 1, g, m, cap, by omega, by omega, by go_num, rfl, by rw [HA.out]; exact O0.out, X0.out, L0.out⟩
        case measure => simp [intOf]; omega
      have t1 : (r.name.toList == s.toList) = false := bytes_ne hnm
      have t2 : (r.name.data.toList == s.data.toList) = false := by rw [← ByteArray.toList_eq, ← ByteArray.toList_eq]; exact t1
      have US := Lib.hid (fun W => Under.spec r.name s W HM.out hm)
      have HU : Hid (Un r.name s = true → uq (cn s (l.take (k + 1))) = add (uq (cn s (l.take k))) r.name) := fun hu => by rw [HT.out, isc_true ⟨hty, hnm, hu⟩, if_pos rfl, uq_snoc]
      have HV : Hid (Un r.name s = false → uq (cn s (l.take (k + 1))) = uq (cn s (l.take k))) := fun hu => by rw [HT.out, isc_false (fun h => by rw [hu] at h; exact absurd h.2.2 (by decide)), if_neg (by decide), List.append_nil]
      generalize Un r.name s = u at *
      clear hty hnm HT
      have HZ2 : Hid ((uq (cn s (l.take k))).length = m) := show _ = _ by have := HO.out.1; simpa using this
      have SS : Hid (∀ W : World, W.ownsRow (w.heap.size + 1) 9 1 (.slice (some ⟨g, 0, none⟩) m cap) m ((uq (cn s (l.take k))).map tv) → Calls Try.prog 71 #[.slice (some ⟨g, 0, none⟩) m cap, .string r.name] W fun e w' => e = .returned (.bool (isin (uq (cn s (l.take k))) (r.name))) ∧ Below W.heap.size W w') :=
        fun W O => has _ m cap (uq (cn s (l.take k))) (r.name) W (show Ss W W.heap.size (some ⟨g, 0, none⟩) m (uq (cn s (l.take k))) from by obtain ⟨r', hb, _, _⟩ := bk_of_owns O; exact bk_ssw hb HZ2.out) (by omega)
      go_wp2_with fail
      refine (US.out _).mono ?_
      rintro e w1 ⟨rfl, hl⟩
      have L1 := Lib.hid (L0.out.trans (hl.mono L0.out.size))
      have X1 := Lib.hid (X0.out.below hl)
      have R1 := Lib.hid (R0.out.below hl)
      have O1 := Lib.hid (O0.out.kept (grown_of_below hl none) (Or.inr (fun e => by cases e)))
      clear hl US z0 z1 e0 e1 e2 e3 e4 e5 L0 X0 R0 O0
      obtain ⟨z0, z1⟩ := X1.out
      obtain ⟨r0, r1, r2, r3, r4, r5⟩ := R1.out
      cases u with
      | false =>
        have HA := Lib.hid (HV.out rfl)
        go_wp2
        go_roundw
        case rel => exact ⟨k + 1, g, m, cap, by omega, by omega, by go_num, rfl, by rw [HA.out]; exact O1.out, X1.out, L1.out⟩
        case measure => simp [intOf]; omega
      | true =>
        have HB := Lib.hid (HU.out rfl)
        clear HU HV
        go_wp2_with fail
        refine (SS.out _ O1.out).mono ?_
        rintro e w2 ⟨rfl, hl⟩
        have L2 := Lib.hid (L1.out.trans (hl.mono L1.out.size))
        have X2 := Lib.hid (X1.out.below hl)
        have R2 := Lib.hid (R1.out.below hl)
        have O2 := Lib.hid (O1.out.kept (grown_of_below hl none) (Or.inr (fun e => by cases e)))
        clear hl SS z0 z1 r0 r1 r2 r3 r4 r5 L1 X1 R1 O1
        obtain ⟨z0, z1⟩ := X2.out
        obtain ⟨r0, r1, r2, r3, r4, r5⟩ := R2.out
        by_cases hin : r.name ∈ uq (cn s (l.take k))
        · have HA := Lib.hid (HB.out.trans (add_in hin))
          have HC := Lib.hid (isin_true hin)
          clear hin
          rw [HC.out]
          go_wp2
          go_roundw
          case rel => exact ⟨k + 1, g, m, cap, by omega, by omega, by go_num, rfl, by rw [HA.out]; exact O2.out, X2.out, L2.out⟩
          case measure => simp [intOf]; omega
        · have HA := Lib.hid (HB.out.trans (add_out hin))
          have HC := Lib.hid (isin_false hin)
          clear hin
          have gge : w.heap.size + 1 ≤ g := by obtain ⟨r', _, _, h⟩ := bk_of_owns O2.out; exact h
          rw [HC.out]
          go_wp2_with (at_builtin; refine append_one (w := w2) rfl (.tmp 43) (.tmp 46) 71 rfl (w.heap.size + 1) 9 i0 _ Try.underlying71 hi hz0 hz1 hz2 rfl g m cap (uq (cn s (l.take k))) rfl O2.out r.name rfl (by omega) (by have h1 := O2.out.lt g rfl; omega) ?_)
          intro g' cap' w3 hown hgrow
          have O3 := Lib.hid hown
          have X3 := Lib.hid ((X2.out.alloc (.cells #[.string r.name] 9)).grown hgrow (fun e => by have := Option.some.inj e; omega))
          have L3 := Lib.hid ((L2.out.alloc L2.out.size (.cells #[.string r.name] 9)).grown hgrow (Nat.le_trans L2.out.size (by simp)) (fun j hj => by cases hj; omega))
          clear hown hgrow
          go_wp2
          go_roundw
          case rel => exact ⟨k + 1, g', m + 1, cap', by omega, by omega, by go_num, rfl, by rw [HA.out, List.map_append]; exact O3.out, X3.out, L3.out⟩
          case measure => simp [intOf]; omega
    · obtain rfl : n = k := by omega
      have HN := Lib.hid (take_all HS.out.1)
      go_wp2
      go_ret
      have ho := HO.out
      rw [HN.out] at ho
      obtain ⟨r', hb, hc, hg⟩ := bk_of_owns ho
      exact ⟨g, m, cap, r', rfl, by have := ho.1; simpa using this, by rw [← hc, List.length_append]; have := ho.1; omega, by omega, hb, HL.out⟩
end Go.Proofs.Ytmabbeefeipnaaa.CutsS
