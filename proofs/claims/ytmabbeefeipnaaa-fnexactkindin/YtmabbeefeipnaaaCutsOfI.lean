/- What CutsOf does in the program: the names of the cuts, each once. Condition: fewer than 400000001 records, no name of more than 400000000 bytes. -/
import Derived.Test.YtmabbeefeipnaaaZoneMath
import Derived.Test.YtmabbeefeipnaaaMemZ
import Derived.Test.YtmabbeefeipnaaaUnderImpl
import Derived.Test.YtmabbeefeipnaaaHostI
namespace Go.Proofs.Ytmabbeefeipnaaa.CutsOfI
open Go.RowKit Go.Proofs.Ytmabbeefeipnaaa.Mem Go.Proofs.Ytmabbeefeipnaaa.MemR Go.Proofs.Ytmabbeefeipnaaa.SetMath Go.Proofs.Ytmabbeefeipnaaa.NameMath Go.Proofs.Ytmabbeefeipnaaa.ZoneMath Go.Proofs.Ytmabbeefeipnaaa.MemZ Go.Proofs.Ytmabbeefeipnaaa.MemS Go.Proofs.Ytmabbeefeipnaaa.AppS Go.Proofs.Ytmabbeefeipnaaa.HostI

theorem text_ne {x y : ByteArray} (h : x ≠ y) : (x.toList == y.toList) = false := by
  rw [beq_eq_false_iff_ne, ByteArray.toList_eq, ByteArray.toList_eq]
  exact fun e => h (text_ext e)

set_option maxHeartbeats 8000000 in
theorem impl (s : ByteArray) (b0 o0 n c : Nat) (l : List Rec) (w : World) (hs : Sr w w.heap.size (some ⟨b0, o0, none⟩) n l) (hn : n ≤ 400000000) (hm : s.size ≤ 400000000) (hz : ∀ r ∈ l, r.name.size ≤ 400000000) :
    Calls Try.prog 77 #[.agg #[.string s, .slice (some ⟨b0, o0, none⟩) n c]] w (GivesS w (uq (cn s l))) := by
  have Z0 := Lib.hid ((zx_new w 32 s (.slice (some ⟨b0, o0, none⟩) n c)).alloc (.cells #[] 9))
  have L0 := Lib.hid (((Below.refl w.heap.size w).alloc (Nat.le_refl _) (.cells #[.string s, .slice (some ⟨b0, o0, none⟩) n c] 32)).alloc (by simp) (.cells #[] 9))
  have P0 := Lib.hid (owns_new (w.alloc (.cells #[.string s, .slice (some ⟨b0, o0, none⟩) n c] 32)))
  rw [show (w.alloc (.cells #[.string s, .slice (some ⟨b0, o0, none⟩) n c] 32)).heap.size = w.heap.size + 1 by simp] at P0
  have HS := Lib.hid hs
  have HZ := Lib.hid hz
  clear hs hz
  go_enter Try.func77, Try.ntmps77
  go_wp2
  generalize (w.alloc (.cells #[.string s, .slice (some ⟨b0, o0, none⟩) n c] 32)).alloc (.cells #[] 9) = w0 at *
  go_loopw [3, 10] (fun out i wr => ∃ k g m cap : Nat, k ≤ n ∧ m ≤ k ∧ i = .int .i64 k ∧ out = .slice (some ⟨g, 0, none⟩) m cap ∧ Hid (wr.ownsRow (w.heap.size + 1) 9 1 (.slice (some ⟨g, 0, none⟩) m cap) m ((cn s (l.take k)).map tv)) ∧ Hid (Zx wr w.heap.size s (.slice (some ⟨b0, o0, none⟩) n c)) ∧ Hid (Below w.heap.size w wr)) (fun _ i _ => n - (intOf i).toNat)
  case atStart => exact ⟨0, w.heap.size + 1, 0, 0, Nat.zero_le _, Nat.le_refl _, rfl, rfl, P0.out, Z0.out, L0.out⟩
  case round =>
    clear P0 L0 Z0
    obtain ⟨k, g, m, cap, hk, hm', rfl, rfl, HO, HX, HL⟩ := hrel
    by_cases hlt : k < n
    · obtain ⟨b, off, hA, hbB, hcs⟩ := HS.out.2 (by omega)
      obtain ⟨rfl, rfl⟩ : b0 = b ∧ o0 = off := by simp at hA; exact hA
      clear hA
      have hkl : k < l.length := by rw [HS.out.1]; exact hlt
      obtain ⟨e0, e1, e2, e3, e4, e5⟩ := (hcs k hkl).below HL.out hbB
      clear hcs
      obtain ⟨z0, z1⟩ := HX.out
      have ltz := HX.out.lt
      have HT := Lib.hid (cn_take s l k hkl)
      have HM := Lib.hid (HZ.out _ (List.getElem_mem hkl))
      generalize l[k] = r at *
      have W1 : Hid (Below w.heap.size w (wr.alloc (.cells #[.string r.name, .int .i64 r.ty, .int .i64 r.ttl, .int .i64 r.n, .string r.host, .string r.text] 68))) := HL.out.alloc HL.out.size _
      have X1 := Lib.hid (HX.out.alloc (.cells #[.string r.name, .int .i64 r.ty, .int .i64 r.ttl, .int .i64 r.n, .string r.host, .string r.text] 68))
      have O1 := Lib.hid (HO.out.alloc (.cells #[.string r.name, .int .i64 r.ty, .int .i64 r.ttl, .int .i64 r.n, .string r.host, .string r.text] 68))
      by_cases hty : ¬ r.ty = 2
      · have HA := Lib.hid (show cn s (l.take (k + 1)) = cn s (l.take k) from by rw [HT.out, isc_false (fun h => hty h.1), if_neg (by decide), List.append_nil])
        have t0 : (r.ty == 2) = false := by simpa using hty
        clear hty
        go_wp2
        go_roundw
        case rel => exact ⟨k + 1, g, m, cap, by omega, by omega, by go_num, rfl, by rw [HA.out]; exact O1.out, X1.out, W1.out⟩
        case measure => simp [intOf]; omega
      replace hty : r.ty = 2 := Classical.not_not.1 hty
      have t0 : (r.ty == 2) = true := by simpa using hty
      by_cases hnm : r.name = s
      · have HA := Lib.hid (show cn s (l.take (k + 1)) = cn s (l.take k) from by rw [HT.out, isc_false (fun h => h.2.1 hnm), if_neg (by decide), List.append_nil])
        have t1 : (r.name.toList == s.toList) = true := by rw [hnm]; simp
        have t2 : (r.name.data.toList == s.data.toList) = true := by rw [hnm]; simp
        clear hty hnm
        go_wp2
        go_roundw
        case rel => exact ⟨k + 1, g, m, cap, by omega, by omega, by go_num, rfl, by rw [HA.out]; exact O1.out, X1.out, W1.out⟩
        case measure => simp [intOf]; omega
      have t1 : (r.name.toList == s.toList) = false := text_ne hnm
      have t2 : (r.name.data.toList == s.data.toList) = false := by rw [← ByteArray.toList_eq, ← ByteArray.toList_eq]; exact t1
      have US := Lib.hid (fun W => UnderImpl.impl r.name s W HM.out hm)
      have HU : Hid (Un r.name s = true → cn s (l.take (k + 1)) = cn s (l.take k) ++ [r.name]) := fun hu => by rw [HT.out, isc_true ⟨hty, hnm, hu⟩, if_pos rfl]
      have HV : Hid (Un r.name s = false → cn s (l.take (k + 1)) = cn s (l.take k)) := fun hu => by rw [HT.out, isc_false (fun h => by rw [hu] at h; exact absurd h.2.2 (by decide)), if_neg (by decide), List.append_nil]
      generalize Un r.name s = u at *
      clear hty hnm HT
      go_wp2_with fail
      refine (US.out _).mono ?_
      rintro e w1 ⟨rfl, rfl⟩
      clear US
      cases u with
      | false =>
        have HA := Lib.hid (HV.out rfl)
        clear HU HV
        go_wp2
        go_roundw
        case rel => exact ⟨k + 1, g, m, cap, by omega, by omega, by go_num, rfl, by rw [HA.out]; exact O1.out, X1.out, W1.out⟩
        case measure => simp [intOf]; omega
      | true =>
        have HA := Lib.hid (HU.out rfl)
        clear HU HV
        go_wp2_with (at_builtin; refine append_at (w := wr.alloc (.cells #[.string r.name, .int .i64 r.ty, .int .i64 r.ttl, .int .i64 r.n, .string r.host, .string r.text] 68)) rfl (.tmp 31) (.tmp 34) rfl (w.heap.size + 1) g m cap (cn s (l.take k)) rfl O1.out r.name (wr.heap.size + 1) (by simp) rfl (by omega) (by have h1 := O1.out.lt g rfl; omega) ?_)
        intro g' cap' w3 hown hgrow
        have O3 := Lib.hid hown
        have gge : w.heap.size + 1 ≤ g := (O1.out.lt g rfl).1
        have X3 := Lib.hid ((X1.out.alloc (.cells #[.string r.name] 9)).grown hgrow (fun e => by have := Option.some.inj e; omega))
        have L3 := Lib.hid ((W1.out.alloc W1.out.size (.cells #[.string r.name] 9)).grown hgrow (Nat.le_trans W1.out.size (by simp)) (fun j hj => by cases hj; omega))
        clear hown hgrow
        go_wp2
        go_roundw
        case rel => exact ⟨k + 1, g', m + 1, cap', by omega, by omega, by go_num, rfl, by rw [HA.out, List.map_append]; exact O3.out, X3.out, L3.out⟩
        case measure => simp [intOf]; omega
    · obtain rfl : n = k := by omega
      have HN := Lib.hid (take_all HS.out.1)
      have HQ : Hid (Ss wr wr.heap.size (some ⟨g, 0, none⟩) m (cn s l)) := by
        have ho := HO.out
        rw [HN.out] at ho
        have hz : (cn s l).length = m := by have := ho.1; simpa using this
        obtain ⟨r', hb, _, _⟩ := bk_of_owns ho
        exact bk_ssw hb hz
      go_wp2_with fail
      refine (FstS.impl _ m cap (cn s l) wr HQ.out (by omega)).mono ?_
      rintro e w1 ⟨g1, m1, c1, r1, rfl, hm1, hc1, hg1, hb1, hl1⟩
      have G1 := Lib.hid (Nat.le_trans HL.out.size hg1)
      have M1 := Lib.hid hm1
      have C1 := Lib.hid hc1
      have B1 := Lib.hid hb1
      have L1 := Lib.hid (HL.out.trans (hl1.mono HL.out.size))
      clear hm1 hc1 hg1 hb1 hl1
      go_wp2
      go_ret
      exact ⟨g1, m1, c1, r1, rfl, M1.out, C1.out, G1.out, B1.out, L1.out⟩

end Go.Proofs.Ytmabbeefeipnaaa.CutsOfI
