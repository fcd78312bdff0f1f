/- What AnswerIn does in the model: a new slice of the answers. Condition: fewer than 400000001 records, no name of more than 400000000 bytes. -/
import Derived.Test.YtmabbeefeipnaaaKindS
import Derived.Test.YtmabbeefeipnaaaSetS
namespace Go.Proofs.Ytmabbeefeipnaaa.AnsS
open Go.RowKit Go.Proofs.Ytmabbeefeipnaaa.Mem Go.Proofs.Ytmabbeefeipnaaa.MemR Go.Proofs.Ytmabbeefeipnaaa.SetMath Go.Proofs.Ytmabbeefeipnaaa.NameMath Go.Proofs.Ytmabbeefeipnaaa.ZoneMath Go.Proofs.Ytmabbeefeipnaaa.ServeMath Go.Proofs.Ytmabbeefeipnaaa.MemZ Go.Proofs.Ytmabbeefeipnaaa.MemM Go.Proofs.Ytmabbeefeipnaaa.Wt Go.Proofs.Ytmabbeefeipnaaa.KindS 

set_option maxHeartbeats 8000000 in
theorem spec (s nm : ByteArray) (ty : Int) (b0 o0 n c : Nat) (l : List Rec) (w : World) (hs : Sr w w.heap.size (some ⟨b0, o0, none⟩) n l) (hn : n ≤ 400000000) (hm : s.size ≤ 400000000) (hq : nm.size ≤ 400000000) (hz : ∀ r ∈ l, r.name.size ≤ 400000000) :
    Calls Try.prog 16 #[.agg #[.string s, .slice (some ⟨b0, o0, none⟩) n c], .agg #[.string nm, .int .i64 ty]] w (GivesL w (anl (kd s nm ty l) nm ty l)) := by
  obtain ⟨⟨hx, hy⟩, hl0⟩ := two w s nm ty (.slice (some ⟨b0, o0, none⟩) n c) 32 34
  have X0 := Lib.hid hx
  have Y0 := Lib.hid hy
  have L0 := Lib.hid hl0
  have S0 := Lib.hid (hs.on hl0)
  have KI := Lib.hid (fun W hW => KindS.spec s nm ty b0 o0 n c l W hW (by omega) hm hq hz)
  have AS := Lib.hid (fun W hW => SetS.spec nm 5 b0 o0 n c l W hW hn)
  have TS := Lib.hid (fun W hW => SetS.spec nm ty b0 o0 n c l W hW hn)
  clear hs hz hx hy hl0
  generalize kd s nm ty l = k at *
  obtain ⟨x0, x1⟩ := X0.out
  obtain ⟨y0, y1⟩ := Y0.out
  go_enter Try.func16, Try.ntmps16
  go_wp2_with fail
  refine (KI.out _ S0.out).mono ?_
  rintro e w1 ⟨rfl, hl⟩
  have X1 := Lib.hid (X0.out.below hl)
  have Y1 := Lib.hid (Y0.out.below hl)
  have S1 := Lib.hid (S0.out.on hl)
  have L1 := Lib.hid (L0.out.trans (hl.mono L0.out.size))
  clear hl KI X0 Y0 S0 L0 x0 x1 y0 y1
  obtain ⟨x0, x1⟩ := X1.out
  obtain ⟨y0, y1⟩ := Y1.out
  by_cases h2 : k = 2
  · have HA : Hid (anl k nm ty l = sf nm 5 l) := if_pos h2
    subst h2
    go_wp2_with fail
    refine (AS.out _ S1.out).mono ?_
    rintro e w2 ⟨g, m, cp, r, rfl, hm2, hc2, hg2, hb2, hl⟩
    have H2 := Lib.hid (And.intro hm2 (And.intro hc2 (And.intro (Nat.le_trans L1.out.size hg2) hb2)))
    have L2 := Lib.hid (L1.out.trans (hl.mono L1.out.size))
    clear hl hm2 hc2 hg2 hb2
    go_wp2
    go_ret
    exact ⟨g, m, cp, r, rfl, by rw [HA.out]; exact H2.out.1, H2.out.2.1, H2.out.2.2.1, by rw [HA.out]; exact H2.out.2.2.2, L2.out⟩
  · have t2 : (k == 2) = false := by simpa using h2
    by_cases h3 : k = 3
    · have HA : Hid (anl k nm ty l = sf nm ty l) := by show _ = _; unfold anl; rw [if_neg h2, if_pos h3]
      subst h3
      go_wp2_with fail
      refine (TS.out _ S1.out).mono ?_
      rintro e w2 ⟨g, m, cp, r, rfl, hm2, hc2, hg2, hb2, hl⟩
      have H2 := Lib.hid (And.intro hm2 (And.intro hc2 (And.intro (Nat.le_trans L1.out.size hg2) hb2)))
      have L2 := Lib.hid (L1.out.trans (hl.mono L1.out.size))
      clear hl hm2 hc2 hg2 hb2
      go_wp2
      go_ret
      exact ⟨g, m, cp, r, rfl, by rw [HA.out]; exact H2.out.1, H2.out.2.1, H2.out.2.2.1, by rw [HA.out]; exact H2.out.2.2.2, L2.out⟩
    · have t3 : (k == 3) = false := by simpa using h3
      have HA : Hid (anl k nm ty l = []) := by show _ = _; unfold anl; rw [if_neg h2, if_neg h3]
      clear h2 h3
      have B2 := Lib.hid (AppR.owns_new w1)
      have L2 := Lib.hid (L1.out.trans (((Below.refl w1.heap.size w1).alloc (Nat.le_refl _) (.cells #[] 68)).mono L1.out.size))
      have N2 := Lib.hid (heap_alloc_new w1 (.cells #[] 68))
      have G2 : Hid (w.heap.size ≤ w1.heap.size) := L1.out.size
      go_wp2
      go_ret
      exact ⟨w1.heap.size, 0, 0, [], rfl, by rw [HA.out]; rfl, Nat.le_refl _, G2.out, by rw [HA.out]; exact N2.out, L2.out⟩

end Go.Proofs.Ytmabbeefeipnaaa.AnsS
