/- What MoreIn does in the model: a new slice of the servers of the cut, or of the start. Condition: fewer than 400000001 records, no name of more than 400000000 bytes. -/
import Derived.Test.YtmabbeefeipnaaaKindS
import Derived.Test.YtmabbeefeipnaaaSetS
import Derived.Test.YtmabbeefeipnaaaStartS
import Derived.Test.YtmabbeefeipnaaaCutOfS
namespace Go.Proofs.Ytmabbeefeipnaaa.MorS
open Go.RowKit Go.Proofs.Ytmabbeefeipnaaa.Mem Go.Proofs.Ytmabbeefeipnaaa.MemR Go.Proofs.Ytmabbeefeipnaaa.SetMath Go.Proofs.Ytmabbeefeipnaaa.NameMath Go.Proofs.Ytmabbeefeipnaaa.ZoneMath Go.Proofs.Ytmabbeefeipnaaa.ServeMath Go.Proofs.Ytmabbeefeipnaaa.MemZ Go.Proofs.Ytmabbeefeipnaaa.MemM Go.Proofs.Ytmabbeefeipnaaa.Wt Go.Proofs.Ytmabbeefeipnaaa.KindS Go.Proofs.Ytmabbeefeipnaaa.CutOfS

theorem cu_cv (s nm : ByteArray) (l : List Rec) : ∃ b, cv (co nm (uq (cn s l))) = .tuple #[.string (cu s nm l), .bool b] := by
  unfold cu
  cases co nm (uq (cn s l)) <;> exact ⟨_, rfl⟩

set_option maxHeartbeats 8000000 in
theorem spec (s nm : ByteArray) (ty : Int) (b0 o0 n c : Nat) (l : List Rec) (w : World) (hs : Sr w w.heap.size (some ⟨b0, o0, none⟩) n l) (hn : n ≤ 400000000) (hm : s.size ≤ 400000000) (hq : nm.size ≤ 400000000) (hz : ∀ r ∈ l, r.name.size ≤ 400000000) :
    Calls Try.prog 22 #[.agg #[.string s, .slice (some ⟨b0, o0, none⟩) n c], .agg #[.string nm, .int .i64 ty]] w (GivesL w (mol (kd s nm ty l) s nm l)) := by
  obtain ⟨⟨hx, hy⟩, hl0⟩ := two w s nm ty (.slice (some ⟨b0, o0, none⟩) n c) 32 34
  have X0 := Lib.hid hx
  have Y0 := Lib.hid hy
  have L0 := Lib.hid hl0
  have S0 := Lib.hid (hs.on hl0)
  have KI := Lib.hid (fun W hW => KindS.spec s nm ty b0 o0 n c l W hW (by omega) hm hq hz)
  have CS := Lib.hid (fun W hW => CutOfS.spec s nm b0 o0 n c l W hW hn hm hq hz)
  have ST := Lib.hid (fun W hW => StartS.spec s b0 o0 n c l W hW hn)
  have TS := Lib.hid (fun W hW => SetS.spec (cu s nm l) 2 b0 o0 n c l W hW hn)
  obtain ⟨b, hb⟩ := cu_cv s nm l
  rw [hb] at CS
  clear hb
  clear hs hz hx hy hl0
  generalize kd s nm ty l = k at *
  obtain ⟨x0, x1⟩ := X0.out
  obtain ⟨y0, y1⟩ := Y0.out
  go_enter Try.func22, Try.ntmps22
  go_wp2_with fail
  refine (KI.out _ S0.out).mono ?_
  rintro e w1 ⟨rfl, hl⟩
  have X1 := Lib.hid (X0.out.below hl)
  have Y1 := Lib.hid (Y0.out.below hl)
  have S1 := Lib.hid (S0.out.on hl)
  have L1 := Lib.hid (L0.out.trans (hl.mono L0.out.size))
  clear hl KI X0 Y0 S0 L0 x0 x1 y0 y1
  obtain ⟨x0, x1⟩ := X1.out
  obtain ⟨y0, y1⟩ := Y1.out
  by_cases h1 : k = 1
  · have HA : Hid (mol k s nm l = sf (cu s nm l) 2 l) := if_pos h1
    subst h1
    generalize cu s nm l = u at *
    go_wp2_with fail
    refine (CS.out _ S1.out).mono ?_
    rintro e w1' ⟨rfl, hl⟩
    have X2 := Lib.hid (X1.out.below hl)
    have S2 := Lib.hid (S1.out.on hl)
    have L2 := Lib.hid (L1.out.trans (hl.mono L1.out.size))
    clear hl CS X1 Y1 S1 L1 x0 x1 y0 y1
    obtain ⟨x0, x1⟩ := X2.out
    go_wp2_with fail
    refine (TS.out _ S2.out).mono ?_
    rintro e w3 ⟨g, m, cp, r, rfl, hm2, hc2, hg2, hb2, hl⟩
    have H2 := Lib.hid (And.intro hm2 (And.intro hc2 (And.intro (Nat.le_trans L2.out.size hg2) hb2)))
    have L3 := Lib.hid (L2.out.trans (hl.mono L2.out.size))
    clear hl hm2 hc2 hg2 hb2
    go_wp2
    go_ret
    exact ⟨g, m, cp, r, rfl, by rw [HA.out]; exact H2.out.1, H2.out.2.1, H2.out.2.2.1, by rw [HA.out]; exact H2.out.2.2.2, L3.out⟩
  · have t1 : (k == 1) = false := by simpa using h1
    by_cases h4 : k = 4 ∨ k = 5
    · have HA : Hid (mol k s nm l = [st l]) := by show _ = _; unfold mol; rw [if_neg h1, if_pos h4]
      have t4 : (k == 4) = true ∨ (k == 4) = false ∧ (k == 5) = true := by
        rcases h4 with h | h <;> subst h <;> simp
      clear h1 h4
      generalize st l = r at *
      rcases t4 with t4 | ⟨t4, t5⟩
      · go_wp2_with fail
        refine (ST.out _ S1.out).mono ?_
        rintro e w2 ⟨rfl, hl⟩
        have L2 := Lib.hid (L1.out.trans (hl.mono L1.out.size))
        have L3 := Lib.hid (L2.out.alloc L2.out.size (.cells #[.string r.name, .int .i64 r.ty, .int .i64 r.ttl, .int .i64 r.n, .string r.host, .string r.text] 68))
        have N3 := Lib.hid (heap_alloc_new w2 (.cells #[.string r.name, .int .i64 r.ty, .int .i64 r.ttl, .int .i64 r.n, .string r.host, .string r.text] 68))
        have G3 : Hid (w.heap.size ≤ w2.heap.size) := L2.out.size
        clear hl
        go_wp2
        go_ret
        exact ⟨w2.heap.size, 1, 1, [], rfl, by rw [HA.out]; rfl, Nat.le_refl _, G3.out, by rw [HA.out]; exact N3.out, L3.out⟩
      · go_wp2_with fail
        refine (ST.out _ S1.out).mono ?_
        rintro e w2 ⟨rfl, hl⟩
        have L2 := Lib.hid (L1.out.trans (hl.mono L1.out.size))
        have L3 := Lib.hid (L2.out.alloc L2.out.size (.cells #[.string r.name, .int .i64 r.ty, .int .i64 r.ttl, .int .i64 r.n, .string r.host, .string r.text] 68))
        have N3 := Lib.hid (heap_alloc_new w2 (.cells #[.string r.name, .int .i64 r.ty, .int .i64 r.ttl, .int .i64 r.n, .string r.host, .string r.text] 68))
        have G3 : Hid (w.heap.size ≤ w2.heap.size) := L2.out.size
        clear hl
        go_wp2
        go_ret
        exact ⟨w2.heap.size, 1, 1, [], rfl, by rw [HA.out]; rfl, Nat.le_refl _, G3.out, by rw [HA.out]; exact N3.out, L3.out⟩
    · have t4 : (k == 4) = false := by have : ¬ k = 4 := fun e => h4 (Or.inl e); simpa using this
      have t5 : (k == 5) = false := by have : ¬ k = 5 := fun e => h4 (Or.inr e); simpa using this
      have HA : Hid (mol k s nm l = []) := by show _ = _; unfold mol; rw [if_neg h1, if_neg h4]
      clear h1 h4
      have B2 := Lib.hid (AppR.owns_new w1)
      have L2 := Lib.hid (L1.out.trans (((Below.refl w1.heap.size w1).alloc (Nat.le_refl _) (.cells #[] 68)).mono L1.out.size))
      have N2 := Lib.hid (heap_alloc_new w1 (.cells #[] 68))
      have G2 : Hid (w.heap.size ≤ w1.heap.size) := L1.out.size
      go_wp2
      go_ret
      exact ⟨w1.heap.size, 0, 0, [], rfl, by rw [HA.out]; rfl, Nat.le_refl _, G2.out, by rw [HA.out]; exact N2.out, L2.out⟩

end Go.Proofs.Ytmabbeefeipnaaa.MorS
