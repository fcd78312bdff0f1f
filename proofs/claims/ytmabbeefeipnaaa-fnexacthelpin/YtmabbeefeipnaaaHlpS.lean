/- What HelpIn does in the model: a new slice of the addresses of the servers of the cut. Condition: at most 1048576 records, no name of more than 400000000 bytes. -/
import Derived.Test.YtmabbeefeipnaaaMorS
import Derived.Test.YtmabbeefeipnaaaHostS
import Derived.Test.YtmabbeefeipnaaaGlueS
import Derived.Deep.RegionHeld3
namespace Go.Proofs.Ytmabbeefeipnaaa.HlpS
open Go.RowKit Go.Proofs.Ytmabbeefeipnaaa.Mem Go.Proofs.Ytmabbeefeipnaaa.MemR Go.Proofs.Ytmabbeefeipnaaa.SetMath Go.Proofs.Ytmabbeefeipnaaa.NameMath Go.Proofs.Ytmabbeefeipnaaa.ZoneMath Go.Proofs.Ytmabbeefeipnaaa.ServeMath Go.Proofs.Ytmabbeefeipnaaa.MemZ Go.Proofs.Ytmabbeefeipnaaa.MemM Go.Proofs.Ytmabbeefeipnaaa.Wt Go.Proofs.Ytmabbeefeipnaaa.KindS Go.Proofs.Ytmabbeefeipnaaa.AppS Go.Proofs.Ytmabbeefeipnaaa.MemS

theorem keptm {w0 w w' : World} {g k : Nat} {s nm : ByteArray} {x : Value} {ty : Int} (m : (Zx w g s x ∧ Qx w k nm ty) ∧ Svz w0 w) (hl : Below w.heap.size w w') : (Zx w' g s x ∧ Qx w' k nm ty) ∧ Svz w0 w' := ⟨⟨m.1.1.below hl, m.1.2.below hl⟩, m.2.trans (hl.mono m.2.size)⟩

theorem keptm_draw {w0 w : World} {g k : Nat} {s nm : ByteArray} {x : Value} {ty : Int} (m : (Zx w g s x ∧ Qx w k nm ty) ∧ Svz w0 w) : (Zx w.drew g s x ∧ Qx w.drew k nm ty) ∧ Svz w0 w.drew := keptm m ((Below.refl _ _).drew)

set_option maxRecDepth 100000 in
set_option maxHeartbeats 8000000 in
theorem spec (s nm : ByteArray) (ty : Int) (b0 o0 n c : Nat) (l : List Rec) (w : World) (hs : Sr w w.heap.size (some ⟨b0, o0, none⟩) n l) (hn : n ≤ 1048576) (hm : s.size ≤ 400000000) (hq : nm.size ≤ 400000000) (hz : ∀ r ∈ l, r.name.size ≤ 400000000) :
    Calls Try.prog 24 #[.agg #[.string s, .slice (some ⟨b0, o0, none⟩) n c], .agg #[.string nm, .int .i64 ty]] w (GivesL w (hel (kd s nm ty l) s nm l)) := by
  obtain ⟨⟨hx, hy⟩, hl0⟩ := two w s nm ty (.slice (some ⟨b0, o0, none⟩) n c) 32 34
  have X0 := Lib.hid hx
  have Y0 := Lib.hid hy
  have L0 := Lib.hid hl0
  have S0 := Lib.hid (hs.on hl0)
  have KI := Lib.hid (fun W hW => KindS.spec s nm ty b0 o0 n c l W hW (by omega) hm hq hz)
  have MS := Lib.hid (fun W hW => MorS.spec s nm ty b0 o0 n c l W hW (by omega) hm hq hz)
  have HLN := Lib.hid hs.1
  have HML := Lib.hid (sf_len (cu s nm l) 2 l)
  clear hs hz hx hy hl0
  generalize kd s nm ty l = k at *
  obtain ⟨x0, x1⟩ := X0.out
  obtain ⟨y0, y1⟩ := Y0.out
  go_enter Try.func24, Try.ntmps24
  go_wp2_with fail
  refine (KI.out _ S0.out).mono ?_
  rintro e w1 ⟨rfl, hl⟩
  have X1 := Lib.hid (X0.out.below hl)
  have Y1 := Lib.hid (Y0.out.below hl)
  have S1 := Lib.hid (S0.out.on hl)
  have L1 := Lib.hid (L0.out.trans (hl.mono L0.out.size))
  clear hl KI X0 Y0 S0 L0 x0 x1 y0 y1
  obtain ⟨x0, x1⟩ := X1.out
  obtain ⟨y0, y1⟩ := Y1.out
  by_cases h1 : k = 1
  · have HA : Hid (hel k s nm l = gl (uq (hl (sf (cu s nm l) 2 l))) l) := if_pos h1
    have HM : mol k s nm l = sf (cu s nm l) 2 l := if_pos h1
    rw [HM] at MS
    subst h1
    clear HM
    generalize sf (cu s nm l) 2 l = lm at *
    have LM : Hid (lm.length ≤ 1048576) := show _ ≤ _ by have := HML.out; have := HLN.out; omega
    have HHL : Hid ((uq (hl lm)).length ≤ 1048576) := show _ ≤ _ by have h1 := len_uq (hl lm); have h2 := hl_len lm; have := LM.out; omega
    have HS := Lib.hid (fun (b o m c : Nat) (W : World) (hW : Sr W W.heap.size (some ⟨b, o, none⟩) m lm) (hm : m ≤ 400000000) => HostS.spec b o m c lm W hW hm)
    generalize uq (hl lm) = H at *
    have GS := Lib.hid (fun (h m c' : Nat) (W : World) (hW : Sr W W.heap.size (some ⟨b0, o0, none⟩) n l) (hh : Ss W W.heap.size (some ⟨h, 0, none⟩) m H) (hm : m ≤ 1048576) => GlueS.spec s b0 o0 n c l h 0 m c' H W hW hh (by omega) hm)
    have MSR : Hid (∀ W : World, ((W.cell? ⟨w.heap.size, 0, none⟩ = some (.string s) ∧ W.cell? ⟨w.heap.size, 1, none⟩ = some (.slice (some ⟨b0, o0, none⟩) n c)) ∧ (W.cell? ⟨w.heap.size + 1, 0, none⟩ = some (.string nm) ∧ W.cell? ⟨w.heap.size + 1, 1, none⟩ = some (.int .i64 ty))) ∧ Svz w1 W → Calls Try.prog 22 #[.agg #[.string s, .slice (some ⟨b0, o0, none⟩) n c], .agg #[.string nm, .int .i64 ty]] W (GivesL W lm)) := fun W hW => MS.out W (S1.out.on hW.2)
    have SS0 : ((w1.cell? ⟨w.heap.size, 0, none⟩ = some (.string s) ∧ w1.cell? ⟨w.heap.size, 1, none⟩ = some (.slice (some ⟨b0, o0, none⟩) n c)) ∧ (w1.cell? ⟨w.heap.size + 1, 0, none⟩ = some (.string nm) ∧ w1.cell? ⟨w.heap.size + 1, 1, none⟩ = some (.int .i64 ty))) ∧ Svz w1 w1 := ⟨⟨X1.out, Y1.out⟩, Below.refl _ _⟩
    go_wp2
    go_region_held3 (fun w' => ((w'.cell? ⟨w.heap.size, 0, none⟩ = some (.string s) ∧ w'.cell? ⟨w.heap.size, 1, none⟩ = some (.slice (some ⟨b0, o0, none⟩) n c)) ∧ (w'.cell? ⟨w.heap.size + 1, 0, none⟩ = some (.string nm) ∧ w'.cell? ⟨w.heap.size + 1, 1, none⟩ = some (.int .i64 ty))) ∧ Svz w1 w')
      (first | with_reducible exact SS0 | with_reducible assumption | exact keptm (by assumption) hl | exact keptm_draw (by assumption) | fail)
      (first
        | (go_at_call 22; (with_reducible refine (MSR.out _ (by assumption)).mono ?_); rintro e w2 ⟨g2, m2, c2, r2, rfl, hz2, hc2, hg2, hb2, hl⟩; have hl2 := hl)
        | (go_at_call 50; (with_reducible refine (HS.out g2 0 m2 c2 _ (bk_sr hb2 hz2) (by have := LM.out; omega)).mono ?_); rintro e w3 ⟨g3, m3, c3, r3, rfl, hz3, hc3, hg3, hb3, hl⟩; have hl3 := hl)
        | (go_at_call 49; have hS3 : Below w1.heap.size w1 w3 := (by assumption : ((w3.cell? ⟨w.heap.size, 0, none⟩ = some (.string s) ∧ w3.cell? ⟨w.heap.size, 1, none⟩ = some (.slice (some ⟨b0, o0, none⟩) n c)) ∧ (w3.cell? ⟨w.heap.size + 1, 0, none⟩ = some (.string nm) ∧ w3.cell? ⟨w.heap.size + 1, 1, none⟩ = some (.int .i64 ty))) ∧ Svz w1 w3).2; (with_reducible refine (GS.out g3 m3 _ _ (S1.out.on hS3) (bk_ssw hb3 hz3) (by have := HHL.out; omega)).mono ?_); rintro e w4 ⟨g4, m4, c4, r4, rfl, hz4, hc4, hg4, hb4, hl⟩; have hl4 := hl)
        | fail)
    rename_i hH
    have F4 := Lib.hid (And.intro hz4 (And.intro hc4 (And.intro (Nat.le_trans (Nat.le_trans L1.out.size hS3.size) hg4) hb4)))
    have L4 := Lib.hid (L1.out.trans ((show Below w1.heap.size w1 w4 from hH.2).mono L1.out.size))
    clear hH hS3 hl hl2 hl3 hl4 hz4 hc4 hg4 hb4 hz3 hc3 hg3 hb3 hz2 hc2 hg2 hb2 SS0 MSR HS GS
    go_wp2
    go_ret
    exact ⟨g4, m4, c4, r4, rfl, by rw [HA.out]; exact F4.out.1, F4.out.2.1, F4.out.2.2.1, by rw [HA.out]; exact F4.out.2.2.2, L4.out⟩
  · have t1 : (k != 1) = true := by simpa using h1
    have HA : Hid (hel k s nm l = []) := if_neg h1
    clear h1
    have B2 := Lib.hid (AppR.owns_new w1)
    have L2 := Lib.hid (L1.out.trans (((Below.refl w1.heap.size w1).alloc (Nat.le_refl _) (.cells #[] 68)).mono L1.out.size))
    have N2 := Lib.hid (heap_alloc_new w1 (.cells #[] 68))
    have G2 : Hid (w.heap.size ≤ w1.heap.size) := L1.out.size
    go_wp2
    go_ret
    exact ⟨w1.heap.size, 0, 0, [], rfl, by rw [HA.out]; rfl, Nat.le_refl _, G2.out, by rw [HA.out]; exact N2.out, L2.out⟩

end Go.Proofs.Ytmabbeefeipnaaa.HlpS
