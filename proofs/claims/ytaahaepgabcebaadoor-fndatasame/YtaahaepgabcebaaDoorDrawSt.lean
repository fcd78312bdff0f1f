/- What the model's draws of records of few names do: records whose texts have at most 60 bytes; nothing that was there is turned but the cursor. -/
import Derived.Test.YtaahaepgabcebaaDoorDrawR
import Derived.Test.YtaahaepgabcebaaDoorSetS
import Derived.Deep.RegionLaw
import Derived.Deep.DeepCutAuto
namespace Go.Proofs.YtaahaepgabcebaaDoor.DrawSt
open Go.RowKit Go.Proofs.YtaahaepgabcebaaDoor.Mem Go.Proofs.YtaahaepgabcebaaDoor.MemR Go.Proofs.YtaahaepgabcebaaDoor.BoxR Go.Proofs.YtaahaepgabcebaaDoor.Draw Go.Proofs.YtaahaepgabcebaaDoor.DrawS Go.Proofs.YtaahaepgabcebaaDoor.DrawL Go.Proofs.YtaahaepgabcebaaDoor.DrawR

/-- A row of at most 6 records, in a row of its own behind the cursor; the cursor moved, nothing else turned. -/
def Nr (w : World) (g : Nat) (e : Ending) (w' : World) : Prop :=
  ∃ (gl m cap : Nat) (L : List Rec), e = .returned (.slice (some ⟨gl, 0, none⟩) m cap) ∧ m ≤ 6 ∧ L.length = m ∧ (∀ r ∈ L, Sml r) ∧ w'.ownsRow w.heap.size 49 6 (.slice (some ⟨gl, 0, none⟩) m cap) m (fl L) ∧ Cur w' g ∧ w.grownBy w' (some g)

def near2 : List ByteArray := [⟨#[101, 120, 46, 99, 111, 109]⟩, ⟨#[110, 115, 46, 101, 120, 46, 99, 111, 109]⟩]

def near3 : List ByteArray := [⟨#[101, 120, 46, 99, 111, 109]⟩, ⟨#[110, 115, 46, 101, 120, 46, 99, 111, 109]⟩, ⟨#[99, 111, 109]⟩]

theorem near2_short : ∀ x ∈ near2, x.size ≤ 60 := by decide

theorem near3_short : ∀ x ∈ near3, x.size ≤ 60 := by decide

theorem own_far {w w' : World} {base g gl n cap : Nat} {L : List Rec} (h : w.ownsRow base 49 6 (.slice (some ⟨gl, 0, none⟩) n cap) n (fl L)) (hg : w.grownBy w' (some g)) (hb : g < base) : w'.ownsRow base 49 6 (.slice (some ⟨gl, 0, none⟩) n cap) n (fl L) :=
  h.kept hg (Or.inr (fun e => by have h1 : base ≤ gl := (h.lt gl rfl).1; have h2 : gl = g := Option.some.inj e; omega))

theorem own_set {w : World} {base gb gl n cap : Nat} {L : List Rec} (h : w.ownsRow base 49 6 (.slice (some ⟨gl, 0, none⟩) n cap) n (fl L)) (hb : gl ≠ gb) (j : Nat) (u : Value) : (w.setCell ⟨gb, j, none⟩ u).ownsRow base 49 6 (.slice (some ⟨gl, 0, none⟩) n cap) n (fl L) :=
  h.kept (grown_set (grown_refl w (some gb)) j u) (Or.inr (fun e => hb (Option.some.inj e)))

theorem cur_far {w w' : World} {base g gl n cap : Nat} {L : List Rec} (h : Cur w g) (ho : w.ownsRow base 49 6 (.slice (some ⟨gl, 0, none⟩) n cap) n (fl L)) (hg : w.grownBy w' (some gl)) (hb : g < base) : Cur w' g :=
  h.grown hg (fun k hk => by have h1 := (ho.lt gl rfl).1; cases hk; omega)

theorem grown_far {w v v' : World} {g gl : Nat} (h : w.grownBy v (some g)) (hg : v.grownBy v' (some gl)) (hl : w.heap.size ≤ gl) : w.grownBy v' (some g) :=
  ⟨hg.os.trans h.os, hg.tape.trans h.tape, hg.output.trans h.output, Nat.le_trans h.size hg.size, fun k hk hne => (hg.block k (Nat.lt_of_lt_of_le hk h.size) (fun e => by have := Option.some.inj e; omega)).trans (h.block k hk hne)⟩

set_option maxHeartbeats 4000000 in
set_option maxRecDepth 100000 in
theorem near_any (g : Nat) (w : World) (hc : Cur w g) : Calls Tryd.prog 19 #[.pointer (some ⟨g, 0, none⟩)] w (Nr w g) := by
  have mixed : Tryd.prog.follows .mixedOrders = true := by kernel_rfl
  have HC := Lib.hid hc
  have GL := Lib.hid hc.lt
  have ON := Lib.hid (AppR.owns_new w)
  clear hc
  go_enter Tryd.func19, Tryd.ntmps19
  go_wp2_with fail
  refine (l1Below_any g 6 _ (HC.out.alloc _) (by omega) (by omega)).mono ?_
  rintro e w1 ⟨q, rfl, hq0, hq1, hc1, hg1⟩
  have C1 := Lib.hid hc1
  have G1 := Lib.hid (grown_trans (World.grownBy_alloc w (.cells #[] 49) (some g)) hg1)
  have O1 := Lib.hid (ON.out.kept hg1 (Or.inr (fun e => by have h2 : w.heap.size = g := Option.some.inj e; have := GL.out; omega)))
  clear hc1 hg1 HC ON
  obtain ⟨q0, rfl⟩ := Int.eq_ofNat_of_zero_le hq0
  go_wp2
  go_loopw [3, 4] (fun v i wr => ∃ (gl m cap q : Nat) (L : List Rec), m + q ≤ 6 ∧ L.length = m ∧ i = .int .i64 (q : Int) ∧ v = .slice (some ⟨gl, 0, none⟩) m cap ∧ Hid (wr.ownsRow w.heap.size 49 6 (.slice (some ⟨gl, 0, none⟩) m cap) m (fl L)) ∧ Hid (∀ r ∈ L, Sml r) ∧ Hid (Cur wr g) ∧ Hid (w.grownBy wr (some g))) (fun _ i _ => (intOf i).toNat)
  case atStart => exact ⟨w.heap.size, 0, 0, q0, [], by omega, rfl, rfl, rfl, O1.out, (fun r hr => by cases hr), C1.out, G1.out⟩
  case round =>
    clear O1 C1 G1
    obtain ⟨gl, m, cap, q, L, hmq, hLm, rfl, rfl, HO, HS, HC, HG⟩ := hrel
    by_cases hq : 0 < q
    · obtain ⟨p, rfl⟩ : ∃ p, q = p + 1 := ⟨q - 1, by omega⟩
      have hp0 : (0 : Int) < ((p + 1 : Nat) : Int) := by omega
      go_wp2_with fail
      refine (l5Draw_any g wr HC.out).mono ?_
      rintro e w2 ⟨r, rfl, hr, hc2, hg2⟩
      have HR := Lib.hid hr
      have B3 := Lib.hid (Bo.start hc2 hg2 r)
      have O2 := Lib.hid (own_far HO.out hg2 GL.out)
      have NL : Hid (gl < w2.heap.size) := (O2.out.lt gl rfl).2
      have O3 := Lib.hid (O2.out.alloc (.cells #[.string r.name, .int .i64 r.ty, .int .i64 r.ttl, .int .i64 r.n, .string r.host, .string r.text] 49))
      clear hr hc2 hg2 HO HC O2
      go_upto_region 6 with (fail)
      generalize w2.alloc (.cells #[.string r.name, .int .i64 r.ty, .int .i64 r.ttl, .int .i64 r.n, .string r.host, .string r.text] 49) = w3 at *
      generalize w2.heap.size = gb at *
      go_wp2_with fail
      refine (l1Str_any g w3.heap.size 2 near2 _ (B3.out.2.2.1.alloc _) (bk_texts w3 near2 _ rfl) (Nat.ne_of_gt B3.out.2.2.1.lt) rfl (by omega) (by omega)).mono ?_
      rintro e w4 ⟨s, rfl, hs, hc4, hg4⟩
      have hs60 : s.size ≤ 60 := near2_short s hs
      have B4 := Lib.hid ((B3.out.alloc _).step hc4 hg4)
      have O4 := Lib.hid (own_far (O3.out.alloc _) hg4 GL.out)
      have B5 := Lib.hid (B4.out.set 0 (.string s) ⟨s, r.ty, r.ttl, r.n, r.host, r.text⟩ rfl)
      have O5 := Lib.hid (own_set O4.out (Nat.ne_of_lt NL.out) 0 (.string s))
      have S5 : Hid (Sml ⟨s, r.ty, r.ttl, r.n, r.host, r.text⟩) := ⟨hs60, HR.out.2⟩
      clear hs hc4 hg4 B3 O3
      obtain ⟨c0, c1, c2, c3, c4, c5⟩ := B4.out.bx
      have fc0 := B4.out.2.2.2.2.free 0
      go_upto_region 7 with (fail)
      clear c0 c1 c2 c3 c4 c5 fc0 B4 O4
      generalize w4.setCell ⟨gb, 0, none⟩ (.string s) = w5 at *
      go_wp2_with fail
      refine (l1Once_any g 2 w5 B5.out.2.2.1 (by omega) (by omega)).mono ?_
      rintro e w6 ⟨bb, rfl, hc6, hg6⟩
      have B6 := Lib.hid (B5.out.step hc6 hg6)
      have O6 := Lib.hid (own_far O5.out hg6 GL.out)
      clear hc6 hg6 B5 O5
      cases bb with
      | false =>
        obtain ⟨y0, y1, y2, y3, y4, y5⟩ := B6.out.bx
        go_wp2_with (at_builtin; refine SetS.append_at (w := w6) rfl (.tmp 28) (.tmp 30) rfl w.heap.size gl m cap L rfl O6.out (Rec.mk s r.ty r.ttl r.n r.host r.text) w6.heap.size rfl rfl (by omega) (by have h1 := O6.out.lt gl rfl; omega) ?_)
        intro g7 cap7 w7 hown hgrow
        have O7 := Lib.hid hown
        have OA := Lib.hid (O6.out.alloc (.cells #[.string s, .int .i64 r.ty, .int .i64 r.ttl, .int .i64 r.n, .string r.host, .string r.text] 49))
        have C7 := Lib.hid (cur_far (B6.out.2.2.1.alloc (.cells #[.string s, .int .i64 r.ty, .int .i64 r.ttl, .int .i64 r.n, .string r.host, .string r.text] 49)) OA.out hgrow GL.out)
        have G7 := Lib.hid (grown_far (grown_trans (grown_trans HG.out B6.out.2.2.2.1) (World.grownBy_alloc w6 (.cells #[.string s, .int .i64 r.ty, .int .i64 r.ttl, .int .i64 r.n, .string r.host, .string r.text] 49) (some g))) hgrow (O6.out.lt gl rfl).1)
        have S7 : Hid (∀ x ∈ L ++ [(Rec.mk s r.ty r.ttl r.n r.host r.text)], Sml x) := fun x hx => by
          rcases List.mem_append.1 hx with hx | hx
          · exact HS.out x hx
          · rw [List.mem_singleton.1 hx]; exact S5.out
        clear hown hgrow
        go_wp2
        go_roundw
        case rel => exact ⟨g7, m + 1, cap7, p, L ++ [(Rec.mk s r.ty r.ttl r.n r.host r.text)], by omega, by simp [hLm], by go_num, rfl, O7.out, S7.out, C7.out, G7.out⟩
        case measure => first | (simp [intOf]; done) | (simp [intOf]; omega)
      | true =>
        obtain ⟨c0, c1, c2, c3, c4, c5⟩ := B6.out.bx
        go_wp2_with fail
        have d0 : w6.drew.cell? ⟨gb, 0, none⟩ = some (.string s) := c0
        have d2 : w6.drew.cell? ⟨gb, 2, none⟩ = some (.int .i64 r.ttl) := c2
        have BD := Lib.hid (B6.out.step (v' := w6.drew) (B6.out.2.2.1.grown (grown_drewN (grown_refl w6 none) 1) (fun _ e => by cases e)) (grown_drewN (grown_refl w6 (some g)) 1))
        clear c0 c1 c2 c3 c4 c5
        go_region_law (first | (go_simp; go_at_call 23; refine (l1Below_any g 3 w6.drew BD.out.2.2.1 (by omega) (by omega)).mono ?_; rintro e w7 ⟨z, rfl, hz0, hz1, hc7, hg7⟩; have B7 := Lib.hid (BD.out.step hc7 hg7); obtain ⟨k0, k1, k2, k3, k4, k5⟩ := B7.out.bx; have f0 := B7.out.2.2.2.2.free 0; have f1 := B7.out.2.2.2.2.free 1; have f2 := B7.out.2.2.2.2.free 2; have f3 := B7.out.2.2.2.2.free 3; have f4 := B7.out.2.2.2.2.free 4; have f5 := B7.out.2.2.2.2.free 5; have hgD := hg7; clear hc7 hg7))
        all_goals
          have B8 := Lib.hid ((((((B7.out.set 0 (.string s) ⟨s, r.ty, r.ttl, r.n, r.host, r.text⟩ rfl).set 1 (.int .i64 1) ⟨s, 1, r.ttl, r.n, r.host, r.text⟩ rfl).set 2 (.int .i64 r.ttl) ⟨s, 1, r.ttl, r.n, r.host, r.text⟩ rfl).set 3 (.int .i64 z) ⟨s, 1, r.ttl, z, r.host, r.text⟩ rfl).set 4 (.string ⟨#[]⟩) ⟨s, 1, r.ttl, z, ⟨#[]⟩, r.text⟩ rfl).set 5 (.string ⟨#[]⟩) ⟨s, 1, r.ttl, z, ⟨#[]⟩, ⟨#[]⟩⟩ rfl)
          have O8 := Lib.hid (own_set (own_set (own_set (own_set (own_set (own_set (own_far (w' := w7) (show w6.drew.ownsRow w.heap.size 49 6 (.slice (some ⟨gl, 0, none⟩) m cap) m (fl L) from O6.out.drew) hgD GL.out) (Nat.ne_of_lt NL.out) 0 (.string s)) (Nat.ne_of_lt NL.out) 1 (.int .i64 1)) (Nat.ne_of_lt NL.out) 2 (.int .i64 r.ttl)) (Nat.ne_of_lt NL.out) 3 (.int .i64 z)) (Nat.ne_of_lt NL.out) 4 (.string ⟨#[]⟩)) (Nat.ne_of_lt NL.out) 5 (.string ⟨#[]⟩))
          clear k0 k1 k2 k3 k4 k5 f0 f1 f2 f3 f4 f5 hgD B7 BD O6 B6 d0 d2
          generalize ((((((w7.setCell ⟨gb, 0, none⟩ (.string s)).setCell ⟨gb, 1, none⟩ (.int .i64 1)).setCell ⟨gb, 2, none⟩ (.int .i64 r.ttl)).setCell ⟨gb, 3, none⟩ (.int .i64 z)).setCell ⟨gb, 4, none⟩ (.string ⟨#[]⟩)).setCell ⟨gb, 5, none⟩ (.string ⟨#[]⟩)) = w8 at *
          obtain ⟨y0, y1, y2, y3, y4, y5⟩ := B8.out.bx
          go_wp2_with (at_builtin; refine SetS.append_at (w := w8) rfl (.tmp 28) (.tmp 30) rfl w.heap.size gl m cap L rfl O8.out (Rec.mk s 1 r.ttl z ⟨#[]⟩ ⟨#[]⟩) w8.heap.size rfl rfl (by omega) (by have h1 := O8.out.lt gl rfl; omega) ?_)
          intro g9 cap9 w9 hown hgrow
          have O9 := Lib.hid hown
          have OA := Lib.hid (O8.out.alloc (.cells #[.string s, .int .i64 1, .int .i64 r.ttl, .int .i64 z, .string ⟨#[]⟩, .string ⟨#[]⟩] 49))
          have C9 := Lib.hid (cur_far (B8.out.2.2.1.alloc (.cells #[.string s, .int .i64 1, .int .i64 r.ttl, .int .i64 z, .string ⟨#[]⟩, .string ⟨#[]⟩] 49)) OA.out hgrow GL.out)
          have G9 := Lib.hid (grown_far (grown_trans (grown_trans HG.out B8.out.2.2.2.1) (World.grownBy_alloc w8 (.cells #[.string s, .int .i64 1, .int .i64 r.ttl, .int .i64 z, .string ⟨#[]⟩, .string ⟨#[]⟩] 49) (some g))) hgrow (O8.out.lt gl rfl).1)
          have S9 : Hid (∀ x ∈ L ++ [(Rec.mk s 1 r.ttl z ⟨#[]⟩ ⟨#[]⟩)], Sml x) := fun x hx => by
            rcases List.mem_append.1 hx with hx | hx
            · exact HS.out x hx
            · rw [List.mem_singleton.1 hx]; exact ⟨hs60, Nat.zero_le _, Nat.zero_le _⟩
          clear hown hgrow
          go_wp2
          go_roundw
          case rel => exact ⟨g9, m + 1, cap9, p, L ++ [(Rec.mk s 1 r.ttl z ⟨#[]⟩ ⟨#[]⟩)], by omega, by simp [hLm], by go_num, rfl, O9.out, S9.out, C9.out, G9.out⟩
          case measure => first | (simp [intOf]; done) | (simp [intOf]; omega)
    · obtain rfl : q = 0 := by omega
      go_wp2
      go_ret
      exact ⟨gl, m, cap, L, rfl, by omega, hLm, HS.out, HO.out, HC.out, HG.out⟩
end Go.Proofs.YtaahaepgabcebaaDoor.DrawSt
