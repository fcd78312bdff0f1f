/- What the model's draws of any record, and of lists of records, do: records whose texts have at most 60 bytes; nothing that was there is turned but the cursor. -/
import Derived.Test.YtlakegeabnjegaaGreatDoorDrawR
import Derived.Test.YtlakegeabnjegaaGreatDoorOwnR
namespace Go.Proofs.YtlakegeabnjegaaGreatDoor.DrawA
open Go.RowKit Go.Proofs.YtlakegeabnjegaaGreatDoor.Mem Go.Proofs.YtlakegeabnjegaaGreatDoor.MemS Go.Proofs.YtlakegeabnjegaaGreatDoor.MemR Go.Proofs.YtlakegeabnjegaaGreatDoor.BoxR Go.Proofs.YtlakegeabnjegaaGreatDoor.Draw Go.Proofs.YtlakegeabnjegaaGreatDoor.DrawS Go.Proofs.YtlakegeabnjegaaGreatDoor.DrawL Go.Proofs.YtlakegeabnjegaaGreatDoor.DrawN Go.Proofs.YtlakegeabnjegaaGreatDoor.AppR Go.Proofs.YtlakegeabnjegaaGreatDoor.ResR Go.Proofs.YtlakegeabnjegaaGreatDoor.DrawR Go.Proofs.YtlakegeabnjegaaGreatDoor.OwnR

def anyTypes : List Int := [0, 3, 15, 1, 2, 6]
def anyTtls : List Int := [-1, 100000, 100001]
def anyNums : List Int := [-1, 2147483647, 2147483648, 100001, 0]
def anyTexts : List ByteArray := [⟨#[32]⟩, ⟨#[127]⟩, ⟨#[116, 104, 105, 114, 116, 101, 101, 110, 98, 121, 116, 101, 115]⟩, ⟨#[120]⟩]
theorem anyTexts_short : ∀ x ∈ anyTexts, Short x := all_short _ (by decide)

set_option maxHeartbeats 4000000 in
set_option maxRecDepth 100000 in
theorem l5Any_any (g : Nat) (w : World) (hc : Cur w g) : Calls Tryz.prog 51 #[.pointer (some ⟨g, 0, none⟩)] w (Rcd w g) := by
  have HC := Lib.hid hc
  have GL := Lib.hid hc.lt
  have Z0 := Lib.hid (zero_box w)
  clear hc
  go_enter Tryz.func51, Tryz.ntmps51
  go_wp2_with fail
  refine (l5Draw_any g _ (HC.out.alloc _)).mono ?_
  rintro e w1 ⟨r, rfl, hx, hc1, hg1⟩
  have HX := Lib.hid hx
  have Z1 := Lib.hid (Z0.out.grown hg1 (fun e => by have := GL.out; have := Option.some.inj e; omega))
  have G1 := Lib.hid (grown_trans (World.grownBy_alloc w _ (some g)) hg1)
  have B1 := Lib.hid (Bp.start hc1 G1.out GL.out Z1.out r)
  clear hx hc1 hg1 HC Z0 Z1 G1
  obtain ⟨x, t, z, k, h, y⟩ := r
  dsimp only at B1 ⊢
  go_wp2_with fail
  refine (l1Below_any g 12 _ B1.out.cur (by omega) (by omega)).mono ?_
  rintro e w2 ⟨q, rfl, hq0, hq1, hc2, hg2⟩
  have B2 := Lib.hid (B1.out.step hc2 hg2)
  clear hc2 hg2 B1
  generalize w1.heap.size = gr at *
  have hx1 : Hid (x.size ≤ 60) := HX.out.1
  have hx2 : Hid (h.size ≤ 60) := HX.out.2.1
  have hx3 : Hid (y.size ≤ 60) := HX.out.2.2
  clear HX
  by_cases q0 : q = 0
  · subst q0
    go_wp2_with fail
    refine (l3Any_any g w2 B2.out.cur).mono ?_
    rintro e w3 ⟨v, rfl, hv, hc3, hg3⟩
    have HV : Hid (v.size ≤ 60) := hv
    have B3 := Lib.hid (B2.out.step hc3 hg3)
    clear hv hc3 hg3 B2
    have B4 := Lib.hid (B3.out.set 0 (.string v) ⟨v, t, z, k, h, y⟩ rfl)
    obtain ⟨c0, c1, c2, c3, c4, c5⟩ := B3.out.1.bx
    have fc0 := B3.out.1.2.2.2.2.free 0
    obtain ⟨d0, d1, d2, d3, d4, d5⟩ := B4.out.1.bx
    obtain ⟨z0, z1, z2, z3, z4, z5⟩ := bx_of B4.out.2.2.2
    have fz0 := B4.out.2.2.2.free 0
    have fz1 := B4.out.2.2.2.free 1
    have fz2 := B4.out.2.2.2.free 2
    have fz3 := B4.out.2.2.2.free 3
    have fz4 := B4.out.2.2.2.free 4
    have fz5 := B4.out.2.2.2.free 5
    go_wp2
    exact bodyPost_ret (v := .agg #[.string ((Rec.mk v t z k h y)).name, .int .i64 ((Rec.mk v t z k h y)).ty, .int .i64 ((Rec.mk v t z k h y)).ttl, .int .i64 ((Rec.mk v t z k h y)).n, .string ((Rec.mk v t z k h y)).host, .string ((Rec.mk v t z k h y)).text]) (res1 rfl (fil_bk B4.out.2.2.2 (Rec.mk v t z k h y)) rfl) rfl (rcd_of (r := Rec.mk v t z k h y) B4.out ⟨HV.out, hx2.out, hx3.out⟩)
  by_cases q1 : q = 1
  · subst q1
    go_wp2_with fail
    refine (l1Int_any g w2.heap.size 6 anyTypes _ (B2.out.cur.alloc _) (bk_ints w2 anyTypes _ rfl) (Nat.ne_of_gt B2.out.cur.lt) rfl (by omega) (by omega)).mono ?_
    rintro e w3 ⟨v, rfl, hv, hc3, hg3⟩
    have B3 := Lib.hid ((B2.out.alloc _).step hc3 hg3)
    clear hv hc3 hg3 B2
    have B4 := Lib.hid (B3.out.set 1 (.int .i64 v) ⟨x, v, z, k, h, y⟩ rfl)
    obtain ⟨c0, c1, c2, c3, c4, c5⟩ := B3.out.1.bx
    have fc1 := B3.out.1.2.2.2.2.free 1
    obtain ⟨d0, d1, d2, d3, d4, d5⟩ := B4.out.1.bx
    obtain ⟨z0, z1, z2, z3, z4, z5⟩ := bx_of B4.out.2.2.2
    have fz0 := B4.out.2.2.2.free 0
    have fz1 := B4.out.2.2.2.free 1
    have fz2 := B4.out.2.2.2.free 2
    have fz3 := B4.out.2.2.2.free 3
    have fz4 := B4.out.2.2.2.free 4
    have fz5 := B4.out.2.2.2.free 5
    go_wp2
    exact bodyPost_ret (v := .agg #[.string ((Rec.mk x v z k h y)).name, .int .i64 ((Rec.mk x v z k h y)).ty, .int .i64 ((Rec.mk x v z k h y)).ttl, .int .i64 ((Rec.mk x v z k h y)).n, .string ((Rec.mk x v z k h y)).host, .string ((Rec.mk x v z k h y)).text]) (res1 rfl (fil_bk B4.out.2.2.2 (Rec.mk x v z k h y)) rfl) rfl (rcd_of (r := Rec.mk x v z k h y) B4.out ⟨hx1.out, hx2.out, hx3.out⟩)
  by_cases q2 : q = 2
  · subst q2
    go_wp2_with fail
    refine (l1Int_any g w2.heap.size 3 anyTtls _ (B2.out.cur.alloc _) (bk_ints w2 anyTtls _ rfl) (Nat.ne_of_gt B2.out.cur.lt) rfl (by omega) (by omega)).mono ?_
    rintro e w3 ⟨v, rfl, hv, hc3, hg3⟩
    have B3 := Lib.hid ((B2.out.alloc _).step hc3 hg3)
    clear hv hc3 hg3 B2
    have B4 := Lib.hid (B3.out.set 2 (.int .i64 v) ⟨x, t, v, k, h, y⟩ rfl)
    obtain ⟨c0, c1, c2, c3, c4, c5⟩ := B3.out.1.bx
    have fc2 := B3.out.1.2.2.2.2.free 2
    obtain ⟨d0, d1, d2, d3, d4, d5⟩ := B4.out.1.bx
    obtain ⟨z0, z1, z2, z3, z4, z5⟩ := bx_of B4.out.2.2.2
    have fz0 := B4.out.2.2.2.free 0
    have fz1 := B4.out.2.2.2.free 1
    have fz2 := B4.out.2.2.2.free 2
    have fz3 := B4.out.2.2.2.free 3
    have fz4 := B4.out.2.2.2.free 4
    have fz5 := B4.out.2.2.2.free 5
    go_wp2
    exact bodyPost_ret (v := .agg #[.string ((Rec.mk x t v k h y)).name, .int .i64 ((Rec.mk x t v k h y)).ty, .int .i64 ((Rec.mk x t v k h y)).ttl, .int .i64 ((Rec.mk x t v k h y)).n, .string ((Rec.mk x t v k h y)).host, .string ((Rec.mk x t v k h y)).text]) (res1 rfl (fil_bk B4.out.2.2.2 (Rec.mk x t v k h y)) rfl) rfl (rcd_of (r := Rec.mk x t v k h y) B4.out ⟨hx1.out, hx2.out, hx3.out⟩)
  by_cases q3 : q = 3
  · subst q3
    go_wp2_with fail
    refine (l1Int_any g w2.heap.size 5 anyNums _ (B2.out.cur.alloc _) (bk_ints w2 anyNums _ rfl) (Nat.ne_of_gt B2.out.cur.lt) rfl (by omega) (by omega)).mono ?_
    rintro e w3 ⟨v, rfl, hv, hc3, hg3⟩
    have B3 := Lib.hid ((B2.out.alloc _).step hc3 hg3)
    clear hv hc3 hg3 B2
    have B4 := Lib.hid (B3.out.set 3 (.int .i64 v) ⟨x, t, z, v, h, y⟩ rfl)
    obtain ⟨c0, c1, c2, c3, c4, c5⟩ := B3.out.1.bx
    have fc3 := B3.out.1.2.2.2.2.free 3
    obtain ⟨d0, d1, d2, d3, d4, d5⟩ := B4.out.1.bx
    obtain ⟨z0, z1, z2, z3, z4, z5⟩ := bx_of B4.out.2.2.2
    have fz0 := B4.out.2.2.2.free 0
    have fz1 := B4.out.2.2.2.free 1
    have fz2 := B4.out.2.2.2.free 2
    have fz3 := B4.out.2.2.2.free 3
    have fz4 := B4.out.2.2.2.free 4
    have fz5 := B4.out.2.2.2.free 5
    go_wp2
    exact bodyPost_ret (v := .agg #[.string ((Rec.mk x t z v h y)).name, .int .i64 ((Rec.mk x t z v h y)).ty, .int .i64 ((Rec.mk x t z v h y)).ttl, .int .i64 ((Rec.mk x t z v h y)).n, .string ((Rec.mk x t z v h y)).host, .string ((Rec.mk x t z v h y)).text]) (res1 rfl (fil_bk B4.out.2.2.2 (Rec.mk x t z v h y)) rfl) rfl (rcd_of (r := Rec.mk x t z v h y) B4.out ⟨hx1.out, hx2.out, hx3.out⟩)
  by_cases q4 : q = 4
  · subst q4
    go_wp2_with fail
    refine (l3Any_any g w2 B2.out.cur).mono ?_
    rintro e w3 ⟨v, rfl, hv, hc3, hg3⟩
    have HV : Hid (v.size ≤ 60) := hv
    have B3 := Lib.hid (B2.out.step hc3 hg3)
    clear hv hc3 hg3 B2
    have B4 := Lib.hid (B3.out.set 4 (.string v) ⟨x, t, z, k, v, y⟩ rfl)
    obtain ⟨c0, c1, c2, c3, c4, c5⟩ := B3.out.1.bx
    have fc4 := B3.out.1.2.2.2.2.free 4
    obtain ⟨d0, d1, d2, d3, d4, d5⟩ := B4.out.1.bx
    obtain ⟨z0, z1, z2, z3, z4, z5⟩ := bx_of B4.out.2.2.2
    have fz0 := B4.out.2.2.2.free 0
    have fz1 := B4.out.2.2.2.free 1
    have fz2 := B4.out.2.2.2.free 2
    have fz3 := B4.out.2.2.2.free 3
    have fz4 := B4.out.2.2.2.free 4
    have fz5 := B4.out.2.2.2.free 5
    go_wp2
    exact bodyPost_ret (v := .agg #[.string ((Rec.mk x t z k v y)).name, .int .i64 ((Rec.mk x t z k v y)).ty, .int .i64 ((Rec.mk x t z k v y)).ttl, .int .i64 ((Rec.mk x t z k v y)).n, .string ((Rec.mk x t z k v y)).host, .string ((Rec.mk x t z k v y)).text]) (res1 rfl (fil_bk B4.out.2.2.2 (Rec.mk x t z k v y)) rfl) rfl (rcd_of (r := Rec.mk x t z k v y) B4.out ⟨hx1.out, HV.out, hx3.out⟩)
  by_cases q5 : q = 5
  · subst q5
    go_wp2_with fail
    refine (l1Str_any g w2.heap.size 4 anyTexts _ (B2.out.cur.alloc _) (bk_texts w2 anyTexts _ rfl) (Nat.ne_of_gt B2.out.cur.lt) rfl (by omega) (by omega)).mono ?_
    rintro e w3 ⟨v, rfl, hv, hc3, hg3⟩
    have HV : Hid (v.size ≤ 60) := short_mid (anyTexts_short v hv)
    have B3 := Lib.hid ((B2.out.alloc _).step hc3 hg3)
    clear hv hc3 hg3 B2
    have B4 := Lib.hid (B3.out.set 5 (.string v) ⟨x, t, z, k, h, v⟩ rfl)
    obtain ⟨c0, c1, c2, c3, c4, c5⟩ := B3.out.1.bx
    have fc5 := B3.out.1.2.2.2.2.free 5
    obtain ⟨d0, d1, d2, d3, d4, d5⟩ := B4.out.1.bx
    obtain ⟨z0, z1, z2, z3, z4, z5⟩ := bx_of B4.out.2.2.2
    have fz0 := B4.out.2.2.2.free 0
    have fz1 := B4.out.2.2.2.free 1
    have fz2 := B4.out.2.2.2.free 2
    have fz3 := B4.out.2.2.2.free 3
    have fz4 := B4.out.2.2.2.free 4
    have fz5 := B4.out.2.2.2.free 5
    go_wp2
    exact bodyPost_ret (v := .agg #[.string ((Rec.mk x t z k h v)).name, .int .i64 ((Rec.mk x t z k h v)).ty, .int .i64 ((Rec.mk x t z k h v)).ttl, .int .i64 ((Rec.mk x t z k h v)).n, .string ((Rec.mk x t z k h v)).host, .string ((Rec.mk x t z k h v)).text]) (res1 rfl (fil_bk B4.out.2.2.2 (Rec.mk x t z k h v)) rfl) rfl (rcd_of (r := Rec.mk x t z k h v) B4.out ⟨hx1.out, hx2.out, HV.out⟩)
  have e0 : (q == 0) = false := beq_eq_false_iff_ne.2 q0
  have e1 : (q == 1) = false := beq_eq_false_iff_ne.2 q1
  have e2 : (q == 2) = false := beq_eq_false_iff_ne.2 q2
  have e3 : (q == 3) = false := beq_eq_false_iff_ne.2 q3
  have e4 : (q == 4) = false := beq_eq_false_iff_ne.2 q4
  have e5 : (q == 5) = false := beq_eq_false_iff_ne.2 q5
  obtain ⟨d0, d1, d2, d3, d4, d5⟩ := B2.out.1.bx
  obtain ⟨z0, z1, z2, z3, z4, z5⟩ := bx_of B2.out.2.2.2
  have fz0 := B2.out.2.2.2.free 0
  have fz1 := B2.out.2.2.2.free 1
  have fz2 := B2.out.2.2.2.free 2
  have fz3 := B2.out.2.2.2.free 3
  have fz4 := B2.out.2.2.2.free 4
  have fz5 := B2.out.2.2.2.free 5
  go_wp2
  exact bodyPost_ret (v := .agg #[.string ((Rec.mk x t z k h y)).name, .int .i64 ((Rec.mk x t z k h y)).ty, .int .i64 ((Rec.mk x t z k h y)).ttl, .int .i64 ((Rec.mk x t z k h y)).n, .string ((Rec.mk x t z k h y)).host, .string ((Rec.mk x t z k h y)).text]) (res1 rfl (fil_bk B2.out.2.2.2 (Rec.mk x t z k h y)) rfl) rfl (rcd_of (r := Rec.mk x t z k h y) B2.out ⟨hx1.out, hx2.out, hx3.out⟩)

/-- A new row of records with short texts; the cursor moved, nothing else turned. -/
def Lst (w : World) (g most : Nat) (e : Ending) (w' : World) : Prop :=
  ∃ (gl cap : Nat) (L : List Rec), e = .returned (.slice (some ⟨gl, 0, none⟩) L.length cap) ∧ w'.ownsRow w.heap.size 73 6 (.slice (some ⟨gl, 0, none⟩) L.length cap) L.length (fl L) ∧ L.length ≤ most ∧ (∀ r ∈ L, Sml r) ∧ Cur w' g ∧ w.grownBy w' (some g)
theorem own_far {w w' : World} {base g gl n cap : Nat} {L : List Rec} (h : w.ownsRow base 73 6 (.slice (some ⟨gl, 0, none⟩) n cap) n (fl L)) (hg : w.grownBy w' (some g)) (hb : g < base) : w'.ownsRow base 73 6 (.slice (some ⟨gl, 0, none⟩) n cap) n (fl L) :=
  h.kept hg (Or.inr (fun e => by have h1 := (h.lt gl rfl).1; have h2 := Option.some.inj e; simp at h2; omega))
theorem cur_far {w w' : World} {base g gl n cap : Nat} {L : List Rec} (h : Cur w g) (ho : w.ownsRow base 73 6 (.slice (some ⟨gl, 0, none⟩) n cap) n (fl L)) (hg : w.grownBy w' (some gl)) (hb : g < base) : Cur w' g :=
  h.grown hg (fun k hk => by have h1 := (ho.lt gl rfl).1; cases hk; omega)
theorem grown_far {w v v' : World} {g gl : Nat} (h : w.grownBy v (some g)) (hg : v.grownBy v' (some gl)) (hl : w.heap.size ≤ gl) : w.grownBy v' (some g) :=
  ⟨hg.os.trans h.os, hg.tape.trans h.tape, hg.output.trans h.output, Nat.le_trans h.size hg.size, fun k hk hne => (hg.block k (Nat.lt_of_lt_of_le hk h.size) (fun e => by have := Option.some.inj e; omega)).trans (h.block k hk hne)⟩

set_option maxHeartbeats 4000000 in
set_option maxRecDepth 100000 in
theorem l5List_any (g most : Nat) (w : World) (hc : Cur w g) (hm : most ≤ 100) : Calls Tryz.prog 22 #[.pointer (some ⟨g, 0, none⟩), .int .i64 (most : Int)] w (Lst w g most) := by
  have HC := Lib.hid hc
  have GL := Lib.hid hc.lt
  clear hc
  go_enter Tryz.func22, Tryz.ntmps22
  go_wp2_with fail
  refine (l1Below_any g ((most : Int) + 1) _ (HC.out.alloc _) (by omega) (by omega)).mono ?_
  rintro e w1 ⟨q, rfl, hq0, hq1, hc1, hg1⟩
  obtain ⟨q0, rfl⟩ := Int.eq_ofNat_of_zero_le hq0
  have O1 := Lib.hid (own_far (L := []) (AppR.owns_new w) hg1 GL.out)
  have C1 := Lib.hid hc1
  have G1 := Lib.hid (grown_trans (World.grownBy_alloc w (.cells #[] 73) (some g)) hg1)
  clear hc1 hg1 HC
  go_wp2
  go_loopw [5, 6] (fun v i wr => ∃ (gl m cap q : Nat) (L : List Rec), m + q ≤ most ∧ i = .int .i64 (q : Int) ∧ v = .slice (some ⟨gl, 0, none⟩) m cap ∧ Hid (wr.ownsRow w.heap.size 73 6 (.slice (some ⟨gl, 0, none⟩) m cap) m (fl L)) ∧ Hid (∀ r ∈ L, Sml r) ∧ Hid (Cur wr g) ∧ Hid (w.grownBy wr (some g))) (fun _ i _ => (intOf i).toNat)
  case atStart => exact ⟨w.heap.size, 0, 0, q0, [], by omega, rfl, rfl, O1.out, (fun r hr => by cases hr), C1.out, G1.out⟩
  case round =>
    clear O1 C1 G1
    obtain ⟨gl, m, cap, q, L, hmq, rfl, rfl, HO, HS, HC, HG⟩ := hrel
    by_cases hq : 0 < q
    · obtain ⟨p, rfl⟩ : ∃ p, q = p + 1 := ⟨q - 1, by omega⟩
      have hp0 : (0 : Int) < ((p + 1 : Nat) : Int) := by omega
      go_wp2_with fail
      refine (l5Draw_any g wr HC.out).mono ?_
      rintro e w2 ⟨r, rfl, hr, hc2, hg2⟩
      have HR := Lib.hid hr
      have O3 := Lib.hid ((own_far HO.out hg2 GL.out).alloc (.cells #[.string r.name, .int .i64 r.ty, .int .i64 r.ttl, .int .i64 r.n, .string r.host, .string r.text] 73))
      have C3 := Lib.hid (hc2.alloc (.cells #[.string r.name, .int .i64 r.ty, .int .i64 r.ttl, .int .i64 r.n, .string r.host, .string r.text] 73))
      have G3 := Lib.hid (grown_trans (grown_trans HG.out hg2) (World.grownBy_alloc w2 (.cells #[.string r.name, .int .i64 r.ty, .int .i64 r.ttl, .int .i64 r.n, .string r.host, .string r.text] 73) (some g)))
      have S3 := Lib.hid (one_sr w2 r)
      clear hr hc2 hg2 HO HC HG
      go_wp2_with (at_builtin; refine append_recs rfl (.tmp 16) (.tmp 19) rfl w.heap.size gl m cap L rfl O3.out w2.heap.size 0 1 1 _ [r] rfl S3.out ?d1 ?d2 ?d3 ?_)
      case d1 => omega
      case d2 => omega
      case d3 => exact G3.out.size
      intro g4 cap4 w4 hown hgrow
      have O4 := Lib.hid hown
      have C4 := Lib.hid (cur_far C3.out O3.out hgrow GL.out)
      have G4 := Lib.hid (grown_far G3.out hgrow (O3.out.lt gl rfl).1)
      have S4 : Hid (∀ x ∈ L ++ [r], Sml x) := fun x hx => by
        rcases List.mem_append.1 hx with hx | hx
        · exact HS.out x hx
        · rw [List.mem_singleton.1 hx]; exact HR.out
      clear hown hgrow O3 C3 G3 S3 HS HR
      go_wp2
      go_roundw
      case rel => exact ⟨g4, m + 1, cap4, p, L ++ [r], by omega, by go_num, rfl, O4.out, S4.out, C4.out, G4.out⟩
      case measure => first | (simp [intOf]; done) | (simp [intOf]; omega)
    · obtain rfl : q = 0 := by omega
      have hl := own_len HO.out
      go_wp2
      go_ret
      exact ⟨gl, cap, L, by rw [hl]; rfl, by rw [hl]; exact HO.out, by omega, HS.out, HC.out, HG.out⟩

end Go.Proofs.YtlakegeabnjegaaGreatDoor.DrawA
