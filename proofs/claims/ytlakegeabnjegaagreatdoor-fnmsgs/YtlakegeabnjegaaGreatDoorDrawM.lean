/- What the model's draws of questions and of messages do: texts of at most 60 bytes, sections of at most three records; nothing that was there is turned but the cursor. -/
import Derived.Test.YtlakegeabnjegaaGreatDoorDrawA
import Derived.Test.YtlakegeabnjegaaGreatDoorAskM
import Derived.Test.YtlakegeabnjegaaGreatDoorMarkS
namespace Go.Proofs.YtlakegeabnjegaaGreatDoor.DrawM
open Go.RowKit Go.Proofs.YtlakegeabnjegaaGreatDoor.Mem Go.Proofs.YtlakegeabnjegaaGreatDoor.MemS Go.Proofs.YtlakegeabnjegaaGreatDoor.MemR Go.Proofs.YtlakegeabnjegaaGreatDoor.BoxR Go.Proofs.YtlakegeabnjegaaGreatDoor.Draw Go.Proofs.YtlakegeabnjegaaGreatDoor.DrawS Go.Proofs.YtlakegeabnjegaaGreatDoor.DrawL Go.Proofs.YtlakegeabnjegaaGreatDoor.DrawN Go.Proofs.YtlakegeabnjegaaGreatDoor.AppR Go.Proofs.YtlakegeabnjegaaGreatDoor.ResR Go.Proofs.YtlakegeabnjegaaGreatDoor.DrawR Go.Proofs.YtlakegeabnjegaaGreatDoor.OwnR Go.Proofs.YtlakegeabnjegaaGreatDoor.DrawA Go.Proofs.YtlakegeabnjegaaGreatDoor.MemM Go.Proofs.YtlakegeabnjegaaGreatDoor.ResM Go.Proofs.YtlakegeabnjegaaGreatDoor.AskM

/-- A question with a short name; the cursor moved, nothing else turned. -/
def Qst (w : World) (g : Nat) (e : Ending) (w' : World) : Prop := ∃ (s : ByteArray) (n : Int), e = .returned (.agg #[.string s, .int .i64 n]) ∧ s.size ≤ 60 ∧ Cur w' g ∧ w.grownBy w' (some g)
theorem results_q {fn : Func} {p : Tmp} {w : World} {g : Nat} {t : TypeId} {s : ByteArray} {n : Int} {tmps : Array Value} (hf : fn.results = #[.cell p 25]) (k : Bk w g t [.string s, .int .i64 n]) (h4 : tmps.getD p undef = .pointer (some ⟨g, 0, none⟩)) :
    (results fn tmps).run Tryz.prog w = .ok (.agg #[.string s, .int .i64 n]) w := by
  have c0 := k.cell 0
  have c1 := k.cell 1
  rw [results_cell hf, h4, as_addr]
  simp [Result.andThen, go_sem, c0, c1]

set_option maxHeartbeats 4000000 in
theorem l7Quest_any (g : Nat) (w : World) (hc : Cur w g) : Calls Tryz.prog 26 #[.pointer (some ⟨g, 0, none⟩)] w (Qst w g) := by
  have HC := Lib.hid hc
  have GL := Lib.hid hc.lt
  have Z0 : Hid (Bk (w.alloc (.cells #[.string ⟨#[]⟩, .int .i64 0] 25)) w.heap.size 25 [.string ⟨#[]⟩, .int .i64 0]) := heap_alloc_new w _
  clear hc
  go_enter Tryz.func26, Tryz.ntmps26
  go_wp2_with fail
  refine (l3Name_any g _ (HC.out.alloc _)).mono ?_
  rintro e w1 ⟨s, rfl, hs, hc1, hg1⟩
  have HS : Hid (s.size ≤ 60) := short_mid hs
  have Z1 := Lib.hid (Z0.out.grown hg1 (fun e => by have := GL.out; have := Option.some.inj e; omega))
  have G1 := Lib.hid (grown_trans (World.grownBy_alloc w _ (some g)) hg1)
  have C1 := Lib.hid hc1
  clear hs hc1 hg1 HC Z0
  go_wp2_with fail
  refine (l5Type_any g w1 C1.out).mono ?_
  rintro e w2 ⟨n, rfl, -, hc2, hg2⟩
  have Z2 := Lib.hid (Z1.out.grown hg2 (fun e => by have := GL.out; have := Option.some.inj e; omega))
  have G2 := Lib.hid (grown_trans G1.out hg2)
  have C2 := Lib.hid hc2
  clear hc2 hg2 C1 Z1 G1
  have z0 : w2.cell? ⟨w.heap.size, 0, none⟩ = some (.string ⟨#[]⟩) := Z2.out.cell 0
  have z1 : w2.cell? ⟨w.heap.size, 1, none⟩ = some (.int .i64 0) := Z2.out.cell 1
  have f0 := Z2.out.free 0
  have f1 := Z2.out.free 1
  have F := Lib.hid ((Z2.out.set 0 (.string s)).set 1 (.int .i64 n))
  have CF := Lib.hid (cur_new (cur_new C2.out GL.out 0 (.string s)) GL.out 1 (.int .i64 n))
  have GF := Lib.hid (grown_new (grown_new G2.out (Nat.le_refl _) 0 (.string s)) (Nat.le_refl _) 1 (.int .i64 n))
  go_wp2
  exact bodyPost_ret (v := .agg #[.string s, .int .i64 n]) (results_q rfl F.out rfl) rfl ⟨s, n, rfl, HS.out, CF.out, GF.out⟩

/-- A drawn message under way: the result's box still empty, the message's own box, the cursor, nothing else turned. -/
def Bq (w : World) (g gm : Nat) (h : Hd) (x y z : Value) (v : World) : Prop := g < w.heap.size ∧ w.heap.size < gm ∧ Cur v g ∧ w.grownBy v (some g) ∧ Bk v w.heap.size 28 (mc zh (.slice none 0 0) (.slice none 0 0) (.slice none 0 0)) ∧ Bk v gm 28 (mc h x y z)
section
variable {w v v' : World} {g gm : Nat} {h h' : Hd} {x y z x' y' z' : Value}
theorem Bq.cur (k : Bq w g gm h x y z v) : Cur v g := k.2.2.1
theorem Bq.step (k : Bq w g gm h x y z v) (hc : Cur v' g) (hg : v.grownBy v' (some g)) : Bq w g gm h x y z v' :=
  ⟨k.1, k.2.1, hc, grown_trans k.2.2.2.1 hg, k.2.2.2.2.1.grown hg (fun e => by have := Option.some.inj e; have := k.1; omega), k.2.2.2.2.2.grown hg (fun e => by have := Option.some.inj e; have := k.1; have := k.2.1; omega)⟩
theorem Bq.alloc (k : Bq w g gm h x y z v) (o : Obj) : Bq w g gm h x y z (v.alloc o) := k.step (k.cur.alloc o) (World.grownBy_alloc v o _)
theorem Bq.set (k : Bq w g gm h x y z v) (j : Nat) (u : Value) (e : (mc h x y z).set j u = mc h' x' y' z') : Bq w g gm h' x' y' z' (v.setCell ⟨gm, j, none⟩ u) :=
  ⟨k.1, k.2.1, cur_new k.cur (by have := k.1; have := k.2.1; omega) j u, grown_new k.2.2.2.1 (Nat.le_of_lt k.2.1) j u, k.2.2.2.2.1.other (p := ⟨gm, j, none⟩) (Nat.ne_of_lt k.2.1) u, e ▸ k.2.2.2.2.2.set j u⟩
theorem Bq.start (hc : Cur v g) (k : w.grownBy v (some g)) (hg : g < w.heap.size) (hz : Bk v w.heap.size 28 (mc zh (.slice none 0 0) (.slice none 0 0) (.slice none 0 0))) (h : Hd) (x y z : Value) : Bq w g v.heap.size h x y z (v.alloc (.cells #[.int .i64 h.id, .bool h.rp, .bool h.au, .bool h.ct, .bool h.wa, .bool h.ca, .int .i64 h.code, .string h.qn, .int .i64 h.qt, x, y, z] 28)) :=
  ⟨hg, hz.lt, hc.alloc _, grown_trans k (World.grownBy_alloc v _ _), hz.alloc _, heap_alloc_new v _⟩
theorem filM_grown (v : World) (g : Nat) (h : Hd) (x y z : Value) : v.grownBy (filM v g h x y z) (some g) :=
  (Draw.grown_set (Draw.grown_set (Draw.grown_set (Draw.grown_set (Draw.grown_set (Draw.grown_set (Draw.grown_set (Draw.grown_set (Draw.grown_set (Draw.grown_set (Draw.grown_set (Draw.grown_set (Draw.grown_refl v (some g)) 0 (.int .i64 h.id)) 1 (.bool h.rp)) 2 (.bool h.au)) 3 (.bool h.ct)) 4 (.bool h.wa)) 5 (.bool h.ca)) 6 (.int .i64 h.code)) 7 (.string h.qn)) 8 (.int .i64 h.qt)) 9 (x)) 10 (y)) 11 (z))
theorem Bq.fil (k : Bq w g gm h x y z v) : Bk (filM v w.heap.size h x y z) w.heap.size 28 (mc h x y z) ∧ Cur (filM v w.heap.size h x y z) g ∧ w.grownBy (filM v w.heap.size h x y z) (some g) :=
  ⟨filM_bk k.2.2.2.2.1 h x y z, k.cur.grown (filM_grown v w.heap.size h x y z) (fun j hj => by cases hj; exact k.1), grown_far k.2.2.2.1 (filM_grown v w.heap.size h x y z) (Nat.le_refl _)⟩
end
/-- A section: nil, or a row of the call's own from base on. -/
def Sec (w : World) (base : Nat) (A : Option Addr) (n c : Nat) (l : List Rec) : Prop :=
  (A = none ∧ n = 0 ∧ c = 0 ∧ l = []) ∨ ∃ gl, A = some ⟨gl, 0, none⟩ ∧ w.ownsRow base 73 6 (.slice (some ⟨gl, 0, none⟩) n c) n (fl l)
/-- The section's block, where it has one, lies below b. -/
def Und (A : Option Addr) (b : Nat) : Prop := ∀ gl, A = some ⟨gl, 0, none⟩ → gl < b
theorem und_none (b : Nat) : Und none b := fun _ h => by cases h
theorem Sec.far {w w' : World} {base k : Nat} {A : Option Addr} {n c : Nat} {l : List Rec} (s : Sec w base A n c l) (hg : w.grownBy w' (some k)) (hb : k < base) : Sec w' base A n c l := by
  rcases s with h | ⟨gl, e, ho⟩
  · exact Or.inl h
  · exact Or.inr ⟨gl, e, own_far ho hg hb⟩
theorem Sec.sr {w : World} {base : Nat} {A : Option Addr} {n c : Nat} {l : List Rec} (s : Sec w base A n c l) : Sr w w.heap.size A n l ∧ l.length = n := by
  rcases s with ⟨rfl, rfl, rfl, rfl⟩ | ⟨gl, rfl, ho⟩
  · exact ⟨Sr.nil, rfl⟩
  · obtain ⟨r, hb, _⟩ := bk_of_owns6 ho
    exact ⟨bk_sr hb (own_len ho), own_len ho⟩
/-- A drawn message: its name is short, its sections are rows of their own, one behind the other, with short records. -/
def Drm (w : World) (g : Nat) (e : Ending) (w' : World) : Prop :=
  ∃ (h : Hd) (A1 : Option Addr) (n1 c1 : Nat) (l1 : List Rec) (b1 : Nat) (A2 : Option Addr) (n2 c2 : Nat) (l2 : List Rec) (b2 : Nat) (A3 : Option Addr) (n3 c3 : Nat) (l3 : List Rec) (b3 : Nat),
    e = .returned (.agg #[.int .i64 h.id, .bool h.rp, .bool h.au, .bool h.ct, .bool h.wa, .bool h.ca, .int .i64 h.code, .string h.qn, .int .i64 h.qt, .slice A1 n1 c1, .slice A2 n2 c2, .slice A3 n3 c3]) ∧ h.qn.size ≤ 60 ∧ (Sec w' b1 A1 n1 c1 l1 ∧ n1 ≤ 3 ∧ ∀ r ∈ l1, Sml r) ∧ (Sec w' b2 A2 n2 c2 l2 ∧ n2 ≤ 3 ∧ ∀ r ∈ l2, Sml r) ∧ (Sec w' b3 A3 n3 c3 l3 ∧ n3 ≤ 3 ∧ ∀ r ∈ l3, Sml r) ∧
    (w.heap.size < b1 ∧ Und A1 b2 ∧ b1 ≤ b2 ∧ Und A1 b3 ∧ Und A2 b3 ∧ b2 ≤ b3 ∧ b3 ≤ w'.heap.size) ∧ Cur w' g ∧ w.grownBy w' (some g)
def codes : List Int := [0, 0, 0, 3, 2, 5, 15]

set_option maxRecDepth 100000 in
set_option maxHeartbeats 8000000 in
theorem l7Draw_any (g : Nat) (w : World) (hc : Cur w g) : Calls Tryz.prog 48 #[.pointer (some ⟨g, 0, none⟩)] w (Drm w g) := by
  have HC := Lib.hid hc
  have GL := Lib.hid hc.lt
  have Z0 : Hid (Bk (w.alloc (.cells #[.int .i64 0, .bool false, .bool false, .bool false, .bool false, .bool false, .int .i64 0, .string ⟨#[]⟩, .int .i64 0, .slice none 0 0, .slice none 0 0, .slice none 0 0] 28)) w.heap.size 28 (mc zh (.slice none 0 0) (.slice none 0 0) (.slice none 0 0))) := heap_alloc_new w _
  clear hc
  go_enter Tryz.func48, Tryz.ntmps48
  go_wp2_with fail
  refine (l1Below_any g 70000 _ (HC.out.alloc _) (by omega) (by omega)).mono ?_
  rintro e w1 ⟨q, rfl, hq0, hq1, hc1, hg1⟩
  have Z1 := Lib.hid (Z0.out.grown hg1 (fun e => by have := GL.out; have := Option.some.inj e; omega))
  have G1 := Lib.hid (grown_trans (World.grownBy_alloc w _ (some g)) hg1)
  have C1 := Lib.hid hc1
  clear hc1 hg1 HC Z0
  go_wp2_with fail
  refine (l7Quest_any g w1 C1.out).mono ?_
  rintro e w2 ⟨s, n, rfl, hs, hc2, hg2⟩
  have HS := Lib.hid hs
  have Z2 := Lib.hid (Z1.out.grown hg2 (fun e => by have := GL.out; have := Option.some.inj e; omega))
  have G2 := Lib.hid (grown_trans G1.out hg2)
  have C2 := Lib.hid hc2
  clear hs hc2 hg2 C1 Z1 G1
  go_wp2_with fail
  generalize q % 65536 = id at *
  refine (AskM.spec id s n w2).mono ?_
  rintro e w3 ⟨rfl, hl⟩
  have Z3 := Lib.hid (Z2.out.below hl Z2.out.lt)
  have G3 := Lib.hid (grown_trans G2.out (MarkS.grown_of_below hl (some g)))
  have C3 := Lib.hid (C2.out.grown (MarkS.grown_of_below hl none) (fun k hk => by cases hk))
  clear hl C2 Z2 G2 hq0 hq1
  have B3 := Lib.hid (Bq.start C3.out G3.out GL.out Z3.out (askh id s n) (.slice none 0 0) (.slice none 0 0) (.slice none 0 0))
  clear C3 G3 Z3
  go_wp2_with fail
  refine (l1Once_any g 3 _ B3.out.cur (by omega) (by omega)).mono ?_
  rintro e w4 ⟨b, rfl, hc4, hg4⟩
  have B4 := Lib.hid (B3.out.step hc4 hg4)
  clear hc4 hg4 B3
  generalize w3.heap.size = gm at *
  cases b
  · have NG := Lib.hid (show g < gm by have := B4.out.1; have := B4.out.2.1; omega)
    have NW := Lib.hid B4.out.2.1
    have c1 := (mx_of B4.out.2.2.2.2.2).2.1
    have f1 := B4.out.2.2.2.2.2.free 1
    have B5 : Hid (Bq w g gm ⟨id, true, false, false, false, false, 0, s, n⟩ (.slice none 0 0) (.slice none 0 0) (.slice none 0 0) (w4.setCell ⟨gm, 1, none⟩ (.bool true))) := B4.out.set 1 (.bool true) rfl
    go_wp2_with fail
    refine (l1Once_any g 2 _ B5.out.cur (by omega) (by omega)).mono ?_
    rintro e w5 ⟨au, rfl, hc, hg⟩
    have B6 := Lib.hid (B5.out.step hc hg)
    clear hc hg B5 c1 f1 B4
    have c2 := (mx_of B6.out.2.2.2.2.2).2.2.1
    have f2 := B6.out.2.2.2.2.2.free 2
    have B7 : Hid (Bq w g gm ⟨id, true, au, false, false, false, 0, s, n⟩ (.slice none 0 0) (.slice none 0 0) (.slice none 0 0) (w5.setCell ⟨gm, 2, none⟩ (.bool au))) := B6.out.set 2 (.bool au) rfl
    go_wp2_with fail
    refine (l1Once_any g 9 _ B7.out.cur (by omega) (by omega)).mono ?_
    rintro e w7 ⟨ct, rfl, hc, hg⟩
    have B8 := Lib.hid (B7.out.step hc hg)
    clear hc hg B7 c2 f2 B6
    have c3 := (mx_of B8.out.2.2.2.2.2).2.2.2.1
    have f3 := B8.out.2.2.2.2.2.free 3
    have B9 : Hid (Bq w g gm ⟨id, true, au, ct, false, false, 0, s, n⟩ (.slice none 0 0) (.slice none 0 0) (.slice none 0 0) (w7.setCell ⟨gm, 3, none⟩ (.bool ct))) := B8.out.set 3 (.bool ct) rfl
    go_wp2_with fail
    refine (l1Once_any g 5 _ B9.out.cur (by omega) (by omega)).mono ?_
    rintro e w9 ⟨ca, rfl, hc, hg⟩
    have B10 := Lib.hid (B9.out.step hc hg)
    clear hc hg B9 c3 f3 B8
    have c5 := (mx_of B10.out.2.2.2.2.2).2.2.2.2.2.1
    have f5 := B10.out.2.2.2.2.2.free 5
    have B11 : Hid (Bq w g gm ⟨id, true, au, ct, false, ca, 0, s, n⟩ (.slice none 0 0) (.slice none 0 0) (.slice none 0 0) (w9.setCell ⟨gm, 5, none⟩ (.bool ca))) := B10.out.set 5 (.bool ca) rfl
    have hsz : (w9.setCell ⟨gm, 5, none⟩ (.bool ca)).heap.size = w9.heap.size := by simp [World.setCell]
    have KI : Bk ((w9.setCell ⟨gm, 5, none⟩ (.bool ca)).alloc (.cells #[.int .i64 0, .int .i64 0, .int .i64 0, .int .i64 3, .int .i64 2, .int .i64 5, .int .i64 15] 3)) w9.heap.size 3 (codes.map (Value.int .i64)) := by
      have := bk_ints (w9.setCell ⟨gm, 5, none⟩ (.bool ca)) codes _ rfl
      rwa [hsz] at this
    have KI2 := Lib.hid KI
    have hng : w9.heap.size ≠ g := by have := B11.out.cur.lt; rw [hsz] at this; omega
    clear KI hsz
    go_wp2_with fail
    refine (l1Int_any g w9.heap.size 7 codes _ (B11.out.cur.alloc _) KI2.out hng rfl (by omega) (by omega)).mono ?_
    rintro e w11 ⟨code, rfl, -, hc, hg⟩
    have B12 := Lib.hid ((B11.out.alloc _).step hc hg)
    clear hc hg hng KI2 B11 c5 f5 B10
    have c6 := (mx_of B12.out.2.2.2.2.2).2.2.2.2.2.2.1
    have f6 := B12.out.2.2.2.2.2.free 6
    have B13 : Hid (Bq w g gm ⟨id, true, au, ct, false, ca, code, s, n⟩ (.slice none 0 0) (.slice none 0 0) (.slice none 0 0) (w11.setCell ⟨gm, 6, none⟩ (.int .i64 code))) := B12.out.set 6 (.int .i64 code) rfl
    have M1 := Lib.hid B13.out.2.2.2.2.2.lt
    obtain ⟨b1, hb1⟩ : ∃ b, (w11.setCell ⟨gm, 6, none⟩ (.int .i64 code)).heap.size = b := ⟨_, rfl⟩
    have HB1 := Lib.hid hb1
    clear hb1
    go_wp2_with fail
    refine (l5List_any g 3 _ B13.out.cur (by omega)).mono ?_
    rintro e w13 ⟨u1, a1, L1, rfl, ho, hL1, hS1, hc, hg⟩
    rw [HB1.out] at ho
    have MM1 : Hid (gm < b1) := by show _ < _; rw [← HB1.out]; exact M1.out
    have SS1 := Lib.hid hS1
    have O1 := Lib.hid ho
    have B14 := Lib.hid (B13.out.step hc hg)
    clear ho hS1 hc hg HB1 M1 B13 c6 f6 B12
    obtain ⟨n1, hn1⟩ : ∃ n, L1.length = n := ⟨_, rfl⟩
    rw [hn1] at O1 hL1 ⊢
    have HN1 := Lib.hid hn1
    clear hn1
    have c9 := (mx_of B14.out.2.2.2.2.2).2.2.2.2.2.2.2.2.2.1
    have f9 := B14.out.2.2.2.2.2.free 9
    have B15 : Hid (Bq w g gm ⟨id, true, au, ct, false, ca, code, s, n⟩ (.slice (some ⟨u1, 0, none⟩) n1 a1) (.slice none 0 0) (.slice none 0 0) (w13.setCell ⟨gm, 9, none⟩ (.slice (some ⟨u1, 0, none⟩) n1 a1))) := B14.out.set 9 (.slice (some ⟨u1, 0, none⟩) n1 a1) rfl
    have O1' := Lib.hid (own_far O1.out (Draw.grown_set (Draw.grown_refl w13 (some gm)) 9 (.slice (some ⟨u1, 0, none⟩) n1 a1)) MM1.out)
    clear O1
    have O1 := O1'
    clear O1'
    have M2 := Lib.hid B15.out.2.2.2.2.2.lt
    obtain ⟨b2, hb2⟩ : ∃ b, (w13.setCell ⟨gm, 9, none⟩ (.slice (some ⟨u1, 0, none⟩) n1 a1)).heap.size = b := ⟨_, rfl⟩
    have U12 : Hid (u1 < b2) := by show _ < _; rw [← hb2]; exact (O1.out.lt u1 rfl).2
    have HB2 := Lib.hid hb2
    clear hb2
    go_wp2_with fail
    refine (l5List_any g 2 _ B15.out.cur (by omega)).mono ?_
    rintro e w15 ⟨u2, a2, L2, rfl, ho, hL2, hS2, hc, hg⟩
    rw [HB2.out] at ho
    have MM2 : Hid (gm < b2) := by show _ < _; rw [← HB2.out]; exact M2.out
    have SS2 := Lib.hid hS2
    have O2 := Lib.hid ho
    have O1' := Lib.hid (own_far O1.out hg (by have := MM1.out; have := GL.out; have := NG.out; omega))
    clear O1
    have O1 := O1'
    clear O1'
    have B16 := Lib.hid (B15.out.step hc hg)
    clear ho hS2 hc hg HB2 M2 B15 c9 f9 B14
    obtain ⟨n2, hn2⟩ : ∃ n, L2.length = n := ⟨_, rfl⟩
    rw [hn2] at O2 hL2 ⊢
    have HN2 := Lib.hid hn2
    clear hn2
    have c10 := (mx_of B16.out.2.2.2.2.2).2.2.2.2.2.2.2.2.2.2.1
    have f10 := B16.out.2.2.2.2.2.free 10
    have B17 : Hid (Bq w g gm ⟨id, true, au, ct, false, ca, code, s, n⟩ (.slice (some ⟨u1, 0, none⟩) n1 a1) (.slice (some ⟨u2, 0, none⟩) n2 a2) (.slice none 0 0) (w15.setCell ⟨gm, 10, none⟩ (.slice (some ⟨u2, 0, none⟩) n2 a2))) := B16.out.set 10 (.slice (some ⟨u2, 0, none⟩) n2 a2) rfl
    have O1' := Lib.hid (own_far O1.out (Draw.grown_set (Draw.grown_refl w15 (some gm)) 10 (.slice (some ⟨u2, 0, none⟩) n2 a2)) MM1.out)
    clear O1
    have O1 := O1'
    clear O1'
    have O2' := Lib.hid (own_far O2.out (Draw.grown_set (Draw.grown_refl w15 (some gm)) 10 (.slice (some ⟨u2, 0, none⟩) n2 a2)) MM2.out)
    clear O2
    have O2 := O2'
    clear O2'
    have M3 := Lib.hid B17.out.2.2.2.2.2.lt
    obtain ⟨b3, hb3⟩ : ∃ b, (w15.setCell ⟨gm, 10, none⟩ (.slice (some ⟨u2, 0, none⟩) n2 a2)).heap.size = b := ⟨_, rfl⟩
    have U13 : Hid (u1 < b3) := by show _ < _; rw [← hb3]; exact (O1.out.lt u1 rfl).2
    have U23 : Hid (u2 < b3) := by show _ < _; rw [← hb3]; exact (O2.out.lt u2 rfl).2
    have HB3 := Lib.hid hb3
    clear hb3
    go_wp2_with fail
    refine (l5List_any g 2 _ B17.out.cur (by omega)).mono ?_
    rintro e w17 ⟨u3, a3, L3, rfl, ho, hL3, hS3, hc, hg⟩
    rw [HB3.out] at ho
    have MM3 : Hid (gm < b3) := by show _ < _; rw [← HB3.out]; exact M3.out
    have SS3 := Lib.hid hS3
    have O3 := Lib.hid ho
    have O1' := Lib.hid (own_far O1.out hg (by have := MM1.out; have := GL.out; have := NG.out; omega))
    clear O1
    have O1 := O1'
    clear O1'
    have O2' := Lib.hid (own_far O2.out hg (by have := MM2.out; have := GL.out; have := NG.out; omega))
    clear O2
    have O2 := O2'
    clear O2'
    have B18 := Lib.hid (B17.out.step hc hg)
    clear ho hS3 hc hg HB3 M3 B17 c10 f10 B16
    obtain ⟨n3, hn3⟩ : ∃ n, L3.length = n := ⟨_, rfl⟩
    rw [hn3] at O3 hL3 ⊢
    have HN3 := Lib.hid hn3
    clear hn3
    have c11 := (mx_of B18.out.2.2.2.2.2).2.2.2.2.2.2.2.2.2.2.2
    have f11 := B18.out.2.2.2.2.2.free 11
    have B19 : Hid (Bq w g gm ⟨id, true, au, ct, false, ca, code, s, n⟩ (.slice (some ⟨u1, 0, none⟩) n1 a1) (.slice (some ⟨u2, 0, none⟩) n2 a2) (.slice (some ⟨u3, 0, none⟩) n3 a3) (w17.setCell ⟨gm, 11, none⟩ (.slice (some ⟨u3, 0, none⟩) n3 a3))) := B18.out.set 11 (.slice (some ⟨u3, 0, none⟩) n3 a3) rfl
    have O1' := Lib.hid (own_far O1.out (Draw.grown_set (Draw.grown_refl w17 (some gm)) 11 (.slice (some ⟨u3, 0, none⟩) n3 a3)) MM1.out)
    clear O1
    have O1 := O1'
    clear O1'
    have O2' := Lib.hid (own_far O2.out (Draw.grown_set (Draw.grown_refl w17 (some gm)) 11 (.slice (some ⟨u3, 0, none⟩) n3 a3)) MM2.out)
    clear O2
    have O2 := O2'
    clear O2'
    have O3' := Lib.hid (own_far O3.out (Draw.grown_set (Draw.grown_refl w17 (some gm)) 11 (.slice (some ⟨u3, 0, none⟩) n3 a3)) MM3.out)
    clear O3
    have O3 := O3'
    clear O3'
    have NB1 : Hid (w.heap.size < b1) := by show _ < _; have := MM1.out; have := NW.out; omega
    have V1 := Lib.hid (own_far O1.out (filM_grown (w17.setCell ⟨gm, 11, none⟩ (.slice (some ⟨u3, 0, none⟩) n3 a3)) w.heap.size (Hd.mk id true au ct false ca code s n) (.slice (some ⟨u1, 0, none⟩) n1 a1) (.slice (some ⟨u2, 0, none⟩) n2 a2) (.slice (some ⟨u3, 0, none⟩) n3 a3)) (by have := MM1.out; have := NW.out; omega))
    have V2 := Lib.hid (own_far O2.out (filM_grown (w17.setCell ⟨gm, 11, none⟩ (.slice (some ⟨u3, 0, none⟩) n3 a3)) w.heap.size (Hd.mk id true au ct false ca code s n) (.slice (some ⟨u1, 0, none⟩) n1 a1) (.slice (some ⟨u2, 0, none⟩) n2 a2) (.slice (some ⟨u3, 0, none⟩) n3 a3)) (by have := MM2.out; have := NW.out; omega))
    have V3 := Lib.hid (own_far O3.out (filM_grown (w17.setCell ⟨gm, 11, none⟩ (.slice (some ⟨u3, 0, none⟩) n3 a3)) w.heap.size (Hd.mk id true au ct false ca code s n) (.slice (some ⟨u1, 0, none⟩) n1 a1) (.slice (some ⟨u2, 0, none⟩) n2 a2) (.slice (some ⟨u3, 0, none⟩) n3 a3)) (by have := MM3.out; have := NW.out; omega))
    have LB12 : Hid (b1 ≤ b2) := by show _ ≤ _; have h1 := (O1.out.lt u1 rfl).1; have := U12.out; omega
    have LB23 : Hid (b2 ≤ b3) := by show _ ≤ _; have h1 := (O2.out.lt u2 rfl).1; have := U23.out; omega
    obtain ⟨x0, x1, x2, x3, x4, x5, x6, x7, x8, x9, x10, x11⟩ := mx_of B19.out.2.2.2.2.2
    obtain ⟨z0, z1, z2, z3, z4, z5, z6, z7, z8, z9, z10, z11⟩ := mx_of B19.out.2.2.2.2.1
    have q0 := B19.out.2.2.2.2.1.free 0
    have q1 := B19.out.2.2.2.2.1.free 1
    have q2 := B19.out.2.2.2.2.1.free 2
    have q3 := B19.out.2.2.2.2.1.free 3
    have q4 := B19.out.2.2.2.2.1.free 4
    have q5 := B19.out.2.2.2.2.1.free 5
    have q6 := B19.out.2.2.2.2.1.free 6
    have q7 := B19.out.2.2.2.2.1.free 7
    have q8 := B19.out.2.2.2.2.1.free 8
    have q9 := B19.out.2.2.2.2.1.free 9
    have q10 := B19.out.2.2.2.2.1.free 10
    have q11 := B19.out.2.2.2.2.1.free 11
    have FF := Lib.hid B19.out.fil
    go_wp2
    exact bodyPost_ret (v := .agg #[.int .i64 (Hd.mk id true au ct false ca code s n).id, .bool (Hd.mk id true au ct false ca code s n).rp, .bool (Hd.mk id true au ct false ca code s n).au, .bool (Hd.mk id true au ct false ca code s n).ct, .bool (Hd.mk id true au ct false ca code s n).wa, .bool (Hd.mk id true au ct false ca code s n).ca, .int .i64 (Hd.mk id true au ct false ca code s n).code, .string (Hd.mk id true au ct false ca code s n).qn, .int .i64 (Hd.mk id true au ct false ca code s n).qt, .slice (some ⟨u1, 0, none⟩) n1 a1, .slice (some ⟨u2, 0, none⟩) n2 a2, .slice (some ⟨u3, 0, none⟩) n3 a3]) (res1M rfl FF.out.1 rfl) rfl ⟨Hd.mk id true au ct false ca code s n, _, n1, a1, L1, b1, _, n2, a2, L2, b2, _, n3, a3, L3, b3, rfl, HS.out, ⟨Or.inr ⟨u1, rfl, V1.out⟩, hL1, SS1.out⟩, ⟨Or.inr ⟨u2, rfl, V2.out⟩, by omega, SS2.out⟩, ⟨Or.inr ⟨u3, rfl, V3.out⟩, by omega, SS3.out⟩, ⟨NB1.out, (fun gl e => by cases e; exact U12.out), LB12.out, (fun gl e => by cases e; exact U13.out), (fun gl e => by cases e; exact U23.out), LB23.out, Nat.le_of_lt (Nat.lt_of_le_of_lt (V3.out.lt u3 rfl).1 (V3.out.lt u3 rfl).2)⟩, FF.out.2.1, FF.out.2.2⟩
  · have c4 := (mx_of B4.out.2.2.2.2.2).2.2.2.2.1
    have f4 := B4.out.2.2.2.2.2.free 4
    have B5 : Hid (Bq w g gm ⟨id, false, false, false, true, false, 0, s, n⟩ (.slice none 0 0) (.slice none 0 0) (.slice none 0 0) (w4.setCell ⟨gm, 4, none⟩ (.bool true))) := B4.out.set 4 (.bool true) rfl
    obtain ⟨x0, x1, x2, x3, x4, x5, x6, x7, x8, x9, x10, x11⟩ := mx_of B5.out.2.2.2.2.2
    obtain ⟨z0, z1, z2, z3, z4, z5, z6, z7, z8, z9, z10, z11⟩ := mx_of B5.out.2.2.2.2.1
    have q0 := B5.out.2.2.2.2.1.free 0
    have q1 := B5.out.2.2.2.2.1.free 1
    have q2 := B5.out.2.2.2.2.1.free 2
    have q3 := B5.out.2.2.2.2.1.free 3
    have q4 := B5.out.2.2.2.2.1.free 4
    have q5 := B5.out.2.2.2.2.1.free 5
    have q6 := B5.out.2.2.2.2.1.free 6
    have q7 := B5.out.2.2.2.2.1.free 7
    have q8 := B5.out.2.2.2.2.1.free 8
    have q9 := B5.out.2.2.2.2.1.free 9
    have q10 := B5.out.2.2.2.2.1.free 10
    have q11 := B5.out.2.2.2.2.1.free 11
    have FF := Lib.hid B5.out.fil
    go_wp2
    exact bodyPost_ret (v := .agg #[.int .i64 (Hd.mk id false false false true false 0 s n).id, .bool (Hd.mk id false false false true false 0 s n).rp, .bool (Hd.mk id false false false true false 0 s n).au, .bool (Hd.mk id false false false true false 0 s n).ct, .bool (Hd.mk id false false false true false 0 s n).wa, .bool (Hd.mk id false false false true false 0 s n).ca, .int .i64 (Hd.mk id false false false true false 0 s n).code, .string (Hd.mk id false false false true false 0 s n).qn, .int .i64 (Hd.mk id false false false true false 0 s n).qt, .slice none 0 0, .slice none 0 0, .slice none 0 0]) (res1M rfl FF.out.1 rfl) rfl ⟨Hd.mk id false false false true false 0 s n, none, 0, 0, [], w.heap.size + 1, none, 0, 0, [], w.heap.size + 1, none, 0, 0, [], w.heap.size + 1, rfl, HS.out, ⟨Or.inl ⟨rfl, rfl, rfl, rfl⟩, by omega, fun r hr => by cases hr⟩, ⟨Or.inl ⟨rfl, rfl, rfl, rfl⟩, by omega, fun r hr => by cases hr⟩, ⟨Or.inl ⟨rfl, rfl, rfl, rfl⟩, by omega, fun r hr => by cases hr⟩, ⟨by omega, und_none _, by omega, und_none _, und_none _, by omega, FF.out.1.lt⟩, FF.out.2.1, FF.out.2.2⟩
end Go.Proofs.YtlakegeabnjegaaGreatDoor.DrawM
