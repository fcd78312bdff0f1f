/- What the model's draw of any message does: texts of at most 60 bytes, sections of at most nine records; nothing that was there is turned but the cursor. -/
import Derived.Test.YtlakegeabnjegaaGreatDoorDrawM
import Derived.Deep.RegionLaw
namespace Go.Proofs.YtlakegeabnjegaaGreatDoor.DrawO
open Go.RowKit Go.Proofs.YtlakegeabnjegaaGreatDoor.Mem Go.Proofs.YtlakegeabnjegaaGreatDoor.MemS Go.Proofs.YtlakegeabnjegaaGreatDoor.MemR Go.Proofs.YtlakegeabnjegaaGreatDoor.BoxR Go.Proofs.YtlakegeabnjegaaGreatDoor.Draw Go.Proofs.YtlakegeabnjegaaGreatDoor.DrawS Go.Proofs.YtlakegeabnjegaaGreatDoor.DrawL Go.Proofs.YtlakegeabnjegaaGreatDoor.DrawN Go.Proofs.YtlakegeabnjegaaGreatDoor.AppR Go.Proofs.YtlakegeabnjegaaGreatDoor.ResR Go.Proofs.YtlakegeabnjegaaGreatDoor.DrawR Go.Proofs.YtlakegeabnjegaaGreatDoor.OwnR Go.Proofs.YtlakegeabnjegaaGreatDoor.DrawA Go.Proofs.YtlakegeabnjegaaGreatDoor.MemM Go.Proofs.YtlakegeabnjegaaGreatDoor.ResM Go.Proofs.YtlakegeabnjegaaGreatDoor.AskM Go.Proofs.YtlakegeabnjegaaGreatDoor.DrawM

section
variable {w w' : World} {base n k g gm : Nat} {v : Value} {l : List Rec} {A : Option Addr} {c : Nat}
theorem Sec.own (s : Sec w base A n c l) : w.ownsRow base 73 6 (.slice A n c) n (fl l) := by
  rcases s with ⟨rfl, rfl, rfl, rfl⟩ | ⟨gl, rfl, ho⟩
  · exact World.ownsRow_nil w base 73 6
  · exact ho
theorem own_g (h : w.ownsRow base 73 6 v n (fl l)) (hb : k < base) : v.ownBlock ≠ some k := fun e => by have := (h.lt k e).1; omega
theorem own_ty {cs : List Value} {t : TypeId} (h : w.ownsRow base 73 6 v n (fl l)) (b : Bk w k t cs) (ht : t ≠ 73) : v.ownBlock ≠ some k := by
  intro e
  rcases h.2 with ⟨rfl, _⟩ | ⟨g', cap, cur, rfl, _, hh, _⟩
  · simp [Value.ownBlock] at e
  · simp only [Value.ownBlock, Option.some.injEq] at e
    subst e
    unfold Bk at b
    rw [b] at hh
    simp only [Option.some.injEq, Obj.cells.injEq] at hh
    exact ht hh.2.1
theorem own_step (h : w.ownsRow base 73 6 v n (fl l)) (hg : w.grownBy w' (some k)) (hb : k < base) : w'.ownsRow base 73 6 v n (fl l) := h.kept hg (Or.inr (own_g h hb))
theorem own_box {cs : List Value} (h : w.ownsRow base 73 6 v n (fl l)) (b : Bk w gm 28 cs) (j : Nat) (u : Value) : (w.setCell ⟨gm, j, none⟩ u).ownsRow base 73 6 v n (fl l) :=
  h.kept (Draw.grown_set (Draw.grown_refl w (some gm)) j u) (Or.inr (own_ty h b (by decide)))
theorem own_sr (h : w.ownsRow base 73 6 (.slice A n c) n (fl l)) : Sr w w.heap.size A n l ∧ l.length = n := by
  have hl : l.length = n := by have := h.1; rw [fl_len] at this; omega
  rcases h.2 with ⟨e, rfl⟩ | ⟨g', cap, cur, e, hb, hh, hle, hm, hs, ht⟩
  · cases l with
    | nil => cases e; exact ⟨Sr.nil, rfl⟩
    | cons r l => simp at hl
  · simp only [Value.slice.injEq] at e
    obtain ⟨rfl, _, rfl⟩ := e
    obtain ⟨r, hb, _⟩ := bk_of_owns6 h
    exact ⟨bk_sr hb hl, hl⟩
end
/-- A drawn message, good or bad. -/
def Drx (w : World) (g : Nat) (e : Ending) (w' : World) : Prop :=
  ∃ (h : Hd) (A1 : Option Addr) (n1 c1 : Nat) (l1 : List Rec) (A2 : Option Addr) (n2 c2 : Nat) (l2 : List Rec) (A3 : Option Addr) (n3 c3 : Nat) (l3 : List Rec),
    e = .returned (.agg #[.int .i64 h.id, .bool h.rp, .bool h.au, .bool h.ct, .bool h.wa, .bool h.ca, .int .i64 h.code, .string h.qn, .int .i64 h.qt, .slice A1 n1 c1, .slice A2 n2 c2, .slice A3 n3 c3]) ∧ h.qn.size ≤ 60 ∧ ((∃ b, w.heap.size < b ∧ w'.ownsRow b 73 6 (.slice A1 n1 c1) n1 (fl l1)) ∧ n1 ≤ 9 ∧ ∀ r ∈ l1, Sml r) ∧ ((∃ b, w.heap.size < b ∧ w'.ownsRow b 73 6 (.slice A2 n2 c2) n2 (fl l2)) ∧ n2 ≤ 9 ∧ ∀ r ∈ l2, Sml r) ∧ ((∃ b, w.heap.size < b ∧ w'.ownsRow b 73 6 (.slice A3 n3 c3) n3 (fl l3)) ∧ n3 ≤ 9 ∧ ∀ r ∈ l3, Sml r) ∧ Cur w' g ∧ w.grownBy w' (some g)

/-- append of records as one step of a region that draws. -/
theorem step_append_recs {ops : Array Oper} {o : Oper} {a : Act} {w : World} {K : Act → World → Prop} {Q : Exit → Act → World → Prop} {E : Prop} (hgd : o.guard = none) (s x : Operand)
    (ho : o.op = .call { callee := .builtin .append, args := #[s, x], argTypes := #[26, 26] })
    (base n : Nat) (v : Value) (L : List Rec) (hs : a.eval s = v) (hown : w.ownsRow base 73 6 v n (fl L))
    (b off m c B : Nat) (l : List Rec) (hx : a.eval x = .slice (some ⟨b, off, none⟩) m c) (hl : Sr w B (some ⟨b, off, none⟩) m l)
    (hn : n ≤ 800000000) (hm : m ≤ 800000000) (hm0 : 0 < m) (hbase : base ≤ w.heap.size)
    (h : ∀ g' cap' w', w'.ownsRow base 73 6 (.slice (some ⟨g', 0, none⟩) (n + m) cap') (n + m) (fl (L ++ l)) → w.grownBy w' v.ownBlock → K (a.put o.dst (.slice (some ⟨g', 0, none⟩) (n + m) cap')) w') :
    if Region.wanted o (yielded ops a.tmps) = true then Oper.wp Tryz.prog o a w K Q else E := by
  have hw : Region.wanted o (yielded ops a.tmps) = true := by simp [Region.wanted, hgd]
  rw [if_pos hw]
  obtain ⟨i0, hi, hz0, hz1, hz2⟩ := info_parts CopyR.info
  exact wp_append_own w s x 26 ho base 73 i0 _ 6 72 Tryz.underlying26 hi hz0 hz1 hz2 rfl (by decide) v n (fl L) hs hown ⟨b, off, none⟩ m c (fl l) hx (by rw [fl_len, hl.1]) (AppR.cells_of hl) (one_fl l) (by unfold maxLen; omega) (by omega) hbase
    (fun v' w' h1 h2 h3 => by
      rcases h1.2 with ⟨hv, _⟩ | ⟨g', cap', cur, hv, _⟩
      · have := (h3.1 hv).2
        omega
      · subst hv
        exact h g' cap' w' (by rw [fl_append]; exact h1) h2)

section
variable {w v v' : World} {g gm base n : Nat} {h : Hd} {x y z u : Value} {rr : Option Nat} {l : List Rec} {A : Option Addr} {c : Nat}
theorem grown_row (k : w.grownBy v (some g)) (hg : v.grownBy v' rr) (hr : ∀ j, rr = some j → w.heap.size ≤ j) : w.grownBy v' (some g) :=
  ⟨hg.os.trans k.os, hg.tape.trans k.tape, hg.output.trans k.output, Nat.le_trans k.size hg.size, fun i hi hne => (hg.block i (Nat.lt_of_lt_of_le hi k.size) (fun e => by have := hr i e.symm; omega)).trans (k.block i hi hne)⟩
theorem Bq.row (k : Bq w g gm h x y z v) (hg : v.grownBy v' rr) (hr : ∀ j, rr = some j → w.heap.size < j ∧ j ≠ gm) : Bq w g gm h x y z v' :=
  ⟨k.1, k.2.1, k.cur.grown hg (fun j hj => by have := (hr j hj).1; have := k.1; omega), grown_row k.2.2.2.1 hg (fun j hj => Nat.le_of_lt (hr j hj).1),
    k.2.2.2.2.1.grown hg (fun e => by have := (hr _ e.symm).1; omega), k.2.2.2.2.2.grown hg (fun e => (hr gm e.symm).2 rfl)⟩
theorem own_row (k : v.ownsRow base 73 6 u n (fl l)) (hg : v.grownBy v' rr) (hr : ∀ j, rr = some j → j < base) : v'.ownsRow base 73 6 u n (fl l) := by
  refine k.kept hg ?_
  cases rr with
  | none => cases u.ownBlock <;> simp
  | some j => exact Or.inr (own_g k (hr j rfl))
/-- A row that another one does not reach: it lies from base on, the other one's block below. -/
theorem own_apart (k : v.ownsRow base 73 6 u n (fl l)) (hg : v.grownBy v' rr) (hr : ∀ j, u.ownBlock = some j → some j ≠ rr) : v'.ownsRow base 73 6 u n (fl l) := by
  refine k.kept hg ?_
  cases e : u.ownBlock with
  | none => exact Or.inl rfl
  | some j => exact Or.inr (hr j e)
theorem und_row {b : Nat} (k : v.ownsRow base 73 6 (.slice A n c) n (fl l)) (hu : Und A b) : ∀ j, (Value.slice A n c).ownBlock = some j → j < b := by
  intro j hj
  rcases k.2 with ⟨e, _⟩ | ⟨g', cap, cur, e, _⟩
  · rw [e] at hj; simp [Value.ownBlock] at hj
  · rw [e] at hj
    simp only [Value.ownBlock, Option.some.injEq] at hj
    simp only [Value.slice.injEq] at e
    subst hj
    exact hu _ e.1
theorem grown_drew (w : World) (r : Option Nat) : w.grownBy w.drew r := ⟨rfl, rfl, rfl, Nat.le_refl _, fun _ _ _ => rfl⟩
theorem Bq.drawn (k : Bq w g gm h x y z v) : Bq w g gm h x y z v.drew := k.step (k.cur.grown (grown_drew v none) (fun _ e => by cases e)) (grown_drew v _)
theorem own_drew (k : v.ownsRow base 73 6 u n (fl l)) : v.drew.ownsRow base 73 6 u n (fl l) := k.kept (grown_drew v none) (by cases u.ownBlock <;> simp)
theorem row_box (k : Bq w g gm h x y z v) (o : v.ownsRow base 73 6 u n (fl l)) (hb : w.heap.size < base) : ∀ j, u.ownBlock = some j → w.heap.size < j ∧ j ≠ gm := fun j hj =>
  ⟨Nat.lt_of_lt_of_le hb (o.lt j hj).1, fun e => own_ty o k.2.2.2.2.2 (by decide) (e ▸ hj)⟩
end
/-- The length of the slice in a cell. -/
def lenAt (w : World) (p : Addr) : Nat := match w.cell? p with
  | some (.slice _ n _) => n
  | _ => 0
theorem lenAt_of {w : World} {p : Addr} {A : Option Addr} {n c : Nat} (h : w.cell? p = some (.slice A n c)) : lenAt w p = n := by
  unfold lenAt
  rw [h]
def anyIds : List Int := [-1, 65535, 65536]
def anyCodes : List Int := [-1, 15, 16]
def anyTys : List Int := [0, 3, 255]

set_option maxRecDepth 100000 in
set_option maxHeartbeats 16000000 in
theorem l7Any_any (g : Nat) (w : World) (hc : Cur w g) : Calls Tryz.prog 21 #[.pointer (some ⟨g, 0, none⟩)] w (Drx w g) := by
  have HC := Lib.hid hc
  have GL := Lib.hid hc.lt
  have Z0 : Hid (Bk (w.alloc (.cells #[.int .i64 0, .bool false, .bool false, .bool false, .bool false, .bool false, .int .i64 0, .string ⟨#[]⟩, .int .i64 0, .slice none 0 0, .slice none 0 0, .slice none 0 0] 28)) w.heap.size 28 (mc zh (.slice none 0 0) (.slice none 0 0) (.slice none 0 0))) := heap_alloc_new w _
  clear hc
  go_enter Tryz.func21, Tryz.ntmps21
  go_wp2_with fail
  refine (l7Draw_any g _ (HC.out.alloc _)).mono ?_
  rintro e w1 ⟨h, A1, n1, c1, l1, b1, A2, n2, c2, l2, b2, A3, n3, c3, l3, b3, rfl, hq, ⟨s1, hn1, r1⟩, ⟨s2, hn2, r2⟩, ⟨s3, hn3, r3⟩, ⟨hb1, u12, hb12, u13, u23, hb23, hb3⟩, hc1, hg1⟩
  have HQ := Lib.hid hq
  have SM1 := Lib.hid r1
  have SM2 := Lib.hid r2
  have SM3 := Lib.hid r3
  have U12 := Lib.hid u12
  have U13 := Lib.hid u13
  have U23 := Lib.hid u23
  have hb1' : w.heap.size < b1 := by simp at hb1; omega
  have WB1 : Hid (w.heap.size < b1) := hb1'
  have WB2 : Hid (w.heap.size < b2) := by show _ < _; omega
  have WB3 : Hid (w.heap.size < b3) := by show _ < _; omega
  have Z1 := Lib.hid (Z0.out.grown hg1 (fun e => by have := GL.out; have := Option.some.inj e; omega))
  have G1 := Lib.hid (grown_trans (World.grownBy_alloc w _ (some g)) hg1)
  have B1 := Lib.hid (Bq.start hc1 G1.out GL.out Z1.out h (.slice A1 n1 c1) (.slice A2 n2 c2) (.slice A3 n3 c3))
  have O1 := Lib.hid ((Sec.own s1).alloc (.cells #[.int .i64 h.id, .bool h.rp, .bool h.au, .bool h.ct, .bool h.wa, .bool h.ca, .int .i64 h.code, .string h.qn, .int .i64 h.qt, .slice A1 n1 c1, .slice A2 n2 c2, .slice A3 n3 c3] 28))
  have O2 := Lib.hid ((Sec.own s2).alloc (.cells #[.int .i64 h.id, .bool h.rp, .bool h.au, .bool h.ct, .bool h.wa, .bool h.ca, .int .i64 h.code, .string h.qn, .int .i64 h.qt, .slice A1 n1 c1, .slice A2 n2 c2, .slice A3 n3 c3] 28))
  have O3 := Lib.hid ((Sec.own s3).alloc (.cells #[.int .i64 h.id, .bool h.rp, .bool h.au, .bool h.ct, .bool h.wa, .bool h.ca, .int .i64 h.code, .string h.qn, .int .i64 h.qt, .slice A1 n1 c1, .slice A2 n2 c2, .slice A3 n3 c3] 28))
  have HBS : Hid (b1 ≤ w1.heap.size ∧ b2 ≤ w1.heap.size ∧ b3 ≤ w1.heap.size) := ⟨by omega, by omega, hb3⟩
  have GB1 : Hid (g < b1) := by show _ < _; have := GL.out; omega
  have GB2 : Hid (g < b2) := by show _ < _; have := GL.out; omega
  have GB3 : Hid (g < b3) := by show _ < _; have := GL.out; omega
  clear hq s1 s2 s3 r1 r2 r3 hb1 hb1' u12 hb12 u13 u23 hb23 hb3 hc1 hg1 HC Z0 Z1 G1
  obtain ⟨id, rp, au, ct, wa, ca, code, qn, qt⟩ := h
  dsimp only at B1 O1 O2 O3 HQ ⊢
  go_wp2_with fail
  refine (l1Below_any g 12 _ B1.out.cur (by omega) (by omega)).mono ?_
  rintro e w2 ⟨q, rfl, hq0, hq1, hc2, hg2⟩
  have B2 := Lib.hid (B1.out.step hc2 hg2)
  have P1 := Lib.hid (own_step O1.out hg2 GB1.out)
  have P2 := Lib.hid (own_step O2.out hg2 GB2.out)
  have P3 := Lib.hid (own_step O3.out hg2 GB3.out)
  have hz2 := hg2.size
  have HBS1 : Hid (b1 ≤ w2.heap.size) := by show _ ≤ _; have := HBS.out; simp at hz2; omega
  have HBS2 : Hid (b2 ≤ w2.heap.size) := by show _ ≤ _; have := HBS.out; simp at hz2; omega
  have HBS3 : Hid (b3 ≤ w2.heap.size) := by show _ ≤ _; have := HBS.out; simp at hz2; omega
  clear hc2 hg2 B1 O1 O2 O3 HBS hz2
  generalize w1.heap.size = gm at *
  by_cases q0 : q = 0
  · subst q0
    go_wp2_with fail
    refine (l1Int_any g w2.heap.size 3 anyIds _ (B2.out.cur.alloc _) (bk_ints w2 anyIds _ rfl) (Nat.ne_of_gt B2.out.cur.lt) rfl (by omega) (by omega)).mono ?_
    rintro e w3 ⟨v, rfl, -, hc3, hg3⟩
    have B3 := Lib.hid ((B2.out.alloc _).step hc3 hg3)
    have R1 := Lib.hid (own_step (P1.out.alloc _) hg3 GB1.out)
    have R2 := Lib.hid (own_step (P2.out.alloc _) hg3 GB2.out)
    have R3 := Lib.hid (own_step (P3.out.alloc _) hg3 GB3.out)
    clear hc3 hg3 B2 P1 P2 P3
    have c0 := (mx_of B3.out.2.2.2.2.2).1
    have f0 := B3.out.2.2.2.2.2.free 0
    have B4 : Hid (Bq w g gm (Hd.mk v rp au ct wa ca code qn qt) (.slice A1 n1 c1) (.slice A2 n2 c2) (.slice A3 n3 c3) (w3.setCell ⟨gm, 0, none⟩ (.int .i64 v))) := B3.out.set 0 (.int .i64 v) rfl
    have T1 := Lib.hid (own_box R1.out B3.out.2.2.2.2.2 0 (.int .i64 v))
    have T2 := Lib.hid (own_box R2.out B3.out.2.2.2.2.2 0 (.int .i64 v))
    have T3 := Lib.hid (own_box R3.out B3.out.2.2.2.2.2 0 (.int .i64 v))
    clear R1 R2 R3
    obtain ⟨x0, x1, x2, x3, x4, x5, x6, x7, x8, x9, x10, x11⟩ := mx_of B4.out.2.2.2.2.2
    obtain ⟨z0, z1, z2, z3, z4, z5, z6, z7, z8, z9, z10, z11⟩ := mx_of B4.out.2.2.2.2.1
    have q0 := B4.out.2.2.2.2.1.free 0
    have q1 := B4.out.2.2.2.2.1.free 1
    have q2 := B4.out.2.2.2.2.1.free 2
    have q3 := B4.out.2.2.2.2.1.free 3
    have q4 := B4.out.2.2.2.2.1.free 4
    have q5 := B4.out.2.2.2.2.1.free 5
    have q6 := B4.out.2.2.2.2.1.free 6
    have q7 := B4.out.2.2.2.2.1.free 7
    have q8 := B4.out.2.2.2.2.1.free 8
    have q9 := B4.out.2.2.2.2.1.free 9
    have q10 := B4.out.2.2.2.2.1.free 10
    have q11 := B4.out.2.2.2.2.1.free 11
    have FF := Lib.hid B4.out.fil
    have Y1 := Lib.hid (own_step T1.out (filM_grown (w3.setCell ⟨gm, 0, none⟩ (.int .i64 v)) w.heap.size (Hd.mk v rp au ct wa ca code qn qt) (.slice A1 n1 c1) (.slice A2 n2 c2) (.slice A3 n3 c3)) WB1.out)
    have Y2 := Lib.hid (own_step T2.out (filM_grown (w3.setCell ⟨gm, 0, none⟩ (.int .i64 v)) w.heap.size (Hd.mk v rp au ct wa ca code qn qt) (.slice A1 n1 c1) (.slice A2 n2 c2) (.slice A3 n3 c3)) WB2.out)
    have Y3 := Lib.hid (own_step T3.out (filM_grown (w3.setCell ⟨gm, 0, none⟩ (.int .i64 v)) w.heap.size (Hd.mk v rp au ct wa ca code qn qt) (.slice A1 n1 c1) (.slice A2 n2 c2) (.slice A3 n3 c3)) WB3.out)
    go_wp2
    exact bodyPost_ret (v := .agg #[.int .i64 (Hd.mk v rp au ct wa ca code qn qt).id, .bool (Hd.mk v rp au ct wa ca code qn qt).rp, .bool (Hd.mk v rp au ct wa ca code qn qt).au, .bool (Hd.mk v rp au ct wa ca code qn qt).ct, .bool (Hd.mk v rp au ct wa ca code qn qt).wa, .bool (Hd.mk v rp au ct wa ca code qn qt).ca, .int .i64 (Hd.mk v rp au ct wa ca code qn qt).code, .string (Hd.mk v rp au ct wa ca code qn qt).qn, .int .i64 (Hd.mk v rp au ct wa ca code qn qt).qt, .slice A1 n1 c1, .slice A2 n2 c2, .slice A3 n3 c3]) (res1M rfl FF.out.1 rfl) rfl ⟨Hd.mk v rp au ct wa ca code qn qt, A1, n1, c1, l1, A2, n2, c2, l2, A3, n3, c3, l3, rfl, HQ.out, ⟨⟨_, WB1.out, Y1.out⟩, by omega, SM1.out⟩, ⟨⟨_, WB2.out, Y2.out⟩, by omega, SM2.out⟩, ⟨⟨_, WB3.out, Y3.out⟩, by omega, SM3.out⟩, FF.out.2.1, FF.out.2.2⟩
  by_cases q1 : q = 1
  · subst q1
    go_wp2_with fail
    refine (l1Int_any g w2.heap.size 3 anyCodes _ (B2.out.cur.alloc _) (bk_ints w2 anyCodes _ rfl) (Nat.ne_of_gt B2.out.cur.lt) rfl (by omega) (by omega)).mono ?_
    rintro e w3 ⟨v, rfl, -, hc3, hg3⟩
    have B3 := Lib.hid ((B2.out.alloc _).step hc3 hg3)
    have R1 := Lib.hid (own_step (P1.out.alloc _) hg3 GB1.out)
    have R2 := Lib.hid (own_step (P2.out.alloc _) hg3 GB2.out)
    have R3 := Lib.hid (own_step (P3.out.alloc _) hg3 GB3.out)
    clear hc3 hg3 B2 P1 P2 P3
    have c6 := (mx_of B3.out.2.2.2.2.2).2.2.2.2.2.2.1
    have f6 := B3.out.2.2.2.2.2.free 6
    have B4 : Hid (Bq w g gm (Hd.mk id rp au ct wa ca v qn qt) (.slice A1 n1 c1) (.slice A2 n2 c2) (.slice A3 n3 c3) (w3.setCell ⟨gm, 6, none⟩ (.int .i64 v))) := B3.out.set 6 (.int .i64 v) rfl
    have T1 := Lib.hid (own_box R1.out B3.out.2.2.2.2.2 6 (.int .i64 v))
    have T2 := Lib.hid (own_box R2.out B3.out.2.2.2.2.2 6 (.int .i64 v))
    have T3 := Lib.hid (own_box R3.out B3.out.2.2.2.2.2 6 (.int .i64 v))
    clear R1 R2 R3
    obtain ⟨x0, x1, x2, x3, x4, x5, x6, x7, x8, x9, x10, x11⟩ := mx_of B4.out.2.2.2.2.2
    obtain ⟨z0, z1, z2, z3, z4, z5, z6, z7, z8, z9, z10, z11⟩ := mx_of B4.out.2.2.2.2.1
    have q0 := B4.out.2.2.2.2.1.free 0
    have q1 := B4.out.2.2.2.2.1.free 1
    have q2 := B4.out.2.2.2.2.1.free 2
    have q3 := B4.out.2.2.2.2.1.free 3
    have q4 := B4.out.2.2.2.2.1.free 4
    have q5 := B4.out.2.2.2.2.1.free 5
    have q6 := B4.out.2.2.2.2.1.free 6
    have q7 := B4.out.2.2.2.2.1.free 7
    have q8 := B4.out.2.2.2.2.1.free 8
    have q9 := B4.out.2.2.2.2.1.free 9
    have q10 := B4.out.2.2.2.2.1.free 10
    have q11 := B4.out.2.2.2.2.1.free 11
    have FF := Lib.hid B4.out.fil
    have Y1 := Lib.hid (own_step T1.out (filM_grown (w3.setCell ⟨gm, 6, none⟩ (.int .i64 v)) w.heap.size (Hd.mk id rp au ct wa ca v qn qt) (.slice A1 n1 c1) (.slice A2 n2 c2) (.slice A3 n3 c3)) WB1.out)
    have Y2 := Lib.hid (own_step T2.out (filM_grown (w3.setCell ⟨gm, 6, none⟩ (.int .i64 v)) w.heap.size (Hd.mk id rp au ct wa ca v qn qt) (.slice A1 n1 c1) (.slice A2 n2 c2) (.slice A3 n3 c3)) WB2.out)
    have Y3 := Lib.hid (own_step T3.out (filM_grown (w3.setCell ⟨gm, 6, none⟩ (.int .i64 v)) w.heap.size (Hd.mk id rp au ct wa ca v qn qt) (.slice A1 n1 c1) (.slice A2 n2 c2) (.slice A3 n3 c3)) WB3.out)
    go_wp2
    exact bodyPost_ret (v := .agg #[.int .i64 (Hd.mk id rp au ct wa ca v qn qt).id, .bool (Hd.mk id rp au ct wa ca v qn qt).rp, .bool (Hd.mk id rp au ct wa ca v qn qt).au, .bool (Hd.mk id rp au ct wa ca v qn qt).ct, .bool (Hd.mk id rp au ct wa ca v qn qt).wa, .bool (Hd.mk id rp au ct wa ca v qn qt).ca, .int .i64 (Hd.mk id rp au ct wa ca v qn qt).code, .string (Hd.mk id rp au ct wa ca v qn qt).qn, .int .i64 (Hd.mk id rp au ct wa ca v qn qt).qt, .slice A1 n1 c1, .slice A2 n2 c2, .slice A3 n3 c3]) (res1M rfl FF.out.1 rfl) rfl ⟨Hd.mk id rp au ct wa ca v qn qt, A1, n1, c1, l1, A2, n2, c2, l2, A3, n3, c3, l3, rfl, HQ.out, ⟨⟨_, WB1.out, Y1.out⟩, by omega, SM1.out⟩, ⟨⟨_, WB2.out, Y2.out⟩, by omega, SM2.out⟩, ⟨⟨_, WB3.out, Y3.out⟩, by omega, SM3.out⟩, FF.out.2.1, FF.out.2.2⟩
  by_cases q2 : q = 2
  · subst q2
    go_wp2_with fail
    refine (l3Any_any g w2 B2.out.cur).mono ?_
    rintro e w3 ⟨v, rfl, hv, hc3, hg3⟩
    clear HQ
    have HQ : Hid (v.size ≤ 60) := hv
    clear hv
    have B3 := Lib.hid (B2.out.step hc3 hg3)
    have R1 := Lib.hid (own_step P1.out hg3 GB1.out)
    have R2 := Lib.hid (own_step P2.out hg3 GB2.out)
    have R3 := Lib.hid (own_step P3.out hg3 GB3.out)
    clear hc3 hg3 B2 P1 P2 P3
    have c7 := (mx_of B3.out.2.2.2.2.2).2.2.2.2.2.2.2.1
    have f7 := B3.out.2.2.2.2.2.free 7
    have B4 : Hid (Bq w g gm (Hd.mk id rp au ct wa ca code v qt) (.slice A1 n1 c1) (.slice A2 n2 c2) (.slice A3 n3 c3) (w3.setCell ⟨gm, 7, none⟩ (.string v))) := B3.out.set 7 (.string v) rfl
    have T1 := Lib.hid (own_box R1.out B3.out.2.2.2.2.2 7 (.string v))
    have T2 := Lib.hid (own_box R2.out B3.out.2.2.2.2.2 7 (.string v))
    have T3 := Lib.hid (own_box R3.out B3.out.2.2.2.2.2 7 (.string v))
    clear R1 R2 R3
    obtain ⟨x0, x1, x2, x3, x4, x5, x6, x7, x8, x9, x10, x11⟩ := mx_of B4.out.2.2.2.2.2
    obtain ⟨z0, z1, z2, z3, z4, z5, z6, z7, z8, z9, z10, z11⟩ := mx_of B4.out.2.2.2.2.1
    have q0 := B4.out.2.2.2.2.1.free 0
    have q1 := B4.out.2.2.2.2.1.free 1
    have q2 := B4.out.2.2.2.2.1.free 2
    have q3 := B4.out.2.2.2.2.1.free 3
    have q4 := B4.out.2.2.2.2.1.free 4
    have q5 := B4.out.2.2.2.2.1.free 5
    have q6 := B4.out.2.2.2.2.1.free 6
    have q7 := B4.out.2.2.2.2.1.free 7
    have q8 := B4.out.2.2.2.2.1.free 8
    have q9 := B4.out.2.2.2.2.1.free 9
    have q10 := B4.out.2.2.2.2.1.free 10
    have q11 := B4.out.2.2.2.2.1.free 11
    have FF := Lib.hid B4.out.fil
    have Y1 := Lib.hid (own_step T1.out (filM_grown (w3.setCell ⟨gm, 7, none⟩ (.string v)) w.heap.size (Hd.mk id rp au ct wa ca code v qt) (.slice A1 n1 c1) (.slice A2 n2 c2) (.slice A3 n3 c3)) WB1.out)
    have Y2 := Lib.hid (own_step T2.out (filM_grown (w3.setCell ⟨gm, 7, none⟩ (.string v)) w.heap.size (Hd.mk id rp au ct wa ca code v qt) (.slice A1 n1 c1) (.slice A2 n2 c2) (.slice A3 n3 c3)) WB2.out)
    have Y3 := Lib.hid (own_step T3.out (filM_grown (w3.setCell ⟨gm, 7, none⟩ (.string v)) w.heap.size (Hd.mk id rp au ct wa ca code v qt) (.slice A1 n1 c1) (.slice A2 n2 c2) (.slice A3 n3 c3)) WB3.out)
    go_wp2
    exact bodyPost_ret (v := .agg #[.int .i64 (Hd.mk id rp au ct wa ca code v qt).id, .bool (Hd.mk id rp au ct wa ca code v qt).rp, .bool (Hd.mk id rp au ct wa ca code v qt).au, .bool (Hd.mk id rp au ct wa ca code v qt).ct, .bool (Hd.mk id rp au ct wa ca code v qt).wa, .bool (Hd.mk id rp au ct wa ca code v qt).ca, .int .i64 (Hd.mk id rp au ct wa ca code v qt).code, .string (Hd.mk id rp au ct wa ca code v qt).qn, .int .i64 (Hd.mk id rp au ct wa ca code v qt).qt, .slice A1 n1 c1, .slice A2 n2 c2, .slice A3 n3 c3]) (res1M rfl FF.out.1 rfl) rfl ⟨Hd.mk id rp au ct wa ca code v qt, A1, n1, c1, l1, A2, n2, c2, l2, A3, n3, c3, l3, rfl, HQ.out, ⟨⟨_, WB1.out, Y1.out⟩, by omega, SM1.out⟩, ⟨⟨_, WB2.out, Y2.out⟩, by omega, SM2.out⟩, ⟨⟨_, WB3.out, Y3.out⟩, by omega, SM3.out⟩, FF.out.2.1, FF.out.2.2⟩
  by_cases q3 : q = 3
  · subst q3
    go_wp2_with fail
    refine (l1Int_any g w2.heap.size 3 anyTys _ (B2.out.cur.alloc _) (bk_ints w2 anyTys _ rfl) (Nat.ne_of_gt B2.out.cur.lt) rfl (by omega) (by omega)).mono ?_
    rintro e w3 ⟨v, rfl, -, hc3, hg3⟩
    have B3 := Lib.hid ((B2.out.alloc _).step hc3 hg3)
    have R1 := Lib.hid (own_step (P1.out.alloc _) hg3 GB1.out)
    have R2 := Lib.hid (own_step (P2.out.alloc _) hg3 GB2.out)
    have R3 := Lib.hid (own_step (P3.out.alloc _) hg3 GB3.out)
    clear hc3 hg3 B2 P1 P2 P3
    have c8 := (mx_of B3.out.2.2.2.2.2).2.2.2.2.2.2.2.2.1
    have f8 := B3.out.2.2.2.2.2.free 8
    have B4 : Hid (Bq w g gm (Hd.mk id rp au ct wa ca code qn v) (.slice A1 n1 c1) (.slice A2 n2 c2) (.slice A3 n3 c3) (w3.setCell ⟨gm, 8, none⟩ (.int .i64 v))) := B3.out.set 8 (.int .i64 v) rfl
    have T1 := Lib.hid (own_box R1.out B3.out.2.2.2.2.2 8 (.int .i64 v))
    have T2 := Lib.hid (own_box R2.out B3.out.2.2.2.2.2 8 (.int .i64 v))
    have T3 := Lib.hid (own_box R3.out B3.out.2.2.2.2.2 8 (.int .i64 v))
    clear R1 R2 R3
    obtain ⟨x0, x1, x2, x3, x4, x5, x6, x7, x8, x9, x10, x11⟩ := mx_of B4.out.2.2.2.2.2
    obtain ⟨z0, z1, z2, z3, z4, z5, z6, z7, z8, z9, z10, z11⟩ := mx_of B4.out.2.2.2.2.1
    have q0 := B4.out.2.2.2.2.1.free 0
    have q1 := B4.out.2.2.2.2.1.free 1
    have q2 := B4.out.2.2.2.2.1.free 2
    have q3 := B4.out.2.2.2.2.1.free 3
    have q4 := B4.out.2.2.2.2.1.free 4
    have q5 := B4.out.2.2.2.2.1.free 5
    have q6 := B4.out.2.2.2.2.1.free 6
    have q7 := B4.out.2.2.2.2.1.free 7
    have q8 := B4.out.2.2.2.2.1.free 8
    have q9 := B4.out.2.2.2.2.1.free 9
    have q10 := B4.out.2.2.2.2.1.free 10
    have q11 := B4.out.2.2.2.2.1.free 11
    have FF := Lib.hid B4.out.fil
    have Y1 := Lib.hid (own_step T1.out (filM_grown (w3.setCell ⟨gm, 8, none⟩ (.int .i64 v)) w.heap.size (Hd.mk id rp au ct wa ca code qn v) (.slice A1 n1 c1) (.slice A2 n2 c2) (.slice A3 n3 c3)) WB1.out)
    have Y2 := Lib.hid (own_step T2.out (filM_grown (w3.setCell ⟨gm, 8, none⟩ (.int .i64 v)) w.heap.size (Hd.mk id rp au ct wa ca code qn v) (.slice A1 n1 c1) (.slice A2 n2 c2) (.slice A3 n3 c3)) WB2.out)
    have Y3 := Lib.hid (own_step T3.out (filM_grown (w3.setCell ⟨gm, 8, none⟩ (.int .i64 v)) w.heap.size (Hd.mk id rp au ct wa ca code qn v) (.slice A1 n1 c1) (.slice A2 n2 c2) (.slice A3 n3 c3)) WB3.out)
    go_wp2
    exact bodyPost_ret (v := .agg #[.int .i64 (Hd.mk id rp au ct wa ca code qn v).id, .bool (Hd.mk id rp au ct wa ca code qn v).rp, .bool (Hd.mk id rp au ct wa ca code qn v).au, .bool (Hd.mk id rp au ct wa ca code qn v).ct, .bool (Hd.mk id rp au ct wa ca code qn v).wa, .bool (Hd.mk id rp au ct wa ca code qn v).ca, .int .i64 (Hd.mk id rp au ct wa ca code qn v).code, .string (Hd.mk id rp au ct wa ca code qn v).qn, .int .i64 (Hd.mk id rp au ct wa ca code qn v).qt, .slice A1 n1 c1, .slice A2 n2 c2, .slice A3 n3 c3]) (res1M rfl FF.out.1 rfl) rfl ⟨Hd.mk id rp au ct wa ca code qn v, A1, n1, c1, l1, A2, n2, c2, l2, A3, n3, c3, l3, rfl, HQ.out, ⟨⟨_, WB1.out, Y1.out⟩, by omega, SM1.out⟩, ⟨⟨_, WB2.out, Y2.out⟩, by omega, SM2.out⟩, ⟨⟨_, WB3.out, Y3.out⟩, by omega, SM3.out⟩, FF.out.2.1, FF.out.2.2⟩
  by_cases q4 : q = 4
  · subst q4
    have c9 := (mx_of B2.out.2.2.2.2.2).2.2.2.2.2.2.2.2.2.1
    have f9 := B2.out.2.2.2.2.2.free 9
    have BD := Lib.hid (Bq.drawn B2.out)
    have OD := Lib.hid (own_drew P1.out)
    have ID0 := Lib.hid (own_drew P2.out)
    have ID1 := Lib.hid (own_drew P3.out)
    have LA := Lib.hid (show Calls Tryz.prog 51 #[.pointer (some ⟨g, 0, none⟩)] w2.drew (Rcd w2.drew g) from l5Any_any g w2.drew BD.out.cur)
    have hn8 : n1 ≤ 800000000 := by omega
    have h18 : 1 ≤ 800000000 := by decide
    have h01 : 0 < 1 := by decide
    go_wp2
    go_region_law (first
      | (go_simp; go_at_call 51; refine LA.out.mono ?_; rintro e w3 ⟨r, rfl, hr, hc3, hg3⟩; have hbx : b1 ≤ (w3.alloc (.cells #[.string r.name, .int .i64 r.ty, .int .i64 r.ttl, .int .i64 r.n, .string r.host, .string r.text] 73)).heap.size := (by have h1 := HBS1.out; have h2 : w2.heap.size ≤ w3.heap.size := hg3.size; (simp; omega)); have B5 := BD.out.step hc3 hg3; have B6 := B5.alloc (.cells #[.string r.name, .int .i64 r.ty, .int .i64 r.ttl, .int .i64 r.n, .string r.host, .string r.text] 73); have O6 := (own_step OD.out hg3 GB1.out).alloc (.cells #[.string r.name, .int .i64 r.ty, .int .i64 r.ttl, .int .i64 r.n, .string r.host, .string r.text] 73); have y1 := (mx_of B5.2.2.2.2.2).2.2.2.2.2.2.2.2.2.1; have y2 := (mx_of B6.2.2.2.2.2).2.2.2.2.2.2.2.2.2.1; have I0 := (own_step ID0.out hg3 GB2.out).alloc (.cells #[.string r.name, .int .i64 r.ty, .int .i64 r.ttl, .int .i64 r.n, .string r.host, .string r.text] 73); have I1 := (own_step ID1.out hg3 GB3.out).alloc (.cells #[.string r.name, .int .i64 r.ty, .int .i64 r.ttl, .int .i64 r.n, .string r.host, .string r.text] 73))
      | (refine step_append_recs rfl (.tmp 36) (.tmp 39) rfl b1 n1 (.slice A1 n1 c1) l1 rfl O6 w3.heap.size 0 1 1 (w3.alloc (.cells #[.string r.name, .int .i64 r.ty, .int .i64 r.ttl, .int .i64 r.n, .string r.host, .string r.text] 73)).heap.size [r] rfl (one_sr w3 r) hn8 h18 h01 hbx ?_; intro g4 cap4 w4 hown hgrow; have B7 := Bq.row B6 hgrow (row_box B6 O6 WB1.out); have kc := (mx_of B7.2.2.2.2.2).2.2.2.2.2.2.2.2.2.1; have kf := B7.2.2.2.2.2.free 9; have J0 := own_apart I0 hgrow (fun j hj e => by have h1 := (I0.lt j hj).1; have h2 := und_row O6 U12.out j e.symm; omega); have J1 := own_apart I1 hgrow (fun j hj e => by have h1 := (I1.lt j hj).1; have h2 := und_row O6 U13.out j e.symm; omega)))
    all_goals
      have B8 : Hid (Bq w g gm (Hd.mk id rp au ct wa ca code qn qt) (.slice (some ⟨g4, 0, none⟩) (n1 + 1) cap4) (.slice A2 n2 c2) (.slice A3 n3 c3) (w4.setCell ⟨gm, 9, none⟩ (.slice (some ⟨g4, 0, none⟩) (n1 + 1) cap4))) := B7.set 9 (.slice (some ⟨g4, 0, none⟩) (n1 + 1) cap4) rfl
      have N1 := Lib.hid (own_box hown B7.2.2.2.2.2 9 (.slice (some ⟨g4, 0, none⟩) (n1 + 1) cap4))
      have N2 := Lib.hid (own_box J0 B7.2.2.2.2.2 9 (.slice (some ⟨g4, 0, none⟩) (n1 + 1) cap4))
      have N3 := Lib.hid (own_box J1 B7.2.2.2.2.2 9 (.slice (some ⟨g4, 0, none⟩) (n1 + 1) cap4))
      have SMN : Hid (∀ x ∈ l1 ++ [r], Sml x) := fun x hx => by
        rcases List.mem_append.1 hx with hx | hx
        · exact SM1.out x hx
        · rw [List.mem_singleton.1 hx]; exact hr
      clear B7 hown hgrow J0 J1 I0 I1 O6 B5 B6 y1 y2 hr hc3 hg3 hbx kc kf LA BD OD ID0 ID1 B2 P1 P2 P3 c9 f9
      obtain ⟨x0, x1, x2, x3, x4, x5, x6, x7, x8, x9, x10, x11⟩ := mx_of B8.out.2.2.2.2.2
      obtain ⟨z0, z1, z2, z3, z4, z5, z6, z7, z8, z9, z10, z11⟩ := mx_of B8.out.2.2.2.2.1
      have q0 := B8.out.2.2.2.2.1.free 0
      have q1 := B8.out.2.2.2.2.1.free 1
      have q2 := B8.out.2.2.2.2.1.free 2
      have q3 := B8.out.2.2.2.2.1.free 3
      have q4 := B8.out.2.2.2.2.1.free 4
      have q5 := B8.out.2.2.2.2.1.free 5
      have q6 := B8.out.2.2.2.2.1.free 6
      have q7 := B8.out.2.2.2.2.1.free 7
      have q8 := B8.out.2.2.2.2.1.free 8
      have q9 := B8.out.2.2.2.2.1.free 9
      have q10 := B8.out.2.2.2.2.1.free 10
      have q11 := B8.out.2.2.2.2.1.free 11
      have FF := Lib.hid B8.out.fil
      have Y1 := Lib.hid (own_step N1.out (filM_grown (w4.setCell ⟨gm, 9, none⟩ (.slice (some ⟨g4, 0, none⟩) (n1 + 1) cap4)) w.heap.size (Hd.mk id rp au ct wa ca code qn qt) (.slice (some ⟨g4, 0, none⟩) (n1 + 1) cap4) (.slice A2 n2 c2) (.slice A3 n3 c3)) WB1.out)
      have Y2 := Lib.hid (own_step N2.out (filM_grown (w4.setCell ⟨gm, 9, none⟩ (.slice (some ⟨g4, 0, none⟩) (n1 + 1) cap4)) w.heap.size (Hd.mk id rp au ct wa ca code qn qt) (.slice (some ⟨g4, 0, none⟩) (n1 + 1) cap4) (.slice A2 n2 c2) (.slice A3 n3 c3)) WB2.out)
      have Y3 := Lib.hid (own_step N3.out (filM_grown (w4.setCell ⟨gm, 9, none⟩ (.slice (some ⟨g4, 0, none⟩) (n1 + 1) cap4)) w.heap.size (Hd.mk id rp au ct wa ca code qn qt) (.slice (some ⟨g4, 0, none⟩) (n1 + 1) cap4) (.slice A2 n2 c2) (.slice A3 n3 c3)) WB3.out)
      go_wp2
      exact bodyPost_ret (v := .agg #[.int .i64 (Hd.mk id rp au ct wa ca code qn qt).id, .bool (Hd.mk id rp au ct wa ca code qn qt).rp, .bool (Hd.mk id rp au ct wa ca code qn qt).au, .bool (Hd.mk id rp au ct wa ca code qn qt).ct, .bool (Hd.mk id rp au ct wa ca code qn qt).wa, .bool (Hd.mk id rp au ct wa ca code qn qt).ca, .int .i64 (Hd.mk id rp au ct wa ca code qn qt).code, .string (Hd.mk id rp au ct wa ca code qn qt).qn, .int .i64 (Hd.mk id rp au ct wa ca code qn qt).qt, .slice (some ⟨g4, 0, none⟩) (n1 + 1) cap4, .slice A2 n2 c2, .slice A3 n3 c3]) (res1M rfl FF.out.1 rfl) rfl ⟨Hd.mk id rp au ct wa ca code qn qt, _, n1 + 1, cap4, l1 ++ [r], A2, n2, c2, l2, A3, n3, c3, l3, rfl, HQ.out, ⟨⟨_, WB1.out, Y1.out⟩, by omega, SMN.out⟩, ⟨⟨_, WB2.out, Y2.out⟩, by omega, SM2.out⟩, ⟨⟨_, WB3.out, Y3.out⟩, by omega, SM3.out⟩, FF.out.2.1, FF.out.2.2⟩
  by_cases q5 : q = 5
  · subst q5
    go_wp2
    go_loopw [44] (fun _ wr => ∃ (AA : Option Addr) (nn cc : Nat) (ll : List Rec), nn ≤ 9 ∧ Hid (Bq w g gm (Hd.mk id rp au ct wa ca code qn qt) (.slice A1 n1 c1) (.slice A2 n2 c2) (.slice AA nn cc) wr) ∧ Hid (wr.ownsRow b1 73 6 (.slice A1 n1 c1) n1 (fl l1)) ∧ Hid (wr.ownsRow b2 73 6 (.slice A2 n2 c2) n2 (fl l2)) ∧ Hid (wr.ownsRow b3 73 6 (.slice AA nn cc) nn (fl ll)) ∧ Hid (∀ r ∈ ll, Sml r) ∧ Hid (b3 ≤ wr.heap.size)) (fun _ wr => 9 - lenAt wr ⟨gm, 11, none⟩)
    case atStart => exact ⟨A3, n3, c3, l3, by omega, B2.out, P1.out, P2.out, P3.out, SM3.out, HBS3.out⟩
    case round =>
      have K13 := Lib.hid (und_row P1.out U13.out)
      have K23 := Lib.hid (und_row P2.out U23.out)
      clear B2 P1 P2 P3 SM3 HBS1 HBS2 HBS3
      obtain ⟨AA, nn, cc, ll, hnn, B2, P1, P2, P3, SM3, HBS3⟩ := hrel
      have HLN := Lib.hid (lenAt_of (mx_of B2.out.2.2.2.2.2).2.2.2.2.2.2.2.2.2.2.2)
      by_cases hlt : nn < 9
      · have c11 := (mx_of B2.out.2.2.2.2.2).2.2.2.2.2.2.2.2.2.2.2
        have f11 := B2.out.2.2.2.2.2.free 11
        have BD := Lib.hid (Bq.drawn B2.out)
        have OD := Lib.hid (own_drew P3.out)
        have ID0 := Lib.hid (own_drew P1.out)
        have ID1 := Lib.hid (own_drew P2.out)
        have LA := Lib.hid (show Calls Tryz.prog 52 #[.pointer (some ⟨g, 0, none⟩)] wr.drew (Rcd wr.drew g) from l5Draw_any g wr.drew BD.out.cur)
        have hn8 : nn ≤ 800000000 := by omega
        have h18 : 1 ≤ 800000000 := by decide
        have h01 : 0 < 1 := by decide
        go_wp2
        go_region_law (first
          | (go_simp; go_at_call 52; refine LA.out.mono ?_; rintro e w3 ⟨r, rfl, hr, hc3, hg3⟩; have hbx : b3 ≤ (w3.alloc (.cells #[.string r.name, .int .i64 r.ty, .int .i64 r.ttl, .int .i64 r.n, .string r.host, .string r.text] 73)).heap.size := (by have h1 := HBS3.out; have h2 : wr.heap.size ≤ w3.heap.size := hg3.size; (simp; omega)); have B5 := BD.out.step hc3 hg3; have B6 := B5.alloc (.cells #[.string r.name, .int .i64 r.ty, .int .i64 r.ttl, .int .i64 r.n, .string r.host, .string r.text] 73); have O6 := (own_step OD.out hg3 GB3.out).alloc (.cells #[.string r.name, .int .i64 r.ty, .int .i64 r.ttl, .int .i64 r.n, .string r.host, .string r.text] 73); have y1 := (mx_of B5.2.2.2.2.2).2.2.2.2.2.2.2.2.2.2.2; have y2 := (mx_of B6.2.2.2.2.2).2.2.2.2.2.2.2.2.2.2.2; have I0 := (own_step ID0.out hg3 GB1.out).alloc (.cells #[.string r.name, .int .i64 r.ty, .int .i64 r.ttl, .int .i64 r.n, .string r.host, .string r.text] 73); have I1 := (own_step ID1.out hg3 GB2.out).alloc (.cells #[.string r.name, .int .i64 r.ty, .int .i64 r.ttl, .int .i64 r.n, .string r.host, .string r.text] 73))
          | (refine step_append_recs rfl (.tmp 49) (.tmp 52) rfl b3 nn (.slice AA nn cc) ll rfl O6 w3.heap.size 0 1 1 (w3.alloc (.cells #[.string r.name, .int .i64 r.ty, .int .i64 r.ttl, .int .i64 r.n, .string r.host, .string r.text] 73)).heap.size [r] rfl (one_sr w3 r) hn8 h18 h01 hbx ?_; intro g4 cap4 w4 hown hgrow; have B7 := Bq.row B6 hgrow (row_box B6 O6 WB3.out); have kc := (mx_of B7.2.2.2.2.2).2.2.2.2.2.2.2.2.2.2.2; have kf := B7.2.2.2.2.2.free 11; have J0 := own_apart I0 hgrow (fun j hj e => by have h1 := (O6.lt j e.symm).1; have h2 := K13.out j hj; omega); have J1 := own_apart I1 hgrow (fun j hj e => by have h1 := (O6.lt j e.symm).1; have h2 := K23.out j hj; omega)))
        all_goals
          have B8 : Hid (Bq w g gm (Hd.mk id rp au ct wa ca code qn qt) (.slice A1 n1 c1) (.slice A2 n2 c2) (.slice (some ⟨g4, 0, none⟩) (nn + 1) cap4) (w4.setCell ⟨gm, 11, none⟩ (.slice (some ⟨g4, 0, none⟩) (nn + 1) cap4))) := B7.set 11 (.slice (some ⟨g4, 0, none⟩) (nn + 1) cap4) rfl
          have N3 := Lib.hid (own_box hown B7.2.2.2.2.2 11 (.slice (some ⟨g4, 0, none⟩) (nn + 1) cap4))
          have N1 := Lib.hid (own_box J0 B7.2.2.2.2.2 11 (.slice (some ⟨g4, 0, none⟩) (nn + 1) cap4))
          have N2 := Lib.hid (own_box J1 B7.2.2.2.2.2 11 (.slice (some ⟨g4, 0, none⟩) (nn + 1) cap4))
          have SMN : Hid (∀ x ∈ ll ++ [r], Sml x) := fun x hx => by
            rcases List.mem_append.1 hx with hx | hx
            · exact SM3.out x hx
            · rw [List.mem_singleton.1 hx]; exact hr
          have HBN : Hid (b3 ≤ (w4.setCell ⟨gm, 11, none⟩ (.slice (some ⟨g4, 0, none⟩) (nn + 1) cap4)).heap.size) := by show _ ≤ _; have h1 := (N3.out.lt g4 rfl); omega
          have HLM := Lib.hid (lenAt_of (mx_of B8.out.2.2.2.2.2).2.2.2.2.2.2.2.2.2.2.2)
          clear B7 hown hgrow J0 J1 I0 I1 O6 B5 B6 y1 y2 hr hc3 hg3 hbx kc kf LA BD OD ID0 ID1 B2 P1 P2 P3 c11 f11 SM3 HBS3
          go_wp2
          go_roundw
          case rel => exact ⟨_, nn + 1, cap4, ll ++ [r], by omega, B8.out, N1.out, N2.out, N3.out, SMN.out, HBN.out⟩
          case measure =>
            rw [HLN.out, HLM.out]
            omega
      · have h9 : ¬ (nn : Int) < 9 := by omega
        obtain ⟨x0, x1, x2, x3, x4, x5, x6, x7, x8, x9, x10, x11⟩ := mx_of B2.out.2.2.2.2.2
        obtain ⟨z0, z1, z2, z3, z4, z5, z6, z7, z8, z9, z10, z11⟩ := mx_of B2.out.2.2.2.2.1
        have q0 := B2.out.2.2.2.2.1.free 0
        have q1 := B2.out.2.2.2.2.1.free 1
        have q2 := B2.out.2.2.2.2.1.free 2
        have q3 := B2.out.2.2.2.2.1.free 3
        have q4 := B2.out.2.2.2.2.1.free 4
        have q5 := B2.out.2.2.2.2.1.free 5
        have q6 := B2.out.2.2.2.2.1.free 6
        have q7 := B2.out.2.2.2.2.1.free 7
        have q8 := B2.out.2.2.2.2.1.free 8
        have q9 := B2.out.2.2.2.2.1.free 9
        have q10 := B2.out.2.2.2.2.1.free 10
        have q11 := B2.out.2.2.2.2.1.free 11
        have FF := Lib.hid B2.out.fil
        have Y1 := Lib.hid (own_step P1.out (filM_grown wr w.heap.size (Hd.mk id rp au ct wa ca code qn qt) (.slice A1 n1 c1) (.slice A2 n2 c2) (.slice AA nn cc)) WB1.out)
        have Y2 := Lib.hid (own_step P2.out (filM_grown wr w.heap.size (Hd.mk id rp au ct wa ca code qn qt) (.slice A1 n1 c1) (.slice A2 n2 c2) (.slice AA nn cc)) WB2.out)
        have Y3 := Lib.hid (own_step P3.out (filM_grown wr w.heap.size (Hd.mk id rp au ct wa ca code qn qt) (.slice A1 n1 c1) (.slice A2 n2 c2) (.slice AA nn cc)) WB3.out)
        go_wp2
        exact bodyPost_ret (v := .agg #[.int .i64 (Hd.mk id rp au ct wa ca code qn qt).id, .bool (Hd.mk id rp au ct wa ca code qn qt).rp, .bool (Hd.mk id rp au ct wa ca code qn qt).au, .bool (Hd.mk id rp au ct wa ca code qn qt).ct, .bool (Hd.mk id rp au ct wa ca code qn qt).wa, .bool (Hd.mk id rp au ct wa ca code qn qt).ca, .int .i64 (Hd.mk id rp au ct wa ca code qn qt).code, .string (Hd.mk id rp au ct wa ca code qn qt).qn, .int .i64 (Hd.mk id rp au ct wa ca code qn qt).qt, .slice A1 n1 c1, .slice A2 n2 c2, .slice AA nn cc]) (res1M rfl FF.out.1 rfl) rfl ⟨Hd.mk id rp au ct wa ca code qn qt, A1, n1, c1, l1, A2, n2, c2, l2, AA, nn, cc, ll, rfl, HQ.out, ⟨⟨_, WB1.out, Y1.out⟩, by omega, SM1.out⟩, ⟨⟨_, WB2.out, Y2.out⟩, by omega, SM2.out⟩, ⟨⟨_, WB3.out, Y3.out⟩, by omega, SM3.out⟩, FF.out.2.1, FF.out.2.2⟩
  have e0 : (q == 0) = false := beq_eq_false_iff_ne.2 q0
  have e1 : (q == 1) = false := beq_eq_false_iff_ne.2 q1
  have e2 : (q == 2) = false := beq_eq_false_iff_ne.2 q2
  have e3 : (q == 3) = false := beq_eq_false_iff_ne.2 q3
  have e4 : (q == 4) = false := beq_eq_false_iff_ne.2 q4
  have e5 : (q == 5) = false := beq_eq_false_iff_ne.2 q5
  obtain ⟨x0, x1, x2, x3, x4, x5, x6, x7, x8, x9, x10, x11⟩ := mx_of B2.out.2.2.2.2.2
  obtain ⟨z0, z1, z2, z3, z4, z5, z6, z7, z8, z9, z10, z11⟩ := mx_of B2.out.2.2.2.2.1
  have q0 := B2.out.2.2.2.2.1.free 0
  have q1 := B2.out.2.2.2.2.1.free 1
  have q2 := B2.out.2.2.2.2.1.free 2
  have q3 := B2.out.2.2.2.2.1.free 3
  have q4 := B2.out.2.2.2.2.1.free 4
  have q5 := B2.out.2.2.2.2.1.free 5
  have q6 := B2.out.2.2.2.2.1.free 6
  have q7 := B2.out.2.2.2.2.1.free 7
  have q8 := B2.out.2.2.2.2.1.free 8
  have q9 := B2.out.2.2.2.2.1.free 9
  have q10 := B2.out.2.2.2.2.1.free 10
  have q11 := B2.out.2.2.2.2.1.free 11
  have FF := Lib.hid B2.out.fil
  have Y1 := Lib.hid (own_step P1.out (filM_grown w2 w.heap.size (Hd.mk id rp au ct wa ca code qn qt) (.slice A1 n1 c1) (.slice A2 n2 c2) (.slice A3 n3 c3)) WB1.out)
  have Y2 := Lib.hid (own_step P2.out (filM_grown w2 w.heap.size (Hd.mk id rp au ct wa ca code qn qt) (.slice A1 n1 c1) (.slice A2 n2 c2) (.slice A3 n3 c3)) WB2.out)
  have Y3 := Lib.hid (own_step P3.out (filM_grown w2 w.heap.size (Hd.mk id rp au ct wa ca code qn qt) (.slice A1 n1 c1) (.slice A2 n2 c2) (.slice A3 n3 c3)) WB3.out)
  go_wp2
  exact bodyPost_ret (v := .agg #[.int .i64 (Hd.mk id rp au ct wa ca code qn qt).id, .bool (Hd.mk id rp au ct wa ca code qn qt).rp, .bool (Hd.mk id rp au ct wa ca code qn qt).au, .bool (Hd.mk id rp au ct wa ca code qn qt).ct, .bool (Hd.mk id rp au ct wa ca code qn qt).wa, .bool (Hd.mk id rp au ct wa ca code qn qt).ca, .int .i64 (Hd.mk id rp au ct wa ca code qn qt).code, .string (Hd.mk id rp au ct wa ca code qn qt).qn, .int .i64 (Hd.mk id rp au ct wa ca code qn qt).qt, .slice A1 n1 c1, .slice A2 n2 c2, .slice A3 n3 c3]) (res1M rfl FF.out.1 rfl) rfl ⟨Hd.mk id rp au ct wa ca code qn qt, A1, n1, c1, l1, A2, n2, c2, l2, A3, n3, c3, l3, rfl, HQ.out, ⟨⟨_, WB1.out, Y1.out⟩, by omega, SM1.out⟩, ⟨⟨_, WB2.out, Y2.out⟩, by omega, SM2.out⟩, ⟨⟨_, WB3.out, Y3.out⟩, by omega, SM3.out⟩, FF.out.2.1, FF.out.2.2⟩
end Go.Proofs.YtlakegeabnjegaaGreatDoor.DrawO
