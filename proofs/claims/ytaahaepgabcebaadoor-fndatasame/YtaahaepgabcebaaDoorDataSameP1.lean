/- What dataIn, maps.Equal and SameData do in the program: a set of the records without their times to live; whether two such sets are equal. Condition: fewer than 400000001 records. -/
import Derived.Test.YtaahaepgabcebaaDoorDrawSu
import Derived.Test.YtaahaepgabcebaaDoorSortS
import Derived.Test.YtaahaepgabcebaaDoorDrawA
import Derived.Test.YtaahaepgabcebaaDoorMem
import Derived.Maps.RangeRun
import Derived.Maps.OwnOps
import Derived.Deep.AppendLies
import Derived.Test.YtaahaepgabcebaaDoorSetMath
import Derived.Test.YtaahaepgabcebaaDoorMemR
import Derived.Laws.StructEq
import Derived.WideKeyArgs2
import Derived.Test.YtaahaepgabcebaaDoorIsin
import Derived.Test.YtaahaepgabcebaaDoorWt
import Derived.Deep.DeepCutAuto
/- What the model's draws for Addrs and SameData do: rows of records of short texts; nothing that was there is turned. -/
namespace Go.Proofs.YtaahaepgabcebaaDoor.DrawSv
open Go.RowKit Go.Proofs.YtaahaepgabcebaaDoor.Mem Go.Proofs.YtaahaepgabcebaaDoor.MemR Go.Proofs.YtaahaepgabcebaaDoor.Draw Go.Proofs.YtaahaepgabcebaaDoor.DrawS Go.Proofs.YtaahaepgabcebaaDoor.DrawR Go.Proofs.YtaahaepgabcebaaDoor.DrawSt Go.Proofs.YtaahaepgabcebaaDoor.DrawSu Go.Proofs.YtaahaepgabcebaaDoor.LessR Go.Proofs.YtaahaepgabcebaaDoor.SrtMath

/-- A row of at most 6 records of short texts, and a name. -/
def Rws (w : World) (e : Ending) (w' : World) : Prop := ∃ (gl m cap : Nat) (L : List Rec) (s : ByteArray), e = .returned (.tuple #[.slice (some ⟨gl, 0, none⟩) m cap, .string s]) ∧ m ≤ 6 ∧ (∀ r ∈ L, Sml r) ∧ Sr w' w'.heap.size (some ⟨gl, 0, none⟩) m L ∧ Below w.heap.size w w'

/-- Two rows of at most 6 records; the texts of the first are short. -/
def Rwd (w : World) (e : Ending) (w' : World) : Prop := ∃ (gl m cap : Nat) (L : List Rec) (gq oq q cq : Nat) (Q : List Rec), e = .returned (.tuple #[.slice (some ⟨gl, 0, none⟩) m cap, .slice (some ⟨gq, oq, none⟩) q cq]) ∧ m ≤ 6 ∧ q ≤ 6 ∧ (∀ r ∈ L, Sml r) ∧ Sr w' w'.heap.size (some ⟨gl, 0, none⟩) m L ∧ Sr w' w'.heap.size (some ⟨gq, oq, none⟩) q Q ∧ Below w.heap.size w w'

theorem grown_of_below {w w' : World} (h : Below w.heap.size w w') (r : Option Nat) : w.grownBy w' r := ⟨h.os, h.tape, h.output, h.size, fun k hk _ => h.block k hk⟩

theorem fine_of {l : List Rec} (h : ∀ r ∈ l, Sml r) : ∀ r ∈ l, Fine r := fun r hr => by
  obtain ⟨a, b, c⟩ := h r hr
  exact ⟨by omega, by omega⟩

/-- A row without its first record. -/
theorem sr_tail {w : World} {g m : Nat} {l : List Rec} (h : Sr w w.heap.size (some ⟨g, 0, none⟩) m l) (hm : 0 < m) : Sr w w.heap.size (some ⟨g, 6, none⟩) (m - 1) l.tail := by
  refine ⟨by rw [List.length_tail, h.1], fun _ => ?_⟩
  obtain ⟨b, off, hA, hb, hc⟩ := h.2 hm
  obtain ⟨rfl, rfl⟩ : g = b ∧ 0 = off := by simpa using hA
  refine ⟨g, 6, rfl, hb, fun j hj => ?_⟩
  have h1 : j + 1 < l.length := by rw [List.length_tail] at hj; omega
  have := hc (j + 1) h1
  rw [List.getElem_tail]
  rw [show 6 + j * 6 = 0 + (j + 1) * 6 by omega]
  exact this

set_option maxHeartbeats 4000000 in
set_option maxRecDepth 100000 in
theorem drawHosts_any (A : Option Addr) (n c : Nat) (l : List UInt8) (w : World) (hs : Sl w w.heap.size A n l) (hn : n ≤ 1048576) : Calls Tryd.prog 6 #[.slice A n c] w (Rw w) := by
  have HS := Lib.hid hs
  clear hs
  go_enter Tryd.func6, Tryd.ntmps6
  go_wp2_with fail
  refine (l1New_any A n c l w HS.out hn).mono ?_
  rintro e w1 ⟨rfl, hc1, hg1⟩
  have C1 := Lib.hid hc1
  have L1 := Lib.hid (below_of_grown hg1)
  clear hc1 hg1
  go_wp2_with fail
  refine (DrawA.l5List_any w.heap.size 6 w1 C1.out (by omega)).mono ?_
  rintro e w2 ⟨gl, cap, L, rfl, ho, hL, hS, hc2, hg2⟩
  have O2 := Lib.hid (own_sr ho rfl)
  have S2 := Lib.hid hS
  have L2 := Lib.hid (below_more L1.out hg2 (Nat.le_refl _))
  clear ho hS hc2 hg2
  obtain ⟨m, hm⟩ : ∃ m, L.length = m := ⟨_, rfl⟩
  rw [hm] at hL O2 ⊢
  go_wp2
  go_ret
  exact ⟨gl, m, cap, L, rfl, hL, S2.out, O2.out, L2.out⟩

set_option maxHeartbeats 8000000 in
set_option maxRecDepth 100000 in
theorem drawAddrs_any (A : Option Addr) (n c : Nat) (l : List UInt8) (w : World) (hs : Sl w w.heap.size A n l) (hn : n ≤ 1048576) : Calls Tryd.prog 7 #[.slice A n c] w (Rws w) := by
  have HS := Lib.hid hs
  clear hs
  go_enter Tryd.func7, Tryd.ntmps7
  go_wp2_with fail
  refine (l1New_any A n c l w HS.out hn).mono ?_
  rintro e w1 ⟨rfl, hc1, hg1⟩
  have C1 := Lib.hid hc1
  have L1 := Lib.hid (below_of_grown hg1)
  clear hc1 hg1
  go_wp2_with fail
  refine (near_any w.heap.size w1 C1.out).mono ?_
  rintro e w2 ⟨gl, m, cap, L, rfl, hm, hL, hS, ho, hc2, hg2⟩
  have O2 := Lib.hid ho
  have GA := Lib.hid (show w.heap.size < w1.heap.size from C1.out.lt)
  have S2 := Lib.hid hS
  have HL := Lib.hid hL
  have C2 := Lib.hid hc2
  have L2 := Lib.hid (below_more L1.out hg2 (Nat.le_refl _))
  clear ho hS hc2 hg2 hL C1 L1
  go_wp2_with fail
  refine (l1Str_any w.heap.size w2.heap.size 3 near3 _ (C2.out.alloc _) (bk_texts w2 near3 _ rfl) (Nat.ne_of_gt C2.out.lt) rfl (by omega) (by omega)).mono ?_
  rintro e w3 ⟨s, rfl, hs, hc3, hg3⟩
  have O3 := Lib.hid (own_far (O2.out.alloc _) hg3 GA.out)
  have L3 := Lib.hid (below_more (L2.out.alloc L2.out.size _) hg3 (Nat.le_refl _))
  clear hs hc3 hg3 C2 O2 L2
  go_wp2
  go_ret2
  exact ⟨gl, m, cap, L, s, rfl, hm, S2.out, own_sr O3.out HL.out, L3.out⟩

set_option maxHeartbeats 8000000 in
set_option maxRecDepth 100000 in
theorem drawSameData_any (A : Option Addr) (n c : Nat) (l : List UInt8) (w : World) (hs : Sl w w.heap.size A n l) (hn : n ≤ 1048576) : Calls Tryd.prog 5 #[.slice A n c] w (Rwd w) := by
  have HS := Lib.hid hs
  clear hs
  go_enter Tryd.func5, Tryd.ntmps5
  go_wp2_with fail
  refine (l1New_any A n c l w HS.out hn).mono ?_
  rintro e w1 ⟨rfl, hc1, hg1⟩
  have C1 := Lib.hid hc1
  have L1 := Lib.hid (below_of_grown hg1)
  clear hc1 hg1
  go_wp2_with fail
  refine (near_any w.heap.size w1 C1.out).mono ?_
  rintro e w2 ⟨gl, m, cap, L, rfl, hm, hL, hS, ho, hc2, hg2⟩
  have O2 := Lib.hid ho
  have GA := Lib.hid (show w.heap.size < w1.heap.size from C1.out.lt)
  have S2 := Lib.hid hS
  have HL := Lib.hid hL
  have C2 := Lib.hid hc2
  have L2 := Lib.hid (below_more L1.out hg2 (Nat.le_refl _))
  clear ho hS hc2 hg2 hL C1 L1
  go_wp2_with fail
  refine (l1Once_any w.heap.size 2 w2 C2.out (by omega) (by omega)).mono ?_
  rintro e w3 ⟨b, rfl, hc3, hg3⟩
  have O3 := Lib.hid (own_far O2.out hg3 GA.out)
  have C3 := Lib.hid hc3
  have L3 := Lib.hid (below_more L2.out hg3 (Nat.le_refl _))
  clear hc3 hg3 C2 O2 L2
  cases b
  · go_wp2_with fail
    refine (near_any w.heap.size w3 C3.out).mono ?_
    rintro e w4 ⟨gq, q, cq, Q, rfl, hq, hQ, -, ho, hc4, hg4⟩
    have Q4 := Lib.hid (own_sr ho hQ)
    have P4 := Lib.hid (own_sr (own_far O3.out hg4 GA.out) HL.out)
    have L4 := Lib.hid (below_more L3.out hg4 (Nat.le_refl _))
    clear ho hc4 hg4
    go_wp2
    go_ret2
    exact ⟨gl, m, cap, L, gq, 0, q, cq, Q, rfl, hm, hq, S2.out, P4.out, Q4.out, L4.out⟩
  · go_wp2_with fail
    refine (SortS.spec gl 0 m cap L w3 (own_sr O3.out HL.out) (by omega) (fine_of S2.out)).mono ?_
    rintro e w4 ⟨Ls, gs, cs, rs, hS, rfl, hcap, hg, hb, hl⟩
    have O4 := Lib.hid (O3.out.kept (grown_of_below hl none) (Or.inr (fun e => by cases e)))
    have C4 := Lib.hid (C3.out.grown (grown_of_below hl none) (fun k hk => by cases hk))
    have L4 := Lib.hid (L3.out.trans (hl.mono L3.out.size))
    have B4 := Lib.hid hb
    have N4 : Hid (w.heap.size < gs) := Nat.lt_of_lt_of_le C3.out.lt hg
    have HLs := Lib.hid (hS.length.trans HL.out)
    clear hS hcap hg hb hl O3 C3 L3
    go_wp2_with fail
    refine (l1Below_any w.heap.size 9 w4 C4.out (by omega) (by omega)).mono ?_
    rintro e w5 ⟨x, rfl, hx0, hx1, hc5, hg5⟩
    have O5 := Lib.hid (own_far O4.out hg5 GA.out)
    have C5 := Lib.hid hc5
    have B5 := Lib.hid (B4.out.grown hg5 (fun h => by have h8 : gs = w.heap.size := Option.some.inj h; have := N4.out; omega))
    have L5 := Lib.hid (below_more L4.out hg5 (Nat.le_refl _))
    clear hc5 hg5 O4 C4 L4 B4
    go_wp2_with fail
    refine (Wt.spec x gs 0 m cs Ls w5 (bk_sr B5.out HLs.out) (by omega)).mono ?_
    rintro e w6 ⟨gw, mw, cw, rw6, rfl, hmw, hcw, hgw, hbw, hl⟩
    have O6 := Lib.hid (O5.out.kept (grown_of_below hl none) (Or.inr (fun e => by cases e)))
    have C6 := Lib.hid (C5.out.grown (grown_of_below hl none) (fun k hk => by cases hk))
    have L6 := Lib.hid (L5.out.trans (hl.mono L5.out.size))
    have B6 := Lib.hid hbw
    have N6 : Hid (w.heap.size < gw) := Nat.lt_of_lt_of_le C5.out.lt hgw
    have HMW := Lib.hid hmw
    have hmw6 : mw ≤ 6 := by have h1 := HLs.out; rw [List.length_map] at hmw; omega
    clear hmw hgw hbw hl O5 C5 L5 B5
    by_cases h0 : mw = 0
    · subst h0
      have SQ := Lib.hid (bk_sr B6.out HMW.out)
      go_wp2
      go_ret2
      exact ⟨gl, m, cap, L, gw, 0, 0, cw, Ls.map (SetMath.wr x), rfl, hm, by omega, S2.out, own_sr O6.out HL.out, SQ.out, L6.out⟩
    have hp0 : (0 : Int) < (mw : Int) := by omega
    go_wp2_with fail
    refine (l1Once_any w.heap.size 3 w6 C6.out (by omega) (by omega)).mono ?_
    rintro e w7 ⟨b, rfl, hc7, hg7⟩
    have O7 := Lib.hid (own_far O6.out hg7 GA.out)
    have B7 := Lib.hid (B6.out.grown hg7 (fun h => by have h8 : gw = w.heap.size := Option.some.inj h; have := N6.out; omega))
    have L7 := Lib.hid (below_more L6.out hg7 (Nat.le_refl _))
    have SQ := Lib.hid (bk_sr B7.out HMW.out)
    clear hc7 hg7 C6 O6 L6 B6
    cases b
    · go_wp2
      go_ret2
      exact ⟨gl, m, cap, L, gw, 0, mw, cw, Ls.map (SetMath.wr x), rfl, hm, hmw6, S2.out, own_sr O7.out HL.out, SQ.out, L7.out⟩
    · by_cases h1 : cw = 1
      · have hm1 : mw = 1 := by omega
        subst h1
        subst hm1
        go_wp2
        go_ret2
        exact ⟨gl, m, cap, L, gw, 0, 0, 0, [], rfl, hm, by omega, S2.out, own_sr O7.out HL.out, Sr.nil, L7.out⟩
      · have ST := Lib.hid (sr_tail SQ.out (by omega))
        have c1 : (1 : Int) ≤ (mw : Int) := by omega
        have c2 : (mw : Int) ≤ (cw : Int) := by omega
        have c3 : ¬ (cw : Int) = 1 := by omega
        have c4 : ¬ cw - 1 = 0 := by omega
        go_wp2
        go_ret2
        exact ⟨gl, m, cap, L, gw, 6, mw - 1, cw - 1, (Ls.map (SetMath.wr x)).tail, by simp, hm, by omega, S2.out, own_sr O7.out HL.out, ST.out, L7.out⟩
end Go.Proofs.YtaahaepgabcebaaDoor.DrawSv

/- Maps that a call makes and only adds to: what the block of such a map holds, entry by entry in the order in which they came, and the laws on a look-up, a store and a range. Condition: the keys are of a kind that can be compared without a panic (KeyT). -/
namespace Go.Proofs.YtaahaepgabcebaaDoor.MapK
open Go.RowKit Go.Proofs.YtaahaepgabcebaaDoor.Mem
open Go.ChangeMaps (setBlock heap_setBlock_same heap_setBlock_other)

/-- What the laws need of the values S as keys of type k. -/
structure KeyT (P : Program) (k : TypeId) (S : Value → Prop) : Prop where
  check : ∀ (w : World) (em : Bool) {v : Value}, S v → (Instr.checkKey em 10000 k v).run P w = .ok () w
  find : ∀ (w : World) {x : Value}, S x → ∀ es : List MapEntry, (∀ e ∈ es, S e.key) →
    ((Instr.findKey k x es).run P w = .ok none w ∧ ∀ e ∈ es, e.key ≠ x) ∨ ∃ j e, (Instr.findKey k x es).run P w = .ok (some (j, e.val)) w ∧ es[j]? = some e ∧ e.key = x
  stays : ∀ (w : World) {v : Value}, S v → (Instr.keyThatStays v v).run P w = .ok v w

theorem KeyT.of {P : Program} {k : TypeId} (K : Go.Maps.Keyed P k) {S : Value → Prop} (h : ∀ v, S v → ∃ l, keyOf P k v = some l) : KeyT P k S where
  check w em v hv := by obtain ⟨l, hl⟩ := h v hv; exact K.check w em hl
  find w x hx es hes := by obtain ⟨l, hl⟩ := h x hx; exact K.find w hl es (fun e he => h _ (hes e he))
  stays w v hv := by obtain ⟨l, hl⟩ := h v hv; exact K.stays w hl

/-- Keys of a struct's type: all that is wanted is whether two of them are equal. -/
theorem KeyT.struct {P : Program} {k : TypeId} {S : Value → Prop} (d : TypeDesc) (hd : P.underlying k = some d) (hn : ∀ x y : Value, S x → Instr.sameNow d x y = none)
    (check : ∀ (w : World) (em : Bool) {v : Value}, S v → (Instr.checkKey em 10000 k v).run P w = .ok () w)
    (same : ∀ (w : World) {x : Value}, S x → (Op.equal k x x).run P w = .ok true w)
    (diff : ∀ (w : World) {x y : Value}, S x → S y → x ≠ y → (Op.equal k x y).run P w = .ok false w)
    (stays : ∀ (w : World) {v : Value}, S v → (Instr.keyThatStays v v).run P w = .ok v w) : KeyT P k S where
  check := check
  stays := stays
  find := by
    have ask : ∀ (w : World) {x : Value}, S x → ∀ (es : List MapEntry) (i : Nat), (∀ e ∈ es, S e.key) →
        ((Instr.findAsking k x es i).run P w = .ok none w ∧ ∀ e ∈ es, e.key ≠ x) ∨ ∃ j e, (Instr.findAsking k x es i).run P w = .ok (some (i + j, e.val)) w ∧ es[j]? = some e ∧ e.key = x := by
      intro w x hx es
      induction es with
      | nil => intro i _; exact Or.inl ⟨rfl, fun e he => by cases he⟩
      | cons e es ih =>
        intro i hes
        have he := hes e (by simp)
        by_cases hq : e.key = x
        · right
          refine ⟨0, e, ?_, rfl, hq⟩
          have hrun := same w hx
          rw [Instr.findAsking, hq]
          simp only [Sem.run_bind, hrun, Result.andThen]
          rfl
        · have hrun := diff w hx he (fun h => hq h.symm)
          have e1 : (Instr.findAsking k x (e :: es) i).run P w = (Instr.findAsking k x es (i + 1)).run P w := by
            rw [Instr.findAsking]
            simp only [Sem.run_bind, hrun, Result.andThen]
            rfl
          rw [e1]
          rcases ih (i + 1) (fun e' he' => hes e' (by simp [he'])) with ⟨h1, h2⟩ | ⟨j, e', h1, h2, h3⟩
          · left
            refine ⟨h1, fun e' he' => ?_⟩
            rcases List.mem_cons.1 he' with rfl | he'
            · exact hq
            · exact h2 e' he'
          · right
            exact ⟨j + 1, e', by rw [h1, show i + 1 + j = i + (j + 1) by omega], by simpa using h2, h3⟩
    intro w x hx es hes
    have hu : (Instr.findKey k x es).run P w = (Instr.findAsking k x es).run P w := by
      simp only [Instr.findKey, Sem.run_bind, run_underlying hd, Result.andThen]
      cases es with
      | nil => rfl
      | cons e es =>
        have h0 : Instr.findNow d x (e :: es) 0 = none := by
          rw [Instr.findNow, hn x e.key hx]
        rw [h0]
    rw [hu]
    rcases ask w hx es 0 hes with h | ⟨j, e, h1, h2, h3⟩
    · exact Or.inl h
    · exact Or.inr ⟨j, e, by rw [h1, Nat.zero_add], h2, h3⟩

theorem own_mono {w : World} {base base' : Nat} {e : TypeId} {size : Nat} {v : Value} {n : Nat} {xs : List Value} (h : w.ownsRow base e size v n xs) (hb : base' ≤ base) : w.ownsRow base' e size v n xs :=
  ⟨h.1, h.2.imp id (fun ⟨g, cap, cur, a, b, r⟩ => ⟨g, cap, cur, a, Nat.le_trans hb b, r⟩)⟩

/-- Block b of w is a map with just these entries, in the order in which they came. -/
def Mp (w : World) (b : Nat) (l : List (Value × Value)) : Prop :=
  ∃ es clock, w.heap[b]? = some (.map es clock) ∧ es.toList.map (fun e => (e.key, e.val)) = l ∧ (∀ e ∈ es.toList, e.born < clock) ∧ (es.toList.map (·.born)).Nodup

section
variable {P : Program} {w w' : World} {b : Nat} {l : List (Value × Value)} {k e t : TypeId} {S : Value → Prop}

theorem Mp.lt (h : Mp w b l) : b < w.heap.size := by
  obtain ⟨es, clock, hb, _⟩ := h
  exact (Array.getElem?_eq_some_iff.1 hb).1

theorem Mp.kept (h : Mp w b l) (hk : w'.heap[b]? = w.heap[b]?) : Mp w' b l := by
  obtain ⟨es, clock, hb, h1⟩ := h
  exact ⟨es, clock, hk.trans hb, h1⟩

theorem Mp.grown {row : Option Nat} (h : Mp w b l) (hg : w.grownBy w' row) (hne : some b ≠ row) : Mp w' b l := h.kept (hg.block b h.lt hne)

theorem Mp.below {B : Nat} (h : Mp w b l) (hb : Below B w w') (hlt : b < B) : Mp w' b l := h.kept (hb.block b hlt)

theorem Mp.alloc (h : Mp w b l) (o : Obj) : Mp (w.alloc o) b l := h.grown (World.grownBy_alloc w o none) (by simp)

theorem Mp.drew (h : Mp w b l) : Mp w.drew b l := h

theorem Mp.drewN (h : Mp w b l) (q : Nat) : Mp (w.drewN q) b l := h

theorem Mp.set (h : Mp w b l) {p : Addr} (hp : b ≠ p.block) (u : Value) : Mp (w.setCell p u) b l := h.kept (Below.heap_setCell w p u b hp)

theorem Mp.made (w : World) : Mp (w.alloc (.map #[] 0)) w.heap.size [] := ⟨#[], 0, (MapKept.heap_alloc w _).1, rfl, by simp, by simp⟩

theorem mem_key {es : Array MapEntry} (h : es.toList.map (fun e => (e.key, e.val)) = l) (hS : ∀ p ∈ l, S p.1) : ∀ e ∈ es.toList, S e.key := fun e he =>
  hS (e.key, e.val) (h ▸ List.mem_map.2 ⟨e, he, rfl⟩)

/-- A look-up of a key that is not there. -/
theorem Mp.out (h : Mp w b l) (K : KeyT P k S) (ht : P.underlying t = some (.map k e)) {z : Value} (hz : (zeroValue e).run P w = .ok z w) (hS : ∀ p ∈ l, S p.1) {x : Value} (hx : S x) (hno : ∀ p ∈ l, p.1 ≠ x) (ok : Bool) :
    (Instr.lookup t (.map (some b)) x ok).run P w = .ok (if ok then .tuple #[z, .bool false] else z) w := by
  obtain ⟨es, clock, hb, hl, _⟩ := h
  rcases K.find w hx es.toList (mem_key hl hS) with ⟨hrun, _⟩ | ⟨j, e0, _, hj, hk⟩
  · simp [Instr.lookup, run_underlying ht, MapKept.run_getObj_map hb, K.check w es.isEmpty hx, hrun, hz, Result.andThen]
  · exact absurd hk (hno (e0.key, e0.val) (hl ▸ List.mem_map.2 ⟨e0, List.mem_of_getElem? hj, rfl⟩))

theorem nodup_inj {α : Type} {l : List α} (hd : l.Nodup) {i j : Nat} {a : α} (h1 : l[i]? = some a) (h2 : l[j]? = some a) : i = j := by
  obtain ⟨hi, e1⟩ := List.getElem?_eq_some_iff.1 h1
  obtain ⟨hj, e2⟩ := List.getElem?_eq_some_iff.1 h2
  have hp := List.pairwise_iff_getElem.1 hd
  rcases Nat.lt_trichotomy i j with h | h | h
  · exact absurd (e1.trans e2.symm) (hp i j hi hj h)
  · exact h
  · exact absurd (e2.trans e1.symm) (hp j i hj hi h)

theorem key_idx (hd : (l.map Prod.fst).Nodup) {x u v : Value} {i j : Nat} (h1 : l[i]? = some (x, u)) (h2 : l[j]? = some (x, v)) : i = j :=
  nodup_inj hd (a := x) (by rw [List.getElem?_map, h1]; rfl) (by rw [List.getElem?_map, h2]; rfl)

theorem key_one (hd : (l.map Prod.fst).Nodup) {x u v : Value} (h1 : (x, u) ∈ l) (h2 : (x, v) ∈ l) : u = v := by
  obtain ⟨i, e1⟩ := List.getElem?_of_mem h1
  obtain ⟨j, e2⟩ := List.getElem?_of_mem h2
  obtain rfl := key_idx hd e1 e2
  rw [e1] at e2
  cases e2
  rfl

/-- A look-up of a key that is there. -/
theorem Mp.in (h : Mp w b l) (K : KeyT P k S) (ht : P.underlying t = some (.map k e)) (hS : ∀ p ∈ l, S p.1) (hd : (l.map Prod.fst).Nodup) {x v : Value} (hx : S x) (hin : (x, v) ∈ l) (ok : Bool) :
    (Instr.lookup t (.map (some b)) x ok).run P w = .ok (if ok then .tuple #[v, .bool true] else v) w := by
  obtain ⟨es, clock, hb, hl, _⟩ := h
  rcases K.find w hx es.toList (mem_key hl hS) with ⟨_, hno⟩ | ⟨j, e0, hrun, hj, hk⟩
  · rw [← hl] at hin
    obtain ⟨e0, he, hq⟩ := List.mem_map.1 hin
    exact absurd (congrArg Prod.fst hq) (hno e0 he)
  · have hv : e0.val = v := key_one hd (x := x) (by rw [← hl, ← hk]; exact List.mem_map.2 ⟨e0, List.mem_of_getElem? hj, rfl⟩) hin
    simp [Instr.lookup, run_underlying ht, MapKept.run_getObj_map hb, K.check w es.isEmpty hx, hrun, hv, Result.andThen]

theorem grown_block {es : Array MapEntry} {c : Nat} (hb : w.heap[b]? = some (.map es c)) (o' : Obj) : w.grownBy (setBlock w b o') (some b) := by
  exact ⟨rfl, rfl, rfl, by simp [setBlock], fun i _ hi => heap_setBlock_other hb _ (fun e => hi (by rw [e]))⟩

/-- A store at a key that is not there. -/
theorem Mp.new (h : Mp w b l) (K : KeyT P k S) (ht : P.underlying t = some (.map k e)) (hS : ∀ p ∈ l, S p.1) {x : Value} (v : Value) (hx : S x) (hno : ∀ p ∈ l, p.1 ≠ x) :
    ∃ w', (Instr.mapUpdate t (.map (some b)) x v).run P w = .ok () w' ∧ Mp w' b (l ++ [(x, v)]) ∧ w.grownBy w' (some b) ∧ w'.heap.size = w.heap.size := by
  obtain ⟨es, clock, hb, hl, hborn, hnd⟩ := h
  rcases K.find w hx es.toList (mem_key hl hS) with ⟨hrun, _⟩ | ⟨j, e0, _, hj, hk⟩
  · refine ⟨setBlock w b (.map (es.push ⟨x, v, clock⟩) (clock + 1)), ?_, ⟨_, _, heap_setBlock_same hb _, ?_, ?_, ?_⟩, grown_block hb _, by simp [setBlock]⟩
    · simp [Instr.mapUpdate, run_underlying ht, MapKept.run_getObj_map hb, K.check w false hx, hrun, MapKept.run_setObj_map _ hb, Result.andThen, setBlock]
    · rw [Array.toList_push, List.map_append, hl]; rfl
    · intro e' he'
      rw [Array.toList_push, List.mem_append] at he'
      rcases he' with he' | he'
      · have := hborn e' he'; omega
      · obtain rfl := List.mem_singleton.1 he'; exact Nat.lt_succ_self _
    · rw [Array.toList_push, List.map_append, List.nodup_append]
      refine ⟨hnd, by simp, fun a ha c hc => ?_⟩
      obtain ⟨e', he', rfl⟩ := List.mem_map.1 ha
      have h1 := hborn e' he'
      simp at hc
      omega
  · exact absurd hk (hno (e0.key, e0.val) (hl ▸ List.mem_map.2 ⟨e0, List.mem_of_getElem? hj, rfl⟩))

/-- A store at a key that is there. -/
theorem Mp.old (h : Mp w b l) (K : KeyT P k S) (ht : P.underlying t = some (.map k e)) (hS : ∀ p ∈ l, S p.1) (hd : (l.map Prod.fst).Nodup) {x u : Value} (v : Value) (hx : S x) {j : Nat} (hin : l[j]? = some (x, u)) :
    ∃ w', (Instr.mapUpdate t (.map (some b)) x v).run P w = .ok () w' ∧ Mp w' b (l.set j (x, v)) ∧ w.grownBy w' (some b) ∧ w'.heap.size = w.heap.size := by
  obtain ⟨es, clock, hb, hl, hborn, hnd⟩ := h
  rcases K.find w hx es.toList (mem_key hl hS) with ⟨_, hno⟩ | ⟨i, e0, hrun, hi, hk⟩
  · have hm := List.mem_of_getElem? hin
    rw [← hl] at hm
    obtain ⟨e0, he, hq⟩ := List.mem_map.1 hm
    exact absurd (congrArg Prod.fst hq) (hno e0 he)
  · have hli : l[i]? = some (e0.key, e0.val) := by rw [← hl, List.getElem?_map, hi]; rfl
    rw [hk] at hli
    obtain rfl := key_idx hd hli hin
    have hget : es[i]? = some e0 := by rw [← Array.getElem?_toList]; exact hi
    refine ⟨setBlock w b (.map (es.modify i fun e => { e with key := x, val := v }) clock), ?_, ⟨_, _, heap_setBlock_same hb _, ?_, ?_, ?_⟩, grown_block hb _, by simp [setBlock]⟩
    · have hst := K.stays w hx
      have hck := K.check w false hx
      subst hk
      simp [Instr.mapUpdate, run_underlying ht, MapKept.run_getObj_map hb, hck, hrun, hget, hst, MapKept.run_setObj_map _ hb, Result.andThen, setBlock]
    · rw [Array.toList_modify, ← hl]
      refine List.ext_getElem? fun n => ?_
      rw [List.getElem?_map, List.getElem?_modify, List.getElem?_set]
      by_cases hn : i = n
      · subst hn
        have : i < es.toList.length := (List.getElem?_eq_some_iff.1 hi).1
        rw [Array.length_toList] at this
        simp [this]
      · simp [hn]
    · intro e' he'
      rw [Array.toList_modify] at he'
      obtain ⟨n, hn⟩ := List.getElem?_of_mem he'
      rw [List.getElem?_modify] at hn
      obtain ⟨e1, h1, rfl⟩ := Option.map_eq_some_iff.1 hn
      have := hborn e1 (List.mem_of_getElem? h1)
      split <;> exact this
    · have : (es.modify i fun e => { e with key := x, val := v }).toList.map (·.born) = es.toList.map (·.born) := by
        rw [Array.toList_modify]
        refine List.ext_getElem? fun n => ?_
        rw [List.getElem?_map, List.getElem?_map, List.getElem?_modify]
        cases es.toList[n]? <;> simp
        split <;> rfl
      rw [this]
      exact hnd

/-- 'm[k]' at the operation. -/
theorem wp_look {ops : Array Oper} {rest : List Oper} {o : Oper} {a : Act} {Q : Exit → Act → World → Prop}
    (hg : o.guard = none) (m x : Operand) (ok : Bool) (hop : o.op = Op.lookup t m x ok) (key r : Value) (hm : a.eval m = .map (some b)) (hx : a.eval x = key)
    (hrun : (Instr.lookup t (.map (some b)) key ok).run P w = .ok r w) (hK : wpList P ops Q rest (a.put o.dst r) w) : wpList P ops Q (o :: rest) a w := by
  refine wpList_plain hg fun K' hK' => ?_
  unfold Oper.wp
  simp [execOp, hop, hm, hx, hrun, Result.andThen]
  exact hK' _ _ hK

/-- 'm[k] = v' at the operation. -/
theorem wp_store {ops : Array Oper} {rest : List Oper} {o : Oper} {a : Act} {Q : Exit → Act → World → Prop}
    (hg : o.guard = none) (m x v : Operand) (hop : o.op = Op.mapUpdate t m x v) (key u : Value) (hm : a.eval m = .map (some b)) (hx : a.eval x = key) (hv : a.eval v = u)
    (l' : List (Value × Value)) (hrun : ∃ w', (Instr.mapUpdate t (.map (some b)) key u).run P w = .ok () w' ∧ Mp w' b l' ∧ w.grownBy w' (some b) ∧ w'.heap.size = w.heap.size)
    (hK : ∀ w', Mp w' b l' → w.grownBy w' (some b) → w'.heap.size = w.heap.size → wpList P ops Q rest (a.put o.dst undef) w') : wpList P ops Q (o :: rest) a w := by
  obtain ⟨w', h1, h2, h3, h4⟩ := hrun
  refine wpList_plain hg fun K' hK' => ?_
  unfold Oper.wp
  simp [execOp, hop, hm, hx, hv, h1, Result.andThen]
  exact hK' _ _ (hK w' h2 h3 h4)
end
end Go.Proofs.YtaahaepgabcebaaDoor.MapK

/- len of a map, and a range over a map that nothing is laid into: the laws at the operations. -/
namespace Go.Proofs.YtaahaepgabcebaaDoor.MapN
open Go.RowKit Go.Proofs.YtaahaepgabcebaaDoor.Mem Go.Proofs.YtaahaepgabcebaaDoor.MapK
open Go.ChangeMaps (setBlock heap_setBlock_same heap_setBlock_other)

section
variable {P : Program} {w w' : World} {b r bm clock : Nat} {l : List (Value × Value)} {k e t : TypeId} {es : Array MapEntry} {seen : Array Nat}

theorem Mp.len (h : Mp w b l) (ht : P.underlying t = some (.map k e)) (ty : TypeId) : (Builtin.len_ #[t] ty #[.map (some b)]).run P w = .ok (.int .i64 (l.length : Nat)) w := by
  obtain ⟨es, clock, hb, hl, _⟩ := h
  have e1 : l.length = es.size := by rw [← hl]; simp
  simp [Builtin.len_, run_underlying ht, MapKept.run_getObj_map hb, goInt, Result.andThen, e1]

/-- 'len(m)' at the operation. -/
theorem wp_len {ops : Array Oper} {rest : List Oper} {o : Oper} {a : Act} {Q : Exit → Act → World → Prop} (hg : o.guard = none) (m : Operand) (hop : o.op = Op.call { callee := Callee.builtin Builtin.len, args := #[m], argTypes := #[t] })
    (hm : a.eval m = .map (some b)) (h : Mp w b l) (ht : P.underlying t = some (.map k e)) (hK : wpList P ops Q rest (a.put o.dst (.int .i64 (l.length : Nat))) w) : wpList P ops Q (o :: rest) a w := by
  refine wpList_plain hg fun K' hK' => ?_
  unfold Oper.wp
  simp [execOp, hop, resolve, invoke, builtin, hm, Mp.len h ht o.type, Result.andThen]
  exact hK' _ _ hK

/-- Block r is an iterator over block bm, which holds these entries; what it has seen. -/
def It (w : World) (r bm : Nat) (es : Array MapEntry) (clock : Nat) (seen : Array Nat) : Prop :=
  w.heap[r]? = some (.mapIter (some bm) clock seen clock) ∧ w.heap[bm]? = some (.map es clock)

theorem It.grown {row : Option Nat} (h : It w r bm es clock seen) (hg : w.grownBy w' row) (h1 : some r ≠ row) (h2 : some bm ≠ row) : It w' r bm es clock seen :=
  ⟨(hg.block r (Array.getElem?_eq_some_iff.1 h.1).1 h1).trans h.1, (hg.block bm (Array.getElem?_eq_some_iff.1 h.2).1 h2).trans h.2⟩

theorem It.alloc (h : It w r bm es clock seen) (o : Obj) : It (w.alloc o) r bm es clock seen := h.grown (World.grownBy_alloc w o none) (by simp) (by simp)

theorem It.made (hb : w.heap[bm]? = some (.map es clock)) : It (w.alloc (.mapIter (some bm) clock #[] clock)) w.heap.size bm es clock #[] :=
  ⟨heap_alloc_new w _, (heap_alloc_old w _ (Array.getElem?_eq_some_iff.1 hb).1).trans hb⟩

/-- How many entries are left. -/
def lft (w : World) (r bm : Nat) : Nat :=
  match w.heap[r]?, w.heap[bm]? with
  | some (.mapIter _ _ seen _), some (.map es _) => (leftOf es seen).size
  | _, _ => 0

theorem It.left (h : It w r bm es clock seen) : lft w r bm = (leftOf es seen).size := by unfold lft; rw [h.1, h.2]

theorem mem_left {e : MapEntry} : e ∈ (leftOf es seen).toList ↔ e ∈ es.toList ∧ e.born ∉ seen := by
  unfold leftOf
  simp

theorem left_less {e : MapEntry} (he : e ∈ (leftOf es seen).toList) : (leftOf es (seen.push e.born)).size < (leftOf es seen).size := by
  have h1 : (leftOf es (seen.push e.born)).toList = (leftOf es seen).toList.filter (fun x => !(x.born == e.born)) := by
    unfold leftOf
    simp only [Array.toList_filter]
    rw [List.filter_filter]
    refine List.filter_congr (fun x _ => ?_)
    simp only [Array.contains_push]
    cases seen.contains x.born <;> cases h : x.born == e.born <;> simp_all
  rw [← Array.length_toList, ← Array.length_toList, h1]
  refine List.length_filter_lt_length_iff_exists.2 ⟨e, he, by simp⟩

theorem left_none (h : (leftOf es seen).size = 0) : ∀ e ∈ es.toList, e.born ∈ seen := by
  intro e he
  by_cases hc : e.born ∈ seen
  · exact hc
  · have hm : e ∈ (leftOf es seen).toList := mem_left.2 ⟨he, hc⟩
    have : (leftOf es seen).toList.length = 0 := by rw [Array.length_toList]; exact h
    rw [List.eq_nil_of_length_eq_zero this] at hm
    cases hm

/-- 'next' at the operation: nothing is left, or one entry comes out, whichever. -/
theorem wp_next {ops : Array Oper} {rest : List Oper} {o : Oper} {a : Act} {Q : Exit → Act → World → Prop} (hg : o.guard = none) (x : Operand) (hop : o.op = Op.next x false)
    (hx : a.eval x = .pointer (some ⟨r, 0, none⟩)) (h : It w r bm es clock seen) (hold : ∀ e ∈ es.toList, e.born < clock)
    (h0 : (leftOf es seen).size = 0 → wpList P ops Q rest (a.put o.dst (.tuple #[.bool false])) w)
    (h1 : ∀ e ∈ (leftOf es seen).toList, ∀ w', It w' r bm es clock (seen.push e.born) → w.grownBy w' (some r) → w'.heap.size = w.heap.size → wpList P ops Q rest (a.put o.dst (.tuple #[.bool true, e.key, e.val])) w') : wpList P ops Q (o :: rest) a w := by
  refine wpList_plain hg fun K' hK' => ?_
  have hne : bm ≠ r := fun e => by have h1 := h.1; have h2 := h.2; rw [e, h1] at h2; cases h2
  rcases run_next_at (P := P) w o.type r bm clock clock seen es clock h.1 h.2 hold (Nat.le_refl _) with ⟨hz, hrun⟩ | ⟨e, he, w1, hw1, hrun⟩
  · unfold Oper.wp
    simp [execOp, hop, hx, hrun, Result.andThen]
    exact hK' _ _ (h0 hz)
  · unfold Oper.wp
    simp [execOp, hop, hx, hrun, Result.andThen]
    have hr1 : w1.heap[r]? = some (.mapIter (some bm) clock seen clock) := by rcases hw1 with rfl | rfl <;> exact h.1
    have hb1 : w1.heap[bm]? = some (.map es clock) := by rcases hw1 with rfl | rfl <;> exact h.2
    have hsame : (setBlock w1 r (.mapIter (some bm) clock (seen.push e.born) clock)).heap[r]? = some (.mapIter (some bm) clock (seen.push e.born) clock) := by
      have hlt := (Array.getElem?_eq_some_iff.1 hr1).1
      simp [setBlock, hlt]
    have hother : ∀ i, i ≠ r → (setBlock w1 r (.mapIter (some bm) clock (seen.push e.born) clock)).heap[i]? = w1.heap[i]? := fun i hi => by
      simp [setBlock, hi.symm]
    refine hK' _ _ (h1 e he _ ⟨hsame, (hother bm hne).trans hb1⟩ ⟨?_, ?_, ?_, ?_, ?_⟩ ?_)
    · rcases hw1 with rfl | rfl <;> rfl
    · rcases hw1 with rfl | rfl <;> rfl
    · rcases hw1 with rfl | rfl <;> rfl
    · rcases hw1 with rfl | rfl <;> simp [setBlock]
    · intro i _ hi
      have h2 := hother i (fun e => hi (by rw [e]))
      rw [h2]
      rcases hw1 with rfl | rfl <;> rfl
    · rcases hw1 with rfl | rfl <;> simp [setBlock]

/-- The round's key and value at the operation. -/
theorem wp_pair {ops : Array Oper} {rest : List Oper} {o : Oper} {a : Act} {Q : Exit → Act → World → Prop} (hg : o.guard = none) (x : Operand) (hop : o.op = Op.entry x)
    (hx : a.eval x = .pointer (some ⟨r, 0, none⟩)) (e : MapEntry) (h : It w r bm es clock (seen.push e.born)) (he : e ∈ es.toList) (hn : (es.toList.map (·.born)).Nodup)
    (hK : wpList P ops Q rest (a.put o.dst (.tuple #[e.key, e.val])) w) : wpList P ops Q (o :: rest) a w := by
  refine wpList_plain hg fun K' hK' => ?_
  have hrun := run_entry_at (P := P) w r bm clock seen es clock e h.1 h.2 he hn
  unfold Oper.wp
  simp [execOp, hop, hx, hrun, Result.andThen]
  exact hK' _ _ hK
end
end Go.Proofs.YtaahaepgabcebaaDoor.MapN

/- Plain facts on memory: questions, and what a slice of questions reads as; a new slice of questions that a call gives back; a law on append of one question. -/
namespace Go.Proofs.YtaahaepgabcebaaDoor.MemQ
open Go.RowKit Go.Proofs.YtaahaepgabcebaaDoor.Mem Go.Proofs.YtaahaepgabcebaaDoor.SetMath

/-- The cells that hold a question. -/
def qc (q : Key) : List Value := [.string q.name, .int .i64 q.ty]

/-- A question as a value. -/
def qv (q : Key) : Value := .agg #[.string q.name, .int .i64 q.ty]

/-- The cells that hold a list of questions. -/
def fq (l : List Key) : List Value := l.flatMap qc

theorem fq_cons (r : Key) (l : List Key) : fq (r :: l) = qc r ++ fq l := rfl

theorem fq_append (l m : List Key) : fq (l ++ m) = fq l ++ fq m := List.flatMap_append

theorem fq_len : ∀ l : List Key, (fq l).length = l.length * 2
  | [] => rfl
  | r :: l => by rw [fq_cons, List.length_append, fq_len l, List.length_cons, show (qc r).length = 2 from rfl]; omega

theorem fq_get : ∀ (l : List Key) (j c : Nat) (h : j < l.length), c < 2 → (fq l)[j * 2 + c]? = (qc l[j])[c]?
  | r :: l, 0, c, _, hc => by
    rw [fq_cons, Nat.zero_mul, Nat.zero_add, List.getElem?_append_left (by show c < 2; exact hc)]
    rfl
  | r :: l, j + 1, c, h, hc => by
    have e : (qc r).length = 2 := rfl
    rw [fq_cons, List.getElem?_append_right (by rw [e]; omega), e, show (j + 1) * 2 + c - 2 = j * 2 + c by omega, fq_get l j c (by simpa using h) hc]
    rfl

/-- Both cells set: the question there is another one. -/
theorem fq_put : ∀ (l : List Key) (k : Nat) (r : Key), k < l.length → ((fq l).set (k * 2) (.string r.name)).set (k * 2 + 1) (.int .i64 r.ty) = fq (l.set k r)
  | x :: l, 0, r, _ => rfl
  | x :: l, k + 1, r, h => by
    have e2 : (qc x).length = 2 := rfl
    have e : ∀ (Y : List Value) (c : Nat) (v : Value), (qc x ++ Y).set ((k + 1) * 2 + c) v = qc x ++ Y.set (k * 2 + c) v := fun Y c v => by
      rw [List.set_append_right _ _ (by rw [e2]; omega), e2, show (k + 1) * 2 + c - 2 = k * 2 + c by omega]
    have e0 : ∀ (Y : List Value) (v : Value), (qc x ++ Y).set ((k + 1) * 2) v = qc x ++ Y.set (k * 2) v := fun Y v => e Y 0 v
    rw [fq_cons, e0, e, fq_put l k r (by simpa using h)]
    rfl

/-- From offset o on, block b holds the question q. -/
def Cq (w : World) (b o : Nat) (q : Key) : Prop := w.cell? ⟨b, o, none⟩ = some (.string q.name) ∧ w.cell? ⟨b, o + 1, none⟩ = some (.int .i64 q.ty)

/-- The slice with address A and n elements reads, in w, as the questions l. -/
def Sq (w : World) (A : Option Addr) (n : Nat) (l : List Key) : Prop :=
  l.length = n ∧ (0 < n → ∃ b off, A = some ⟨b, off, none⟩ ∧ b < w.heap.size ∧ ∀ j (h : j < l.length), Cq w b (off + j * 2) l[j])
section
variable {w w' : World} {n g b o : Nat} {A : Option Addr} {l : List Key} {t : TypeId} {q : Key}

theorem Cq.below {B : Nat} (h : Cq w b o q) (hb : Below B w w') (hl : b < B) : Cq w' b o q := ⟨(hb.cell (p := ⟨b, o, none⟩) hl).trans h.1, (hb.cell (p := ⟨b, o + 1, none⟩) hl).trans h.2⟩

theorem Sq.nil : Sq w A 0 [] := ⟨rfl, fun h => absurd h (Nat.lt_irrefl _)⟩

theorem Sq.on (h : Sq w A n l) (hb : Below w.heap.size w w') : Sq w' A n l := by
  refine ⟨h.1, fun hn => ?_⟩
  obtain ⟨b, off, hA, hl, hc⟩ := h.2 hn
  exact ⟨b, off, hA, Nat.lt_of_lt_of_le hl hb.size, fun j hj => (hc j hj).below hb hl⟩

theorem bk_cq {v : List Value} (h : Bk w g t (fq l ++ v)) (j : Nat) (hj : j < l.length) : Cq w g (j * 2) l[j] := by
  have hc : ∀ c, c < 2 → w.cell? ⟨g, j * 2 + c, none⟩ = (qc l[j])[c]? := fun c hc => by
    rw [h.cell, List.getElem?_append_left (by rw [fq_len]; omega), fq_get l j c hj hc]
  exact ⟨hc 0 (by omega), hc 1 (by omega)⟩

/-- A block of questions with room behind, read as a slice over its head. -/
theorem bk_sq {v : List Value} (h : Bk w g t (fq l ++ v)) (hn : l.length = n) : Sq w (some ⟨g, 0, none⟩) n l :=
  ⟨hn, fun _ => ⟨g, 0, rfl, h.lt, fun j hj => by rw [Nat.zero_add]; exact bk_cq h j hj⟩⟩

/-- What the call owns as a row of questions is such a block. -/
theorem bk_of_owns2 {base cap : Nat} {xs : List Value} (h : w.ownsRow base t 2 (.slice (some ⟨g, 0, none⟩) n cap) n xs) : ∃ r, Bk w g t (xs ++ r) ∧ (xs ++ r).length = cap * 2 ∧ n ≤ cap ∧ base ≤ g := by
  rcases h.2 with ⟨h1, _⟩ | ⟨g', cap', cur, hv, hb, hh, hle, _, hs, ht⟩
  · cases h1
  · simp only [Value.slice.injEq, Option.some.injEq, Addr.mk.injEq, true_and, and_true] at hv
    obtain ⟨rfl, rfl⟩ := hv
    refine ⟨cur.toList.drop (n * 2), ?_, ?_, hle, hb⟩
    · unfold Bk; rw [hh, ← ht]; simp
    · rw [← ht]; simp; omega
end

theorem info : (Tryd.prog.info? 69).map (fun i => (i.zero, i.size, i.bytes)) = some (some (.agg #[.string ⟨#[]⟩, .int .i64 0]), 2, 24) := by kernel_rfl

/-- The call returned a new slice that reads as the questions l (room behind it let in), and turned nothing that was there. -/
def GivesQ (w : World) (l : List Key) (e : Ending) (w' : World) : Prop :=
  ∃ g m c r, e = .returned (.slice (some ⟨g, 0, none⟩) m c) ∧ l.length = m ∧ m ≤ c ∧ w.heap.size ≤ g ∧ Bk w' g 69 (fq l ++ r) ∧ Below w.heap.size w w'

theorem owns_new (w : World) : (w.alloc (.cells #[] 69)).ownsRow w.heap.size 69 2 (.slice (some ⟨w.heap.size, 0, none⟩) 0 0) 0 [] :=
  World.ownsRow_made w #[] 0 (Nat.le_refl _) (Nat.zero_le _) (by simp)

theorem one_fq (y : Key) : ∀ u ∈ [Value.string y.name, Value.int .i64 y.ty], u.oneCell' = true := by
  intro u hu
  simp only [List.mem_cons, List.not_mem_nil, or_false] at hu
  rcases hu with rfl | rfl <;> rfl

/-- What the call owns as a row of questions is a slice that GivesQ speaks of. -/
theorem gives_of_owns {w w' : World} {g n cap : Nat} {l : List Key} (h : w'.ownsRow w.heap.size 69 2 (.slice (some ⟨g, 0, none⟩) n cap) n (fq l)) (hb : Below w.heap.size w w') : GivesQ w l (.returned (.slice (some ⟨g, 0, none⟩) n cap)) w' := by
  have hl : l.length = n := by have := h.1; rw [fq_len] at this; omega
  obtain ⟨r, hk, hr, hcap, hg⟩ := bk_of_owns2 h
  exact ⟨g, n, cap, r, rfl, hl, hcap, hg, hk, hb⟩
end Go.Proofs.YtaahaepgabcebaaDoor.MemQ

/- Two records that are the same, compared with == : true, and nothing is turned. -/
namespace Go.Proofs.YtaahaepgabcebaaDoor.EqlR
open Go.RowKit Go.Proofs.YtaahaepgabcebaaDoor.Mem Go.Proofs.YtaahaepgabcebaaDoor.MemR

theorem eql_same (r : Rec) (w : World) : Sem.run Tryd.prog (binOp .eql 49 (.agg #[.string r.name, .int .i64 r.ty, .int .i64 r.ttl, .int .i64 r.n, .string r.host, .string r.text]) (.agg #[.string r.name, .int .i64 r.ty, .int .i64 r.ttl, .int .i64 r.n, .string r.host, .string r.text])) w = .ok (.bool true) w := by
  have u3 := Tryd.underlying3
  have a3 := Tryd.isAgg3
  have z3 := Tryd.sizeOf3
  have u9 := Tryd.underlying9
  have a9 := Tryd.isAgg9
  have z9 := Tryd.sizeOf9
  have hS : Tryd.prog.underlying 49 = some (.struct (Tryd.prog.fieldsOf 49)) := by kernel_rfl
  have hp : Tryd.prog.stoodInHeld 49 = false := by kernel_rfl
  rw [run_eql_struct, show (10000 : Nat) = 9999 + 1 from rfl, run_equalIn_agg w 9999 49 _ _ hS hp]
  simp only [Program.fieldsOf, Tryd.underlying49]
  go_simp

theorem bytes_ne {a b : ByteArray} (h : a ≠ b) : (a.toList == b.toList) = false := by
  cases e : (a.toList == b.toList) with
  | false => rfl
  | true =>
    have := eq_of_beq e
    rw [ByteArray.toList_eq, ByteArray.toList_eq] at this
    exact absurd (by cases a; cases b; congr; exact Array.toList_inj.1 this) h
theorem eql_diff {r s : Rec} (h : r ≠ s) (w : World) : Sem.run Tryd.prog (binOp .eql 49 (.agg #[.string r.name, .int .i64 r.ty, .int .i64 r.ttl, .int .i64 r.n, .string r.host, .string r.text]) (.agg #[.string s.name, .int .i64 s.ty, .int .i64 s.ttl, .int .i64 s.n, .string s.host, .string s.text])) w = .ok (.bool false) w := by
  have u3 := Tryd.underlying3
  have a3 := Tryd.isAgg3
  have z3 := Tryd.sizeOf3
  have u9 := Tryd.underlying9
  have a9 := Tryd.isAgg9
  have z9 := Tryd.sizeOf9
  have hS : Tryd.prog.underlying 49 = some (.struct (Tryd.prog.fieldsOf 49)) := by kernel_rfl
  have hp : Tryd.prog.stoodInHeld 49 = false := by kernel_rfl
  rw [run_eql_struct, show (10000 : Nat) = 9999 + 1 from rfl, run_equalIn_agg w 9999 49 _ _ hS hp]
  simp only [Program.fieldsOf, Tryd.underlying49]
  obtain ⟨n1, t1, l1, m1, h1, x1⟩ := r
  obtain ⟨n2, t2, l2, m2, h2, x2⟩ := s
  simp only
  by_cases c0 : n1 = n2
  · subst c0
    by_cases c1 : t1 = t2
    · subst c1
      by_cases c2 : l1 = l2
      · subst c2
        by_cases c3 : m1 = m2
        · subst c3
          by_cases c4 : h1 = h2
          · subst c4
            by_cases c5 : x1 = x2
            · subst c5; exact absurd rfl h
            · have k := bytes_ne c5
              go_simp
          · have k := bytes_ne c4
            go_simp
        · go_simp
      · go_simp
    · go_simp
  · have k := bytes_ne c0
    go_simp

theorem grd : Tryd.prog.eqGuardType Tryd.prog.depth 49 = false := by kernel_rfl
end Go.Proofs.YtaahaepgabcebaaDoor.EqlR

/- The keys of the program's maps: texts, ints, questions, records: of which the laws on maps may be asked. -/
namespace Go.Proofs.YtaahaepgabcebaaDoor.KeyT
open Go.MapKept Go.RowKit Go.Proofs.YtaahaepgabcebaaDoor.Mem Go.Proofs.YtaahaepgabcebaaDoor.MemR Go.Proofs.YtaahaepgabcebaaDoor.SetMath Go.Proofs.YtaahaepgabcebaaDoor.MemQ Go.Proofs.YtaahaepgabcebaaDoor.MapK

/-- A text as a key. -/
def KS (v : Value) : Prop := ∃ s : ByteArray, v = .string s

/-- An int as a key. -/
def KI (v : Value) : Prop := ∃ x : Int, v = .int .i64 x

/-- A question as a key. -/
def KQ (v : Value) : Prop := ∃ q : Key, v = qv q

/-- A record as a key. -/
def KR (v : Value) : Prop := ∃ r : Rec, v = .agg #[.string r.name, .int .i64 r.ty, .int .i64 r.ttl, .int .i64 r.n, .string r.host, .string r.text]

/-- Keys that are compared at once. -/
theorem plain {P : Program} {k : TypeId} {S : Value → Prop} (d : TypeDesc) (hd : P.underlying k = some d) (h : ∀ v, S v → IsKey d v) : MapK.KeyT P k S where
  check w em v hv := run_checkKey hd (h v hv) em 9999
  stays w v hv := run_keyThatStays (h v hv)
  find w x hx es hes := by
    rcases findNow_spec (h x hx) es 0 (fun e he => h _ (hes e he)) with ⟨h1, h2⟩ | ⟨j, e, h1, h2, h3⟩
    · exact Or.inl ⟨run_findKey hd h1, h2⟩
    · exact Or.inr ⟨j, e, by rw [run_findKey hd h1, Nat.zero_add], h2, h3⟩

theorem strings : MapK.KeyT Tryd.prog 9 KS := plain .string Tryd.underlying9 (by rintro v ⟨s, rfl⟩; trivial)

theorem ints : MapK.KeyT Tryd.prog 3 KI := plain (.int .i64) Tryd.underlying3 (by rintro v ⟨s, rfl⟩; exact rfl)

theorem bytes_ne {a b : ByteArray} (h : a ≠ b) : (a.toList == b.toList) = false := by
  cases e : (a.toList == b.toList) with
  | false => rfl
  | true =>
    have := eq_of_beq e
    rw [ByteArray.toList_eq, ByteArray.toList_eq] at this
    exact absurd (by cases a; cases b; congr; exact Array.toList_inj.1 this) h

theorem quest_same (q : Key) (w : World) : Sem.run Tryd.prog (Op.equal 69 (qv q) (qv q)) w = .ok true w := by
  have u3 := Tryd.underlying3
  have a3 := Tryd.isAgg3
  have z3 := Tryd.sizeOf3
  have u9 := Tryd.underlying9
  have a9 := Tryd.isAgg9
  have z9 := Tryd.sizeOf9
  have hS : Tryd.prog.underlying 69 = some (.struct (Tryd.prog.fieldsOf 69)) := by kernel_rfl
  have hp : Tryd.prog.stoodInHeld 69 = false := by kernel_rfl
  unfold qv Op.equal Op.maxDepth
  rw [show (10000 : Nat) = 9999 + 1 from rfl, run_equalIn_agg w 9999 69 _ _ hS hp]
  simp only [Program.fieldsOf, Tryd.underlying69]
  go_simp

theorem quest_diff {q p : Key} (h : q ≠ p) (w : World) : Sem.run Tryd.prog (Op.equal 69 (qv q) (qv p)) w = .ok false w := by
  have u3 := Tryd.underlying3
  have a3 := Tryd.isAgg3
  have z3 := Tryd.sizeOf3
  have u9 := Tryd.underlying9
  have a9 := Tryd.isAgg9
  have z9 := Tryd.sizeOf9
  have hS : Tryd.prog.underlying 69 = some (.struct (Tryd.prog.fieldsOf 69)) := by kernel_rfl
  have hp : Tryd.prog.stoodInHeld 69 = false := by kernel_rfl
  unfold qv Op.equal Op.maxDepth
  rw [show (10000 : Nat) = 9999 + 1 from rfl, run_equalIn_agg w 9999 69 _ _ hS hp]
  simp only [Program.fieldsOf, Tryd.underlying69]
  obtain ⟨n1, t1⟩ := q
  obtain ⟨n2, t2⟩ := p
  simp only
  by_cases c0 : n1 = n2
  · subst c0
    by_cases c1 : t1 = t2
    · subst c1; exact absurd rfl h
    · go_simp
  · have k := bytes_ne c0
    go_simp

theorem rec_same (r : Rec) (w : World) : Sem.run Tryd.prog (Op.equal 49 (.agg #[.string r.name, .int .i64 r.ty, .int .i64 r.ttl, .int .i64 r.n, .string r.host, .string r.text]) (.agg #[.string r.name, .int .i64 r.ty, .int .i64 r.ttl, .int .i64 r.n, .string r.host, .string r.text])) w = .ok true w := by
  have h := EqlR.eql_same r w
  rw [run_eql_struct] at h
  unfold Op.equal Op.maxDepth
  revert h
  cases Sem.run Tryd.prog (Op.equalIn 10000 49 (.agg #[.string r.name, .int .i64 r.ty, .int .i64 r.ttl, .int .i64 r.n, .string r.host, .string r.text]) (.agg #[.string r.name, .int .i64 r.ty, .int .i64 r.ttl, .int .i64 r.n, .string r.host, .string r.text])) w with
  | ok b w' => intro h; simp [Result.andThen] at h; rw [h.1, h.2]
  | halt h w' => intro h; simp [Result.andThen] at h

theorem rec_diff {r s : Rec} (h : r ≠ s) (w : World) : Sem.run Tryd.prog (Op.equal 49 (.agg #[.string r.name, .int .i64 r.ty, .int .i64 r.ttl, .int .i64 r.n, .string r.host, .string r.text]) (.agg #[.string s.name, .int .i64 s.ty, .int .i64 s.ttl, .int .i64 s.n, .string s.host, .string s.text])) w = .ok false w := by
  have h := EqlR.eql_diff h w
  rw [run_eql_struct] at h
  unfold Op.equal Op.maxDepth
  revert h
  cases Sem.run Tryd.prog (Op.equalIn 10000 49 (.agg #[.string r.name, .int .i64 r.ty, .int .i64 r.ttl, .int .i64 r.n, .string r.host, .string r.text]) (.agg #[.string s.name, .int .i64 s.ty, .int .i64 s.ttl, .int .i64 s.n, .string s.host, .string s.text])) w with
  | ok b w' => intro h; simp [Result.andThen] at h; rw [h.1, h.2]
  | halt h w' => intro h; simp [Result.andThen] at h

theorem bits_self (s : ByteArray) (n : Nat) : Instr.sameBits n (.string s) (.string s) = true := sameBits_self (d := .string) (k := .string s) trivial n

theorem bits_int (x : Int) (n : Nat) : Instr.sameBits n (.int .i64 x) (.int .i64 x) = true := sameBits_self (d := .int .i64) (k := .int .i64 x) rfl n

theorem bits_agg (xs : List Value) (n : Nat) (h : ∀ x ∈ xs, Instr.sameBits n x x = true) : Instr.sameBits (n + 1) (.agg xs.toArray) (.agg xs.toArray) = true := by
  rw [Instr.sameBits]
  simp only [beq_self_eq_true, Bool.true_and]
  rw [List.all_eq_true]
  rintro ⟨x, y⟩ hxy
  have e : x = y ∧ x ∈ xs := by
    clear h
    induction xs with
    | nil => cases hxy
    | cons a xs ih =>
      rw [List.zip_cons_cons] at hxy
      rcases List.mem_cons.1 hxy with h1 | h1
      · cases h1; exact ⟨rfl, by simp⟩
      · obtain ⟨h2, h3⟩ := ih h1; exact ⟨h2, by simp [h3]⟩
  obtain ⟨rfl, hm⟩ := e
  exact h x hm

theorem stays_agg {P : Program} (xs : List Value) (w : World) (h : ∀ x ∈ xs, Instr.sameBits 9999 x x = true) : (Instr.keyThatStays (.agg xs.toArray) (.agg xs.toArray)).run P w = .ok (.agg xs.toArray) w := by
  have := bits_agg xs 9999 h
  simp only [Instr.keyThatStays, this, if_true]
  rfl

theorem check_string (w : World) (em : Bool) (s : ByteArray) (n : Nat) : (Instr.checkKey em (n + 1) 9 (.string s)).run Tryd.prog w = .ok () w := run_checkKey Tryd.underlying9 (k := .string s) trivial em n

theorem check_int (w : World) (em : Bool) (x : Int) (n : Nat) : (Instr.checkKey em (n + 1) 3 (.int .i64 x)).run Tryd.prog w = .ok () w := run_checkKey Tryd.underlying3 (k := .int .i64 x) rfl em n

set_option maxRecDepth 100000 in
theorem quest_check (w : World) (em : Bool) (q : Key) : (Instr.checkKey em 10000 69 (qv q)).run Tryd.prog w = .ok () w := by
  have k0 : (Instr.checkKey em 9999 9 (.string q.name)).run Tryd.prog w = .ok () w := check_string w em q.name 9998
  have k1 : (Instr.checkKey em 9999 3 (.int .i64 q.ty)).run Tryd.prog w = .ok () w := check_int w em q.ty 9998
  have u3 := Tryd.underlying3
  have a3 := Tryd.isAgg3
  have z3 := Tryd.sizeOf3
  have u9 := Tryd.underlying9
  have a9 := Tryd.isAgg9
  have z9 := Tryd.sizeOf9
  rw [show (10000 : Nat) = 9999 + 1 from rfl, Instr.checkKey]
  unfold qv
  simp only [Sem.run_bind, run_underlying Tryd.underlying69, Result.andThen]
  rw [← Array.forIn_toList]
  generalize 9999 = N at *
  go_simp

set_option maxRecDepth 100000 in
theorem rec_check (w : World) (em : Bool) (r : Rec) : (Instr.checkKey em 10000 49 (.agg #[.string r.name, .int .i64 r.ty, .int .i64 r.ttl, .int .i64 r.n, .string r.host, .string r.text])).run Tryd.prog w = .ok () w := by
  have k0 : (Instr.checkKey em 9999 9 (.string r.name)).run Tryd.prog w = .ok () w := check_string w em r.name 9998
  have k1 : (Instr.checkKey em 9999 3 (.int .i64 r.ty)).run Tryd.prog w = .ok () w := check_int w em r.ty 9998
  have k2 : (Instr.checkKey em 9999 3 (.int .i64 r.ttl)).run Tryd.prog w = .ok () w := check_int w em r.ttl 9998
  have k3 : (Instr.checkKey em 9999 3 (.int .i64 r.n)).run Tryd.prog w = .ok () w := check_int w em r.n 9998
  have k4 : (Instr.checkKey em 9999 9 (.string r.host)).run Tryd.prog w = .ok () w := check_string w em r.host 9998
  have k5 : (Instr.checkKey em 9999 9 (.string r.text)).run Tryd.prog w = .ok () w := check_string w em r.text 9998
  have u3 := Tryd.underlying3
  have a3 := Tryd.isAgg3
  have z3 := Tryd.sizeOf3
  have u9 := Tryd.underlying9
  have a9 := Tryd.isAgg9
  have z9 := Tryd.sizeOf9
  rw [show (10000 : Nat) = 9999 + 1 from rfl, Instr.checkKey]
  simp only [Sem.run_bind, run_underlying Tryd.underlying49, Result.andThen]
  rw [← Array.forIn_toList]
  generalize 9999 = N at *
  go_simp

theorem qv_ne {q p : Key} (h : qv q ≠ qv p) : q ≠ p := fun e => h (by rw [e])

theorem qv_inj {q p : Key} (h : qv q = qv p) : q = p := by
  obtain ⟨a, b⟩ := q
  obtain ⟨c, d⟩ := p
  simp [qv] at h
  rw [h.1, h.2]

theorem rv_inj {r s : Rec} (h : (.agg #[.string r.name, .int .i64 r.ty, .int .i64 r.ttl, .int .i64 r.n, .string r.host, .string r.text] : Value) = .agg #[.string s.name, .int .i64 s.ty, .int .i64 s.ttl, .int .i64 s.n, .string s.host, .string s.text]) : r = s := by
  obtain ⟨a, b, c, d, e, f⟩ := r
  obtain ⟨a', b', c', d', e', f'⟩ := s
  simp at h
  obtain ⟨rfl, rfl, rfl, rfl, rfl, rfl⟩ := h
  rfl

theorem quests : MapK.KeyT Tryd.prog 69 KQ := by
  refine KeyT.struct _ Tryd.underlying69 (fun _ _ _ => rfl) ?_ ?_ ?_ ?_
  · rintro w em v ⟨q, rfl⟩; exact quest_check w em q
  · rintro w x ⟨q, rfl⟩; exact quest_same q w
  · rintro w x y ⟨q, rfl⟩ ⟨p, rfl⟩ h; exact quest_diff (qv_ne h) w
  · rintro w v ⟨q, rfl⟩
    refine stays_agg [.string q.name, .int .i64 q.ty] w ?_
    simp only [List.mem_cons, List.not_mem_nil, or_false]
    rintro x (rfl | rfl)
    · exact bits_self _ _
    · exact bits_int _ _

theorem recs : MapK.KeyT Tryd.prog 49 KR := by
  refine KeyT.struct _ Tryd.underlying49 (fun _ _ _ => rfl) ?_ ?_ ?_ ?_
  · rintro w em v ⟨r, rfl⟩; exact rec_check w em r
  · rintro w x ⟨r, rfl⟩; exact rec_same r w
  · rintro w x y ⟨r, rfl⟩ ⟨s, rfl⟩ h; exact rec_diff (fun e => h (by rw [e])) w
  · rintro w v ⟨r, rfl⟩
    refine stays_agg [.string r.name, .int .i64 r.ty, .int .i64 r.ttl, .int .i64 r.n, .string r.host, .string r.text] w ?_
    simp only [List.mem_cons, List.not_mem_nil, or_false]
    rintro x (rfl | rfl | rfl | rfl | rfl | rfl) <;> first | exact bits_self _ _ | exact bits_int _ _
end Go.Proofs.YtaahaepgabcebaaDoor.KeyT

/- Plain mathematics: whether two lists of records have the same data, their times to live left out. -/
namespace Go.Proofs.YtaahaepgabcebaaDoor.DataM
open Go.Proofs.YtaahaepgabcebaaDoor.MemR Go.Proofs.YtaahaepgabcebaaDoor.SetMath Go.Proofs.YtaahaepgabcebaaDoor.Isin

/-- The records without their times to live. -/
def zs (l : List Rec) : List Rec := l.map (wr 0)
/-- Whether each record of the first stands in the second, but for its time to live. -/
noncomputable def sub (l m : List Rec) : Bool := @decide (∀ x ∈ zs l, x ∈ zs m) (Classical.propDecidable _)
theorem sub_true {l m : List Rec} (h : ∀ x ∈ zs l, x ∈ zs m) : sub l m = true := @decide_eq_true _ (Classical.propDecidable _) h
theorem sub_false {l m : List Rec} (h : ¬ ∀ x ∈ zs l, x ∈ zs m) : sub l m = false := @decide_eq_false _ (Classical.propDecidable _) h
theorem sub_iff {l m : List Rec} : sub l m = true ↔ ∀ x ∈ zs l, x ∈ zs m := by
  by_cases h : ∀ x ∈ zs l, x ∈ zs m
  · exact ⟨fun _ => h, sub_true⟩
  · rw [sub_false h]; exact ⟨fun e => absurd e (by decide), fun e => absurd e h⟩
/-- Whether the two have the same data. -/
noncomputable def sd (l m : List Rec) : Bool := sub l m && sub m l
theorem sd_iff {l m : List Rec} : sd l m = true ↔ ∀ x, x ∈ zs l ↔ x ∈ zs m := by
  unfold sd
  rw [Bool.and_eq_true, sub_iff, sub_iff]
  exact ⟨fun h x => ⟨h.1 x, h.2 x⟩, fun h => ⟨fun x => (h x).1, fun x => (h x).2⟩⟩
theorem sd_symm (l m : List Rec) : sd l m = sd m l := Bool.and_comm _ _
/-- A record without its time to live. -/
def zt (r : Rec) : Rec := wr 0 r
theorem zs_at (l : List Rec) (k : Nat) (h : k < (zs l).length) (h' : k < l.length) : (zs l)[k] = zt l[k] := by simp [zs, zt]
theorem zs_len (l : List Rec) : (zs l).length = l.length := List.length_map _
theorem wr_wr (s t : Int) (r : Rec) : wr s (wr t r) = wr s r := rfl
/-- The model compares with the other's time to live. -/
theorem wr_iff (x r : Rec) : wr r.ttl x = r ↔ wr 0 x = wr 0 r := by
  constructor
  · intro h; rw [← h]; rfl
  · intro h
    have := congrArg (wr r.ttl) h
    exact this
/-- The record with the other's time to live. -/
def wt (t : Int) (r : Rec) : Rec := wr t r
theorem wt_yes {x r : Rec} (h : wt r.ttl x = r) : zt x = zt r := (wr_iff x r).1 h
theorem wt_no {x r : Rec} (h : ¬ wt r.ttl x = r) : ¬ zt x = zt r := fun e => h ((wr_iff x r).2 e)
theorem len_le {α : Type} : ∀ {l m : List α}, l.Nodup → (∀ x ∈ l, x ∈ m) → l.length ≤ m.length
  | [], _, _, _ => Nat.zero_le _
  | x :: l, m, hn, hs => by
    obtain ⟨h1, h2⟩ := List.nodup_cons.1 hn
    obtain ⟨a, b, rfl⟩ := List.append_of_mem (hs x (by simp))
    have h3 : ∀ y ∈ l, y ∈ a ++ b := fun y hy => by
      have hne : y ≠ x := fun e => h1 (e ▸ hy)
      have := hs y (by simp [hy])
      simp only [List.mem_append, List.mem_cons] at this ⊢
      rcases this with h | h | h
      · exact Or.inl h
      · exact absurd h hne
      · exact Or.inr h
    have := len_le h2 h3
    simp only [List.length_append, List.length_cons] at this ⊢
    omega
theorem sub_back {α : Type} {l m : List α} (hl : l.Nodup) (hlen : l.length = m.length) (hs : ∀ x ∈ l, x ∈ m) : ∀ y ∈ m, y ∈ l := by
  intro y hy
  by_cases h : y ∈ l
  · exact h
  · have hn : (y :: l).Nodup := List.nodup_cons.2 ⟨h, hl⟩
    have := len_le hn (m := m) (fun x hx => by
      rcases List.mem_cons.1 hx with rfl | hx
      · exact hy
      · exact hs x hx)
    simp only [List.length_cons] at this
    omega
/-- The keys of the two maps. -/
theorem sd_len {l m : List Rec} (h : (uq (zs l)).length ≠ (uq (zs m)).length) : sd l m = false := by
  cases e : sd l m with
  | false => rfl
  | true =>
    have hi := sd_iff.1 e
    have h1 := len_le (nodup_uq (zs l)) (m := uq (zs m)) (fun x hx => mem_uq.2 ((hi x).1 (mem_uq.1 hx)))
    have h2 := len_le (nodup_uq (zs m)) (m := uq (zs l)) (fun x hx => mem_uq.2 ((hi x).2 (mem_uq.1 hx)))
    omega
theorem sd_out {l m : List Rec} {x : Rec} (hx : x ∈ uq (zs l)) (h : x ∉ uq (zs m)) : sd l m = false := by
  cases e : sd l m with
  | false => rfl
  | true => exact absurd (mem_uq.2 ((sd_iff.1 e x).1 (mem_uq.1 hx))) h
theorem sd_all {l m : List Rec} (hlen : (uq (zs l)).length = (uq (zs m)).length) (h : ∀ x ∈ uq (zs l), x ∈ uq (zs m)) : sd l m = true := by
  have hb := sub_back (nodup_uq (zs l)) hlen h
  exact sd_iff.2 (fun x => ⟨fun hx => mem_uq.1 (h x (mem_uq.2 hx)), fun hx => mem_uq.1 (hb x (mem_uq.2 hx))⟩)
theorem sd_refl (l : List Rec) : sd l l = true := sd_iff.2 (fun _ => Iff.rfl)
end Go.Proofs.YtaahaepgabcebaaDoor.DataM

/- What dataIn, maps.Equal and SameData do in the program: a set of the records without their times to live; whether two such sets are equal. Condition: fewer than 400000001 records. -/
namespace Go.Proofs.YtaahaepgabcebaaDoor.SameDI
open Go.RowKit Go.Proofs.YtaahaepgabcebaaDoor.Mem Go.Proofs.YtaahaepgabcebaaDoor.MemR Go.Proofs.YtaahaepgabcebaaDoor.SetMath Go.Proofs.YtaahaepgabcebaaDoor.MapK Go.Proofs.YtaahaepgabcebaaDoor.MapN Go.Proofs.YtaahaepgabcebaaDoor.KeyT Go.Proofs.YtaahaepgabcebaaDoor.DataM

/-- The record as a value. -/
def rv (x : Rec) : Value := .agg #[.string x.name, .int .i64 x.ty, .int .i64 x.ttl, .int .i64 x.n, .string x.host, .string x.text]

/-- The entries of a set of records. -/
def er (l : List Rec) : List (Value × Value) := l.map (fun x => (rv x, .bool true))

theorem er_key (l : List Rec) : ∀ p ∈ er l, KR p.1 := by
  intro p hp
  obtain ⟨x, _, rfl⟩ := List.mem_map.1 hp
  exact ⟨x, rfl⟩

theorem er_out {l : List Rec} {x : Rec} (h : x ∉ l) : ∀ p ∈ er l, p.1 ≠ rv x := by
  intro p hp e
  obtain ⟨y, hy, rfl⟩ := List.mem_map.1 hp
  exact h (rv_inj (show rv y = rv x from e) ▸ hy)

theorem er_in {l : List Rec} {x : Rec} (h : x ∈ l) : (rv x, Value.bool true) ∈ er l := List.mem_map.2 ⟨x, h, rfl⟩

theorem er_nodup : ∀ {l : List Rec}, l.Nodup → ((er l).map Prod.fst).Nodup
  | [], _ => by simp [er]
  | x :: l, h => by
    obtain ⟨h1, h2⟩ := List.nodup_cons.1 h
    show (rv x :: (er l).map Prod.fst).Nodup
    refine List.nodup_cons.2 ⟨fun hm => ?_, er_nodup h2⟩
    obtain ⟨p, hp, he⟩ := List.mem_map.1 hm
    exact er_out h1 p hp he

theorem er_snoc (l : List Rec) (x : Rec) : er (l ++ [x]) = er l ++ [(rv x, .bool true)] := by simp [er]

theorem er_len (l : List Rec) : (er l).length = l.length := by simp [er]

theorem zero (w : World) : (zeroValue 4).run Tryd.prog w = .ok (.bool false) w := by kernel_rfl

theorem set_same {α : Type} {l : List α} {j : Nat} {x : α} (h : l[j]? = some x) : l.set j x = l := by
  refine List.ext_getElem? fun i => ?_
  rw [List.getElem?_set]
  by_cases hi : j = i
  · subst hi
    rw [if_pos rfl, if_pos (List.getElem?_eq_some_iff.1 h).1, h]
  · rw [if_neg hi]

/-- A store of true at a key of the set, new or not. -/
theorem put {P : Program} {w : World} {b : Nat} {l : List Rec} {t k e : TypeId} (h : Mp w b (er l)) (K : MapK.KeyT P k KR) (ht : P.underlying t = some (.map k e)) (hn : l.Nodup) (x : Rec) :
    ∃ w', (Instr.mapUpdate t (.map (some b)) (rv x) (.bool true)).run P w = .ok () w' ∧ Mp w' b (er (add l x)) ∧ w.grownBy w' (some b) ∧ w'.heap.size = w.heap.size := by
  by_cases hx : x ∈ l
  · obtain ⟨j, hj⟩ := List.getElem?_of_mem (er_in hx)
    have := h.old K ht (er_key l) (er_nodup hn) (.bool true) (⟨x, rfl⟩ : KR (rv x)) hj
    rw [set_same hj] at this
    rw [add_in hx]
    exact this
  · have := h.new K ht (er_key l) (.bool true) (⟨x, rfl⟩ : KR (rv x)) (er_out hx)
    rw [add_out hx, er_snoc]
    exact this

/-- The call returned a map that is the set of the records of l without their times to live, and turned nothing that was there. -/
def GivesD (w : World) (l : List Rec) (e : Ending) (w' : World) : Prop := ∃ b, e = .returned (.map (some b)) ∧ w.heap.size ≤ b ∧ Mp w' b (er (uq (zs l))) ∧ Below w.heap.size w w'

set_option maxRecDepth 100000 in
set_option maxHeartbeats 4000000 in
theorem dataIn (b0 o0 n c : Nat) (l : List Rec) (w : World) (hs : Sr w w.heap.size (some ⟨b0, o0, none⟩) n l) (hn : n ≤ 400000000) : Calls Tryd.prog 27 #[.slice (some ⟨b0, o0, none⟩) n c] w (GivesD w l) := by
  have hmm := @run_makeMap Tryd.prog
  have SE : Hid (∀ W : World, Below w.heap.size w W → Calls Tryd.prog 16 #[.slice (some ⟨b0, o0, none⟩) n c, .int .i64 0] W (Wt.GivesL W (l.map (wr 0)))) :=
    fun W hW => Wt.impl 0 b0 o0 n c l W ((hs.below hW).wider hW.size) hn
  have P0 := Lib.hid (Mp.made w)
  have L0 := Lib.hid ((Below.refl w.heap.size w).alloc (Nat.le_refl _) (.map #[] 0))
  have HZ : Hid (l.map (wr 0) = zs l) := show _ = _ from rfl
  have HLn : Hid ((zs l).length ≤ 400000000) := show _ ≤ _ by have h2 := hs.1; rw [zs_len]; omega
  rw [HZ.out] at SE
  clear hs hn HZ
  generalize hzl : zs l = L at *
  have HLZ := Lib.hid hzl
  clear hzl
  go_enter Tryd.func27, Tryd.ntmps27
  go_wp2_with fail
  refine (SE.out _ L0.out).mono ?_
  rintro e w1 ⟨gs, ms, cs, rs, rfl, hms, hcs, hgs, hbs, hls⟩
  have hms0 : ms ≤ 400000000 := by have := HLn.out; omega
  have HM := Lib.hid hms
  have B1 := Lib.hid hbs
  have GS : Hid (w.heap.size + 1 ≤ gs) := show _ ≤ _ by have h2 : (w.alloc (.map #[] 0)).heap.size ≤ gs := hgs; simpa using h2
  have P1 := Lib.hid (P0.out.below hls P0.out.lt)
  have L1 := Lib.hid (L0.out.trans (hls.mono L0.out.size))
  clear hms hcs hgs hbs hls SE P0 L0
  go_wp2
  go_loopw [10] (fun i wr => ∃ k : Nat, k ≤ ms ∧ i = .int .i64 k ∧ Hid (Mp wr w.heap.size (er (uq (L.take k)))) ∧ Hid (Bk wr gs 49 (fl L ++ rs)) ∧ Hid (Below w.heap.size w wr)) (fun i _ => ms - (intOf i).toNat)
  case atStart => exact ⟨0, Nat.zero_le _, rfl, P1.out, B1.out, L1.out⟩
  case round =>
    clear P1 L1 B1
    obtain ⟨k, hk, rfl, HP, HB, HL⟩ := hrel
    by_cases hlt : k < ms
    · have hkl : k < L.length := by rw [HM.out]; exact hlt
      obtain ⟨e0, e1, e2, e3, e4, e5⟩ := bk_ce HB.out k hkl
      have HU := Lib.hid (uq_take L k hkl)
      generalize L[k] = x at *
      have P2 := Lib.hid (HP.out.alloc (.cells #[.string x.name, .int .i64 x.ty, .int .i64 x.ttl, .int .i64 x.n, .string x.host, .string x.text] 49))
      have ST := Lib.hid (put P2.out KeyT.recs Tryd.underlying47 (nodup_uq _) x)
      have B2 := Lib.hid (HB.out.alloc (.cells #[.string x.name, .int .i64 x.ty, .int .i64 x.ttl, .int .i64 x.n, .string x.host, .string x.text] 49))
      have L2 := Lib.hid (HL.out.alloc HL.out.size (.cells #[.string x.name, .int .i64 x.ty, .int .i64 x.ttl, .int .i64 x.n, .string x.host, .string x.text] 49))
      go_wp2_with (at_mapUpdate; refine wp_store rfl _ _ _ rfl (.agg #[.string x.name, .int .i64 x.ty, .int .i64 x.ttl, .int .i64 x.n, .string x.host, .string x.text]) (.bool true) rfl rfl rfl (er (add (uq (L.take k)) x)) ST.out ?_)
      intro w3 m3 g3 s3
      have P3 : Hid (Mp w3 w.heap.size (er (uq (L.take (k + 1))))) := by rw [HU.out]; exact m3
      have B3 := Lib.hid (B2.out.grown g3 (fun h => by have h8 : gs = w.heap.size := Option.some.inj h; have := GS.out; omega))
      have L3 := Lib.hid (L2.out.grown g3 L2.out.size (fun j hj => by cases hj; exact Nat.le_refl _))
      clear m3 g3 s3 ST P2 B2 L2
      go_wp2
      go_roundw
      case rel => exact ⟨k + 1, by omega, by go_num, P3.out, B3.out, L3.out⟩
      case measure => simp [intOf]; omega
    · obtain rfl : ms = k := by omega
      have HN := Lib.hid (take_all HM.out)
      go_wp2
      go_ret
      exact ⟨w.heap.size, rfl, Nat.le_refl _, by have := HP.out; rw [HN.out, ← HLZ.out] at this; exact this, HL.out⟩

/-- Whether two sets are the same. -/
noncomputable def eqb (U V : List Rec) : Bool := @decide (U.length = V.length ∧ ∀ x ∈ U, x ∈ V) (Classical.propDecidable _)

theorem eqb_true {U V : List Rec} (h : U.length = V.length ∧ ∀ x ∈ U, x ∈ V) : eqb U V = true := @decide_eq_true _ (Classical.propDecidable _) h

theorem eqb_false {U V : List Rec} (h : ¬ (U.length = V.length ∧ ∀ x ∈ U, x ∈ V)) : eqb U V = false := @decide_eq_false _ (Classical.propDecidable _) h

theorem eqb_sd (l m : List Rec) : eqb (uq (zs l)) (uq (zs m)) = sd l m := by
  by_cases h1 : (uq (zs l)).length = (uq (zs m)).length
  · by_cases h2 : ∀ x ∈ uq (zs l), x ∈ uq (zs m)
    · rw [eqb_true ⟨h1, h2⟩, sd_all h1 h2]
    · rw [eqb_false (fun h => h2 h.2)]
      obtain ⟨x, hx⟩ := Classical.not_forall.1 h2
      obtain ⟨h3, h4⟩ := Classical.not_imp.1 hx
      rw [sd_out h3 h4]
  · rw [eqb_false (fun h => h1 h.1), sd_len h1]

set_option maxRecDepth 100000 in
set_option maxHeartbeats 4000000 in
theorem equal (b1 b2 : Nat) (U V : List Rec) (w : World) (h1 : Mp w b1 (er U)) (h2 : Mp w b2 (er V)) (hV : V.Nodup) :
    Calls Tryd.prog 26 #[.map (some b1), .map (some b2)] w fun e w' => e = .returned (.bool (eqb U V)) ∧ Below w.heap.size w w' := by
  have M1 := Lib.hid h1
  have M2 := Lib.hid h2
  have HV := Lib.hid hV
  have KT := KeyT.recs
  clear h1 h2 hV
  have ER := Lib.hid (er_len U)
  have EV := Lib.hid (er_len V)
  go_enter Tryd.func26, Tryd.ntmps26
  by_cases hlen : U.length = V.length
  · have q : (((er U).length : Nat) : Int) = ((er V).length : Nat) := by rw [ER.out, EV.out, hlen]
    have q1 : ((((er U).length : Nat) : Int) != ((er V).length : Nat)) = false := by rw [q]; simp
    have HLen := Lib.hid hlen
    clear hlen q
    obtain ⟨es, clock, hb, hl, hborn, hnd⟩ := M1.out
    have hrg := fun W (hW : W.heap[b1]? = some (.map es clock)) => run_range_map (P := Tryd.prog) W 47 _ _ b1 es clock Tryd.underlying47 hW
    have hr0 := hrg w hb
    have HE : Hid (∀ e ∈ es.toList, ∃ x ∈ U, e.key = rv x ∧ e.val = .bool true) := fun e he => by
      have hm : (e.key, e.val) ∈ er U := hl ▸ List.mem_map.2 ⟨e, he, rfl⟩
      obtain ⟨x, hx, hq⟩ := List.mem_map.1 hm
      exact ⟨x, hx, (congrArg Prod.fst hq).symm, (congrArg Prod.snd hq).symm⟩
    have HU : Hid (∀ x ∈ U, ∃ e ∈ es.toList, e.key = rv x) := fun x hx => by
      have hm := er_in hx
      rw [← hl] at hm
      obtain ⟨e, he, hq⟩ := List.mem_map.1 hm
      exact ⟨e, he, congrArg Prod.fst hq⟩
    have HB := Lib.hid hborn
    have HN := Lib.hid hnd
    have I0 := Lib.hid (It.made hb)
    have P0 := Lib.hid (M2.out.alloc (.mapIter (some b1) clock #[] clock))
    have L0 := Lib.hid ((Below.refl w.heap.size w).alloc (Nat.le_refl _) (.mapIter (some b1) clock #[] clock))
    have N1 := Lib.hid M1.out.lt
    have N2 := Lib.hid M2.out.lt
    clear hborn hnd hl hrg
    have ln1 : Sem.run Tryd.prog (Builtin.len_ #[47] 3 #[.map (some b1)]) w = .ok (.int .i64 ((er U).length : Nat)) w := Mp.len M1.out Tryd.underlying47 3
    have ln2 : Sem.run Tryd.prog (Builtin.len_ #[47] 3 #[.map (some b2)]) w = .ok (.int .i64 ((er V).length : Nat)) w := Mp.len M2.out Tryd.underlying47 3
    go_wp2
    clear hr0 hb q1 M1 M2 ln1 ln2
    generalize w.alloc (.mapIter (some b1) clock #[] clock) = w0 at *
    go_loopw [16] (fun _ wr => ∃ seen, Hid (It wr w.heap.size b1 es clock seen) ∧ Hid (∀ e ∈ es.toList, e.born ∈ seen → ∃ x ∈ V, e.key = rv x) ∧ Hid (Mp wr b2 (er V)) ∧ Hid (Below w.heap.size w wr)) (fun _ wr => lft wr w.heap.size b1)
    case atStart => exact ⟨#[], I0.out, fun e _ h => by simp at h, P0.out, L0.out⟩
    case round =>
      clear I0 P0 L0
      obtain ⟨seen, HI, HS, HP, HL⟩ := hrel
      go_wp2_with (guard_target =~ wpList _ _ _ ({ dst := _, op := Op.next _ _, type := _, pos := _, after := _, guard := _ } :: _) _ _; refine wp_next rfl _ rfl rfl HI.out HB.out ?_ ?_)
      · intro hz
        have HF : Hid (eqb U V = true) := eqb_true ⟨HLen.out, fun x hx => by
          obtain ⟨e, he, hk⟩ := HU.out x hx
          obtain ⟨y, hy, hk'⟩ := HS.out e he (left_none (by rw [hz]; rfl) e he)
          have : x = y := rv_inj (show rv x = rv y from hk ▸ hk')
          exact this ▸ hy⟩
        clear hz
        go_wp2
        go_ret
        exact ⟨by rw [HF.out]; rfl, HL.out⟩
      · intro e he0 w1 it1 g1 s1
        have he : e ∈ (leftOf es seen).toList := by simpa using he0
        clear he0
        obtain ⟨x, hxU, hk, hv⟩ := HE.out e (MapN.mem_left.1 he).1
        have HME := Lib.hid (MapN.mem_left.1 he).1
        have HLS := Lib.hid (left_less he)
        have I1 := Lib.hid it1
        have P1 := Lib.hid (HP.out.grown g1 (fun h => by have h8 : b2 = w.heap.size := Option.some.inj h; have := N2.out; omega))
        have L1 := Lib.hid (HL.out.grown g1 HL.out.size (fun j hj => by cases hj; exact Nat.le_refl _))
        have HXU := Lib.hid hxU
        obtain ⟨ek, ev, eb⟩ := e
        replace hk : ek = .agg #[.string x.name, .int .i64 x.ty, .int .i64 x.ttl, .int .i64 x.n, .string x.host, .string x.text] := hk
        replace hv : ev = .bool true := hv
        subst hk hv
        clear he it1 g1 s1 hxU
        have I2 := Lib.hid (I1.out.alloc (.cells #[.string x.name, .int .i64 x.ty, .int .i64 x.ttl, .int .i64 x.n, .string x.host, .string x.text] 49))
        have P2 := Lib.hid (P1.out.alloc (.cells #[.string x.name, .int .i64 x.ty, .int .i64 x.ttl, .int .i64 x.n, .string x.host, .string x.text] 49))
        have L2 := Lib.hid (L1.out.alloc L1.out.size (.cells #[.string x.name, .int .i64 x.ty, .int .i64 x.ttl, .int .i64 x.n, .string x.host, .string x.text] 49))
        by_cases hin : x ∈ V
        · have HI2 := Lib.hid hin
          have LK : Hid ((Instr.lookup 47 (.map (some b2)) (.agg #[.string x.name, .int .i64 x.ty, .int .i64 x.ttl, .int .i64 x.n, .string x.host, .string x.text]) true).run Tryd.prog (w1.alloc (.cells #[.string x.name, .int .i64 x.ty, .int .i64 x.ttl, .int .i64 x.n, .string x.host, .string x.text] 49)) = .ok (.tuple #[.bool true, .bool true]) (w1.alloc (.cells #[.string x.name, .int .i64 x.ty, .int .i64 x.ttl, .int .i64 x.n, .string x.host, .string x.text] 49))) := P2.out.in KT Tryd.underlying47 (er_key V) (er_nodup HV.out) ⟨x, rfl⟩ (er_in hin) true
          clear hin
          go_wp2_with (first | (guard_target =~ wpList _ _ _ ({ dst := _, op := Op.entry _, type := _, pos := _, after := _, guard := _ } :: _) _ _; refine wp_pair rfl _ rfl rfl _ I1.out HME.out HN.out ?_) | (at_lookup; refine wp_look rfl _ _ true rfl (.agg #[.string x.name, .int .i64 x.ty, .int .i64 x.ttl, .int .i64 x.n, .string x.host, .string x.text]) (.tuple #[.bool true, .bool true]) rfl rfl LK.out ?_))
          have HS2 : Hid (∀ e ∈ es.toList, e.born ∈ seen.push eb → ∃ y ∈ V, e.key = rv y) := fun e he hb => by
            rcases Array.mem_push.1 hb with hb | hb
            · exact HS.out e he hb
            · have : e = ⟨.agg #[.string x.name, .int .i64 x.ty, .int .i64 x.ttl, .int .i64 x.n, .string x.host, .string x.text], .bool true, eb⟩ := by
                obtain ⟨i, hi⟩ := List.getElem?_of_mem he
                obtain ⟨j, hj⟩ := List.getElem?_of_mem HME.out
                have h1 : (es.toList.map (·.born))[i]? = some eb := by rw [List.getElem?_map, hi, Option.map_some, hb]
                have h2 : (es.toList.map (·.born))[j]? = some eb := by rw [List.getElem?_map, hj]; rfl
                have hij := nodup_inj HN.out h1 h2
                subst hij
                rw [hi] at hj
                exact Option.some.inj hj
              exact ⟨x, HI2.out, by rw [this]; rfl⟩
          go_roundw
          case rel => exact ⟨seen.push eb, I2.out, HS2.out, P2.out, L2.out⟩
          case measure =>
            rw [I2.out.left, HI.out.left]
            exact HLS.out
        · have HF : Hid (eqb U V = false) := eqb_false (fun h => hin (h.2 x HXU.out))
          have LK : Hid ((Instr.lookup 47 (.map (some b2)) (.agg #[.string x.name, .int .i64 x.ty, .int .i64 x.ttl, .int .i64 x.n, .string x.host, .string x.text]) true).run Tryd.prog (w1.alloc (.cells #[.string x.name, .int .i64 x.ty, .int .i64 x.ttl, .int .i64 x.n, .string x.host, .string x.text] 49)) = .ok (.tuple #[.bool false, .bool false]) (w1.alloc (.cells #[.string x.name, .int .i64 x.ty, .int .i64 x.ttl, .int .i64 x.n, .string x.host, .string x.text] 49))) := P2.out.out KT Tryd.underlying47 (zero _) (er_key V) ⟨x, rfl⟩ (er_out hin) true
          clear hin
          go_wp2_with (first | (guard_target =~ wpList _ _ _ ({ dst := _, op := Op.entry _, type := _, pos := _, after := _, guard := _ } :: _) _ _; refine wp_pair rfl _ rfl rfl _ I1.out HME.out HN.out ?_) | (at_lookup; refine wp_look rfl _ _ true rfl (.agg #[.string x.name, .int .i64 x.ty, .int .i64 x.ttl, .int .i64 x.n, .string x.host, .string x.text]) (.tuple #[.bool false, .bool false]) rfl rfl LK.out ?_))
          go_ret
          exact ⟨by rw [HF.out]; rfl, L2.out⟩
  · have q1 : ((((er U).length : Nat) : Int) != ((er V).length : Nat)) = true := by rw [ER.out, EV.out, bne_iff_ne]; omega
    have HF : Hid (eqb U V = false) := eqb_false (fun h => hlen h.1)
    clear hlen
    have ln1 : Sem.run Tryd.prog (Builtin.len_ #[47] 3 #[.map (some b1)]) w = .ok (.int .i64 ((er U).length : Nat)) w := Mp.len M1.out Tryd.underlying47 3
    have ln2 : Sem.run Tryd.prog (Builtin.len_ #[47] 3 #[.map (some b2)]) w = .ok (.int .i64 ((er V).length : Nat)) w := Mp.len M2.out Tryd.underlying47 3
    go_wp2
    go_ret
    exact ⟨by rw [HF.out]; rfl, Below.refl _ _⟩

set_option maxHeartbeats 4000000 in
theorem impl (b0 o0 n c b1 o1 n' c' : Nat) (l m : List Rec) (w : World) (hs : Sr w w.heap.size (some ⟨b0, o0, none⟩) n l) (hs' : Sr w w.heap.size (some ⟨b1, o1, none⟩) n' m) (hn : n ≤ 400000000) (hn' : n' ≤ 400000000) :
    Calls Tryd.prog 8 #[.slice (some ⟨b0, o0, none⟩) n c, .slice (some ⟨b1, o1, none⟩) n' c'] w fun e w' => e = .returned (.bool (sd l m)) ∧ Below w.heap.size w w' := by
  have D1 := Lib.hid (dataIn b0 o0 n c l w hs hn)
  have D2 : Hid (∀ W : World, Below w.heap.size w W → Calls Tryd.prog 27 #[.slice (some ⟨b1, o1, none⟩) n' c'] W (GivesD W m)) := fun W hW => dataIn b1 o1 n' c' m W ((hs'.below hW).wider hW.size) hn'
  have HE := Lib.hid (eqb_sd l m)
  clear hs hs' hn hn'
  go_enter Tryd.func8, Tryd.ntmps8
  go_wp2_with fail
  refine D1.out.mono ?_
  rintro e w1 ⟨g1, rfl, hg1, hm1, hl1⟩
  have M1 := Lib.hid hm1
  have L1 := Lib.hid hl1
  clear hg1 hm1 hl1
  go_wp2_with fail
  refine (D2.out w1 L1.out).mono ?_
  rintro e w2 ⟨g2, rfl, hg2, hm2, hl2⟩
  have M2 := Lib.hid hm2
  have N1 := Lib.hid (M1.out.below hl2 M1.out.lt)
  have L2 := Lib.hid (L1.out.trans (hl2.mono L1.out.size))
  clear hg2 hm2 hl2 M1
  go_wp2_with fail
  refine (equal g1 g2 (uq (zs l)) (uq (zs m)) w2 N1.out M2.out (nodup_uq _)).mono ?_
  rintro e w3 ⟨rfl, hl3⟩
  have L3 := Lib.hid (L2.out.trans (hl3.mono L2.out.size))
  clear hl3
  rw [HE.out]
  go_wp2
  go_ret
  exact ⟨rfl, L3.out⟩
end Go.Proofs.YtaahaepgabcebaaDoor.SameDI
