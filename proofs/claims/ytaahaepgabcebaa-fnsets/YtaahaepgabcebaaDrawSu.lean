/- What the model's draws for the laws on record sets do: rows of records of short texts, a name and a type, a time to live; nothing that was there is turned. -/
import Derived.Test.YtaahaepgabcebaaDrawSt
namespace Go.Proofs.Ytaahaepgabcebaa.DrawSu
open Go.RowKit Go.Proofs.Ytaahaepgabcebaa.Mem Go.Proofs.Ytaahaepgabcebaa.MemR Go.Proofs.Ytaahaepgabcebaa.Draw Go.Proofs.Ytaahaepgabcebaa.DrawS Go.Proofs.Ytaahaepgabcebaa.DrawR Go.Proofs.Ytaahaepgabcebaa.DrawSt

theorem below_of_grown {w w' : World} (h : w.grownBy w' none) : Below w.heap.size w w' := ⟨h.os, h.tape, h.output, h.size, fun k hk => h.block k hk (by simp)⟩
theorem below_more {w v v' : World} {g : Nat} (h : Below w.heap.size w v) (hg : v.grownBy v' (some g)) (hr : w.heap.size ≤ g) : Below w.heap.size w v' := h.grown hg h.size (fun j hj => by cases hj; exact hr)
theorem own_sr {w : World} {base gl n cap : Nat} {L : List Rec} (h : w.ownsRow base 37 6 (.slice (some ⟨gl, 0, none⟩) n cap) n (fl L)) (hn : L.length = n) : Sr w w.heap.size (some ⟨gl, 0, none⟩) n L := by
  obtain ⟨r, hb, _⟩ := bk_of_owns6 h
  exact bk_sr hb hn
/-- A row of at most 6 records of short texts. -/
def Rw (w : World) (e : Ending) (w' : World) : Prop := ∃ (gl m cap : Nat) (L : List Rec), e = .returned (.slice (some ⟨gl, 0, none⟩) m cap) ∧ m ≤ 6 ∧ (∀ r ∈ L, Sml r) ∧ Sr w' w'.heap.size (some ⟨gl, 0, none⟩) m L ∧ Below w.heap.size w w'
/-- ... and a name and a type. -/
def Rwn (w : World) (e : Ending) (w' : World) : Prop := ∃ (gl m cap : Nat) (L : List Rec) (s : ByteArray) (t : Int), e = .returned (.tuple #[.slice (some ⟨gl, 0, none⟩) m cap, .string s, .int .i64 t]) ∧ m ≤ 6 ∧ (∀ r ∈ L, Sml r) ∧ Sr w' w'.heap.size (some ⟨gl, 0, none⟩) m L ∧ Below w.heap.size w w'
/-- ... and a time to live. -/
def Rwt (w : World) (e : Ending) (w' : World) : Prop := ∃ (gl m cap : Nat) (L : List Rec) (t : Int), e = .returned (.tuple #[.slice (some ⟨gl, 0, none⟩) m cap, .int .i64 t]) ∧ m ≤ 6 ∧ (∀ r ∈ L, Sml r) ∧ Sr w' w'.heap.size (some ⟨gl, 0, none⟩) m L ∧ Below w.heap.size w w'

set_option maxHeartbeats 4000000 in
set_option maxRecDepth 100000 in
theorem drawKeysOf_any (A : Option Addr) (n c : Nat) (l : List UInt8) (w : World) (hs : Sl w w.heap.size A n l) (hn : n ≤ 1048576) : Calls Try.prog 12 #[.slice A n c] w (Rw w) := by
  have HS := Lib.hid hs
  clear hs
  go_enter Try.func12, Try.ntmps12
  go_wp2_with fail
  refine (l1New_any A n c l w HS.out hn).mono ?_
  rintro e w1 ⟨rfl, hc1, hg1⟩
  have C1 := Lib.hid hc1
  have L1 := Lib.hid (below_of_grown hg1)
  clear hc1 hg1
  go_wp2_with fail
  refine (near_any w.heap.size w1 C1.out).mono ?_
  rintro e w2 ⟨gl, m, cap, L, rfl, hm, hL, hS, ho, hc2, hg2⟩
  have O2 := Lib.hid ho
  have GA := Lib.hid (show w.heap.size < w1.heap.size from C1.out.lt)
  have S2 := Lib.hid hS
  have HL := Lib.hid hL
  have C2 := Lib.hid hc2
  have L2 := Lib.hid (below_more L1.out hg2 (Nat.le_refl _))
  clear ho hS hc2 hg2 hL C1 L1
  go_wp2
  go_ret
  exact ⟨gl, m, cap, L, rfl, hm, S2.out, own_sr O2.out HL.out, L2.out⟩

set_option maxHeartbeats 4000000 in
set_option maxRecDepth 100000 in
theorem drawWithTtl_any (A : Option Addr) (n c : Nat) (l : List UInt8) (w : World) (hs : Sl w w.heap.size A n l) (hn : n ≤ 1048576) : Calls Try.prog 14 #[.slice A n c] w (Rwt w) := by
  have HS := Lib.hid hs
  clear hs
  go_enter Try.func14, Try.ntmps14
  go_wp2_with fail
  refine (l1New_any A n c l w HS.out hn).mono ?_
  rintro e w1 ⟨rfl, hc1, hg1⟩
  have C1 := Lib.hid hc1
  have L1 := Lib.hid (below_of_grown hg1)
  clear hc1 hg1
  go_wp2_with fail
  refine (near_any w.heap.size w1 C1.out).mono ?_
  rintro e w2 ⟨gl, m, cap, L, rfl, hm, hL, hS, ho, hc2, hg2⟩
  have O2 := Lib.hid ho
  have GA := Lib.hid (show w.heap.size < w1.heap.size from C1.out.lt)
  have S2 := Lib.hid hS
  have HL := Lib.hid hL
  have C2 := Lib.hid hc2
  have L2 := Lib.hid (below_more L1.out hg2 (Nat.le_refl _))
  clear ho hS hc2 hg2 hL C1 L1
  go_wp2_with fail
  refine (l1Below_any w.heap.size 9 w2 C2.out (by omega) (by omega)).mono ?_
  rintro e w3 ⟨x, rfl, hx0, hx1, hc3, hg3⟩
  have O3 := Lib.hid (own_far O2.out hg3 GA.out)
  have L3 := Lib.hid (below_more L2.out hg3 (Nat.le_refl _))
  clear hc3 hg3 C2 O2 L2
  go_wp2
  go_ret2
  exact ⟨gl, m, cap, L, x, rfl, hm, S2.out, own_sr O3.out HL.out, L3.out⟩

set_option maxHeartbeats 4000000 in
set_option maxRecDepth 100000 in
theorem drawSetOf_any (A : Option Addr) (n c : Nat) (l : List UInt8) (w : World) (hs : Sl w w.heap.size A n l) (hn : n ≤ 1048576) : Calls Try.prog 13 #[.slice A n c] w (Rwn w) := by
  have HS := Lib.hid hs
  clear hs
  go_enter Try.func13, Try.ntmps13
  go_wp2_with fail
  refine (l1New_any A n c l w HS.out hn).mono ?_
  rintro e w1 ⟨rfl, hc1, hg1⟩
  have C1 := Lib.hid hc1
  have L1 := Lib.hid (below_of_grown hg1)
  clear hc1 hg1
  go_wp2_with fail
  refine (near_any w.heap.size w1 C1.out).mono ?_
  rintro e w2 ⟨gl, m, cap, L, rfl, hm, hL, hS, ho, hc2, hg2⟩
  have O2 := Lib.hid ho
  have GA := Lib.hid (show w.heap.size < w1.heap.size from C1.out.lt)
  have S2 := Lib.hid hS
  have HL := Lib.hid hL
  have C2 := Lib.hid hc2
  have L2 := Lib.hid (below_more L1.out hg2 (Nat.le_refl _))
  clear ho hS hc2 hg2 hL C1 L1
  go_wp2_with fail
  refine (l1Str_any w.heap.size w2.heap.size 3 near3 _ (C2.out.alloc _) (bk_texts w2 near3 _ rfl) (Nat.ne_of_gt C2.out.lt) rfl (by omega) (by omega)).mono ?_
  rintro e w3 ⟨s, rfl, hs, hc3, hg3⟩
  have O3 := Lib.hid (own_far (O2.out.alloc _) hg3 GA.out)
  have C3 := Lib.hid hc3
  have L3 := Lib.hid (below_more (L2.out.alloc L2.out.size _) hg3 (Nat.le_refl _))
  clear hs hc3 hg3 C2 O2 L2
  go_wp2_with fail
  refine (l5Type_any w.heap.size w3 C3.out).mono ?_
  rintro e w4 ⟨t, rfl, ht, hc4, hg4⟩
  have O4 := Lib.hid (own_far O3.out hg4 GA.out)
  have L4 := Lib.hid (below_more L3.out hg4 (Nat.le_refl _))
  clear ht hc4 hg4 C3 O3 L3
  go_wp2
  go_ret3
  exact ⟨gl, m, cap, L, s, t, rfl, hm, S2.out, own_sr O4.out HL.out, L4.out⟩

end Go.Proofs.Ytaahaepgabcebaa.DrawSu
