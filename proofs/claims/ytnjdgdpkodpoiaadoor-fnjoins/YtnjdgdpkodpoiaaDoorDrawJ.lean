/- What the model's draws of the arguments of Labels and JoinLabels do: a short text; a new slice of at most four short texts; nothing that was there is turned. -/
import Derived.Test.YtnjdgdpkodpoiaaDoorDrawL
import Derived.Test.YtnjdgdpkodpoiaaDoorAppS
namespace Go.Proofs.YtnjdgdpkodpoiaaDoor.DrawJ
open Go.RowKit Go.Proofs.YtnjdgdpkodpoiaaDoor.Mem Go.Proofs.YtnjdgdpkodpoiaaDoor.MemS Go.Proofs.YtnjdgdpkodpoiaaDoor.Draw Go.Proofs.YtnjdgdpkodpoiaaDoor.DrawS Go.Proofs.YtnjdgdpkodpoiaaDoor.DrawL Go.Proofs.YtnjdgdpkodpoiaaDoor.AppS

theorem below_of_grown {w w' : World} (h : w.grownBy w' none) : Below w.heap.size w w' := ⟨h.os, h.tape, h.output, h.size, fun k hk => h.block k hk (fun e => by cases e)⟩
theorem below_more {w w1 w2 : World} {g : Nat} (h : Below w.heap.size w w1) (k : w1.grownBy w2 (some g)) (hg : w.heap.size ≤ g) : Below w.heap.size w w2 := h.grown k h.size (fun j hj => by cases hj; exact hg)

/-- A short text; nothing that was there is turned. -/
def One (w : World) (e : Ending) (w' : World) : Prop := ∃ x : ByteArray, e = .returned (.string x) ∧ Short x ∧ Below w.heap.size w w'
/-- A new slice of at most four short texts; nothing that was there is turned. -/
def Few (w : World) (e : Ending) (w' : World) : Prop :=
  ∃ (g m cap : Nat) (r : List Value) (L : List ByteArray), e = .returned (.slice (some ⟨g, 0, none⟩) m cap) ∧ L.length = m ∧ m ≤ cap ∧ m ≤ 4 ∧ (∀ x ∈ L, Short x) ∧ w.heap.size ≤ g ∧ Bk w' g 9 (L.map tv ++ r) ∧ Below w.heap.size w w'

def dots : List ByteArray := [⟨#[]⟩, ⟨#[97]⟩, ⟨#[97, 46, 98]⟩, ⟨#[46]⟩, ⟨#[97, 46]⟩, ⟨#[46, 97]⟩, ⟨#[97, 46, 46, 98]⟩, ⟨#[119, 119, 119, 46, 101, 120, 46, 99, 111, 109]⟩]
theorem dots_short : ∀ x ∈ dots, Short x := all_short _ (by decide)

set_option maxHeartbeats 2000000 in
theorem drawLabels_any (A : Option Addr) (n c : Nat) (l : List UInt8) (w : World) (hs : Sl w w.heap.size A n l) (hn : n ≤ 1048576) : Calls Tryd.prog 6 #[.slice A n c] w (One w) := by
  have HS := Lib.hid hs
  clear hs
  go_enter Tryd.func6, Tryd.ntmps6
  go_wp2_with fail
  refine (l1New_any A n c l w HS.out hn).mono ?_
  rintro e w1 ⟨rfl, hc1, hg1⟩
  have C1 := Lib.hid hc1
  have L1 := Lib.hid (below_of_grown hg1)
  clear hc1 hg1
  go_wp2_with fail
  refine (l1Str_any w.heap.size w1.heap.size 8 dots _ (C1.out.alloc _) (bk_texts w1 dots _ rfl) (Nat.ne_of_gt C1.out.lt) rfl (by omega) (by omega)).mono ?_
  rintro e w2 ⟨x, rfl, hx, hc2, hg2⟩
  have HX := Lib.hid (dots_short x hx)
  have L2 := Lib.hid (below_more (L1.out.alloc L1.out.size _) hg2 (Nat.le_refl _))
  clear hc2 hg2 hx
  go_wp2
  go_ret
  exact ⟨x, rfl, HX.out, L2.out⟩

/-- What is known while texts are drawn: the row of the call's own above the cursor. -/
def Row (w : World) (B g m cap : Nat) (L : List ByteArray) (w' : World) : Prop :=
  L.length = m ∧ (∀ x ∈ L, Short x) ∧ w'.ownsRow B 9 1 (.slice (some ⟨g, 0, none⟩) m cap) m (L.map tv) ∧ Cur w' w.heap.size ∧ Below w.heap.size w w' ∧ w.heap.size < B ∧ B ≤ w'.heap.size

set_option maxHeartbeats 4000000 in
theorem drawJoinLabels_any (A : Option Addr) (n c : Nat) (l : List UInt8) (w : World) (hs : Sl w w.heap.size A n l) (hn : n ≤ 1048576) : Calls Tryd.prog 7 #[.slice A n c] w (Few w) := by
  obtain ⟨i0, hi, hz0, hz1, hz2⟩ := info_parts AppS.info
  have HS := Lib.hid hs
  clear hs
  go_enter Tryd.func7, Tryd.ntmps7
  go_wp2_with fail
  refine (l1New_any A n c l w HS.out hn).mono ?_
  rintro e w1 ⟨rfl, hc1, hg1⟩
  have C1 := Lib.hid hc1
  have L1 := Lib.hid (below_of_grown hg1)
  clear hc1 hg1
  go_wp2_with fail
  refine (l1Below_any w.heap.size 5 _ (C1.out.alloc _) (by omega) (by omega)).mono ?_
  rintro e w2 ⟨x, rfl, hx0, hx1, hc2, hg2⟩
  obtain ⟨k0, rfl⟩ := Int.eq_ofNat_of_zero_le hx0
  have HR : Hid (Row w w1.heap.size w1.heap.size 0 0 [] w2) := ⟨rfl, fun x h => by simp at h, (owns_new w1).kept hg2 (Or.inr (fun e => by have h1 := C1.out.lt; have h2 := Option.some.inj e; simp at h2; omega)), hc2, below_more (L1.out.alloc L1.out.size _) hg2 (Nat.le_refl _), C1.out.lt, by have := hg2.size; simp at this; omega⟩
  clear hc2 hg2 C1 L1
  go_wp2
  go_loopw [4, 5] (fun v i wr => ∃ (k : Nat) (L : List ByteArray) (g m cap : Nat), m + k ≤ 4 ∧ i = .int .i64 k ∧ v = .slice (some ⟨g, 0, none⟩) m cap ∧ Hid (Row w w1.heap.size g m cap L wr)) (fun _ i _ => (intOf i).toNat)
  case atStart => exact ⟨k0, [], w1.heap.size, 0, 0, by omega, rfl, rfl, HR.out⟩
  case round =>
    clear HR hx0 hx1
    obtain ⟨k, L, g, m, cap, hk, rfl, rfl, HR⟩ := hrel
    by_cases h0 : 0 < k
    · go_wp2_with fail
      refine (l2Any_any w.heap.size wr HR.out.2.2.2.1).mono ?_
      rintro e w3 ⟨y, rfl, hy, hc3, hg3⟩
      have HR3 : Hid (Row w w1.heap.size g m cap L w3) := by
        obtain ⟨a1, a2, a3, _, a5, a6, a7⟩ := HR.out
        exact ⟨a1, a2, a3.kept hg3 (Or.inr (fun e => by have h1 := (a3.lt g rfl).1; have h2 := Option.some.inj e; simp at h2; omega)), hc3, below_more a5 hg3 (Nat.le_refl _), a6, Nat.le_trans a7 hg3.size⟩
      have HY := Lib.hid hy
      clear hy hc3 hg3 HR
      go_wp2_with (at_builtin; refine append_one rfl (.tmp 15) (.tmp 18) 25 rfl w1.heap.size 9 i0 (.string ⟨#[]⟩) Tryd.underlying25 hi hz0 hz1 hz2 rfl g m cap L rfl HR3.out.2.2.1 y rfl ?c1 ?c2 ?_)
      case c1 => omega
      case c2 => exact HR3.out.2.2.2.2.2.2
      intro g' cap' w4 hown hgrow
      have HR4 : Hid (Row w w1.heap.size g' (m + 1) cap' (L ++ [y]) w4) := by
        obtain ⟨a1, a2, a3, a4, a5, a6, a7⟩ := HR3.out
        have hgb := (a3.lt g rfl).1
        refine ⟨by rw [List.length_append, a1]; rfl, fun x hx => ?_, by rw [List.map_append]; simpa using hown, (a4.alloc _).grown hgrow (fun j hj => by cases hj; omega), (a5.alloc a5.size _).grown hgrow (by have := a5.size; simp; omega) (fun j hj => by cases hj; omega), a6, by have := hgrow.size; simp at this; omega⟩
        rcases List.mem_append.1 hx with h | h
        · exact a2 x h
        · rw [List.mem_singleton.1 h]; exact HY.out
      clear hown hgrow HR3
      go_wp2
      go_roundw
      case rel => exact ⟨k - 1, L ++ [y], g', m + 1, cap', by omega, by go_num, rfl, HR4.out⟩
      case measure => simp [intOf]; omega
    · go_wp2
      go_ret
      obtain ⟨a1, a2, a3, a4, a5, a6, a7⟩ := HR.out
      obtain ⟨r, hb, hr, hg⟩ := bk_of_owns a3
      exact ⟨g, m, cap, r, L, rfl, a1, by rw [← hr, List.length_append, List.length_map, a1]; omega, by omega, a2, by omega, hb, a5⟩
end Go.Proofs.YtnjdgdpkodpoiaaDoor.DrawJ
