/- What PutLabel does in the program and in the model: a new slice that holds the old bytes and, where the text is a label, its length and its bytes. Conditions: at most 400000000 bytes in each argument. -/
import Derived.Test.YtkfibepejlgniaaGreatDoorApp
import Derived.Test.YtkfibepejlgniaaGreatDoorLabel
namespace Go.Proofs.YtkfibepejlgniaaGreatDoor.PutLabel
open Go.RowKit Go.Proofs.YtkfibepejlgniaaGreatDoor.Mem Go.Proofs.YtkfibepejlgniaaGreatDoor.App Go.Proofs.YtkfibepejlgniaaGreatDoor.Label

/-- A length as one byte. A def, so that no step of a walk opens it. -/
def one (k : Nat) : List UInt8 := [UInt8.ofNat k]
theorem one_len (k : Nat) : (one k).length = 1 := rfl
theorem one_cells (k : Nat) (h : k < 256) : (#[Value.int .u8 (k : Int)] : Array Value).toList = (one k).map bv := by
  simp only [one, List.map_cons, List.map_nil, bv]
  rw [UInt8.toNat_ofNat_of_lt' (by simp [UInt8.size]; omega)]
/-- What PutLabel puts behind b. -/
def tailL (s : ByteArray) : List UInt8 := if lok s.data.toList then one s.size ++ s.data.toList else []
theorem lok_len {l : List UInt8} (h : lok l = true) : 1 ≤ l.length ∧ l.length ≤ 12 := by
  rw [lok, Bool.and_eq_true] at h
  exact of_decide_eq_true h.1
theorem tailL_len (s : ByteArray) : (tailL s).length ≤ 13 := by
  unfold tailL
  split
  · rename_i h
    have := (lok_len h).2
    rw [List.length_append, one_len]
    omega
  · simp

set_option maxHeartbeats 1000000 in
theorem implPut (A : Option Addr) (n c : Nat) (l : List UInt8) (s : ByteArray) (w : World) (hs : Sl w w.heap.size A n l) (hnil : A = none → n = 0 ∧ c = 0) (hn : n ≤ 400000000) (hz : s.size ≤ 400000000) :
    Calls Tryz.prog 166 #[.slice A n c, .string s] w (Gives w (l ++ tailL s)) := by
  obtain ⟨i0, hi, hz0, hz1, hz2⟩ := info_parts Copy.info
  have HS := Lib.hid hs
  have HN := Lib.hid hnil
  have hsz : s.data.toList.length = s.size := by simp
  have HZ := Lib.hid hsz
  clear hs hnil hsz
  cases hb : lok s.data.toList
  · have HT : Hid (tailL s = []) := by show _ = _; rw [tailL, hb]; rfl
    have HB := Lib.hid hb
    clear hb
    go_enter Tryz.func166, Tryz.ntmps166
    go_wp2_with fail
    refine (Label.impl_any s w (by omega)).mono ?_
    rw [HB.out]
    rintro e w1 ⟨rfl, hl⟩
    have L1 := Lib.hid hl
    clear hl
    go_wp2_with fail
    refine (appended_gives A none n c 0 0 l [] w1 ((HS.out.below L1.out).wider L1.out.size) Sl.nil HN.out (fun _ => ⟨rfl, rfl⟩) hn (by omega)).mono ?_
    rintro e w2 ⟨g, m, c1, r, rfl, hm, hle, hg, hb, hl⟩
    have HM := Lib.hid hm
    have HK := Lib.hid hb
    have HG := Lib.hid hg
    have HL := Lib.hid hl
    clear hm hb hl hg
    go_wp2
    go_ret
    rw [HT.out]
    exact Gives.later ⟨g, m, c1, r, rfl, HM.out, hle, HG.out, HK.out, HL.out⟩ L1.out
  · have HT : Hid (tailL s = one s.size ++ s.data.toList) := by show _ = _; rw [tailL, hb]; rfl
    have hlen := (lok_len hb)
    rw [HZ.out] at hlen
    obtain ⟨h1, h2⟩ := hlen
    have HB := Lib.hid hb
    clear hb
    go_enter Tryz.func166, Tryz.ntmps166
    go_wp2_with fail
    refine (Label.impl_any s w (by omega)).mono ?_
    rw [HB.out]
    rintro e w1 ⟨rfl, hl⟩
    have L1 := Lib.hid hl
    clear hl
    go_wp2_with fail
    refine (appended_any A _ n c 1 1 l (one s.size) _ (sl_alloc ((HS.out.below L1.out).wider L1.out.size) _) (sl_new _ _ (one s.size) (one_cells s.size (by omega))) HN.out (fun h => by cases h) hn (by omega)).mono ?_
    rintro e w2 ⟨rfl, hb, hl⟩
    have B2 := Lib.hid hb
    have Z1 := Lib.hid L1.out.size
    have L2 := Lib.hid ((L1.out.alloc L1.out.size _).trans (hl.mono (by have := Z1.out; simp; omega)))
    clear hb hl L1
    generalize hg : (w1.alloc (.cells #[Value.int .u8 (s.size : Int)] 5)).heap.size = g at *
    have hgw : w.heap.size ≤ g := by have := Z1.out; simp at hg; omega
    clear hg
    have O2 := Lib.hid (owns_of_bk (w := w2) (base := w.heap.size) (n := n + 1) (cap := n + 1) (l := l ++ one s.size) (r := []) (by rw [List.append_nil]; exact B2.out) hgw (by rw [List.length_append, HS.out.1, one_len]) (by rw [List.append_nil, List.length_map, List.length_append, HS.out.1, one_len]) (by unfold maxLen; omega))
    go_wp2_with (at_builtin; refine append_str rfl (.tmp 15) (.tmp 16) 22 9 rfl w.heap.size 5 i0 Tryz.underlying22 Tryz.underlying9 hi hz0 hz1 hz2 g (n + 1) (n + 1) _ rfl O2.out s rfl ?d1 ?d2 ?d3 ?_)
    case d1 => omega
    case d2 => omega
    case d3 => exact L2.out.size
    intro g3 cap3 w3 hown hgrow
    have O3 : Hid (w3.ownsRow w.heap.size 5 1 (.slice (some ⟨g3, 0, none⟩) (n + 1 + s.size) cap3) (n + 1 + s.size) ((l ++ (one s.size ++ s.data.toList)).map bv)) := by
      show World.ownsRow _ _ _ _ _ _ _
      simpa using hown
    have L3 := Lib.hid (L2.out.grown hgrow L2.out.size (fun j hj => by cases hj; exact hgw))
    clear hown hgrow
    go_wp2
    go_ret
    rw [HT.out]
    exact gives_of_owns O3.out L3.out

set_option maxHeartbeats 1000000 in
theorem specPutO (A : Option Addr) (n c : Nat) (l : List UInt8) (s : ByteArray) (w : World) (hs : Sl w w.heap.size A n l) (hnil : A = none → n = 0 ∧ c = 0) (hn : n ≤ 400000000) (hz : s.size ≤ 400000000) :
    Calls Tryz.prog 139 #[.slice A n c, .string s] w (GivesO w (l ++ tailL s)) := by
  obtain ⟨i0, hi, hz0, hz1, hz2⟩ := info_parts Copy.info
  have HS := Lib.hid hs
  have HN := Lib.hid hnil
  have hsz : s.data.toList.length = s.size := by simp
  have HZ := Lib.hid hsz
  clear hs hnil hsz
  go_enter Tryz.func139, Tryz.ntmps139
  go_wp2_with (at_builtin; refine append_src rfl (.tmp 6) (.tmp 7) 22 rfl w.heap.size 5 i0 (.int .u8 0) Tryz.underlying22 hi hz0 hz1 hz2 rfl w.heap.size 0 0 [] rfl (owns_new w) A n c _ l rfl (sl_alloc HS.out _) HN.out ?c1 ?c2 ?c3 ?_)
  case c1 => omega
  case c2 => omega
  case c3 => simp
  intro g1 cap1 w1 hown hgrow
  have O1 := Lib.hid hown
  have L1 := Lib.hid ((((Below.refl w.heap.size w).alloc (Nat.le_refl _) (.cells #[] 5))).grown hgrow (by simp) (fun j hj => by cases hj; exact Nat.le_refl _))
  clear hown hgrow
  cases hb : lok s.data.toList
  · have HT : Hid (tailL s = []) := by show _ = _; rw [tailL, hb]; rfl
    have HB := Lib.hid hb
    clear hb
    go_wp2_with fail
    refine (Label.spec_any s w1 (by omega)).mono ?_
    rw [HB.out]
    rintro e w2 ⟨rfl, rfl⟩
    go_wp2
    go_ret
    rw [HT.out, List.append_nil]
    exact givesO_of O1.out L1.out
  · have HT : Hid (tailL s = one s.size ++ s.data.toList) := by show _ = _; rw [tailL, hb]; rfl
    have hlen := (lok_len hb)
    rw [HZ.out] at hlen
    obtain ⟨h1, h2⟩ := hlen
    have HB := Lib.hid hb
    clear hb
    go_wp2_with fail
    refine (Label.spec_any s w1 (by omega)).mono ?_
    rw [HB.out]
    rintro e w2 ⟨rfl, rfl⟩
    go_wp2_with (at_builtin; refine append_src rfl (.tmp 13) (.tmp 17) 22 rfl w.heap.size 5 i0 (.int .u8 0) Tryz.underlying22 hi hz0 hz1 hz2 rfl g1 n cap1 (l.map bv) rfl (O1.out.alloc _) _ 1 1 _ (one s.size) rfl (sl_new w1 _ (one s.size) (one_cells s.size (by omega))) (fun h => by cases h) ?d1 ?d2 ?d3 ?_)
    case d1 => omega
    case d2 => omega
    case d3 => have := L1.out.size; simp; omega
    intro g2 cap2 w2 hown hgrow
    rw [← List.map_append] at hown
    have O2 := Lib.hid hown
    have L2 := Lib.hid ((L1.out.alloc L1.out.size _).grown hgrow (by have := L1.out.size; simp; omega) (fun j hj => by cases hj; exact (O1.out.lt g1 rfl).1))
    clear hown hgrow
    go_wp2_with (at_builtin; refine append_str rfl (.tmp 18) (.tmp 19) 22 9 rfl w.heap.size 5 i0 Tryz.underlying22 Tryz.underlying9 hi hz0 hz1 hz2 g2 (n + 1) cap2 _ rfl O2.out s rfl ?e1 ?e2 ?e3 ?_)
    case e1 => omega
    case e2 => omega
    case e3 => exact L2.out.size
    intro g3 cap3 w3 hown hgrow
    have O3 : Hid (w3.ownsRow w.heap.size 5 1 (.slice (some ⟨g3, 0, none⟩) (n + 1 + s.size) cap3) (n + 1 + s.size) ((l ++ (one s.size ++ s.data.toList)).map bv)) := by
      show World.ownsRow _ _ _ _ _ _ _
      simpa using hown
    have L3 := Lib.hid (L2.out.grown hgrow L2.out.size (fun j hj => by cases hj; exact (O2.out.lt g2 rfl).1))
    clear hown hgrow
    go_wp2
    go_ret
    rw [HT.out]
    exact givesO_of O3.out L3.out

theorem specPut (A : Option Addr) (n c : Nat) (l : List UInt8) (s : ByteArray) (w : World) (hs : Sl w w.heap.size A n l) (hnil : A = none → n = 0 ∧ c = 0) (hn : n ≤ 400000000) (hz : s.size ≤ 400000000) :
    Calls Tryz.prog 139 #[.slice A n c, .string s] w (Gives w (l ++ tailL s)) :=
  (specPutO A n c l s w hs hnil hn hz).mono fun _ _ h => h.gives
end Go.Proofs.YtkfibepejlgniaaGreatDoor.PutLabel
