/- What ReplyTo does in the program where a section may be nil. Condition: fewer than 400000001 records in each section. -/
import Derived.Test.YtmkcjjgicinggaaGreatDoorExactReplyAtP6
import Derived.Test.YtmkcjjgicinggaaGreatDoorExactReplyAtP4
import Derived.Test.YtmkcjjgicinggaaGreatDoorExactReplyAtP3
import Derived.Test.YtmkcjjgicinggaaGreatDoorMemZ
import Derived.Test.YtmkcjjgicinggaaGreatDoorExactReplyAtP2
import Derived.Test.YtmkcjjgicinggaaGreatDoorExactReplyAtP5
import Derived.Laws.EntriesVeiled
import Derived.Test.YtmkcjjgicinggaaGreatDoorResM
import Derived.Deep.RegionHeld3
import Derived.Laws.Tables
import Derived.Laws.AppendOwnNone
/- What referral does in the program: the servers of the cut, and their addresses in the zone. Condition: at most 1048576 records, no name of more than 400000000 bytes. -/
namespace Go.Proofs.YtmkcjjgicinggaaGreatDoor.RefI
open Go.RowKit Go.Proofs.YtmkcjjgicinggaaGreatDoor.Mem Go.Proofs.YtmkcjjgicinggaaGreatDoor.MemR Go.Proofs.YtmkcjjgicinggaaGreatDoor.SetMath Go.Proofs.YtmkcjjgicinggaaGreatDoor.NameMath Go.Proofs.YtmkcjjgicinggaaGreatDoor.ZoneMath Go.Proofs.YtmkcjjgicinggaaGreatDoor.ServeMath Go.Proofs.YtmkcjjgicinggaaGreatDoor.MemZ Go.Proofs.YtmkcjjgicinggaaGreatDoor.MemM Go.Proofs.YtmkcjjgicinggaaGreatDoor.Wt Go.Proofs.YtmkcjjgicinggaaGreatDoor.AppS Go.Proofs.YtmkcjjgicinggaaGreatDoor.MemS Go.Proofs.YtmkcjjgicinggaaGreatDoor.KindS Go.Proofs.YtmkcjjgicinggaaGreatDoor.CutOfS Go.Proofs.YtmkcjjgicinggaaGreatDoor.ResC Go.Proofs.YtmkcjjgicinggaaGreatDoor.ConI

/-- The box g holds a content. A def, so that no step of a walk opens it. -/
def RC (w : World) (g : Nat) : Prop := ∃ cs : List Value, cs.length = 5 ∧ Bk w g 148 cs

/-- What a cell of the box holds. -/
def cl (w : World) (g j : Nat) : Value := (w.cell? ⟨g, j, none⟩).getD undef

theorem RC.below {w w' : World} {g : Nat} (k : RC w g) (hb : Below w.heap.size w w') : RC w' g := by
  obtain ⟨cs, hc, k⟩ := k
  exact ⟨cs, hc, k.below hb k.lt⟩

theorem RC.lt {w : World} {g : Nat} (k : RC w g) : g < w.heap.size := by
  obtain ⟨cs, hc, k⟩ := k
  exact k.lt

theorem RC.cell {w : World} {g : Nat} (k : RC w g) (j : Nat) (hj : j < 5) : w.cell? ⟨g, j, none⟩ = some (cl w g j) := by
  obtain ⟨cs, hc, k⟩ := k
  unfold cl
  rw [k.cell, List.getElem?_eq_getElem (show j < cs.length by omega)]
  rfl

theorem RC.free {w : World} {g : Nat} (k : RC w g) (j : Nat) : w.frozen? ⟨g, j, none⟩ = false := by
  obtain ⟨cs, hc, k⟩ := k
  exact k.free j

theorem RC.put {w : World} {g : Nat} (k : RC w g) (j : Nat) (v : Value) : RC (w.setCell ⟨g, j, none⟩ v) g := by
  obtain ⟨cs, hc, k⟩ := k
  exact ⟨cs.set j v, by rw [List.length_set]; exact hc, k.set j v⟩

theorem RC.fil {w : World} {g : Nat} (k : RC w g) (d : Int) (a : Bool) (x y z : Value) : Bk (filC w g d a x y z) g 148 (cc d a x y z) := by
  obtain ⟨cs, hc, k⟩ := k
  match cs, hc with
  | [a0, a1, a2, a3, a4], _ => exact (((((k.set 0 (.int .i64 d)).set 1 (.bool a)).set 2 x).set 3 y).set 4 z)

section
variable {w0 w w1 w' : World} {g k j : Nat} {s : ByteArray} {x : Value} {t : TypeId} {cs : List Value}

theorem keptC (m : ((w.cell? ⟨g, 0, none⟩ = some (.string s) ∧ w.cell? ⟨g, 1, none⟩ = some x) ∧ RC w k ∧ Bk w j t cs) ∧ Svz w0 w) (hl : Below w.heap.size w w') : ((w'.cell? ⟨g, 0, none⟩ = some (.string s) ∧ w'.cell? ⟨g, 1, none⟩ = some x) ∧ RC w' k ∧ Bk w' j t cs) ∧ Svz w0 w' :=
  ⟨⟨Zx.below m.1.1 hl, m.1.2.1.below hl, m.1.2.2.below hl m.1.2.2.lt⟩, m.2.trans (hl.mono m.2.size)⟩

theorem keptC_draw (m : ((w.cell? ⟨g, 0, none⟩ = some (.string s) ∧ w.cell? ⟨g, 1, none⟩ = some x) ∧ RC w k ∧ Bk w j t cs) ∧ Svz w0 w) : ((w.drew.cell? ⟨g, 0, none⟩ = some (.string s) ∧ w.drew.cell? ⟨g, 1, none⟩ = some x) ∧ RC w.drew k ∧ Bk w.drew j t cs) ∧ Svz w0 w.drew := keptC m ((Below.refl _ _).drew)

theorem keptC_put (m : ((w.cell? ⟨g, 0, none⟩ = some (.string s) ∧ w.cell? ⟨g, 1, none⟩ = some x) ∧ RC w k ∧ Bk w j t cs) ∧ Svz w0 w) (h1 : g ≠ k) (h2 : j ≠ k) (h3 : w0.heap.size ≤ k) (i : Nat) (v : Value) : (((w.setCell ⟨k, i, none⟩ v).cell? ⟨g, 0, none⟩ = some (.string s) ∧ (w.setCell ⟨k, i, none⟩ v).cell? ⟨g, 1, none⟩ = some x) ∧ RC (w.setCell ⟨k, i, none⟩ v) k ∧ Bk (w.setCell ⟨k, i, none⟩ v) j t cs) ∧ Svz w0 (w.setCell ⟨k, i, none⟩ v) :=
  ⟨⟨Zx.set1 m.1.1 (p := ⟨k, i, none⟩) h1 v, m.1.2.1.put i v, m.1.2.2.other (p := ⟨k, i, none⟩) h2 v⟩, Below.setCell m.2 (p := ⟨k, i, none⟩) h3 v⟩

theorem keptC_fil (m : ((w1.cell? ⟨g, 0, none⟩ = some (.string s) ∧ w1.cell? ⟨g, 1, none⟩ = some x) ∧ RC w1 k ∧ Bk w1 j t cs) ∧ Svz w0 w1) (h1 : g ≠ k) (h2 : j ≠ k) (h3 : w0.heap.size ≤ k) (v0 v1 v2 v3 v4 : Value) : (((((((w1.setCell ⟨k, 0, none⟩ v0).setCell ⟨k, 1, none⟩ v1).setCell ⟨k, 2, none⟩ v2).setCell ⟨k, 3, none⟩ v3).setCell ⟨k, 4, none⟩ v4).cell? ⟨g, 0, none⟩ = some (.string s) ∧ (((((w1.setCell ⟨k, 0, none⟩ v0).setCell ⟨k, 1, none⟩ v1).setCell ⟨k, 2, none⟩ v2).setCell ⟨k, 3, none⟩ v3).setCell ⟨k, 4, none⟩ v4).cell? ⟨g, 1, none⟩ = some x) ∧ RC (((((w1.setCell ⟨k, 0, none⟩ v0).setCell ⟨k, 1, none⟩ v1).setCell ⟨k, 2, none⟩ v2).setCell ⟨k, 3, none⟩ v3).setCell ⟨k, 4, none⟩ v4) k ∧ Bk (((((w1.setCell ⟨k, 0, none⟩ v0).setCell ⟨k, 1, none⟩ v1).setCell ⟨k, 2, none⟩ v2).setCell ⟨k, 3, none⟩ v3).setCell ⟨k, 4, none⟩ v4) j t cs) ∧ Svz w0 (((((w1.setCell ⟨k, 0, none⟩ v0).setCell ⟨k, 1, none⟩ v1).setCell ⟨k, 2, none⟩ v2).setCell ⟨k, 3, none⟩ v3).setCell ⟨k, 4, none⟩ v4) :=
  keptC_put (keptC_put (keptC_put (keptC_put (keptC_put m h1 h2 h3 0 v0) h1 h2 h3 1 v1) h1 h2 h3 2 v2) h1 h2 h3 3 v3) h1 h2 h3 4 v4
end

set_option maxRecDepth 100000 in
set_option maxHeartbeats 4000000 in
theorem referral (s nm : ByteArray) (ty : Int) (b0 o0 n c : Nat) (l : List Rec) (w : World) (hs : Sr w w.heap.size (some ⟨b0, o0, none⟩) n l) (hn : n ≤ 1048576) (hm : s.size ≤ 400000000) (hq : nm.size ≤ 400000000) (hz : ∀ r ∈ l, r.name.size ≤ 400000000) :
    Calls Tryz.prog 171 #[.agg #[.string s, .slice (some ⟨b0, o0, none⟩) n c], .agg #[.string nm, .int .i64 ty]] w (GivesK w 0 false [] (sf (cu s nm l) 2 l) (gl (uq (hl (sf (cu s nm l) 2 l))) l)) := by
  obtain ⟨⟨hx, hy⟩, hb0, hl0⟩ := three w s nm ty (.slice (some ⟨b0, o0, none⟩) n c) 37 29 148 0 false
  have X0 := Lib.hid hx
  have Y0 := Lib.hid hy
  have R0 := Lib.hid hb0
  have L0 := Lib.hid hl0
  have HS := Lib.hid hs
  have CS := Lib.hid (fun W hW => CutOfI.impl s nm b0 o0 n c l W hW (by omega) hm hq hz)
  have TS := Lib.hid (fun W hW => SetI.impl (cu s nm l) 2 b0 o0 n c l W hW (by omega))
  obtain ⟨b, hb⟩ := MorS.cu_cv s nm l
  rw [hb] at CS
  have LM : Hid ((sf (cu s nm l) 2 l).length ≤ 1048576) := show _ ≤ _ by have h1 := sf_len (cu s nm l) 2 l; have h2 := hs.1; omega
  clear hs hx hy hb0 hl0 hb hz
  generalize cu s nm l = u at *
  generalize sf u 2 l = lm at *
  have HHL : Hid ((uq (hl lm)).length ≤ 1048576) := show _ ≤ _ by have h1 := len_uq (hl lm); have h2 := hl_len lm; have := LM.out; omega
  have HH := Lib.hid (fun (b o m c : Nat) (W : World) (hW : Sr W W.heap.size (some ⟨b, o, none⟩) m lm) (hm : m ≤ 400000000) => HostI.impl b o m c lm W hW hm)
  generalize uq (hl lm) = H at *
  have GS := Lib.hid (fun (h m c' : Nat) (W : World) (hW : Sr W W.heap.size (some ⟨b0, o0, none⟩) n l) (hh : Ss W W.heap.size (some ⟨h, 0, none⟩) m H) (hm : m ≤ 1048576) => GlueI.impl s b0 o0 n c l h 0 m c' H W hW hh (by omega) hm)
  generalize gl H l = lg at *
  obtain ⟨x0, x1⟩ := X0.out
  obtain ⟨y0, y1⟩ := Y0.out
  go_enter Tryz.func171, Tryz.ntmps171
  go_wp2_with fail
  refine (CS.out _ (HS.out.on L0.out)).mono ?_
  rintro e w1 ⟨rfl, hl⟩
  have X1 := Lib.hid (X0.out.below hl)
  have R1 := Lib.hid (R0.out.below hl R0.out.lt)
  have L1 := Lib.hid (L0.out.trans (hl.mono L0.out.size))
  clear hl CS X0 Y0 R0 L0 x0 x1 y0 y1
  obtain ⟨x0, x1⟩ := X1.out
  go_wp2_with fail
  refine (TS.out _ (HS.out.on L1.out)).mono ?_
  rintro e w2 ⟨g, m, cp, r, rfl, hm2, hc2, hg2, hb2, hl⟩
  have M2 := Lib.hid hm2
  have C2 := Lib.hid hc2
  have B2 := Lib.hid hb2
  have NG : Hid (w.heap.size + 1 + 1 < g) := Nat.lt_of_lt_of_le R1.out.lt hg2
  have X2 := Lib.hid (X1.out.below hl)
  have R2 := Lib.hid (R1.out.below hl R1.out.lt)
  have L2 := Lib.hid (L1.out.trans (hl.mono L1.out.size))
  clear hl TS X1 R1 L1 x0 x1 hm2 hc2 hg2 hb2
  have hlm : m ≤ 1048576 := by have := LM.out; have := M2.out; omega
  have HHR : Hid (∀ W : World, ((W.cell? ⟨w.heap.size, 0, none⟩ = some (.string s) ∧ W.cell? ⟨w.heap.size, 1, none⟩ = some (.slice (some ⟨b0, o0, none⟩) n c)) ∧ RC W (w.heap.size + 1 + 1) ∧ Bk W g 93 (fl lm ++ r)) ∧ Svz w W → Calls Tryz.prog 14 #[.slice (some ⟨g, 0, none⟩) m cp] W (GivesS W H)) := fun W hW => HH.out g 0 m cp W (bk_sr hW.1.2.2 M2.out) (by omega)
  have GSR : Hid (∀ (W : World) (h m' c' : Nat) (r' : List Value), ((W.cell? ⟨w.heap.size, 0, none⟩ = some (.string s) ∧ W.cell? ⟨w.heap.size, 1, none⟩ = some (.slice (some ⟨b0, o0, none⟩) n c)) ∧ RC W (w.heap.size + 1 + 1) ∧ Bk W g 93 (fl lm ++ r)) ∧ Svz w W → Bk W h 9 (H.map tv ++ r') → H.length = m' → Calls Tryz.prog 218 #[.agg #[.string s, .slice (some ⟨b0, o0, none⟩) n c], .slice (some ⟨h, 0, none⟩) m' c'] W (GivesL W lg)) := fun W h m' c' r' hW hb hz => GS.out h m' c' W (HS.out.on hW.2) (bk_ssw hb hz) (by have := HHL.out; omega)
  have SS0 : ((w2.cell? ⟨w.heap.size, 0, none⟩ = some (.string s) ∧ w2.cell? ⟨w.heap.size, 1, none⟩ = some (.slice (some ⟨b0, o0, none⟩) n c)) ∧ RC w2 (w.heap.size + 1 + 1) ∧ Bk w2 g 93 (fl lm ++ r)) ∧ Svz w w2 := ⟨⟨X2.out, ⟨_, rfl, R2.out⟩, B2.out⟩, L2.out⟩
  have n1 : w.heap.size ≠ w.heap.size + 1 + 1 := by omega
  have n2 : g ≠ w.heap.size + 1 + 1 := by have := NG.out; omega
  have n3 : w.heap.size ≤ w.heap.size + 1 + 1 := by omega
  clear X2 HH GS
  go_wp2
  go_region_held3 (fun w' => ((w'.cell? ⟨w.heap.size, 0, none⟩ = some (.string s) ∧ w'.cell? ⟨w.heap.size, 1, none⟩ = some (.slice (some ⟨b0, o0, none⟩) n c)) ∧ RC w' (w.heap.size + 1 + 1) ∧ Bk w' g 93 (fl lm ++ r)) ∧ Svz w w')
    (first | with_reducible exact keptC_fil (w1 := w4) (by assumption) n1 n2 n3 _ _ _ _ _ | with_reducible exact SS0 | with_reducible assumption | with_reducible exact keptC (by assumption) hl | with_reducible exact keptC_draw (by assumption) | fail)
    (first
      | (go_at_call 14; (with_reducible refine (HHR.out _ (by assumption)).mono ?_); rintro e w3 ⟨g3, m3, c3, r3, rfl, hz3, hc3, hg3, hb3, hl⟩; have y1 := hl)
      | (go_at_call 218; (with_reducible refine (GSR.out _ _ _ _ _ (by assumption) hb3 hz3).mono ?_); rintro e w4 ⟨g4, m4, c4, r4, rfl, hz4, hc4, hg4, hb4, hl⟩; have y2 := hl; have HR := (keptC (by assumption) hl).1.2.1; have p0 := HR.cell 0 (by decide); have f0 := HR.free 0; have p1 := HR.cell 1 (by decide); have f1 := HR.free 1; have p2 := HR.cell 2 (by decide); have f2 := HR.free 2; have p3 := HR.cell 3 (by decide); have f3 := HR.free 3; have p4 := HR.cell 4 (by decide); have f4 := HR.free 4; clear HR)
      | fail)
  rename_i hH
  have a0 : Below w.heap.size w w2.drew := L2.out.drew
  have a1 := a0.trans (y1.mono a0.size)
  have a2 := a1.trans (y2.mono a1.size)
  have RA : RC w4 (w.heap.size + 1 + 1) := by
    have b0 : RC w2.drew (w.heap.size + 1 + 1) := ⟨_, rfl, R2.out⟩
    exact (b0.below y1).below y2
  have BA : Bk w4 g 93 (fl lm ++ r) := by
    have b0 : Bk w2.drew g 93 (fl lm ++ r) := B2.out
    have b1 := b0.below y1 b0.lt
    exact b1.below y2 b1.lt
  have F := Lib.hid (RA.fil 0 false (.slice none 0 0) (.slice (some ⟨g, 0, none⟩) m cp) (.slice (some ⟨g4, 0, none⟩) m4 c4))
  have E := Lib.hid (filC_below a2 (g := w.heap.size + 1 + 1) (by omega) 0 false (.slice none 0 0) (.slice (some ⟨g, 0, none⟩) m cp) (.slice (some ⟨g4, 0, none⟩) m4 c4))
  have G4 : w.heap.size + 1 + 1 < g4 := Nat.lt_of_lt_of_le (show w.heap.size + 1 + 1 < w3.heap.size from Nat.lt_of_lt_of_le (show w.heap.size + 1 + 1 < w2.drew.heap.size from R2.out.lt) y1.size) hg4
  have Q1 : Hid (Sec (w.heap.size + 1 + 1 + 1) w4 (some ⟨g, 0, none⟩) m cp lm) := .inr ⟨g, r, rfl, M2.out, C2.out, NG.out, BA⟩
  have Q2 : Hid (Sec (w.heap.size + 1 + 1 + 1) w4 (some ⟨g4, 0, none⟩) m4 c4 lg) := .inr ⟨g4, r4, rfl, hz4, hc4, G4, hb4⟩
  clear hH SS0 HHR GSR a0 a1 a2 RA BA R2 B2 L2 y1 y2 hl G4 hz3 hc3 hg3 hb3 hz4 hc4 hg4 hb4 p0 f0 p1 f1 p2 f2 p3 f3 p4 f4
  go_wp2
  exact bodyPost_ret (v := .agg #[.int .i64 0, .bool false, .slice none 0 0, .slice (some ⟨g, 0, none⟩) m cp, .slice (some ⟨g4, 0, none⟩) m4 c4]) (res1C rfl F.out rfl) rfl ⟨_, _, _, _, _, _, _, _, _, rfl, Sec.nil, (Q1.out.fil (by omega) _ _ _ _ _).low (by omega), (Q2.out.fil (by omega) _ _ _ _ _).low (by omega), E.out⟩

end Go.Proofs.YtmkcjjgicinggaaGreatDoor.RefI

/- What InZone does in the program: it tells whether the name is under the zone's apex and under none of its cuts. Condition: fewer than 400000001 records, no name of more than 400000000 bytes. -/
namespace Go.Proofs.YtmkcjjgicinggaaGreatDoor.InZoneI
open Go.RowKit Go.Proofs.YtmkcjjgicinggaaGreatDoor.Mem Go.Proofs.YtmkcjjgicinggaaGreatDoor.MemR Go.Proofs.YtmkcjjgicinggaaGreatDoor.SetMath Go.Proofs.YtmkcjjgicinggaaGreatDoor.NameMath Go.Proofs.YtmkcjjgicinggaaGreatDoor.ZoneMath Go.Proofs.YtmkcjjgicinggaaGreatDoor.MemZ Go.Proofs.YtmkcjjgicinggaaGreatDoor.CutOfS

set_option maxHeartbeats 4000000 in
theorem impl (s nm : ByteArray) (b0 o0 n c : Nat) (l : List Rec) (w : World) (hs : Sr w w.heap.size (some ⟨b0, o0, none⟩) n l) (hn : n ≤ 400000000) (hm : s.size ≤ 400000000) (hq : nm.size ≤ 400000000) (hz : ∀ r ∈ l, r.name.size ≤ 400000000) :
    Calls Tryz.prog 13 #[.agg #[.string s, .slice (some ⟨b0, o0, none⟩) n c], .string nm] w fun e w' => e = .returned (.bool (iz s nm l)) ∧ Below w.heap.size w w' := by
  have L0 := Lib.hid ((Below.refl w.heap.size w).alloc (Nat.le_refl _) (.cells #[.string s, .slice (some ⟨b0, o0, none⟩) n c] 37))
  have X0 := Lib.hid (zx_new w 37 s (.slice (some ⟨b0, o0, none⟩) n c))
  have CS := Lib.hid (fun W hW => CutOfI.impl s nm b0 o0 n c l W hW hn hm hq hz)
  have US := Lib.hid (fun W => UnderImpl.impl nm s W hq hm)
  have S0 := Lib.hid (hs.on L0.out)
  clear hs hz
  have HV : Hid (iz s nm l = (Un nm s && !(co nm (uq (cn s l))).isSome)) := rfl
  generalize iz s nm l = v at *
  generalize co nm (uq (cn s l)) = o at *
  generalize Un nm s = u at *
  obtain ⟨x0, x1⟩ := X0.out
  cases o with
  | none =>
    replace CS : Hid (∀ W, Sr W W.heap.size (some ⟨b0, o0, none⟩) n l → Calls Tryz.prog 59 #[.agg #[.string s, .slice (some ⟨b0, o0, none⟩) n c], .string nm] W fun e w' => e = .returned (.tuple #[.string ⟨#[]⟩, .bool false]) ∧ Below W.heap.size W w') := CS
    go_enter Tryz.func13, Tryz.ntmps13
    go_wp2_with fail
    refine (CS.out _ S0.out).mono ?_
    rintro e w1 ⟨rfl, hl⟩
    have X1 := Lib.hid (X0.out.below hl)
    have L1 := Lib.hid (L0.out.trans (hl.mono L0.out.size))
    clear hl CS S0 L0 X0 x0 x1
    obtain ⟨x0, x1⟩ := X1.out
    go_wp2_with fail
    refine (US.out _).mono ?_
    rintro e w2 ⟨rfl, rfl⟩
    have L2 := Lib.hid L1.out
    clear US x0 x1 X1
    have HF : Hid (v = u) := by show _ = _; rw [HV.out]; simp
    clear HV
    cases u with
    | true => go_wp2; go_ret; exact ⟨congrArg (fun b => Ending.returned (Value.bool b)) HF.out.symm, L2.out⟩
    | false => go_wp2; go_ret; exact ⟨congrArg (fun b => Ending.returned (Value.bool b)) HF.out.symm, L2.out⟩
  | some y =>
    replace CS : Hid (∀ W, Sr W W.heap.size (some ⟨b0, o0, none⟩) n l → Calls Tryz.prog 59 #[.agg #[.string s, .slice (some ⟨b0, o0, none⟩) n c], .string nm] W fun e w' => e = .returned (.tuple #[.string y, .bool true]) ∧ Below W.heap.size W w') := CS
    go_enter Tryz.func13, Tryz.ntmps13
    go_wp2_with fail
    refine (CS.out _ S0.out).mono ?_
    rintro e w1 ⟨rfl, hl⟩
    have X1 := Lib.hid (X0.out.below hl)
    have L1 := Lib.hid (L0.out.trans (hl.mono L0.out.size))
    clear hl CS S0 L0 X0 x0 x1
    obtain ⟨x0, x1⟩ := X1.out
    go_wp2
    have HF : Hid (v = false) := by show _ = _; rw [HV.out]; simp
    go_ret
    exact ⟨congrArg (fun b => Ending.returned (Value.bool b)) HF.out.symm, L1.out⟩

end Go.Proofs.YtmkcjjgicinggaaGreatDoor.InZoneI

/- What Exists does in the program (a range over the zone's records): it tells whether a record's name is the name or under it. Condition: fewer than 400000001 records, no name of more than 400000000 bytes. -/
namespace Go.Proofs.YtmkcjjgicinggaaGreatDoor.ExistsI
open Go.RowKit Go.Proofs.YtmkcjjgicinggaaGreatDoor.Mem Go.Proofs.YtmkcjjgicinggaaGreatDoor.MemR Go.Proofs.YtmkcjjgicinggaaGreatDoor.SetMath Go.Proofs.YtmkcjjgicinggaaGreatDoor.NameMath Go.Proofs.YtmkcjjgicinggaaGreatDoor.ZoneMath Go.Proofs.YtmkcjjgicinggaaGreatDoor.MemZ

set_option maxHeartbeats 4000000 in
theorem impl (s nm : ByteArray) (b0 o0 n c : Nat) (l : List Rec) (w : World) (hs : Sr w w.heap.size (some ⟨b0, o0, none⟩) n l) (hn : n ≤ 400000000) (hm : nm.size ≤ 400000000) (hz : ∀ r ∈ l, r.name.size ≤ 400000000) :
    Calls Tryz.prog 219 #[.agg #[.string s, .slice (some ⟨b0, o0, none⟩) n c], .string nm] w fun e w' => e = .returned (.bool (ex nm l)) ∧ Below w.heap.size w w' := by
  have L0 := Lib.hid ((Below.refl w.heap.size w).alloc (Nat.le_refl _) (.cells #[.string s, .slice (some ⟨b0, o0, none⟩) n c] 37))
  have HS := Lib.hid hs
  have HZ := Lib.hid hz
  clear hs hz
  go_enter Tryz.func219, Tryz.ntmps219
  go_wp2
  generalize w.alloc (.cells #[.string s, .slice (some ⟨b0, o0, none⟩) n c] 37) = w0 at *
  go_loopw [10] (fun i wr => ∃ k : Nat, k ≤ n ∧ i = .int .i64 k ∧ Hid (ex nm (l.take k) = false) ∧ Hid (Below w.heap.size w wr)) (fun i _ => n - (intOf i).toNat)
  case atStart => exact ⟨0, Nat.zero_le _, rfl, rfl, L0.out⟩
  case round =>
    clear L0
    obtain ⟨k, hk, rfl, HE, HL⟩ := hrel
    by_cases hlt : k < n
    · obtain ⟨b, off, hA, hbB, hcs⟩ := HS.out.2 (by omega)
      obtain ⟨rfl, rfl⟩ : b0 = b ∧ o0 = off := by simp at hA; exact hA
      clear hA
      have hkl : k < l.length := by rw [HS.out.1]; exact hlt
      obtain ⟨e0, e1, e2, e3, e4, e5⟩ := (hcs k hkl).below HL.out hbB
      clear hcs
      have HT := Lib.hid (ex_take nm l k hkl)
      have HH := Lib.hid (ex_hit nm l k hkl)
      have HM := Lib.hid (HZ.out _ (List.getElem_mem hkl))
      generalize l[k] = r at *
      have W1 : Hid (Below w.heap.size w (wr.alloc (.cells #[.string r.name, .int .i64 r.ty, .int .i64 r.ttl, .int .i64 r.n, .string r.host, .string r.text] 93))) := HL.out.alloc HL.out.size _
      have US := Lib.hid (fun W => UnderImpl.impl r.name nm W HM.out hm)
      generalize Un r.name nm = u at *
      go_wp2_with fail
      refine (US.out _).mono ?_
      rintro e w1 ⟨rfl, rfl⟩
      clear US e0 e1 e2 e3 e4 e5
      cases u with
      | true =>
        have HF := Lib.hid (HH.out rfl)
        clear HH HT
        go_wp2
        go_ret
        exact ⟨congrArg (fun b => Ending.returned (Value.bool b)) HF.out.symm, W1.out⟩
      | false =>
        have HN := Lib.hid (HT.out.trans (by rw [HE.out, Bool.or_false]))
        clear HH HT
        go_wp2
        go_roundw
        case rel => exact ⟨k + 1, by omega, by go_num, HN.out, W1.out⟩
        case measure => simp [intOf]; omega
    · obtain rfl : n = k := by omega
      have HF : Hid (ex nm l = false) := by rw [take_all HS.out.1] at HE; exact HE
      go_wp2
      go_ret
      exact ⟨congrArg (fun b => Ending.returned (Value.bool b)) HF.out.symm, HL.out⟩

end Go.Proofs.YtmkcjjgicinggaaGreatDoor.ExistsI

/- What KindIn does in the program: the kind of a question's reply, by a map of the records' sets. Condition: fewer than 100000001 records, no name of more than 400000000 bytes. -/
namespace Go.Proofs.YtmkcjjgicinggaaGreatDoor.KindI
open Go.RowKit Go.Proofs.YtmkcjjgicinggaaGreatDoor.Mem Go.Proofs.YtmkcjjgicinggaaGreatDoor.MemR Go.Proofs.YtmkcjjgicinggaaGreatDoor.SetMath Go.Proofs.YtmkcjjgicinggaaGreatDoor.NameMath Go.Proofs.YtmkcjjgicinggaaGreatDoor.ZoneMath Go.Proofs.YtmkcjjgicinggaaGreatDoor.ServeMath Go.Proofs.YtmkcjjgicinggaaGreatDoor.MemZ Go.Proofs.YtmkcjjgicinggaaGreatDoor.MemM Go.Proofs.YtmkcjjgicinggaaGreatDoor.MemQ Go.Proofs.YtmkcjjgicinggaaGreatDoor.MapK Go.Proofs.YtmkcjjgicinggaaGreatDoor.MapE Go.Proofs.YtmkcjjgicinggaaGreatDoor.GrpM Go.Proofs.YtmkcjjgicinggaaGreatDoor.SetI Go.Proofs.YtmkcjjgicinggaaGreatDoor.KindS Go.Proofs.YtmkcjjgicinggaaGreatDoor.CutOfS

/-- What is found in a map of sets: a slice with as many records as the key has. -/
theorem look {w1 W : World} {base b : Nat} {l : List Rec} (h : Gr w1 base b l) (hl : Below w1.heap.size w1 W) (y : ByteArray) (t : Int) :
    ∃ (A : Option Addr) (m cap : Nat), (Instr.lookup 96 (.map (some b)) (.agg #[.string y, .int .i64 t]) false).run Tryz.prog W = .ok (.slice A m cap) W ∧ (sf y t l).length = m := by
  obtain ⟨es, hm, hq, ho, hd⟩ := h
  have M1 := hm.below hl hm.lt
  have KT := KeyT.quests
  have HS' := ev_key es
  have HND := ev_nodup (es := es) (by rw [hq]; exact nodup_uq _)
  have HX : KeyT.KQ (qv ⟨y, t⟩) := ⟨⟨y, t⟩, rfl⟩
  by_cases hin : (⟨y, t⟩ : Key) ∈ uq (kl l)
  · obtain ⟨j, e, hj, hk'⟩ : ∃ (j : Nat) (e : Ge), es[j]? = some e ∧ e.q = ⟨y, t⟩ := by
      rw [← hq] at hin
      obtain ⟨e, he, hq⟩ := List.mem_map.1 hin
      obtain ⟨j, hj⟩ := List.getElem?_of_mem he
      exact ⟨j, e, hj, hq⟩
    refine ⟨some ⟨e.g, 0, none⟩, e.m, e.cap, M1.in KT Tryz.underlying96 HS' HND HX (show (qv ⟨y, t⟩, sv e) ∈ ev es from by rw [← hk']; exact List.mem_of_getElem? (ev_at hj)) false, ?_⟩
    have := own_m (ho j e hj)
    rw [hk'] at this
    exact this
  · refine ⟨none, 0, 0, M1.out KT Tryz.underlying96 (zero _) HS' HX (ev_out (by rw [hq]; exact hin)) false, ?_⟩
    have := sq_none (q := ⟨y, t⟩) (l := l) (fun h => hin (mem_uq.2 h))
    show (sq ⟨y, t⟩ l).length = 0
    rw [this]
    rfl

/-- 'm[k]' at an operation that its guard lets be. -/
theorem wp_look_g {P : Program} {w : World} {t : TypeId} {b : Nat} {ops : Array Oper} {rest : List Oper} {o : Oper} {a : Act} {Q : Exit → Act → World → Prop}
    (hg : Region.wanted o (yielded ops a.tmps) = true) (m x : Operand) (ok : Bool) (hop : o.op = Op.lookup t m x ok) (key r : Value) (hm : a.eval m = .map (some b)) (hx : a.eval x = key)
    (hrun : (Instr.lookup t (.map (some b)) key ok).run P w = .ok r w) (hK : wpList P ops Q rest (a.put o.dst r) w) : wpList P ops Q (o :: rest) a w := by
  refine wpList_step fun K' hK' => ?_
  rw [if_pos hg]
  unfold Oper.wp
  simp [execOp, hop, hm, hx, hrun, Result.andThen]
  exact hK' _ _ hK

set_option maxRecDepth 100000 in
set_option maxHeartbeats 8000000 in
theorem impl (s nm : ByteArray) (ty : Int) (b0 o0 n c : Nat) (l : List Rec) (w : World) (hs : Sr w w.heap.size (some ⟨b0, o0, none⟩) n l) (hn : n ≤ 100000000) (hm : s.size ≤ 400000000) (hq : nm.size ≤ 400000000) (hz : ∀ r ∈ l, r.name.size ≤ 400000000) :
    Calls Tryz.prog 176 #[.agg #[.string s, .slice (some ⟨b0, o0, none⟩) n c], .agg #[.string nm, .int .i64 ty]] w fun e w' => e = .returned (.int .i64 (kd s nm ty l)) ∧ Below w.heap.size w w' := by
  obtain ⟨⟨hx, hy⟩, hl0⟩ := two w s nm ty (.slice (some ⟨b0, o0, none⟩) n c) 37 29
  have X0 := Lib.hid hx
  have Y0 := Lib.hid hy
  have L0 := Lib.hid hl0
  have S0 := Lib.hid (hs.on hl0)
  have SE := Lib.hid (fun W hW => SetI.sets b0 o0 n c l W hW (by omega))
  have CS := Lib.hid (fun W hW => InZoneI.impl s nm b0 o0 n c l W hW (by omega) hm hq hz)
  have US := Lib.hid (fun W => UnderImpl.impl nm s W hq hm)
  have ES := Lib.hid (fun W hW => ExistsI.impl s nm b0 o0 n c l W hW (by omega) hq hz)
  have K0 := Lib.hid (@kd0 s nm ty l)
  have K1 := Lib.hid (@kd1 s nm ty l)
  have K2 := Lib.hid (@kd2 s nm ty l)
  have K3 := Lib.hid (@kd3 s nm ty l)
  have K4 := Lib.hid (@kd4 s nm ty l)
  have K5 := Lib.hid (@kd5 s nm ty l)
  clear hs hz hx hy hl0
  have HV : Hid (iz s nm l = (Un nm s && !(co nm (uq (cn s l))).isSome)) := rfl
  generalize kd s nm ty l = k at *
  obtain ⟨o, ho⟩ : ∃ o, co nm (uq (cn s l)) = o := ⟨_, rfl⟩
  rw [ho] at HV K1 K2 K3 K4 K5
  clear ho
  generalize iz s nm l = z at *
  generalize Un nm s = u at *
  generalize ex nm l = x at *
  obtain ⟨x0, x1⟩ := X0.out
  obtain ⟨y0, y1⟩ := Y0.out
  go_enter Tryz.func176, Tryz.ntmps176
  go_wp2_with fail
  refine (SE.out _ S0.out).mono ?_
  rintro e w1 ⟨bm, rfl, hbm, hgr, hl⟩
  have LK := Lib.hid (fun W (hW : Below w1.heap.size w1 W) => look hgr hW)
  have X1 := Lib.hid (X0.out.below hl)
  have Y1 := Lib.hid (Y0.out.below hl)
  have S1 := Lib.hid (S0.out.on hl)
  have L1 := Lib.hid (L0.out.trans (hl.mono L0.out.size))
  clear hl hgr hbm SE X0 Y0 S0 L0 x0 x1 y0 y1
  obtain ⟨x0, x1⟩ := X1.out
  obtain ⟨y0, y1⟩ := Y1.out
  go_wp2_with fail
  refine (US.out _).mono ?_
  rintro e w1 ⟨rfl, rfl⟩
  clear US
  cases u with
  | false =>
    have HF := Lib.hid (K0.out (by trivial))
    go_wp2
    go_ret
    exact ⟨congrArg (fun b => Ending.returned (Value.int .i64 b)) HF.out.symm, L1.out⟩
  | true =>
  go_wp2_with fail
  refine (CS.out _ S1.out).mono ?_
  rintro e w2 ⟨rfl, hl⟩
  have X2 := Lib.hid (X1.out.below hl)
  have Y2 := Lib.hid (Y1.out.below hl)
  have S2 := Lib.hid (S1.out.on hl)
  have L2 := Lib.hid (L1.out.trans (hl.mono L1.out.size))
  have LT := Lib.hid (LK.out _ hl nm ty)
  have LA := Lib.hid (LK.out _ hl nm 5)
  clear hl CS LK X1 Y1 S1 L1 x0 x1 y0 y1
  cases z with
  | false =>
    have HF := Lib.hid (K1.out (by trivial) (by have := HV.out; cases o with
      | none => simp at this
      | some y => rfl))
    go_wp2
    go_ret
    exact ⟨congrArg (fun b => Ending.returned (Value.int .i64 b)) HF.out.symm, L2.out⟩
  | true =>
  have HO : Hid (o = none) := by
    have := HV.out
    cases o with
    | none => rfl
    | some y => simp at this
  obtain ⟨A5, m5, c5, h5, e5⟩ := LA.out
  obtain ⟨At, mt, ct, ht, et⟩ := LT.out
  have H5 := Lib.hid h5
  have HT := Lib.hid ht
  have E5 := Lib.hid e5
  have ET := Lib.hid et
  clear h5 ht e5 et LA LT HV
  obtain ⟨x0, x1⟩ := X2.out
  obtain ⟨y0, y1⟩ := Y2.out
  by_cases hty : ty = 5
  · have t5 : (ty != 5) = false := by simp [hty]
    have HA : Hid (ty = 5 ∨ (sf nm 5 l).length = 0) := Or.inl hty
    clear hty
    by_cases h4 : (0 : Int) < (mt : Int)
    · have HF := Lib.hid (K3.out (by trivial) HO.out HA.out (by have := ET.out; omega))
      go_wp2_with (at_lookup; refine wp_look rfl _ _ false rfl (.agg #[.string nm, .int .i64 ty]) (.slice At mt ct) rfl rfl HT.out ?_)
      go_ret
      exact ⟨congrArg (fun b => Ending.returned (Value.int .i64 b)) HF.out.symm, L2.out⟩
    · have K4' := Lib.hid (K4.out (by trivial) HO.out HA.out (by have := ET.out; omega))
      have K5' := Lib.hid (K5.out (by trivial) HO.out HA.out (by have := ET.out; omega))
      go_wp2_with (at_lookup; refine wp_look rfl _ _ false rfl (.agg #[.string nm, .int .i64 ty]) (.slice At mt ct) rfl rfl HT.out ?_)
      refine (ES.out _ S2.out).mono ?_
      rintro e w5 ⟨rfl, hl⟩
      have L5 := Lib.hid (L2.out.trans (hl.mono L2.out.size))
      clear hl
      cases x with
      | true => go_wp2; go_ret; exact ⟨congrArg (fun b => Ending.returned (Value.int .i64 b)) (K4'.out (by trivial)).symm, L5.out⟩
      | false => go_wp2; go_ret; exact ⟨congrArg (fun b => Ending.returned (Value.int .i64 b)) (K5'.out (by trivial)).symm, L5.out⟩
  · have t5 : (ty != 5) = true := by simp [hty]
    have HTY := Lib.hid hty
    clear hty
    by_cases h3 : (0 : Int) < (m5 : Int)
    · have HF := Lib.hid (K2.out (by trivial) HO.out HTY.out (by have := E5.out; omega))
      go_wp2_with (at_lookup; refine wp_look_g rfl _ _ false rfl (.agg #[.string nm, .int .i64 5]) (.slice A5 m5 c5) rfl rfl H5.out ?_)
      go_ret
      exact ⟨congrArg (fun b => Ending.returned (Value.int .i64 b)) HF.out.symm, L2.out⟩
    · have HA : Hid (ty = 5 ∨ (sf nm 5 l).length = 0) := Or.inr (by have := E5.out; omega)
      by_cases h4 : (0 : Int) < (mt : Int)
      · have HF := Lib.hid (K3.out (by trivial) HO.out HA.out (by have := ET.out; omega))
        go_wp2_with (first | (at_lookup; refine wp_look rfl _ _ false rfl (.agg #[.string nm, .int .i64 ty]) (.slice At mt ct) rfl rfl HT.out ?_) | (at_lookup; refine wp_look_g rfl _ _ false rfl (.agg #[.string nm, .int .i64 5]) (.slice A5 m5 c5) rfl rfl H5.out ?_))
        go_ret
        exact ⟨congrArg (fun b => Ending.returned (Value.int .i64 b)) HF.out.symm, L2.out⟩
      · have K4' := Lib.hid (K4.out (by trivial) HO.out HA.out (by have := ET.out; omega))
        have K5' := Lib.hid (K5.out (by trivial) HO.out HA.out (by have := ET.out; omega))
        go_wp2_with (first | (at_lookup; refine wp_look rfl _ _ false rfl (.agg #[.string nm, .int .i64 ty]) (.slice At mt ct) rfl rfl HT.out ?_) | (at_lookup; refine wp_look_g rfl _ _ false rfl (.agg #[.string nm, .int .i64 5]) (.slice A5 m5 c5) rfl rfl H5.out ?_))
        refine (ES.out _ S2.out).mono ?_
        rintro e w5 ⟨rfl, hl⟩
        have L5 := Lib.hid (L2.out.trans (hl.mono L2.out.size))
        clear hl
        cases x with
        | true => go_wp2; go_ret; exact ⟨congrArg (fun b => Ending.returned (Value.int .i64 b)) (K4'.out (by trivial)).symm, L5.out⟩
        | false => go_wp2; go_ret; exact ⟨congrArg (fun b => Ending.returned (Value.int .i64 b)) (K5'.out (by trivial)).symm, L5.out⟩

end Go.Proofs.YtmkcjjgicinggaaGreatDoor.KindI

/- What contentOf does in the program: the content of the reply of a question's kind, by a function value out of an array (a drawn region that fills the result's box). Condition: at most 1048576 records, no name of more than 400000000 bytes. -/
namespace Go.Proofs.YtmkcjjgicinggaaGreatDoor.ContI
open Go.RowKit Go.Proofs.YtmkcjjgicinggaaGreatDoor.Mem Go.Proofs.YtmkcjjgicinggaaGreatDoor.MemR Go.Proofs.YtmkcjjgicinggaaGreatDoor.SetMath Go.Proofs.YtmkcjjgicinggaaGreatDoor.NameMath Go.Proofs.YtmkcjjgicinggaaGreatDoor.ZoneMath Go.Proofs.YtmkcjjgicinggaaGreatDoor.ServeMath Go.Proofs.YtmkcjjgicinggaaGreatDoor.MemZ Go.Proofs.YtmkcjjgicinggaaGreatDoor.MemM Go.Proofs.YtmkcjjgicinggaaGreatDoor.KindS Go.Proofs.YtmkcjjgicinggaaGreatDoor.ResC Go.Proofs.YtmkcjjgicinggaaGreatDoor.ConI Go.Proofs.YtmkcjjgicinggaaGreatDoor.RefI

section
variable {w0 w w1 w' : World} {g h k a i : Nat} {s nm : ByteArray} {ty : Int} {x v : Value}

theorem keptK (m : (((w.cell? ⟨g, 0, none⟩ = some (.string s) ∧ w.cell? ⟨g, 1, none⟩ = some x) ∧ (w.cell? ⟨h, 0, none⟩ = some (.string nm) ∧ w.cell? ⟨h, 1, none⟩ = some (.int .i64 ty)) ∧ w.cell? ⟨a, i, none⟩ = some v) ∧ RC w k) ∧ Svz w0 w) (hl : Below w.heap.size w w') : (((w'.cell? ⟨g, 0, none⟩ = some (.string s) ∧ w'.cell? ⟨g, 1, none⟩ = some x) ∧ (w'.cell? ⟨h, 0, none⟩ = some (.string nm) ∧ w'.cell? ⟨h, 1, none⟩ = some (.int .i64 ty)) ∧ w'.cell? ⟨a, i, none⟩ = some v) ∧ RC w' k) ∧ Svz w0 w' :=
  ⟨⟨⟨Zx.below m.1.1.1 hl, Qx.below m.1.1.2.1 hl, (hl.cell (p := ⟨a, i, none⟩) (World.block_lt_of_cell? _ _ m.1.1.2.2)).trans m.1.1.2.2⟩, m.1.2.below hl⟩, m.2.trans (hl.mono m.2.size)⟩

theorem keptK_draw (m : (((w.cell? ⟨g, 0, none⟩ = some (.string s) ∧ w.cell? ⟨g, 1, none⟩ = some x) ∧ (w.cell? ⟨h, 0, none⟩ = some (.string nm) ∧ w.cell? ⟨h, 1, none⟩ = some (.int .i64 ty)) ∧ w.cell? ⟨a, i, none⟩ = some v) ∧ RC w k) ∧ Svz w0 w) : (((w.drew.cell? ⟨g, 0, none⟩ = some (.string s) ∧ w.drew.cell? ⟨g, 1, none⟩ = some x) ∧ (w.drew.cell? ⟨h, 0, none⟩ = some (.string nm) ∧ w.drew.cell? ⟨h, 1, none⟩ = some (.int .i64 ty)) ∧ w.drew.cell? ⟨a, i, none⟩ = some v) ∧ RC w.drew k) ∧ Svz w0 w.drew := keptK m ((Below.refl _ _).drew)

theorem keptK_put (m : (((w.cell? ⟨g, 0, none⟩ = some (.string s) ∧ w.cell? ⟨g, 1, none⟩ = some x) ∧ (w.cell? ⟨h, 0, none⟩ = some (.string nm) ∧ w.cell? ⟨h, 1, none⟩ = some (.int .i64 ty)) ∧ w.cell? ⟨a, i, none⟩ = some v) ∧ RC w k) ∧ Svz w0 w) (h1 : g ≠ k) (h2 : h ≠ k) (h4 : a ≠ k) (h3 : w0.heap.size ≤ k) (j : Nat) (u : Value) : ((((w.setCell ⟨k, j, none⟩ u).cell? ⟨g, 0, none⟩ = some (.string s) ∧ (w.setCell ⟨k, j, none⟩ u).cell? ⟨g, 1, none⟩ = some x) ∧ ((w.setCell ⟨k, j, none⟩ u).cell? ⟨h, 0, none⟩ = some (.string nm) ∧ (w.setCell ⟨k, j, none⟩ u).cell? ⟨h, 1, none⟩ = some (.int .i64 ty)) ∧ (w.setCell ⟨k, j, none⟩ u).cell? ⟨a, i, none⟩ = some v) ∧ RC (w.setCell ⟨k, j, none⟩ u) k) ∧ Svz w0 (w.setCell ⟨k, j, none⟩ u) := by
  have e : ∀ b c : Nat, b ≠ k → (w.setCell ⟨k, j, none⟩ u).cell? ⟨b, c, none⟩ = w.cell? ⟨b, c, none⟩ := fun b c hb => World.cell?_of_block (Below.heap_setCell w ⟨k, j, none⟩ u b hb)
  exact ⟨⟨⟨⟨(e g 0 h1).trans m.1.1.1.1, (e g 1 h1).trans m.1.1.1.2⟩, ⟨(e h 0 h2).trans m.1.1.2.1.1, (e h 1 h2).trans m.1.1.2.1.2⟩, (e a i h4).trans m.1.1.2.2⟩, m.1.2.put j u⟩, Below.setCell m.2 (p := ⟨k, j, none⟩) h3 u⟩

theorem keptK_fil (m : (((w1.cell? ⟨g, 0, none⟩ = some (.string s) ∧ w1.cell? ⟨g, 1, none⟩ = some x) ∧ (w1.cell? ⟨h, 0, none⟩ = some (.string nm) ∧ w1.cell? ⟨h, 1, none⟩ = some (.int .i64 ty)) ∧ w1.cell? ⟨a, i, none⟩ = some v) ∧ RC w1 k) ∧ Svz w0 w1) (h1 : g ≠ k) (h2 : h ≠ k) (h4 : a ≠ k) (h3 : w0.heap.size ≤ k) (v0 v1 v2 v3 v4 : Value) : ((((((((w1.setCell ⟨k, 0, none⟩ v0).setCell ⟨k, 1, none⟩ v1).setCell ⟨k, 2, none⟩ v2).setCell ⟨k, 3, none⟩ v3).setCell ⟨k, 4, none⟩ v4).cell? ⟨g, 0, none⟩ = some (.string s) ∧ (((((w1.setCell ⟨k, 0, none⟩ v0).setCell ⟨k, 1, none⟩ v1).setCell ⟨k, 2, none⟩ v2).setCell ⟨k, 3, none⟩ v3).setCell ⟨k, 4, none⟩ v4).cell? ⟨g, 1, none⟩ = some x) ∧ ((((((w1.setCell ⟨k, 0, none⟩ v0).setCell ⟨k, 1, none⟩ v1).setCell ⟨k, 2, none⟩ v2).setCell ⟨k, 3, none⟩ v3).setCell ⟨k, 4, none⟩ v4).cell? ⟨h, 0, none⟩ = some (.string nm) ∧ (((((w1.setCell ⟨k, 0, none⟩ v0).setCell ⟨k, 1, none⟩ v1).setCell ⟨k, 2, none⟩ v2).setCell ⟨k, 3, none⟩ v3).setCell ⟨k, 4, none⟩ v4).cell? ⟨h, 1, none⟩ = some (.int .i64 ty)) ∧ (((((w1.setCell ⟨k, 0, none⟩ v0).setCell ⟨k, 1, none⟩ v1).setCell ⟨k, 2, none⟩ v2).setCell ⟨k, 3, none⟩ v3).setCell ⟨k, 4, none⟩ v4).cell? ⟨a, i, none⟩ = some v) ∧ RC (((((w1.setCell ⟨k, 0, none⟩ v0).setCell ⟨k, 1, none⟩ v1).setCell ⟨k, 2, none⟩ v2).setCell ⟨k, 3, none⟩ v3).setCell ⟨k, 4, none⟩ v4) k) ∧ Svz w0 (((((w1.setCell ⟨k, 0, none⟩ v0).setCell ⟨k, 1, none⟩ v1).setCell ⟨k, 2, none⟩ v2).setCell ⟨k, 3, none⟩ v3).setCell ⟨k, 4, none⟩ v4) :=
  keptK_put (keptK_put (keptK_put (keptK_put (keptK_put m h1 h2 h4 h3 0 v0) h1 h2 h4 h3 1 v1) h1 h2 h4 h3 2 v2) h1 h2 h4 h3 3 v3) h1 h2 h4 h3 4 v4
end

/-- The content of a reply of the kind k. -/
def GivesQ (w : World) (k : Int) (s nm : ByteArray) (ty : Int) (l : List Rec) (e : Ending) (w' : World) : Prop := GivesK w (rcd k) (aut k) (anl k nm ty l) (mol k s nm l) (hel k s nm l) e w'

theorem cases (w : World) (s nm : ByteArray) (ty : Int) (l : List Rec) (e : Ending) (w' : World) (k : Int) :
    (k = 0 → GivesK w 5 false [] [] [] e w' → GivesQ w k s nm ty l e w') ∧ (k = 1 → GivesK w 0 false [] (sf (cu s nm l) 2 l) (gl (uq (hl (sf (cu s nm l) 2 l))) l) e w' → GivesQ w k s nm ty l e w') ∧ (k = 2 → GivesK w 0 true (sf nm 5 l) [] [] e w' → GivesQ w k s nm ty l e w') ∧ (k = 3 → GivesK w 0 true (sf nm ty l) [] [] e w' → GivesQ w k s nm ty l e w') ∧ (k = 4 → GivesK w 0 true [] [st l] [] e w' → GivesQ w k s nm ty l e w') ∧ (k = 5 → GivesK w 3 true [] [st l] [] e w' → GivesQ w k s nm ty l e w') := by
  refine ⟨fun h x => ?_, fun h x => ?_, fun h x => ?_, fun h x => ?_, fun h x => ?_, fun h x => ?_⟩ <;> subst h <;> exact x

set_option maxRecDepth 100000 in
set_option maxHeartbeats 16000000 in
theorem impl (s nm : ByteArray) (ty : Int) (b0 o0 n c : Nat) (l : List Rec) (w : World) (hs : Sr w w.heap.size (some ⟨b0, o0, none⟩) n l) (hn : n ≤ 1048576) (hm : s.size ≤ 400000000) (hq : nm.size ≤ 400000000) (hz : ∀ r ∈ l, r.name.size ≤ 400000000) :
    Calls Tryz.prog 121 #[.agg #[.string s, .slice (some ⟨b0, o0, none⟩) n c], .agg #[.string nm, .int .i64 ty]] w (GivesQ w (kd s nm ty l) s nm ty l) := by
  obtain ⟨⟨hx, hy⟩, hb0, hl0⟩ := three w s nm ty (.slice (some ⟨b0, o0, none⟩) n c) 37 29 148 0 false
  have al : Below (((w.alloc (.cells #[.string s, .slice (some ⟨b0, o0, none⟩) n c] 37)).alloc (.cells #[.string nm, .int .i64 ty] 29)).alloc (.cells #[.int .i64 0, .bool false, .slice none 0 0, .slice none 0 0, .slice none 0 0] 148)).heap.size (((w.alloc (.cells #[.string s, .slice (some ⟨b0, o0, none⟩) n c] 37)).alloc (.cells #[.string nm, .int .i64 ty] 29)).alloc (.cells #[.int .i64 0, .bool false, .slice none 0 0, .slice none 0 0, .slice none 0 0] 148)) ((((w.alloc (.cells #[.string s, .slice (some ⟨b0, o0, none⟩) n c] 37)).alloc (.cells #[.string nm, .int .i64 ty] 29)).alloc (.cells #[.int .i64 0, .bool false, .slice none 0 0, .slice none 0 0, .slice none 0 0] 148)).alloc (.cells #[.func (.func 170) #[] #[], .func (.func 171) #[] #[], .func (.func 172) #[] #[], .func (.func 173) #[] #[], .func (.func 174) #[] #[], .func (.func 175) #[] #[]] 195)) := (Below.refl _ _).alloc (Nat.le_refl _) _
  have X0 := Lib.hid (hx.below al)
  have Y0 := Lib.hid (hy.below al)
  have R0 := Lib.hid (hb0.below al hb0.lt)
  have L0 := Lib.hid (hl0.trans (al.mono hl0.size))
  have N0 : Hid (Bk ((((w.alloc (.cells #[.string s, .slice (some ⟨b0, o0, none⟩) n c] 37)).alloc (.cells #[.string nm, .int .i64 ty] 29)).alloc (.cells #[.int .i64 0, .bool false, .slice none 0 0, .slice none 0 0, .slice none 0 0] 148)).alloc (.cells #[.func (.func 170) #[] #[], .func (.func 171) #[] #[], .func (.func 172) #[] #[], .func (.func 173) #[] #[], .func (.func 174) #[] #[], .func (.func 175) #[] #[]] 195)) (w.heap.size + 1 + 1 + 1) 195 [.func (.func 170) #[] #[], .func (.func 171) #[] #[], .func (.func 172) #[] #[], .func (.func 173) #[] #[], .func (.func 174) #[] #[], .func (.func 175) #[] #[]]) := by
    have := heap_alloc_new (((w.alloc (.cells #[.string s, .slice (some ⟨b0, o0, none⟩) n c] 37)).alloc (.cells #[.string nm, .int .i64 ty] 29)).alloc (.cells #[.int .i64 0, .bool false, .slice none 0 0, .slice none 0 0, .slice none 0 0] 148)) (.cells #[.func (.func 170) #[] #[], .func (.func 171) #[] #[], .func (.func 172) #[] #[], .func (.func 173) #[] #[], .func (.func 174) #[] #[], .func (.func 175) #[] #[]] 195)
    rw [show (((w.alloc (.cells #[.string s, .slice (some ⟨b0, o0, none⟩) n c] 37)).alloc (.cells #[.string nm, .int .i64 ty] 29)).alloc (.cells #[.int .i64 0, .bool false, .slice none 0 0, .slice none 0 0, .slice none 0 0] 148)).heap.size = w.heap.size + 1 + 1 + 1 by simp] at this
    exact this
  have HS := Lib.hid hs
  clear hx hy hb0 hl0 al hs
  have KI := Lib.hid (fun W hW => KindI.impl s nm ty b0 o0 n c l W hW (by omega) hm hq hz)
  have G0 := Lib.hid (fun (W : World) (hW : True ∧ Svz w W) => ConI.refusal s nm ty b0 o0 n c W)
  have G1 := Lib.hid (fun (W : World) (hW : True ∧ Svz w W) => RefI.referral s nm ty b0 o0 n c l W (HS.out.on hW.2) hn hm hq hz)
  have G2 := Lib.hid (fun (W : World) (hW : True ∧ Svz w W) => ConI.aliasReply s nm ty b0 o0 n c l W (HS.out.on hW.2) hn)
  have G3 := Lib.hid (fun (W : World) (hW : True ∧ Svz w W) => ConI.setReply s nm ty b0 o0 n c l W (HS.out.on hW.2) hn)
  have G4 := Lib.hid (fun (W : World) (hW : True ∧ Svz w W) => ConI.noDataReply s nm ty b0 o0 n c l W (HS.out.on hW.2) hn hm hz)
  have G5 := Lib.hid (fun (W : World) (hW : True ∧ Svz w W) => ConI.noNameReply s nm ty b0 o0 n c l W (HS.out.on hW.2) hn hm hz)
  clear hz
  have K6 := kd_six s nm ty l
  have KE := Lib.hid (fun (W W' : World) (e : Ending) => cases W s nm ty l e W' (kd s nm ty l))
  generalize kd s nm ty l = k at *
  have n1 : w.heap.size ≠ w.heap.size + 1 + 1 := by omega
  have n2 : w.heap.size + 1 ≠ w.heap.size + 1 + 1 := by omega
  have n4 : w.heap.size + 1 + 1 + 1 ≠ w.heap.size + 1 + 1 := by omega
  have n3 : w.heap.size ≤ w.heap.size + 1 + 1 := by omega
  go_enter Tryz.func121, Tryz.ntmps121
  go_wp2
  generalize (((w.alloc (.cells #[.string s, .slice (some ⟨b0, o0, none⟩) n c] 37)).alloc (.cells #[.string nm, .int .i64 ty] 29)).alloc (.cells #[.int .i64 0, .bool false, .slice none 0 0, .slice none 0 0, .slice none 0 0] 148)).alloc (.cells #[.func (.func 170) #[] #[], .func (.func 171) #[] #[], .func (.func 172) #[] #[], .func (.func 173) #[] #[], .func (.func 174) #[] #[], .func (.func 175) #[] #[]] 195) = W0 at *
  rcases K6 with hk | hk | hk | hk | hk | hk
  · have KJ : Hid (∀ (e : Ending) (w' : World), GivesK w 5 false [] [] [] e w' → GivesQ w k s nm ty l e w') := fun e w' => (KE.out _ _ _).1 hk
    subst hk
    have KIR : Hid (∀ W : World, (((W.cell? ⟨w.heap.size, 0, none⟩ = some (.string s) ∧ W.cell? ⟨w.heap.size, 1, none⟩ = some (.slice (some ⟨b0, o0, none⟩) n c)) ∧ (W.cell? ⟨w.heap.size + 1, 0, none⟩ = some (.string nm) ∧ W.cell? ⟨w.heap.size + 1, 1, none⟩ = some (.int .i64 ty)) ∧ W.cell? ⟨w.heap.size + 1 + 1 + 1, 0, none⟩ = some (.func (.func 170) #[] #[])) ∧ RC W (w.heap.size + 1 + 1)) ∧ Svz w W → Calls Tryz.prog 176 #[.agg #[.string s, .slice (some ⟨b0, o0, none⟩) n c], .agg #[.string nm, .int .i64 ty]] W fun e w' => e = .returned (.int .i64 0) ∧ Below W.heap.size W w') := fun W hW => KI.out W (HS.out.on hW.2)
    have GR : Hid (∀ W : World, (((W.cell? ⟨w.heap.size, 0, none⟩ = some (.string s) ∧ W.cell? ⟨w.heap.size, 1, none⟩ = some (.slice (some ⟨b0, o0, none⟩) n c)) ∧ (W.cell? ⟨w.heap.size + 1, 0, none⟩ = some (.string nm) ∧ W.cell? ⟨w.heap.size + 1, 1, none⟩ = some (.int .i64 ty)) ∧ W.cell? ⟨w.heap.size + 1 + 1 + 1, 0, none⟩ = some (.func (.func 170) #[] #[])) ∧ RC W (w.heap.size + 1 + 1)) ∧ Svz w W → Calls Tryz.prog 170 #[.agg #[.string s, .slice (some ⟨b0, o0, none⟩) n c], .agg #[.string nm, .int .i64 ty]] W (GivesK W 5 false [] [] [])) := fun W hW => G0.out W ⟨trivial, hW.2⟩
    have SS0 : (((W0.cell? ⟨w.heap.size, 0, none⟩ = some (.string s) ∧ W0.cell? ⟨w.heap.size, 1, none⟩ = some (.slice (some ⟨b0, o0, none⟩) n c)) ∧ (W0.cell? ⟨w.heap.size + 1, 0, none⟩ = some (.string nm) ∧ W0.cell? ⟨w.heap.size + 1, 1, none⟩ = some (.int .i64 ty)) ∧ W0.cell? ⟨w.heap.size + 1 + 1 + 1, 0, none⟩ = some (.func (.func 170) #[] #[])) ∧ RC W0 (w.heap.size + 1 + 1)) ∧ Svz w W0 := ⟨⟨⟨X0.out, Y0.out, N0.out.cell 0⟩, ⟨_, rfl, R0.out⟩⟩, L0.out⟩
    clear X0 Y0 N0 KI G0 G1 G2 G3 G4 G5 KE
    go_region_held3 (fun w' => (((w'.cell? ⟨w.heap.size, 0, none⟩ = some (.string s) ∧ w'.cell? ⟨w.heap.size, 1, none⟩ = some (.slice (some ⟨b0, o0, none⟩) n c)) ∧ (w'.cell? ⟨w.heap.size + 1, 0, none⟩ = some (.string nm) ∧ w'.cell? ⟨w.heap.size + 1, 1, none⟩ = some (.int .i64 ty)) ∧ w'.cell? ⟨w.heap.size + 1 + 1 + 1, 0, none⟩ = some (.func (.func 170) #[] #[])) ∧ RC w' (w.heap.size + 1 + 1)) ∧ Svz w w')
      (first | with_reducible exact keptK_fil (w1 := w4) (by assumption) n1 n2 n4 n3 _ _ _ _ _ | with_reducible exact SS0 | with_reducible assumption | with_reducible exact keptK (by assumption) hl | with_reducible exact keptK_draw (by assumption) | fail)
      (first
        | (go_at_call 176; (with_reducible refine (KIR.out _ (by assumption)).mono ?_); rintro e w2 ⟨rfl, hl⟩; have y1 := hl)
        | (go_at_call 170; (with_reducible refine (GR.out _ (by assumption)).mono ?_); rintro e w4 ⟨A1, m1, c1, A2, m2, c2, A3, m3, c3, rfl, q1, q2, q3, hl⟩; have y2 := hl; have HR := (keptK (by assumption) hl).1.2; have p0 := HR.cell 0 (by decide); have f0 := HR.free 0; have p1 := HR.cell 1 (by decide); have f1 := HR.free 1; have p2 := HR.cell 2 (by decide); have f2 := HR.free 2; have p3 := HR.cell 3 (by decide); have f3 := HR.free 3; have p4 := HR.cell 4 (by decide); have f4 := HR.free 4; clear HR)
        | fail)
    rename_i hH
    have a0 : Below w.heap.size w W0.drew := L0.out.drew
    have a1 := a0.trans (y1.mono a0.size)
    have a2 := a1.trans (y2.mono a1.size)
    have RA : RC w4 (w.heap.size + 1 + 1) := by
      have b0 : RC W0.drew (w.heap.size + 1 + 1) := ⟨_, rfl, R0.out⟩
      exact (b0.below y1).below y2
    have G4 : w.heap.size + 1 + 1 < w2.heap.size := Nat.lt_of_lt_of_le (show w.heap.size + 1 + 1 < W0.drew.heap.size from R0.out.lt) y1.size
    have F := Lib.hid (RA.fil 5 false (.slice A1 m1 c1) (.slice A2 m2 c2) (.slice A3 m3 c3))
    have E := Lib.hid (filC_below a2 (g := w.heap.size + 1 + 1) (by omega) 5 false (.slice A1 m1 c1) (.slice A2 m2 c2) (.slice A3 m3 c3))
    have Q1 := Lib.hid ((q1.fil G4 5 false (.slice A1 m1 c1) (.slice A2 m2 c2) (.slice A3 m3 c3)).low (show w.heap.size ≤ w2.heap.size by omega))
    have Q2 := Lib.hid ((q2.fil G4 5 false (.slice A1 m1 c1) (.slice A2 m2 c2) (.slice A3 m3 c3)).low (show w.heap.size ≤ w2.heap.size by omega))
    have Q3 := Lib.hid ((q3.fil G4 5 false (.slice A1 m1 c1) (.slice A2 m2 c2) (.slice A3 m3 c3)).low (show w.heap.size ≤ w2.heap.size by omega))
    clear hH SS0 KIR GR a0 a1 a2 RA R0 L0 y1 y2 hl G4 q1 q2 q3 p0 f0 p1 f1 p2 f2 p3 f3 p4 f4
    go_wp2
    exact bodyPost_ret (v := .agg #[.int .i64 5, .bool false, .slice A1 m1 c1, .slice A2 m2 c2, .slice A3 m3 c3]) (res1C rfl F.out rfl) rfl (KJ.out _ _ ⟨_, _, _, _, _, _, _, _, _, rfl, Q1.out, Q2.out, Q3.out, E.out⟩)
  · have KJ : Hid (∀ (e : Ending) (w' : World), GivesK w 0 false [] (sf (cu s nm l) 2 l) (gl (uq (hl (sf (cu s nm l) 2 l))) l) e w' → GivesQ w k s nm ty l e w') := fun e w' => (KE.out _ _ _).2.1 hk
    subst hk
    have KIR : Hid (∀ W : World, (((W.cell? ⟨w.heap.size, 0, none⟩ = some (.string s) ∧ W.cell? ⟨w.heap.size, 1, none⟩ = some (.slice (some ⟨b0, o0, none⟩) n c)) ∧ (W.cell? ⟨w.heap.size + 1, 0, none⟩ = some (.string nm) ∧ W.cell? ⟨w.heap.size + 1, 1, none⟩ = some (.int .i64 ty)) ∧ W.cell? ⟨w.heap.size + 1 + 1 + 1, 1, none⟩ = some (.func (.func 171) #[] #[])) ∧ RC W (w.heap.size + 1 + 1)) ∧ Svz w W → Calls Tryz.prog 176 #[.agg #[.string s, .slice (some ⟨b0, o0, none⟩) n c], .agg #[.string nm, .int .i64 ty]] W fun e w' => e = .returned (.int .i64 1) ∧ Below W.heap.size W w') := fun W hW => KI.out W (HS.out.on hW.2)
    have GR : Hid (∀ W : World, (((W.cell? ⟨w.heap.size, 0, none⟩ = some (.string s) ∧ W.cell? ⟨w.heap.size, 1, none⟩ = some (.slice (some ⟨b0, o0, none⟩) n c)) ∧ (W.cell? ⟨w.heap.size + 1, 0, none⟩ = some (.string nm) ∧ W.cell? ⟨w.heap.size + 1, 1, none⟩ = some (.int .i64 ty)) ∧ W.cell? ⟨w.heap.size + 1 + 1 + 1, 1, none⟩ = some (.func (.func 171) #[] #[])) ∧ RC W (w.heap.size + 1 + 1)) ∧ Svz w W → Calls Tryz.prog 171 #[.agg #[.string s, .slice (some ⟨b0, o0, none⟩) n c], .agg #[.string nm, .int .i64 ty]] W (GivesK W 0 false [] (sf (cu s nm l) 2 l) (gl (uq (hl (sf (cu s nm l) 2 l))) l))) := fun W hW => G1.out W ⟨trivial, hW.2⟩
    have SS0 : (((W0.cell? ⟨w.heap.size, 0, none⟩ = some (.string s) ∧ W0.cell? ⟨w.heap.size, 1, none⟩ = some (.slice (some ⟨b0, o0, none⟩) n c)) ∧ (W0.cell? ⟨w.heap.size + 1, 0, none⟩ = some (.string nm) ∧ W0.cell? ⟨w.heap.size + 1, 1, none⟩ = some (.int .i64 ty)) ∧ W0.cell? ⟨w.heap.size + 1 + 1 + 1, 1, none⟩ = some (.func (.func 171) #[] #[])) ∧ RC W0 (w.heap.size + 1 + 1)) ∧ Svz w W0 := ⟨⟨⟨X0.out, Y0.out, N0.out.cell 1⟩, ⟨_, rfl, R0.out⟩⟩, L0.out⟩
    clear X0 Y0 N0 KI G0 G1 G2 G3 G4 G5 KE
    go_region_held3 (fun w' => (((w'.cell? ⟨w.heap.size, 0, none⟩ = some (.string s) ∧ w'.cell? ⟨w.heap.size, 1, none⟩ = some (.slice (some ⟨b0, o0, none⟩) n c)) ∧ (w'.cell? ⟨w.heap.size + 1, 0, none⟩ = some (.string nm) ∧ w'.cell? ⟨w.heap.size + 1, 1, none⟩ = some (.int .i64 ty)) ∧ w'.cell? ⟨w.heap.size + 1 + 1 + 1, 1, none⟩ = some (.func (.func 171) #[] #[])) ∧ RC w' (w.heap.size + 1 + 1)) ∧ Svz w w')
      (first | with_reducible exact keptK_fil (w1 := w4) (by assumption) n1 n2 n4 n3 _ _ _ _ _ | with_reducible exact SS0 | with_reducible assumption | with_reducible exact keptK (by assumption) hl | with_reducible exact keptK_draw (by assumption) | fail)
      (first
        | (go_at_call 176; (with_reducible refine (KIR.out _ (by assumption)).mono ?_); rintro e w2 ⟨rfl, hl⟩; have y1 := hl)
        | (go_at_call 171; (with_reducible refine (GR.out _ (by assumption)).mono ?_); rintro e w4 ⟨A1, m1, c1, A2, m2, c2, A3, m3, c3, rfl, q1, q2, q3, hl⟩; have y2 := hl; have HR := (keptK (by assumption) hl).1.2; have p0 := HR.cell 0 (by decide); have f0 := HR.free 0; have p1 := HR.cell 1 (by decide); have f1 := HR.free 1; have p2 := HR.cell 2 (by decide); have f2 := HR.free 2; have p3 := HR.cell 3 (by decide); have f3 := HR.free 3; have p4 := HR.cell 4 (by decide); have f4 := HR.free 4; clear HR)
        | fail)
    rename_i hH
    have a0 : Below w.heap.size w W0.drew := L0.out.drew
    have a1 := a0.trans (y1.mono a0.size)
    have a2 := a1.trans (y2.mono a1.size)
    have RA : RC w4 (w.heap.size + 1 + 1) := by
      have b0 : RC W0.drew (w.heap.size + 1 + 1) := ⟨_, rfl, R0.out⟩
      exact (b0.below y1).below y2
    have G4 : w.heap.size + 1 + 1 < w2.heap.size := Nat.lt_of_lt_of_le (show w.heap.size + 1 + 1 < W0.drew.heap.size from R0.out.lt) y1.size
    have F := Lib.hid (RA.fil 0 false (.slice A1 m1 c1) (.slice A2 m2 c2) (.slice A3 m3 c3))
    have E := Lib.hid (filC_below a2 (g := w.heap.size + 1 + 1) (by omega) 0 false (.slice A1 m1 c1) (.slice A2 m2 c2) (.slice A3 m3 c3))
    have Q1 := Lib.hid ((q1.fil G4 0 false (.slice A1 m1 c1) (.slice A2 m2 c2) (.slice A3 m3 c3)).low (show w.heap.size ≤ w2.heap.size by omega))
    have Q2 := Lib.hid ((q2.fil G4 0 false (.slice A1 m1 c1) (.slice A2 m2 c2) (.slice A3 m3 c3)).low (show w.heap.size ≤ w2.heap.size by omega))
    have Q3 := Lib.hid ((q3.fil G4 0 false (.slice A1 m1 c1) (.slice A2 m2 c2) (.slice A3 m3 c3)).low (show w.heap.size ≤ w2.heap.size by omega))
    clear hH SS0 KIR GR a0 a1 a2 RA R0 L0 y1 y2 hl G4 q1 q2 q3 p0 f0 p1 f1 p2 f2 p3 f3 p4 f4
    go_wp2
    exact bodyPost_ret (v := .agg #[.int .i64 0, .bool false, .slice A1 m1 c1, .slice A2 m2 c2, .slice A3 m3 c3]) (res1C rfl F.out rfl) rfl (KJ.out _ _ ⟨_, _, _, _, _, _, _, _, _, rfl, Q1.out, Q2.out, Q3.out, E.out⟩)
  · have KJ : Hid (∀ (e : Ending) (w' : World), GivesK w 0 true (sf nm 5 l) [] [] e w' → GivesQ w k s nm ty l e w') := fun e w' => (KE.out _ _ _).2.2.1 hk
    subst hk
    have KIR : Hid (∀ W : World, (((W.cell? ⟨w.heap.size, 0, none⟩ = some (.string s) ∧ W.cell? ⟨w.heap.size, 1, none⟩ = some (.slice (some ⟨b0, o0, none⟩) n c)) ∧ (W.cell? ⟨w.heap.size + 1, 0, none⟩ = some (.string nm) ∧ W.cell? ⟨w.heap.size + 1, 1, none⟩ = some (.int .i64 ty)) ∧ W.cell? ⟨w.heap.size + 1 + 1 + 1, 2, none⟩ = some (.func (.func 172) #[] #[])) ∧ RC W (w.heap.size + 1 + 1)) ∧ Svz w W → Calls Tryz.prog 176 #[.agg #[.string s, .slice (some ⟨b0, o0, none⟩) n c], .agg #[.string nm, .int .i64 ty]] W fun e w' => e = .returned (.int .i64 2) ∧ Below W.heap.size W w') := fun W hW => KI.out W (HS.out.on hW.2)
    have GR : Hid (∀ W : World, (((W.cell? ⟨w.heap.size, 0, none⟩ = some (.string s) ∧ W.cell? ⟨w.heap.size, 1, none⟩ = some (.slice (some ⟨b0, o0, none⟩) n c)) ∧ (W.cell? ⟨w.heap.size + 1, 0, none⟩ = some (.string nm) ∧ W.cell? ⟨w.heap.size + 1, 1, none⟩ = some (.int .i64 ty)) ∧ W.cell? ⟨w.heap.size + 1 + 1 + 1, 2, none⟩ = some (.func (.func 172) #[] #[])) ∧ RC W (w.heap.size + 1 + 1)) ∧ Svz w W → Calls Tryz.prog 172 #[.agg #[.string s, .slice (some ⟨b0, o0, none⟩) n c], .agg #[.string nm, .int .i64 ty]] W (GivesK W 0 true (sf nm 5 l) [] [])) := fun W hW => G2.out W ⟨trivial, hW.2⟩
    have SS0 : (((W0.cell? ⟨w.heap.size, 0, none⟩ = some (.string s) ∧ W0.cell? ⟨w.heap.size, 1, none⟩ = some (.slice (some ⟨b0, o0, none⟩) n c)) ∧ (W0.cell? ⟨w.heap.size + 1, 0, none⟩ = some (.string nm) ∧ W0.cell? ⟨w.heap.size + 1, 1, none⟩ = some (.int .i64 ty)) ∧ W0.cell? ⟨w.heap.size + 1 + 1 + 1, 2, none⟩ = some (.func (.func 172) #[] #[])) ∧ RC W0 (w.heap.size + 1 + 1)) ∧ Svz w W0 := ⟨⟨⟨X0.out, Y0.out, N0.out.cell 2⟩, ⟨_, rfl, R0.out⟩⟩, L0.out⟩
    clear X0 Y0 N0 KI G0 G1 G2 G3 G4 G5 KE
    go_region_held3 (fun w' => (((w'.cell? ⟨w.heap.size, 0, none⟩ = some (.string s) ∧ w'.cell? ⟨w.heap.size, 1, none⟩ = some (.slice (some ⟨b0, o0, none⟩) n c)) ∧ (w'.cell? ⟨w.heap.size + 1, 0, none⟩ = some (.string nm) ∧ w'.cell? ⟨w.heap.size + 1, 1, none⟩ = some (.int .i64 ty)) ∧ w'.cell? ⟨w.heap.size + 1 + 1 + 1, 2, none⟩ = some (.func (.func 172) #[] #[])) ∧ RC w' (w.heap.size + 1 + 1)) ∧ Svz w w')
      (first | with_reducible exact keptK_fil (w1 := w4) (by assumption) n1 n2 n4 n3 _ _ _ _ _ | with_reducible exact SS0 | with_reducible assumption | with_reducible exact keptK (by assumption) hl | with_reducible exact keptK_draw (by assumption) | fail)
      (first
        | (go_at_call 176; (with_reducible refine (KIR.out _ (by assumption)).mono ?_); rintro e w2 ⟨rfl, hl⟩; have y1 := hl)
        | (go_at_call 172; (with_reducible refine (GR.out _ (by assumption)).mono ?_); rintro e w4 ⟨A1, m1, c1, A2, m2, c2, A3, m3, c3, rfl, q1, q2, q3, hl⟩; have y2 := hl; have HR := (keptK (by assumption) hl).1.2; have p0 := HR.cell 0 (by decide); have f0 := HR.free 0; have p1 := HR.cell 1 (by decide); have f1 := HR.free 1; have p2 := HR.cell 2 (by decide); have f2 := HR.free 2; have p3 := HR.cell 3 (by decide); have f3 := HR.free 3; have p4 := HR.cell 4 (by decide); have f4 := HR.free 4; clear HR)
        | fail)
    rename_i hH
    have a0 : Below w.heap.size w W0.drew := L0.out.drew
    have a1 := a0.trans (y1.mono a0.size)
    have a2 := a1.trans (y2.mono a1.size)
    have RA : RC w4 (w.heap.size + 1 + 1) := by
      have b0 : RC W0.drew (w.heap.size + 1 + 1) := ⟨_, rfl, R0.out⟩
      exact (b0.below y1).below y2
    have G4 : w.heap.size + 1 + 1 < w2.heap.size := Nat.lt_of_lt_of_le (show w.heap.size + 1 + 1 < W0.drew.heap.size from R0.out.lt) y1.size
    have F := Lib.hid (RA.fil 0 true (.slice A1 m1 c1) (.slice A2 m2 c2) (.slice A3 m3 c3))
    have E := Lib.hid (filC_below a2 (g := w.heap.size + 1 + 1) (by omega) 0 true (.slice A1 m1 c1) (.slice A2 m2 c2) (.slice A3 m3 c3))
    have Q1 := Lib.hid ((q1.fil G4 0 true (.slice A1 m1 c1) (.slice A2 m2 c2) (.slice A3 m3 c3)).low (show w.heap.size ≤ w2.heap.size by omega))
    have Q2 := Lib.hid ((q2.fil G4 0 true (.slice A1 m1 c1) (.slice A2 m2 c2) (.slice A3 m3 c3)).low (show w.heap.size ≤ w2.heap.size by omega))
    have Q3 := Lib.hid ((q3.fil G4 0 true (.slice A1 m1 c1) (.slice A2 m2 c2) (.slice A3 m3 c3)).low (show w.heap.size ≤ w2.heap.size by omega))
    clear hH SS0 KIR GR a0 a1 a2 RA R0 L0 y1 y2 hl G4 q1 q2 q3 p0 f0 p1 f1 p2 f2 p3 f3 p4 f4
    go_wp2
    exact bodyPost_ret (v := .agg #[.int .i64 0, .bool true, .slice A1 m1 c1, .slice A2 m2 c2, .slice A3 m3 c3]) (res1C rfl F.out rfl) rfl (KJ.out _ _ ⟨_, _, _, _, _, _, _, _, _, rfl, Q1.out, Q2.out, Q3.out, E.out⟩)
  · have KJ : Hid (∀ (e : Ending) (w' : World), GivesK w 0 true (sf nm ty l) [] [] e w' → GivesQ w k s nm ty l e w') := fun e w' => (KE.out _ _ _).2.2.2.1 hk
    subst hk
    have KIR : Hid (∀ W : World, (((W.cell? ⟨w.heap.size, 0, none⟩ = some (.string s) ∧ W.cell? ⟨w.heap.size, 1, none⟩ = some (.slice (some ⟨b0, o0, none⟩) n c)) ∧ (W.cell? ⟨w.heap.size + 1, 0, none⟩ = some (.string nm) ∧ W.cell? ⟨w.heap.size + 1, 1, none⟩ = some (.int .i64 ty)) ∧ W.cell? ⟨w.heap.size + 1 + 1 + 1, 3, none⟩ = some (.func (.func 173) #[] #[])) ∧ RC W (w.heap.size + 1 + 1)) ∧ Svz w W → Calls Tryz.prog 176 #[.agg #[.string s, .slice (some ⟨b0, o0, none⟩) n c], .agg #[.string nm, .int .i64 ty]] W fun e w' => e = .returned (.int .i64 3) ∧ Below W.heap.size W w') := fun W hW => KI.out W (HS.out.on hW.2)
    have GR : Hid (∀ W : World, (((W.cell? ⟨w.heap.size, 0, none⟩ = some (.string s) ∧ W.cell? ⟨w.heap.size, 1, none⟩ = some (.slice (some ⟨b0, o0, none⟩) n c)) ∧ (W.cell? ⟨w.heap.size + 1, 0, none⟩ = some (.string nm) ∧ W.cell? ⟨w.heap.size + 1, 1, none⟩ = some (.int .i64 ty)) ∧ W.cell? ⟨w.heap.size + 1 + 1 + 1, 3, none⟩ = some (.func (.func 173) #[] #[])) ∧ RC W (w.heap.size + 1 + 1)) ∧ Svz w W → Calls Tryz.prog 173 #[.agg #[.string s, .slice (some ⟨b0, o0, none⟩) n c], .agg #[.string nm, .int .i64 ty]] W (GivesK W 0 true (sf nm ty l) [] [])) := fun W hW => G3.out W ⟨trivial, hW.2⟩
    have SS0 : (((W0.cell? ⟨w.heap.size, 0, none⟩ = some (.string s) ∧ W0.cell? ⟨w.heap.size, 1, none⟩ = some (.slice (some ⟨b0, o0, none⟩) n c)) ∧ (W0.cell? ⟨w.heap.size + 1, 0, none⟩ = some (.string nm) ∧ W0.cell? ⟨w.heap.size + 1, 1, none⟩ = some (.int .i64 ty)) ∧ W0.cell? ⟨w.heap.size + 1 + 1 + 1, 3, none⟩ = some (.func (.func 173) #[] #[])) ∧ RC W0 (w.heap.size + 1 + 1)) ∧ Svz w W0 := ⟨⟨⟨X0.out, Y0.out, N0.out.cell 3⟩, ⟨_, rfl, R0.out⟩⟩, L0.out⟩
    clear X0 Y0 N0 KI G0 G1 G2 G3 G4 G5 KE
    go_region_held3 (fun w' => (((w'.cell? ⟨w.heap.size, 0, none⟩ = some (.string s) ∧ w'.cell? ⟨w.heap.size, 1, none⟩ = some (.slice (some ⟨b0, o0, none⟩) n c)) ∧ (w'.cell? ⟨w.heap.size + 1, 0, none⟩ = some (.string nm) ∧ w'.cell? ⟨w.heap.size + 1, 1, none⟩ = some (.int .i64 ty)) ∧ w'.cell? ⟨w.heap.size + 1 + 1 + 1, 3, none⟩ = some (.func (.func 173) #[] #[])) ∧ RC w' (w.heap.size + 1 + 1)) ∧ Svz w w')
      (first | with_reducible exact keptK_fil (w1 := w4) (by assumption) n1 n2 n4 n3 _ _ _ _ _ | with_reducible exact SS0 | with_reducible assumption | with_reducible exact keptK (by assumption) hl | with_reducible exact keptK_draw (by assumption) | fail)
      (first
        | (go_at_call 176; (with_reducible refine (KIR.out _ (by assumption)).mono ?_); rintro e w2 ⟨rfl, hl⟩; have y1 := hl)
        | (go_at_call 173; (with_reducible refine (GR.out _ (by assumption)).mono ?_); rintro e w4 ⟨A1, m1, c1, A2, m2, c2, A3, m3, c3, rfl, q1, q2, q3, hl⟩; have y2 := hl; have HR := (keptK (by assumption) hl).1.2; have p0 := HR.cell 0 (by decide); have f0 := HR.free 0; have p1 := HR.cell 1 (by decide); have f1 := HR.free 1; have p2 := HR.cell 2 (by decide); have f2 := HR.free 2; have p3 := HR.cell 3 (by decide); have f3 := HR.free 3; have p4 := HR.cell 4 (by decide); have f4 := HR.free 4; clear HR)
        | fail)
    rename_i hH
    have a0 : Below w.heap.size w W0.drew := L0.out.drew
    have a1 := a0.trans (y1.mono a0.size)
    have a2 := a1.trans (y2.mono a1.size)
    have RA : RC w4 (w.heap.size + 1 + 1) := by
      have b0 : RC W0.drew (w.heap.size + 1 + 1) := ⟨_, rfl, R0.out⟩
      exact (b0.below y1).below y2
    have G4 : w.heap.size + 1 + 1 < w2.heap.size := Nat.lt_of_lt_of_le (show w.heap.size + 1 + 1 < W0.drew.heap.size from R0.out.lt) y1.size
    have F := Lib.hid (RA.fil 0 true (.slice A1 m1 c1) (.slice A2 m2 c2) (.slice A3 m3 c3))
    have E := Lib.hid (filC_below a2 (g := w.heap.size + 1 + 1) (by omega) 0 true (.slice A1 m1 c1) (.slice A2 m2 c2) (.slice A3 m3 c3))
    have Q1 := Lib.hid ((q1.fil G4 0 true (.slice A1 m1 c1) (.slice A2 m2 c2) (.slice A3 m3 c3)).low (show w.heap.size ≤ w2.heap.size by omega))
    have Q2 := Lib.hid ((q2.fil G4 0 true (.slice A1 m1 c1) (.slice A2 m2 c2) (.slice A3 m3 c3)).low (show w.heap.size ≤ w2.heap.size by omega))
    have Q3 := Lib.hid ((q3.fil G4 0 true (.slice A1 m1 c1) (.slice A2 m2 c2) (.slice A3 m3 c3)).low (show w.heap.size ≤ w2.heap.size by omega))
    clear hH SS0 KIR GR a0 a1 a2 RA R0 L0 y1 y2 hl G4 q1 q2 q3 p0 f0 p1 f1 p2 f2 p3 f3 p4 f4
    go_wp2
    exact bodyPost_ret (v := .agg #[.int .i64 0, .bool true, .slice A1 m1 c1, .slice A2 m2 c2, .slice A3 m3 c3]) (res1C rfl F.out rfl) rfl (KJ.out _ _ ⟨_, _, _, _, _, _, _, _, _, rfl, Q1.out, Q2.out, Q3.out, E.out⟩)
  · have KJ : Hid (∀ (e : Ending) (w' : World), GivesK w 0 true [] [st l] [] e w' → GivesQ w k s nm ty l e w') := fun e w' => (KE.out _ _ _).2.2.2.2.1 hk
    subst hk
    have KIR : Hid (∀ W : World, (((W.cell? ⟨w.heap.size, 0, none⟩ = some (.string s) ∧ W.cell? ⟨w.heap.size, 1, none⟩ = some (.slice (some ⟨b0, o0, none⟩) n c)) ∧ (W.cell? ⟨w.heap.size + 1, 0, none⟩ = some (.string nm) ∧ W.cell? ⟨w.heap.size + 1, 1, none⟩ = some (.int .i64 ty)) ∧ W.cell? ⟨w.heap.size + 1 + 1 + 1, 4, none⟩ = some (.func (.func 174) #[] #[])) ∧ RC W (w.heap.size + 1 + 1)) ∧ Svz w W → Calls Tryz.prog 176 #[.agg #[.string s, .slice (some ⟨b0, o0, none⟩) n c], .agg #[.string nm, .int .i64 ty]] W fun e w' => e = .returned (.int .i64 4) ∧ Below W.heap.size W w') := fun W hW => KI.out W (HS.out.on hW.2)
    have GR : Hid (∀ W : World, (((W.cell? ⟨w.heap.size, 0, none⟩ = some (.string s) ∧ W.cell? ⟨w.heap.size, 1, none⟩ = some (.slice (some ⟨b0, o0, none⟩) n c)) ∧ (W.cell? ⟨w.heap.size + 1, 0, none⟩ = some (.string nm) ∧ W.cell? ⟨w.heap.size + 1, 1, none⟩ = some (.int .i64 ty)) ∧ W.cell? ⟨w.heap.size + 1 + 1 + 1, 4, none⟩ = some (.func (.func 174) #[] #[])) ∧ RC W (w.heap.size + 1 + 1)) ∧ Svz w W → Calls Tryz.prog 174 #[.agg #[.string s, .slice (some ⟨b0, o0, none⟩) n c], .agg #[.string nm, .int .i64 ty]] W (GivesK W 0 true [] [st l] [])) := fun W hW => G4.out W ⟨trivial, hW.2⟩
    have SS0 : (((W0.cell? ⟨w.heap.size, 0, none⟩ = some (.string s) ∧ W0.cell? ⟨w.heap.size, 1, none⟩ = some (.slice (some ⟨b0, o0, none⟩) n c)) ∧ (W0.cell? ⟨w.heap.size + 1, 0, none⟩ = some (.string nm) ∧ W0.cell? ⟨w.heap.size + 1, 1, none⟩ = some (.int .i64 ty)) ∧ W0.cell? ⟨w.heap.size + 1 + 1 + 1, 4, none⟩ = some (.func (.func 174) #[] #[])) ∧ RC W0 (w.heap.size + 1 + 1)) ∧ Svz w W0 := ⟨⟨⟨X0.out, Y0.out, N0.out.cell 4⟩, ⟨_, rfl, R0.out⟩⟩, L0.out⟩
    clear X0 Y0 N0 KI G0 G1 G2 G3 G4 G5 KE
    go_region_held3 (fun w' => (((w'.cell? ⟨w.heap.size, 0, none⟩ = some (.string s) ∧ w'.cell? ⟨w.heap.size, 1, none⟩ = some (.slice (some ⟨b0, o0, none⟩) n c)) ∧ (w'.cell? ⟨w.heap.size + 1, 0, none⟩ = some (.string nm) ∧ w'.cell? ⟨w.heap.size + 1, 1, none⟩ = some (.int .i64 ty)) ∧ w'.cell? ⟨w.heap.size + 1 + 1 + 1, 4, none⟩ = some (.func (.func 174) #[] #[])) ∧ RC w' (w.heap.size + 1 + 1)) ∧ Svz w w')
      (first | with_reducible exact keptK_fil (w1 := w4) (by assumption) n1 n2 n4 n3 _ _ _ _ _ | with_reducible exact SS0 | with_reducible assumption | with_reducible exact keptK (by assumption) hl | with_reducible exact keptK_draw (by assumption) | fail)
      (first
        | (go_at_call 176; (with_reducible refine (KIR.out _ (by assumption)).mono ?_); rintro e w2 ⟨rfl, hl⟩; have y1 := hl)
        | (go_at_call 174; (with_reducible refine (GR.out _ (by assumption)).mono ?_); rintro e w4 ⟨A1, m1, c1, A2, m2, c2, A3, m3, c3, rfl, q1, q2, q3, hl⟩; have y2 := hl; have HR := (keptK (by assumption) hl).1.2; have p0 := HR.cell 0 (by decide); have f0 := HR.free 0; have p1 := HR.cell 1 (by decide); have f1 := HR.free 1; have p2 := HR.cell 2 (by decide); have f2 := HR.free 2; have p3 := HR.cell 3 (by decide); have f3 := HR.free 3; have p4 := HR.cell 4 (by decide); have f4 := HR.free 4; clear HR)
        | fail)
    rename_i hH
    have a0 : Below w.heap.size w W0.drew := L0.out.drew
    have a1 := a0.trans (y1.mono a0.size)
    have a2 := a1.trans (y2.mono a1.size)
    have RA : RC w4 (w.heap.size + 1 + 1) := by
      have b0 : RC W0.drew (w.heap.size + 1 + 1) := ⟨_, rfl, R0.out⟩
      exact (b0.below y1).below y2
    have G4 : w.heap.size + 1 + 1 < w2.heap.size := Nat.lt_of_lt_of_le (show w.heap.size + 1 + 1 < W0.drew.heap.size from R0.out.lt) y1.size
    have F := Lib.hid (RA.fil 0 true (.slice A1 m1 c1) (.slice A2 m2 c2) (.slice A3 m3 c3))
    have E := Lib.hid (filC_below a2 (g := w.heap.size + 1 + 1) (by omega) 0 true (.slice A1 m1 c1) (.slice A2 m2 c2) (.slice A3 m3 c3))
    have Q1 := Lib.hid ((q1.fil G4 0 true (.slice A1 m1 c1) (.slice A2 m2 c2) (.slice A3 m3 c3)).low (show w.heap.size ≤ w2.heap.size by omega))
    have Q2 := Lib.hid ((q2.fil G4 0 true (.slice A1 m1 c1) (.slice A2 m2 c2) (.slice A3 m3 c3)).low (show w.heap.size ≤ w2.heap.size by omega))
    have Q3 := Lib.hid ((q3.fil G4 0 true (.slice A1 m1 c1) (.slice A2 m2 c2) (.slice A3 m3 c3)).low (show w.heap.size ≤ w2.heap.size by omega))
    clear hH SS0 KIR GR a0 a1 a2 RA R0 L0 y1 y2 hl G4 q1 q2 q3 p0 f0 p1 f1 p2 f2 p3 f3 p4 f4
    go_wp2
    exact bodyPost_ret (v := .agg #[.int .i64 0, .bool true, .slice A1 m1 c1, .slice A2 m2 c2, .slice A3 m3 c3]) (res1C rfl F.out rfl) rfl (KJ.out _ _ ⟨_, _, _, _, _, _, _, _, _, rfl, Q1.out, Q2.out, Q3.out, E.out⟩)
  · have KJ : Hid (∀ (e : Ending) (w' : World), GivesK w 3 true [] [st l] [] e w' → GivesQ w k s nm ty l e w') := fun e w' => (KE.out _ _ _).2.2.2.2.2 hk
    subst hk
    have KIR : Hid (∀ W : World, (((W.cell? ⟨w.heap.size, 0, none⟩ = some (.string s) ∧ W.cell? ⟨w.heap.size, 1, none⟩ = some (.slice (some ⟨b0, o0, none⟩) n c)) ∧ (W.cell? ⟨w.heap.size + 1, 0, none⟩ = some (.string nm) ∧ W.cell? ⟨w.heap.size + 1, 1, none⟩ = some (.int .i64 ty)) ∧ W.cell? ⟨w.heap.size + 1 + 1 + 1, 5, none⟩ = some (.func (.func 175) #[] #[])) ∧ RC W (w.heap.size + 1 + 1)) ∧ Svz w W → Calls Tryz.prog 176 #[.agg #[.string s, .slice (some ⟨b0, o0, none⟩) n c], .agg #[.string nm, .int .i64 ty]] W fun e w' => e = .returned (.int .i64 5) ∧ Below W.heap.size W w') := fun W hW => KI.out W (HS.out.on hW.2)
    have GR : Hid (∀ W : World, (((W.cell? ⟨w.heap.size, 0, none⟩ = some (.string s) ∧ W.cell? ⟨w.heap.size, 1, none⟩ = some (.slice (some ⟨b0, o0, none⟩) n c)) ∧ (W.cell? ⟨w.heap.size + 1, 0, none⟩ = some (.string nm) ∧ W.cell? ⟨w.heap.size + 1, 1, none⟩ = some (.int .i64 ty)) ∧ W.cell? ⟨w.heap.size + 1 + 1 + 1, 5, none⟩ = some (.func (.func 175) #[] #[])) ∧ RC W (w.heap.size + 1 + 1)) ∧ Svz w W → Calls Tryz.prog 175 #[.agg #[.string s, .slice (some ⟨b0, o0, none⟩) n c], .agg #[.string nm, .int .i64 ty]] W (GivesK W 3 true [] [st l] [])) := fun W hW => G5.out W ⟨trivial, hW.2⟩
    have SS0 : (((W0.cell? ⟨w.heap.size, 0, none⟩ = some (.string s) ∧ W0.cell? ⟨w.heap.size, 1, none⟩ = some (.slice (some ⟨b0, o0, none⟩) n c)) ∧ (W0.cell? ⟨w.heap.size + 1, 0, none⟩ = some (.string nm) ∧ W0.cell? ⟨w.heap.size + 1, 1, none⟩ = some (.int .i64 ty)) ∧ W0.cell? ⟨w.heap.size + 1 + 1 + 1, 5, none⟩ = some (.func (.func 175) #[] #[])) ∧ RC W0 (w.heap.size + 1 + 1)) ∧ Svz w W0 := ⟨⟨⟨X0.out, Y0.out, N0.out.cell 5⟩, ⟨_, rfl, R0.out⟩⟩, L0.out⟩
    clear X0 Y0 N0 KI G0 G1 G2 G3 G4 G5 KE
    go_region_held3 (fun w' => (((w'.cell? ⟨w.heap.size, 0, none⟩ = some (.string s) ∧ w'.cell? ⟨w.heap.size, 1, none⟩ = some (.slice (some ⟨b0, o0, none⟩) n c)) ∧ (w'.cell? ⟨w.heap.size + 1, 0, none⟩ = some (.string nm) ∧ w'.cell? ⟨w.heap.size + 1, 1, none⟩ = some (.int .i64 ty)) ∧ w'.cell? ⟨w.heap.size + 1 + 1 + 1, 5, none⟩ = some (.func (.func 175) #[] #[])) ∧ RC w' (w.heap.size + 1 + 1)) ∧ Svz w w')
      (first | with_reducible exact keptK_fil (w1 := w4) (by assumption) n1 n2 n4 n3 _ _ _ _ _ | with_reducible exact SS0 | with_reducible assumption | with_reducible exact keptK (by assumption) hl | with_reducible exact keptK_draw (by assumption) | fail)
      (first
        | (go_at_call 176; (with_reducible refine (KIR.out _ (by assumption)).mono ?_); rintro e w2 ⟨rfl, hl⟩; have y1 := hl)
        | (go_at_call 175; (with_reducible refine (GR.out _ (by assumption)).mono ?_); rintro e w4 ⟨A1, m1, c1, A2, m2, c2, A3, m3, c3, rfl, q1, q2, q3, hl⟩; have y2 := hl; have HR := (keptK (by assumption) hl).1.2; have p0 := HR.cell 0 (by decide); have f0 := HR.free 0; have p1 := HR.cell 1 (by decide); have f1 := HR.free 1; have p2 := HR.cell 2 (by decide); have f2 := HR.free 2; have p3 := HR.cell 3 (by decide); have f3 := HR.free 3; have p4 := HR.cell 4 (by decide); have f4 := HR.free 4; clear HR)
        | fail)
    rename_i hH
    have a0 : Below w.heap.size w W0.drew := L0.out.drew
    have a1 := a0.trans (y1.mono a0.size)
    have a2 := a1.trans (y2.mono a1.size)
    have RA : RC w4 (w.heap.size + 1 + 1) := by
      have b0 : RC W0.drew (w.heap.size + 1 + 1) := ⟨_, rfl, R0.out⟩
      exact (b0.below y1).below y2
    have G4 : w.heap.size + 1 + 1 < w2.heap.size := Nat.lt_of_lt_of_le (show w.heap.size + 1 + 1 < W0.drew.heap.size from R0.out.lt) y1.size
    have F := Lib.hid (RA.fil 3 true (.slice A1 m1 c1) (.slice A2 m2 c2) (.slice A3 m3 c3))
    have E := Lib.hid (filC_below a2 (g := w.heap.size + 1 + 1) (by omega) 3 true (.slice A1 m1 c1) (.slice A2 m2 c2) (.slice A3 m3 c3))
    have Q1 := Lib.hid ((q1.fil G4 3 true (.slice A1 m1 c1) (.slice A2 m2 c2) (.slice A3 m3 c3)).low (show w.heap.size ≤ w2.heap.size by omega))
    have Q2 := Lib.hid ((q2.fil G4 3 true (.slice A1 m1 c1) (.slice A2 m2 c2) (.slice A3 m3 c3)).low (show w.heap.size ≤ w2.heap.size by omega))
    have Q3 := Lib.hid ((q3.fil G4 3 true (.slice A1 m1 c1) (.slice A2 m2 c2) (.slice A3 m3 c3)).low (show w.heap.size ≤ w2.heap.size by omega))
    clear hH SS0 KIR GR a0 a1 a2 RA R0 L0 y1 y2 hl G4 q1 q2 q3 p0 f0 p1 f1 p2 f2 p3 f3 p4 f4
    go_wp2
    exact bodyPost_ret (v := .agg #[.int .i64 3, .bool true, .slice A1 m1 c1, .slice A2 m2 c2, .slice A3 m3 c3]) (res1C rfl F.out rfl) rfl (KJ.out _ _ ⟨_, _, _, _, _, _, _, _, _, rfl, Q1.out, Q2.out, Q3.out, E.out⟩)

end Go.Proofs.YtmkcjjgicinggaaGreatDoor.ContI

/- What ReplyTo does in the program and in the model: a reply with new slices of the same records. Condition: fewer than 400000001 records in each section. -/
namespace Go.Proofs.YtmkcjjgicinggaaGreatDoor.RepM
open Go.RowKit Go.Proofs.YtmkcjjgicinggaaGreatDoor.Mem Go.Proofs.YtmkcjjgicinggaaGreatDoor.MemR Go.Proofs.YtmkcjjgicinggaaGreatDoor.BoxR Go.Proofs.YtmkcjjgicinggaaGreatDoor.MemM Go.Proofs.YtmkcjjgicinggaaGreatDoor.CpyR Go.Proofs.YtmkcjjgicinggaaGreatDoor.ResM

/-- The head of a reply. -/
def rph (h : Hd) (code : Int) (au : Bool) : Hd := ⟨h.id, true, au, false, h.wa, false, code, h.qn, h.qt⟩
/-- The box g holds a message. A def, so that no step of a walk opens it. -/
def RB (w : World) (g : Nat) : Prop := ∃ cs : List Value, cs.length = 12 ∧ Bk w g 45 cs
/-- What a cell of the box holds. -/
def cv (w : World) (g j : Nat) : Value := (w.cell? ⟨g, j, none⟩).getD undef
theorem RB.below {w w' : World} {g : Nat} (k : RB w g) (hb : Below w.heap.size w w') : RB w' g := by
  obtain ⟨cs, hc, k⟩ := k
  exact ⟨cs, hc, k.below hb k.lt⟩
theorem RB.cell {w : World} {g : Nat} (k : RB w g) (j : Nat) (hj : j < 12) : w.cell? ⟨g, j, none⟩ = some (cv w g j) := by
  obtain ⟨cs, hc, k⟩ := k
  unfold cv
  rw [k.cell, List.getElem?_eq_getElem (show j < cs.length by omega)]
  rfl
theorem RB.free {w : World} {g : Nat} (k : RB w g) (j : Nat) : w.frozen? ⟨g, j, none⟩ = false := by
  obtain ⟨cs, hc, k⟩ := k
  exact k.free j
theorem twelve {cs : List Value} (h : cs.length = 12) : ∃ a0 a1 a2 a3 a4 a5 a6 a7 a8 a9 a10 a11 : Value, cs = [a0, a1, a2, a3, a4, a5, a6, a7, a8, a9, a10, a11] := by
  match cs, h with
  | [a0, a1, a2, a3, a4, a5, a6, a7, a8, a9, a10, a11], _ => exact ⟨a0, a1, a2, a3, a4, a5, a6, a7, a8, a9, a10, a11, rfl⟩
theorem RB.fil {w : World} {g : Nat} (k : RB w g) (h : Hd) (x y z : Value) : Bk (filM w g h x y z) g 45 (mc h x y z) := by
  obtain ⟨cs, hc, k⟩ := k
  obtain ⟨a0, a1, a2, a3, a4, a5, a6, a7, a8, a9, a10, a11, rfl⟩ := twelve hc
  exact ((((((((((((k.set 0 (.int .i64 h.id)).set 1 (.bool h.rp)).set 2 (.bool h.au)).set 3 (.bool h.ct)).set 4 (.bool h.wa)).set 5 (.bool h.ca)).set 6 (.int .i64 h.code)).set 7 (.string h.qn)).set 8 (.int .i64 h.qt)).set 9 (x)).set 10 (y)).set 11 (z))
theorem keptR {w w1 w2 : World} {h : Hd} (k : (w1.cell? ⟨w.heap.size, 0, none⟩ = some (.int .i64 h.id) ∧ w1.cell? ⟨w.heap.size, 4, none⟩ = some (.bool h.wa) ∧ w1.cell? ⟨w.heap.size, 7, none⟩ = some (.string h.qn) ∧ w1.cell? ⟨w.heap.size, 8, none⟩ = some (.int .i64 h.qt)) ∧ RB w1 (w.heap.size + 1) ∧ Sv w w1) (hl : Below w1.heap.size w1 w2) : (w2.cell? ⟨w.heap.size, 0, none⟩ = some (.int .i64 h.id) ∧ w2.cell? ⟨w.heap.size, 4, none⟩ = some (.bool h.wa) ∧ w2.cell? ⟨w.heap.size, 7, none⟩ = some (.string h.qn) ∧ w2.cell? ⟨w.heap.size, 8, none⟩ = some (.int .i64 h.qt)) ∧ RB w2 (w.heap.size + 1) ∧ Sv w w2 := by
  have a : w.heap.size < w1.heap.size := World.block_lt_of_cell? _ _ k.1.1
  exact ⟨⟨(hl.cell (p := ⟨w.heap.size, 0, none⟩) a).trans k.1.1, (hl.cell (p := ⟨w.heap.size, 4, none⟩) a).trans k.1.2.1, (hl.cell (p := ⟨w.heap.size, 7, none⟩) a).trans k.1.2.2.1, (hl.cell (p := ⟨w.heap.size, 8, none⟩) a).trans k.1.2.2.2⟩, k.2.1.below hl, k.2.2.trans (hl.mono k.2.2.size)⟩
theorem keptR_draw {w w1 : World} {h : Hd} (k : (w1.cell? ⟨w.heap.size, 0, none⟩ = some (.int .i64 h.id) ∧ w1.cell? ⟨w.heap.size, 4, none⟩ = some (.bool h.wa) ∧ w1.cell? ⟨w.heap.size, 7, none⟩ = some (.string h.qn) ∧ w1.cell? ⟨w.heap.size, 8, none⟩ = some (.int .i64 h.qt)) ∧ RB w1 (w.heap.size + 1) ∧ Sv w w1) : (w1.drew.cell? ⟨w.heap.size, 0, none⟩ = some (.int .i64 h.id) ∧ w1.drew.cell? ⟨w.heap.size, 4, none⟩ = some (.bool h.wa) ∧ w1.drew.cell? ⟨w.heap.size, 7, none⟩ = some (.string h.qn) ∧ w1.drew.cell? ⟨w.heap.size, 8, none⟩ = some (.int .i64 h.qt)) ∧ RB w1.drew (w.heap.size + 1) ∧ Sv w w1.drew := keptR k ((Below.refl _ _).drew)
theorem RB.put {w : World} {g : Nat} (k : RB w g) (j : Nat) (v : Value) : RB (w.setCell ⟨g, j, none⟩ v) g := by
  obtain ⟨cs, hc, k⟩ := k
  exact ⟨cs.set j v, by rw [List.length_set]; exact hc, k.set j v⟩
theorem keptR_put {w w1 : World} {h : Hd} (k : (w1.cell? ⟨w.heap.size, 0, none⟩ = some (.int .i64 h.id) ∧ w1.cell? ⟨w.heap.size, 4, none⟩ = some (.bool h.wa) ∧ w1.cell? ⟨w.heap.size, 7, none⟩ = some (.string h.qn) ∧ w1.cell? ⟨w.heap.size, 8, none⟩ = some (.int .i64 h.qt)) ∧ RB w1 (w.heap.size + 1) ∧ Sv w w1) (j : Nat) (v : Value) : ((w1.setCell ⟨w.heap.size + 1, j, none⟩ v).cell? ⟨w.heap.size, 0, none⟩ = some (.int .i64 h.id) ∧ (w1.setCell ⟨w.heap.size + 1, j, none⟩ v).cell? ⟨w.heap.size, 4, none⟩ = some (.bool h.wa) ∧ (w1.setCell ⟨w.heap.size + 1, j, none⟩ v).cell? ⟨w.heap.size, 7, none⟩ = some (.string h.qn) ∧ (w1.setCell ⟨w.heap.size + 1, j, none⟩ v).cell? ⟨w.heap.size, 8, none⟩ = some (.int .i64 h.qt)) ∧ RB (w1.setCell ⟨w.heap.size + 1, j, none⟩ v) (w.heap.size + 1) ∧ Sv w (w1.setCell ⟨w.heap.size + 1, j, none⟩ v) := by
  have e : ∀ i, (w1.setCell ⟨w.heap.size + 1, j, none⟩ v).cell? ⟨w.heap.size, i, none⟩ = w1.cell? ⟨w.heap.size, i, none⟩ := fun i =>
    ((Below.refl (w.heap.size + 1) w1).setCell (p := ⟨w.heap.size + 1, j, none⟩) (Nat.le_refl _) v).cell (p := ⟨w.heap.size, i, none⟩) (Nat.lt_succ_self _)
  exact ⟨⟨(e 0).trans k.1.1, (e 4).trans k.1.2.1, (e 7).trans k.1.2.2.1, (e 8).trans k.1.2.2.2⟩, k.2.1.put j v, Below.setCell k.2.2 (p := ⟨w.heap.size + 1, j, none⟩) (Nat.le_succ _) v⟩
theorem keptR_fil {w w1 : World} {h : Hd} (k : (w1.cell? ⟨w.heap.size, 0, none⟩ = some (.int .i64 h.id) ∧ w1.cell? ⟨w.heap.size, 4, none⟩ = some (.bool h.wa) ∧ w1.cell? ⟨w.heap.size, 7, none⟩ = some (.string h.qn) ∧ w1.cell? ⟨w.heap.size, 8, none⟩ = some (.int .i64 h.qt)) ∧ RB w1 (w.heap.size + 1) ∧ Sv w w1) (v0 v1 v2 v3 v4 v5 v6 v7 v8 v9 v10 v11 : Value) : (((((((((((((w1.setCell ⟨w.heap.size + 1, 0, none⟩ v0).setCell ⟨w.heap.size + 1, 1, none⟩ v1).setCell ⟨w.heap.size + 1, 2, none⟩ v2).setCell ⟨w.heap.size + 1, 3, none⟩ v3).setCell ⟨w.heap.size + 1, 4, none⟩ v4).setCell ⟨w.heap.size + 1, 5, none⟩ v5).setCell ⟨w.heap.size + 1, 6, none⟩ v6).setCell ⟨w.heap.size + 1, 7, none⟩ v7).setCell ⟨w.heap.size + 1, 8, none⟩ v8).setCell ⟨w.heap.size + 1, 9, none⟩ v9).setCell ⟨w.heap.size + 1, 10, none⟩ v10).setCell ⟨w.heap.size + 1, 11, none⟩ v11).cell? ⟨w.heap.size, 0, none⟩ = some (.int .i64 h.id) ∧ ((((((((((((w1.setCell ⟨w.heap.size + 1, 0, none⟩ v0).setCell ⟨w.heap.size + 1, 1, none⟩ v1).setCell ⟨w.heap.size + 1, 2, none⟩ v2).setCell ⟨w.heap.size + 1, 3, none⟩ v3).setCell ⟨w.heap.size + 1, 4, none⟩ v4).setCell ⟨w.heap.size + 1, 5, none⟩ v5).setCell ⟨w.heap.size + 1, 6, none⟩ v6).setCell ⟨w.heap.size + 1, 7, none⟩ v7).setCell ⟨w.heap.size + 1, 8, none⟩ v8).setCell ⟨w.heap.size + 1, 9, none⟩ v9).setCell ⟨w.heap.size + 1, 10, none⟩ v10).setCell ⟨w.heap.size + 1, 11, none⟩ v11).cell? ⟨w.heap.size, 4, none⟩ = some (.bool h.wa) ∧ ((((((((((((w1.setCell ⟨w.heap.size + 1, 0, none⟩ v0).setCell ⟨w.heap.size + 1, 1, none⟩ v1).setCell ⟨w.heap.size + 1, 2, none⟩ v2).setCell ⟨w.heap.size + 1, 3, none⟩ v3).setCell ⟨w.heap.size + 1, 4, none⟩ v4).setCell ⟨w.heap.size + 1, 5, none⟩ v5).setCell ⟨w.heap.size + 1, 6, none⟩ v6).setCell ⟨w.heap.size + 1, 7, none⟩ v7).setCell ⟨w.heap.size + 1, 8, none⟩ v8).setCell ⟨w.heap.size + 1, 9, none⟩ v9).setCell ⟨w.heap.size + 1, 10, none⟩ v10).setCell ⟨w.heap.size + 1, 11, none⟩ v11).cell? ⟨w.heap.size, 7, none⟩ = some (.string h.qn) ∧ ((((((((((((w1.setCell ⟨w.heap.size + 1, 0, none⟩ v0).setCell ⟨w.heap.size + 1, 1, none⟩ v1).setCell ⟨w.heap.size + 1, 2, none⟩ v2).setCell ⟨w.heap.size + 1, 3, none⟩ v3).setCell ⟨w.heap.size + 1, 4, none⟩ v4).setCell ⟨w.heap.size + 1, 5, none⟩ v5).setCell ⟨w.heap.size + 1, 6, none⟩ v6).setCell ⟨w.heap.size + 1, 7, none⟩ v7).setCell ⟨w.heap.size + 1, 8, none⟩ v8).setCell ⟨w.heap.size + 1, 9, none⟩ v9).setCell ⟨w.heap.size + 1, 10, none⟩ v10).setCell ⟨w.heap.size + 1, 11, none⟩ v11).cell? ⟨w.heap.size, 8, none⟩ = some (.int .i64 h.qt)) ∧ RB ((((((((((((w1.setCell ⟨w.heap.size + 1, 0, none⟩ v0).setCell ⟨w.heap.size + 1, 1, none⟩ v1).setCell ⟨w.heap.size + 1, 2, none⟩ v2).setCell ⟨w.heap.size + 1, 3, none⟩ v3).setCell ⟨w.heap.size + 1, 4, none⟩ v4).setCell ⟨w.heap.size + 1, 5, none⟩ v5).setCell ⟨w.heap.size + 1, 6, none⟩ v6).setCell ⟨w.heap.size + 1, 7, none⟩ v7).setCell ⟨w.heap.size + 1, 8, none⟩ v8).setCell ⟨w.heap.size + 1, 9, none⟩ v9).setCell ⟨w.heap.size + 1, 10, none⟩ v10).setCell ⟨w.heap.size + 1, 11, none⟩ v11) (w.heap.size + 1) ∧ Sv w ((((((((((((w1.setCell ⟨w.heap.size + 1, 0, none⟩ v0).setCell ⟨w.heap.size + 1, 1, none⟩ v1).setCell ⟨w.heap.size + 1, 2, none⟩ v2).setCell ⟨w.heap.size + 1, 3, none⟩ v3).setCell ⟨w.heap.size + 1, 4, none⟩ v4).setCell ⟨w.heap.size + 1, 5, none⟩ v5).setCell ⟨w.heap.size + 1, 6, none⟩ v6).setCell ⟨w.heap.size + 1, 7, none⟩ v7).setCell ⟨w.heap.size + 1, 8, none⟩ v8).setCell ⟨w.heap.size + 1, 9, none⟩ v9).setCell ⟨w.heap.size + 1, 10, none⟩ v10).setCell ⟨w.heap.size + 1, 11, none⟩ v11) :=
  (keptR_put (keptR_put (keptR_put (keptR_put (keptR_put (keptR_put (keptR_put (keptR_put (keptR_put (keptR_put (keptR_put (keptR_put k 0 v0) 1 v1) 2 v2) 3 v3) 4 v4) 5 v5) 6 v6) 7 v7) 8 v8) 9 v9) 10 v10) 11 v11)

set_option maxRecDepth 100000 in
set_option maxHeartbeats 8000000 in
theorem impl (h : Hd) (A1 A2 A3 : Option Addr) (n1 c1 n2 c2 n3 c3 : Nat) (code : Int) (au : Bool) (b1 o1 m1 d1 : Nat) (l1 : List Rec) (b2 o2 m2 d2 : Nat) (l2 : List Rec) (b3 o3 m3 d3 : Nat) (l3 : List Rec) (w : World)
    (s1 : Sr w w.heap.size (some ⟨b1, o1, none⟩) m1 l1) (z1 : m1 ≤ 400000000) (s2 : Sr w w.heap.size (some ⟨b2, o2, none⟩) m2 l2) (z2 : m2 ≤ 400000000) (s3 : Sr w w.heap.size (some ⟨b3, o3, none⟩) m3 l3) (z3 : m3 ≤ 400000000) :
    Calls Tryz.prog 64 #[.agg #[.int .i64 h.id, .bool h.rp, .bool h.au, .bool h.ct, .bool h.wa, .bool h.ca, .int .i64 h.code, .string h.qn, .int .i64 h.qt, .slice A1 n1 c1, .slice A2 n2 c2, .slice A3 n3 c3], .int .i64 code, .bool au, .slice (some ⟨b1, o1, none⟩) m1 d1, .slice (some ⟨b2, o2, none⟩) m2 d2, .slice (some ⟨b3, o3, none⟩) m3 d3] w (GivesM w (rph h code au) m1 m2 m3 l1 l2 l3) := by
  have C1 : Hid (∀ W : World, ((W.cell? ⟨w.heap.size, 0, none⟩ = some (.int .i64 h.id) ∧ W.cell? ⟨w.heap.size, 4, none⟩ = some (.bool h.wa) ∧ W.cell? ⟨w.heap.size, 7, none⟩ = some (.string h.qn) ∧ W.cell? ⟨w.heap.size, 8, none⟩ = some (.int .i64 h.qt)) ∧ RB W (w.heap.size + 1) ∧ Sv w W) → Calls Tryz.prog 61 #[.slice (some ⟨b1, o1, none⟩) m1 d1] W (GivesC W m1 l1)) := fun W hW => copyI b1 o1 m1 d1 l1 W (s1.on hW.2.2) z1
  have C2 : Hid (∀ W : World, ((W.cell? ⟨w.heap.size, 0, none⟩ = some (.int .i64 h.id) ∧ W.cell? ⟨w.heap.size, 4, none⟩ = some (.bool h.wa) ∧ W.cell? ⟨w.heap.size, 7, none⟩ = some (.string h.qn) ∧ W.cell? ⟨w.heap.size, 8, none⟩ = some (.int .i64 h.qt)) ∧ RB W (w.heap.size + 1) ∧ Sv w W) → Calls Tryz.prog 61 #[.slice (some ⟨b2, o2, none⟩) m2 d2] W (GivesC W m2 l2)) := fun W hW => copyI b2 o2 m2 d2 l2 W (s2.on hW.2.2) z2
  have C3 : Hid (∀ W : World, ((W.cell? ⟨w.heap.size, 0, none⟩ = some (.int .i64 h.id) ∧ W.cell? ⟨w.heap.size, 4, none⟩ = some (.bool h.wa) ∧ W.cell? ⟨w.heap.size, 7, none⟩ = some (.string h.qn) ∧ W.cell? ⟨w.heap.size, 8, none⟩ = some (.int .i64 h.qt)) ∧ RB W (w.heap.size + 1) ∧ Sv w W) → Calls Tryz.prog 61 #[.slice (some ⟨b3, o3, none⟩) m3 d3] W (GivesC W m3 l3)) := fun W hW => copyI b3 o3 m3 d3 l3 W (s3.on hW.2.2) z3
  have X0 := Lib.hid ((mx_new w 45 h (.slice A1 n1 c1) (.slice A2 n2 c2) (.slice A3 n3 c3)).alloc (.cells #[.int .i64 0, .bool false, .bool false, .bool false, .bool false, .bool false, .int .i64 0, .string ⟨#[]⟩, .int .i64 0, .slice none 0 0, .slice none 0 0, .slice none 0 0] 45))
  have R0 := Lib.hid (at2 (w := w) (a := .cells #[.int .i64 h.id, .bool h.rp, .bool h.au, .bool h.ct, .bool h.wa, .bool h.ca, .int .i64 h.code, .string h.qn, .int .i64 h.qt, .slice A1 n1 c1, .slice A2 n2 c2, .slice A3 n3 c3] 45) (cs := #[.int .i64 0, .bool false, .bool false, .bool false, .bool false, .bool false, .int .i64 0, .string ⟨#[]⟩, .int .i64 0, .slice none 0 0, .slice none 0 0, .slice none 0 0]) (t := 45))
  have L0 := Lib.hid (((Below.refl w.heap.size w).alloc (Nat.le_refl _) (.cells #[.int .i64 h.id, .bool h.rp, .bool h.au, .bool h.ct, .bool h.wa, .bool h.ca, .int .i64 h.code, .string h.qn, .int .i64 h.qt, .slice A1 n1 c1, .slice A2 n2 c2, .slice A3 n3 c3] 45)).alloc (by simp) (.cells #[.int .i64 0, .bool false, .bool false, .bool false, .bool false, .bool false, .int .i64 0, .string ⟨#[]⟩, .int .i64 0, .slice none 0 0, .slice none 0 0, .slice none 0 0] 45))
  have S0 : (((w.alloc (.cells #[.int .i64 h.id, .bool h.rp, .bool h.au, .bool h.ct, .bool h.wa, .bool h.ca, .int .i64 h.code, .string h.qn, .int .i64 h.qt, .slice A1 n1 c1, .slice A2 n2 c2, .slice A3 n3 c3] 45)).alloc (.cells #[.int .i64 0, .bool false, .bool false, .bool false, .bool false, .bool false, .int .i64 0, .string ⟨#[]⟩, .int .i64 0, .slice none 0 0, .slice none 0 0, .slice none 0 0] 45)).cell? ⟨w.heap.size, 0, none⟩ = some (.int .i64 h.id) ∧ ((w.alloc (.cells #[.int .i64 h.id, .bool h.rp, .bool h.au, .bool h.ct, .bool h.wa, .bool h.ca, .int .i64 h.code, .string h.qn, .int .i64 h.qt, .slice A1 n1 c1, .slice A2 n2 c2, .slice A3 n3 c3] 45)).alloc (.cells #[.int .i64 0, .bool false, .bool false, .bool false, .bool false, .bool false, .int .i64 0, .string ⟨#[]⟩, .int .i64 0, .slice none 0 0, .slice none 0 0, .slice none 0 0] 45)).cell? ⟨w.heap.size, 4, none⟩ = some (.bool h.wa) ∧ ((w.alloc (.cells #[.int .i64 h.id, .bool h.rp, .bool h.au, .bool h.ct, .bool h.wa, .bool h.ca, .int .i64 h.code, .string h.qn, .int .i64 h.qt, .slice A1 n1 c1, .slice A2 n2 c2, .slice A3 n3 c3] 45)).alloc (.cells #[.int .i64 0, .bool false, .bool false, .bool false, .bool false, .bool false, .int .i64 0, .string ⟨#[]⟩, .int .i64 0, .slice none 0 0, .slice none 0 0, .slice none 0 0] 45)).cell? ⟨w.heap.size, 7, none⟩ = some (.string h.qn) ∧ ((w.alloc (.cells #[.int .i64 h.id, .bool h.rp, .bool h.au, .bool h.ct, .bool h.wa, .bool h.ca, .int .i64 h.code, .string h.qn, .int .i64 h.qt, .slice A1 n1 c1, .slice A2 n2 c2, .slice A3 n3 c3] 45)).alloc (.cells #[.int .i64 0, .bool false, .bool false, .bool false, .bool false, .bool false, .int .i64 0, .string ⟨#[]⟩, .int .i64 0, .slice none 0 0, .slice none 0 0, .slice none 0 0] 45)).cell? ⟨w.heap.size, 8, none⟩ = some (.int .i64 h.qt)) ∧ RB ((w.alloc (.cells #[.int .i64 h.id, .bool h.rp, .bool h.au, .bool h.ct, .bool h.wa, .bool h.ca, .int .i64 h.code, .string h.qn, .int .i64 h.qt, .slice A1 n1 c1, .slice A2 n2 c2, .slice A3 n3 c3] 45)).alloc (.cells #[.int .i64 0, .bool false, .bool false, .bool false, .bool false, .bool false, .int .i64 0, .string ⟨#[]⟩, .int .i64 0, .slice none 0 0, .slice none 0 0, .slice none 0 0] 45)) (w.heap.size + 1) ∧ Sv w ((w.alloc (.cells #[.int .i64 h.id, .bool h.rp, .bool h.au, .bool h.ct, .bool h.wa, .bool h.ca, .int .i64 h.code, .string h.qn, .int .i64 h.qt, .slice A1 n1 c1, .slice A2 n2 c2, .slice A3 n3 c3] 45)).alloc (.cells #[.int .i64 0, .bool false, .bool false, .bool false, .bool false, .bool false, .int .i64 0, .string ⟨#[]⟩, .int .i64 0, .slice none 0 0, .slice none 0 0, .slice none 0 0] 45)) :=
    ⟨⟨X0.out.1, X0.out.2.2.2.2.1, X0.out.2.2.2.2.2.2.2.1, X0.out.2.2.2.2.2.2.2.2.1⟩, ⟨_, rfl, R0.out⟩, L0.out⟩
  clear s1 s2 s3
  generalize hW0 : ((w.alloc (.cells #[.int .i64 h.id, .bool h.rp, .bool h.au, .bool h.ct, .bool h.wa, .bool h.ca, .int .i64 h.code, .string h.qn, .int .i64 h.qt, .slice A1 n1 c1, .slice A2 n2 c2, .slice A3 n3 c3] 45)).alloc (.cells #[.int .i64 0, .bool false, .bool false, .bool false, .bool false, .bool false, .int .i64 0, .string ⟨#[]⟩, .int .i64 0, .slice none 0 0, .slice none 0 0, .slice none 0 0] 45)) = W0 at S0 R0 X0 L0
  go_enter Tryz.func64, Tryz.ntmps64
  go_wp2
  go_region_held3 (fun w' => (w'.cell? ⟨w.heap.size, 0, none⟩ = some (.int .i64 h.id) ∧ w'.cell? ⟨w.heap.size, 4, none⟩ = some (.bool h.wa) ∧ w'.cell? ⟨w.heap.size, 7, none⟩ = some (.string h.qn) ∧ w'.cell? ⟨w.heap.size, 8, none⟩ = some (.int .i64 h.qt)) ∧ RB w' (w.heap.size + 1) ∧ Sv w w')
    (first | with_reducible exact keptR_fil (w1 := w13) (by assumption) _ _ _ _ _ _ _ _ _ _ _ _ | with_reducible exact S0 | with_reducible assumption | with_reducible exact keptR (by assumption) hl | with_reducible exact keptR_draw (by assumption) | fail)
    (first
      | (go_at_call 61; (with_reducible refine (C1.out _ (by assumption)).mono ?_); rintro e w11 ⟨g1, e1, r1, rfl, -, hg1, hb1, hl⟩; have y1 := hl)
      | (go_at_call 61; (with_reducible refine (C2.out _ (by assumption)).mono ?_); rintro e w12 ⟨g2, e2, r2, rfl, -, hg2, hb2, hl⟩; have y2 := hl)
      | (go_at_call 61; (with_reducible refine (C3.out _ (by assumption)).mono ?_); rintro e w13 ⟨g3, e3, r3, rfl, -, hg3, hb3, hl⟩; have y3 := hl; have HR := (keptR (h := h) (by assumption) hl).2.1; have p0 := HR.cell 0 (by decide); have f0 := HR.free 0; have p1 := HR.cell 1 (by decide); have f1 := HR.free 1; have p2 := HR.cell 2 (by decide); have f2 := HR.free 2; have p3 := HR.cell 3 (by decide); have f3 := HR.free 3; have p4 := HR.cell 4 (by decide); have f4 := HR.free 4; have p5 := HR.cell 5 (by decide); have f5 := HR.free 5; have p6 := HR.cell 6 (by decide); have f6 := HR.free 6; have p7 := HR.cell 7 (by decide); have f7 := HR.free 7; have p8 := HR.cell 8 (by decide); have f8 := HR.free 8; have p9 := HR.cell 9 (by decide); have f9 := HR.free 9; have p10 := HR.cell 10 (by decide); have f10 := HR.free 10; have p11 := HR.cell 11 (by decide); have f11 := HR.free 11; clear HR)
      | fail)
  rename_i hH
  have a0 : Below w.heap.size w W0.drew := L0.out.drew
  have a1 := a0.trans (y1.mono a0.size)
  have a2 := a1.trans (y2.mono a1.size)
  have a3 := a2.trans (y3.mono a2.size)
  have RA : Bk w13 (w.heap.size + 1) 45 (mc zh (.slice none 0 0) (.slice none 0 0) (.slice none 0 0)) := by
    have b0 : Bk W0.drew (w.heap.size + 1) 45 (mc zh (.slice none 0 0) (.slice none 0 0) (.slice none 0 0)) := R0.out
    have b1 := b0.below y1 b0.lt
    have b2 := b1.below y2 b1.lt
    exact b2.below y3 b2.lt
  have n1 : w.heap.size + 1 < g1 := Nat.lt_of_lt_of_le R0.out.lt hg1
  have n2 : g1 < g2 := Nat.lt_of_lt_of_le hb1.lt hg2
  have n3 : g2 < g3 := Nat.lt_of_lt_of_le hb2.lt hg3
  have B1 := hb1.below y2 hb1.lt
  have F := Lib.hid (filM_bk RA (rph h code au) (.slice (some ⟨g1, 0, none⟩) m1 e1) (.slice (some ⟨g2, 0, none⟩) m2 e2) (.slice (some ⟨g3, 0, none⟩) m3 e3))
  have E := Lib.hid (filM_below a3 (g := w.heap.size + 1) (by omega) (rph h code au) (.slice (some ⟨g1, 0, none⟩) m1 e1) (.slice (some ⟨g2, 0, none⟩) m2 e2) (.slice (some ⟨g3, 0, none⟩) m3 e3))
  have I1 := Lib.hid (filM_other (B1.below y3 B1.lt) (g := w.heap.size + 1) (by omega) (rph h code au) (.slice (some ⟨g1, 0, none⟩) m1 e1) (.slice (some ⟨g2, 0, none⟩) m2 e2) (.slice (some ⟨g3, 0, none⟩) m3 e3))
  have I2 := Lib.hid (filM_other (hb2.below y3 hb2.lt) (g := w.heap.size + 1) (by omega) (rph h code au) (.slice (some ⟨g1, 0, none⟩) m1 e1) (.slice (some ⟨g2, 0, none⟩) m2 e2) (.slice (some ⟨g3, 0, none⟩) m3 e3))
  have I3 := Lib.hid (filM_other hb3 (g := w.heap.size + 1) (by omega) (rph h code au) (.slice (some ⟨g1, 0, none⟩) m1 e1) (.slice (some ⟨g2, 0, none⟩) m2 e2) (.slice (some ⟨g3, 0, none⟩) m3 e3))
  clear hH S0 R0 X0 L0 C1 C2 C3 a0 a1 a2 a3 RA B1 hb1 hb2 hb3 hg1 hg2 hg3 y1 y2 y3 hl hW0 p0 f0 p1 f1 p2 f2 p3 f3 p4 f4 p5 f5 p6 f6 p7 f7 p8 f8 p9 f9 p10 f10 p11 f11
  go_wp2
  exact bodyPost_ret (v := .agg #[.int .i64 (rph h code au).id, .bool (rph h code au).rp, .bool (rph h code au).au, .bool (rph h code au).ct, .bool (rph h code au).wa, .bool (rph h code au).ca, .int .i64 (rph h code au).code, .string (rph h code au).qn, .int .i64 (rph h code au).qt, .slice (some ⟨g1, 0, none⟩) m1 e1, .slice (some ⟨g2, 0, none⟩) m2 e2, .slice (some ⟨g3, 0, none⟩) m3 e3]) (res1M rfl F.out rfl) rfl ⟨g1, e1, r1, g2, e2, r2, g3, e3, r3, rfl, I1.out, I2.out, I3.out, by omega, n2, n3, E.out⟩

set_option maxRecDepth 100000 in
set_option maxHeartbeats 8000000 in
theorem spec (h : Hd) (A1 A2 A3 : Option Addr) (n1 c1 n2 c2 n3 c3 : Nat) (code : Int) (au : Bool) (b1 o1 m1 d1 : Nat) (l1 : List Rec) (b2 o2 m2 d2 : Nat) (l2 : List Rec) (b3 o3 m3 d3 : Nat) (l3 : List Rec) (w : World)
    (s1 : Sr w w.heap.size (some ⟨b1, o1, none⟩) m1 l1) (z1 : m1 ≤ 400000000) (s2 : Sr w w.heap.size (some ⟨b2, o2, none⟩) m2 l2) (z2 : m2 ≤ 400000000) (s3 : Sr w w.heap.size (some ⟨b3, o3, none⟩) m3 l3) (z3 : m3 ≤ 400000000) :
    Calls Tryz.prog 84 #[.agg #[.int .i64 h.id, .bool h.rp, .bool h.au, .bool h.ct, .bool h.wa, .bool h.ca, .int .i64 h.code, .string h.qn, .int .i64 h.qt, .slice A1 n1 c1, .slice A2 n2 c2, .slice A3 n3 c3], .int .i64 code, .bool au, .slice (some ⟨b1, o1, none⟩) m1 d1, .slice (some ⟨b2, o2, none⟩) m2 d2, .slice (some ⟨b3, o3, none⟩) m3 d3] w (GivesM w (rph h code au) m1 m2 m3 l1 l2 l3) := by
  have C1 : Hid (∀ W : World, ((W.cell? ⟨w.heap.size, 0, none⟩ = some (.int .i64 h.id) ∧ W.cell? ⟨w.heap.size, 4, none⟩ = some (.bool h.wa) ∧ W.cell? ⟨w.heap.size, 7, none⟩ = some (.string h.qn) ∧ W.cell? ⟨w.heap.size, 8, none⟩ = some (.int .i64 h.qt)) ∧ RB W (w.heap.size + 1) ∧ Sv w W) → Calls Tryz.prog 134 #[.slice (some ⟨b1, o1, none⟩) m1 d1] W (GivesC W m1 l1)) := fun W hW => copyS b1 o1 m1 d1 l1 W (s1.on hW.2.2) z1
  have C2 : Hid (∀ W : World, ((W.cell? ⟨w.heap.size, 0, none⟩ = some (.int .i64 h.id) ∧ W.cell? ⟨w.heap.size, 4, none⟩ = some (.bool h.wa) ∧ W.cell? ⟨w.heap.size, 7, none⟩ = some (.string h.qn) ∧ W.cell? ⟨w.heap.size, 8, none⟩ = some (.int .i64 h.qt)) ∧ RB W (w.heap.size + 1) ∧ Sv w W) → Calls Tryz.prog 134 #[.slice (some ⟨b2, o2, none⟩) m2 d2] W (GivesC W m2 l2)) := fun W hW => copyS b2 o2 m2 d2 l2 W (s2.on hW.2.2) z2
  have C3 : Hid (∀ W : World, ((W.cell? ⟨w.heap.size, 0, none⟩ = some (.int .i64 h.id) ∧ W.cell? ⟨w.heap.size, 4, none⟩ = some (.bool h.wa) ∧ W.cell? ⟨w.heap.size, 7, none⟩ = some (.string h.qn) ∧ W.cell? ⟨w.heap.size, 8, none⟩ = some (.int .i64 h.qt)) ∧ RB W (w.heap.size + 1) ∧ Sv w W) → Calls Tryz.prog 134 #[.slice (some ⟨b3, o3, none⟩) m3 d3] W (GivesC W m3 l3)) := fun W hW => copyS b3 o3 m3 d3 l3 W (s3.on hW.2.2) z3
  have X0 := Lib.hid ((mx_new w 45 h (.slice A1 n1 c1) (.slice A2 n2 c2) (.slice A3 n3 c3)).alloc (.cells #[.int .i64 0, .bool false, .bool false, .bool false, .bool false, .bool false, .int .i64 0, .string ⟨#[]⟩, .int .i64 0, .slice none 0 0, .slice none 0 0, .slice none 0 0] 45))
  have R0 := Lib.hid (at2 (w := w) (a := .cells #[.int .i64 h.id, .bool h.rp, .bool h.au, .bool h.ct, .bool h.wa, .bool h.ca, .int .i64 h.code, .string h.qn, .int .i64 h.qt, .slice A1 n1 c1, .slice A2 n2 c2, .slice A3 n3 c3] 45) (cs := #[.int .i64 0, .bool false, .bool false, .bool false, .bool false, .bool false, .int .i64 0, .string ⟨#[]⟩, .int .i64 0, .slice none 0 0, .slice none 0 0, .slice none 0 0]) (t := 45))
  have L0 := Lib.hid (((Below.refl w.heap.size w).alloc (Nat.le_refl _) (.cells #[.int .i64 h.id, .bool h.rp, .bool h.au, .bool h.ct, .bool h.wa, .bool h.ca, .int .i64 h.code, .string h.qn, .int .i64 h.qt, .slice A1 n1 c1, .slice A2 n2 c2, .slice A3 n3 c3] 45)).alloc (by simp) (.cells #[.int .i64 0, .bool false, .bool false, .bool false, .bool false, .bool false, .int .i64 0, .string ⟨#[]⟩, .int .i64 0, .slice none 0 0, .slice none 0 0, .slice none 0 0] 45))
  have S0 : (((w.alloc (.cells #[.int .i64 h.id, .bool h.rp, .bool h.au, .bool h.ct, .bool h.wa, .bool h.ca, .int .i64 h.code, .string h.qn, .int .i64 h.qt, .slice A1 n1 c1, .slice A2 n2 c2, .slice A3 n3 c3] 45)).alloc (.cells #[.int .i64 0, .bool false, .bool false, .bool false, .bool false, .bool false, .int .i64 0, .string ⟨#[]⟩, .int .i64 0, .slice none 0 0, .slice none 0 0, .slice none 0 0] 45)).cell? ⟨w.heap.size, 0, none⟩ = some (.int .i64 h.id) ∧ ((w.alloc (.cells #[.int .i64 h.id, .bool h.rp, .bool h.au, .bool h.ct, .bool h.wa, .bool h.ca, .int .i64 h.code, .string h.qn, .int .i64 h.qt, .slice A1 n1 c1, .slice A2 n2 c2, .slice A3 n3 c3] 45)).alloc (.cells #[.int .i64 0, .bool false, .bool false, .bool false, .bool false, .bool false, .int .i64 0, .string ⟨#[]⟩, .int .i64 0, .slice none 0 0, .slice none 0 0, .slice none 0 0] 45)).cell? ⟨w.heap.size, 4, none⟩ = some (.bool h.wa) ∧ ((w.alloc (.cells #[.int .i64 h.id, .bool h.rp, .bool h.au, .bool h.ct, .bool h.wa, .bool h.ca, .int .i64 h.code, .string h.qn, .int .i64 h.qt, .slice A1 n1 c1, .slice A2 n2 c2, .slice A3 n3 c3] 45)).alloc (.cells #[.int .i64 0, .bool false, .bool false, .bool false, .bool false, .bool false, .int .i64 0, .string ⟨#[]⟩, .int .i64 0, .slice none 0 0, .slice none 0 0, .slice none 0 0] 45)).cell? ⟨w.heap.size, 7, none⟩ = some (.string h.qn) ∧ ((w.alloc (.cells #[.int .i64 h.id, .bool h.rp, .bool h.au, .bool h.ct, .bool h.wa, .bool h.ca, .int .i64 h.code, .string h.qn, .int .i64 h.qt, .slice A1 n1 c1, .slice A2 n2 c2, .slice A3 n3 c3] 45)).alloc (.cells #[.int .i64 0, .bool false, .bool false, .bool false, .bool false, .bool false, .int .i64 0, .string ⟨#[]⟩, .int .i64 0, .slice none 0 0, .slice none 0 0, .slice none 0 0] 45)).cell? ⟨w.heap.size, 8, none⟩ = some (.int .i64 h.qt)) ∧ RB ((w.alloc (.cells #[.int .i64 h.id, .bool h.rp, .bool h.au, .bool h.ct, .bool h.wa, .bool h.ca, .int .i64 h.code, .string h.qn, .int .i64 h.qt, .slice A1 n1 c1, .slice A2 n2 c2, .slice A3 n3 c3] 45)).alloc (.cells #[.int .i64 0, .bool false, .bool false, .bool false, .bool false, .bool false, .int .i64 0, .string ⟨#[]⟩, .int .i64 0, .slice none 0 0, .slice none 0 0, .slice none 0 0] 45)) (w.heap.size + 1) ∧ Sv w ((w.alloc (.cells #[.int .i64 h.id, .bool h.rp, .bool h.au, .bool h.ct, .bool h.wa, .bool h.ca, .int .i64 h.code, .string h.qn, .int .i64 h.qt, .slice A1 n1 c1, .slice A2 n2 c2, .slice A3 n3 c3] 45)).alloc (.cells #[.int .i64 0, .bool false, .bool false, .bool false, .bool false, .bool false, .int .i64 0, .string ⟨#[]⟩, .int .i64 0, .slice none 0 0, .slice none 0 0, .slice none 0 0] 45)) :=
    ⟨⟨X0.out.1, X0.out.2.2.2.2.1, X0.out.2.2.2.2.2.2.2.1, X0.out.2.2.2.2.2.2.2.2.1⟩, ⟨_, rfl, R0.out⟩, L0.out⟩
  clear s1 s2 s3
  generalize hW0 : ((w.alloc (.cells #[.int .i64 h.id, .bool h.rp, .bool h.au, .bool h.ct, .bool h.wa, .bool h.ca, .int .i64 h.code, .string h.qn, .int .i64 h.qt, .slice A1 n1 c1, .slice A2 n2 c2, .slice A3 n3 c3] 45)).alloc (.cells #[.int .i64 0, .bool false, .bool false, .bool false, .bool false, .bool false, .int .i64 0, .string ⟨#[]⟩, .int .i64 0, .slice none 0 0, .slice none 0 0, .slice none 0 0] 45)) = W0 at S0 R0 X0 L0
  go_enter Tryz.func84, Tryz.ntmps84
  go_wp2
  go_region_held3 (fun w' => (w'.cell? ⟨w.heap.size, 0, none⟩ = some (.int .i64 h.id) ∧ w'.cell? ⟨w.heap.size, 4, none⟩ = some (.bool h.wa) ∧ w'.cell? ⟨w.heap.size, 7, none⟩ = some (.string h.qn) ∧ w'.cell? ⟨w.heap.size, 8, none⟩ = some (.int .i64 h.qt)) ∧ RB w' (w.heap.size + 1) ∧ Sv w w')
    (first | with_reducible exact keptR_fil (w1 := w13) (by assumption) _ _ _ _ _ _ _ _ _ _ _ _ | with_reducible exact S0 | with_reducible assumption | with_reducible exact keptR (by assumption) hl | with_reducible exact keptR_draw (by assumption) | fail)
    (first
      | (go_at_call 134; (with_reducible refine (C1.out _ (by assumption)).mono ?_); rintro e w11 ⟨g1, e1, r1, rfl, -, hg1, hb1, hl⟩; have y1 := hl)
      | (go_at_call 134; (with_reducible refine (C2.out _ (by assumption)).mono ?_); rintro e w12 ⟨g2, e2, r2, rfl, -, hg2, hb2, hl⟩; have y2 := hl)
      | (go_at_call 134; (with_reducible refine (C3.out _ (by assumption)).mono ?_); rintro e w13 ⟨g3, e3, r3, rfl, -, hg3, hb3, hl⟩; have y3 := hl; have HR := (keptR (h := h) (by assumption) hl).2.1; have p0 := HR.cell 0 (by decide); have f0 := HR.free 0; have p1 := HR.cell 1 (by decide); have f1 := HR.free 1; have p2 := HR.cell 2 (by decide); have f2 := HR.free 2; have p3 := HR.cell 3 (by decide); have f3 := HR.free 3; have p4 := HR.cell 4 (by decide); have f4 := HR.free 4; have p5 := HR.cell 5 (by decide); have f5 := HR.free 5; have p6 := HR.cell 6 (by decide); have f6 := HR.free 6; have p7 := HR.cell 7 (by decide); have f7 := HR.free 7; have p8 := HR.cell 8 (by decide); have f8 := HR.free 8; have p9 := HR.cell 9 (by decide); have f9 := HR.free 9; have p10 := HR.cell 10 (by decide); have f10 := HR.free 10; have p11 := HR.cell 11 (by decide); have f11 := HR.free 11; clear HR)
      | fail)
  rename_i hH
  have a0 : Below w.heap.size w W0.drew := L0.out.drew
  have a1 := a0.trans (y1.mono a0.size)
  have a2 := a1.trans (y2.mono a1.size)
  have a3 := a2.trans (y3.mono a2.size)
  have RA : Bk w13 (w.heap.size + 1) 45 (mc zh (.slice none 0 0) (.slice none 0 0) (.slice none 0 0)) := by
    have b0 : Bk W0.drew (w.heap.size + 1) 45 (mc zh (.slice none 0 0) (.slice none 0 0) (.slice none 0 0)) := R0.out
    have b1 := b0.below y1 b0.lt
    have b2 := b1.below y2 b1.lt
    exact b2.below y3 b2.lt
  have n1 : w.heap.size + 1 < g1 := Nat.lt_of_lt_of_le R0.out.lt hg1
  have n2 : g1 < g2 := Nat.lt_of_lt_of_le hb1.lt hg2
  have n3 : g2 < g3 := Nat.lt_of_lt_of_le hb2.lt hg3
  have B1 := hb1.below y2 hb1.lt
  have F := Lib.hid (filM_bk RA (rph h code au) (.slice (some ⟨g1, 0, none⟩) m1 e1) (.slice (some ⟨g2, 0, none⟩) m2 e2) (.slice (some ⟨g3, 0, none⟩) m3 e3))
  have E := Lib.hid (filM_below a3 (g := w.heap.size + 1) (by omega) (rph h code au) (.slice (some ⟨g1, 0, none⟩) m1 e1) (.slice (some ⟨g2, 0, none⟩) m2 e2) (.slice (some ⟨g3, 0, none⟩) m3 e3))
  have I1 := Lib.hid (filM_other (B1.below y3 B1.lt) (g := w.heap.size + 1) (by omega) (rph h code au) (.slice (some ⟨g1, 0, none⟩) m1 e1) (.slice (some ⟨g2, 0, none⟩) m2 e2) (.slice (some ⟨g3, 0, none⟩) m3 e3))
  have I2 := Lib.hid (filM_other (hb2.below y3 hb2.lt) (g := w.heap.size + 1) (by omega) (rph h code au) (.slice (some ⟨g1, 0, none⟩) m1 e1) (.slice (some ⟨g2, 0, none⟩) m2 e2) (.slice (some ⟨g3, 0, none⟩) m3 e3))
  have I3 := Lib.hid (filM_other hb3 (g := w.heap.size + 1) (by omega) (rph h code au) (.slice (some ⟨g1, 0, none⟩) m1 e1) (.slice (some ⟨g2, 0, none⟩) m2 e2) (.slice (some ⟨g3, 0, none⟩) m3 e3))
  clear hH S0 R0 X0 L0 C1 C2 C3 a0 a1 a2 a3 RA B1 hb1 hb2 hb3 hg1 hg2 hg3 y1 y2 y3 hl hW0 p0 f0 p1 f1 p2 f2 p3 f3 p4 f4 p5 f5 p6 f6 p7 f7 p8 f8 p9 f9 p10 f10 p11 f11
  go_wp2
  exact bodyPost_ret (v := .agg #[.int .i64 (rph h code au).id, .bool (rph h code au).rp, .bool (rph h code au).au, .bool (rph h code au).ct, .bool (rph h code au).wa, .bool (rph h code au).ca, .int .i64 (rph h code au).code, .string (rph h code au).qn, .int .i64 (rph h code au).qt, .slice (some ⟨g1, 0, none⟩) m1 e1, .slice (some ⟨g2, 0, none⟩) m2 e2, .slice (some ⟨g3, 0, none⟩) m3 e3]) (res1M rfl F.out rfl) rfl ⟨g1, e1, r1, g2, e2, r2, g3, e3, r3, rfl, I1.out, I2.out, I3.out, by omega, n2, n3, E.out⟩

end Go.Proofs.YtmkcjjgicinggaaGreatDoor.RepM

/- What l11First does in the model, and shortened and copyRecords in the program: the first eight records (copied by the model; of a nil slice too in the program). Condition: l11First, shortened: at most 1100000000000 records. -/
namespace Go.Proofs.YtmkcjjgicinggaaGreatDoor.ShoS
open Go.RowKit Go.Proofs.YtmkcjjgicinggaaGreatDoor.Mem Go.Proofs.YtmkcjjgicinggaaGreatDoor.MemR Go.Proofs.YtmkcjjgicinggaaGreatDoor.AppR Go.Proofs.YtmkcjjgicinggaaGreatDoor.CpyR Go.Proofs.YtmkcjjgicinggaaGreatDoor.Wt

/-- The lesser of a length and eight. -/
def m8 (m : Nat) : Nat := if m ≤ 8 then m else 8

theorem m8_le (m : Nat) : m8 m ≤ 8 ∧ m8 m ≤ m := by unfold m8; split <;> omega

theorem m8_len (L : List Rec) {m : Nat} (h : L.length = m) : (L.take 8).length = m8 m := by
  rw [List.length_take, h]
  unfold m8
  split <;> omega

theorem sr_take {w : World} {B m : Nat} {A : Option Addr} {L : List Rec} (h : Sr w B A m L) : Sr w B A (m8 m) (L.take 8) := by
  refine ⟨m8_len L h.1, fun hn => ?_⟩
  obtain ⟨b, off, hA, hb, hc⟩ := h.2 (Nat.lt_of_lt_of_le hn (m8_le m).2)
  refine ⟨b, off, hA, hb, fun j hj => ?_⟩
  rw [List.getElem_take]
  exact hc j (by rw [List.length_take] at hj; omega)

set_option maxHeartbeats 1000000 in
theorem leastI (m : Nat) (w : World) : Calls Tryz.prog 177 #[.int .i64 (m : Int), .int .i64 8] w fun e w' => e = .returned (.int .i64 ((m8 m : Nat) : Int)) ∧ w = w' := by
  by_cases h : m ≤ 8
  · rw [show m8 m = m from if_pos h]
    by_cases h8 : m = 8
    · subst h8
      go_enter Tryz.func177, Tryz.ntmps177
      go_wp2
      go_ret
      exact ⟨rfl, rfl⟩
    · have h1 : (m : Int) < 8 := by omega
      have h2 : ¬ (8 : Int) < (m : Int) := by omega
      go_enter Tryz.func177, Tryz.ntmps177
      go_wp2
      go_ret
      first | exact ⟨rfl, rfl⟩ | exact ⟨congrArg (fun x : Int => Ending.returned (Value.int .i64 x)) (show min (m : Int) 8 = (m : Int) by omega), rfl⟩
  · rw [show m8 m = 8 from if_neg h]
    have h1 : (8 : Int) < (m : Int) := by omega
    have h2 : ¬ (m : Int) < 8 := by omega
    go_enter Tryz.func177, Tryz.ntmps177
    go_wp2
    go_ret
    first | exact ⟨rfl, rfl⟩ | exact ⟨congrArg (fun x : Int => Ending.returned (Value.int .i64 x)) (show min (m : Int) 8 = ((8 : Nat) : Int) by omega), rfl⟩

set_option maxHeartbeats 1000000 in
theorem leastS (m : Nat) (w : World) : Calls Tryz.prog 187 #[.int .i64 (m : Int), .int .i64 8] w fun e w' => e = .returned (.int .i64 ((m8 m : Nat) : Int)) ∧ w = w' := by
  by_cases h : m ≤ 8
  · rw [show m8 m = m from if_pos h]
    have h2 : ¬ (8 : Int) < (m : Int) := by omega
    go_enter Tryz.func187, Tryz.ntmps187
    go_wp2
    go_ret
    exact ⟨rfl, rfl⟩
  · rw [show m8 m = 8 from if_neg h]
    have h1 : (8 : Int) < (m : Int) := by omega
    go_enter Tryz.func187, Tryz.ntmps187
    go_wp2
    go_ret
    exact ⟨rfl, rfl⟩

set_option maxHeartbeats 2000000 in
theorem shortened (A : Option Addr) (m c : Nat) (w : World) (hA : (A = none ∧ m = 0 ∧ c = 0) ∨ ∃ g, A = some ⟨g, 0, none⟩) (hmc : m ≤ c) (hm : m ≤ 1100000000000) :
    Calls Tryz.prog 122 #[.slice A m c] w fun e w' => e = .returned (.slice A (m8 m) c) ∧ w = w' := by
  have LE := Lib.hid (fun W => leastI m W)
  have h8 := m8_le m
  have h9 : m8 m ≤ c := by omega
  rcases hA with ⟨rfl, rfl, rfl⟩ | ⟨g, rfl⟩
  · rw [show m8 0 = 0 from rfl] at *
    go_enter Tryz.func122, Tryz.ntmps122
    go_wp2_with fail
    refine (LE.out _).mono ?_
    rintro e w1 ⟨rfl, rfl⟩
    go_wp2
    go_ret
    exact ⟨rfl, rfl⟩
  · generalize m8 m = k at *
    go_enter Tryz.func122, Tryz.ntmps122
    go_wp2_with fail
    refine (LE.out _).mono ?_
    rintro e w1 ⟨rfl, rfl⟩
    go_wp2
    go_ret
    exact ⟨rfl, rfl⟩

set_option maxHeartbeats 2000000 in
theorem first (g m c : Nat) (L : List Rec) (w : World) (hs : Sr w w.heap.size (some ⟨g, 0, none⟩) m L) (hmc : m ≤ c) :
    Calls Tryz.prog 136 #[.slice (some ⟨g, 0, none⟩) m c] w (GivesC w (m8 m) (L.take 8)) := by
  have LE := Lib.hid (fun W => leastS m W)
  have h8 := m8_le m
  have h9 : m8 m ≤ c := by omega
  have CP := Lib.hid (copyS g 0 (m8 m) c (L.take 8) w (sr_take hs) (by omega))
  clear hs
  generalize m8 m = k at *
  go_enter Tryz.func136, Tryz.ntmps136
  go_wp2_with fail
  refine (LE.out _).mono ?_
  rintro e w1 ⟨rfl, rfl⟩
  go_wp2_with fail
  refine CP.out.mono ?_
  rintro e w1 ⟨g1, c1, r1, rfl, h1, h2, h3, h4⟩
  have H := Lib.hid (And.intro h1 (And.intro h2 (And.intro h3 h4)))
  clear h1 h2 h3 h4
  go_wp2
  go_ret
  exact ⟨g1, c1, r1, rfl, H.out⟩

/-- copyRecords of a slice that may be nil. -/
theorem copyN (A : Option Addr) (n c : Nat) (l : List Rec) (w : World) (hA : (A = none ∧ n = 0 ∧ c = 0) ∨ ∃ g, A = some ⟨g, 0, none⟩) (hs : Sr w w.heap.size A n l) (hn : n ≤ 400000000) : Calls Tryz.prog 61 #[.slice A n c] w (GivesC w n l) := by
  rcases hA with ⟨rfl, rfl, rfl⟩ | ⟨g, rfl⟩
  · obtain rfl : l = [] := List.length_eq_zero_iff.1 hs.1
    have L0 := Lib.hid ((Below.refl w.heap.size w).alloc (Nat.le_refl _) (.cells #[] 93))
    have O0 := Lib.hid (owns_new w)
    have N0 : Hid (Bk (w.alloc (.cells #[] 93)) w.heap.size 93 (fl [] ++ [])) := heap_alloc_new w _
    obtain ⟨i0, hi, hz0, hz1, hz2⟩ := info_parts CopyR.info
    clear hs
    go_enter Tryz.func61, Tryz.ntmps61
    go_wp2_with (at_builtin; refine wpList_append_own_none rfl (.tmp 3) (.tmp 4) 35 rfl w.heap.size 93 i0 6 Tryz.underlying35 hi _ 0 [] rfl O0.out rfl ?_)
    go_wp2
    go_ret
    exact ⟨w.heap.size, 0, [], rfl, Nat.le_refl _, Nat.le_refl _, N0.out, L0.out⟩
  · exact copyI g 0 n c l w hs hn

end Go.Proofs.YtmkcjjgicinggaaGreatDoor.ShoS

/- What ReplyTo does in the program where a section may be nil. Condition: fewer than 400000001 records in each section. -/
namespace Go.Proofs.YtmkcjjgicinggaaGreatDoor.RepN
open Go.RowKit Go.Proofs.YtmkcjjgicinggaaGreatDoor.Mem Go.Proofs.YtmkcjjgicinggaaGreatDoor.MemR Go.Proofs.YtmkcjjgicinggaaGreatDoor.BoxR Go.Proofs.YtmkcjjgicinggaaGreatDoor.MemM Go.Proofs.YtmkcjjgicinggaaGreatDoor.CpyR Go.Proofs.YtmkcjjgicinggaaGreatDoor.ResM Go.Proofs.YtmkcjjgicinggaaGreatDoor.RepM Go.Proofs.YtmkcjjgicinggaaGreatDoor.ShoS

set_option maxRecDepth 100000 in
set_option maxHeartbeats 8000000 in
theorem impl (h : Hd) (A1 A2 A3 : Option Addr) (n1 c1 n2 c2 n3 c3 : Nat) (code : Int) (au : Bool) (B1 : Option Addr) (m1 d1 : Nat) (l1 : List Rec) (B2 : Option Addr) (m2 d2 : Nat) (l2 : List Rec) (B3 : Option Addr) (m3 d3 : Nat) (l3 : List Rec) (w : World)
    (s1 : Sr w w.heap.size B1 m1 l1) (z1 : m1 ≤ 400000000) (p1 : (B1 = none ∧ m1 = 0 ∧ d1 = 0) ∨ ∃ g, B1 = some ⟨g, 0, none⟩) (s2 : Sr w w.heap.size B2 m2 l2) (z2 : m2 ≤ 400000000) (p2 : (B2 = none ∧ m2 = 0 ∧ d2 = 0) ∨ ∃ g, B2 = some ⟨g, 0, none⟩) (s3 : Sr w w.heap.size B3 m3 l3) (z3 : m3 ≤ 400000000) (p3 : (B3 = none ∧ m3 = 0 ∧ d3 = 0) ∨ ∃ g, B3 = some ⟨g, 0, none⟩) :
    Calls Tryz.prog 64 #[.agg #[.int .i64 h.id, .bool h.rp, .bool h.au, .bool h.ct, .bool h.wa, .bool h.ca, .int .i64 h.code, .string h.qn, .int .i64 h.qt, .slice A1 n1 c1, .slice A2 n2 c2, .slice A3 n3 c3], .int .i64 code, .bool au, .slice B1 m1 d1, .slice B2 m2 d2, .slice B3 m3 d3] w (GivesM w (rph h code au) m1 m2 m3 l1 l2 l3) := by
  have C1 : Hid (∀ W : World, ((W.cell? ⟨w.heap.size, 0, none⟩ = some (.int .i64 h.id) ∧ W.cell? ⟨w.heap.size, 4, none⟩ = some (.bool h.wa) ∧ W.cell? ⟨w.heap.size, 7, none⟩ = some (.string h.qn) ∧ W.cell? ⟨w.heap.size, 8, none⟩ = some (.int .i64 h.qt)) ∧ RB W (w.heap.size + 1) ∧ Sv w W) → Calls Tryz.prog 61 #[.slice B1 m1 d1] W (GivesC W m1 l1)) := fun W hW => copyN B1 m1 d1 l1 W p1 (s1.on hW.2.2) z1
  have C2 : Hid (∀ W : World, ((W.cell? ⟨w.heap.size, 0, none⟩ = some (.int .i64 h.id) ∧ W.cell? ⟨w.heap.size, 4, none⟩ = some (.bool h.wa) ∧ W.cell? ⟨w.heap.size, 7, none⟩ = some (.string h.qn) ∧ W.cell? ⟨w.heap.size, 8, none⟩ = some (.int .i64 h.qt)) ∧ RB W (w.heap.size + 1) ∧ Sv w W) → Calls Tryz.prog 61 #[.slice B2 m2 d2] W (GivesC W m2 l2)) := fun W hW => copyN B2 m2 d2 l2 W p2 (s2.on hW.2.2) z2
  have C3 : Hid (∀ W : World, ((W.cell? ⟨w.heap.size, 0, none⟩ = some (.int .i64 h.id) ∧ W.cell? ⟨w.heap.size, 4, none⟩ = some (.bool h.wa) ∧ W.cell? ⟨w.heap.size, 7, none⟩ = some (.string h.qn) ∧ W.cell? ⟨w.heap.size, 8, none⟩ = some (.int .i64 h.qt)) ∧ RB W (w.heap.size + 1) ∧ Sv w W) → Calls Tryz.prog 61 #[.slice B3 m3 d3] W (GivesC W m3 l3)) := fun W hW => copyN B3 m3 d3 l3 W p3 (s3.on hW.2.2) z3
  have X0 := Lib.hid ((mx_new w 45 h (.slice A1 n1 c1) (.slice A2 n2 c2) (.slice A3 n3 c3)).alloc (.cells #[.int .i64 0, .bool false, .bool false, .bool false, .bool false, .bool false, .int .i64 0, .string ⟨#[]⟩, .int .i64 0, .slice none 0 0, .slice none 0 0, .slice none 0 0] 45))
  have R0 := Lib.hid (at2 (w := w) (a := .cells #[.int .i64 h.id, .bool h.rp, .bool h.au, .bool h.ct, .bool h.wa, .bool h.ca, .int .i64 h.code, .string h.qn, .int .i64 h.qt, .slice A1 n1 c1, .slice A2 n2 c2, .slice A3 n3 c3] 45) (cs := #[.int .i64 0, .bool false, .bool false, .bool false, .bool false, .bool false, .int .i64 0, .string ⟨#[]⟩, .int .i64 0, .slice none 0 0, .slice none 0 0, .slice none 0 0]) (t := 45))
  have L0 := Lib.hid (((Below.refl w.heap.size w).alloc (Nat.le_refl _) (.cells #[.int .i64 h.id, .bool h.rp, .bool h.au, .bool h.ct, .bool h.wa, .bool h.ca, .int .i64 h.code, .string h.qn, .int .i64 h.qt, .slice A1 n1 c1, .slice A2 n2 c2, .slice A3 n3 c3] 45)).alloc (by simp) (.cells #[.int .i64 0, .bool false, .bool false, .bool false, .bool false, .bool false, .int .i64 0, .string ⟨#[]⟩, .int .i64 0, .slice none 0 0, .slice none 0 0, .slice none 0 0] 45))
  have S0 : (((w.alloc (.cells #[.int .i64 h.id, .bool h.rp, .bool h.au, .bool h.ct, .bool h.wa, .bool h.ca, .int .i64 h.code, .string h.qn, .int .i64 h.qt, .slice A1 n1 c1, .slice A2 n2 c2, .slice A3 n3 c3] 45)).alloc (.cells #[.int .i64 0, .bool false, .bool false, .bool false, .bool false, .bool false, .int .i64 0, .string ⟨#[]⟩, .int .i64 0, .slice none 0 0, .slice none 0 0, .slice none 0 0] 45)).cell? ⟨w.heap.size, 0, none⟩ = some (.int .i64 h.id) ∧ ((w.alloc (.cells #[.int .i64 h.id, .bool h.rp, .bool h.au, .bool h.ct, .bool h.wa, .bool h.ca, .int .i64 h.code, .string h.qn, .int .i64 h.qt, .slice A1 n1 c1, .slice A2 n2 c2, .slice A3 n3 c3] 45)).alloc (.cells #[.int .i64 0, .bool false, .bool false, .bool false, .bool false, .bool false, .int .i64 0, .string ⟨#[]⟩, .int .i64 0, .slice none 0 0, .slice none 0 0, .slice none 0 0] 45)).cell? ⟨w.heap.size, 4, none⟩ = some (.bool h.wa) ∧ ((w.alloc (.cells #[.int .i64 h.id, .bool h.rp, .bool h.au, .bool h.ct, .bool h.wa, .bool h.ca, .int .i64 h.code, .string h.qn, .int .i64 h.qt, .slice A1 n1 c1, .slice A2 n2 c2, .slice A3 n3 c3] 45)).alloc (.cells #[.int .i64 0, .bool false, .bool false, .bool false, .bool false, .bool false, .int .i64 0, .string ⟨#[]⟩, .int .i64 0, .slice none 0 0, .slice none 0 0, .slice none 0 0] 45)).cell? ⟨w.heap.size, 7, none⟩ = some (.string h.qn) ∧ ((w.alloc (.cells #[.int .i64 h.id, .bool h.rp, .bool h.au, .bool h.ct, .bool h.wa, .bool h.ca, .int .i64 h.code, .string h.qn, .int .i64 h.qt, .slice A1 n1 c1, .slice A2 n2 c2, .slice A3 n3 c3] 45)).alloc (.cells #[.int .i64 0, .bool false, .bool false, .bool false, .bool false, .bool false, .int .i64 0, .string ⟨#[]⟩, .int .i64 0, .slice none 0 0, .slice none 0 0, .slice none 0 0] 45)).cell? ⟨w.heap.size, 8, none⟩ = some (.int .i64 h.qt)) ∧ RB ((w.alloc (.cells #[.int .i64 h.id, .bool h.rp, .bool h.au, .bool h.ct, .bool h.wa, .bool h.ca, .int .i64 h.code, .string h.qn, .int .i64 h.qt, .slice A1 n1 c1, .slice A2 n2 c2, .slice A3 n3 c3] 45)).alloc (.cells #[.int .i64 0, .bool false, .bool false, .bool false, .bool false, .bool false, .int .i64 0, .string ⟨#[]⟩, .int .i64 0, .slice none 0 0, .slice none 0 0, .slice none 0 0] 45)) (w.heap.size + 1) ∧ Sv w ((w.alloc (.cells #[.int .i64 h.id, .bool h.rp, .bool h.au, .bool h.ct, .bool h.wa, .bool h.ca, .int .i64 h.code, .string h.qn, .int .i64 h.qt, .slice A1 n1 c1, .slice A2 n2 c2, .slice A3 n3 c3] 45)).alloc (.cells #[.int .i64 0, .bool false, .bool false, .bool false, .bool false, .bool false, .int .i64 0, .string ⟨#[]⟩, .int .i64 0, .slice none 0 0, .slice none 0 0, .slice none 0 0] 45)) :=
    ⟨⟨X0.out.1, X0.out.2.2.2.2.1, X0.out.2.2.2.2.2.2.2.1, X0.out.2.2.2.2.2.2.2.2.1⟩, ⟨_, rfl, R0.out⟩, L0.out⟩
  clear s1 s2 s3 p1 p2 p3
  generalize hW0 : ((w.alloc (.cells #[.int .i64 h.id, .bool h.rp, .bool h.au, .bool h.ct, .bool h.wa, .bool h.ca, .int .i64 h.code, .string h.qn, .int .i64 h.qt, .slice A1 n1 c1, .slice A2 n2 c2, .slice A3 n3 c3] 45)).alloc (.cells #[.int .i64 0, .bool false, .bool false, .bool false, .bool false, .bool false, .int .i64 0, .string ⟨#[]⟩, .int .i64 0, .slice none 0 0, .slice none 0 0, .slice none 0 0] 45)) = W0 at S0 R0 X0 L0
  go_enter Tryz.func64, Tryz.ntmps64
  go_wp2
  go_region_held3 (fun w' => (w'.cell? ⟨w.heap.size, 0, none⟩ = some (.int .i64 h.id) ∧ w'.cell? ⟨w.heap.size, 4, none⟩ = some (.bool h.wa) ∧ w'.cell? ⟨w.heap.size, 7, none⟩ = some (.string h.qn) ∧ w'.cell? ⟨w.heap.size, 8, none⟩ = some (.int .i64 h.qt)) ∧ RB w' (w.heap.size + 1) ∧ Sv w w')
    (first | with_reducible exact keptR_fil (w1 := w13) (by assumption) _ _ _ _ _ _ _ _ _ _ _ _ | with_reducible exact S0 | with_reducible assumption | with_reducible exact keptR (by assumption) hl | with_reducible exact keptR_draw (by assumption) | fail)
    (first
      | (go_at_call 61; (with_reducible refine (C1.out _ (by assumption)).mono ?_); rintro e w11 ⟨g1, e1, r1, rfl, -, hg1, hb1, hl⟩; have y1 := hl)
      | (go_at_call 61; (with_reducible refine (C2.out _ (by assumption)).mono ?_); rintro e w12 ⟨g2, e2, r2, rfl, -, hg2, hb2, hl⟩; have y2 := hl)
      | (go_at_call 61; (with_reducible refine (C3.out _ (by assumption)).mono ?_); rintro e w13 ⟨g3, e3, r3, rfl, -, hg3, hb3, hl⟩; have y3 := hl; have HR := (keptR (h := h) (by assumption) hl).2.1; have p0 := HR.cell 0 (by decide); have f0 := HR.free 0; have p1 := HR.cell 1 (by decide); have f1 := HR.free 1; have p2 := HR.cell 2 (by decide); have f2 := HR.free 2; have p3 := HR.cell 3 (by decide); have f3 := HR.free 3; have p4 := HR.cell 4 (by decide); have f4 := HR.free 4; have p5 := HR.cell 5 (by decide); have f5 := HR.free 5; have p6 := HR.cell 6 (by decide); have f6 := HR.free 6; have p7 := HR.cell 7 (by decide); have f7 := HR.free 7; have p8 := HR.cell 8 (by decide); have f8 := HR.free 8; have p9 := HR.cell 9 (by decide); have f9 := HR.free 9; have p10 := HR.cell 10 (by decide); have f10 := HR.free 10; have p11 := HR.cell 11 (by decide); have f11 := HR.free 11; clear HR)
      | fail)
  rename_i hH
  have a0 : Below w.heap.size w W0.drew := L0.out.drew
  have a1 := a0.trans (y1.mono a0.size)
  have a2 := a1.trans (y2.mono a1.size)
  have a3 := a2.trans (y3.mono a2.size)
  have RA : Bk w13 (w.heap.size + 1) 45 (mc zh (.slice none 0 0) (.slice none 0 0) (.slice none 0 0)) := by
    have b0 : Bk W0.drew (w.heap.size + 1) 45 (mc zh (.slice none 0 0) (.slice none 0 0) (.slice none 0 0)) := R0.out
    have b1 := b0.below y1 b0.lt
    have b2 := b1.below y2 b1.lt
    exact b2.below y3 b2.lt
  have n1 : w.heap.size + 1 < g1 := Nat.lt_of_lt_of_le R0.out.lt hg1
  have n2 : g1 < g2 := Nat.lt_of_lt_of_le hb1.lt hg2
  have n3 : g2 < g3 := Nat.lt_of_lt_of_le hb2.lt hg3
  have B1 := hb1.below y2 hb1.lt
  have F := Lib.hid (filM_bk RA (rph h code au) (.slice (some ⟨g1, 0, none⟩) m1 e1) (.slice (some ⟨g2, 0, none⟩) m2 e2) (.slice (some ⟨g3, 0, none⟩) m3 e3))
  have E := Lib.hid (filM_below a3 (g := w.heap.size + 1) (by omega) (rph h code au) (.slice (some ⟨g1, 0, none⟩) m1 e1) (.slice (some ⟨g2, 0, none⟩) m2 e2) (.slice (some ⟨g3, 0, none⟩) m3 e3))
  have I1 := Lib.hid (filM_other (B1.below y3 B1.lt) (g := w.heap.size + 1) (by omega) (rph h code au) (.slice (some ⟨g1, 0, none⟩) m1 e1) (.slice (some ⟨g2, 0, none⟩) m2 e2) (.slice (some ⟨g3, 0, none⟩) m3 e3))
  have I2 := Lib.hid (filM_other (hb2.below y3 hb2.lt) (g := w.heap.size + 1) (by omega) (rph h code au) (.slice (some ⟨g1, 0, none⟩) m1 e1) (.slice (some ⟨g2, 0, none⟩) m2 e2) (.slice (some ⟨g3, 0, none⟩) m3 e3))
  have I3 := Lib.hid (filM_other hb3 (g := w.heap.size + 1) (by omega) (rph h code au) (.slice (some ⟨g1, 0, none⟩) m1 e1) (.slice (some ⟨g2, 0, none⟩) m2 e2) (.slice (some ⟨g3, 0, none⟩) m3 e3))
  clear hH S0 R0 X0 L0 C1 C2 C3 a0 a1 a2 a3 RA B1 hb1 hb2 hb3 hg1 hg2 hg3 y1 y2 y3 hl hW0 p0 f0 p1 f1 p2 f2 p3 f3 p4 f4 p5 f5 p6 f6 p7 f7 p8 f8 p9 f9 p10 f10 p11 f11
  go_wp2
  exact bodyPost_ret (v := .agg #[.int .i64 (rph h code au).id, .bool (rph h code au).rp, .bool (rph h code au).au, .bool (rph h code au).ct, .bool (rph h code au).wa, .bool (rph h code au).ca, .int .i64 (rph h code au).code, .string (rph h code au).qn, .int .i64 (rph h code au).qt, .slice (some ⟨g1, 0, none⟩) m1 e1, .slice (some ⟨g2, 0, none⟩) m2 e2, .slice (some ⟨g3, 0, none⟩) m3 e3]) (res1M rfl F.out rfl) rfl ⟨g1, e1, r1, g2, e2, r2, g3, e3, r3, rfl, I1.out, I2.out, I3.out, by omega, n2, n3, E.out⟩

end Go.Proofs.YtmkcjjgicinggaaGreatDoor.RepN
