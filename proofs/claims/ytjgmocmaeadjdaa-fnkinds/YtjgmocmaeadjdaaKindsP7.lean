/- What KindText does in the model and in the program: the text of a kind of reply, or the empty text. -/
import Derived.Test.YtjgmocmaeadjdaaKindsP6
import Derived.Laws.EntriesVeiled
import Derived.Test.YtjgmocmaeadjdaaKindsP3
import Derived.Test.YtjgmocmaeadjdaaCpyR
import Derived.Test.YtjgmocmaeadjdaaWt
import Derived.Laws.AppendOwnNone
import Derived.Test.YtjgmocmaeadjdaaKindsP4
import Derived.Test.YtjgmocmaeadjdaaKindsP1
import Derived.Test.YtjgmocmaeadjdaaKindsP2
import Derived.Deep.RegionHeld3
import Derived.Test.YtjgmocmaeadjdaaMem
/- What contentOf does in the program: the content of the reply of a question's kind, by a function value out of an array (a drawn region that fills the result's box). Condition: at most 1048576 records, no name of more than 400000000 bytes. -/
namespace Go.Proofs.Ytjgmocmaeadjdaa.ContI
open Go.RowKit Go.Proofs.Ytjgmocmaeadjdaa.Mem Go.Proofs.Ytjgmocmaeadjdaa.MemR Go.Proofs.Ytjgmocmaeadjdaa.SetMath Go.Proofs.Ytjgmocmaeadjdaa.NameMath Go.Proofs.Ytjgmocmaeadjdaa.ZoneMath Go.Proofs.Ytjgmocmaeadjdaa.ServeMath Go.Proofs.Ytjgmocmaeadjdaa.MemZ Go.Proofs.Ytjgmocmaeadjdaa.MemM Go.Proofs.Ytjgmocmaeadjdaa.KindS Go.Proofs.Ytjgmocmaeadjdaa.ResC Go.Proofs.Ytjgmocmaeadjdaa.ConI Go.Proofs.Ytjgmocmaeadjdaa.RefI

section
variable {w0 w w1 w' : World} {g h k a i : Nat} {s nm : ByteArray} {ty : Int} {x v : Value}

theorem keptK (m : (((w.cell? ⟨g, 0, none⟩ = some (.string s) ∧ w.cell? ⟨g, 1, none⟩ = some x) ∧ (w.cell? ⟨h, 0, none⟩ = some (.string nm) ∧ w.cell? ⟨h, 1, none⟩ = some (.int .i64 ty)) ∧ w.cell? ⟨a, i, none⟩ = some v) ∧ RC w k) ∧ Svz w0 w) (hl : Below w.heap.size w w') : (((w'.cell? ⟨g, 0, none⟩ = some (.string s) ∧ w'.cell? ⟨g, 1, none⟩ = some x) ∧ (w'.cell? ⟨h, 0, none⟩ = some (.string nm) ∧ w'.cell? ⟨h, 1, none⟩ = some (.int .i64 ty)) ∧ w'.cell? ⟨a, i, none⟩ = some v) ∧ RC w' k) ∧ Svz w0 w' :=
  ⟨⟨⟨Zx.below m.1.1.1 hl, Qx.below m.1.1.2.1 hl, (hl.cell (p := ⟨a, i, none⟩) (World.block_lt_of_cell? _ _ m.1.1.2.2)).trans m.1.1.2.2⟩, m.1.2.below hl⟩, m.2.trans (hl.mono m.2.size)⟩

theorem keptK_draw (m : (((w.cell? ⟨g, 0, none⟩ = some (.string s) ∧ w.cell? ⟨g, 1, none⟩ = some x) ∧ (w.cell? ⟨h, 0, none⟩ = some (.string nm) ∧ w.cell? ⟨h, 1, none⟩ = some (.int .i64 ty)) ∧ w.cell? ⟨a, i, none⟩ = some v) ∧ RC w k) ∧ Svz w0 w) : (((w.drew.cell? ⟨g, 0, none⟩ = some (.string s) ∧ w.drew.cell? ⟨g, 1, none⟩ = some x) ∧ (w.drew.cell? ⟨h, 0, none⟩ = some (.string nm) ∧ w.drew.cell? ⟨h, 1, none⟩ = some (.int .i64 ty)) ∧ w.drew.cell? ⟨a, i, none⟩ = some v) ∧ RC w.drew k) ∧ Svz w0 w.drew := keptK m ((Below.refl _ _).drew)

theorem keptK_put (m : (((w.cell? ⟨g, 0, none⟩ = some (.string s) ∧ w.cell? ⟨g, 1, none⟩ = some x) ∧ (w.cell? ⟨h, 0, none⟩ = some (.string nm) ∧ w.cell? ⟨h, 1, none⟩ = some (.int .i64 ty)) ∧ w.cell? ⟨a, i, none⟩ = some v) ∧ RC w k) ∧ Svz w0 w) (h1 : g ≠ k) (h2 : h ≠ k) (h4 : a ≠ k) (h3 : w0.heap.size ≤ k) (j : Nat) (u : Value) : ((((w.setCell ⟨k, j, none⟩ u).cell? ⟨g, 0, none⟩ = some (.string s) ∧ (w.setCell ⟨k, j, none⟩ u).cell? ⟨g, 1, none⟩ = some x) ∧ ((w.setCell ⟨k, j, none⟩ u).cell? ⟨h, 0, none⟩ = some (.string nm) ∧ (w.setCell ⟨k, j, none⟩ u).cell? ⟨h, 1, none⟩ = some (.int .i64 ty)) ∧ (w.setCell ⟨k, j, none⟩ u).cell? ⟨a, i, none⟩ = some v) ∧ RC (w.setCell ⟨k, j, none⟩ u) k) ∧ Svz w0 (w.setCell ⟨k, j, none⟩ u) := by
  have e : ∀ b c : Nat, b ≠ k → (w.setCell ⟨k, j, none⟩ u).cell? ⟨b, c, none⟩ = w.cell? ⟨b, c, none⟩ := fun b c hb => World.cell?_of_block (Below.heap_setCell w ⟨k, j, none⟩ u b hb)
  exact ⟨⟨⟨⟨(e g 0 h1).trans m.1.1.1.1, (e g 1 h1).trans m.1.1.1.2⟩, ⟨(e h 0 h2).trans m.1.1.2.1.1, (e h 1 h2).trans m.1.1.2.1.2⟩, (e a i h4).trans m.1.1.2.2⟩, m.1.2.put j u⟩, Below.setCell m.2 (p := ⟨k, j, none⟩) h3 u⟩

theorem keptK_fil (m : (((w1.cell? ⟨g, 0, none⟩ = some (.string s) ∧ w1.cell? ⟨g, 1, none⟩ = some x) ∧ (w1.cell? ⟨h, 0, none⟩ = some (.string nm) ∧ w1.cell? ⟨h, 1, none⟩ = some (.int .i64 ty)) ∧ w1.cell? ⟨a, i, none⟩ = some v) ∧ RC w1 k) ∧ Svz w0 w1) (h1 : g ≠ k) (h2 : h ≠ k) (h4 : a ≠ k) (h3 : w0.heap.size ≤ k) (v0 v1 v2 v3 v4 : Value) : ((((((((w1.setCell ⟨k, 0, none⟩ v0).setCell ⟨k, 1, none⟩ v1).setCell ⟨k, 2, none⟩ v2).setCell ⟨k, 3, none⟩ v3).setCell ⟨k, 4, none⟩ v4).cell? ⟨g, 0, none⟩ = some (.string s) ∧ (((((w1.setCell ⟨k, 0, none⟩ v0).setCell ⟨k, 1, none⟩ v1).setCell ⟨k, 2, none⟩ v2).setCell ⟨k, 3, none⟩ v3).setCell ⟨k, 4, none⟩ v4).cell? ⟨g, 1, none⟩ = some x) ∧ ((((((w1.setCell ⟨k, 0, none⟩ v0).setCell ⟨k, 1, none⟩ v1).setCell ⟨k, 2, none⟩ v2).setCell ⟨k, 3, none⟩ v3).setCell ⟨k, 4, none⟩ v4).cell? ⟨h, 0, none⟩ = some (.string nm) ∧ (((((w1.setCell ⟨k, 0, none⟩ v0).setCell ⟨k, 1, none⟩ v1).setCell ⟨k, 2, none⟩ v2).setCell ⟨k, 3, none⟩ v3).setCell ⟨k, 4, none⟩ v4).cell? ⟨h, 1, none⟩ = some (.int .i64 ty)) ∧ (((((w1.setCell ⟨k, 0, none⟩ v0).setCell ⟨k, 1, none⟩ v1).setCell ⟨k, 2, none⟩ v2).setCell ⟨k, 3, none⟩ v3).setCell ⟨k, 4, none⟩ v4).cell? ⟨a, i, none⟩ = some v) ∧ RC (((((w1.setCell ⟨k, 0, none⟩ v0).setCell ⟨k, 1, none⟩ v1).setCell ⟨k, 2, none⟩ v2).setCell ⟨k, 3, none⟩ v3).setCell ⟨k, 4, none⟩ v4) k) ∧ Svz w0 (((((w1.setCell ⟨k, 0, none⟩ v0).setCell ⟨k, 1, none⟩ v1).setCell ⟨k, 2, none⟩ v2).setCell ⟨k, 3, none⟩ v3).setCell ⟨k, 4, none⟩ v4) :=
  keptK_put (keptK_put (keptK_put (keptK_put (keptK_put m h1 h2 h4 h3 0 v0) h1 h2 h4 h3 1 v1) h1 h2 h4 h3 2 v2) h1 h2 h4 h3 3 v3) h1 h2 h4 h3 4 v4
end

/-- The content of a reply of the kind k. -/
def GivesQ (w : World) (k : Int) (s nm : ByteArray) (ty : Int) (l : List Rec) (e : Ending) (w' : World) : Prop := GivesK w (rcd k) (aut k) (anl k nm ty l) (mol k s nm l) (hel k s nm l) e w'

theorem cases (w : World) (s nm : ByteArray) (ty : Int) (l : List Rec) (e : Ending) (w' : World) (k : Int) :
    (k = 0 → GivesK w 5 false [] [] [] e w' → GivesQ w k s nm ty l e w') ∧ (k = 1 → GivesK w 0 false [] (sf (cu s nm l) 2 l) (gl (uq (hl (sf (cu s nm l) 2 l))) l) e w' → GivesQ w k s nm ty l e w') ∧ (k = 2 → GivesK w 0 true (sf nm 5 l) [] [] e w' → GivesQ w k s nm ty l e w') ∧ (k = 3 → GivesK w 0 true (sf nm ty l) [] [] e w' → GivesQ w k s nm ty l e w') ∧ (k = 4 → GivesK w 0 true [] [st l] [] e w' → GivesQ w k s nm ty l e w') ∧ (k = 5 → GivesK w 3 true [] [st l] [] e w' → GivesQ w k s nm ty l e w') := by
  refine ⟨fun h x => ?_, fun h x => ?_, fun h x => ?_, fun h x => ?_, fun h x => ?_, fun h x => ?_⟩ <;> subst h <;> exact x

set_option maxRecDepth 100000 in
set_option maxHeartbeats 16000000 in
theorem impl (s nm : ByteArray) (ty : Int) (b0 o0 n c : Nat) (l : List Rec) (w : World) (hs : Sr w w.heap.size (some ⟨b0, o0, none⟩) n l) (hn : n ≤ 1048576) (hm : s.size ≤ 400000000) (hq : nm.size ≤ 400000000) (hz : ∀ r ∈ l, r.name.size ≤ 400000000) :
    Calls Try.prog 35 #[.agg #[.string s, .slice (some ⟨b0, o0, none⟩) n c], .agg #[.string nm, .int .i64 ty]] w (GivesQ w (kd s nm ty l) s nm ty l) := by
  obtain ⟨⟨hx, hy⟩, hb0, hl0⟩ := three w s nm ty (.slice (some ⟨b0, o0, none⟩) n c) 26 28 58 0 false
  have al : Below (((w.alloc (.cells #[.string s, .slice (some ⟨b0, o0, none⟩) n c] 26)).alloc (.cells #[.string nm, .int .i64 ty] 28)).alloc (.cells #[.int .i64 0, .bool false, .slice none 0 0, .slice none 0 0, .slice none 0 0] 58)).heap.size (((w.alloc (.cells #[.string s, .slice (some ⟨b0, o0, none⟩) n c] 26)).alloc (.cells #[.string nm, .int .i64 ty] 28)).alloc (.cells #[.int .i64 0, .bool false, .slice none 0 0, .slice none 0 0, .slice none 0 0] 58)) ((((w.alloc (.cells #[.string s, .slice (some ⟨b0, o0, none⟩) n c] 26)).alloc (.cells #[.string nm, .int .i64 ty] 28)).alloc (.cells #[.int .i64 0, .bool false, .slice none 0 0, .slice none 0 0, .slice none 0 0] 58)).alloc (.cells #[.func (.func 54) #[] #[], .func (.func 55) #[] #[], .func (.func 56) #[] #[], .func (.func 57) #[] #[], .func (.func 58) #[] #[], .func (.func 59) #[] #[]] 77)) := (Below.refl _ _).alloc (Nat.le_refl _) _
  have X0 := Lib.hid (hx.below al)
  have Y0 := Lib.hid (hy.below al)
  have R0 := Lib.hid (hb0.below al hb0.lt)
  have L0 := Lib.hid (hl0.trans (al.mono hl0.size))
  have N0 : Hid (Bk ((((w.alloc (.cells #[.string s, .slice (some ⟨b0, o0, none⟩) n c] 26)).alloc (.cells #[.string nm, .int .i64 ty] 28)).alloc (.cells #[.int .i64 0, .bool false, .slice none 0 0, .slice none 0 0, .slice none 0 0] 58)).alloc (.cells #[.func (.func 54) #[] #[], .func (.func 55) #[] #[], .func (.func 56) #[] #[], .func (.func 57) #[] #[], .func (.func 58) #[] #[], .func (.func 59) #[] #[]] 77)) (w.heap.size + 1 + 1 + 1) 77 [.func (.func 54) #[] #[], .func (.func 55) #[] #[], .func (.func 56) #[] #[], .func (.func 57) #[] #[], .func (.func 58) #[] #[], .func (.func 59) #[] #[]]) := by
    have := heap_alloc_new (((w.alloc (.cells #[.string s, .slice (some ⟨b0, o0, none⟩) n c] 26)).alloc (.cells #[.string nm, .int .i64 ty] 28)).alloc (.cells #[.int .i64 0, .bool false, .slice none 0 0, .slice none 0 0, .slice none 0 0] 58)) (.cells #[.func (.func 54) #[] #[], .func (.func 55) #[] #[], .func (.func 56) #[] #[], .func (.func 57) #[] #[], .func (.func 58) #[] #[], .func (.func 59) #[] #[]] 77)
    rw [show (((w.alloc (.cells #[.string s, .slice (some ⟨b0, o0, none⟩) n c] 26)).alloc (.cells #[.string nm, .int .i64 ty] 28)).alloc (.cells #[.int .i64 0, .bool false, .slice none 0 0, .slice none 0 0, .slice none 0 0] 58)).heap.size = w.heap.size + 1 + 1 + 1 by simp] at this
    exact this
  have HS := Lib.hid hs
  clear hx hy hb0 hl0 al hs
  have KI := Lib.hid (fun W hW => KindI.impl s nm ty b0 o0 n c l W hW (by omega) hm hq hz)
  have G0 := Lib.hid (fun (W : World) (hW : True ∧ Svz w W) => ConI.refusal s nm ty b0 o0 n c W)
  have G1 := Lib.hid (fun (W : World) (hW : True ∧ Svz w W) => RefI.referral s nm ty b0 o0 n c l W (HS.out.on hW.2) hn hm hq hz)
  have G2 := Lib.hid (fun (W : World) (hW : True ∧ Svz w W) => ConI.aliasReply s nm ty b0 o0 n c l W (HS.out.on hW.2) hn)
  have G3 := Lib.hid (fun (W : World) (hW : True ∧ Svz w W) => ConI.setReply s nm ty b0 o0 n c l W (HS.out.on hW.2) hn)
  have G4 := Lib.hid (fun (W : World) (hW : True ∧ Svz w W) => ConI.noDataReply s nm ty b0 o0 n c l W (HS.out.on hW.2) hn hm hz)
  have G5 := Lib.hid (fun (W : World) (hW : True ∧ Svz w W) => ConI.noNameReply s nm ty b0 o0 n c l W (HS.out.on hW.2) hn hm hz)
  clear hz
  have K6 := kd_six s nm ty l
  have KE := Lib.hid (fun (W W' : World) (e : Ending) => cases W s nm ty l e W' (kd s nm ty l))
  generalize kd s nm ty l = k at *
  have n1 : w.heap.size ≠ w.heap.size + 1 + 1 := by omega
  have n2 : w.heap.size + 1 ≠ w.heap.size + 1 + 1 := by omega
  have n4 : w.heap.size + 1 + 1 + 1 ≠ w.heap.size + 1 + 1 := by omega
  have n3 : w.heap.size ≤ w.heap.size + 1 + 1 := by omega
  go_enter Try.func35, Try.ntmps35
  go_wp2
  generalize (((w.alloc (.cells #[.string s, .slice (some ⟨b0, o0, none⟩) n c] 26)).alloc (.cells #[.string nm, .int .i64 ty] 28)).alloc (.cells #[.int .i64 0, .bool false, .slice none 0 0, .slice none 0 0, .slice none 0 0] 58)).alloc (.cells #[.func (.func 54) #[] #[], .func (.func 55) #[] #[], .func (.func 56) #[] #[], .func (.func 57) #[] #[], .func (.func 58) #[] #[], .func (.func 59) #[] #[]] 77) = W0 at *
  rcases K6 with hk | hk | hk | hk | hk | hk
  · have KJ : Hid (∀ (e : Ending) (w' : World), GivesK w 5 false [] [] [] e w' → GivesQ w k s nm ty l e w') := fun e w' => (KE.out _ _ _).1 hk
    subst hk
    have KIR : Hid (∀ W : World, (((W.cell? ⟨w.heap.size, 0, none⟩ = some (.string s) ∧ W.cell? ⟨w.heap.size, 1, none⟩ = some (.slice (some ⟨b0, o0, none⟩) n c)) ∧ (W.cell? ⟨w.heap.size + 1, 0, none⟩ = some (.string nm) ∧ W.cell? ⟨w.heap.size + 1, 1, none⟩ = some (.int .i64 ty)) ∧ W.cell? ⟨w.heap.size + 1 + 1 + 1, 0, none⟩ = some (.func (.func 54) #[] #[])) ∧ RC W (w.heap.size + 1 + 1)) ∧ Svz w W → Calls Try.prog 8 #[.agg #[.string s, .slice (some ⟨b0, o0, none⟩) n c], .agg #[.string nm, .int .i64 ty]] W fun e w' => e = .returned (.int .i64 0) ∧ Below W.heap.size W w') := fun W hW => KI.out W (HS.out.on hW.2)
    have GR : Hid (∀ W : World, (((W.cell? ⟨w.heap.size, 0, none⟩ = some (.string s) ∧ W.cell? ⟨w.heap.size, 1, none⟩ = some (.slice (some ⟨b0, o0, none⟩) n c)) ∧ (W.cell? ⟨w.heap.size + 1, 0, none⟩ = some (.string nm) ∧ W.cell? ⟨w.heap.size + 1, 1, none⟩ = some (.int .i64 ty)) ∧ W.cell? ⟨w.heap.size + 1 + 1 + 1, 0, none⟩ = some (.func (.func 54) #[] #[])) ∧ RC W (w.heap.size + 1 + 1)) ∧ Svz w W → Calls Try.prog 54 #[.agg #[.string s, .slice (some ⟨b0, o0, none⟩) n c], .agg #[.string nm, .int .i64 ty]] W (GivesK W 5 false [] [] [])) := fun W hW => G0.out W ⟨trivial, hW.2⟩
    have SS0 : (((W0.cell? ⟨w.heap.size, 0, none⟩ = some (.string s) ∧ W0.cell? ⟨w.heap.size, 1, none⟩ = some (.slice (some ⟨b0, o0, none⟩) n c)) ∧ (W0.cell? ⟨w.heap.size + 1, 0, none⟩ = some (.string nm) ∧ W0.cell? ⟨w.heap.size + 1, 1, none⟩ = some (.int .i64 ty)) ∧ W0.cell? ⟨w.heap.size + 1 + 1 + 1, 0, none⟩ = some (.func (.func 54) #[] #[])) ∧ RC W0 (w.heap.size + 1 + 1)) ∧ Svz w W0 := ⟨⟨⟨X0.out, Y0.out, N0.out.cell 0⟩, ⟨_, rfl, R0.out⟩⟩, L0.out⟩
    clear X0 Y0 N0 KI G0 G1 G2 G3 G4 G5 KE
    go_region_held3 (fun w' => (((w'.cell? ⟨w.heap.size, 0, none⟩ = some (.string s) ∧ w'.cell? ⟨w.heap.size, 1, none⟩ = some (.slice (some ⟨b0, o0, none⟩) n c)) ∧ (w'.cell? ⟨w.heap.size + 1, 0, none⟩ = some (.string nm) ∧ w'.cell? ⟨w.heap.size + 1, 1, none⟩ = some (.int .i64 ty)) ∧ w'.cell? ⟨w.heap.size + 1 + 1 + 1, 0, none⟩ = some (.func (.func 54) #[] #[])) ∧ RC w' (w.heap.size + 1 + 1)) ∧ Svz w w')
      (first | with_reducible exact keptK_fil (w1 := w4) (by assumption) n1 n2 n4 n3 _ _ _ _ _ | with_reducible exact SS0 | with_reducible assumption | with_reducible exact keptK (by assumption) hl | with_reducible exact keptK_draw (by assumption) | fail)
      (first
        | (go_at_call 8; (with_reducible refine (KIR.out _ (by assumption)).mono ?_); rintro e w2 ⟨rfl, hl⟩; have y1 := hl)
        | (go_at_call 54; (with_reducible refine (GR.out _ (by assumption)).mono ?_); rintro e w4 ⟨A1, m1, c1, A2, m2, c2, A3, m3, c3, rfl, q1, q2, q3, hl⟩; have y2 := hl; have HR := (keptK (by assumption) hl).1.2; have p0 := HR.cell 0 (by decide); have f0 := HR.free 0; have p1 := HR.cell 1 (by decide); have f1 := HR.free 1; have p2 := HR.cell 2 (by decide); have f2 := HR.free 2; have p3 := HR.cell 3 (by decide); have f3 := HR.free 3; have p4 := HR.cell 4 (by decide); have f4 := HR.free 4; clear HR)
        | fail)
    rename_i hH
    have a0 : Below w.heap.size w W0.drew := L0.out.drew
    have a1 := a0.trans (y1.mono a0.size)
    have a2 := a1.trans (y2.mono a1.size)
    have RA : RC w4 (w.heap.size + 1 + 1) := by
      have b0 : RC W0.drew (w.heap.size + 1 + 1) := ⟨_, rfl, R0.out⟩
      exact (b0.below y1).below y2
    have G4 : w.heap.size + 1 + 1 < w2.heap.size := Nat.lt_of_lt_of_le (show w.heap.size + 1 + 1 < W0.drew.heap.size from R0.out.lt) y1.size
    have F := Lib.hid (RA.fil 5 false (.slice A1 m1 c1) (.slice A2 m2 c2) (.slice A3 m3 c3))
    have E := Lib.hid (filC_below a2 (g := w.heap.size + 1 + 1) (by omega) 5 false (.slice A1 m1 c1) (.slice A2 m2 c2) (.slice A3 m3 c3))
    have Q1 := Lib.hid ((q1.fil G4 5 false (.slice A1 m1 c1) (.slice A2 m2 c2) (.slice A3 m3 c3)).low (show w.heap.size ≤ w2.heap.size by omega))
    have Q2 := Lib.hid ((q2.fil G4 5 false (.slice A1 m1 c1) (.slice A2 m2 c2) (.slice A3 m3 c3)).low (show w.heap.size ≤ w2.heap.size by omega))
    have Q3 := Lib.hid ((q3.fil G4 5 false (.slice A1 m1 c1) (.slice A2 m2 c2) (.slice A3 m3 c3)).low (show w.heap.size ≤ w2.heap.size by omega))
    clear hH SS0 KIR GR a0 a1 a2 RA R0 L0 y1 y2 hl G4 q1 q2 q3 p0 f0 p1 f1 p2 f2 p3 f3 p4 f4
    go_wp2
    exact bodyPost_ret (v := .agg #[.int .i64 5, .bool false, .slice A1 m1 c1, .slice A2 m2 c2, .slice A3 m3 c3]) (res1C rfl F.out rfl) rfl (KJ.out _ _ ⟨_, _, _, _, _, _, _, _, _, rfl, Q1.out, Q2.out, Q3.out, E.out⟩)
  · have KJ : Hid (∀ (e : Ending) (w' : World), GivesK w 0 false [] (sf (cu s nm l) 2 l) (gl (uq (hl (sf (cu s nm l) 2 l))) l) e w' → GivesQ w k s nm ty l e w') := fun e w' => (KE.out _ _ _).2.1 hk
    subst hk
    have KIR : Hid (∀ W : World, (((W.cell? ⟨w.heap.size, 0, none⟩ = some (.string s) ∧ W.cell? ⟨w.heap.size, 1, none⟩ = some (.slice (some ⟨b0, o0, none⟩) n c)) ∧ (W.cell? ⟨w.heap.size + 1, 0, none⟩ = some (.string nm) ∧ W.cell? ⟨w.heap.size + 1, 1, none⟩ = some (.int .i64 ty)) ∧ W.cell? ⟨w.heap.size + 1 + 1 + 1, 1, none⟩ = some (.func (.func 55) #[] #[])) ∧ RC W (w.heap.size + 1 + 1)) ∧ Svz w W → Calls Try.prog 8 #[.agg #[.string s, .slice (some ⟨b0, o0, none⟩) n c], .agg #[.string nm, .int .i64 ty]] W fun e w' => e = .returned (.int .i64 1) ∧ Below W.heap.size W w') := fun W hW => KI.out W (HS.out.on hW.2)
    have GR : Hid (∀ W : World, (((W.cell? ⟨w.heap.size, 0, none⟩ = some (.string s) ∧ W.cell? ⟨w.heap.size, 1, none⟩ = some (.slice (some ⟨b0, o0, none⟩) n c)) ∧ (W.cell? ⟨w.heap.size + 1, 0, none⟩ = some (.string nm) ∧ W.cell? ⟨w.heap.size + 1, 1, none⟩ = some (.int .i64 ty)) ∧ W.cell? ⟨w.heap.size + 1 + 1 + 1, 1, none⟩ = some (.func (.func 55) #[] #[])) ∧ RC W (w.heap.size + 1 + 1)) ∧ Svz w W → Calls Try.prog 55 #[.agg #[.string s, .slice (some ⟨b0, o0, none⟩) n c], .agg #[.string nm, .int .i64 ty]] W (GivesK W 0 false [] (sf (cu s nm l) 2 l) (gl (uq (hl (sf (cu s nm l) 2 l))) l))) := fun W hW => G1.out W ⟨trivial, hW.2⟩
    have SS0 : (((W0.cell? ⟨w.heap.size, 0, none⟩ = some (.string s) ∧ W0.cell? ⟨w.heap.size, 1, none⟩ = some (.slice (some ⟨b0, o0, none⟩) n c)) ∧ (W0.cell? ⟨w.heap.size + 1, 0, none⟩ = some (.string nm) ∧ W0.cell? ⟨w.heap.size + 1, 1, none⟩ = some (.int .i64 ty)) ∧ W0.cell? ⟨w.heap.size + 1 + 1 + 1, 1, none⟩ = some (.func (.func 55) #[] #[])) ∧ RC W0 (w.heap.size + 1 + 1)) ∧ Svz w W0 := ⟨⟨⟨X0.out, Y0.out, N0.out.cell 1⟩, ⟨_, rfl, R0.out⟩⟩, L0.out⟩
    clear X0 Y0 N0 KI G0 G1 G2 G3 G4 G5 KE
    go_region_held3 (fun w' => (((w'.cell? ⟨w.heap.size, 0, none⟩ = some (.string s) ∧ w'.cell? ⟨w.heap.size, 1, none⟩ = some (.slice (some ⟨b0, o0, none⟩) n c)) ∧ (w'.cell? ⟨w.heap.size + 1, 0, none⟩ = some (.string nm) ∧ w'.cell? ⟨w.heap.size + 1, 1, none⟩ = some (.int .i64 ty)) ∧ w'.cell? ⟨w.heap.size + 1 + 1 + 1, 1, none⟩ = some (.func (.func 55) #[] #[])) ∧ RC w' (w.heap.size + 1 + 1)) ∧ Svz w w')
      (first | with_reducible exact keptK_fil (w1 := w4) (by assumption) n1 n2 n4 n3 _ _ _ _ _ | with_reducible exact SS0 | with_reducible assumption | with_reducible exact keptK (by assumption) hl | with_reducible exact keptK_draw (by assumption) | fail)
      (first
        | (go_at_call 8; (with_reducible refine (KIR.out _ (by assumption)).mono ?_); rintro e w2 ⟨rfl, hl⟩; have y1 := hl)
        | (go_at_call 55; (with_reducible refine (GR.out _ (by assumption)).mono ?_); rintro e w4 ⟨A1, m1, c1, A2, m2, c2, A3, m3, c3, rfl, q1, q2, q3, hl⟩; have y2 := hl; have HR := (keptK (by assumption) hl).1.2; have p0 := HR.cell 0 (by decide); have f0 := HR.free 0; have p1 := HR.cell 1 (by decide); have f1 := HR.free 1; have p2 := HR.cell 2 (by decide); have f2 := HR.free 2; have p3 := HR.cell 3 (by decide); have f3 := HR.free 3; have p4 := HR.cell 4 (by decide); have f4 := HR.free 4; clear HR)
        | fail)
    rename_i hH
    have a0 : Below w.heap.size w W0.drew := L0.out.drew
    have a1 := a0.trans (y1.mono a0.size)
    have a2 := a1.trans (y2.mono a1.size)
    have RA : RC w4 (w.heap.size + 1 + 1) := by
      have b0 : RC W0.drew (w.heap.size + 1 + 1) := ⟨_, rfl, R0.out⟩
      exact (b0.below y1).below y2
    have G4 : w.heap.size + 1 + 1 < w2.heap.size := Nat.lt_of_lt_of_le (show w.heap.size + 1 + 1 < W0.drew.heap.size from R0.out.lt) y1.size
    have F := Lib.hid (RA.fil 0 false (.slice A1 m1 c1) (.slice A2 m2 c2) (.slice A3 m3 c3))
    have E := Lib.hid (filC_below a2 (g := w.heap.size + 1 + 1) (by omega) 0 false (.slice A1 m1 c1) (.slice A2 m2 c2) (.slice A3 m3 c3))
    have Q1 := Lib.hid ((q1.fil G4 0 false (.slice A1 m1 c1) (.slice A2 m2 c2) (.slice A3 m3 c3)).low (show w.heap.size ≤ w2.heap.size by omega))
    have Q2 := Lib.hid ((q2.fil G4 0 false (.slice A1 m1 c1) (.slice A2 m2 c2) (.slice A3 m3 c3)).low (show w.heap.size ≤ w2.heap.size by omega))
    have Q3 := Lib.hid ((q3.fil G4 0 false (.slice A1 m1 c1) (.slice A2 m2 c2) (.slice A3 m3 c3)).low (show w.heap.size ≤ w2.heap.size by omega))
    clear hH SS0 KIR GR a0 a1 a2 RA R0 L0 y1 y2 hl G4 q1 q2 q3 p0 f0 p1 f1 p2 f2 p3 f3 p4 f4
    go_wp2
    exact bodyPost_ret (v := .agg #[.int .i64 0, .bool false, .slice A1 m1 c1, .slice A2 m2 c2, .slice A3 m3 c3]) (res1C rfl F.out rfl) rfl (KJ.out _ _ ⟨_, _, _, _, _, _, _, _, _, rfl, Q1.out, Q2.out, Q3.out, E.out⟩)
  · have KJ : Hid (∀ (e : Ending) (w' : World), GivesK w 0 true (sf nm 5 l) [] [] e w' → GivesQ w k s nm ty l e w') := fun e w' => (KE.out _ _ _).2.2.1 hk
    subst hk
    have KIR : Hid (∀ W : World, (((W.cell? ⟨w.heap.size, 0, none⟩ = some (.string s) ∧ W.cell? ⟨w.heap.size, 1, none⟩ = some (.slice (some ⟨b0, o0, none⟩) n c)) ∧ (W.cell? ⟨w.heap.size + 1, 0, none⟩ = some (.string nm) ∧ W.cell? ⟨w.heap.size + 1, 1, none⟩ = some (.int .i64 ty)) ∧ W.cell? ⟨w.heap.size + 1 + 1 + 1, 2, none⟩ = some (.func (.func 56) #[] #[])) ∧ RC W (w.heap.size + 1 + 1)) ∧ Svz w W → Calls Try.prog 8 #[.agg #[.string s, .slice (some ⟨b0, o0, none⟩) n c], .agg #[.string nm, .int .i64 ty]] W fun e w' => e = .returned (.int .i64 2) ∧ Below W.heap.size W w') := fun W hW => KI.out W (HS.out.on hW.2)
    have GR : Hid (∀ W : World, (((W.cell? ⟨w.heap.size, 0, none⟩ = some (.string s) ∧ W.cell? ⟨w.heap.size, 1, none⟩ = some (.slice (some ⟨b0, o0, none⟩) n c)) ∧ (W.cell? ⟨w.heap.size + 1, 0, none⟩ = some (.string nm) ∧ W.cell? ⟨w.heap.size + 1, 1, none⟩ = some (.int .i64 ty)) ∧ W.cell? ⟨w.heap.size + 1 + 1 + 1, 2, none⟩ = some (.func (.func 56) #[] #[])) ∧ RC W (w.heap.size + 1 + 1)) ∧ Svz w W → Calls Try.prog 56 #[.agg #[.string s, .slice (some ⟨b0, o0, none⟩) n c], .agg #[.string nm, .int .i64 ty]] W (GivesK W 0 true (sf nm 5 l) [] [])) := fun W hW => G2.out W ⟨trivial, hW.2⟩
    have SS0 : (((W0.cell? ⟨w.heap.size, 0, none⟩ = some (.string s) ∧ W0.cell? ⟨w.heap.size, 1, none⟩ = some (.slice (some ⟨b0, o0, none⟩) n c)) ∧ (W0.cell? ⟨w.heap.size + 1, 0, none⟩ = some (.string nm) ∧ W0.cell? ⟨w.heap.size + 1, 1, none⟩ = some (.int .i64 ty)) ∧ W0.cell? ⟨w.heap.size + 1 + 1 + 1, 2, none⟩ = some (.func (.func 56) #[] #[])) ∧ RC W0 (w.heap.size + 1 + 1)) ∧ Svz w W0 := ⟨⟨⟨X0.out, Y0.out, N0.out.cell 2⟩, ⟨_, rfl, R0.out⟩⟩, L0.out⟩
    clear X0 Y0 N0 KI G0 G1 G2 G3 G4 G5 KE
    go_region_held3 (fun w' => (((w'.cell? ⟨w.heap.size, 0, none⟩ = some (.string s) ∧ w'.cell? ⟨w.heap.size, 1, none⟩ = some (.slice (some ⟨b0, o0, none⟩) n c)) ∧ (w'.cell? ⟨w.heap.size + 1, 0, none⟩ = some (.string nm) ∧ w'.cell? ⟨w.heap.size + 1, 1, none⟩ = some (.int .i64 ty)) ∧ w'.cell? ⟨w.heap.size + 1 + 1 + 1, 2, none⟩ = some (.func (.func 56) #[] #[])) ∧ RC w' (w.heap.size + 1 + 1)) ∧ Svz w w')
      (first | with_reducible exact keptK_fil (w1 := w4) (by assumption) n1 n2 n4 n3 _ _ _ _ _ | with_reducible exact SS0 | with_reducible assumption | with_reducible exact keptK (by assumption) hl | with_reducible exact keptK_draw (by assumption) | fail)
      (first
        | (go_at_call 8; (with_reducible refine (KIR.out _ (by assumption)).mono ?_); rintro e w2 ⟨rfl, hl⟩; have y1 := hl)
        | (go_at_call 56; (with_reducible refine (GR.out _ (by assumption)).mono ?_); rintro e w4 ⟨A1, m1, c1, A2, m2, c2, A3, m3, c3, rfl, q1, q2, q3, hl⟩; have y2 := hl; have HR := (keptK (by assumption) hl).1.2; have p0 := HR.cell 0 (by decide); have f0 := HR.free 0; have p1 := HR.cell 1 (by decide); have f1 := HR.free 1; have p2 := HR.cell 2 (by decide); have f2 := HR.free 2; have p3 := HR.cell 3 (by decide); have f3 := HR.free 3; have p4 := HR.cell 4 (by decide); have f4 := HR.free 4; clear HR)
        | fail)
    rename_i hH
    have a0 : Below w.heap.size w W0.drew := L0.out.drew
    have a1 := a0.trans (y1.mono a0.size)
    have a2 := a1.trans (y2.mono a1.size)
    have RA : RC w4 (w.heap.size + 1 + 1) := by
      have b0 : RC W0.drew (w.heap.size + 1 + 1) := ⟨_, rfl, R0.out⟩
      exact (b0.below y1).below y2
    have G4 : w.heap.size + 1 + 1 < w2.heap.size := Nat.lt_of_lt_of_le (show w.heap.size + 1 + 1 < W0.drew.heap.size from R0.out.lt) y1.size
    have F := Lib.hid (RA.fil 0 true (.slice A1 m1 c1) (.slice A2 m2 c2) (.slice A3 m3 c3))
    have E := Lib.hid (filC_below a2 (g := w.heap.size + 1 + 1) (by omega) 0 true (.slice A1 m1 c1) (.slice A2 m2 c2) (.slice A3 m3 c3))
    have Q1 := Lib.hid ((q1.fil G4 0 true (.slice A1 m1 c1) (.slice A2 m2 c2) (.slice A3 m3 c3)).low (show w.heap.size ≤ w2.heap.size by omega))
    have Q2 := Lib.hid ((q2.fil G4 0 true (.slice A1 m1 c1) (.slice A2 m2 c2) (.slice A3 m3 c3)).low (show w.heap.size ≤ w2.heap.size by omega))
    have Q3 := Lib.hid ((q3.fil G4 0 true (.slice A1 m1 c1) (.slice A2 m2 c2) (.slice A3 m3 c3)).low (show w.heap.size ≤ w2.heap.size by omega))
    clear hH SS0 KIR GR a0 a1 a2 RA R0 L0 y1 y2 hl G4 q1 q2 q3 p0 f0 p1 f1 p2 f2 p3 f3 p4 f4
    go_wp2
    exact bodyPost_ret (v := .agg #[.int .i64 0, .bool true, .slice A1 m1 c1, .slice A2 m2 c2, .slice A3 m3 c3]) (res1C rfl F.out rfl) rfl (KJ.out _ _ ⟨_, _, _, _, _, _, _, _, _, rfl, Q1.out, Q2.out, Q3.out, E.out⟩)
  · have KJ : Hid (∀ (e : Ending) (w' : World), GivesK w 0 true (sf nm ty l) [] [] e w' → GivesQ w k s nm ty l e w') := fun e w' => (KE.out _ _ _).2.2.2.1 hk
    subst hk
    have KIR : Hid (∀ W : World, (((W.cell? ⟨w.heap.size, 0, none⟩ = some (.string s) ∧ W.cell? ⟨w.heap.size, 1, none⟩ = some (.slice (some ⟨b0, o0, none⟩) n c)) ∧ (W.cell? ⟨w.heap.size + 1, 0, none⟩ = some (.string nm) ∧ W.cell? ⟨w.heap.size + 1, 1, none⟩ = some (.int .i64 ty)) ∧ W.cell? ⟨w.heap.size + 1 + 1 + 1, 3, none⟩ = some (.func (.func 57) #[] #[])) ∧ RC W (w.heap.size + 1 + 1)) ∧ Svz w W → Calls Try.prog 8 #[.agg #[.string s, .slice (some ⟨b0, o0, none⟩) n c], .agg #[.string nm, .int .i64 ty]] W fun e w' => e = .returned (.int .i64 3) ∧ Below W.heap.size W w') := fun W hW => KI.out W (HS.out.on hW.2)
    have GR : Hid (∀ W : World, (((W.cell? ⟨w.heap.size, 0, none⟩ = some (.string s) ∧ W.cell? ⟨w.heap.size, 1, none⟩ = some (.slice (some ⟨b0, o0, none⟩) n c)) ∧ (W.cell? ⟨w.heap.size + 1, 0, none⟩ = some (.string nm) ∧ W.cell? ⟨w.heap.size + 1, 1, none⟩ = some (.int .i64 ty)) ∧ W.cell? ⟨w.heap.size + 1 + 1 + 1, 3, none⟩ = some (.func (.func 57) #[] #[])) ∧ RC W (w.heap.size + 1 + 1)) ∧ Svz w W → Calls Try.prog 57 #[.agg #[.string s, .slice (some ⟨b0, o0, none⟩) n c], .agg #[.string nm, .int .i64 ty]] W (GivesK W 0 true (sf nm ty l) [] [])) := fun W hW => G3.out W ⟨trivial, hW.2⟩
    have SS0 : (((W0.cell? ⟨w.heap.size, 0, none⟩ = some (.string s) ∧ W0.cell? ⟨w.heap.size, 1, none⟩ = some (.slice (some ⟨b0, o0, none⟩) n c)) ∧ (W0.cell? ⟨w.heap.size + 1, 0, none⟩ = some (.string nm) ∧ W0.cell? ⟨w.heap.size + 1, 1, none⟩ = some (.int .i64 ty)) ∧ W0.cell? ⟨w.heap.size + 1 + 1 + 1, 3, none⟩ = some (.func (.func 57) #[] #[])) ∧ RC W0 (w.heap.size + 1 + 1)) ∧ Svz w W0 := ⟨⟨⟨X0.out, Y0.out, N0.out.cell 3⟩, ⟨_, rfl, R0.out⟩⟩, L0.out⟩
    clear X0 Y0 N0 KI G0 G1 G2 G3 G4 G5 KE
    go_region_held3 (fun w' => (((w'.cell? ⟨w.heap.size, 0, none⟩ = some (.string s) ∧ w'.cell? ⟨w.heap.size, 1, none⟩ = some (.slice (some ⟨b0, o0, none⟩) n c)) ∧ (w'.cell? ⟨w.heap.size + 1, 0, none⟩ = some (.string nm) ∧ w'.cell? ⟨w.heap.size + 1, 1, none⟩ = some (.int .i64 ty)) ∧ w'.cell? ⟨w.heap.size + 1 + 1 + 1, 3, none⟩ = some (.func (.func 57) #[] #[])) ∧ RC w' (w.heap.size + 1 + 1)) ∧ Svz w w')
      (first | with_reducible exact keptK_fil (w1 := w4) (by assumption) n1 n2 n4 n3 _ _ _ _ _ | with_reducible exact SS0 | with_reducible assumption | with_reducible exact keptK (by assumption) hl | with_reducible exact keptK_draw (by assumption) | fail)
      (first
        | (go_at_call 8; (with_reducible refine (KIR.out _ (by assumption)).mono ?_); rintro e w2 ⟨rfl, hl⟩; have y1 := hl)
        | (go_at_call 57; (with_reducible refine (GR.out _ (by assumption)).mono ?_); rintro e w4 ⟨A1, m1, c1, A2, m2, c2, A3, m3, c3, rfl, q1, q2, q3, hl⟩; have y2 := hl; have HR := (keptK (by assumption) hl).1.2; have p0 := HR.cell 0 (by decide); have f0 := HR.free 0; have p1 := HR.cell 1 (by decide); have f1 := HR.free 1; have p2 := HR.cell 2 (by decide); have f2 := HR.free 2; have p3 := HR.cell 3 (by decide); have f3 := HR.free 3; have p4 := HR.cell 4 (by decide); have f4 := HR.free 4; clear HR)
        | fail)
    rename_i hH
    have a0 : Below w.heap.size w W0.drew := L0.out.drew
    have a1 := a0.trans (y1.mono a0.size)
    have a2 := a1.trans (y2.mono a1.size)
    have RA : RC w4 (w.heap.size + 1 + 1) := by
      have b0 : RC W0.drew (w.heap.size + 1 + 1) := ⟨_, rfl, R0.out⟩
      exact (b0.below y1).below y2
    have G4 : w.heap.size + 1 + 1 < w2.heap.size := Nat.lt_of_lt_of_le (show w.heap.size + 1 + 1 < W0.drew.heap.size from R0.out.lt) y1.size
    have F := Lib.hid (RA.fil 0 true (.slice A1 m1 c1) (.slice A2 m2 c2) (.slice A3 m3 c3))
    have E := Lib.hid (filC_below a2 (g := w.heap.size + 1 + 1) (by omega) 0 true (.slice A1 m1 c1) (.slice A2 m2 c2) (.slice A3 m3 c3))
    have Q1 := Lib.hid ((q1.fil G4 0 true (.slice A1 m1 c1) (.slice A2 m2 c2) (.slice A3 m3 c3)).low (show w.heap.size ≤ w2.heap.size by omega))
    have Q2 := Lib.hid ((q2.fil G4 0 true (.slice A1 m1 c1) (.slice A2 m2 c2) (.slice A3 m3 c3)).low (show w.heap.size ≤ w2.heap.size by omega))
    have Q3 := Lib.hid ((q3.fil G4 0 true (.slice A1 m1 c1) (.slice A2 m2 c2) (.slice A3 m3 c3)).low (show w.heap.size ≤ w2.heap.size by omega))
    clear hH SS0 KIR GR a0 a1 a2 RA R0 L0 y1 y2 hl G4 q1 q2 q3 p0 f0 p1 f1 p2 f2 p3 f3 p4 f4
    go_wp2
    exact bodyPost_ret (v := .agg #[.int .i64 0, .bool true, .slice A1 m1 c1, .slice A2 m2 c2, .slice A3 m3 c3]) (res1C rfl F.out rfl) rfl (KJ.out _ _ ⟨_, _, _, _, _, _, _, _, _, rfl, Q1.out, Q2.out, Q3.out, E.out⟩)
  · have KJ : Hid (∀ (e : Ending) (w' : World), GivesK w 0 true [] [st l] [] e w' → GivesQ w k s nm ty l e w') := fun e w' => (KE.out _ _ _).2.2.2.2.1 hk
    subst hk
    have KIR : Hid (∀ W : World, (((W.cell? ⟨w.heap.size, 0, none⟩ = some (.string s) ∧ W.cell? ⟨w.heap.size, 1, none⟩ = some (.slice (some ⟨b0, o0, none⟩) n c)) ∧ (W.cell? ⟨w.heap.size + 1, 0, none⟩ = some (.string nm) ∧ W.cell? ⟨w.heap.size + 1, 1, none⟩ = some (.int .i64 ty)) ∧ W.cell? ⟨w.heap.size + 1 + 1 + 1, 4, none⟩ = some (.func (.func 58) #[] #[])) ∧ RC W (w.heap.size + 1 + 1)) ∧ Svz w W → Calls Try.prog 8 #[.agg #[.string s, .slice (some ⟨b0, o0, none⟩) n c], .agg #[.string nm, .int .i64 ty]] W fun e w' => e = .returned (.int .i64 4) ∧ Below W.heap.size W w') := fun W hW => KI.out W (HS.out.on hW.2)
    have GR : Hid (∀ W : World, (((W.cell? ⟨w.heap.size, 0, none⟩ = some (.string s) ∧ W.cell? ⟨w.heap.size, 1, none⟩ = some (.slice (some ⟨b0, o0, none⟩) n c)) ∧ (W.cell? ⟨w.heap.size + 1, 0, none⟩ = some (.string nm) ∧ W.cell? ⟨w.heap.size + 1, 1, none⟩ = some (.int .i64 ty)) ∧ W.cell? ⟨w.heap.size + 1 + 1 + 1, 4, none⟩ = some (.func (.func 58) #[] #[])) ∧ RC W (w.heap.size + 1 + 1)) ∧ Svz w W → Calls Try.prog 58 #[.agg #[.string s, .slice (some ⟨b0, o0, none⟩) n c], .agg #[.string nm, .int .i64 ty]] W (GivesK W 0 true [] [st l] [])) := fun W hW => G4.out W ⟨trivial, hW.2⟩
    have SS0 : (((W0.cell? ⟨w.heap.size, 0, none⟩ = some (.string s) ∧ W0.cell? ⟨w.heap.size, 1, none⟩ = some (.slice (some ⟨b0, o0, none⟩) n c)) ∧ (W0.cell? ⟨w.heap.size + 1, 0, none⟩ = some (.string nm) ∧ W0.cell? ⟨w.heap.size + 1, 1, none⟩ = some (.int .i64 ty)) ∧ W0.cell? ⟨w.heap.size + 1 + 1 + 1, 4, none⟩ = some (.func (.func 58) #[] #[])) ∧ RC W0 (w.heap.size + 1 + 1)) ∧ Svz w W0 := ⟨⟨⟨X0.out, Y0.out, N0.out.cell 4⟩, ⟨_, rfl, R0.out⟩⟩, L0.out⟩
    clear X0 Y0 N0 KI G0 G1 G2 G3 G4 G5 KE
    go_region_held3 (fun w' => (((w'.cell? ⟨w.heap.size, 0, none⟩ = some (.string s) ∧ w'.cell? ⟨w.heap.size, 1, none⟩ = some (.slice (some ⟨b0, o0, none⟩) n c)) ∧ (w'.cell? ⟨w.heap.size + 1, 0, none⟩ = some (.string nm) ∧ w'.cell? ⟨w.heap.size + 1, 1, none⟩ = some (.int .i64 ty)) ∧ w'.cell? ⟨w.heap.size + 1 + 1 + 1, 4, none⟩ = some (.func (.func 58) #[] #[])) ∧ RC w' (w.heap.size + 1 + 1)) ∧ Svz w w')
      (first | with_reducible exact keptK_fil (w1 := w4) (by assumption) n1 n2 n4 n3 _ _ _ _ _ | with_reducible exact SS0 | with_reducible assumption | with_reducible exact keptK (by assumption) hl | with_reducible exact keptK_draw (by assumption) | fail)
      (first
        | (go_at_call 8; (with_reducible refine (KIR.out _ (by assumption)).mono ?_); rintro e w2 ⟨rfl, hl⟩; have y1 := hl)
        | (go_at_call 58; (with_reducible refine (GR.out _ (by assumption)).mono ?_); rintro e w4 ⟨A1, m1, c1, A2, m2, c2, A3, m3, c3, rfl, q1, q2, q3, hl⟩; have y2 := hl; have HR := (keptK (by assumption) hl).1.2; have p0 := HR.cell 0 (by decide); have f0 := HR.free 0; have p1 := HR.cell 1 (by decide); have f1 := HR.free 1; have p2 := HR.cell 2 (by decide); have f2 := HR.free 2; have p3 := HR.cell 3 (by decide); have f3 := HR.free 3; have p4 := HR.cell 4 (by decide); have f4 := HR.free 4; clear HR)
        | fail)
    rename_i hH
    have a0 : Below w.heap.size w W0.drew := L0.out.drew
    have a1 := a0.trans (y1.mono a0.size)
    have a2 := a1.trans (y2.mono a1.size)
    have RA : RC w4 (w.heap.size + 1 + 1) := by
      have b0 : RC W0.drew (w.heap.size + 1 + 1) := ⟨_, rfl, R0.out⟩
      exact (b0.below y1).below y2
    have G4 : w.heap.size + 1 + 1 < w2.heap.size := Nat.lt_of_lt_of_le (show w.heap.size + 1 + 1 < W0.drew.heap.size from R0.out.lt) y1.size
    have F := Lib.hid (RA.fil 0 true (.slice A1 m1 c1) (.slice A2 m2 c2) (.slice A3 m3 c3))
    have E := Lib.hid (filC_below a2 (g := w.heap.size + 1 + 1) (by omega) 0 true (.slice A1 m1 c1) (.slice A2 m2 c2) (.slice A3 m3 c3))
    have Q1 := Lib.hid ((q1.fil G4 0 true (.slice A1 m1 c1) (.slice A2 m2 c2) (.slice A3 m3 c3)).low (show w.heap.size ≤ w2.heap.size by omega))
    have Q2 := Lib.hid ((q2.fil G4 0 true (.slice A1 m1 c1) (.slice A2 m2 c2) (.slice A3 m3 c3)).low (show w.heap.size ≤ w2.heap.size by omega))
    have Q3 := Lib.hid ((q3.fil G4 0 true (.slice A1 m1 c1) (.slice A2 m2 c2) (.slice A3 m3 c3)).low (show w.heap.size ≤ w2.heap.size by omega))
    clear hH SS0 KIR GR a0 a1 a2 RA R0 L0 y1 y2 hl G4 q1 q2 q3 p0 f0 p1 f1 p2 f2 p3 f3 p4 f4
    go_wp2
    exact bodyPost_ret (v := .agg #[.int .i64 0, .bool true, .slice A1 m1 c1, .slice A2 m2 c2, .slice A3 m3 c3]) (res1C rfl F.out rfl) rfl (KJ.out _ _ ⟨_, _, _, _, _, _, _, _, _, rfl, Q1.out, Q2.out, Q3.out, E.out⟩)
  · have KJ : Hid (∀ (e : Ending) (w' : World), GivesK w 3 true [] [st l] [] e w' → GivesQ w k s nm ty l e w') := fun e w' => (KE.out _ _ _).2.2.2.2.2 hk
    subst hk
    have KIR : Hid (∀ W : World, (((W.cell? ⟨w.heap.size, 0, none⟩ = some (.string s) ∧ W.cell? ⟨w.heap.size, 1, none⟩ = some (.slice (some ⟨b0, o0, none⟩) n c)) ∧ (W.cell? ⟨w.heap.size + 1, 0, none⟩ = some (.string nm) ∧ W.cell? ⟨w.heap.size + 1, 1, none⟩ = some (.int .i64 ty)) ∧ W.cell? ⟨w.heap.size + 1 + 1 + 1, 5, none⟩ = some (.func (.func 59) #[] #[])) ∧ RC W (w.heap.size + 1 + 1)) ∧ Svz w W → Calls Try.prog 8 #[.agg #[.string s, .slice (some ⟨b0, o0, none⟩) n c], .agg #[.string nm, .int .i64 ty]] W fun e w' => e = .returned (.int .i64 5) ∧ Below W.heap.size W w') := fun W hW => KI.out W (HS.out.on hW.2)
    have GR : Hid (∀ W : World, (((W.cell? ⟨w.heap.size, 0, none⟩ = some (.string s) ∧ W.cell? ⟨w.heap.size, 1, none⟩ = some (.slice (some ⟨b0, o0, none⟩) n c)) ∧ (W.cell? ⟨w.heap.size + 1, 0, none⟩ = some (.string nm) ∧ W.cell? ⟨w.heap.size + 1, 1, none⟩ = some (.int .i64 ty)) ∧ W.cell? ⟨w.heap.size + 1 + 1 + 1, 5, none⟩ = some (.func (.func 59) #[] #[])) ∧ RC W (w.heap.size + 1 + 1)) ∧ Svz w W → Calls Try.prog 59 #[.agg #[.string s, .slice (some ⟨b0, o0, none⟩) n c], .agg #[.string nm, .int .i64 ty]] W (GivesK W 3 true [] [st l] [])) := fun W hW => G5.out W ⟨trivial, hW.2⟩
    have SS0 : (((W0.cell? ⟨w.heap.size, 0, none⟩ = some (.string s) ∧ W0.cell? ⟨w.heap.size, 1, none⟩ = some (.slice (some ⟨b0, o0, none⟩) n c)) ∧ (W0.cell? ⟨w.heap.size + 1, 0, none⟩ = some (.string nm) ∧ W0.cell? ⟨w.heap.size + 1, 1, none⟩ = some (.int .i64 ty)) ∧ W0.cell? ⟨w.heap.size + 1 + 1 + 1, 5, none⟩ = some (.func (.func 59) #[] #[])) ∧ RC W0 (w.heap.size + 1 + 1)) ∧ Svz w W0 := ⟨⟨⟨X0.out, Y0.out, N0.out.cell 5⟩, ⟨_, rfl, R0.out⟩⟩, L0.out⟩
    clear X0 Y0 N0 KI G0 G1 G2 G3 G4 G5 KE
    go_region_held3 (fun w' => (((w'.cell? ⟨w.heap.size, 0, none⟩ = some (.string s) ∧ w'.cell? ⟨w.heap.size, 1, none⟩ = some (.slice (some ⟨b0, o0, none⟩) n c)) ∧ (w'.cell? ⟨w.heap.size + 1, 0, none⟩ = some (.string nm) ∧ w'.cell? ⟨w.heap.size + 1, 1, none⟩ = some (.int .i64 ty)) ∧ w'.cell? ⟨w.heap.size + 1 + 1 + 1, 5, none⟩ = some (.func (.func 59) #[] #[])) ∧ RC w' (w.heap.size + 1 + 1)) ∧ Svz w w')
      (first | with_reducible exact keptK_fil (w1 := w4) (by assumption) n1 n2 n4 n3 _ _ _ _ _ | with_reducible exact SS0 | with_reducible assumption | with_reducible exact keptK (by assumption) hl | with_reducible exact keptK_draw (by assumption) | fail)
      (first
        | (go_at_call 8; (with_reducible refine (KIR.out _ (by assumption)).mono ?_); rintro e w2 ⟨rfl, hl⟩; have y1 := hl)
        | (go_at_call 59; (with_reducible refine (GR.out _ (by assumption)).mono ?_); rintro e w4 ⟨A1, m1, c1, A2, m2, c2, A3, m3, c3, rfl, q1, q2, q3, hl⟩; have y2 := hl; have HR := (keptK (by assumption) hl).1.2; have p0 := HR.cell 0 (by decide); have f0 := HR.free 0; have p1 := HR.cell 1 (by decide); have f1 := HR.free 1; have p2 := HR.cell 2 (by decide); have f2 := HR.free 2; have p3 := HR.cell 3 (by decide); have f3 := HR.free 3; have p4 := HR.cell 4 (by decide); have f4 := HR.free 4; clear HR)
        | fail)
    rename_i hH
    have a0 : Below w.heap.size w W0.drew := L0.out.drew
    have a1 := a0.trans (y1.mono a0.size)
    have a2 := a1.trans (y2.mono a1.size)
    have RA : RC w4 (w.heap.size + 1 + 1) := by
      have b0 : RC W0.drew (w.heap.size + 1 + 1) := ⟨_, rfl, R0.out⟩
      exact (b0.below y1).below y2
    have G4 : w.heap.size + 1 + 1 < w2.heap.size := Nat.lt_of_lt_of_le (show w.heap.size + 1 + 1 < W0.drew.heap.size from R0.out.lt) y1.size
    have F := Lib.hid (RA.fil 3 true (.slice A1 m1 c1) (.slice A2 m2 c2) (.slice A3 m3 c3))
    have E := Lib.hid (filC_below a2 (g := w.heap.size + 1 + 1) (by omega) 3 true (.slice A1 m1 c1) (.slice A2 m2 c2) (.slice A3 m3 c3))
    have Q1 := Lib.hid ((q1.fil G4 3 true (.slice A1 m1 c1) (.slice A2 m2 c2) (.slice A3 m3 c3)).low (show w.heap.size ≤ w2.heap.size by omega))
    have Q2 := Lib.hid ((q2.fil G4 3 true (.slice A1 m1 c1) (.slice A2 m2 c2) (.slice A3 m3 c3)).low (show w.heap.size ≤ w2.heap.size by omega))
    have Q3 := Lib.hid ((q3.fil G4 3 true (.slice A1 m1 c1) (.slice A2 m2 c2) (.slice A3 m3 c3)).low (show w.heap.size ≤ w2.heap.size by omega))
    clear hH SS0 KIR GR a0 a1 a2 RA R0 L0 y1 y2 hl G4 q1 q2 q3 p0 f0 p1 f1 p2 f2 p3 f3 p4 f4
    go_wp2
    exact bodyPost_ret (v := .agg #[.int .i64 3, .bool true, .slice A1 m1 c1, .slice A2 m2 c2, .slice A3 m3 c3]) (res1C rfl F.out rfl) rfl (KJ.out _ _ ⟨_, _, _, _, _, _, _, _, _, rfl, Q1.out, Q2.out, Q3.out, E.out⟩)

end Go.Proofs.Ytjgmocmaeadjdaa.ContI

/- What l11First does in the model, and shortened and copyRecords in the program: the first eight records (copied by the model; of a nil slice too in the program). Condition: l11First, shortened: at most 1100000000000 records. -/
namespace Go.Proofs.Ytjgmocmaeadjdaa.ShoS
open Go.RowKit Go.Proofs.Ytjgmocmaeadjdaa.Mem Go.Proofs.Ytjgmocmaeadjdaa.MemR Go.Proofs.Ytjgmocmaeadjdaa.AppR Go.Proofs.Ytjgmocmaeadjdaa.CpyR Go.Proofs.Ytjgmocmaeadjdaa.Wt

/-- The lesser of a length and eight. -/
def m8 (m : Nat) : Nat := if m ≤ 8 then m else 8

theorem m8_le (m : Nat) : m8 m ≤ 8 ∧ m8 m ≤ m := by unfold m8; split <;> omega

theorem m8_len (L : List Rec) {m : Nat} (h : L.length = m) : (L.take 8).length = m8 m := by
  rw [List.length_take, h]
  unfold m8
  split <;> omega

theorem sr_take {w : World} {B m : Nat} {A : Option Addr} {L : List Rec} (h : Sr w B A m L) : Sr w B A (m8 m) (L.take 8) := by
  refine ⟨m8_len L h.1, fun hn => ?_⟩
  obtain ⟨b, off, hA, hb, hc⟩ := h.2 (Nat.lt_of_lt_of_le hn (m8_le m).2)
  refine ⟨b, off, hA, hb, fun j hj => ?_⟩
  rw [List.getElem_take]
  exact hc j (by rw [List.length_take] at hj; omega)

set_option maxHeartbeats 1000000 in
theorem leastI (m : Nat) (w : World) : Calls Try.prog 62 #[.int .i64 (m : Int), .int .i64 8] w fun e w' => e = .returned (.int .i64 ((m8 m : Nat) : Int)) ∧ w = w' := by
  by_cases h : m ≤ 8
  · rw [show m8 m = m from if_pos h]
    by_cases h8 : m = 8
    · subst h8
      go_enter Try.func62, Try.ntmps62
      go_wp2
      go_ret
      exact ⟨rfl, rfl⟩
    · have h1 : (m : Int) < 8 := by omega
      have h2 : ¬ (8 : Int) < (m : Int) := by omega
      go_enter Try.func62, Try.ntmps62
      go_wp2
      go_ret
      first | exact ⟨rfl, rfl⟩ | exact ⟨congrArg (fun x : Int => Ending.returned (Value.int .i64 x)) (show min (m : Int) 8 = (m : Int) by omega), rfl⟩
  · rw [show m8 m = 8 from if_neg h]
    have h1 : (8 : Int) < (m : Int) := by omega
    have h2 : ¬ (m : Int) < 8 := by omega
    go_enter Try.func62, Try.ntmps62
    go_wp2
    go_ret
    first | exact ⟨rfl, rfl⟩ | exact ⟨congrArg (fun x : Int => Ending.returned (Value.int .i64 x)) (show min (m : Int) 8 = ((8 : Nat) : Int) by omega), rfl⟩

set_option maxHeartbeats 1000000 in
theorem leastS (m : Nat) (w : World) : Calls Try.prog 64 #[.int .i64 (m : Int), .int .i64 8] w fun e w' => e = .returned (.int .i64 ((m8 m : Nat) : Int)) ∧ w = w' := by
  by_cases h : m ≤ 8
  · rw [show m8 m = m from if_pos h]
    have h2 : ¬ (8 : Int) < (m : Int) := by omega
    go_enter Try.func64, Try.ntmps64
    go_wp2
    go_ret
    exact ⟨rfl, rfl⟩
  · rw [show m8 m = 8 from if_neg h]
    have h1 : (8 : Int) < (m : Int) := by omega
    go_enter Try.func64, Try.ntmps64
    go_wp2
    go_ret
    exact ⟨rfl, rfl⟩

set_option maxHeartbeats 2000000 in
theorem shortened (A : Option Addr) (m c : Nat) (w : World) (hA : (A = none ∧ m = 0 ∧ c = 0) ∨ ∃ g, A = some ⟨g, 0, none⟩) (hmc : m ≤ c) (hm : m ≤ 1100000000000) :
    Calls Try.prog 40 #[.slice A m c] w fun e w' => e = .returned (.slice A (m8 m) c) ∧ w = w' := by
  have LE := Lib.hid (fun W => leastI m W)
  have h8 := m8_le m
  have h9 : m8 m ≤ c := by omega
  rcases hA with ⟨rfl, rfl, rfl⟩ | ⟨g, rfl⟩
  · rw [show m8 0 = 0 from rfl] at *
    go_enter Try.func40, Try.ntmps40
    go_wp2_with fail
    refine (LE.out _).mono ?_
    rintro e w1 ⟨rfl, rfl⟩
    go_wp2
    go_ret
    exact ⟨rfl, rfl⟩
  · generalize m8 m = k at *
    go_enter Try.func40, Try.ntmps40
    go_wp2_with fail
    refine (LE.out _).mono ?_
    rintro e w1 ⟨rfl, rfl⟩
    go_wp2
    go_ret
    exact ⟨rfl, rfl⟩

set_option maxHeartbeats 2000000 in
theorem first (g m c : Nat) (L : List Rec) (w : World) (hs : Sr w w.heap.size (some ⟨g, 0, none⟩) m L) (hmc : m ≤ c) :
    Calls Try.prog 42 #[.slice (some ⟨g, 0, none⟩) m c] w (GivesC w (m8 m) (L.take 8)) := by
  have LE := Lib.hid (fun W => leastS m W)
  have h8 := m8_le m
  have h9 : m8 m ≤ c := by omega
  have CP := Lib.hid (copyS g 0 (m8 m) c (L.take 8) w (sr_take hs) (by omega))
  clear hs
  generalize m8 m = k at *
  go_enter Try.func42, Try.ntmps42
  go_wp2_with fail
  refine (LE.out _).mono ?_
  rintro e w1 ⟨rfl, rfl⟩
  go_wp2_with fail
  refine CP.out.mono ?_
  rintro e w1 ⟨g1, c1, r1, rfl, h1, h2, h3, h4⟩
  have H := Lib.hid (And.intro h1 (And.intro h2 (And.intro h3 h4)))
  clear h1 h2 h3 h4
  go_wp2
  go_ret
  exact ⟨g1, c1, r1, rfl, H.out⟩

/-- copyRecords of a slice that may be nil. -/
theorem copyN (A : Option Addr) (n c : Nat) (l : List Rec) (w : World) (hA : (A = none ∧ n = 0 ∧ c = 0) ∨ ∃ g, A = some ⟨g, 0, none⟩) (hs : Sr w w.heap.size A n l) (hn : n ≤ 400000000) : Calls Try.prog 61 #[.slice A n c] w (GivesC w n l) := by
  rcases hA with ⟨rfl, rfl, rfl⟩ | ⟨g, rfl⟩
  · obtain rfl : l = [] := List.length_eq_zero_iff.1 hs.1
    have L0 := Lib.hid ((Below.refl w.heap.size w).alloc (Nat.le_refl _) (.cells #[] 56))
    have O0 := Lib.hid (owns_new w)
    have N0 : Hid (Bk (w.alloc (.cells #[] 56)) w.heap.size 56 (fl [] ++ [])) := heap_alloc_new w _
    obtain ⟨i0, hi, hz0, hz1, hz2⟩ := info_parts CopyR.info
    clear hs
    go_enter Try.func61, Try.ntmps61
    go_wp2_with (at_builtin; refine wpList_append_own_none rfl (.tmp 3) (.tmp 4) 24 rfl w.heap.size 56 i0 6 Try.underlying24 hi _ 0 [] rfl O0.out rfl ?_)
    go_wp2
    go_ret
    exact ⟨w.heap.size, 0, [], rfl, Nat.le_refl _, Nat.le_refl _, N0.out, L0.out⟩
  · exact copyI g 0 n c l w hs hn

end Go.Proofs.Ytjgmocmaeadjdaa.ShoS

/- What ReplyTo does in the program where a section may be nil. Condition: fewer than 400000001 records in each section. -/
namespace Go.Proofs.Ytjgmocmaeadjdaa.RepN
open Go.RowKit Go.Proofs.Ytjgmocmaeadjdaa.Mem Go.Proofs.Ytjgmocmaeadjdaa.MemR Go.Proofs.Ytjgmocmaeadjdaa.BoxR Go.Proofs.Ytjgmocmaeadjdaa.MemM Go.Proofs.Ytjgmocmaeadjdaa.CpyR Go.Proofs.Ytjgmocmaeadjdaa.ResM Go.Proofs.Ytjgmocmaeadjdaa.RepM Go.Proofs.Ytjgmocmaeadjdaa.ShoS

set_option maxRecDepth 100000 in
set_option maxHeartbeats 8000000 in
theorem impl (h : Hd) (A1 A2 A3 : Option Addr) (n1 c1 n2 c2 n3 c3 : Nat) (code : Int) (au : Bool) (B1 : Option Addr) (m1 d1 : Nat) (l1 : List Rec) (B2 : Option Addr) (m2 d2 : Nat) (l2 : List Rec) (B3 : Option Addr) (m3 d3 : Nat) (l3 : List Rec) (w : World)
    (s1 : Sr w w.heap.size B1 m1 l1) (z1 : m1 ≤ 400000000) (p1 : (B1 = none ∧ m1 = 0 ∧ d1 = 0) ∨ ∃ g, B1 = some ⟨g, 0, none⟩) (s2 : Sr w w.heap.size B2 m2 l2) (z2 : m2 ≤ 400000000) (p2 : (B2 = none ∧ m2 = 0 ∧ d2 = 0) ∨ ∃ g, B2 = some ⟨g, 0, none⟩) (s3 : Sr w w.heap.size B3 m3 l3) (z3 : m3 ≤ 400000000) (p3 : (B3 = none ∧ m3 = 0 ∧ d3 = 0) ∨ ∃ g, B3 = some ⟨g, 0, none⟩) :
    Calls Try.prog 39 #[.agg #[.int .i64 h.id, .bool h.rp, .bool h.au, .bool h.ct, .bool h.wa, .bool h.ca, .int .i64 h.code, .string h.qn, .int .i64 h.qt, .slice A1 n1 c1, .slice A2 n2 c2, .slice A3 n3 c3], .int .i64 code, .bool au, .slice B1 m1 d1, .slice B2 m2 d2, .slice B3 m3 d3] w (GivesM w (rph h code au) m1 m2 m3 l1 l2 l3) := by
  have C1 : Hid (∀ W : World, ((W.cell? ⟨w.heap.size, 0, none⟩ = some (.int .i64 h.id) ∧ W.cell? ⟨w.heap.size, 4, none⟩ = some (.bool h.wa) ∧ W.cell? ⟨w.heap.size, 7, none⟩ = some (.string h.qn) ∧ W.cell? ⟨w.heap.size, 8, none⟩ = some (.int .i64 h.qt)) ∧ RB W (w.heap.size + 1) ∧ Sv w W) → Calls Try.prog 61 #[.slice B1 m1 d1] W (GivesC W m1 l1)) := fun W hW => copyN B1 m1 d1 l1 W p1 (s1.on hW.2.2) z1
  have C2 : Hid (∀ W : World, ((W.cell? ⟨w.heap.size, 0, none⟩ = some (.int .i64 h.id) ∧ W.cell? ⟨w.heap.size, 4, none⟩ = some (.bool h.wa) ∧ W.cell? ⟨w.heap.size, 7, none⟩ = some (.string h.qn) ∧ W.cell? ⟨w.heap.size, 8, none⟩ = some (.int .i64 h.qt)) ∧ RB W (w.heap.size + 1) ∧ Sv w W) → Calls Try.prog 61 #[.slice B2 m2 d2] W (GivesC W m2 l2)) := fun W hW => copyN B2 m2 d2 l2 W p2 (s2.on hW.2.2) z2
  have C3 : Hid (∀ W : World, ((W.cell? ⟨w.heap.size, 0, none⟩ = some (.int .i64 h.id) ∧ W.cell? ⟨w.heap.size, 4, none⟩ = some (.bool h.wa) ∧ W.cell? ⟨w.heap.size, 7, none⟩ = some (.string h.qn) ∧ W.cell? ⟨w.heap.size, 8, none⟩ = some (.int .i64 h.qt)) ∧ RB W (w.heap.size + 1) ∧ Sv w W) → Calls Try.prog 61 #[.slice B3 m3 d3] W (GivesC W m3 l3)) := fun W hW => copyN B3 m3 d3 l3 W p3 (s3.on hW.2.2) z3
  have X0 := Lib.hid ((mx_new w 32 h (.slice A1 n1 c1) (.slice A2 n2 c2) (.slice A3 n3 c3)).alloc (.cells #[.int .i64 0, .bool false, .bool false, .bool false, .bool false, .bool false, .int .i64 0, .string ⟨#[]⟩, .int .i64 0, .slice none 0 0, .slice none 0 0, .slice none 0 0] 32))
  have R0 := Lib.hid (at2 (w := w) (a := .cells #[.int .i64 h.id, .bool h.rp, .bool h.au, .bool h.ct, .bool h.wa, .bool h.ca, .int .i64 h.code, .string h.qn, .int .i64 h.qt, .slice A1 n1 c1, .slice A2 n2 c2, .slice A3 n3 c3] 32) (cs := #[.int .i64 0, .bool false, .bool false, .bool false, .bool false, .bool false, .int .i64 0, .string ⟨#[]⟩, .int .i64 0, .slice none 0 0, .slice none 0 0, .slice none 0 0]) (t := 32))
  have L0 := Lib.hid (((Below.refl w.heap.size w).alloc (Nat.le_refl _) (.cells #[.int .i64 h.id, .bool h.rp, .bool h.au, .bool h.ct, .bool h.wa, .bool h.ca, .int .i64 h.code, .string h.qn, .int .i64 h.qt, .slice A1 n1 c1, .slice A2 n2 c2, .slice A3 n3 c3] 32)).alloc (by simp) (.cells #[.int .i64 0, .bool false, .bool false, .bool false, .bool false, .bool false, .int .i64 0, .string ⟨#[]⟩, .int .i64 0, .slice none 0 0, .slice none 0 0, .slice none 0 0] 32))
  have S0 : (((w.alloc (.cells #[.int .i64 h.id, .bool h.rp, .bool h.au, .bool h.ct, .bool h.wa, .bool h.ca, .int .i64 h.code, .string h.qn, .int .i64 h.qt, .slice A1 n1 c1, .slice A2 n2 c2, .slice A3 n3 c3] 32)).alloc (.cells #[.int .i64 0, .bool false, .bool false, .bool false, .bool false, .bool false, .int .i64 0, .string ⟨#[]⟩, .int .i64 0, .slice none 0 0, .slice none 0 0, .slice none 0 0] 32)).cell? ⟨w.heap.size, 0, none⟩ = some (.int .i64 h.id) ∧ ((w.alloc (.cells #[.int .i64 h.id, .bool h.rp, .bool h.au, .bool h.ct, .bool h.wa, .bool h.ca, .int .i64 h.code, .string h.qn, .int .i64 h.qt, .slice A1 n1 c1, .slice A2 n2 c2, .slice A3 n3 c3] 32)).alloc (.cells #[.int .i64 0, .bool false, .bool false, .bool false, .bool false, .bool false, .int .i64 0, .string ⟨#[]⟩, .int .i64 0, .slice none 0 0, .slice none 0 0, .slice none 0 0] 32)).cell? ⟨w.heap.size, 4, none⟩ = some (.bool h.wa) ∧ ((w.alloc (.cells #[.int .i64 h.id, .bool h.rp, .bool h.au, .bool h.ct, .bool h.wa, .bool h.ca, .int .i64 h.code, .string h.qn, .int .i64 h.qt, .slice A1 n1 c1, .slice A2 n2 c2, .slice A3 n3 c3] 32)).alloc (.cells #[.int .i64 0, .bool false, .bool false, .bool false, .bool false, .bool false, .int .i64 0, .string ⟨#[]⟩, .int .i64 0, .slice none 0 0, .slice none 0 0, .slice none 0 0] 32)).cell? ⟨w.heap.size, 7, none⟩ = some (.string h.qn) ∧ ((w.alloc (.cells #[.int .i64 h.id, .bool h.rp, .bool h.au, .bool h.ct, .bool h.wa, .bool h.ca, .int .i64 h.code, .string h.qn, .int .i64 h.qt, .slice A1 n1 c1, .slice A2 n2 c2, .slice A3 n3 c3] 32)).alloc (.cells #[.int .i64 0, .bool false, .bool false, .bool false, .bool false, .bool false, .int .i64 0, .string ⟨#[]⟩, .int .i64 0, .slice none 0 0, .slice none 0 0, .slice none 0 0] 32)).cell? ⟨w.heap.size, 8, none⟩ = some (.int .i64 h.qt)) ∧ RB ((w.alloc (.cells #[.int .i64 h.id, .bool h.rp, .bool h.au, .bool h.ct, .bool h.wa, .bool h.ca, .int .i64 h.code, .string h.qn, .int .i64 h.qt, .slice A1 n1 c1, .slice A2 n2 c2, .slice A3 n3 c3] 32)).alloc (.cells #[.int .i64 0, .bool false, .bool false, .bool false, .bool false, .bool false, .int .i64 0, .string ⟨#[]⟩, .int .i64 0, .slice none 0 0, .slice none 0 0, .slice none 0 0] 32)) (w.heap.size + 1) ∧ Sv w ((w.alloc (.cells #[.int .i64 h.id, .bool h.rp, .bool h.au, .bool h.ct, .bool h.wa, .bool h.ca, .int .i64 h.code, .string h.qn, .int .i64 h.qt, .slice A1 n1 c1, .slice A2 n2 c2, .slice A3 n3 c3] 32)).alloc (.cells #[.int .i64 0, .bool false, .bool false, .bool false, .bool false, .bool false, .int .i64 0, .string ⟨#[]⟩, .int .i64 0, .slice none 0 0, .slice none 0 0, .slice none 0 0] 32)) :=
    ⟨⟨X0.out.1, X0.out.2.2.2.2.1, X0.out.2.2.2.2.2.2.2.1, X0.out.2.2.2.2.2.2.2.2.1⟩, ⟨_, rfl, R0.out⟩, L0.out⟩
  clear s1 s2 s3 p1 p2 p3
  generalize hW0 : ((w.alloc (.cells #[.int .i64 h.id, .bool h.rp, .bool h.au, .bool h.ct, .bool h.wa, .bool h.ca, .int .i64 h.code, .string h.qn, .int .i64 h.qt, .slice A1 n1 c1, .slice A2 n2 c2, .slice A3 n3 c3] 32)).alloc (.cells #[.int .i64 0, .bool false, .bool false, .bool false, .bool false, .bool false, .int .i64 0, .string ⟨#[]⟩, .int .i64 0, .slice none 0 0, .slice none 0 0, .slice none 0 0] 32)) = W0 at S0 R0 X0 L0
  go_enter Try.func39, Try.ntmps39
  go_wp2
  go_region_held3 (fun w' => (w'.cell? ⟨w.heap.size, 0, none⟩ = some (.int .i64 h.id) ∧ w'.cell? ⟨w.heap.size, 4, none⟩ = some (.bool h.wa) ∧ w'.cell? ⟨w.heap.size, 7, none⟩ = some (.string h.qn) ∧ w'.cell? ⟨w.heap.size, 8, none⟩ = some (.int .i64 h.qt)) ∧ RB w' (w.heap.size + 1) ∧ Sv w w')
    (first | with_reducible exact keptR_fil (w1 := w13) (by assumption) _ _ _ _ _ _ _ _ _ _ _ _ | with_reducible exact S0 | with_reducible assumption | with_reducible exact keptR (by assumption) hl | with_reducible exact keptR_draw (by assumption) | fail)
    (first
      | (go_at_call 61; (with_reducible refine (C1.out _ (by assumption)).mono ?_); rintro e w11 ⟨g1, e1, r1, rfl, -, hg1, hb1, hl⟩; have y1 := hl)
      | (go_at_call 61; (with_reducible refine (C2.out _ (by assumption)).mono ?_); rintro e w12 ⟨g2, e2, r2, rfl, -, hg2, hb2, hl⟩; have y2 := hl)
      | (go_at_call 61; (with_reducible refine (C3.out _ (by assumption)).mono ?_); rintro e w13 ⟨g3, e3, r3, rfl, -, hg3, hb3, hl⟩; have y3 := hl; have HR := (keptR (h := h) (by assumption) hl).2.1; have p0 := HR.cell 0 (by decide); have f0 := HR.free 0; have p1 := HR.cell 1 (by decide); have f1 := HR.free 1; have p2 := HR.cell 2 (by decide); have f2 := HR.free 2; have p3 := HR.cell 3 (by decide); have f3 := HR.free 3; have p4 := HR.cell 4 (by decide); have f4 := HR.free 4; have p5 := HR.cell 5 (by decide); have f5 := HR.free 5; have p6 := HR.cell 6 (by decide); have f6 := HR.free 6; have p7 := HR.cell 7 (by decide); have f7 := HR.free 7; have p8 := HR.cell 8 (by decide); have f8 := HR.free 8; have p9 := HR.cell 9 (by decide); have f9 := HR.free 9; have p10 := HR.cell 10 (by decide); have f10 := HR.free 10; have p11 := HR.cell 11 (by decide); have f11 := HR.free 11; clear HR)
      | fail)
  rename_i hH
  have a0 : Below w.heap.size w W0.drew := L0.out.drew
  have a1 := a0.trans (y1.mono a0.size)
  have a2 := a1.trans (y2.mono a1.size)
  have a3 := a2.trans (y3.mono a2.size)
  have RA : Bk w13 (w.heap.size + 1) 32 (mc zh (.slice none 0 0) (.slice none 0 0) (.slice none 0 0)) := by
    have b0 : Bk W0.drew (w.heap.size + 1) 32 (mc zh (.slice none 0 0) (.slice none 0 0) (.slice none 0 0)) := R0.out
    have b1 := b0.below y1 b0.lt
    have b2 := b1.below y2 b1.lt
    exact b2.below y3 b2.lt
  have n1 : w.heap.size + 1 < g1 := Nat.lt_of_lt_of_le R0.out.lt hg1
  have n2 : g1 < g2 := Nat.lt_of_lt_of_le hb1.lt hg2
  have n3 : g2 < g3 := Nat.lt_of_lt_of_le hb2.lt hg3
  have B1 := hb1.below y2 hb1.lt
  have F := Lib.hid (filM_bk RA (rph h code au) (.slice (some ⟨g1, 0, none⟩) m1 e1) (.slice (some ⟨g2, 0, none⟩) m2 e2) (.slice (some ⟨g3, 0, none⟩) m3 e3))
  have E := Lib.hid (filM_below a3 (g := w.heap.size + 1) (by omega) (rph h code au) (.slice (some ⟨g1, 0, none⟩) m1 e1) (.slice (some ⟨g2, 0, none⟩) m2 e2) (.slice (some ⟨g3, 0, none⟩) m3 e3))
  have I1 := Lib.hid (filM_other (B1.below y3 B1.lt) (g := w.heap.size + 1) (by omega) (rph h code au) (.slice (some ⟨g1, 0, none⟩) m1 e1) (.slice (some ⟨g2, 0, none⟩) m2 e2) (.slice (some ⟨g3, 0, none⟩) m3 e3))
  have I2 := Lib.hid (filM_other (hb2.below y3 hb2.lt) (g := w.heap.size + 1) (by omega) (rph h code au) (.slice (some ⟨g1, 0, none⟩) m1 e1) (.slice (some ⟨g2, 0, none⟩) m2 e2) (.slice (some ⟨g3, 0, none⟩) m3 e3))
  have I3 := Lib.hid (filM_other hb3 (g := w.heap.size + 1) (by omega) (rph h code au) (.slice (some ⟨g1, 0, none⟩) m1 e1) (.slice (some ⟨g2, 0, none⟩) m2 e2) (.slice (some ⟨g3, 0, none⟩) m3 e3))
  clear hH S0 R0 X0 L0 C1 C2 C3 a0 a1 a2 a3 RA B1 hb1 hb2 hb3 hg1 hg2 hg3 y1 y2 y3 hl hW0 p0 f0 p1 f1 p2 f2 p3 f3 p4 f4 p5 f5 p6 f6 p7 f7 p8 f8 p9 f9 p10 f10 p11 f11
  go_wp2
  exact bodyPost_ret (v := .agg #[.int .i64 (rph h code au).id, .bool (rph h code au).rp, .bool (rph h code au).au, .bool (rph h code au).ct, .bool (rph h code au).wa, .bool (rph h code au).ca, .int .i64 (rph h code au).code, .string (rph h code au).qn, .int .i64 (rph h code au).qt, .slice (some ⟨g1, 0, none⟩) m1 e1, .slice (some ⟨g2, 0, none⟩) m2 e2, .slice (some ⟨g3, 0, none⟩) m3 e3]) (res1M rfl F.out rfl) rfl ⟨g1, e1, r1, g2, e2, r2, g3, e3, r3, rfl, I1.out, I2.out, I3.out, by omega, n2, n3, E.out⟩

end Go.Proofs.Ytjgmocmaeadjdaa.RepN

/- What Serve does in the program: a reply with the code, the flag and the first eight records of each section of the content. Condition: at most 1048576 records, no name of more than 400000000 bytes. -/
namespace Go.Proofs.Ytjgmocmaeadjdaa.ServI
open Go.RowKit Go.Proofs.Ytjgmocmaeadjdaa.Mem Go.Proofs.Ytjgmocmaeadjdaa.MemR Go.Proofs.Ytjgmocmaeadjdaa.SetMath Go.Proofs.Ytjgmocmaeadjdaa.ZoneMath Go.Proofs.Ytjgmocmaeadjdaa.ServeMath Go.Proofs.Ytjgmocmaeadjdaa.MemZ Go.Proofs.Ytjgmocmaeadjdaa.MemM Go.Proofs.Ytjgmocmaeadjdaa.BoxR Go.Proofs.Ytjgmocmaeadjdaa.CpyR Go.Proofs.Ytjgmocmaeadjdaa.ResM Go.Proofs.Ytjgmocmaeadjdaa.RepM Go.Proofs.Ytjgmocmaeadjdaa.Wt Go.Proofs.Ytjgmocmaeadjdaa.ShoS Go.Proofs.Ytjgmocmaeadjdaa.ResC Go.Proofs.Ytjgmocmaeadjdaa.ContI

theorem Sec.put {B k : Nat} {w : World} {A : Option Addr} {m c : Nat} {L : List Rec} (h : Sec B w A m c L) (hk : k < B) (i : Nat) (v : Value) : Sec B (w.setCell ⟨k, i, none⟩ v) A m c L := by
  rcases h with h | ⟨g, r, h1, h2, h3, h4, h5⟩
  · exact .inl h
  · exact .inr ⟨g, r, h1, h2, h3, h4, h5.other (p := ⟨k, i, none⟩) (show g ≠ k by omega) v⟩

theorem cells5 {w w' : World} {b : Nat} {x0 x1 x2 x3 x4 : Value} (m : w.cell? ⟨b, 0, none⟩ = some x0 ∧ w.cell? ⟨b, 1, none⟩ = some x1 ∧ w.cell? ⟨b, 2, none⟩ = some x2 ∧ w.cell? ⟨b, 3, none⟩ = some x3 ∧ w.cell? ⟨b, 4, none⟩ = some x4) (e : ∀ j, w'.cell? ⟨b, j, none⟩ = w.cell? ⟨b, j, none⟩) : w'.cell? ⟨b, 0, none⟩ = some x0 ∧ w'.cell? ⟨b, 1, none⟩ = some x1 ∧ w'.cell? ⟨b, 2, none⟩ = some x2 ∧ w'.cell? ⟨b, 3, none⟩ = some x3 ∧ w'.cell? ⟨b, 4, none⟩ = some x4 :=
  ⟨(e 0).trans m.1, (e 1).trans m.2.1, (e 2).trans m.2.2.1, (e 3).trans m.2.2.2.1, (e 4).trans m.2.2.2.2⟩

theorem alt {B : Nat} {w : World} {A : Option Addr} {m c : Nat} {L : List Rec} (h : Sec B w A m c L) : ((A = none ∧ m = 0 ∧ c = 0) ∨ ∃ g, A = some ⟨g, 0, none⟩) ∧ ((A = none ∧ m8 m = 0 ∧ c = 0) ∨ ∃ g, A = some ⟨g, 0, none⟩) := by
  rcases h with ⟨h1, rfl, h2, _⟩ | ⟨g, r, h1, _⟩
  · exact ⟨.inl ⟨h1, rfl, h2⟩, .inl ⟨h1, rfl, h2⟩⟩
  · exact ⟨.inr ⟨g, h1⟩, .inr ⟨g, h1⟩⟩

section
variable {w0 w w1 w' : World} {k : Nat} {g b : Nat} {h : Hd} {A1 A2 A3 B1 B2 B3 : Option Addr} {n1 c1 n2 c2 n3 c3 m1 e1 m2 e2 m3 e3 : Nat} {d : Int} {a : Bool} {J1 J2 J3 : List Rec}

theorem keptI (m : ((((w.cell? ⟨g, 0, none⟩ = some (.int .i64 h.id) ∧ w.cell? ⟨g, 1, none⟩ = some (.bool h.rp) ∧ w.cell? ⟨g, 2, none⟩ = some (.bool h.au) ∧ w.cell? ⟨g, 3, none⟩ = some (.bool h.ct) ∧ w.cell? ⟨g, 4, none⟩ = some (.bool h.wa) ∧ w.cell? ⟨g, 5, none⟩ = some (.bool h.ca) ∧ w.cell? ⟨g, 6, none⟩ = some (.int .i64 h.code) ∧ w.cell? ⟨g, 7, none⟩ = some (.string h.qn) ∧ w.cell? ⟨g, 8, none⟩ = some (.int .i64 h.qt) ∧ w.cell? ⟨g, 9, none⟩ = some (.slice A1 n1 c1) ∧ w.cell? ⟨g, 10, none⟩ = some (.slice A2 n2 c2) ∧ w.cell? ⟨g, 11, none⟩ = some (.slice A3 n3 c3)) ∧ (w.cell? ⟨b, 0, none⟩ = some (.int .i64 d) ∧ w.cell? ⟨b, 1, none⟩ = some (.bool a) ∧ w.cell? ⟨b, 2, none⟩ = some (.slice B1 m1 e1) ∧ w.cell? ⟨b, 3, none⟩ = some (.slice B2 m2 e2) ∧ w.cell? ⟨b, 4, none⟩ = some (.slice B3 m3 e3))) ∧ Sec (k + 1) w B1 m1 e1 J1 ∧ Sec (k + 1) w B2 m2 e2 J2 ∧ Sec (k + 1) w B3 m3 e3 J3) ∧ RB w k) ∧ Sv w0 w) (hl : Below w.heap.size w w') : ((((w'.cell? ⟨g, 0, none⟩ = some (.int .i64 h.id) ∧ w'.cell? ⟨g, 1, none⟩ = some (.bool h.rp) ∧ w'.cell? ⟨g, 2, none⟩ = some (.bool h.au) ∧ w'.cell? ⟨g, 3, none⟩ = some (.bool h.ct) ∧ w'.cell? ⟨g, 4, none⟩ = some (.bool h.wa) ∧ w'.cell? ⟨g, 5, none⟩ = some (.bool h.ca) ∧ w'.cell? ⟨g, 6, none⟩ = some (.int .i64 h.code) ∧ w'.cell? ⟨g, 7, none⟩ = some (.string h.qn) ∧ w'.cell? ⟨g, 8, none⟩ = some (.int .i64 h.qt) ∧ w'.cell? ⟨g, 9, none⟩ = some (.slice A1 n1 c1) ∧ w'.cell? ⟨g, 10, none⟩ = some (.slice A2 n2 c2) ∧ w'.cell? ⟨g, 11, none⟩ = some (.slice A3 n3 c3)) ∧ (w'.cell? ⟨b, 0, none⟩ = some (.int .i64 d) ∧ w'.cell? ⟨b, 1, none⟩ = some (.bool a) ∧ w'.cell? ⟨b, 2, none⟩ = some (.slice B1 m1 e1) ∧ w'.cell? ⟨b, 3, none⟩ = some (.slice B2 m2 e2) ∧ w'.cell? ⟨b, 4, none⟩ = some (.slice B3 m3 e3))) ∧ Sec (k + 1) w' B1 m1 e1 J1 ∧ Sec (k + 1) w' B2 m2 e2 J2 ∧ Sec (k + 1) w' B3 m3 e3 J3) ∧ RB w' k) ∧ Sv w0 w' :=
  ⟨⟨⟨⟨Mx.below m.1.1.1.1 hl, cells5 m.1.1.1.2 fun j => hl.cell (p := ⟨b, j, none⟩) (World.block_lt_of_cell? w ⟨b, 0, none⟩ m.1.1.1.2.1)⟩, m.1.1.2.1.below hl, m.1.1.2.2.1.below hl, m.1.1.2.2.2.below hl⟩, m.1.2.below hl⟩, m.2.trans (hl.mono m.2.size)⟩

theorem keptI_draw (m : ((((w.cell? ⟨g, 0, none⟩ = some (.int .i64 h.id) ∧ w.cell? ⟨g, 1, none⟩ = some (.bool h.rp) ∧ w.cell? ⟨g, 2, none⟩ = some (.bool h.au) ∧ w.cell? ⟨g, 3, none⟩ = some (.bool h.ct) ∧ w.cell? ⟨g, 4, none⟩ = some (.bool h.wa) ∧ w.cell? ⟨g, 5, none⟩ = some (.bool h.ca) ∧ w.cell? ⟨g, 6, none⟩ = some (.int .i64 h.code) ∧ w.cell? ⟨g, 7, none⟩ = some (.string h.qn) ∧ w.cell? ⟨g, 8, none⟩ = some (.int .i64 h.qt) ∧ w.cell? ⟨g, 9, none⟩ = some (.slice A1 n1 c1) ∧ w.cell? ⟨g, 10, none⟩ = some (.slice A2 n2 c2) ∧ w.cell? ⟨g, 11, none⟩ = some (.slice A3 n3 c3)) ∧ (w.cell? ⟨b, 0, none⟩ = some (.int .i64 d) ∧ w.cell? ⟨b, 1, none⟩ = some (.bool a) ∧ w.cell? ⟨b, 2, none⟩ = some (.slice B1 m1 e1) ∧ w.cell? ⟨b, 3, none⟩ = some (.slice B2 m2 e2) ∧ w.cell? ⟨b, 4, none⟩ = some (.slice B3 m3 e3))) ∧ Sec (k + 1) w B1 m1 e1 J1 ∧ Sec (k + 1) w B2 m2 e2 J2 ∧ Sec (k + 1) w B3 m3 e3 J3) ∧ RB w k) ∧ Sv w0 w) : ((((w.drew.cell? ⟨g, 0, none⟩ = some (.int .i64 h.id) ∧ w.drew.cell? ⟨g, 1, none⟩ = some (.bool h.rp) ∧ w.drew.cell? ⟨g, 2, none⟩ = some (.bool h.au) ∧ w.drew.cell? ⟨g, 3, none⟩ = some (.bool h.ct) ∧ w.drew.cell? ⟨g, 4, none⟩ = some (.bool h.wa) ∧ w.drew.cell? ⟨g, 5, none⟩ = some (.bool h.ca) ∧ w.drew.cell? ⟨g, 6, none⟩ = some (.int .i64 h.code) ∧ w.drew.cell? ⟨g, 7, none⟩ = some (.string h.qn) ∧ w.drew.cell? ⟨g, 8, none⟩ = some (.int .i64 h.qt) ∧ w.drew.cell? ⟨g, 9, none⟩ = some (.slice A1 n1 c1) ∧ w.drew.cell? ⟨g, 10, none⟩ = some (.slice A2 n2 c2) ∧ w.drew.cell? ⟨g, 11, none⟩ = some (.slice A3 n3 c3)) ∧ (w.drew.cell? ⟨b, 0, none⟩ = some (.int .i64 d) ∧ w.drew.cell? ⟨b, 1, none⟩ = some (.bool a) ∧ w.drew.cell? ⟨b, 2, none⟩ = some (.slice B1 m1 e1) ∧ w.drew.cell? ⟨b, 3, none⟩ = some (.slice B2 m2 e2) ∧ w.drew.cell? ⟨b, 4, none⟩ = some (.slice B3 m3 e3))) ∧ Sec (k + 1) w.drew B1 m1 e1 J1 ∧ Sec (k + 1) w.drew B2 m2 e2 J2 ∧ Sec (k + 1) w.drew B3 m3 e3 J3) ∧ RB w.drew k) ∧ Sv w0 w.drew := keptI m ((Below.refl _ _).drew)

theorem keptI_put (m : ((((w.cell? ⟨g, 0, none⟩ = some (.int .i64 h.id) ∧ w.cell? ⟨g, 1, none⟩ = some (.bool h.rp) ∧ w.cell? ⟨g, 2, none⟩ = some (.bool h.au) ∧ w.cell? ⟨g, 3, none⟩ = some (.bool h.ct) ∧ w.cell? ⟨g, 4, none⟩ = some (.bool h.wa) ∧ w.cell? ⟨g, 5, none⟩ = some (.bool h.ca) ∧ w.cell? ⟨g, 6, none⟩ = some (.int .i64 h.code) ∧ w.cell? ⟨g, 7, none⟩ = some (.string h.qn) ∧ w.cell? ⟨g, 8, none⟩ = some (.int .i64 h.qt) ∧ w.cell? ⟨g, 9, none⟩ = some (.slice A1 n1 c1) ∧ w.cell? ⟨g, 10, none⟩ = some (.slice A2 n2 c2) ∧ w.cell? ⟨g, 11, none⟩ = some (.slice A3 n3 c3)) ∧ (w.cell? ⟨b, 0, none⟩ = some (.int .i64 d) ∧ w.cell? ⟨b, 1, none⟩ = some (.bool a) ∧ w.cell? ⟨b, 2, none⟩ = some (.slice B1 m1 e1) ∧ w.cell? ⟨b, 3, none⟩ = some (.slice B2 m2 e2) ∧ w.cell? ⟨b, 4, none⟩ = some (.slice B3 m3 e3))) ∧ Sec (k + 1) w B1 m1 e1 J1 ∧ Sec (k + 1) w B2 m2 e2 J2 ∧ Sec (k + 1) w B3 m3 e3 J3) ∧ RB w k) ∧ Sv w0 w) (h0 : w0.heap.size ≤ k) (h1 : g ≠ k) (h2 : b ≠ k) (i : Nat) (v : Value) : (((((w.setCell ⟨k, i, none⟩ v).cell? ⟨g, 0, none⟩ = some (.int .i64 h.id) ∧ (w.setCell ⟨k, i, none⟩ v).cell? ⟨g, 1, none⟩ = some (.bool h.rp) ∧ (w.setCell ⟨k, i, none⟩ v).cell? ⟨g, 2, none⟩ = some (.bool h.au) ∧ (w.setCell ⟨k, i, none⟩ v).cell? ⟨g, 3, none⟩ = some (.bool h.ct) ∧ (w.setCell ⟨k, i, none⟩ v).cell? ⟨g, 4, none⟩ = some (.bool h.wa) ∧ (w.setCell ⟨k, i, none⟩ v).cell? ⟨g, 5, none⟩ = some (.bool h.ca) ∧ (w.setCell ⟨k, i, none⟩ v).cell? ⟨g, 6, none⟩ = some (.int .i64 h.code) ∧ (w.setCell ⟨k, i, none⟩ v).cell? ⟨g, 7, none⟩ = some (.string h.qn) ∧ (w.setCell ⟨k, i, none⟩ v).cell? ⟨g, 8, none⟩ = some (.int .i64 h.qt) ∧ (w.setCell ⟨k, i, none⟩ v).cell? ⟨g, 9, none⟩ = some (.slice A1 n1 c1) ∧ (w.setCell ⟨k, i, none⟩ v).cell? ⟨g, 10, none⟩ = some (.slice A2 n2 c2) ∧ (w.setCell ⟨k, i, none⟩ v).cell? ⟨g, 11, none⟩ = some (.slice A3 n3 c3)) ∧ ((w.setCell ⟨k, i, none⟩ v).cell? ⟨b, 0, none⟩ = some (.int .i64 d) ∧ (w.setCell ⟨k, i, none⟩ v).cell? ⟨b, 1, none⟩ = some (.bool a) ∧ (w.setCell ⟨k, i, none⟩ v).cell? ⟨b, 2, none⟩ = some (.slice B1 m1 e1) ∧ (w.setCell ⟨k, i, none⟩ v).cell? ⟨b, 3, none⟩ = some (.slice B2 m2 e2) ∧ (w.setCell ⟨k, i, none⟩ v).cell? ⟨b, 4, none⟩ = some (.slice B3 m3 e3))) ∧ Sec (k + 1) (w.setCell ⟨k, i, none⟩ v) B1 m1 e1 J1 ∧ Sec (k + 1) (w.setCell ⟨k, i, none⟩ v) B2 m2 e2 J2 ∧ Sec (k + 1) (w.setCell ⟨k, i, none⟩ v) B3 m3 e3 J3) ∧ RB (w.setCell ⟨k, i, none⟩ v) k) ∧ Sv w0 (w.setCell ⟨k, i, none⟩ v) :=
  ⟨⟨⟨⟨Mx.set1 m.1.1.1.1 (p := ⟨k, i, none⟩) h1 v, cells5 m.1.1.1.2 fun _ => World.cell?_of_block (Below.heap_setCell w ⟨k, i, none⟩ v b h2)⟩, Sec.put m.1.1.2.1 (Nat.lt_succ_self k) i v, Sec.put m.1.1.2.2.1 (Nat.lt_succ_self k) i v, Sec.put m.1.1.2.2.2 (Nat.lt_succ_self k) i v⟩, m.1.2.put i v⟩, Below.setCell m.2 (p := ⟨k, i, none⟩) h0 v⟩

theorem keptI_fil (m : ((((w1.cell? ⟨g, 0, none⟩ = some (.int .i64 h.id) ∧ w1.cell? ⟨g, 1, none⟩ = some (.bool h.rp) ∧ w1.cell? ⟨g, 2, none⟩ = some (.bool h.au) ∧ w1.cell? ⟨g, 3, none⟩ = some (.bool h.ct) ∧ w1.cell? ⟨g, 4, none⟩ = some (.bool h.wa) ∧ w1.cell? ⟨g, 5, none⟩ = some (.bool h.ca) ∧ w1.cell? ⟨g, 6, none⟩ = some (.int .i64 h.code) ∧ w1.cell? ⟨g, 7, none⟩ = some (.string h.qn) ∧ w1.cell? ⟨g, 8, none⟩ = some (.int .i64 h.qt) ∧ w1.cell? ⟨g, 9, none⟩ = some (.slice A1 n1 c1) ∧ w1.cell? ⟨g, 10, none⟩ = some (.slice A2 n2 c2) ∧ w1.cell? ⟨g, 11, none⟩ = some (.slice A3 n3 c3)) ∧ (w1.cell? ⟨b, 0, none⟩ = some (.int .i64 d) ∧ w1.cell? ⟨b, 1, none⟩ = some (.bool a) ∧ w1.cell? ⟨b, 2, none⟩ = some (.slice B1 m1 e1) ∧ w1.cell? ⟨b, 3, none⟩ = some (.slice B2 m2 e2) ∧ w1.cell? ⟨b, 4, none⟩ = some (.slice B3 m3 e3))) ∧ Sec (k + 1) w1 B1 m1 e1 J1 ∧ Sec (k + 1) w1 B2 m2 e2 J2 ∧ Sec (k + 1) w1 B3 m3 e3 J3) ∧ RB w1 k) ∧ Sv w0 w1) (h0 : w0.heap.size ≤ k) (h1 : g ≠ k) (h2 : b ≠ k) (v0 v1 v2 v3 v4 v5 v6 v7 v8 v9 v10 v11 : Value) : ((((((((((((((((w1.setCell ⟨k, 0, none⟩ v0).setCell ⟨k, 1, none⟩ v1).setCell ⟨k, 2, none⟩ v2).setCell ⟨k, 3, none⟩ v3).setCell ⟨k, 4, none⟩ v4).setCell ⟨k, 5, none⟩ v5).setCell ⟨k, 6, none⟩ v6).setCell ⟨k, 7, none⟩ v7).setCell ⟨k, 8, none⟩ v8).setCell ⟨k, 9, none⟩ v9).setCell ⟨k, 10, none⟩ v10).setCell ⟨k, 11, none⟩ v11).cell? ⟨g, 0, none⟩ = some (.int .i64 h.id) ∧ ((((((((((((w1.setCell ⟨k, 0, none⟩ v0).setCell ⟨k, 1, none⟩ v1).setCell ⟨k, 2, none⟩ v2).setCell ⟨k, 3, none⟩ v3).setCell ⟨k, 4, none⟩ v4).setCell ⟨k, 5, none⟩ v5).setCell ⟨k, 6, none⟩ v6).setCell ⟨k, 7, none⟩ v7).setCell ⟨k, 8, none⟩ v8).setCell ⟨k, 9, none⟩ v9).setCell ⟨k, 10, none⟩ v10).setCell ⟨k, 11, none⟩ v11).cell? ⟨g, 1, none⟩ = some (.bool h.rp) ∧ ((((((((((((w1.setCell ⟨k, 0, none⟩ v0).setCell ⟨k, 1, none⟩ v1).setCell ⟨k, 2, none⟩ v2).setCell ⟨k, 3, none⟩ v3).setCell ⟨k, 4, none⟩ v4).setCell ⟨k, 5, none⟩ v5).setCell ⟨k, 6, none⟩ v6).setCell ⟨k, 7, none⟩ v7).setCell ⟨k, 8, none⟩ v8).setCell ⟨k, 9, none⟩ v9).setCell ⟨k, 10, none⟩ v10).setCell ⟨k, 11, none⟩ v11).cell? ⟨g, 2, none⟩ = some (.bool h.au) ∧ ((((((((((((w1.setCell ⟨k, 0, none⟩ v0).setCell ⟨k, 1, none⟩ v1).setCell ⟨k, 2, none⟩ v2).setCell ⟨k, 3, none⟩ v3).setCell ⟨k, 4, none⟩ v4).setCell ⟨k, 5, none⟩ v5).setCell ⟨k, 6, none⟩ v6).setCell ⟨k, 7, none⟩ v7).setCell ⟨k, 8, none⟩ v8).setCell ⟨k, 9, none⟩ v9).setCell ⟨k, 10, none⟩ v10).setCell ⟨k, 11, none⟩ v11).cell? ⟨g, 3, none⟩ = some (.bool h.ct) ∧ ((((((((((((w1.setCell ⟨k, 0, none⟩ v0).setCell ⟨k, 1, none⟩ v1).setCell ⟨k, 2, none⟩ v2).setCell ⟨k, 3, none⟩ v3).setCell ⟨k, 4, none⟩ v4).setCell ⟨k, 5, none⟩ v5).setCell ⟨k, 6, none⟩ v6).setCell ⟨k, 7, none⟩ v7).setCell ⟨k, 8, none⟩ v8).setCell ⟨k, 9, none⟩ v9).setCell ⟨k, 10, none⟩ v10).setCell ⟨k, 11, none⟩ v11).cell? ⟨g, 4, none⟩ = some (.bool h.wa) ∧ ((((((((((((w1.setCell ⟨k, 0, none⟩ v0).setCell ⟨k, 1, none⟩ v1).setCell ⟨k, 2, none⟩ v2).setCell ⟨k, 3, none⟩ v3).setCell ⟨k, 4, none⟩ v4).setCell ⟨k, 5, none⟩ v5).setCell ⟨k, 6, none⟩ v6).setCell ⟨k, 7, none⟩ v7).setCell ⟨k, 8, none⟩ v8).setCell ⟨k, 9, none⟩ v9).setCell ⟨k, 10, none⟩ v10).setCell ⟨k, 11, none⟩ v11).cell? ⟨g, 5, none⟩ = some (.bool h.ca) ∧ ((((((((((((w1.setCell ⟨k, 0, none⟩ v0).setCell ⟨k, 1, none⟩ v1).setCell ⟨k, 2, none⟩ v2).setCell ⟨k, 3, none⟩ v3).setCell ⟨k, 4, none⟩ v4).setCell ⟨k, 5, none⟩ v5).setCell ⟨k, 6, none⟩ v6).setCell ⟨k, 7, none⟩ v7).setCell ⟨k, 8, none⟩ v8).setCell ⟨k, 9, none⟩ v9).setCell ⟨k, 10, none⟩ v10).setCell ⟨k, 11, none⟩ v11).cell? ⟨g, 6, none⟩ = some (.int .i64 h.code) ∧ ((((((((((((w1.setCell ⟨k, 0, none⟩ v0).setCell ⟨k, 1, none⟩ v1).setCell ⟨k, 2, none⟩ v2).setCell ⟨k, 3, none⟩ v3).setCell ⟨k, 4, none⟩ v4).setCell ⟨k, 5, none⟩ v5).setCell ⟨k, 6, none⟩ v6).setCell ⟨k, 7, none⟩ v7).setCell ⟨k, 8, none⟩ v8).setCell ⟨k, 9, none⟩ v9).setCell ⟨k, 10, none⟩ v10).setCell ⟨k, 11, none⟩ v11).cell? ⟨g, 7, none⟩ = some (.string h.qn) ∧ ((((((((((((w1.setCell ⟨k, 0, none⟩ v0).setCell ⟨k, 1, none⟩ v1).setCell ⟨k, 2, none⟩ v2).setCell ⟨k, 3, none⟩ v3).setCell ⟨k, 4, none⟩ v4).setCell ⟨k, 5, none⟩ v5).setCell ⟨k, 6, none⟩ v6).setCell ⟨k, 7, none⟩ v7).setCell ⟨k, 8, none⟩ v8).setCell ⟨k, 9, none⟩ v9).setCell ⟨k, 10, none⟩ v10).setCell ⟨k, 11, none⟩ v11).cell? ⟨g, 8, none⟩ = some (.int .i64 h.qt) ∧ ((((((((((((w1.setCell ⟨k, 0, none⟩ v0).setCell ⟨k, 1, none⟩ v1).setCell ⟨k, 2, none⟩ v2).setCell ⟨k, 3, none⟩ v3).setCell ⟨k, 4, none⟩ v4).setCell ⟨k, 5, none⟩ v5).setCell ⟨k, 6, none⟩ v6).setCell ⟨k, 7, none⟩ v7).setCell ⟨k, 8, none⟩ v8).setCell ⟨k, 9, none⟩ v9).setCell ⟨k, 10, none⟩ v10).setCell ⟨k, 11, none⟩ v11).cell? ⟨g, 9, none⟩ = some (.slice A1 n1 c1) ∧ ((((((((((((w1.setCell ⟨k, 0, none⟩ v0).setCell ⟨k, 1, none⟩ v1).setCell ⟨k, 2, none⟩ v2).setCell ⟨k, 3, none⟩ v3).setCell ⟨k, 4, none⟩ v4).setCell ⟨k, 5, none⟩ v5).setCell ⟨k, 6, none⟩ v6).setCell ⟨k, 7, none⟩ v7).setCell ⟨k, 8, none⟩ v8).setCell ⟨k, 9, none⟩ v9).setCell ⟨k, 10, none⟩ v10).setCell ⟨k, 11, none⟩ v11).cell? ⟨g, 10, none⟩ = some (.slice A2 n2 c2) ∧ ((((((((((((w1.setCell ⟨k, 0, none⟩ v0).setCell ⟨k, 1, none⟩ v1).setCell ⟨k, 2, none⟩ v2).setCell ⟨k, 3, none⟩ v3).setCell ⟨k, 4, none⟩ v4).setCell ⟨k, 5, none⟩ v5).setCell ⟨k, 6, none⟩ v6).setCell ⟨k, 7, none⟩ v7).setCell ⟨k, 8, none⟩ v8).setCell ⟨k, 9, none⟩ v9).setCell ⟨k, 10, none⟩ v10).setCell ⟨k, 11, none⟩ v11).cell? ⟨g, 11, none⟩ = some (.slice A3 n3 c3)) ∧ (((((((((((((w1.setCell ⟨k, 0, none⟩ v0).setCell ⟨k, 1, none⟩ v1).setCell ⟨k, 2, none⟩ v2).setCell ⟨k, 3, none⟩ v3).setCell ⟨k, 4, none⟩ v4).setCell ⟨k, 5, none⟩ v5).setCell ⟨k, 6, none⟩ v6).setCell ⟨k, 7, none⟩ v7).setCell ⟨k, 8, none⟩ v8).setCell ⟨k, 9, none⟩ v9).setCell ⟨k, 10, none⟩ v10).setCell ⟨k, 11, none⟩ v11).cell? ⟨b, 0, none⟩ = some (.int .i64 d) ∧ ((((((((((((w1.setCell ⟨k, 0, none⟩ v0).setCell ⟨k, 1, none⟩ v1).setCell ⟨k, 2, none⟩ v2).setCell ⟨k, 3, none⟩ v3).setCell ⟨k, 4, none⟩ v4).setCell ⟨k, 5, none⟩ v5).setCell ⟨k, 6, none⟩ v6).setCell ⟨k, 7, none⟩ v7).setCell ⟨k, 8, none⟩ v8).setCell ⟨k, 9, none⟩ v9).setCell ⟨k, 10, none⟩ v10).setCell ⟨k, 11, none⟩ v11).cell? ⟨b, 1, none⟩ = some (.bool a) ∧ ((((((((((((w1.setCell ⟨k, 0, none⟩ v0).setCell ⟨k, 1, none⟩ v1).setCell ⟨k, 2, none⟩ v2).setCell ⟨k, 3, none⟩ v3).setCell ⟨k, 4, none⟩ v4).setCell ⟨k, 5, none⟩ v5).setCell ⟨k, 6, none⟩ v6).setCell ⟨k, 7, none⟩ v7).setCell ⟨k, 8, none⟩ v8).setCell ⟨k, 9, none⟩ v9).setCell ⟨k, 10, none⟩ v10).setCell ⟨k, 11, none⟩ v11).cell? ⟨b, 2, none⟩ = some (.slice B1 m1 e1) ∧ ((((((((((((w1.setCell ⟨k, 0, none⟩ v0).setCell ⟨k, 1, none⟩ v1).setCell ⟨k, 2, none⟩ v2).setCell ⟨k, 3, none⟩ v3).setCell ⟨k, 4, none⟩ v4).setCell ⟨k, 5, none⟩ v5).setCell ⟨k, 6, none⟩ v6).setCell ⟨k, 7, none⟩ v7).setCell ⟨k, 8, none⟩ v8).setCell ⟨k, 9, none⟩ v9).setCell ⟨k, 10, none⟩ v10).setCell ⟨k, 11, none⟩ v11).cell? ⟨b, 3, none⟩ = some (.slice B2 m2 e2) ∧ ((((((((((((w1.setCell ⟨k, 0, none⟩ v0).setCell ⟨k, 1, none⟩ v1).setCell ⟨k, 2, none⟩ v2).setCell ⟨k, 3, none⟩ v3).setCell ⟨k, 4, none⟩ v4).setCell ⟨k, 5, none⟩ v5).setCell ⟨k, 6, none⟩ v6).setCell ⟨k, 7, none⟩ v7).setCell ⟨k, 8, none⟩ v8).setCell ⟨k, 9, none⟩ v9).setCell ⟨k, 10, none⟩ v10).setCell ⟨k, 11, none⟩ v11).cell? ⟨b, 4, none⟩ = some (.slice B3 m3 e3))) ∧ Sec (k + 1) ((((((((((((w1.setCell ⟨k, 0, none⟩ v0).setCell ⟨k, 1, none⟩ v1).setCell ⟨k, 2, none⟩ v2).setCell ⟨k, 3, none⟩ v3).setCell ⟨k, 4, none⟩ v4).setCell ⟨k, 5, none⟩ v5).setCell ⟨k, 6, none⟩ v6).setCell ⟨k, 7, none⟩ v7).setCell ⟨k, 8, none⟩ v8).setCell ⟨k, 9, none⟩ v9).setCell ⟨k, 10, none⟩ v10).setCell ⟨k, 11, none⟩ v11) B1 m1 e1 J1 ∧ Sec (k + 1) ((((((((((((w1.setCell ⟨k, 0, none⟩ v0).setCell ⟨k, 1, none⟩ v1).setCell ⟨k, 2, none⟩ v2).setCell ⟨k, 3, none⟩ v3).setCell ⟨k, 4, none⟩ v4).setCell ⟨k, 5, none⟩ v5).setCell ⟨k, 6, none⟩ v6).setCell ⟨k, 7, none⟩ v7).setCell ⟨k, 8, none⟩ v8).setCell ⟨k, 9, none⟩ v9).setCell ⟨k, 10, none⟩ v10).setCell ⟨k, 11, none⟩ v11) B2 m2 e2 J2 ∧ Sec (k + 1) ((((((((((((w1.setCell ⟨k, 0, none⟩ v0).setCell ⟨k, 1, none⟩ v1).setCell ⟨k, 2, none⟩ v2).setCell ⟨k, 3, none⟩ v3).setCell ⟨k, 4, none⟩ v4).setCell ⟨k, 5, none⟩ v5).setCell ⟨k, 6, none⟩ v6).setCell ⟨k, 7, none⟩ v7).setCell ⟨k, 8, none⟩ v8).setCell ⟨k, 9, none⟩ v9).setCell ⟨k, 10, none⟩ v10).setCell ⟨k, 11, none⟩ v11) B3 m3 e3 J3) ∧ RB ((((((((((((w1.setCell ⟨k, 0, none⟩ v0).setCell ⟨k, 1, none⟩ v1).setCell ⟨k, 2, none⟩ v2).setCell ⟨k, 3, none⟩ v3).setCell ⟨k, 4, none⟩ v4).setCell ⟨k, 5, none⟩ v5).setCell ⟨k, 6, none⟩ v6).setCell ⟨k, 7, none⟩ v7).setCell ⟨k, 8, none⟩ v8).setCell ⟨k, 9, none⟩ v9).setCell ⟨k, 10, none⟩ v10).setCell ⟨k, 11, none⟩ v11) k) ∧ Sv w0 ((((((((((((w1.setCell ⟨k, 0, none⟩ v0).setCell ⟨k, 1, none⟩ v1).setCell ⟨k, 2, none⟩ v2).setCell ⟨k, 3, none⟩ v3).setCell ⟨k, 4, none⟩ v4).setCell ⟨k, 5, none⟩ v5).setCell ⟨k, 6, none⟩ v6).setCell ⟨k, 7, none⟩ v7).setCell ⟨k, 8, none⟩ v8).setCell ⟨k, 9, none⟩ v9).setCell ⟨k, 10, none⟩ v10).setCell ⟨k, 11, none⟩ v11) :=
  (keptI_put (keptI_put (keptI_put (keptI_put (keptI_put (keptI_put (keptI_put (keptI_put (keptI_put (keptI_put (keptI_put (keptI_put m h0 h1 h2 0 v0) h0 h1 h2 1 v1) h0 h1 h2 2 v2) h0 h1 h2 3 v3) h0 h1 h2 4 v4) h0 h1 h2 5 v5) h0 h1 h2 6 v6) h0 h1 h2 7 v7) h0 h1 h2 8 v8) h0 h1 h2 9 v9) h0 h1 h2 10 v10) h0 h1 h2 11 v11)
end

/-- The boxes of a zone, a message and the result. -/
theorem boxes (w : World) (s : ByteArray) (x : Value) (h : Hd) (A1 A2 A3 : Option Addr) (n1 c1 n2 c2 n3 c3 : Nat) (t u v : TypeId) : (Zx (((w.alloc (.cells #[.string s, x] t)).alloc (.cells #[.int .i64 h.id, .bool h.rp, .bool h.au, .bool h.ct, .bool h.wa, .bool h.ca, .int .i64 h.code, .string h.qn, .int .i64 h.qt, .slice A1 n1 c1, .slice A2 n2 c2, .slice A3 n3 c3] u)).alloc (.cells #[.int .i64 0, .bool false, .bool false, .bool false, .bool false, .bool false, .int .i64 0, .string ⟨#[]⟩, .int .i64 0, .slice none 0 0, .slice none 0 0, .slice none 0 0] v)) w.heap.size s x ∧ Mx (((w.alloc (.cells #[.string s, x] t)).alloc (.cells #[.int .i64 h.id, .bool h.rp, .bool h.au, .bool h.ct, .bool h.wa, .bool h.ca, .int .i64 h.code, .string h.qn, .int .i64 h.qt, .slice A1 n1 c1, .slice A2 n2 c2, .slice A3 n3 c3] u)).alloc (.cells #[.int .i64 0, .bool false, .bool false, .bool false, .bool false, .bool false, .int .i64 0, .string ⟨#[]⟩, .int .i64 0, .slice none 0 0, .slice none 0 0, .slice none 0 0] v)) (w.heap.size + 1) h (.slice A1 n1 c1) (.slice A2 n2 c2) (.slice A3 n3 c3)) ∧ Bk (((w.alloc (.cells #[.string s, x] t)).alloc (.cells #[.int .i64 h.id, .bool h.rp, .bool h.au, .bool h.ct, .bool h.wa, .bool h.ca, .int .i64 h.code, .string h.qn, .int .i64 h.qt, .slice A1 n1 c1, .slice A2 n2 c2, .slice A3 n3 c3] u)).alloc (.cells #[.int .i64 0, .bool false, .bool false, .bool false, .bool false, .bool false, .int .i64 0, .string ⟨#[]⟩, .int .i64 0, .slice none 0 0, .slice none 0 0, .slice none 0 0] v)) (w.heap.size + 1 + 1) v (mc zh (.slice none 0 0) (.slice none 0 0) (.slice none 0 0)) ∧ Below w.heap.size w (((w.alloc (.cells #[.string s, x] t)).alloc (.cells #[.int .i64 h.id, .bool h.rp, .bool h.au, .bool h.ct, .bool h.wa, .bool h.ca, .int .i64 h.code, .string h.qn, .int .i64 h.qt, .slice A1 n1 c1, .slice A2 n2 c2, .slice A3 n3 c3] u)).alloc (.cells #[.int .i64 0, .bool false, .bool false, .bool false, .bool false, .bool false, .int .i64 0, .string ⟨#[]⟩, .int .i64 0, .slice none 0 0, .slice none 0 0, .slice none 0 0] v)) := by
  have e1 : (w.alloc (.cells #[.string s, x] t)).heap.size = w.heap.size + 1 := by simp
  have e2 : ((w.alloc (.cells #[.string s, x] t)).alloc (.cells #[.int .i64 h.id, .bool h.rp, .bool h.au, .bool h.ct, .bool h.wa, .bool h.ca, .int .i64 h.code, .string h.qn, .int .i64 h.qt, .slice A1 n1 c1, .slice A2 n2 c2, .slice A3 n3 c3] u)).heap.size = w.heap.size + 1 + 1 := by simp
  have al : Below (w.alloc (.cells #[.string s, x] t)).heap.size (w.alloc (.cells #[.string s, x] t)) ((w.alloc (.cells #[.string s, x] t)).alloc (.cells #[.int .i64 h.id, .bool h.rp, .bool h.au, .bool h.ct, .bool h.wa, .bool h.ca, .int .i64 h.code, .string h.qn, .int .i64 h.qt, .slice A1 n1 c1, .slice A2 n2 c2, .slice A3 n3 c3] u)) := (Below.refl _ _).alloc (Nat.le_refl _) _
  have al2 : Below ((w.alloc (.cells #[.string s, x] t)).alloc (.cells #[.int .i64 h.id, .bool h.rp, .bool h.au, .bool h.ct, .bool h.wa, .bool h.ca, .int .i64 h.code, .string h.qn, .int .i64 h.qt, .slice A1 n1 c1, .slice A2 n2 c2, .slice A3 n3 c3] u)).heap.size ((w.alloc (.cells #[.string s, x] t)).alloc (.cells #[.int .i64 h.id, .bool h.rp, .bool h.au, .bool h.ct, .bool h.wa, .bool h.ca, .int .i64 h.code, .string h.qn, .int .i64 h.qt, .slice A1 n1 c1, .slice A2 n2 c2, .slice A3 n3 c3] u)) (((w.alloc (.cells #[.string s, x] t)).alloc (.cells #[.int .i64 h.id, .bool h.rp, .bool h.au, .bool h.ct, .bool h.wa, .bool h.ca, .int .i64 h.code, .string h.qn, .int .i64 h.qt, .slice A1 n1 c1, .slice A2 n2 c2, .slice A3 n3 c3] u)).alloc (.cells #[.int .i64 0, .bool false, .bool false, .bool false, .bool false, .bool false, .int .i64 0, .string ⟨#[]⟩, .int .i64 0, .slice none 0 0, .slice none 0 0, .slice none 0 0] v)) := (Below.refl _ _).alloc (Nat.le_refl _) _
  have l1 : Below w.heap.size w (w.alloc (.cells #[.string s, x] t)) := (Below.refl _ _).alloc (Nat.le_refl _) _
  have l2 := l1.trans (al.mono l1.size)
  have m := mx_new (w.alloc (.cells #[.string s, x] t)) u h (.slice A1 n1 c1) (.slice A2 n2 c2) (.slice A3 n3 c3)
  rw [e1] at m
  have b := heap_alloc_new ((w.alloc (.cells #[.string s, x] t)).alloc (.cells #[.int .i64 h.id, .bool h.rp, .bool h.au, .bool h.ct, .bool h.wa, .bool h.ca, .int .i64 h.code, .string h.qn, .int .i64 h.qt, .slice A1 n1 c1, .slice A2 n2 c2, .slice A3 n3 c3] u)) (.cells #[.int .i64 0, .bool false, .bool false, .bool false, .bool false, .bool false, .int .i64 0, .string ⟨#[]⟩, .int .i64 0, .slice none 0 0, .slice none 0 0, .slice none 0 0] v)
  rw [e2] at b
  exact ⟨⟨((zx_new w t s x).below al).below al2, m.below al2⟩, b, l2.trans (al2.mono l2.size)⟩

/-- The call returned a reply of the kind k: the first eight records of each section, and turned nothing that was there. -/
def GivesS8 (w : World) (h : Hd) (k : Int) (J1 J2 J3 : List Rec) (e : Ending) (w' : World) : Prop := GivesM w (rph h (rcd k) (aut k)) (m8 J1.length) (m8 J2.length) (m8 J3.length) (J1.take 8) (J2.take 8) (J3.take 8) e w'

set_option maxRecDepth 100000 in
set_option maxHeartbeats 8000000 in
theorem impl (s : ByteArray) (b0 o0 n c : Nat) (l : List Rec) (h : Hd) (A1 A2 A3 : Option Addr) (n1 c1 n2 c2 n3 c3 : Nat) (w : World) (hs : Sr w w.heap.size (some ⟨b0, o0, none⟩) n l) (hn : n ≤ 1048576) (hm : s.size ≤ 400000000) (hq : h.qn.size ≤ 400000000) (hz : ∀ r ∈ l, r.name.size ≤ 400000000) :
    Calls Try.prog 18 #[.agg #[.string s, .slice (some ⟨b0, o0, none⟩) n c], .agg #[.int .i64 h.id, .bool h.rp, .bool h.au, .bool h.ct, .bool h.wa, .bool h.ca, .int .i64 h.code, .string h.qn, .int .i64 h.qt, .slice A1 n1 c1, .slice A2 n2 c2, .slice A3 n3 c3]] w (GivesS8 w h (kd s h.qn h.qt l) (anl (kd s h.qn h.qt l) h.qn h.qt l) (mol (kd s h.qn h.qt l) s h.qn l) (hel (kd s h.qn h.qt l) s h.qn l)) := by
  obtain ⟨⟨hx, hy⟩, hb0, hl0⟩ := boxes w s (.slice (some ⟨b0, o0, none⟩) n c) h A1 A2 A3 n1 c1 n2 c2 n3 c3 26 32 32
  have X0 := Lib.hid hx
  have Y0 := Lib.hid hy
  have R0 := Lib.hid hb0
  have L0 := Lib.hid hl0
  have HS := Lib.hid hs
  have CI := Lib.hid (fun W hW => ContI.impl s h.qn h.qt b0 o0 n c l W hW hn hm hq hz)
  have LA : Hid ((anl (kd s h.qn h.qt l) h.qn h.qt l).length ≤ 1100000000000) := Nat.le_trans (anl_len _ _ _ _) (by have := hs.1; omega)
  have LM : Hid ((mol (kd s h.qn h.qt l) s h.qn l).length ≤ 1100000000000) := Nat.le_trans (mol_len _ _ _ _) (by have := hs.1; omega)
  have LH : Hid ((hel (kd s h.qn h.qt l) s h.qn l).length ≤ 1100000000000) := Nat.le_trans (hel_len _ _ _ _) (by rw [hs.1]; exact Nat.le_trans (Nat.mul_le_mul hn hn) (by decide))
  clear hx hy hb0 hl0 hs hz
  unfold GivesQ at CI
  generalize kd s h.qn h.qt l = kk at *
  generalize anl kk h.qn h.qt l = J1 at *
  generalize mol kk s h.qn l = J2 at *
  generalize hel kk s h.qn l = J3 at *
  generalize hd : rcd kk = d at *
  generalize ha : aut kk = a at *
  have HD := Lib.hid hd
  have HA := Lib.hid ha
  clear hd ha
  obtain ⟨x0, x1⟩ := X0.out
  obtain ⟨y0, y1, y2, y3, y4, y5, y6, y7, y8, y9, y10, y11⟩ := Y0.out
  go_enter Try.func18, Try.ntmps18
  go_wp2_with fail
  refine (CI.out _ (HS.out.on L0.out)).mono ?_
  rintro e w1 ⟨B1, m1, e1, B2, m2, e2, B3, m3, e3, rfl, q1, q2, q3, hl⟩
  have al : Below w1.heap.size w1 (w1.alloc (.cells #[.int .i64 d, .bool a, .slice B1 m1 e1, .slice B2 m2 e2, .slice B3 m3 e3] 58)) := (Below.refl _ _).alloc (Nat.le_refl _) _
  have L1 := Lib.hid (L0.out.trans (hl.mono L0.out.size))
  have L2 := Lib.hid (L1.out.trans (al.mono L1.out.size))
  have Y2 := Lib.hid ((Y0.out.below hl).below al)
  have R2 := Lib.hid ((R0.out.below hl R0.out.lt).below al (R0.out.below hl R0.out.lt).lt)
  have GC : Hid (w.heap.size + 1 + 1 < w1.heap.size) := (R0.out.below hl R0.out.lt).lt
  have C2 : Hid (Bk (w1.alloc (.cells #[.int .i64 d, .bool a, .slice B1 m1 e1, .slice B2 m2 e2, .slice B3 m3 e3] 58)) w1.heap.size 58 [.int .i64 d, .bool a, .slice B1 m1 e1, .slice B2 m2 e2, .slice B3 m3 e3]) := heap_alloc_new w1 _
  have Q1 := Lib.hid ((q1.below al).low (show w.heap.size + 1 + 1 + 1 ≤ _ from R0.out.lt))
  have Q2 := Lib.hid ((q2.below al).low (show w.heap.size + 1 + 1 + 1 ≤ _ from R0.out.lt))
  have Q3 := Lib.hid ((q3.below al).low (show w.heap.size + 1 + 1 + 1 ≤ _ from R0.out.lt))
  clear hl al q1 q2 q3 CI X0 Y0 R0 L0 L1 x0 x1 y0 y1 y2 y3 y4 y5 y6 y7 y8 y9 y10 y11
  go_upto_region 2 with (fail)
  generalize w1.alloc (.cells #[.int .i64 d, .bool a, .slice B1 m1 e1, .slice B2 m2 e2, .slice B3 m3 e3] 58) = w2 at *
  generalize w1.heap.size = gc at *
  have N1 := Q1.out.len
  have N2 := Q2.out.len
  have N3 := Q3.out.len
  have SH1 : Hid (∀ W : World, Calls Try.prog 40 #[.slice B1 m1 e1] W fun e w' => e = .returned (.slice B1 (m8 m1) e1) ∧ Below W.heap.size W w') := fun W => (shortened B1 m1 e1 W (alt Q1.out).1 Q1.out.cap (by have := LA.out; omega)).mono fun e w' ⟨h1, h2⟩ => ⟨h1, h2 ▸ Below.refl _ _⟩
  have SH2 : Hid (∀ W : World, Calls Try.prog 40 #[.slice B2 m2 e2] W fun e w' => e = .returned (.slice B2 (m8 m2) e2) ∧ Below W.heap.size W w') := fun W => (shortened B2 m2 e2 W (alt Q2.out).1 Q2.out.cap (by have := LM.out; omega)).mono fun e w' ⟨h1, h2⟩ => ⟨h1, h2 ▸ Below.refl _ _⟩
  have SH3 : Hid (∀ W : World, Calls Try.prog 40 #[.slice B3 m3 e3] W fun e w' => e = .returned (.slice B3 (m8 m3) e3) ∧ Below W.heap.size W w') := fun W => (shortened B3 m3 e3 W (alt Q3.out).1 Q3.out.cap (by have := LH.out; omega)).mono fun e w' ⟨h1, h2⟩ => ⟨h1, h2 ▸ Below.refl _ _⟩
  have RR : Hid (∀ W : World, ((((W.cell? ⟨w.heap.size + 1, 0, none⟩ = some (.int .i64 h.id) ∧ W.cell? ⟨w.heap.size + 1, 1, none⟩ = some (.bool h.rp) ∧ W.cell? ⟨w.heap.size + 1, 2, none⟩ = some (.bool h.au) ∧ W.cell? ⟨w.heap.size + 1, 3, none⟩ = some (.bool h.ct) ∧ W.cell? ⟨w.heap.size + 1, 4, none⟩ = some (.bool h.wa) ∧ W.cell? ⟨w.heap.size + 1, 5, none⟩ = some (.bool h.ca) ∧ W.cell? ⟨w.heap.size + 1, 6, none⟩ = some (.int .i64 h.code) ∧ W.cell? ⟨w.heap.size + 1, 7, none⟩ = some (.string h.qn) ∧ W.cell? ⟨w.heap.size + 1, 8, none⟩ = some (.int .i64 h.qt) ∧ W.cell? ⟨w.heap.size + 1, 9, none⟩ = some (.slice A1 n1 c1) ∧ W.cell? ⟨w.heap.size + 1, 10, none⟩ = some (.slice A2 n2 c2) ∧ W.cell? ⟨w.heap.size + 1, 11, none⟩ = some (.slice A3 n3 c3)) ∧ (W.cell? ⟨gc, 0, none⟩ = some (.int .i64 d) ∧ W.cell? ⟨gc, 1, none⟩ = some (.bool a) ∧ W.cell? ⟨gc, 2, none⟩ = some (.slice B1 m1 e1) ∧ W.cell? ⟨gc, 3, none⟩ = some (.slice B2 m2 e2) ∧ W.cell? ⟨gc, 4, none⟩ = some (.slice B3 m3 e3))) ∧ Sec (w.heap.size + 1 + 1 + 1) W B1 m1 e1 J1 ∧ Sec (w.heap.size + 1 + 1 + 1) W B2 m2 e2 J2 ∧ Sec (w.heap.size + 1 + 1 + 1) W B3 m3 e3 J3) ∧ RB W (w.heap.size + 1 + 1)) ∧ Sv w W → Calls Try.prog 39 #[.agg #[.int .i64 h.id, .bool h.rp, .bool h.au, .bool h.ct, .bool h.wa, .bool h.ca, .int .i64 h.code, .string h.qn, .int .i64 h.qt, .slice A1 n1 c1, .slice A2 n2 c2, .slice A3 n3 c3], .int .i64 d, .bool a, .slice B1 (m8 m1) e1, .slice B2 (m8 m2) e2, .slice B3 (m8 m3) e3] W (GivesM W (rph h d a) (m8 m1) (m8 m2) (m8 m3) (J1.take 8) (J2.take 8) (J3.take 8))) := fun W hW => RepN.impl h A1 A2 A3 n1 c1 n2 c2 n3 c3 d a B1 (m8 m1) e1 (J1.take 8) B2 (m8 m2) e2 (J2.take 8) B3 (m8 m3) e3 (J3.take 8) W (sr_take hW.1.1.2.1.sr) (by have := m8_le m1; omega) (alt Q1.out).2 (sr_take hW.1.1.2.2.1.sr) (by have := m8_le m2; omega) (alt Q2.out).2 (sr_take hW.1.1.2.2.2.sr) (by have := m8_le m3; omega) (alt Q3.out).2
  have SS0 : ((((w2.cell? ⟨w.heap.size + 1, 0, none⟩ = some (.int .i64 h.id) ∧ w2.cell? ⟨w.heap.size + 1, 1, none⟩ = some (.bool h.rp) ∧ w2.cell? ⟨w.heap.size + 1, 2, none⟩ = some (.bool h.au) ∧ w2.cell? ⟨w.heap.size + 1, 3, none⟩ = some (.bool h.ct) ∧ w2.cell? ⟨w.heap.size + 1, 4, none⟩ = some (.bool h.wa) ∧ w2.cell? ⟨w.heap.size + 1, 5, none⟩ = some (.bool h.ca) ∧ w2.cell? ⟨w.heap.size + 1, 6, none⟩ = some (.int .i64 h.code) ∧ w2.cell? ⟨w.heap.size + 1, 7, none⟩ = some (.string h.qn) ∧ w2.cell? ⟨w.heap.size + 1, 8, none⟩ = some (.int .i64 h.qt) ∧ w2.cell? ⟨w.heap.size + 1, 9, none⟩ = some (.slice A1 n1 c1) ∧ w2.cell? ⟨w.heap.size + 1, 10, none⟩ = some (.slice A2 n2 c2) ∧ w2.cell? ⟨w.heap.size + 1, 11, none⟩ = some (.slice A3 n3 c3)) ∧ (w2.cell? ⟨gc, 0, none⟩ = some (.int .i64 d) ∧ w2.cell? ⟨gc, 1, none⟩ = some (.bool a) ∧ w2.cell? ⟨gc, 2, none⟩ = some (.slice B1 m1 e1) ∧ w2.cell? ⟨gc, 3, none⟩ = some (.slice B2 m2 e2) ∧ w2.cell? ⟨gc, 4, none⟩ = some (.slice B3 m3 e3))) ∧ Sec (w.heap.size + 1 + 1 + 1) w2 B1 m1 e1 J1 ∧ Sec (w.heap.size + 1 + 1 + 1) w2 B2 m2 e2 J2 ∧ Sec (w.heap.size + 1 + 1 + 1) w2 B3 m3 e3 J3) ∧ RB w2 (w.heap.size + 1 + 1)) ∧ Sv w w2 := ⟨⟨⟨⟨Y2.out, C2.out.cell 0, C2.out.cell 1, C2.out.cell 2, C2.out.cell 3, C2.out.cell 4⟩, Q1.out, Q2.out, Q3.out⟩, ⟨_, rfl, R2.out⟩⟩, L2.out⟩
  have ne0 : w.heap.size ≤ w.heap.size + 1 + 1 := by omega
  have ne1 : w.heap.size + 1 ≠ w.heap.size + 1 + 1 := by omega
  have ne2 : gc ≠ w.heap.size + 1 + 1 := by have := GC.out; omega
  clear Y2 C2 Q1 Q2 Q3
  go_region_held3 (fun w' => ((((w'.cell? ⟨w.heap.size + 1, 0, none⟩ = some (.int .i64 h.id) ∧ w'.cell? ⟨w.heap.size + 1, 1, none⟩ = some (.bool h.rp) ∧ w'.cell? ⟨w.heap.size + 1, 2, none⟩ = some (.bool h.au) ∧ w'.cell? ⟨w.heap.size + 1, 3, none⟩ = some (.bool h.ct) ∧ w'.cell? ⟨w.heap.size + 1, 4, none⟩ = some (.bool h.wa) ∧ w'.cell? ⟨w.heap.size + 1, 5, none⟩ = some (.bool h.ca) ∧ w'.cell? ⟨w.heap.size + 1, 6, none⟩ = some (.int .i64 h.code) ∧ w'.cell? ⟨w.heap.size + 1, 7, none⟩ = some (.string h.qn) ∧ w'.cell? ⟨w.heap.size + 1, 8, none⟩ = some (.int .i64 h.qt) ∧ w'.cell? ⟨w.heap.size + 1, 9, none⟩ = some (.slice A1 n1 c1) ∧ w'.cell? ⟨w.heap.size + 1, 10, none⟩ = some (.slice A2 n2 c2) ∧ w'.cell? ⟨w.heap.size + 1, 11, none⟩ = some (.slice A3 n3 c3)) ∧ (w'.cell? ⟨gc, 0, none⟩ = some (.int .i64 d) ∧ w'.cell? ⟨gc, 1, none⟩ = some (.bool a) ∧ w'.cell? ⟨gc, 2, none⟩ = some (.slice B1 m1 e1) ∧ w'.cell? ⟨gc, 3, none⟩ = some (.slice B2 m2 e2) ∧ w'.cell? ⟨gc, 4, none⟩ = some (.slice B3 m3 e3))) ∧ Sec (w.heap.size + 1 + 1 + 1) w' B1 m1 e1 J1 ∧ Sec (w.heap.size + 1 + 1 + 1) w' B2 m2 e2 J2 ∧ Sec (w.heap.size + 1 + 1 + 1) w' B3 m3 e3 J3) ∧ RB w' (w.heap.size + 1 + 1)) ∧ Sv w w')
    (first | with_reducible exact keptI_fil (w1 := w6) (by assumption) ne0 ne1 ne2 _ _ _ _ _ _ _ _ _ _ _ _ | with_reducible exact SS0 | with_reducible assumption | with_reducible exact keptI (by assumption) hl | with_reducible exact keptI_draw (by assumption) | fail)
    (first
      | (go_at_call 40; (with_reducible refine (SH1.out _).mono ?_); rintro e w3 ⟨rfl, hl⟩; have y1 := hl)
      | (go_at_call 40; (with_reducible refine (SH2.out _).mono ?_); rintro e w4 ⟨rfl, hl⟩; have y2 := hl)
      | (go_at_call 40; (with_reducible refine (SH3.out _).mono ?_); rintro e w5 ⟨rfl, hl⟩; have y3 := hl)
      | (go_at_call 39; (with_reducible refine (RR.out _ (by assumption)).mono ?_); rintro e w6 ⟨g1, u1, r1, g2, u2, r2, g3, u3, r3, rfl, hb1, hb2, hb3, hg, h12, h23, hl⟩; have y4 := hl; have HR := (keptI (by assumption) hl).1.2; have p0 := HR.cell 0 (by decide); have f0 := HR.free 0; have p1 := HR.cell 1 (by decide); have f1 := HR.free 1; have p2 := HR.cell 2 (by decide); have f2 := HR.free 2; have p3 := HR.cell 3 (by decide); have f3 := HR.free 3; have p4 := HR.cell 4 (by decide); have f4 := HR.free 4; have p5 := HR.cell 5 (by decide); have f5 := HR.free 5; have p6 := HR.cell 6 (by decide); have f6 := HR.free 6; have p7 := HR.cell 7 (by decide); have f7 := HR.free 7; have p8 := HR.cell 8 (by decide); have f8 := HR.free 8; have p9 := HR.cell 9 (by decide); have f9 := HR.free 9; have p10 := HR.cell 10 (by decide); have f10 := HR.free 10; have p11 := HR.cell 11 (by decide); have f11 := HR.free 11; clear HR)
      | fail)
  rename_i hH
  have a0 : Below w.heap.size w w2.drew := L2.out.drew
  have a1 := a0.trans (y1.mono a0.size)
  have a2 := a1.trans (y2.mono a1.size)
  have a3 := a2.trans (y3.mono a2.size)
  have a4 := a3.trans (y4.mono a3.size)
  have RA : RB w6 (w.heap.size + 1 + 1) := by
    have b0 : RB w2.drew (w.heap.size + 1 + 1) := ⟨_, rfl, R2.out⟩
    exact (((b0.below y1).below y2).below y3).below y4
  have G4 : w.heap.size + 1 + 1 < g1 := Nat.lt_of_lt_of_le (Nat.lt_of_lt_of_le (Nat.lt_of_lt_of_le (Nat.lt_of_lt_of_le (show w.heap.size + 1 + 1 < w2.drew.heap.size from R2.out.lt) y1.size) y2.size) y3.size) hg
  have F := Lib.hid (RA.fil (rph h d a) (.slice (some ⟨g1, 0, none⟩) (m8 m1) u1) (.slice (some ⟨g2, 0, none⟩) (m8 m2) u2) (.slice (some ⟨g3, 0, none⟩) (m8 m3) u3))
  have E := Lib.hid (filM_below a4 (g := w.heap.size + 1 + 1) (by omega) (rph h d a) (.slice (some ⟨g1, 0, none⟩) (m8 m1) u1) (.slice (some ⟨g2, 0, none⟩) (m8 m2) u2) (.slice (some ⟨g3, 0, none⟩) (m8 m3) u3))
  have I1 := Lib.hid (filM_other hb1 (g := w.heap.size + 1 + 1) (by omega) (rph h d a) (.slice (some ⟨g1, 0, none⟩) (m8 m1) u1) (.slice (some ⟨g2, 0, none⟩) (m8 m2) u2) (.slice (some ⟨g3, 0, none⟩) (m8 m3) u3))
  have I2 := Lib.hid (filM_other hb2 (g := w.heap.size + 1 + 1) (by omega) (rph h d a) (.slice (some ⟨g1, 0, none⟩) (m8 m1) u1) (.slice (some ⟨g2, 0, none⟩) (m8 m2) u2) (.slice (some ⟨g3, 0, none⟩) (m8 m3) u3))
  have I3 := Lib.hid (filM_other hb3 (g := w.heap.size + 1 + 1) (by omega) (rph h d a) (.slice (some ⟨g1, 0, none⟩) (m8 m1) u1) (.slice (some ⟨g2, 0, none⟩) (m8 m2) u2) (.slice (some ⟨g3, 0, none⟩) (m8 m3) u3))
  clear hH SS0 SH1 SH2 SH3 RR a0 a1 a2 a3 a4 RA R2 L2 y1 y2 y3 y4 hl hb1 hb2 hb3 p0 f0 p1 f1 p2 f2 p3 f3 p4 f4 p5 f5 p6 f6 p7 f7 p8 f8 p9 f9 p10 f10 p11 f11
  go_wp2
  refine bodyPost_ret (v := .agg #[.int .i64 (rph h d a).id, .bool (rph h d a).rp, .bool (rph h d a).au, .bool (rph h d a).ct, .bool (rph h d a).wa, .bool (rph h d a).ca, .int .i64 (rph h d a).code, .string (rph h d a).qn, .int .i64 (rph h d a).qt, .slice (some ⟨g1, 0, none⟩) (m8 m1) u1, .slice (some ⟨g2, 0, none⟩) (m8 m2) u2, .slice (some ⟨g3, 0, none⟩) (m8 m3) u3]) (res1M rfl F.out rfl) rfl ?_
  unfold GivesS8
  rw [HD.out, HA.out, N1, N2, N3]
  exact ⟨g1, u1, r1, g2, u2, r2, g3, u3, r3, rfl, I1.out, I2.out, I3.out, by omega, h12, h23, E.out⟩

end Go.Proofs.Ytjgmocmaeadjdaa.ServI

/- What AnswerIn does in the model: a new slice of the answers. Condition: fewer than 400000001 records, no name of more than 400000000 bytes. -/
namespace Go.Proofs.Ytjgmocmaeadjdaa.AnsS
open Go.RowKit Go.Proofs.Ytjgmocmaeadjdaa.Mem Go.Proofs.Ytjgmocmaeadjdaa.MemR Go.Proofs.Ytjgmocmaeadjdaa.SetMath Go.Proofs.Ytjgmocmaeadjdaa.NameMath Go.Proofs.Ytjgmocmaeadjdaa.ZoneMath Go.Proofs.Ytjgmocmaeadjdaa.ServeMath Go.Proofs.Ytjgmocmaeadjdaa.MemZ Go.Proofs.Ytjgmocmaeadjdaa.MemM Go.Proofs.Ytjgmocmaeadjdaa.Wt Go.Proofs.Ytjgmocmaeadjdaa.KindS 

set_option maxHeartbeats 8000000 in
theorem spec (s nm : ByteArray) (ty : Int) (b0 o0 n c : Nat) (l : List Rec) (w : World) (hs : Sr w w.heap.size (some ⟨b0, o0, none⟩) n l) (hn : n ≤ 400000000) (hm : s.size ≤ 400000000) (hq : nm.size ≤ 400000000) (hz : ∀ r ∈ l, r.name.size ≤ 400000000) :
    Calls Try.prog 12 #[.agg #[.string s, .slice (some ⟨b0, o0, none⟩) n c], .agg #[.string nm, .int .i64 ty]] w (GivesL w (anl (kd s nm ty l) nm ty l)) := by
  obtain ⟨⟨hx, hy⟩, hl0⟩ := two w s nm ty (.slice (some ⟨b0, o0, none⟩) n c) 26 28
  have X0 := Lib.hid hx
  have Y0 := Lib.hid hy
  have L0 := Lib.hid hl0
  have S0 := Lib.hid (hs.on hl0)
  have KI := Lib.hid (fun W hW => KindS.spec s nm ty b0 o0 n c l W hW (by omega) hm hq hz)
  have AS := Lib.hid (fun W hW => SetS.spec nm 5 b0 o0 n c l W hW hn)
  have TS := Lib.hid (fun W hW => SetS.spec nm ty b0 o0 n c l W hW hn)
  clear hs hz hx hy hl0
  generalize kd s nm ty l = k at *
  obtain ⟨x0, x1⟩ := X0.out
  obtain ⟨y0, y1⟩ := Y0.out
  go_enter Try.func12, Try.ntmps12
  go_wp2_with fail
  refine (KI.out _ S0.out).mono ?_
  rintro e w1 ⟨rfl, hl⟩
  have X1 := Lib.hid (X0.out.below hl)
  have Y1 := Lib.hid (Y0.out.below hl)
  have S1 := Lib.hid (S0.out.on hl)
  have L1 := Lib.hid (L0.out.trans (hl.mono L0.out.size))
  clear hl KI X0 Y0 S0 L0 x0 x1 y0 y1
  obtain ⟨x0, x1⟩ := X1.out
  obtain ⟨y0, y1⟩ := Y1.out
  by_cases h2 : k = 2
  · have HA : Hid (anl k nm ty l = sf nm 5 l) := if_pos h2
    subst h2
    go_wp2_with fail
    refine (AS.out _ S1.out).mono ?_
    rintro e w2 ⟨g, m, cp, r, rfl, hm2, hc2, hg2, hb2, hl⟩
    have H2 := Lib.hid (And.intro hm2 (And.intro hc2 (And.intro (Nat.le_trans L1.out.size hg2) hb2)))
    have L2 := Lib.hid (L1.out.trans (hl.mono L1.out.size))
    clear hl hm2 hc2 hg2 hb2
    go_wp2
    go_ret
    exact ⟨g, m, cp, r, rfl, by rw [HA.out]; exact H2.out.1, H2.out.2.1, H2.out.2.2.1, by rw [HA.out]; exact H2.out.2.2.2, L2.out⟩
  · have t2 : (k == 2) = false := by simpa using h2
    by_cases h3 : k = 3
    · have HA : Hid (anl k nm ty l = sf nm ty l) := by show _ = _; unfold anl; rw [if_neg h2, if_pos h3]
      subst h3
      go_wp2_with fail
      refine (TS.out _ S1.out).mono ?_
      rintro e w2 ⟨g, m, cp, r, rfl, hm2, hc2, hg2, hb2, hl⟩
      have H2 := Lib.hid (And.intro hm2 (And.intro hc2 (And.intro (Nat.le_trans L1.out.size hg2) hb2)))
      have L2 := Lib.hid (L1.out.trans (hl.mono L1.out.size))
      clear hl hm2 hc2 hg2 hb2
      go_wp2
      go_ret
      exact ⟨g, m, cp, r, rfl, by rw [HA.out]; exact H2.out.1, H2.out.2.1, H2.out.2.2.1, by rw [HA.out]; exact H2.out.2.2.2, L2.out⟩
    · have t3 : (k == 3) = false := by simpa using h3
      have HA : Hid (anl k nm ty l = []) := by show _ = _; unfold anl; rw [if_neg h2, if_neg h3]
      clear h2 h3
      have B2 := Lib.hid (AppR.owns_new w1)
      have L2 := Lib.hid (L1.out.trans (((Below.refl w1.heap.size w1).alloc (Nat.le_refl _) (.cells #[] 56)).mono L1.out.size))
      have N2 := Lib.hid (heap_alloc_new w1 (.cells #[] 56))
      have G2 : Hid (w.heap.size ≤ w1.heap.size) := L1.out.size
      go_wp2
      go_ret
      exact ⟨w1.heap.size, 0, 0, [], rfl, by rw [HA.out]; rfl, Nat.le_refl _, G2.out, by rw [HA.out]; exact N2.out, L2.out⟩

end Go.Proofs.Ytjgmocmaeadjdaa.AnsS

/- What HelpIn does in the model: a new slice of the addresses of the servers of the cut. Condition: at most 1048576 records, no name of more than 400000000 bytes. -/
namespace Go.Proofs.Ytjgmocmaeadjdaa.HlpS
open Go.RowKit Go.Proofs.Ytjgmocmaeadjdaa.Mem Go.Proofs.Ytjgmocmaeadjdaa.MemR Go.Proofs.Ytjgmocmaeadjdaa.SetMath Go.Proofs.Ytjgmocmaeadjdaa.NameMath Go.Proofs.Ytjgmocmaeadjdaa.ZoneMath Go.Proofs.Ytjgmocmaeadjdaa.ServeMath Go.Proofs.Ytjgmocmaeadjdaa.MemZ Go.Proofs.Ytjgmocmaeadjdaa.MemM Go.Proofs.Ytjgmocmaeadjdaa.Wt Go.Proofs.Ytjgmocmaeadjdaa.KindS Go.Proofs.Ytjgmocmaeadjdaa.AppS Go.Proofs.Ytjgmocmaeadjdaa.MemS

theorem keptm {w0 w w' : World} {g k : Nat} {s nm : ByteArray} {x : Value} {ty : Int} (m : (Zx w g s x ∧ Qx w k nm ty) ∧ Svz w0 w) (hl : Below w.heap.size w w') : (Zx w' g s x ∧ Qx w' k nm ty) ∧ Svz w0 w' := ⟨⟨m.1.1.below hl, m.1.2.below hl⟩, m.2.trans (hl.mono m.2.size)⟩

theorem keptm_draw {w0 w : World} {g k : Nat} {s nm : ByteArray} {x : Value} {ty : Int} (m : (Zx w g s x ∧ Qx w k nm ty) ∧ Svz w0 w) : (Zx w.drew g s x ∧ Qx w.drew k nm ty) ∧ Svz w0 w.drew := keptm m ((Below.refl _ _).drew)

set_option maxRecDepth 100000 in
set_option maxHeartbeats 8000000 in
theorem spec (s nm : ByteArray) (ty : Int) (b0 o0 n c : Nat) (l : List Rec) (w : World) (hs : Sr w w.heap.size (some ⟨b0, o0, none⟩) n l) (hn : n ≤ 1048576) (hm : s.size ≤ 400000000) (hq : nm.size ≤ 400000000) (hz : ∀ r ∈ l, r.name.size ≤ 400000000) :
    Calls Try.prog 16 #[.agg #[.string s, .slice (some ⟨b0, o0, none⟩) n c], .agg #[.string nm, .int .i64 ty]] w (GivesL w (hel (kd s nm ty l) s nm l)) := by
  obtain ⟨⟨hx, hy⟩, hl0⟩ := two w s nm ty (.slice (some ⟨b0, o0, none⟩) n c) 26 28
  have X0 := Lib.hid hx
  have Y0 := Lib.hid hy
  have L0 := Lib.hid hl0
  have S0 := Lib.hid (hs.on hl0)
  have KI := Lib.hid (fun W hW => KindS.spec s nm ty b0 o0 n c l W hW (by omega) hm hq hz)
  have MS := Lib.hid (fun W hW => MorS.spec s nm ty b0 o0 n c l W hW (by omega) hm hq hz)
  have HLN := Lib.hid hs.1
  have HML := Lib.hid (sf_len (cu s nm l) 2 l)
  clear hs hz hx hy hl0
  generalize kd s nm ty l = k at *
  obtain ⟨x0, x1⟩ := X0.out
  obtain ⟨y0, y1⟩ := Y0.out
  go_enter Try.func16, Try.ntmps16
  go_wp2_with fail
  refine (KI.out _ S0.out).mono ?_
  rintro e w1 ⟨rfl, hl⟩
  have X1 := Lib.hid (X0.out.below hl)
  have Y1 := Lib.hid (Y0.out.below hl)
  have S1 := Lib.hid (S0.out.on hl)
  have L1 := Lib.hid (L0.out.trans (hl.mono L0.out.size))
  clear hl KI X0 Y0 S0 L0 x0 x1 y0 y1
  obtain ⟨x0, x1⟩ := X1.out
  obtain ⟨y0, y1⟩ := Y1.out
  by_cases h1 : k = 1
  · have HA : Hid (hel k s nm l = gl (uq (hl (sf (cu s nm l) 2 l))) l) := if_pos h1
    have HM : mol k s nm l = sf (cu s nm l) 2 l := if_pos h1
    rw [HM] at MS
    subst h1
    clear HM
    generalize sf (cu s nm l) 2 l = lm at *
    have LM : Hid (lm.length ≤ 1048576) := show _ ≤ _ by have := HML.out; have := HLN.out; omega
    have HHL : Hid ((uq (hl lm)).length ≤ 1048576) := show _ ≤ _ by have h1 := len_uq (hl lm); have h2 := hl_len lm; have := LM.out; omega
    have HS := Lib.hid (fun (b o m c : Nat) (W : World) (hW : Sr W W.heap.size (some ⟨b, o, none⟩) m lm) (hm : m ≤ 400000000) => HostS.spec b o m c lm W hW hm)
    generalize uq (hl lm) = H at *
    have GS := Lib.hid (fun (h m c' : Nat) (W : World) (hW : Sr W W.heap.size (some ⟨b0, o0, none⟩) n l) (hh : Ss W W.heap.size (some ⟨h, 0, none⟩) m H) (hm : m ≤ 1048576) => GlueS.spec s b0 o0 n c l h 0 m c' H W hW hh (by omega) hm)
    have MSR : Hid (∀ W : World, ((W.cell? ⟨w.heap.size, 0, none⟩ = some (.string s) ∧ W.cell? ⟨w.heap.size, 1, none⟩ = some (.slice (some ⟨b0, o0, none⟩) n c)) ∧ (W.cell? ⟨w.heap.size + 1, 0, none⟩ = some (.string nm) ∧ W.cell? ⟨w.heap.size + 1, 1, none⟩ = some (.int .i64 ty))) ∧ Svz w1 W → Calls Try.prog 14 #[.agg #[.string s, .slice (some ⟨b0, o0, none⟩) n c], .agg #[.string nm, .int .i64 ty]] W (GivesL W lm)) := fun W hW => MS.out W (S1.out.on hW.2)
    have SS0 : ((w1.cell? ⟨w.heap.size, 0, none⟩ = some (.string s) ∧ w1.cell? ⟨w.heap.size, 1, none⟩ = some (.slice (some ⟨b0, o0, none⟩) n c)) ∧ (w1.cell? ⟨w.heap.size + 1, 0, none⟩ = some (.string nm) ∧ w1.cell? ⟨w.heap.size + 1, 1, none⟩ = some (.int .i64 ty))) ∧ Svz w1 w1 := ⟨⟨X1.out, Y1.out⟩, Below.refl _ _⟩
    go_wp2
    go_region_held3 (fun w' => ((w'.cell? ⟨w.heap.size, 0, none⟩ = some (.string s) ∧ w'.cell? ⟨w.heap.size, 1, none⟩ = some (.slice (some ⟨b0, o0, none⟩) n c)) ∧ (w'.cell? ⟨w.heap.size + 1, 0, none⟩ = some (.string nm) ∧ w'.cell? ⟨w.heap.size + 1, 1, none⟩ = some (.int .i64 ty))) ∧ Svz w1 w')
      (first | with_reducible exact SS0 | with_reducible assumption | exact keptm (by assumption) hl | exact keptm_draw (by assumption) | fail)
      (first
        | (go_at_call 14; (with_reducible refine (MSR.out _ (by assumption)).mono ?_); rintro e w2 ⟨g2, m2, c2, r2, rfl, hz2, hc2, hg2, hb2, hl⟩; have hl2 := hl)
        | (go_at_call 38; (with_reducible refine (HS.out g2 0 m2 c2 _ (bk_sr hb2 hz2) (by have := LM.out; omega)).mono ?_); rintro e w3 ⟨g3, m3, c3, r3, rfl, hz3, hc3, hg3, hb3, hl⟩; have hl3 := hl)
        | (go_at_call 37; have hS3 : Below w1.heap.size w1 w3 := (by assumption : ((w3.cell? ⟨w.heap.size, 0, none⟩ = some (.string s) ∧ w3.cell? ⟨w.heap.size, 1, none⟩ = some (.slice (some ⟨b0, o0, none⟩) n c)) ∧ (w3.cell? ⟨w.heap.size + 1, 0, none⟩ = some (.string nm) ∧ w3.cell? ⟨w.heap.size + 1, 1, none⟩ = some (.int .i64 ty))) ∧ Svz w1 w3).2; (with_reducible refine (GS.out g3 m3 _ _ (S1.out.on hS3) (bk_ssw hb3 hz3) (by have := HHL.out; omega)).mono ?_); rintro e w4 ⟨g4, m4, c4, r4, rfl, hz4, hc4, hg4, hb4, hl⟩; have hl4 := hl)
        | fail)
    rename_i hH
    have F4 := Lib.hid (And.intro hz4 (And.intro hc4 (And.intro (Nat.le_trans (Nat.le_trans L1.out.size hS3.size) hg4) hb4)))
    have L4 := Lib.hid (L1.out.trans ((show Below w1.heap.size w1 w4 from hH.2).mono L1.out.size))
    clear hH hS3 hl hl2 hl3 hl4 hz4 hc4 hg4 hb4 hz3 hc3 hg3 hb3 hz2 hc2 hg2 hb2 SS0 MSR HS GS
    go_wp2
    go_ret
    exact ⟨g4, m4, c4, r4, rfl, by rw [HA.out]; exact F4.out.1, F4.out.2.1, F4.out.2.2.1, by rw [HA.out]; exact F4.out.2.2.2, L4.out⟩
  · have t1 : (k != 1) = true := by simpa using h1
    have HA : Hid (hel k s nm l = []) := if_neg h1
    clear h1
    have B2 := Lib.hid (AppR.owns_new w1)
    have L2 := Lib.hid (L1.out.trans (((Below.refl w1.heap.size w1).alloc (Nat.le_refl _) (.cells #[] 56)).mono L1.out.size))
    have N2 := Lib.hid (heap_alloc_new w1 (.cells #[] 56))
    have G2 : Hid (w.heap.size ≤ w1.heap.size) := L1.out.size
    go_wp2
    go_ret
    exact ⟨w1.heap.size, 0, 0, [], rfl, by rw [HA.out]; rfl, Nat.le_refl _, G2.out, by rw [HA.out]; exact N2.out, L2.out⟩

end Go.Proofs.Ytjgmocmaeadjdaa.HlpS

/- What Serve does in the model: a reply with the code, the flag and the first eight records of each section. Condition: at most 1048576 records, no name of more than 400000000 bytes. -/
namespace Go.Proofs.Ytjgmocmaeadjdaa.ServS
open Go.RowKit Go.Proofs.Ytjgmocmaeadjdaa.Mem Go.Proofs.Ytjgmocmaeadjdaa.MemR Go.Proofs.Ytjgmocmaeadjdaa.SetMath Go.Proofs.Ytjgmocmaeadjdaa.ZoneMath Go.Proofs.Ytjgmocmaeadjdaa.ServeMath Go.Proofs.Ytjgmocmaeadjdaa.MemZ Go.Proofs.Ytjgmocmaeadjdaa.MemM Go.Proofs.Ytjgmocmaeadjdaa.BoxR Go.Proofs.Ytjgmocmaeadjdaa.CpyR Go.Proofs.Ytjgmocmaeadjdaa.ResM Go.Proofs.Ytjgmocmaeadjdaa.RepM Go.Proofs.Ytjgmocmaeadjdaa.Wt Go.Proofs.Ytjgmocmaeadjdaa.ShoS Go.Proofs.Ytjgmocmaeadjdaa.ServI

theorem on {w w' : World} {g : Nat} {t : TypeId} {cs : List Value} (k : Bk w g t cs) (hl : Below w.heap.size w w') : Bk w' g t cs := k.below hl k.lt

section
variable {w0 w w1 w' : World} {k : Nat} {g j : Nat} {s : ByteArray} {x : Value} {h : Hd} {A1 A2 A3 : Option Addr} {n1 c1 n2 c2 n3 c3 : Nat}

theorem keptS (m : (((w.cell? ⟨j, 0, none⟩ = some (.string s) ∧ w.cell? ⟨j, 1, none⟩ = some x) ∧ (w.cell? ⟨g, 0, none⟩ = some (.int .i64 h.id) ∧ w.cell? ⟨g, 1, none⟩ = some (.bool h.rp) ∧ w.cell? ⟨g, 2, none⟩ = some (.bool h.au) ∧ w.cell? ⟨g, 3, none⟩ = some (.bool h.ct) ∧ w.cell? ⟨g, 4, none⟩ = some (.bool h.wa) ∧ w.cell? ⟨g, 5, none⟩ = some (.bool h.ca) ∧ w.cell? ⟨g, 6, none⟩ = some (.int .i64 h.code) ∧ w.cell? ⟨g, 7, none⟩ = some (.string h.qn) ∧ w.cell? ⟨g, 8, none⟩ = some (.int .i64 h.qt) ∧ w.cell? ⟨g, 9, none⟩ = some (.slice A1 n1 c1) ∧ w.cell? ⟨g, 10, none⟩ = some (.slice A2 n2 c2) ∧ w.cell? ⟨g, 11, none⟩ = some (.slice A3 n3 c3))) ∧ RB w k) ∧ Sv w0 w) (hl : Below w.heap.size w w') : (((w'.cell? ⟨j, 0, none⟩ = some (.string s) ∧ w'.cell? ⟨j, 1, none⟩ = some x) ∧ (w'.cell? ⟨g, 0, none⟩ = some (.int .i64 h.id) ∧ w'.cell? ⟨g, 1, none⟩ = some (.bool h.rp) ∧ w'.cell? ⟨g, 2, none⟩ = some (.bool h.au) ∧ w'.cell? ⟨g, 3, none⟩ = some (.bool h.ct) ∧ w'.cell? ⟨g, 4, none⟩ = some (.bool h.wa) ∧ w'.cell? ⟨g, 5, none⟩ = some (.bool h.ca) ∧ w'.cell? ⟨g, 6, none⟩ = some (.int .i64 h.code) ∧ w'.cell? ⟨g, 7, none⟩ = some (.string h.qn) ∧ w'.cell? ⟨g, 8, none⟩ = some (.int .i64 h.qt) ∧ w'.cell? ⟨g, 9, none⟩ = some (.slice A1 n1 c1) ∧ w'.cell? ⟨g, 10, none⟩ = some (.slice A2 n2 c2) ∧ w'.cell? ⟨g, 11, none⟩ = some (.slice A3 n3 c3))) ∧ RB w' k) ∧ Sv w0 w' :=
  ⟨⟨⟨Zx.below m.1.1.1 hl, Mx.below m.1.1.2 hl⟩, m.1.2.below hl⟩, m.2.trans (hl.mono m.2.size)⟩

theorem keptS_draw (m : (((w.cell? ⟨j, 0, none⟩ = some (.string s) ∧ w.cell? ⟨j, 1, none⟩ = some x) ∧ (w.cell? ⟨g, 0, none⟩ = some (.int .i64 h.id) ∧ w.cell? ⟨g, 1, none⟩ = some (.bool h.rp) ∧ w.cell? ⟨g, 2, none⟩ = some (.bool h.au) ∧ w.cell? ⟨g, 3, none⟩ = some (.bool h.ct) ∧ w.cell? ⟨g, 4, none⟩ = some (.bool h.wa) ∧ w.cell? ⟨g, 5, none⟩ = some (.bool h.ca) ∧ w.cell? ⟨g, 6, none⟩ = some (.int .i64 h.code) ∧ w.cell? ⟨g, 7, none⟩ = some (.string h.qn) ∧ w.cell? ⟨g, 8, none⟩ = some (.int .i64 h.qt) ∧ w.cell? ⟨g, 9, none⟩ = some (.slice A1 n1 c1) ∧ w.cell? ⟨g, 10, none⟩ = some (.slice A2 n2 c2) ∧ w.cell? ⟨g, 11, none⟩ = some (.slice A3 n3 c3))) ∧ RB w k) ∧ Sv w0 w) : (((w.drew.cell? ⟨j, 0, none⟩ = some (.string s) ∧ w.drew.cell? ⟨j, 1, none⟩ = some x) ∧ (w.drew.cell? ⟨g, 0, none⟩ = some (.int .i64 h.id) ∧ w.drew.cell? ⟨g, 1, none⟩ = some (.bool h.rp) ∧ w.drew.cell? ⟨g, 2, none⟩ = some (.bool h.au) ∧ w.drew.cell? ⟨g, 3, none⟩ = some (.bool h.ct) ∧ w.drew.cell? ⟨g, 4, none⟩ = some (.bool h.wa) ∧ w.drew.cell? ⟨g, 5, none⟩ = some (.bool h.ca) ∧ w.drew.cell? ⟨g, 6, none⟩ = some (.int .i64 h.code) ∧ w.drew.cell? ⟨g, 7, none⟩ = some (.string h.qn) ∧ w.drew.cell? ⟨g, 8, none⟩ = some (.int .i64 h.qt) ∧ w.drew.cell? ⟨g, 9, none⟩ = some (.slice A1 n1 c1) ∧ w.drew.cell? ⟨g, 10, none⟩ = some (.slice A2 n2 c2) ∧ w.drew.cell? ⟨g, 11, none⟩ = some (.slice A3 n3 c3))) ∧ RB w.drew k) ∧ Sv w0 w.drew := keptS m ((Below.refl _ _).drew)

theorem keptS_put (m : (((w.cell? ⟨j, 0, none⟩ = some (.string s) ∧ w.cell? ⟨j, 1, none⟩ = some x) ∧ (w.cell? ⟨g, 0, none⟩ = some (.int .i64 h.id) ∧ w.cell? ⟨g, 1, none⟩ = some (.bool h.rp) ∧ w.cell? ⟨g, 2, none⟩ = some (.bool h.au) ∧ w.cell? ⟨g, 3, none⟩ = some (.bool h.ct) ∧ w.cell? ⟨g, 4, none⟩ = some (.bool h.wa) ∧ w.cell? ⟨g, 5, none⟩ = some (.bool h.ca) ∧ w.cell? ⟨g, 6, none⟩ = some (.int .i64 h.code) ∧ w.cell? ⟨g, 7, none⟩ = some (.string h.qn) ∧ w.cell? ⟨g, 8, none⟩ = some (.int .i64 h.qt) ∧ w.cell? ⟨g, 9, none⟩ = some (.slice A1 n1 c1) ∧ w.cell? ⟨g, 10, none⟩ = some (.slice A2 n2 c2) ∧ w.cell? ⟨g, 11, none⟩ = some (.slice A3 n3 c3))) ∧ RB w k) ∧ Sv w0 w) (h0 : w0.heap.size ≤ k) (h1 : j ≠ k) (h2 : g ≠ k) (i : Nat) (v : Value) : ((((w.setCell ⟨k, i, none⟩ v).cell? ⟨j, 0, none⟩ = some (.string s) ∧ (w.setCell ⟨k, i, none⟩ v).cell? ⟨j, 1, none⟩ = some x) ∧ ((w.setCell ⟨k, i, none⟩ v).cell? ⟨g, 0, none⟩ = some (.int .i64 h.id) ∧ (w.setCell ⟨k, i, none⟩ v).cell? ⟨g, 1, none⟩ = some (.bool h.rp) ∧ (w.setCell ⟨k, i, none⟩ v).cell? ⟨g, 2, none⟩ = some (.bool h.au) ∧ (w.setCell ⟨k, i, none⟩ v).cell? ⟨g, 3, none⟩ = some (.bool h.ct) ∧ (w.setCell ⟨k, i, none⟩ v).cell? ⟨g, 4, none⟩ = some (.bool h.wa) ∧ (w.setCell ⟨k, i, none⟩ v).cell? ⟨g, 5, none⟩ = some (.bool h.ca) ∧ (w.setCell ⟨k, i, none⟩ v).cell? ⟨g, 6, none⟩ = some (.int .i64 h.code) ∧ (w.setCell ⟨k, i, none⟩ v).cell? ⟨g, 7, none⟩ = some (.string h.qn) ∧ (w.setCell ⟨k, i, none⟩ v).cell? ⟨g, 8, none⟩ = some (.int .i64 h.qt) ∧ (w.setCell ⟨k, i, none⟩ v).cell? ⟨g, 9, none⟩ = some (.slice A1 n1 c1) ∧ (w.setCell ⟨k, i, none⟩ v).cell? ⟨g, 10, none⟩ = some (.slice A2 n2 c2) ∧ (w.setCell ⟨k, i, none⟩ v).cell? ⟨g, 11, none⟩ = some (.slice A3 n3 c3))) ∧ RB (w.setCell ⟨k, i, none⟩ v) k) ∧ Sv w0 (w.setCell ⟨k, i, none⟩ v) :=
  ⟨⟨⟨Zx.set1 m.1.1.1 (p := ⟨k, i, none⟩) h1 v, Mx.set1 m.1.1.2 (p := ⟨k, i, none⟩) h2 v⟩, m.1.2.put i v⟩, Below.setCell m.2 (p := ⟨k, i, none⟩) h0 v⟩

theorem keptS_fil (m : (((w1.cell? ⟨j, 0, none⟩ = some (.string s) ∧ w1.cell? ⟨j, 1, none⟩ = some x) ∧ (w1.cell? ⟨g, 0, none⟩ = some (.int .i64 h.id) ∧ w1.cell? ⟨g, 1, none⟩ = some (.bool h.rp) ∧ w1.cell? ⟨g, 2, none⟩ = some (.bool h.au) ∧ w1.cell? ⟨g, 3, none⟩ = some (.bool h.ct) ∧ w1.cell? ⟨g, 4, none⟩ = some (.bool h.wa) ∧ w1.cell? ⟨g, 5, none⟩ = some (.bool h.ca) ∧ w1.cell? ⟨g, 6, none⟩ = some (.int .i64 h.code) ∧ w1.cell? ⟨g, 7, none⟩ = some (.string h.qn) ∧ w1.cell? ⟨g, 8, none⟩ = some (.int .i64 h.qt) ∧ w1.cell? ⟨g, 9, none⟩ = some (.slice A1 n1 c1) ∧ w1.cell? ⟨g, 10, none⟩ = some (.slice A2 n2 c2) ∧ w1.cell? ⟨g, 11, none⟩ = some (.slice A3 n3 c3))) ∧ RB w1 k) ∧ Sv w0 w1) (h0 : w0.heap.size ≤ k) (h1 : j ≠ k) (h2 : g ≠ k) (v0 v1 v2 v3 v4 v5 v6 v7 v8 v9 v10 v11 : Value) : (((((((((((((((w1.setCell ⟨k, 0, none⟩ v0).setCell ⟨k, 1, none⟩ v1).setCell ⟨k, 2, none⟩ v2).setCell ⟨k, 3, none⟩ v3).setCell ⟨k, 4, none⟩ v4).setCell ⟨k, 5, none⟩ v5).setCell ⟨k, 6, none⟩ v6).setCell ⟨k, 7, none⟩ v7).setCell ⟨k, 8, none⟩ v8).setCell ⟨k, 9, none⟩ v9).setCell ⟨k, 10, none⟩ v10).setCell ⟨k, 11, none⟩ v11).cell? ⟨j, 0, none⟩ = some (.string s) ∧ ((((((((((((w1.setCell ⟨k, 0, none⟩ v0).setCell ⟨k, 1, none⟩ v1).setCell ⟨k, 2, none⟩ v2).setCell ⟨k, 3, none⟩ v3).setCell ⟨k, 4, none⟩ v4).setCell ⟨k, 5, none⟩ v5).setCell ⟨k, 6, none⟩ v6).setCell ⟨k, 7, none⟩ v7).setCell ⟨k, 8, none⟩ v8).setCell ⟨k, 9, none⟩ v9).setCell ⟨k, 10, none⟩ v10).setCell ⟨k, 11, none⟩ v11).cell? ⟨j, 1, none⟩ = some x) ∧ (((((((((((((w1.setCell ⟨k, 0, none⟩ v0).setCell ⟨k, 1, none⟩ v1).setCell ⟨k, 2, none⟩ v2).setCell ⟨k, 3, none⟩ v3).setCell ⟨k, 4, none⟩ v4).setCell ⟨k, 5, none⟩ v5).setCell ⟨k, 6, none⟩ v6).setCell ⟨k, 7, none⟩ v7).setCell ⟨k, 8, none⟩ v8).setCell ⟨k, 9, none⟩ v9).setCell ⟨k, 10, none⟩ v10).setCell ⟨k, 11, none⟩ v11).cell? ⟨g, 0, none⟩ = some (.int .i64 h.id) ∧ ((((((((((((w1.setCell ⟨k, 0, none⟩ v0).setCell ⟨k, 1, none⟩ v1).setCell ⟨k, 2, none⟩ v2).setCell ⟨k, 3, none⟩ v3).setCell ⟨k, 4, none⟩ v4).setCell ⟨k, 5, none⟩ v5).setCell ⟨k, 6, none⟩ v6).setCell ⟨k, 7, none⟩ v7).setCell ⟨k, 8, none⟩ v8).setCell ⟨k, 9, none⟩ v9).setCell ⟨k, 10, none⟩ v10).setCell ⟨k, 11, none⟩ v11).cell? ⟨g, 1, none⟩ = some (.bool h.rp) ∧ ((((((((((((w1.setCell ⟨k, 0, none⟩ v0).setCell ⟨k, 1, none⟩ v1).setCell ⟨k, 2, none⟩ v2).setCell ⟨k, 3, none⟩ v3).setCell ⟨k, 4, none⟩ v4).setCell ⟨k, 5, none⟩ v5).setCell ⟨k, 6, none⟩ v6).setCell ⟨k, 7, none⟩ v7).setCell ⟨k, 8, none⟩ v8).setCell ⟨k, 9, none⟩ v9).setCell ⟨k, 10, none⟩ v10).setCell ⟨k, 11, none⟩ v11).cell? ⟨g, 2, none⟩ = some (.bool h.au) ∧ ((((((((((((w1.setCell ⟨k, 0, none⟩ v0).setCell ⟨k, 1, none⟩ v1).setCell ⟨k, 2, none⟩ v2).setCell ⟨k, 3, none⟩ v3).setCell ⟨k, 4, none⟩ v4).setCell ⟨k, 5, none⟩ v5).setCell ⟨k, 6, none⟩ v6).setCell ⟨k, 7, none⟩ v7).setCell ⟨k, 8, none⟩ v8).setCell ⟨k, 9, none⟩ v9).setCell ⟨k, 10, none⟩ v10).setCell ⟨k, 11, none⟩ v11).cell? ⟨g, 3, none⟩ = some (.bool h.ct) ∧ ((((((((((((w1.setCell ⟨k, 0, none⟩ v0).setCell ⟨k, 1, none⟩ v1).setCell ⟨k, 2, none⟩ v2).setCell ⟨k, 3, none⟩ v3).setCell ⟨k, 4, none⟩ v4).setCell ⟨k, 5, none⟩ v5).setCell ⟨k, 6, none⟩ v6).setCell ⟨k, 7, none⟩ v7).setCell ⟨k, 8, none⟩ v8).setCell ⟨k, 9, none⟩ v9).setCell ⟨k, 10, none⟩ v10).setCell ⟨k, 11, none⟩ v11).cell? ⟨g, 4, none⟩ = some (.bool h.wa) ∧ ((((((((((((w1.setCell ⟨k, 0, none⟩ v0).setCell ⟨k, 1, none⟩ v1).setCell ⟨k, 2, none⟩ v2).setCell ⟨k, 3, none⟩ v3).setCell ⟨k, 4, none⟩ v4).setCell ⟨k, 5, none⟩ v5).setCell ⟨k, 6, none⟩ v6).setCell ⟨k, 7, none⟩ v7).setCell ⟨k, 8, none⟩ v8).setCell ⟨k, 9, none⟩ v9).setCell ⟨k, 10, none⟩ v10).setCell ⟨k, 11, none⟩ v11).cell? ⟨g, 5, none⟩ = some (.bool h.ca) ∧ ((((((((((((w1.setCell ⟨k, 0, none⟩ v0).setCell ⟨k, 1, none⟩ v1).setCell ⟨k, 2, none⟩ v2).setCell ⟨k, 3, none⟩ v3).setCell ⟨k, 4, none⟩ v4).setCell ⟨k, 5, none⟩ v5).setCell ⟨k, 6, none⟩ v6).setCell ⟨k, 7, none⟩ v7).setCell ⟨k, 8, none⟩ v8).setCell ⟨k, 9, none⟩ v9).setCell ⟨k, 10, none⟩ v10).setCell ⟨k, 11, none⟩ v11).cell? ⟨g, 6, none⟩ = some (.int .i64 h.code) ∧ ((((((((((((w1.setCell ⟨k, 0, none⟩ v0).setCell ⟨k, 1, none⟩ v1).setCell ⟨k, 2, none⟩ v2).setCell ⟨k, 3, none⟩ v3).setCell ⟨k, 4, none⟩ v4).setCell ⟨k, 5, none⟩ v5).setCell ⟨k, 6, none⟩ v6).setCell ⟨k, 7, none⟩ v7).setCell ⟨k, 8, none⟩ v8).setCell ⟨k, 9, none⟩ v9).setCell ⟨k, 10, none⟩ v10).setCell ⟨k, 11, none⟩ v11).cell? ⟨g, 7, none⟩ = some (.string h.qn) ∧ ((((((((((((w1.setCell ⟨k, 0, none⟩ v0).setCell ⟨k, 1, none⟩ v1).setCell ⟨k, 2, none⟩ v2).setCell ⟨k, 3, none⟩ v3).setCell ⟨k, 4, none⟩ v4).setCell ⟨k, 5, none⟩ v5).setCell ⟨k, 6, none⟩ v6).setCell ⟨k, 7, none⟩ v7).setCell ⟨k, 8, none⟩ v8).setCell ⟨k, 9, none⟩ v9).setCell ⟨k, 10, none⟩ v10).setCell ⟨k, 11, none⟩ v11).cell? ⟨g, 8, none⟩ = some (.int .i64 h.qt) ∧ ((((((((((((w1.setCell ⟨k, 0, none⟩ v0).setCell ⟨k, 1, none⟩ v1).setCell ⟨k, 2, none⟩ v2).setCell ⟨k, 3, none⟩ v3).setCell ⟨k, 4, none⟩ v4).setCell ⟨k, 5, none⟩ v5).setCell ⟨k, 6, none⟩ v6).setCell ⟨k, 7, none⟩ v7).setCell ⟨k, 8, none⟩ v8).setCell ⟨k, 9, none⟩ v9).setCell ⟨k, 10, none⟩ v10).setCell ⟨k, 11, none⟩ v11).cell? ⟨g, 9, none⟩ = some (.slice A1 n1 c1) ∧ ((((((((((((w1.setCell ⟨k, 0, none⟩ v0).setCell ⟨k, 1, none⟩ v1).setCell ⟨k, 2, none⟩ v2).setCell ⟨k, 3, none⟩ v3).setCell ⟨k, 4, none⟩ v4).setCell ⟨k, 5, none⟩ v5).setCell ⟨k, 6, none⟩ v6).setCell ⟨k, 7, none⟩ v7).setCell ⟨k, 8, none⟩ v8).setCell ⟨k, 9, none⟩ v9).setCell ⟨k, 10, none⟩ v10).setCell ⟨k, 11, none⟩ v11).cell? ⟨g, 10, none⟩ = some (.slice A2 n2 c2) ∧ ((((((((((((w1.setCell ⟨k, 0, none⟩ v0).setCell ⟨k, 1, none⟩ v1).setCell ⟨k, 2, none⟩ v2).setCell ⟨k, 3, none⟩ v3).setCell ⟨k, 4, none⟩ v4).setCell ⟨k, 5, none⟩ v5).setCell ⟨k, 6, none⟩ v6).setCell ⟨k, 7, none⟩ v7).setCell ⟨k, 8, none⟩ v8).setCell ⟨k, 9, none⟩ v9).setCell ⟨k, 10, none⟩ v10).setCell ⟨k, 11, none⟩ v11).cell? ⟨g, 11, none⟩ = some (.slice A3 n3 c3))) ∧ RB ((((((((((((w1.setCell ⟨k, 0, none⟩ v0).setCell ⟨k, 1, none⟩ v1).setCell ⟨k, 2, none⟩ v2).setCell ⟨k, 3, none⟩ v3).setCell ⟨k, 4, none⟩ v4).setCell ⟨k, 5, none⟩ v5).setCell ⟨k, 6, none⟩ v6).setCell ⟨k, 7, none⟩ v7).setCell ⟨k, 8, none⟩ v8).setCell ⟨k, 9, none⟩ v9).setCell ⟨k, 10, none⟩ v10).setCell ⟨k, 11, none⟩ v11) k) ∧ Sv w0 ((((((((((((w1.setCell ⟨k, 0, none⟩ v0).setCell ⟨k, 1, none⟩ v1).setCell ⟨k, 2, none⟩ v2).setCell ⟨k, 3, none⟩ v3).setCell ⟨k, 4, none⟩ v4).setCell ⟨k, 5, none⟩ v5).setCell ⟨k, 6, none⟩ v6).setCell ⟨k, 7, none⟩ v7).setCell ⟨k, 8, none⟩ v8).setCell ⟨k, 9, none⟩ v9).setCell ⟨k, 10, none⟩ v10).setCell ⟨k, 11, none⟩ v11) :=
  (keptS_put (keptS_put (keptS_put (keptS_put (keptS_put (keptS_put (keptS_put (keptS_put (keptS_put (keptS_put (keptS_put (keptS_put m h0 h1 h2 0 v0) h0 h1 h2 1 v1) h0 h1 h2 2 v2) h0 h1 h2 3 v3) h0 h1 h2 4 v4) h0 h1 h2 5 v5) h0 h1 h2 6 v6) h0 h1 h2 7 v7) h0 h1 h2 8 v8) h0 h1 h2 9 v9) h0 h1 h2 10 v10) h0 h1 h2 11 v11)
end

set_option maxRecDepth 100000 in
set_option maxHeartbeats 4000000 in
theorem spec (s : ByteArray) (b0 o0 n c : Nat) (l : List Rec) (h : Hd) (A1 A2 A3 : Option Addr) (n1 c1 n2 c2 n3 c3 : Nat) (w : World) (hs : Sr w w.heap.size (some ⟨b0, o0, none⟩) n l) (hn : n ≤ 1048576) (hm : s.size ≤ 400000000) (hq : h.qn.size ≤ 400000000) (hz : ∀ r ∈ l, r.name.size ≤ 400000000) :
    Calls Try.prog 19 #[.agg #[.string s, .slice (some ⟨b0, o0, none⟩) n c], .agg #[.int .i64 h.id, .bool h.rp, .bool h.au, .bool h.ct, .bool h.wa, .bool h.ca, .int .i64 h.code, .string h.qn, .int .i64 h.qt, .slice A1 n1 c1, .slice A2 n2 c2, .slice A3 n3 c3]] w (GivesS8 w h (kd s h.qn h.qt l) (anl (kd s h.qn h.qt l) h.qn h.qt l) (mol (kd s h.qn h.qt l) s h.qn l) (hel (kd s h.qn h.qt l) s h.qn l)) := by
  obtain ⟨⟨hx, hy⟩, hb0, hl0⟩ := boxes w s (.slice (some ⟨b0, o0, none⟩) n c) h A1 A2 A3 n1 c1 n2 c2 n3 c3 26 32 32
  have X0 := Lib.hid hx
  have Y0 := Lib.hid hy
  have R0 := Lib.hid hb0
  have L0 := Lib.hid hl0
  have HS := Lib.hid hs
  have KI := Lib.hid (fun W hW => KindS.spec s h.qn h.qt b0 o0 n c l W hW (by omega) hm hq hz)
  have AS := Lib.hid (fun W hW => AnsS.spec s h.qn h.qt b0 o0 n c l W hW (by omega) hm hq hz)
  have MS := Lib.hid (fun W hW => MorS.spec s h.qn h.qt b0 o0 n c l W hW (by omega) hm hq hz)
  have HP := Lib.hid (fun W hW => HlpS.spec s h.qn h.qt b0 o0 n c l W hW hn hm hq hz)
  have K6 := kd_six s h.qn h.qt l
  clear hx hy hb0 hl0 hs hz
  generalize kd s h.qn h.qt l = kk at *
  generalize anl kk h.qn h.qt l = J1 at *
  generalize mol kk s h.qn l = J2 at *
  generalize hel kk s h.qn l = J3 at *
  obtain ⟨x0, x1⟩ := X0.out
  obtain ⟨y0, y1, y2, y3, y4, y5, y6, y7, y8, y9, y10, y11⟩ := Y0.out
  go_enter Try.func19, Try.ntmps19
  go_wp2_with fail
  refine (KI.out _ (HS.out.on L0.out)).mono ?_
  rintro e w2 ⟨rfl, hl⟩
  have X2 := Lib.hid (X0.out.below hl)
  have Y2 := Lib.hid (Y0.out.below hl)
  have R2 := Lib.hid (R0.out.below hl R0.out.lt)
  have L2 := Lib.hid (L0.out.trans (hl.mono L0.out.size))
  have ne0 : w.heap.size ≤ w.heap.size + 1 + 1 := by omega
  have ne1 : w.heap.size ≠ w.heap.size + 1 + 1 := by omega
  have ne2 : w.heap.size + 1 ≠ w.heap.size + 1 + 1 := by omega
  clear hl KI X0 Y0 R0 L0 x0 x1 y0 y1 y2 y3 y4 y5 y6 y7 y8 y9 y10 y11
  have ASR : Hid (∀ W : World, (((W.cell? ⟨w.heap.size, 0, none⟩ = some (.string s) ∧ W.cell? ⟨w.heap.size, 1, none⟩ = some (.slice (some ⟨b0, o0, none⟩) n c)) ∧ (W.cell? ⟨w.heap.size + 1, 0, none⟩ = some (.int .i64 h.id) ∧ W.cell? ⟨w.heap.size + 1, 1, none⟩ = some (.bool h.rp) ∧ W.cell? ⟨w.heap.size + 1, 2, none⟩ = some (.bool h.au) ∧ W.cell? ⟨w.heap.size + 1, 3, none⟩ = some (.bool h.ct) ∧ W.cell? ⟨w.heap.size + 1, 4, none⟩ = some (.bool h.wa) ∧ W.cell? ⟨w.heap.size + 1, 5, none⟩ = some (.bool h.ca) ∧ W.cell? ⟨w.heap.size + 1, 6, none⟩ = some (.int .i64 h.code) ∧ W.cell? ⟨w.heap.size + 1, 7, none⟩ = some (.string h.qn) ∧ W.cell? ⟨w.heap.size + 1, 8, none⟩ = some (.int .i64 h.qt) ∧ W.cell? ⟨w.heap.size + 1, 9, none⟩ = some (.slice A1 n1 c1) ∧ W.cell? ⟨w.heap.size + 1, 10, none⟩ = some (.slice A2 n2 c2) ∧ W.cell? ⟨w.heap.size + 1, 11, none⟩ = some (.slice A3 n3 c3))) ∧ RB W (w.heap.size + 1 + 1)) ∧ Sv w W → Calls Try.prog 12 #[.agg #[.string s, .slice (some ⟨b0, o0, none⟩) n c], .agg #[.string h.qn, .int .i64 h.qt]] W (GivesL W J1)) := fun W hW => AS.out W (HS.out.on hW.2)
  have MSR : Hid (∀ W : World, (((W.cell? ⟨w.heap.size, 0, none⟩ = some (.string s) ∧ W.cell? ⟨w.heap.size, 1, none⟩ = some (.slice (some ⟨b0, o0, none⟩) n c)) ∧ (W.cell? ⟨w.heap.size + 1, 0, none⟩ = some (.int .i64 h.id) ∧ W.cell? ⟨w.heap.size + 1, 1, none⟩ = some (.bool h.rp) ∧ W.cell? ⟨w.heap.size + 1, 2, none⟩ = some (.bool h.au) ∧ W.cell? ⟨w.heap.size + 1, 3, none⟩ = some (.bool h.ct) ∧ W.cell? ⟨w.heap.size + 1, 4, none⟩ = some (.bool h.wa) ∧ W.cell? ⟨w.heap.size + 1, 5, none⟩ = some (.bool h.ca) ∧ W.cell? ⟨w.heap.size + 1, 6, none⟩ = some (.int .i64 h.code) ∧ W.cell? ⟨w.heap.size + 1, 7, none⟩ = some (.string h.qn) ∧ W.cell? ⟨w.heap.size + 1, 8, none⟩ = some (.int .i64 h.qt) ∧ W.cell? ⟨w.heap.size + 1, 9, none⟩ = some (.slice A1 n1 c1) ∧ W.cell? ⟨w.heap.size + 1, 10, none⟩ = some (.slice A2 n2 c2) ∧ W.cell? ⟨w.heap.size + 1, 11, none⟩ = some (.slice A3 n3 c3))) ∧ RB W (w.heap.size + 1 + 1)) ∧ Sv w W → Calls Try.prog 14 #[.agg #[.string s, .slice (some ⟨b0, o0, none⟩) n c], .agg #[.string h.qn, .int .i64 h.qt]] W (GivesL W J2)) := fun W hW => MS.out W (HS.out.on hW.2)
  have HSR : Hid (∀ W : World, (((W.cell? ⟨w.heap.size, 0, none⟩ = some (.string s) ∧ W.cell? ⟨w.heap.size, 1, none⟩ = some (.slice (some ⟨b0, o0, none⟩) n c)) ∧ (W.cell? ⟨w.heap.size + 1, 0, none⟩ = some (.int .i64 h.id) ∧ W.cell? ⟨w.heap.size + 1, 1, none⟩ = some (.bool h.rp) ∧ W.cell? ⟨w.heap.size + 1, 2, none⟩ = some (.bool h.au) ∧ W.cell? ⟨w.heap.size + 1, 3, none⟩ = some (.bool h.ct) ∧ W.cell? ⟨w.heap.size + 1, 4, none⟩ = some (.bool h.wa) ∧ W.cell? ⟨w.heap.size + 1, 5, none⟩ = some (.bool h.ca) ∧ W.cell? ⟨w.heap.size + 1, 6, none⟩ = some (.int .i64 h.code) ∧ W.cell? ⟨w.heap.size + 1, 7, none⟩ = some (.string h.qn) ∧ W.cell? ⟨w.heap.size + 1, 8, none⟩ = some (.int .i64 h.qt) ∧ W.cell? ⟨w.heap.size + 1, 9, none⟩ = some (.slice A1 n1 c1) ∧ W.cell? ⟨w.heap.size + 1, 10, none⟩ = some (.slice A2 n2 c2) ∧ W.cell? ⟨w.heap.size + 1, 11, none⟩ = some (.slice A3 n3 c3))) ∧ RB W (w.heap.size + 1 + 1)) ∧ Sv w W → Calls Try.prog 16 #[.agg #[.string s, .slice (some ⟨b0, o0, none⟩) n c], .agg #[.string h.qn, .int .i64 h.qt]] W (GivesL W J3)) := fun W hW => HP.out W (HS.out.on hW.2)
  have F1 : Hid (∀ (W : World) (g c : Nat) (r : List Value), Bk W g 56 (fl J1 ++ r) → J1.length ≤ c → Calls Try.prog 42 #[.slice (some ⟨g, 0, none⟩) J1.length c] W (GivesC W (m8 J1.length) (J1.take 8))) := fun W g c r hb hc => first g J1.length c J1 W (bk_sr hb rfl) hc
  have F2 : Hid (∀ (W : World) (g c : Nat) (r : List Value), Bk W g 56 (fl J2 ++ r) → J2.length ≤ c → Calls Try.prog 42 #[.slice (some ⟨g, 0, none⟩) J2.length c] W (GivesC W (m8 J2.length) (J2.take 8))) := fun W g c r hb hc => first g J2.length c J2 W (bk_sr hb rfl) hc
  have F3 : Hid (∀ (W : World) (g c : Nat) (r : List Value), Bk W g 56 (fl J3 ++ r) → J3.length ≤ c → Calls Try.prog 42 #[.slice (some ⟨g, 0, none⟩) J3.length c] W (GivesC W (m8 J3.length) (J3.take 8))) := fun W g c r hb hc => first g J3.length c J3 W (bk_sr hb rfl) hc
  have RG : Hid (∀ (d : Int) (a : Bool) (W : World) (g1 u1 : Nat) (r1 : List Value) (g2 u2 : Nat) (r2 : List Value) (g3 u3 : Nat) (r3 : List Value), Bk W g1 56 (fl (J1.take 8) ++ r1) → Bk W g2 56 (fl (J2.take 8) ++ r2) → Bk W g3 56 (fl (J3.take 8) ++ r3) → Calls Try.prog 41 #[.agg #[.int .i64 h.id, .bool h.rp, .bool h.au, .bool h.ct, .bool h.wa, .bool h.ca, .int .i64 h.code, .string h.qn, .int .i64 h.qt, .slice A1 n1 c1, .slice A2 n2 c2, .slice A3 n3 c3], .int .i64 d, .bool a, .slice (some ⟨g1, 0, none⟩) (m8 J1.length) u1, .slice (some ⟨g2, 0, none⟩) (m8 J2.length) u2, .slice (some ⟨g3, 0, none⟩) (m8 J3.length) u3] W (GivesM W (rph h d a) (m8 J1.length) (m8 J2.length) (m8 J3.length) (J1.take 8) (J2.take 8) (J3.take 8))) := fun d a W g1 u1 r1 g2 u2 r2 g3 u3 r3 h1 h2 h3 => RepM.spec h A1 A2 A3 n1 c1 n2 c2 n3 c3 d a g1 0 _ u1 _ g2 0 _ u2 _ g3 0 _ u3 _ W (bk_sr h1 (m8_len J1 rfl)) (by have := m8_le J1.length; omega) (bk_sr h2 (m8_len J2 rfl)) (by have := m8_le J2.length; omega) (bk_sr h3 (m8_len J3 rfl)) (by have := m8_le J3.length; omega)
  clear AS MS HP
  by_cases k0 : kk = 0
  · subst k0
    have HD : Hid (rcd 0 = 5) := rfl
    have HA : Hid (aut 0 = false) := rfl
    have RR := Lib.hid (RG.out 5 false)
    clear RG
    
    have SS0 : (((w2.cell? ⟨w.heap.size, 0, none⟩ = some (.string s) ∧ w2.cell? ⟨w.heap.size, 1, none⟩ = some (.slice (some ⟨b0, o0, none⟩) n c)) ∧ (w2.cell? ⟨w.heap.size + 1, 0, none⟩ = some (.int .i64 h.id) ∧ w2.cell? ⟨w.heap.size + 1, 1, none⟩ = some (.bool h.rp) ∧ w2.cell? ⟨w.heap.size + 1, 2, none⟩ = some (.bool h.au) ∧ w2.cell? ⟨w.heap.size + 1, 3, none⟩ = some (.bool h.ct) ∧ w2.cell? ⟨w.heap.size + 1, 4, none⟩ = some (.bool h.wa) ∧ w2.cell? ⟨w.heap.size + 1, 5, none⟩ = some (.bool h.ca) ∧ w2.cell? ⟨w.heap.size + 1, 6, none⟩ = some (.int .i64 h.code) ∧ w2.cell? ⟨w.heap.size + 1, 7, none⟩ = some (.string h.qn) ∧ w2.cell? ⟨w.heap.size + 1, 8, none⟩ = some (.int .i64 h.qt) ∧ w2.cell? ⟨w.heap.size + 1, 9, none⟩ = some (.slice A1 n1 c1) ∧ w2.cell? ⟨w.heap.size + 1, 10, none⟩ = some (.slice A2 n2 c2) ∧ w2.cell? ⟨w.heap.size + 1, 11, none⟩ = some (.slice A3 n3 c3))) ∧ RB w2 (w.heap.size + 1 + 1)) ∧ Sv w w2 := ⟨⟨⟨X2.out, Y2.out⟩, ⟨_, rfl, R2.out⟩⟩, L2.out⟩
    clear X2 Y2
    go_wp2
    go_region_held3 (fun w' => (((w'.cell? ⟨w.heap.size, 0, none⟩ = some (.string s) ∧ w'.cell? ⟨w.heap.size, 1, none⟩ = some (.slice (some ⟨b0, o0, none⟩) n c)) ∧ (w'.cell? ⟨w.heap.size + 1, 0, none⟩ = some (.int .i64 h.id) ∧ w'.cell? ⟨w.heap.size + 1, 1, none⟩ = some (.bool h.rp) ∧ w'.cell? ⟨w.heap.size + 1, 2, none⟩ = some (.bool h.au) ∧ w'.cell? ⟨w.heap.size + 1, 3, none⟩ = some (.bool h.ct) ∧ w'.cell? ⟨w.heap.size + 1, 4, none⟩ = some (.bool h.wa) ∧ w'.cell? ⟨w.heap.size + 1, 5, none⟩ = some (.bool h.ca) ∧ w'.cell? ⟨w.heap.size + 1, 6, none⟩ = some (.int .i64 h.code) ∧ w'.cell? ⟨w.heap.size + 1, 7, none⟩ = some (.string h.qn) ∧ w'.cell? ⟨w.heap.size + 1, 8, none⟩ = some (.int .i64 h.qt) ∧ w'.cell? ⟨w.heap.size + 1, 9, none⟩ = some (.slice A1 n1 c1) ∧ w'.cell? ⟨w.heap.size + 1, 10, none⟩ = some (.slice A2 n2 c2) ∧ w'.cell? ⟨w.heap.size + 1, 11, none⟩ = some (.slice A3 n3 c3))) ∧ RB w' (w.heap.size + 1 + 1)) ∧ Sv w w')
      (first | with_reducible exact keptS_fil (w1 := w9) (by assumption) ne0 ne1 ne2 _ _ _ _ _ _ _ _ _ _ _ _ | with_reducible exact SS0 | with_reducible assumption | with_reducible exact keptS (by assumption) hl | with_reducible exact keptS_draw (by assumption) | fail)
      (first
        | (go_at_call 12; (with_reducible refine (ASR.out _ (by assumption)).mono ?_); rintro e w3 ⟨ga, ma, ca, ra, rfl, rfl, xa, ya, ba, hl⟩; have y3 := hl)
        | (go_at_call 14; (with_reducible refine (MSR.out _ (by assumption)).mono ?_); rintro e w5 ⟨gb, mb, cb, rb, rfl, rfl, xb, yb, bb, hl⟩; have y5 := hl)
        | (go_at_call 16; (with_reducible refine (HSR.out _ (by assumption)).mono ?_); rintro e w7 ⟨gc, mc, cc, rc, rfl, rfl, xc, yc, bc, hl⟩; have y7 := hl)
        | (go_at_call 42; (with_reducible refine (F1.out _ _ _ _ ba xa).mono ?_); rintro e w4 ⟨i1, u1, r1, rfl, vx, vy, k1, hl⟩; have y4 := hl)
        | (go_at_call 42; (with_reducible refine (F2.out _ _ _ _ bb xb).mono ?_); rintro e w6 ⟨i2, u2, r2, rfl, vx2, vy2, k2, hl⟩; have y6 := hl)
        | (go_at_call 42; (with_reducible refine (F3.out _ _ _ _ bc xc).mono ?_); rintro e w8 ⟨i3, u3, r3, rfl, vx3, vy3, k3, hl⟩; have y8 := hl)
        | (go_at_call 41; have e1 := on (on (on (on k1 y5) y6) y7) y8; have e2 := on (on k2 y7) y8; (with_reducible refine (RR.out _ _ _ _ _ _ _ _ _ _ e1 e2 k3).mono ?_); rintro e w9 ⟨g1, u1, r1, g2, u2, r2, g3, u3, r3, rfl, hb1, hb2, hb3, hg, h12, h23, hl⟩; have y9 := hl; have HR := (keptS (by assumption) hl).1.2; have p0 := HR.cell 0 (by decide); have f0 := HR.free 0; have p1 := HR.cell 1 (by decide); have f1 := HR.free 1; have p2 := HR.cell 2 (by decide); have f2 := HR.free 2; have p3 := HR.cell 3 (by decide); have f3 := HR.free 3; have p4 := HR.cell 4 (by decide); have f4 := HR.free 4; have p5 := HR.cell 5 (by decide); have f5 := HR.free 5; have p6 := HR.cell 6 (by decide); have f6 := HR.free 6; have p7 := HR.cell 7 (by decide); have f7 := HR.free 7; have p8 := HR.cell 8 (by decide); have f8 := HR.free 8; have p9 := HR.cell 9 (by decide); have f9 := HR.free 9; have p10 := HR.cell 10 (by decide); have f10 := HR.free 10; have p11 := HR.cell 11 (by decide); have f11 := HR.free 11; clear HR)
        | fail)
    rename_i hH
    have a0 : Below w.heap.size w w2.drew := L2.out.drew
    have a1 := a0.trans (y3.mono a0.size)
    have a2 := a1.trans (y4.mono a1.size)
    have a3 := a2.trans (y5.mono a2.size)
    have a4 := a3.trans (y6.mono a3.size)
    have a5 := a4.trans (y7.mono a4.size)
    have a6 := a5.trans (y8.mono a5.size)
    have a7 := a6.trans (y9.mono a6.size)
    have RA : RB w9 (w.heap.size + 1 + 1) := by
      have b0 : RB w2.drew (w.heap.size + 1 + 1) := ⟨_, rfl, R2.out⟩
      exact ((((((b0.below y3).below y4).below y5).below y6).below y7).below y8).below y9
    have G4 : w.heap.size + 1 + 1 < g1 := Nat.lt_of_lt_of_le (Nat.lt_of_lt_of_le (Nat.lt_of_lt_of_le (Nat.lt_of_lt_of_le (Nat.lt_of_lt_of_le (Nat.lt_of_lt_of_le (Nat.lt_of_lt_of_le (show w.heap.size + 1 + 1 < w2.drew.heap.size from R2.out.lt) y3.size) y4.size) y5.size) y6.size) y7.size) y8.size) hg
    have F := Lib.hid (RA.fil (rph h 5 false) (.slice (some ⟨g1, 0, none⟩) (m8 J1.length) u1) (.slice (some ⟨g2, 0, none⟩) (m8 J2.length) u2) (.slice (some ⟨g3, 0, none⟩) (m8 J3.length) u3))
    have E := Lib.hid (filM_below a7 (g := w.heap.size + 1 + 1) (by omega) (rph h 5 false) (.slice (some ⟨g1, 0, none⟩) (m8 J1.length) u1) (.slice (some ⟨g2, 0, none⟩) (m8 J2.length) u2) (.slice (some ⟨g3, 0, none⟩) (m8 J3.length) u3))
    have I1 := Lib.hid (filM_other hb1 (g := w.heap.size + 1 + 1) (by omega) (rph h 5 false) (.slice (some ⟨g1, 0, none⟩) (m8 J1.length) u1) (.slice (some ⟨g2, 0, none⟩) (m8 J2.length) u2) (.slice (some ⟨g3, 0, none⟩) (m8 J3.length) u3))
    have I2 := Lib.hid (filM_other hb2 (g := w.heap.size + 1 + 1) (by omega) (rph h 5 false) (.slice (some ⟨g1, 0, none⟩) (m8 J1.length) u1) (.slice (some ⟨g2, 0, none⟩) (m8 J2.length) u2) (.slice (some ⟨g3, 0, none⟩) (m8 J3.length) u3))
    have I3 := Lib.hid (filM_other hb3 (g := w.heap.size + 1 + 1) (by omega) (rph h 5 false) (.slice (some ⟨g1, 0, none⟩) (m8 J1.length) u1) (.slice (some ⟨g2, 0, none⟩) (m8 J2.length) u2) (.slice (some ⟨g3, 0, none⟩) (m8 J3.length) u3))
    clear hH SS0 a0 a1 a2 a3 a4 a5 a6 a7 RA R2 L2 y3 y4 y5 y6 y7 y8 y9 hl hb1 hb2 hb3 ba bb bc k1 k2 k3 e1 e2 vx vy vx2 vy2 vx3 vy3 xa ya xb yb xc yc ASR MSR HSR F1 F2 F3 RR p0 f0 p1 f1 p2 f2 p3 f3 p4 f4 p5 f5 p6 f6 p7 f7 p8 f8 p9 f9 p10 f10 p11 f11
    go_wp2
    refine bodyPost_ret (v := .agg #[.int .i64 (rph h 5 false).id, .bool (rph h 5 false).rp, .bool (rph h 5 false).au, .bool (rph h 5 false).ct, .bool (rph h 5 false).wa, .bool (rph h 5 false).ca, .int .i64 (rph h 5 false).code, .string (rph h 5 false).qn, .int .i64 (rph h 5 false).qt, .slice (some ⟨g1, 0, none⟩) (m8 J1.length) u1, .slice (some ⟨g2, 0, none⟩) (m8 J2.length) u2, .slice (some ⟨g3, 0, none⟩) (m8 J3.length) u3]) (res1M rfl F.out rfl) rfl ?_
    unfold GivesS8
    rw [HD.out, HA.out]
    exact ⟨g1, u1, r1, g2, u2, r2, g3, u3, r3, rfl, I1.out, I2.out, I3.out, by omega, h12, h23, E.out⟩
  · have t0 : (kk == 0) = false := by simpa using k0
    have u0 : (kk != 0) = true := by simpa using k0
    by_cases k5 : kk = 5
    · subst k5
      clear k0 t0 u0
      have HD : Hid (rcd 5 = 3) := rfl
      have HA : Hid (aut 5 = true) := rfl
      have RR := Lib.hid (RG.out 3 true)
      clear RG
      
      have SS0 : (((w2.cell? ⟨w.heap.size, 0, none⟩ = some (.string s) ∧ w2.cell? ⟨w.heap.size, 1, none⟩ = some (.slice (some ⟨b0, o0, none⟩) n c)) ∧ (w2.cell? ⟨w.heap.size + 1, 0, none⟩ = some (.int .i64 h.id) ∧ w2.cell? ⟨w.heap.size + 1, 1, none⟩ = some (.bool h.rp) ∧ w2.cell? ⟨w.heap.size + 1, 2, none⟩ = some (.bool h.au) ∧ w2.cell? ⟨w.heap.size + 1, 3, none⟩ = some (.bool h.ct) ∧ w2.cell? ⟨w.heap.size + 1, 4, none⟩ = some (.bool h.wa) ∧ w2.cell? ⟨w.heap.size + 1, 5, none⟩ = some (.bool h.ca) ∧ w2.cell? ⟨w.heap.size + 1, 6, none⟩ = some (.int .i64 h.code) ∧ w2.cell? ⟨w.heap.size + 1, 7, none⟩ = some (.string h.qn) ∧ w2.cell? ⟨w.heap.size + 1, 8, none⟩ = some (.int .i64 h.qt) ∧ w2.cell? ⟨w.heap.size + 1, 9, none⟩ = some (.slice A1 n1 c1) ∧ w2.cell? ⟨w.heap.size + 1, 10, none⟩ = some (.slice A2 n2 c2) ∧ w2.cell? ⟨w.heap.size + 1, 11, none⟩ = some (.slice A3 n3 c3))) ∧ RB w2 (w.heap.size + 1 + 1)) ∧ Sv w w2 := ⟨⟨⟨X2.out, Y2.out⟩, ⟨_, rfl, R2.out⟩⟩, L2.out⟩
      clear X2 Y2
      go_wp2
      go_region_held3 (fun w' => (((w'.cell? ⟨w.heap.size, 0, none⟩ = some (.string s) ∧ w'.cell? ⟨w.heap.size, 1, none⟩ = some (.slice (some ⟨b0, o0, none⟩) n c)) ∧ (w'.cell? ⟨w.heap.size + 1, 0, none⟩ = some (.int .i64 h.id) ∧ w'.cell? ⟨w.heap.size + 1, 1, none⟩ = some (.bool h.rp) ∧ w'.cell? ⟨w.heap.size + 1, 2, none⟩ = some (.bool h.au) ∧ w'.cell? ⟨w.heap.size + 1, 3, none⟩ = some (.bool h.ct) ∧ w'.cell? ⟨w.heap.size + 1, 4, none⟩ = some (.bool h.wa) ∧ w'.cell? ⟨w.heap.size + 1, 5, none⟩ = some (.bool h.ca) ∧ w'.cell? ⟨w.heap.size + 1, 6, none⟩ = some (.int .i64 h.code) ∧ w'.cell? ⟨w.heap.size + 1, 7, none⟩ = some (.string h.qn) ∧ w'.cell? ⟨w.heap.size + 1, 8, none⟩ = some (.int .i64 h.qt) ∧ w'.cell? ⟨w.heap.size + 1, 9, none⟩ = some (.slice A1 n1 c1) ∧ w'.cell? ⟨w.heap.size + 1, 10, none⟩ = some (.slice A2 n2 c2) ∧ w'.cell? ⟨w.heap.size + 1, 11, none⟩ = some (.slice A3 n3 c3))) ∧ RB w' (w.heap.size + 1 + 1)) ∧ Sv w w')
        (first | with_reducible exact keptS_fil (w1 := w9) (by assumption) ne0 ne1 ne2 _ _ _ _ _ _ _ _ _ _ _ _ | with_reducible exact SS0 | with_reducible assumption | with_reducible exact keptS (by assumption) hl | with_reducible exact keptS_draw (by assumption) | fail)
        (first
          | (go_at_call 12; (with_reducible refine (ASR.out _ (by assumption)).mono ?_); rintro e w3 ⟨ga, ma, ca, ra, rfl, rfl, xa, ya, ba, hl⟩; have y3 := hl)
          | (go_at_call 14; (with_reducible refine (MSR.out _ (by assumption)).mono ?_); rintro e w5 ⟨gb, mb, cb, rb, rfl, rfl, xb, yb, bb, hl⟩; have y5 := hl)
          | (go_at_call 16; (with_reducible refine (HSR.out _ (by assumption)).mono ?_); rintro e w7 ⟨gc, mc, cc, rc, rfl, rfl, xc, yc, bc, hl⟩; have y7 := hl)
          | (go_at_call 42; (with_reducible refine (F1.out _ _ _ _ ba xa).mono ?_); rintro e w4 ⟨i1, u1, r1, rfl, vx, vy, k1, hl⟩; have y4 := hl)
          | (go_at_call 42; (with_reducible refine (F2.out _ _ _ _ bb xb).mono ?_); rintro e w6 ⟨i2, u2, r2, rfl, vx2, vy2, k2, hl⟩; have y6 := hl)
          | (go_at_call 42; (with_reducible refine (F3.out _ _ _ _ bc xc).mono ?_); rintro e w8 ⟨i3, u3, r3, rfl, vx3, vy3, k3, hl⟩; have y8 := hl)
          | (go_at_call 41; have e1 := on (on (on (on k1 y5) y6) y7) y8; have e2 := on (on k2 y7) y8; (with_reducible refine (RR.out _ _ _ _ _ _ _ _ _ _ e1 e2 k3).mono ?_); rintro e w9 ⟨g1, u1, r1, g2, u2, r2, g3, u3, r3, rfl, hb1, hb2, hb3, hg, h12, h23, hl⟩; have y9 := hl; have HR := (keptS (by assumption) hl).1.2; have p0 := HR.cell 0 (by decide); have f0 := HR.free 0; have p1 := HR.cell 1 (by decide); have f1 := HR.free 1; have p2 := HR.cell 2 (by decide); have f2 := HR.free 2; have p3 := HR.cell 3 (by decide); have f3 := HR.free 3; have p4 := HR.cell 4 (by decide); have f4 := HR.free 4; have p5 := HR.cell 5 (by decide); have f5 := HR.free 5; have p6 := HR.cell 6 (by decide); have f6 := HR.free 6; have p7 := HR.cell 7 (by decide); have f7 := HR.free 7; have p8 := HR.cell 8 (by decide); have f8 := HR.free 8; have p9 := HR.cell 9 (by decide); have f9 := HR.free 9; have p10 := HR.cell 10 (by decide); have f10 := HR.free 10; have p11 := HR.cell 11 (by decide); have f11 := HR.free 11; clear HR)
          | fail)
      rename_i hH
      have a0 : Below w.heap.size w w2.drew := L2.out.drew
      have a1 := a0.trans (y3.mono a0.size)
      have a2 := a1.trans (y4.mono a1.size)
      have a3 := a2.trans (y5.mono a2.size)
      have a4 := a3.trans (y6.mono a3.size)
      have a5 := a4.trans (y7.mono a4.size)
      have a6 := a5.trans (y8.mono a5.size)
      have a7 := a6.trans (y9.mono a6.size)
      have RA : RB w9 (w.heap.size + 1 + 1) := by
        have b0 : RB w2.drew (w.heap.size + 1 + 1) := ⟨_, rfl, R2.out⟩
        exact ((((((b0.below y3).below y4).below y5).below y6).below y7).below y8).below y9
      have G4 : w.heap.size + 1 + 1 < g1 := Nat.lt_of_lt_of_le (Nat.lt_of_lt_of_le (Nat.lt_of_lt_of_le (Nat.lt_of_lt_of_le (Nat.lt_of_lt_of_le (Nat.lt_of_lt_of_le (Nat.lt_of_lt_of_le (show w.heap.size + 1 + 1 < w2.drew.heap.size from R2.out.lt) y3.size) y4.size) y5.size) y6.size) y7.size) y8.size) hg
      have F := Lib.hid (RA.fil (rph h 3 true) (.slice (some ⟨g1, 0, none⟩) (m8 J1.length) u1) (.slice (some ⟨g2, 0, none⟩) (m8 J2.length) u2) (.slice (some ⟨g3, 0, none⟩) (m8 J3.length) u3))
      have E := Lib.hid (filM_below a7 (g := w.heap.size + 1 + 1) (by omega) (rph h 3 true) (.slice (some ⟨g1, 0, none⟩) (m8 J1.length) u1) (.slice (some ⟨g2, 0, none⟩) (m8 J2.length) u2) (.slice (some ⟨g3, 0, none⟩) (m8 J3.length) u3))
      have I1 := Lib.hid (filM_other hb1 (g := w.heap.size + 1 + 1) (by omega) (rph h 3 true) (.slice (some ⟨g1, 0, none⟩) (m8 J1.length) u1) (.slice (some ⟨g2, 0, none⟩) (m8 J2.length) u2) (.slice (some ⟨g3, 0, none⟩) (m8 J3.length) u3))
      have I2 := Lib.hid (filM_other hb2 (g := w.heap.size + 1 + 1) (by omega) (rph h 3 true) (.slice (some ⟨g1, 0, none⟩) (m8 J1.length) u1) (.slice (some ⟨g2, 0, none⟩) (m8 J2.length) u2) (.slice (some ⟨g3, 0, none⟩) (m8 J3.length) u3))
      have I3 := Lib.hid (filM_other hb3 (g := w.heap.size + 1 + 1) (by omega) (rph h 3 true) (.slice (some ⟨g1, 0, none⟩) (m8 J1.length) u1) (.slice (some ⟨g2, 0, none⟩) (m8 J2.length) u2) (.slice (some ⟨g3, 0, none⟩) (m8 J3.length) u3))
      clear hH SS0 a0 a1 a2 a3 a4 a5 a6 a7 RA R2 L2 y3 y4 y5 y6 y7 y8 y9 hl hb1 hb2 hb3 ba bb bc k1 k2 k3 e1 e2 vx vy vx2 vy2 vx3 vy3 xa ya xb yb xc yc ASR MSR HSR F1 F2 F3 RR p0 f0 p1 f1 p2 f2 p3 f3 p4 f4 p5 f5 p6 f6 p7 f7 p8 f8 p9 f9 p10 f10 p11 f11
      go_wp2
      refine bodyPost_ret (v := .agg #[.int .i64 (rph h 3 true).id, .bool (rph h 3 true).rp, .bool (rph h 3 true).au, .bool (rph h 3 true).ct, .bool (rph h 3 true).wa, .bool (rph h 3 true).ca, .int .i64 (rph h 3 true).code, .string (rph h 3 true).qn, .int .i64 (rph h 3 true).qt, .slice (some ⟨g1, 0, none⟩) (m8 J1.length) u1, .slice (some ⟨g2, 0, none⟩) (m8 J2.length) u2, .slice (some ⟨g3, 0, none⟩) (m8 J3.length) u3]) (res1M rfl F.out rfl) rfl ?_
      unfold GivesS8
      rw [HD.out, HA.out]
      exact ⟨g1, u1, r1, g2, u2, r2, g3, u3, r3, rfl, I1.out, I2.out, I3.out, by omega, h12, h23, E.out⟩
    · have t5 : (kk == 5) = false := by simpa using k5
      by_cases k1 : kk = 1
      · subst k1
        clear k0 k5 t0 u0 t5
        have HD : Hid (rcd 1 = 0) := rfl
        have HA : Hid (aut 1 = false) := rfl
        have RR := Lib.hid (RG.out 0 false)
        clear RG
        
        have SS0 : (((w2.cell? ⟨w.heap.size, 0, none⟩ = some (.string s) ∧ w2.cell? ⟨w.heap.size, 1, none⟩ = some (.slice (some ⟨b0, o0, none⟩) n c)) ∧ (w2.cell? ⟨w.heap.size + 1, 0, none⟩ = some (.int .i64 h.id) ∧ w2.cell? ⟨w.heap.size + 1, 1, none⟩ = some (.bool h.rp) ∧ w2.cell? ⟨w.heap.size + 1, 2, none⟩ = some (.bool h.au) ∧ w2.cell? ⟨w.heap.size + 1, 3, none⟩ = some (.bool h.ct) ∧ w2.cell? ⟨w.heap.size + 1, 4, none⟩ = some (.bool h.wa) ∧ w2.cell? ⟨w.heap.size + 1, 5, none⟩ = some (.bool h.ca) ∧ w2.cell? ⟨w.heap.size + 1, 6, none⟩ = some (.int .i64 h.code) ∧ w2.cell? ⟨w.heap.size + 1, 7, none⟩ = some (.string h.qn) ∧ w2.cell? ⟨w.heap.size + 1, 8, none⟩ = some (.int .i64 h.qt) ∧ w2.cell? ⟨w.heap.size + 1, 9, none⟩ = some (.slice A1 n1 c1) ∧ w2.cell? ⟨w.heap.size + 1, 10, none⟩ = some (.slice A2 n2 c2) ∧ w2.cell? ⟨w.heap.size + 1, 11, none⟩ = some (.slice A3 n3 c3))) ∧ RB w2 (w.heap.size + 1 + 1)) ∧ Sv w w2 := ⟨⟨⟨X2.out, Y2.out⟩, ⟨_, rfl, R2.out⟩⟩, L2.out⟩
        clear X2 Y2
        go_wp2
        go_region_held3 (fun w' => (((w'.cell? ⟨w.heap.size, 0, none⟩ = some (.string s) ∧ w'.cell? ⟨w.heap.size, 1, none⟩ = some (.slice (some ⟨b0, o0, none⟩) n c)) ∧ (w'.cell? ⟨w.heap.size + 1, 0, none⟩ = some (.int .i64 h.id) ∧ w'.cell? ⟨w.heap.size + 1, 1, none⟩ = some (.bool h.rp) ∧ w'.cell? ⟨w.heap.size + 1, 2, none⟩ = some (.bool h.au) ∧ w'.cell? ⟨w.heap.size + 1, 3, none⟩ = some (.bool h.ct) ∧ w'.cell? ⟨w.heap.size + 1, 4, none⟩ = some (.bool h.wa) ∧ w'.cell? ⟨w.heap.size + 1, 5, none⟩ = some (.bool h.ca) ∧ w'.cell? ⟨w.heap.size + 1, 6, none⟩ = some (.int .i64 h.code) ∧ w'.cell? ⟨w.heap.size + 1, 7, none⟩ = some (.string h.qn) ∧ w'.cell? ⟨w.heap.size + 1, 8, none⟩ = some (.int .i64 h.qt) ∧ w'.cell? ⟨w.heap.size + 1, 9, none⟩ = some (.slice A1 n1 c1) ∧ w'.cell? ⟨w.heap.size + 1, 10, none⟩ = some (.slice A2 n2 c2) ∧ w'.cell? ⟨w.heap.size + 1, 11, none⟩ = some (.slice A3 n3 c3))) ∧ RB w' (w.heap.size + 1 + 1)) ∧ Sv w w')
          (first | with_reducible exact keptS_fil (w1 := w9) (by assumption) ne0 ne1 ne2 _ _ _ _ _ _ _ _ _ _ _ _ | with_reducible exact SS0 | with_reducible assumption | with_reducible exact keptS (by assumption) hl | with_reducible exact keptS_draw (by assumption) | fail)
          (first
            | (go_at_call 12; (with_reducible refine (ASR.out _ (by assumption)).mono ?_); rintro e w3 ⟨ga, ma, ca, ra, rfl, rfl, xa, ya, ba, hl⟩; have y3 := hl)
            | (go_at_call 14; (with_reducible refine (MSR.out _ (by assumption)).mono ?_); rintro e w5 ⟨gb, mb, cb, rb, rfl, rfl, xb, yb, bb, hl⟩; have y5 := hl)
            | (go_at_call 16; (with_reducible refine (HSR.out _ (by assumption)).mono ?_); rintro e w7 ⟨gc, mc, cc, rc, rfl, rfl, xc, yc, bc, hl⟩; have y7 := hl)
            | (go_at_call 42; (with_reducible refine (F1.out _ _ _ _ ba xa).mono ?_); rintro e w4 ⟨i1, u1, r1, rfl, vx, vy, k1, hl⟩; have y4 := hl)
            | (go_at_call 42; (with_reducible refine (F2.out _ _ _ _ bb xb).mono ?_); rintro e w6 ⟨i2, u2, r2, rfl, vx2, vy2, k2, hl⟩; have y6 := hl)
            | (go_at_call 42; (with_reducible refine (F3.out _ _ _ _ bc xc).mono ?_); rintro e w8 ⟨i3, u3, r3, rfl, vx3, vy3, k3, hl⟩; have y8 := hl)
            | (go_at_call 41; have e1 := on (on (on (on k1 y5) y6) y7) y8; have e2 := on (on k2 y7) y8; (with_reducible refine (RR.out _ _ _ _ _ _ _ _ _ _ e1 e2 k3).mono ?_); rintro e w9 ⟨g1, u1, r1, g2, u2, r2, g3, u3, r3, rfl, hb1, hb2, hb3, hg, h12, h23, hl⟩; have y9 := hl; have HR := (keptS (by assumption) hl).1.2; have p0 := HR.cell 0 (by decide); have f0 := HR.free 0; have p1 := HR.cell 1 (by decide); have f1 := HR.free 1; have p2 := HR.cell 2 (by decide); have f2 := HR.free 2; have p3 := HR.cell 3 (by decide); have f3 := HR.free 3; have p4 := HR.cell 4 (by decide); have f4 := HR.free 4; have p5 := HR.cell 5 (by decide); have f5 := HR.free 5; have p6 := HR.cell 6 (by decide); have f6 := HR.free 6; have p7 := HR.cell 7 (by decide); have f7 := HR.free 7; have p8 := HR.cell 8 (by decide); have f8 := HR.free 8; have p9 := HR.cell 9 (by decide); have f9 := HR.free 9; have p10 := HR.cell 10 (by decide); have f10 := HR.free 10; have p11 := HR.cell 11 (by decide); have f11 := HR.free 11; clear HR)
            | fail)
        rename_i hH
        have a0 : Below w.heap.size w w2.drew := L2.out.drew
        have a1 := a0.trans (y3.mono a0.size)
        have a2 := a1.trans (y4.mono a1.size)
        have a3 := a2.trans (y5.mono a2.size)
        have a4 := a3.trans (y6.mono a3.size)
        have a5 := a4.trans (y7.mono a4.size)
        have a6 := a5.trans (y8.mono a5.size)
        have a7 := a6.trans (y9.mono a6.size)
        have RA : RB w9 (w.heap.size + 1 + 1) := by
          have b0 : RB w2.drew (w.heap.size + 1 + 1) := ⟨_, rfl, R2.out⟩
          exact ((((((b0.below y3).below y4).below y5).below y6).below y7).below y8).below y9
        have G4 : w.heap.size + 1 + 1 < g1 := Nat.lt_of_lt_of_le (Nat.lt_of_lt_of_le (Nat.lt_of_lt_of_le (Nat.lt_of_lt_of_le (Nat.lt_of_lt_of_le (Nat.lt_of_lt_of_le (Nat.lt_of_lt_of_le (show w.heap.size + 1 + 1 < w2.drew.heap.size from R2.out.lt) y3.size) y4.size) y5.size) y6.size) y7.size) y8.size) hg
        have F := Lib.hid (RA.fil (rph h 0 false) (.slice (some ⟨g1, 0, none⟩) (m8 J1.length) u1) (.slice (some ⟨g2, 0, none⟩) (m8 J2.length) u2) (.slice (some ⟨g3, 0, none⟩) (m8 J3.length) u3))
        have E := Lib.hid (filM_below a7 (g := w.heap.size + 1 + 1) (by omega) (rph h 0 false) (.slice (some ⟨g1, 0, none⟩) (m8 J1.length) u1) (.slice (some ⟨g2, 0, none⟩) (m8 J2.length) u2) (.slice (some ⟨g3, 0, none⟩) (m8 J3.length) u3))
        have I1 := Lib.hid (filM_other hb1 (g := w.heap.size + 1 + 1) (by omega) (rph h 0 false) (.slice (some ⟨g1, 0, none⟩) (m8 J1.length) u1) (.slice (some ⟨g2, 0, none⟩) (m8 J2.length) u2) (.slice (some ⟨g3, 0, none⟩) (m8 J3.length) u3))
        have I2 := Lib.hid (filM_other hb2 (g := w.heap.size + 1 + 1) (by omega) (rph h 0 false) (.slice (some ⟨g1, 0, none⟩) (m8 J1.length) u1) (.slice (some ⟨g2, 0, none⟩) (m8 J2.length) u2) (.slice (some ⟨g3, 0, none⟩) (m8 J3.length) u3))
        have I3 := Lib.hid (filM_other hb3 (g := w.heap.size + 1 + 1) (by omega) (rph h 0 false) (.slice (some ⟨g1, 0, none⟩) (m8 J1.length) u1) (.slice (some ⟨g2, 0, none⟩) (m8 J2.length) u2) (.slice (some ⟨g3, 0, none⟩) (m8 J3.length) u3))
        clear hH SS0 a0 a1 a2 a3 a4 a5 a6 a7 RA R2 L2 y3 y4 y5 y6 y7 y8 y9 hl hb1 hb2 hb3 ba bb bc k1 k2 k3 e1 e2 vx vy vx2 vy2 vx3 vy3 xa ya xb yb xc yc ASR MSR HSR F1 F2 F3 RR p0 f0 p1 f1 p2 f2 p3 f3 p4 f4 p5 f5 p6 f6 p7 f7 p8 f8 p9 f9 p10 f10 p11 f11
        go_wp2
        refine bodyPost_ret (v := .agg #[.int .i64 (rph h 0 false).id, .bool (rph h 0 false).rp, .bool (rph h 0 false).au, .bool (rph h 0 false).ct, .bool (rph h 0 false).wa, .bool (rph h 0 false).ca, .int .i64 (rph h 0 false).code, .string (rph h 0 false).qn, .int .i64 (rph h 0 false).qt, .slice (some ⟨g1, 0, none⟩) (m8 J1.length) u1, .slice (some ⟨g2, 0, none⟩) (m8 J2.length) u2, .slice (some ⟨g3, 0, none⟩) (m8 J3.length) u3]) (res1M rfl F.out rfl) rfl ?_
        unfold GivesS8
        rw [HD.out, HA.out]
        exact ⟨g1, u1, r1, g2, u2, r2, g3, u3, r3, rfl, I1.out, I2.out, I3.out, by omega, h12, h23, E.out⟩
      · have u1 : (kk != 1) = true := by simpa using k1
        have HD : Hid (rcd kk = 0) := by show _ = _; unfold rcd; rw [if_neg k0, if_neg k5]
        have HA : Hid (aut kk = true) := by show _ = _; unfold aut; exact decide_eq_true ⟨k0, k1⟩
        have RR := Lib.hid (RG.out 0 true)
        clear RG
        clear k0 k1 k5 K6
        have SS0 : (((w2.cell? ⟨w.heap.size, 0, none⟩ = some (.string s) ∧ w2.cell? ⟨w.heap.size, 1, none⟩ = some (.slice (some ⟨b0, o0, none⟩) n c)) ∧ (w2.cell? ⟨w.heap.size + 1, 0, none⟩ = some (.int .i64 h.id) ∧ w2.cell? ⟨w.heap.size + 1, 1, none⟩ = some (.bool h.rp) ∧ w2.cell? ⟨w.heap.size + 1, 2, none⟩ = some (.bool h.au) ∧ w2.cell? ⟨w.heap.size + 1, 3, none⟩ = some (.bool h.ct) ∧ w2.cell? ⟨w.heap.size + 1, 4, none⟩ = some (.bool h.wa) ∧ w2.cell? ⟨w.heap.size + 1, 5, none⟩ = some (.bool h.ca) ∧ w2.cell? ⟨w.heap.size + 1, 6, none⟩ = some (.int .i64 h.code) ∧ w2.cell? ⟨w.heap.size + 1, 7, none⟩ = some (.string h.qn) ∧ w2.cell? ⟨w.heap.size + 1, 8, none⟩ = some (.int .i64 h.qt) ∧ w2.cell? ⟨w.heap.size + 1, 9, none⟩ = some (.slice A1 n1 c1) ∧ w2.cell? ⟨w.heap.size + 1, 10, none⟩ = some (.slice A2 n2 c2) ∧ w2.cell? ⟨w.heap.size + 1, 11, none⟩ = some (.slice A3 n3 c3))) ∧ RB w2 (w.heap.size + 1 + 1)) ∧ Sv w w2 := ⟨⟨⟨X2.out, Y2.out⟩, ⟨_, rfl, R2.out⟩⟩, L2.out⟩
        clear X2 Y2
        go_wp2
        go_region_held3 (fun w' => (((w'.cell? ⟨w.heap.size, 0, none⟩ = some (.string s) ∧ w'.cell? ⟨w.heap.size, 1, none⟩ = some (.slice (some ⟨b0, o0, none⟩) n c)) ∧ (w'.cell? ⟨w.heap.size + 1, 0, none⟩ = some (.int .i64 h.id) ∧ w'.cell? ⟨w.heap.size + 1, 1, none⟩ = some (.bool h.rp) ∧ w'.cell? ⟨w.heap.size + 1, 2, none⟩ = some (.bool h.au) ∧ w'.cell? ⟨w.heap.size + 1, 3, none⟩ = some (.bool h.ct) ∧ w'.cell? ⟨w.heap.size + 1, 4, none⟩ = some (.bool h.wa) ∧ w'.cell? ⟨w.heap.size + 1, 5, none⟩ = some (.bool h.ca) ∧ w'.cell? ⟨w.heap.size + 1, 6, none⟩ = some (.int .i64 h.code) ∧ w'.cell? ⟨w.heap.size + 1, 7, none⟩ = some (.string h.qn) ∧ w'.cell? ⟨w.heap.size + 1, 8, none⟩ = some (.int .i64 h.qt) ∧ w'.cell? ⟨w.heap.size + 1, 9, none⟩ = some (.slice A1 n1 c1) ∧ w'.cell? ⟨w.heap.size + 1, 10, none⟩ = some (.slice A2 n2 c2) ∧ w'.cell? ⟨w.heap.size + 1, 11, none⟩ = some (.slice A3 n3 c3))) ∧ RB w' (w.heap.size + 1 + 1)) ∧ Sv w w')
          (first | with_reducible exact keptS_fil (w1 := w9) (by assumption) ne0 ne1 ne2 _ _ _ _ _ _ _ _ _ _ _ _ | with_reducible exact SS0 | with_reducible assumption | with_reducible exact keptS (by assumption) hl | with_reducible exact keptS_draw (by assumption) | fail)
          (first
            | (go_at_call 12; (with_reducible refine (ASR.out _ (by assumption)).mono ?_); rintro e w3 ⟨ga, ma, ca, ra, rfl, rfl, xa, ya, ba, hl⟩; have y3 := hl)
            | (go_at_call 14; (with_reducible refine (MSR.out _ (by assumption)).mono ?_); rintro e w5 ⟨gb, mb, cb, rb, rfl, rfl, xb, yb, bb, hl⟩; have y5 := hl)
            | (go_at_call 16; (with_reducible refine (HSR.out _ (by assumption)).mono ?_); rintro e w7 ⟨gc, mc, cc, rc, rfl, rfl, xc, yc, bc, hl⟩; have y7 := hl)
            | (go_at_call 42; (with_reducible refine (F1.out _ _ _ _ ba xa).mono ?_); rintro e w4 ⟨i1, u1, r1, rfl, vx, vy, k1, hl⟩; have y4 := hl)
            | (go_at_call 42; (with_reducible refine (F2.out _ _ _ _ bb xb).mono ?_); rintro e w6 ⟨i2, u2, r2, rfl, vx2, vy2, k2, hl⟩; have y6 := hl)
            | (go_at_call 42; (with_reducible refine (F3.out _ _ _ _ bc xc).mono ?_); rintro e w8 ⟨i3, u3, r3, rfl, vx3, vy3, k3, hl⟩; have y8 := hl)
            | (go_at_call 41; have e1 := on (on (on (on k1 y5) y6) y7) y8; have e2 := on (on k2 y7) y8; (with_reducible refine (RR.out _ _ _ _ _ _ _ _ _ _ e1 e2 k3).mono ?_); rintro e w9 ⟨g1, u1, r1, g2, u2, r2, g3, u3, r3, rfl, hb1, hb2, hb3, hg, h12, h23, hl⟩; have y9 := hl; have HR := (keptS (by assumption) hl).1.2; have p0 := HR.cell 0 (by decide); have f0 := HR.free 0; have p1 := HR.cell 1 (by decide); have f1 := HR.free 1; have p2 := HR.cell 2 (by decide); have f2 := HR.free 2; have p3 := HR.cell 3 (by decide); have f3 := HR.free 3; have p4 := HR.cell 4 (by decide); have f4 := HR.free 4; have p5 := HR.cell 5 (by decide); have f5 := HR.free 5; have p6 := HR.cell 6 (by decide); have f6 := HR.free 6; have p7 := HR.cell 7 (by decide); have f7 := HR.free 7; have p8 := HR.cell 8 (by decide); have f8 := HR.free 8; have p9 := HR.cell 9 (by decide); have f9 := HR.free 9; have p10 := HR.cell 10 (by decide); have f10 := HR.free 10; have p11 := HR.cell 11 (by decide); have f11 := HR.free 11; clear HR)
            | fail)
        rename_i hH
        have a0 : Below w.heap.size w w2.drew := L2.out.drew
        have a1 := a0.trans (y3.mono a0.size)
        have a2 := a1.trans (y4.mono a1.size)
        have a3 := a2.trans (y5.mono a2.size)
        have a4 := a3.trans (y6.mono a3.size)
        have a5 := a4.trans (y7.mono a4.size)
        have a6 := a5.trans (y8.mono a5.size)
        have a7 := a6.trans (y9.mono a6.size)
        have RA : RB w9 (w.heap.size + 1 + 1) := by
          have b0 : RB w2.drew (w.heap.size + 1 + 1) := ⟨_, rfl, R2.out⟩
          exact ((((((b0.below y3).below y4).below y5).below y6).below y7).below y8).below y9
        have G4 : w.heap.size + 1 + 1 < g1 := Nat.lt_of_lt_of_le (Nat.lt_of_lt_of_le (Nat.lt_of_lt_of_le (Nat.lt_of_lt_of_le (Nat.lt_of_lt_of_le (Nat.lt_of_lt_of_le (Nat.lt_of_lt_of_le (show w.heap.size + 1 + 1 < w2.drew.heap.size from R2.out.lt) y3.size) y4.size) y5.size) y6.size) y7.size) y8.size) hg
        have F := Lib.hid (RA.fil (rph h 0 true) (.slice (some ⟨g1, 0, none⟩) (m8 J1.length) u1) (.slice (some ⟨g2, 0, none⟩) (m8 J2.length) u2) (.slice (some ⟨g3, 0, none⟩) (m8 J3.length) u3))
        have E := Lib.hid (filM_below a7 (g := w.heap.size + 1 + 1) (by omega) (rph h 0 true) (.slice (some ⟨g1, 0, none⟩) (m8 J1.length) u1) (.slice (some ⟨g2, 0, none⟩) (m8 J2.length) u2) (.slice (some ⟨g3, 0, none⟩) (m8 J3.length) u3))
        have I1 := Lib.hid (filM_other hb1 (g := w.heap.size + 1 + 1) (by omega) (rph h 0 true) (.slice (some ⟨g1, 0, none⟩) (m8 J1.length) u1) (.slice (some ⟨g2, 0, none⟩) (m8 J2.length) u2) (.slice (some ⟨g3, 0, none⟩) (m8 J3.length) u3))
        have I2 := Lib.hid (filM_other hb2 (g := w.heap.size + 1 + 1) (by omega) (rph h 0 true) (.slice (some ⟨g1, 0, none⟩) (m8 J1.length) u1) (.slice (some ⟨g2, 0, none⟩) (m8 J2.length) u2) (.slice (some ⟨g3, 0, none⟩) (m8 J3.length) u3))
        have I3 := Lib.hid (filM_other hb3 (g := w.heap.size + 1 + 1) (by omega) (rph h 0 true) (.slice (some ⟨g1, 0, none⟩) (m8 J1.length) u1) (.slice (some ⟨g2, 0, none⟩) (m8 J2.length) u2) (.slice (some ⟨g3, 0, none⟩) (m8 J3.length) u3))
        clear hH SS0 a0 a1 a2 a3 a4 a5 a6 a7 RA R2 L2 y3 y4 y5 y6 y7 y8 y9 hl hb1 hb2 hb3 ba bb bc k1 k2 k3 e1 e2 vx vy vx2 vy2 vx3 vy3 xa ya xb yb xc yc ASR MSR HSR F1 F2 F3 RR p0 f0 p1 f1 p2 f2 p3 f3 p4 f4 p5 f5 p6 f6 p7 f7 p8 f8 p9 f9 p10 f10 p11 f11
        go_wp2
        refine bodyPost_ret (v := .agg #[.int .i64 (rph h 0 true).id, .bool (rph h 0 true).rp, .bool (rph h 0 true).au, .bool (rph h 0 true).ct, .bool (rph h 0 true).wa, .bool (rph h 0 true).ca, .int .i64 (rph h 0 true).code, .string (rph h 0 true).qn, .int .i64 (rph h 0 true).qt, .slice (some ⟨g1, 0, none⟩) (m8 J1.length) u1, .slice (some ⟨g2, 0, none⟩) (m8 J2.length) u2, .slice (some ⟨g3, 0, none⟩) (m8 J3.length) u3]) (res1M rfl F.out rfl) rfl ?_
        unfold GivesS8
        rw [HD.out, HA.out]
        exact ⟨g1, u1, r1, g2, u2, r2, g3, u3, r3, rfl, I1.out, I2.out, I3.out, by omega, h12, h23, E.out⟩

end Go.Proofs.Ytjgmocmaeadjdaa.ServS

/- What KindText does in the model and in the program: the text of a kind of reply, or the empty text. -/
namespace Go.Proofs.Ytjgmocmaeadjdaa.KindT
open Go.RowKit Go.Proofs.Ytjgmocmaeadjdaa.Mem

/-- The text of a kind. -/
def kt (n : Int) : ByteArray := if n = 0 then ⟨#[110, 111, 116]⟩ else if n = 1 then ⟨#[100, 111, 119, 110]⟩ else if n = 2 then ⟨#[97, 108, 105, 97, 115]⟩ else if n = 3 then ⟨#[115, 101, 116]⟩ else if n = 4 then ⟨#[110, 111, 100, 97, 116, 97]⟩ else if n = 5 then ⟨#[110, 111, 110, 97, 109, 101]⟩ else ⟨#[]⟩

theorem in6 {n : Int} (h : 0 ≤ n ∧ n ≤ 5) : n = 0 ∨ n = 1 ∨ n = 2 ∨ n = 3 ∨ n = 4 ∨ n = 5 := by omega

theorem kt_out {n : Int} (h : ¬ (0 ≤ n ∧ n ≤ 5)) : kt n = ⟨#[]⟩ := by
  unfold kt
  rw [if_neg (by omega), if_neg (by omega), if_neg (by omega), if_neg (by omega), if_neg (by omega), if_neg (by omega)]

theorem l1In_kt (x a b : Int) (w : World) : Calls Try.prog 44 #[.int .i64 x, .int .i64 a, .int .i64 b] w fun e w' => e = .returned (.bool (decide (a ≤ x ∧ x ≤ b))) ∧ w = w' := by
  by_cases h1 : a ≤ x
  · by_cases h2 : x ≤ b
    · rw [show decide (a ≤ x ∧ x ≤ b) = true from decide_eq_true ⟨h1, h2⟩]
      go_enter Try.func44, Try.ntmps44
      go_wp2
      go_ret
      exact ⟨rfl, rfl⟩
    · rw [show decide (a ≤ x ∧ x ≤ b) = false from decide_eq_false (fun h => h2 h.2)]
      go_enter Try.func44, Try.ntmps44
      go_wp2
      go_ret
      exact ⟨rfl, rfl⟩
  · rw [show decide (a ≤ x ∧ x ≤ b) = false from decide_eq_false (fun h => h1 h.1)]
    go_enter Try.func44, Try.ntmps44
    go_wp2
    go_ret
    exact ⟨rfl, rfl⟩

theorem upTo_kt (x b : Int) (w : World) : Calls Try.prog 43 #[.int .i64 x, .int .i64 b] w fun e w' => e = .returned (.bool (decide (0 ≤ x ∧ x ≤ b))) ∧ w = w' := by
  by_cases h1 : 0 ≤ x
  · by_cases h2 : x ≤ b
    · rw [show decide (0 ≤ x ∧ x ≤ b) = true from decide_eq_true ⟨h1, h2⟩]
      go_enter Try.func43, Try.ntmps43
      go_wp2
      go_ret
      exact ⟨rfl, rfl⟩
    · rw [show decide (0 ≤ x ∧ x ≤ b) = false from decide_eq_false (fun h => h2 h.2)]
      go_enter Try.func43, Try.ntmps43
      go_wp2
      go_ret
      exact ⟨rfl, rfl⟩
  · rw [show decide (0 ≤ x ∧ x ≤ b) = false from decide_eq_false (fun h => h1 h.1)]
    go_enter Try.func43, Try.ntmps43
    go_wp2
    go_ret
    exact ⟨rfl, rfl⟩

set_option maxRecDepth 100000 in
set_option maxHeartbeats 2000000 in
theorem spec (n : Int) (w : World) : Calls Try.prog 21 #[.int .i64 n] w fun e w' => e = .returned (.string (kt n)) ∧ Below w.heap.size w w' := by
  have C := Lib.hid (fun W => l1In_kt n 0 5 W)
  have L0 : Hid (Below w.heap.size w (w.alloc (.cells #[.string ⟨#[110, 111, 116]⟩, .string ⟨#[100, 111, 119, 110]⟩, .string ⟨#[97, 108, 105, 97, 115]⟩, .string ⟨#[115, 101, 116]⟩, .string ⟨#[110, 111, 100, 97, 116, 97]⟩, .string ⟨#[110, 111, 110, 97, 109, 101]⟩] 9))) := (Below.refl _ _).alloc (Nat.le_refl _) _
  by_cases h : 0 ≤ n ∧ n ≤ 5
  · rw [decide_eq_true h] at C
    rcases in6 h with rfl | rfl | rfl | rfl | rfl | rfl
    all_goals
      clear h
      go_enter Try.func21, Try.ntmps21
      go_wp2_with fail
      refine (C.out _).mono ?_
      rintro e w1 ⟨rfl, rfl⟩
      go_wp2
      go_ret
      exact ⟨rfl, L0.out⟩
  · have hk := kt_out h
    rw [decide_eq_false h] at C
    have HK := Lib.hid hk
    clear h hk
    go_enter Try.func21, Try.ntmps21
    go_wp2_with fail
    refine (C.out _).mono ?_
    rintro e w1 ⟨rfl, rfl⟩
    go_wp2
    go_ret
    exact ⟨congrArg (fun b => Ending.returned (Value.string b)) HK.out.symm, L0.out⟩

set_option maxRecDepth 100000 in
set_option maxHeartbeats 2000000 in
theorem impl (n : Int) (w : World) : Calls Try.prog 20 #[.int .i64 n] w fun e w' => e = .returned (.string (kt n)) ∧ Below w.heap.size w w' := by
  have C := Lib.hid (fun W => upTo_kt n 5 W)
  have L0 : Hid (Below w.heap.size w (w.alloc (.cells #[.string ⟨#[110, 111, 116]⟩, .string ⟨#[100, 111, 119, 110]⟩, .string ⟨#[97, 108, 105, 97, 115]⟩, .string ⟨#[115, 101, 116]⟩, .string ⟨#[110, 111, 100, 97, 116, 97]⟩, .string ⟨#[110, 111, 110, 97, 109, 101]⟩] 66))) := (Below.refl _ _).alloc (Nat.le_refl _) _
  by_cases h : 0 ≤ n ∧ n ≤ 5
  · rw [decide_eq_true h] at C
    rcases in6 h with rfl | rfl | rfl | rfl | rfl | rfl
    all_goals
      clear h
      go_enter Try.func20, Try.ntmps20
      go_wp2_with fail
      refine (C.out _).mono ?_
      rintro e w1 ⟨rfl, rfl⟩
      go_wp2
      go_ret
      exact ⟨rfl, L0.out⟩
  · have hk := kt_out h
    rw [decide_eq_false h] at C
    have HK := Lib.hid hk
    clear h hk
    go_enter Try.func20, Try.ntmps20
    go_wp2_with fail
    refine (C.out _).mono ?_
    rintro e w1 ⟨rfl, rfl⟩
    go_wp2
    go_ret
    exact ⟨congrArg (fun b => Ending.returned (Value.string b)) HK.out.symm, L0.out⟩

end Go.Proofs.Ytjgmocmaeadjdaa.KindT
