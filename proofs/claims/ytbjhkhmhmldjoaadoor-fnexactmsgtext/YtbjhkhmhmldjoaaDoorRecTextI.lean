/- What the program's RecordText does. -/
import Derived.Test.YtbjhkhmhmldjoaaDoorRecText
import Derived.Deep.RegionHeld3
namespace Go.Proofs.YtbjhkhmhmldjoaaDoor.RecTextI
open Go.RowKit Go.Proofs.YtbjhkhmhmldjoaaDoor.Mem Go.Proofs.YtbjhkhmhmldjoaaDoor.MemS Go.Proofs.YtbjhkhmhmldjoaaDoor.MemR Go.Proofs.YtbjhkhmhmldjoaaDoor.Labels Go.Proofs.YtbjhkhmhmldjoaaDoor.NameOk Go.Proofs.YtbjhkhmhmldjoaaDoor.TextR Go.Proofs.YtbjhkhmhmldjoaaDoor.BoxR Go.Proofs.YtbjhkhmhmldjoaaDoor.RecOk Go.Proofs.YtbjhkhmhmldjoaaDoor.Types Go.Proofs.YtbjhkhmhmldjoaaDoor.Num Go.Proofs.YtbjhkhmhmldjoaaDoor.RecText

/-- Nothing of w has been turned. A def, so that no step of a walk opens it. -/
def Sv (w w' : World) : Prop := Below w.heap.size w w'
/-- What is kept through the region: the box of the record, and that nothing of w has been turned. -/
theorem kept {w w1 w2 : World} {g : Nat} {r : Rec} (h : (w1.cell? ⟨g, 0, none⟩ = some (.string r.name) ∧ w1.cell? ⟨g, 1, none⟩ = some (.int .i64 r.ty) ∧ w1.cell? ⟨g, 2, none⟩ = some (.int .i64 r.ttl) ∧ w1.cell? ⟨g, 3, none⟩ = some (.int .i64 r.n) ∧ w1.cell? ⟨g, 4, none⟩ = some (.string r.host) ∧ w1.cell? ⟨g, 5, none⟩ = some (.string r.text)) ∧ Sv w w1) (hl : Below w1.heap.size w1 w2) : (w2.cell? ⟨g, 0, none⟩ = some (.string r.name) ∧ w2.cell? ⟨g, 1, none⟩ = some (.int .i64 r.ty) ∧ w2.cell? ⟨g, 2, none⟩ = some (.int .i64 r.ttl) ∧ w2.cell? ⟨g, 3, none⟩ = some (.int .i64 r.n) ∧ w2.cell? ⟨g, 4, none⟩ = some (.string r.host) ∧ w2.cell? ⟨g, 5, none⟩ = some (.string r.text)) ∧ Sv w w2 :=
  ⟨(show Bx w2 g r from (show Bx w1 g r from h.1).below hl), (show Below w.heap.size w w1 from h.2).trans (hl.mono (show Below w.heap.size w w1 from h.2).size)⟩
theorem kept_draw {w w1 : World} {g : Nat} {r : Rec} (h : (w1.cell? ⟨g, 0, none⟩ = some (.string r.name) ∧ w1.cell? ⟨g, 1, none⟩ = some (.int .i64 r.ty) ∧ w1.cell? ⟨g, 2, none⟩ = some (.int .i64 r.ttl) ∧ w1.cell? ⟨g, 3, none⟩ = some (.int .i64 r.n) ∧ w1.cell? ⟨g, 4, none⟩ = some (.string r.host) ∧ w1.cell? ⟨g, 5, none⟩ = some (.string r.text)) ∧ Sv w w1) : (w1.drew.cell? ⟨g, 0, none⟩ = some (.string r.name) ∧ w1.drew.cell? ⟨g, 1, none⟩ = some (.int .i64 r.ty) ∧ w1.drew.cell? ⟨g, 2, none⟩ = some (.int .i64 r.ttl) ∧ w1.drew.cell? ⟨g, 3, none⟩ = some (.int .i64 r.n) ∧ w1.drew.cell? ⟨g, 4, none⟩ = some (.string r.host) ∧ w1.drew.cell? ⟨g, 5, none⟩ = some (.string r.text)) ∧ Sv w w1.drew := kept h ((Below.refl _ _).drew)
theorem kept_alloc {w w1 : World} {g : Nat} {r : Rec} (h : (w1.cell? ⟨g, 0, none⟩ = some (.string r.name) ∧ w1.cell? ⟨g, 1, none⟩ = some (.int .i64 r.ty) ∧ w1.cell? ⟨g, 2, none⟩ = some (.int .i64 r.ttl) ∧ w1.cell? ⟨g, 3, none⟩ = some (.int .i64 r.n) ∧ w1.cell? ⟨g, 4, none⟩ = some (.string r.host) ∧ w1.cell? ⟨g, 5, none⟩ = some (.string r.text)) ∧ Sv w w1) (o : Obj) : ((w1.alloc o).cell? ⟨g, 0, none⟩ = some (.string r.name) ∧ (w1.alloc o).cell? ⟨g, 1, none⟩ = some (.int .i64 r.ty) ∧ (w1.alloc o).cell? ⟨g, 2, none⟩ = some (.int .i64 r.ttl) ∧ (w1.alloc o).cell? ⟨g, 3, none⟩ = some (.int .i64 r.n) ∧ (w1.alloc o).cell? ⟨g, 4, none⟩ = some (.string r.host) ∧ (w1.alloc o).cell? ⟨g, 5, none⟩ = some (.string r.text)) ∧ Sv w (w1.alloc o) := kept h ((Below.refl _ _).alloc (Nat.le_refl _) _)

theorem join4 (a b c d : ByteArray) : Lib.join ([a, b, c, d].map (·.data.toList)) [32] = (a ++ ⟨#[32]⟩ ++ b ++ ⟨#[32]⟩ ++ c ++ ⟨#[32]⟩ ++ d).data.toList := by
  simp [Lib.join, List.intercalate]

/-- strings.Join of four words with a blank between them. -/
theorem words (W : World) (g : Nat) (a b c d : ByteArray) (hb : Bk W g 9 [.string a, .string b, .string c, .string d]) (ha : a.size ≤ 1000) (hb' : b.size ≤ 1000) (hc : c.size ≤ 1000) (hd : d.size ≤ 1000) :
    Calls Tryd.prog 53 #[.slice (some ⟨g, 0, none⟩) 4 4, .string ⟨#[32]⟩] W fun e w' => e = .returned (.string (a ++ ⟨#[32]⟩ ++ b ++ ⟨#[32]⟩ ++ c ++ ⟨#[32]⟩ ++ d)) ∧ Below W.heap.size W w' := by
  have hs := bk_ssw0 (l := [a, b, c, d]) (n := 4) hb rfl
  obtain ⟨b', off, hA, hlt, hcs⟩ := hs.2 (by omega)
  simp only [Option.some.injEq, Addr.mk.injEq, and_true] at hA
  obtain ⟨rfl, rfl⟩ := hA
  have e : (⟨(Lib.join ([a, b, c, d].map (·.data.toList)) [32]).toArray⟩ : ByteArray) = a ++ ⟨#[32]⟩ ++ b ++ ⟨#[32]⟩ ++ c ++ ⟨#[32]⟩ ++ d := text_ext (by rw [← join4])
  rw [← e]
  refine Go.Proofs.Any.strings_Join Tryd.lays156 Tryd.Builder_Extra_156 g 0 4 [a, b, c, d] ⟨#[32]⟩ W (fun j x hx => by
    obtain ⟨hj, rfl⟩ := List.getElem?_eq_some_iff.1 hx
    exact hcs j hj) hlt (by simp) (by simp) ?_
  show (Lib.join ([a, b, c, d].map (·.data.toList)) [32]).length ≤ _
  rw [join4]
  have z : ∀ x : ByteArray, x.data.toList.length = x.size := fun x => by simp
  rw [z, add_size, add_size, add_size, add_size, add_size, add_size, one_size]
  omega

set_option maxHeartbeats 4000000 in
theorem impl (r : Rec) (w : World) (he : Env w) (ht : Tab w) (hr : Mod r) : Calls Tryd.prog 18 #[.agg #[.string r.name, .int .i64 r.ty, .int .i64 r.ttl, .int .i64 r.n, .string r.host, .string r.text]] w fun e w' => e = .returned (.string (rtx r)) ∧ Below w.heap.size w w' := by
  have HE := Lib.hid he
  have HT := Lib.hid ht
  have HR := Lib.hid hr
  clear hr he ht
  have L0 := Lib.hid ((Below.refl w.heap.size w).alloc (Nat.le_refl _) (.cells #[.string r.name, .int .i64 r.ty, .int .i64 r.ttl, .int .i64 r.n, .string r.host, .string r.text] 25))
  have X0 := Lib.hid (bx_new w 25 r)
  cases hk : rok r
  · have HV : Hid (rtx r = ⟨#[]⟩) := if_neg (by rw [hk]; simp)
    have HK := Lib.hid hk
    clear hk
    go_enter Tryd.func18, Tryd.ntmps18
    go_wp2_with fail
    refine (RecOk.impl r _ (HE.out.below L0.out) HR.out).mono ?_
    rw [HK.out]
    rintro e w1 ⟨rfl, hl⟩
    have L1 := Lib.hid (L0.out.trans (hl.mono L0.out.size))
    clear hl L0 X0
    go_wp2
    go_ret
    exact ⟨by rw [HV.out]; rfl, L1.out⟩
  · have HV : Hid (rtx r = pre r ++ dtx r.ty r.n r.host r.text) := if_pos hk
    obtain ⟨⟨q0, q1⟩, ⟨q2, q3⟩, z1, z2, z3, hy⟩ := rok_of hk
    have HK := Lib.hid hk
    clear hk
    have WT := Lib.hid (wf_of q0 (by omega))
    have HY := Lib.hid hy
    have zt := txt_size q0 (by omega)
    have zn := txt_size q2 q3
    have QN : Hid (0 ≤ r.n ∧ r.n ≤ 2147483647) := ⟨q2, q3⟩
    have ZZ : Hid (r.host.size ≤ 50 ∧ r.text.size ≤ 12) := ⟨z2, z3⟩
    clear q0 q1 q2 q3 hy z2 z3
    go_enter Tryd.func18, Tryd.ntmps18
    go_wp2_with fail
    refine (RecOk.impl r _ (HE.out.below L0.out) HR.out).mono ?_
    rw [HK.out]
    rintro e w1 ⟨rfl, hl⟩
    have L1 := Lib.hid (L0.out.trans (hl.mono L0.out.size))
    have X1 := Lib.hid (X0.out.below hl)
    clear hl L0 X0
    go_wp2_with fail
    have DI := Lib.hid (fun W (h : Sv w W) => RecText.data r W (HT.out.below h) ZZ.out.1 ZZ.out.2 QN.out.1 QN.out.2 HY.out)
    have NI := Lib.hid (fun W (h : Sv w W) => Num.impl r.ttl WT.out W (HT.out.below h))
    have S0 : (w1.cell? ⟨w.heap.size, 0, none⟩ = some (.string r.name) ∧ w1.cell? ⟨w.heap.size, 1, none⟩ = some (.int .i64 r.ty) ∧ w1.cell? ⟨w.heap.size, 2, none⟩ = some (.int .i64 r.ttl) ∧ w1.cell? ⟨w.heap.size, 3, none⟩ = some (.int .i64 r.n) ∧ w1.cell? ⟨w.heap.size, 4, none⟩ = some (.string r.host) ∧ w1.cell? ⟨w.heap.size, 5, none⟩ = some (.string r.text)) ∧ Sv w w1 := ⟨X1.out, L1.out⟩
    go_region_held3 (fun w' => (w'.cell? ⟨w.heap.size, 0, none⟩ = some (.string r.name) ∧ w'.cell? ⟨w.heap.size, 1, none⟩ = some (.int .i64 r.ty) ∧ w'.cell? ⟨w.heap.size, 2, none⟩ = some (.int .i64 r.ttl) ∧ w'.cell? ⟨w.heap.size, 3, none⟩ = some (.int .i64 r.n) ∧ w'.cell? ⟨w.heap.size, 4, none⟩ = some (.string r.host) ∧ w'.cell? ⟨w.heap.size, 5, none⟩ = some (.string r.text)) ∧ Sv w w')
      (first | exact S0 | assumption | exact kept (by assumption) hl | exact kept_alloc (by assumption) _ | exact kept_draw (by assumption))
      (first
        | (go_at_call 49; refine (dot_impl r.name _).mono ?_; rintro e w11 ⟨rfl, rfl⟩)
        | (go_at_call 51; refine (impl_text r.ty _).mono ?_; rintro e w12 ⟨rfl, rfl⟩)
        | (go_at_call 50; refine (NI.out _ (And.right (by assumption))).mono ?_; rintro e w13 ⟨rfl, hl⟩)
        | (go_at_call 52; refine (DI.out _ (And.right (by assumption))).mono ?_; rintro e w14 ⟨rfl, hl⟩))
    rename_i hH
    have L2 := Lib.hid (show Below w.heap.size w _ from hH.2)
    have d1 := dot_size r.name
    have d3 := tt_size r.ty
    have d4 := dtx_size r.ty r.n r.host r.text zn ZZ.out.1 ZZ.out.2
    have HF : Hid (dot r.name ++ ⟨#[32]⟩ ++ Txt r.ttl ++ ⟨#[32]⟩ ++ tt r.ty ++ ⟨#[32]⟩ ++ dtx r.ty r.n r.host r.text = rtx r) := HV.out.symm
    have B2 := Lib.hid (show Bk (w14.alloc (.cells #[.string (dot r.name), .string (Txt r.ttl), .string (tt r.ty), .string (dtx r.ty r.n r.host r.text)] 9)) w14.heap.size 9 [.string (dot r.name), .string (Txt r.ttl), .string (tt r.ty), .string (dtx r.ty r.n r.host r.text)] from heap_alloc_new _ _)
    clear S0 hH
    generalize w14.alloc (.cells #[.string (dot r.name), .string (Txt r.ttl), .string (tt r.ty), .string (dtx r.ty r.n r.host r.text)] 9) = wq at *
    go_wp2_with fail
    refine (words wq w14.heap.size _ _ _ _ B2.out (by omega) (by omega) (by omega) (by omega)).mono ?_
    rw [HF.out]
    rintro e w15 ⟨rfl, hl⟩
    have L3 := Lib.hid (L2.out.trans (hl.mono L2.out.size))
    clear hl
    go_wp2
    go_ret
    exact ⟨rfl, L3.out⟩

end Go.Proofs.YtbjhkhmhmldjoaaDoor.RecTextI
