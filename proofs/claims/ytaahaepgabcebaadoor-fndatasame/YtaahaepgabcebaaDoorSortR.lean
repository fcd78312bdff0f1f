/- What compareRecords, slices.SortStableFunc and SortRecords do in the program: a new slice with the same records in order. Conditions: fewer than 400000001 records, at most 400000000 bytes in each name and host; the library's variable internal/bytealg.MaxLen holds an int. -/
import Derived.Test.YtaahaepgabcebaaDoorStabK
import Derived.Test.YtaahaepgabcebaaDoorSrtMath
import Derived.Test.YtaahaepgabcebaaDoorBoxR
import Derived.Test.YtaahaepgabcebaaDoorCopyR
namespace Go.Proofs.YtaahaepgabcebaaDoor.SortR
open Go.RowKit Go.Proofs.YtaahaepgabcebaaDoor.Mem Go.Proofs.YtaahaepgabcebaaDoor.MemR Go.Proofs.YtaahaepgabcebaaDoor.Labels Go.Proofs.YtaahaepgabcebaaDoor.LessR Go.Proofs.YtaahaepgabcebaaDoor.LessMath Go.Proofs.YtaahaepgabcebaaDoor.SrtMath Go.Proofs.YtaahaepgabcebaaDoor.BoxR

/-- What a comparison answers. -/
def cmpr (a b : Rec) : Int := if lr a b = true then -1 else if lr b a = true then 1 else 0
theorem cmpr_lt (a b : Rec) : decide (cmpr a b < 0) = lr a b := by
  unfold cmpr
  cases h : lr a b
  · rw [if_neg (by simp)]
    cases k : lr b a
    · rw [if_neg (by simp)]; rfl
    · rw [if_pos rfl]; rfl
  · rw [if_pos rfl]; rfl

set_option maxHeartbeats 4000000 in
theorem compare (a b : Rec) (w : World) (he : Env w) (ha : Fine a) (hb : Fine b) : Calls Tryd.prog 36 #[.agg #[.string a.name, .int .i64 a.ty, .int .i64 a.ttl, .int .i64 a.n, .string a.host, .string a.text], .agg #[.string b.name, .int .i64 b.ty, .int .i64 b.ttl, .int .i64 b.n, .string b.host, .string b.text]] w fun e w' => e = .returned (.int .i64 (cmpr a b)) ∧ Below w.heap.size w w' := by
  have HE := Lib.hid he
  have FA := Lib.hid ha
  have FB := Lib.hid hb
  clear he ha hb
  have L0 := Lib.hid (boxed w (.cells #[.string a.name, .int .i64 a.ty, .int .i64 a.ttl, .int .i64 a.n, .string a.host, .string a.text] 49) (.cells #[.string b.name, .int .i64 b.ty, .int .i64 b.ttl, .int .i64 b.n, .string b.host, .string b.text] 49))
  have X0 := Lib.hid ((bx_new w 49 a).alloc (.cells #[.string b.name, .int .i64 b.ty, .int .i64 b.ttl, .int .i64 b.n, .string b.host, .string b.text] 49))
  have Y0 := Lib.hid (bx_new (w.alloc (.cells #[.string a.name, .int .i64 a.ty, .int .i64 a.ttl, .int .i64 a.n, .string a.host, .string a.text] 49)) 49 b)
  have hsz : (w.alloc (.cells #[.string a.name, .int .i64 a.ty, .int .i64 a.ttl, .int .i64 a.n, .string a.host, .string a.text] 49)).heap.size = w.heap.size + 1 := by simp
  rw [hsz] at Y0
  clear hsz
  cases h : lr a b
  · have HL := Lib.hid h
    clear h
    cases k : lr b a
    · have HK := Lib.hid k
      have HV : Hid (cmpr a b = 0) := by show _ = _; unfold cmpr; rw [HL.out, HK.out]; rfl
      clear k
      go_enter Tryd.func36, Tryd.ntmps36
      go_wp2_with fail
      refine (LessR.impl a b _ (HE.out.below L0.out) FA.out FB.out).mono ?_
      rw [HL.out]
      rintro e w1 ⟨rfl, hl⟩
      have L1 := Lib.hid (L0.out.trans (hl.mono L0.out.size))
      obtain ⟨x0, x1, x2, x3, x4, x5⟩ := X0.out.below hl
      obtain ⟨y0, y1, y2, y3, y4, y5⟩ := Y0.out.below hl
      clear hl L0 X0 Y0
      go_wp2_with fail
      refine (LessR.impl b a w1 (HE.out.below L1.out) FB.out FA.out).mono ?_
      rw [HK.out]
      rintro e w2 ⟨rfl, hl⟩
      have L2 := Lib.hid (L1.out.trans (hl.mono L1.out.size))
      clear hl L1 x0 x1 x2 x3 x4 x5 y0 y1 y2 y3 y4 y5
      go_wp2
      go_ret
      exact ⟨by rw [HV.out]; rfl, L2.out⟩
    · have HK := Lib.hid k
      have HV : Hid (cmpr a b = 1) := by show _ = _; unfold cmpr; rw [HL.out, HK.out]; rfl
      clear k
      go_enter Tryd.func36, Tryd.ntmps36
      go_wp2_with fail
      refine (LessR.impl a b _ (HE.out.below L0.out) FA.out FB.out).mono ?_
      rw [HL.out]
      rintro e w1 ⟨rfl, hl⟩
      have L1 := Lib.hid (L0.out.trans (hl.mono L0.out.size))
      obtain ⟨x0, x1, x2, x3, x4, x5⟩ := X0.out.below hl
      obtain ⟨y0, y1, y2, y3, y4, y5⟩ := Y0.out.below hl
      clear hl L0 X0 Y0
      go_wp2_with fail
      refine (LessR.impl b a w1 (HE.out.below L1.out) FB.out FA.out).mono ?_
      rw [HK.out]
      rintro e w2 ⟨rfl, hl⟩
      have L2 := Lib.hid (L1.out.trans (hl.mono L1.out.size))
      clear hl L1 x0 x1 x2 x3 x4 x5 y0 y1 y2 y3 y4 y5
      go_wp2
      go_ret
      exact ⟨by rw [HV.out]; rfl, L2.out⟩
  · have HL := Lib.hid h
    have HV : Hid (cmpr a b = -1) := by show _ = _; unfold cmpr; rw [HL.out]; rfl
    clear h
    go_enter Tryd.func36, Tryd.ntmps36
    go_wp2_with fail
    refine (LessR.impl a b _ (HE.out.below L0.out) FA.out FB.out).mono ?_
    rw [HL.out]
    rintro e w1 ⟨rfl, hl⟩
    have L1 := Lib.hid (L0.out.trans (hl.mono L0.out.size))
    clear hl L0 X0 Y0
    go_wp2
    go_ret
    exact ⟨by rw [HV.out]; rfl, L1.out⟩

end Go.Proofs.YtaahaepgabcebaaDoor.SortR
