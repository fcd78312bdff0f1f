/- What the law's own helper markZone does on a zone with a slice of its own: every field of every record is overwritten by a mark of its own. -/
import Derived.Test.YtkpcanigdppegaaMarkR
import Derived.Test.YtkpcanigdppegaaMemZ
namespace Go.Proofs.Ytkpcanigdppegaa.MarkZ
open Go.RowKit Go.Proofs.Ytkpcanigdppegaa.Mem Go.Proofs.Ytkpcanigdppegaa.MemR Go.Proofs.Ytkpcanigdppegaa.BoxR Go.Proofs.Ytkpcanigdppegaa.MemZ Go.Proofs.Ytkpcanigdppegaa.MarkR

set_option maxHeartbeats 2000000 in
theorem markZone_one (s : ByteArray) (g n c : Nat) (l : List Rec) (r : List Value) (w : World) (hb : Bk w g 36 (fl l ++ r)) (hl : l.length = n) (hn : n ≤ 2000000) :
    Calls Try.prog 27 #[.agg #[.string s, .slice (some ⟨g, 0, none⟩) n c], .int .i64 1] w fun e w' => e = .returned (.int .i64 (1 + 6 * (n : Int))) ∧ w.grownBy w' (some g) := by
  have X0 := Lib.hid (zx_new w 30 s (.slice (some ⟨g, 0, none⟩) n c))
  have B0 := Lib.hid (hb.alloc (.cells #[.string s, .slice (some ⟨g, 0, none⟩) n c] 30))
  have G0 := Lib.hid (World.grownBy_alloc w (.cells #[.string s, .slice (some ⟨g, 0, none⟩) n c] 30) (some g))
  clear hb
  obtain ⟨x0, x1⟩ := X0.out
  go_enter Try.func27, Try.ntmps27
  go_wp2_with fail
  refine (markRecordS_one g n c l r _ B0.out hl hn).mono ?_
  rintro e w1 ⟨rfl, _, gr⟩
  have G1 := Lib.hid (G0.out.trans gr)
  clear gr B0 X0 G0 x0 x1
  go_wp2
  go_ret
  exact ⟨rfl, G1.out⟩
end Go.Proofs.Ytkpcanigdppegaa.MarkZ
