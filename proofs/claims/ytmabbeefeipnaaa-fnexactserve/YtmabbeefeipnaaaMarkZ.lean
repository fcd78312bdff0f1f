/- What the law's own helper markZone does on a zone with a slice of its own: every field of every record is overwritten by a mark of its own. -/
import Derived.Test.YtmabbeefeipnaaaMarkR
import Derived.Test.YtmabbeefeipnaaaMemZ
namespace Go.Proofs.Ytmabbeefeipnaaa.MarkZ
open Go.RowKit Go.Proofs.Ytmabbeefeipnaaa.Mem Go.Proofs.Ytmabbeefeipnaaa.MemR Go.Proofs.Ytmabbeefeipnaaa.BoxR Go.Proofs.Ytmabbeefeipnaaa.MemZ Go.Proofs.Ytmabbeefeipnaaa.MarkR

set_option maxHeartbeats 2000000 in
theorem markZone_one (s : ByteArray) (g n c : Nat) (l : List Rec) (r : List Value) (w : World) (hb : Bk w g 68 (fl l ++ r)) (hl : l.length = n) (hn : n ≤ 2000000) :
    Calls Try.prog 19 #[.agg #[.string s, .slice (some ⟨g, 0, none⟩) n c], .int .i64 1] w fun e w' => e = .returned (.int .i64 (1 + 6 * (n : Int))) ∧ w.grownBy w' (some g) := by
  have X0 := Lib.hid (zx_new w 32 s (.slice (some ⟨g, 0, none⟩) n c))
  have B0 := Lib.hid (hb.alloc (.cells #[.string s, .slice (some ⟨g, 0, none⟩) n c] 32))
  have G0 := Lib.hid (World.grownBy_alloc w (.cells #[.string s, .slice (some ⟨g, 0, none⟩) n c] 32) (some g))
  clear hb
  obtain ⟨x0, x1⟩ := X0.out
  go_enter Try.func19, Try.ntmps19
  go_wp2_with fail
  refine (markRecordS_one g n c l r _ B0.out hl hn).mono ?_
  rintro e w1 ⟨rfl, _, gr⟩
  have G1 := Lib.hid (G0.out.trans gr)
  clear gr B0 X0 G0 x0 x1
  go_wp2
  go_ret
  exact ⟨rfl, G1.out⟩
end Go.Proofs.Ytmabbeefeipnaaa.MarkZ
