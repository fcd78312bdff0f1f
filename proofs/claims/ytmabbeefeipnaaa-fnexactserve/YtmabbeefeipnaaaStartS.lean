/- What StartOf does in the model: the first record of the start's type, or a record with nothing in it. Condition: fewer than 400000001 records. -/
import Derived.Test.YtmabbeefeipnaaaZoneMath
import Derived.Test.YtmabbeefeipnaaaMemZ
import Derived.Test.YtmabbeefeipnaaaResR
namespace Go.Proofs.Ytmabbeefeipnaaa.StartS
open Go.RowKit Go.Proofs.Ytmabbeefeipnaaa.Mem Go.Proofs.Ytmabbeefeipnaaa.MemR Go.Proofs.Ytmabbeefeipnaaa.SetMath Go.Proofs.Ytmabbeefeipnaaa.ZoneMath Go.Proofs.Ytmabbeefeipnaaa.MemZ Go.Proofs.Ytmabbeefeipnaaa.ResR

theorem box2 {w : World} {a : Obj} {cs : Array Value} {t : TypeId} : Bk ((w.alloc a).alloc (.cells cs t)) (w.heap.size + 1) t cs.toList := by
  have := heap_alloc_new (w.alloc a) (.cells cs t)
  rw [show (w.alloc a).heap.size = w.heap.size + 1 by simp] at this
  exact this

set_option maxRecDepth 100000 in
set_option maxHeartbeats 8000000 in
theorem spec (s : ByteArray) (b0 o0 n c : Nat) (l : List Rec) (w : World) (hs : Sr w w.heap.size (some ⟨b0, o0, none⟩) n l) (hn : n ≤ 400000000) :
    Calls Try.prog 48 #[.agg #[.string s, .slice (some ⟨b0, o0, none⟩) n c]] w fun e w' => e = .returned (.agg #[.string ((st l)).name, .int .i64 ((st l)).ty, .int .i64 ((st l)).ttl, .int .i64 ((st l)).n, .string ((st l)).host, .string ((st l)).text]) ∧ Below w.heap.size w w' := by
  have Z0 := Lib.hid ((zx_new w 32 s (.slice (some ⟨b0, o0, none⟩) n c)).alloc (.cells #[.string ⟨#[]⟩, .int .i64 0, .int .i64 0, .int .i64 0, .string ⟨#[]⟩, .string ⟨#[]⟩] 68))
  have R0 := Lib.hid (box2 (w := w) (a := .cells #[.string s, .slice (some ⟨b0, o0, none⟩) n c] 32) (cs := #[.string ⟨#[]⟩, .int .i64 0, .int .i64 0, .int .i64 0, .string ⟨#[]⟩, .string ⟨#[]⟩]) (t := 68))
  have L0 := Lib.hid (((Below.refl w.heap.size w).alloc (Nat.le_refl _) (.cells #[.string s, .slice (some ⟨b0, o0, none⟩) n c] 32)).alloc (by simp) (.cells #[.string ⟨#[]⟩, .int .i64 0, .int .i64 0, .int .i64 0, .string ⟨#[]⟩, .string ⟨#[]⟩] 68))
  have HS := Lib.hid hs
  clear hs
  go_enter Try.func48, Try.ntmps48
  go_wp2
  generalize (w.alloc (.cells #[.string s, .slice (some ⟨b0, o0, none⟩) n c] 32)).alloc (.cells #[.string ⟨#[]⟩, .int .i64 0, .int .i64 0, .int .i64 0, .string ⟨#[]⟩, .string ⟨#[]⟩] 68) = w0 at *
  go_loopw [3] (fun i wr => ∃ k : Nat, k ≤ n ∧ i = .int .i64 k ∧ wr = w0 ∧ Hid (∀ r ∈ l.take k, r.ty ≠ 6)) (fun i _ => n - (intOf i).toNat)
  case atStart => exact ⟨0, Nat.zero_le _, rfl, rfl, fun r hr => by simp at hr⟩
  case round =>
    obtain ⟨k, hk, rfl, rfl, HE⟩ := hrel
    obtain ⟨z0, z1⟩ := Z0.out
    have r0 : wr.cell? ⟨w.heap.size + 1, 0, none⟩ = some (.string ⟨#[]⟩) := R0.out.cell 0
    have r1 : wr.cell? ⟨w.heap.size + 1, 1, none⟩ = some (.int .i64 0) := R0.out.cell 1
    have r2 : wr.cell? ⟨w.heap.size + 1, 2, none⟩ = some (.int .i64 0) := R0.out.cell 2
    have r3 : wr.cell? ⟨w.heap.size + 1, 3, none⟩ = some (.int .i64 0) := R0.out.cell 3
    have r4 : wr.cell? ⟨w.heap.size + 1, 4, none⟩ = some (.string ⟨#[]⟩) := R0.out.cell 4
    have r5 : wr.cell? ⟨w.heap.size + 1, 5, none⟩ = some (.string ⟨#[]⟩) := R0.out.cell 5
    have q0 := R0.out.free 0
    have q1 := R0.out.free 1
    have q2 := R0.out.free 2
    have q3 := R0.out.free 3
    have q4 := R0.out.free 4
    have q5 := R0.out.free 5
    by_cases hlt : k < n
    · obtain ⟨b, off, hA, hbB, hcs⟩ := HS.out.2 (by omega)
      obtain ⟨rfl, rfl⟩ : b0 = b ∧ o0 = off := by simp at hA; exact hA
      clear hA
      have hkl : k < l.length := by rw [HS.out.1]; exact hlt
      obtain ⟨e0, e1, e2, e3, e4, e5⟩ := (hcs k hkl).below L0.out hbB
      clear hcs
      have HH := Lib.hid (fun e => st_hit l k hkl e HE.out)
      have HN := Lib.hid (fun e => st_next l k hkl e HE.out)
      generalize l[k] = r at *
      by_cases hty : r.ty = 6
      · have HF := Lib.hid (HH.out hty)
        have t0 : (r.ty == 6) = true := by simpa using hty
        clear hty HH HN
        have F := Lib.hid (fil_bk (r0 := zr) R0.out r)
        have E := Lib.hid (fil_below L0.out (g := w.heap.size + 1) (by omega) r)
        go_wp2
        exact bodyPost_ret (v := .agg #[.string r.name, .int .i64 r.ty, .int .i64 r.ttl, .int .i64 r.n, .string r.host, .string r.text]) (res1 rfl F.out rfl) rfl ⟨by rw [HF.out], E.out⟩
      · have HF := Lib.hid (HN.out hty)
        have t0 : (r.ty == 6) = false := by simpa using hty
        clear hty HH HN
        go_wp2
        go_roundw
        case rel => exact ⟨k + 1, by omega, by go_num, trivial, HF.out⟩
        case measure => simp [intOf]; omega
    · obtain rfl : n = k := by omega
      have HF := Lib.hid (st_none l (by rw [take_all HS.out.1] at HE; exact HE.out))
      have F := Lib.hid (fil_bk (r0 := zr) R0.out zr)
      have E := Lib.hid (fil_below L0.out (g := w.heap.size + 1) (by omega) zr)
      go_wp2
      exact bodyPost_ret (v := .agg #[.string zr.name, .int .i64 zr.ty, .int .i64 zr.ttl, .int .i64 zr.n, .string zr.host, .string zr.text]) (res1 rfl F.out rfl) rfl ⟨by rw [HF.out], E.out⟩
end Go.Proofs.Ytmabbeefeipnaaa.StartS
