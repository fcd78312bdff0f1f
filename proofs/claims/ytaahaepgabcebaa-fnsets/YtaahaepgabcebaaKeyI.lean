/- What keyOf and KeysOf do in the program: the name and the type of a record; the keys of all records, each once. Condition: fewer than 400000001 records. -/
import Derived.Test.YtaahaepgabcebaaFstQ
namespace Go.Proofs.Ytaahaepgabcebaa.KeyI
open Go.RowKit Go.Proofs.Ytaahaepgabcebaa.Mem Go.Proofs.Ytaahaepgabcebaa.MemR Go.Proofs.Ytaahaepgabcebaa.SetMath Go.Proofs.Ytaahaepgabcebaa.MemQ

set_option maxHeartbeats 1000000 in
theorem keyOf (r : Rec) (w : World) : Calls Try.prog 49 #[.agg #[.string r.name, .int .i64 r.ty, .int .i64 r.ttl, .int .i64 r.n, .string r.host, .string r.text]] w fun e w' => e = .returned (.agg #[.string r.name, .int .i64 r.ty]) ∧ Below w.heap.size w w' := by
  go_enter Try.func49, Try.ntmps49
  go_wp2
  refine bodyPost_ret (v := .agg #[.string r.name, .int .i64 r.ty]) (by simp [results, Try.results49, go_sem]) rfl ⟨rfl, ?_⟩
  repeat (first | exact Below.refl _ _ | refine Below.setCell ?_ (by simp; try omega) _ | refine Below.alloc ?_ (by simp; try omega) _)

set_option maxHeartbeats 4000000 in
theorem impl (b0 o0 n c : Nat) (l : List Rec) (w : World) (hs : Sr w w.heap.size (some ⟨b0, o0, none⟩) n l) (hn : n ≤ 400000000) : Calls Try.prog 15 #[.slice (some ⟨b0, o0, none⟩) n c] w (GivesQ w (uq (kl l))) := by
  have HS := Lib.hid hs
  clear hs
  have P0 := Lib.hid (owns_new w)
  have L0 := Lib.hid ((Below.refl w.heap.size w).alloc (Nat.le_refl _) (.cells #[] 34))
  go_enter Try.func15, Try.ntmps15
  go_wp2
  generalize w.alloc (.cells #[] 34) = w0 at *
  go_loopw [3, 9] (fun out i wr => ∃ k g cap : Nat, k ≤ n ∧ i = .int .i64 k ∧ out = .slice (some ⟨g, 0, none⟩) k cap ∧ Hid (wr.ownsRow w.heap.size 34 2 (.slice (some ⟨g, 0, none⟩) k cap) k (fq (kl (l.take k)))) ∧ Hid (Below w.heap.size w wr)) (fun _ i _ => n - (intOf i).toNat)
  case atStart => exact ⟨0, w.heap.size, 0, Nat.zero_le _, rfl, rfl, P0.out, L0.out⟩
  case round =>
    clear P0 L0
    obtain ⟨k, g, cap, hk, rfl, rfl, HO, HL⟩ := hrel
    by_cases hlt : k < n
    · obtain ⟨b, off, hA, hbB, hcs⟩ := HS.out.2 (by omega)
      obtain ⟨rfl, rfl⟩ : b0 = b ∧ o0 = off := by simp at hA; exact hA
      clear hA
      have hkl : k < l.length := by rw [HS.out.1]; exact hlt
      obtain ⟨e0, e1, e2, e3, e4, e5⟩ := (hcs k hkl).below HL.out hbB
      clear hcs
      have HA := Lib.hid (kl_take l k hkl)
      generalize l[k] = r at *
      have W1 : Hid (Below w.heap.size w (wr.alloc (.cells #[.string r.name, .int .i64 r.ty, .int .i64 r.ttl, .int .i64 r.n, .string r.host, .string r.text] 37))) := HL.out.alloc HL.out.size _
      have O1 := Lib.hid (HO.out.alloc (.cells #[.string r.name, .int .i64 r.ty, .int .i64 r.ttl, .int .i64 r.n, .string r.host, .string r.text] 37))
      go_wp2_with fail
      refine (keyOf r _).mono ?_
      rintro e w1 ⟨rfl, hl⟩
      have O2 := Lib.hid (O1.out.kept (row := none) ⟨hl.os, hl.tape, hl.output, hl.size, fun k hk _ => hl.block k hk⟩ (Or.inr (fun e => by cases e)))
      have W2 := Lib.hid (W1.out.trans (hl.mono W1.out.size))
      clear hl O1 W1 e0 e1 e2 e3 e4 e5
      go_wp2_with (at_builtin; refine append_one (w := w1) rfl (.tmp 13) (.tmp 16) rfl w.heap.size g k cap (kl (l.take k)) rfl O2.out (ky r) rfl (by omega) (by have h1 := O2.out.lt g rfl; omega) ?_)
      intro g' cap' w3 hown hgrow _
      have O3 := Lib.hid hown
      have L3 := Lib.hid ((W2.out.alloc W2.out.size (.cells #[.string r.name, .int .i64 r.ty] 34)).grown hgrow (Nat.le_trans W2.out.size (by simp)) (fun j hj => by cases hj; have h1 := O2.out.lt g rfl; omega))
      clear hown hgrow
      go_wp2
      go_roundw
      case rel => exact ⟨k + 1, g', cap', by omega, by go_num, rfl, by rw [HA.out]; exact O3.out, L3.out⟩
      case measure => simp [intOf]; omega
    · obtain rfl : n = k := by omega
      have HN := Lib.hid (take_all HS.out.1)
      have HQ : Hid (Sq wr (some ⟨g, 0, none⟩) n (kl l)) := by
        have ho := HO.out
        rw [HN.out] at ho
        have hz : (kl l).length = n := by rw [kl_len]; exact HS.out.1
        obtain ⟨r', hb, _, _, _⟩ := bk_of_owns2 ho
        exact bk_sq hb hz
      go_wp2_with fail
      refine (FstQ.impl _ n cap (kl l) wr HQ.out (by omega)).mono ?_
      rintro e w1 ⟨g1, m1, c1, r1, rfl, hm1, hc1, hg1, hb1, hl1⟩
      have G1 := Lib.hid (Nat.le_trans HL.out.size hg1)
      have M1 := Lib.hid hm1
      have C1 := Lib.hid hc1
      have B1 := Lib.hid hb1
      have L1 := Lib.hid (HL.out.trans (hl1.mono HL.out.size))
      clear hm1 hc1 hg1 hb1 hl1
      go_wp2
      go_ret
      exact ⟨g1, m1, c1, r1, rfl, M1.out, C1.out, G1.out, B1.out, L1.out⟩
end Go.Proofs.Ytaahaepgabcebaa.KeyI
