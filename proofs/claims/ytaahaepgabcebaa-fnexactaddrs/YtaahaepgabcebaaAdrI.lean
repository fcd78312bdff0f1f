/- What Addrs does in the program: the numbers of the records of addresses of a name, each once. Condition: fewer than 100000001 records. -/
import Derived.Test.YtaahaepgabcebaaSetI
import Derived.Test.YtaahaepgabcebaaFstI
namespace Go.Proofs.Ytaahaepgabcebaa.AdrI
open Go.RowKit Go.Proofs.Ytaahaepgabcebaa.Mem Go.Proofs.Ytaahaepgabcebaa.MemR Go.Proofs.Ytaahaepgabcebaa.SetMath Go.Proofs.Ytaahaepgabcebaa.MemI

/-- The numbers of the first k records. -/
def nm (L : List Rec) (k : Nat) : List Int := (L.take k).map (·.n)

/-- append of one new int onto a row of the call's own, the new block's number as the walk spells it. -/
theorem append_at {w : World} {ops : Array Oper} {rest : List Oper} {o : Oper} {a : Act} {Q : Exit → Act → World → Prop} (hgd : o.guard = none) (s x : Operand)
    (ho : o.op = .call { callee := .builtin .append, args := #[s, x], argTypes := #[51, 51] })
    (base g n cap : Nat) (l : List Int) (hs : a.eval s = .slice (some ⟨g, 0, none⟩) n cap) (hown : w.ownsRow base 3 1 (.slice (some ⟨g, 0, none⟩) n cap) n (l.map iv))
    (y : Int) (p : Nat) (hp : w.heap.size = p) (hx : a.eval x = .slice (some ⟨p, 0, none⟩) 1 1) (hn : n ≤ 800000000) (hbase : base ≤ w.heap.size)
    (h : ∀ g' cap' w', w'.ownsRow base 3 1 (.slice (some ⟨g', 0, none⟩) (n + 1) cap') (n + 1) ((l ++ [y]).map iv) → (w.alloc (.cells #[.int .i64 y] 3)).grownBy w' (some g) → wpList Try.prog ops Q rest (a.put o.dst (.slice (some ⟨g', 0, none⟩) (n + 1) cap')) w') : wpList Try.prog ops Q (o :: rest) a (w.alloc (.cells #[.int .i64 y] 3)) := by
  subst hp
  exact append_one (w := w) hgd s x ho base g n cap l hs hown y hx hn hbase (fun g' cap' w' h1 h2 _ => h g' cap' w' h1 h2)

set_option maxHeartbeats 4000000 in
theorem impl (s : ByteArray) (b0 o0 n c : Nat) (l : List Rec) (w : World) (hs : Sr w w.heap.size (some ⟨b0, o0, none⟩) n l) (hn : n ≤ 100000000) : Calls Try.prog 35 #[.slice (some ⟨b0, o0, none⟩) n c, .string s] w (GivesI w (uq (al s l))) := by
  have P0 := Lib.hid (owns_new w)
  have L0 := Lib.hid ((Below.refl w.heap.size w).alloc (Nat.le_refl _) (.cells #[] 3))
  have SE : Hid (∀ W : World, Below w.heap.size w W → Calls Try.prog 16 #[.slice (some ⟨b0, o0, none⟩) n c, .string s, .int .i64 1] W (Wt.GivesL W (sf s 1 l))) :=
    fun W hW => SetI.impl s 1 b0 o0 n c l W ((hs.below hW).wider hW.size) hn
  have HLn : Hid ((sf s 1 l).length ≤ 100000000) := show _ ≤ _ by have h1 := sf_len s 1 l; have h2 := hs.1; omega
  have HA : Hid ((sf s 1 l).map (·.n) = al s l) := show _ = _ from rfl
  clear hs hn
  generalize sf s 1 l = L at *
  go_enter Try.func35, Try.ntmps35
  go_wp2_with fail
  refine (SE.out _ L0.out).mono ?_
  rintro e w1 ⟨gs, ms, cs, rs, rfl, hms, hcs, hgs, hbs, hls⟩
  have hms0 : ms ≤ 100000000 := by have := HLn.out; omega
  have HM := Lib.hid hms
  have B1 := Lib.hid hbs
  have P1 := Lib.hid (P0.out.kept (row := none) ⟨hls.os, hls.tape, hls.output, hls.size, fun k hk _ => hls.block k hk⟩ (Or.inr (fun e => by cases e)))
  have L1 := Lib.hid (L0.out.trans (hls.mono L0.out.size))
  have NG : Hid (gs ≠ w.heap.size) := fun h => by have h2 : (w.alloc (.cells #[] 3)).heap.size ≤ gs := hgs; rw [h] at h2; simp at h2; omega
  have GS : Hid (w.heap.size + 1 ≤ gs) := show _ ≤ _ by have h2 : (w.alloc (.cells #[] 3)).heap.size ≤ gs := hgs; simpa using h2
  clear hms hcs hgs hbs hls SE P0 L0
  go_wp2
  have HT0 : Hid (∀ k (h : k < L.length), nm L (k + 1) = nm L k ++ [L[k].n]) := fun k h => by rw [nm, List.take_succ_eq_append_getElem h, List.map_append]; rfl
  go_loopw [5, 13] (fun out i wr => ∃ k g cap : Nat, k ≤ ms ∧ i = .int .i64 k ∧ out = .slice (some ⟨g, 0, none⟩) k cap ∧ Hid (wr.ownsRow w.heap.size 3 1 (.slice (some ⟨g, 0, none⟩) k cap) k ((nm L k).map iv)) ∧ Hid (Bk wr gs 37 (fl L ++ rs)) ∧ Hid (g ≠ gs) ∧ Hid (Below w.heap.size w wr)) (fun _ i _ => ms - (intOf i).toNat)
  case atStart => exact ⟨0, w.heap.size, 0, Nat.zero_le _, rfl, rfl, P1.out, B1.out, fun h => NG.out h.symm, L1.out⟩
  case round =>
    clear P1 L1 B1
    obtain ⟨k, g, cap, hk, rfl, rfl, HO, HB, HN, HL⟩ := hrel
    by_cases hlt : k < ms
    · have hkl : k < L.length := by rw [HM.out]; exact hlt
      obtain ⟨e0, e1, e2, e3, e4, e5⟩ := bk_ce HB.out k hkl
      have HT := Lib.hid (HT0.out k hkl)
      generalize L[k] = r at *
      have W1 : Hid (Below w.heap.size w (wr.alloc (.cells #[.string r.name, .int .i64 r.ty, .int .i64 r.ttl, .int .i64 r.n, .string r.host, .string r.text] 37))) := HL.out.alloc HL.out.size _
      have O1 := Lib.hid (HO.out.alloc (.cells #[.string r.name, .int .i64 r.ty, .int .i64 r.ttl, .int .i64 r.n, .string r.host, .string r.text] 37))
      have B2 := Lib.hid ((HB.out.alloc (.cells #[.string r.name, .int .i64 r.ty, .int .i64 r.ttl, .int .i64 r.n, .string r.host, .string r.text] 37)).alloc (.cells #[.int .i64 r.n] 3))
      go_wp2_with (at_builtin; refine append_at (w := wr.alloc (.cells #[.string r.name, .int .i64 r.ty, .int .i64 r.ttl, .int .i64 r.n, .string r.host, .string r.text] 37)) rfl (.tmp 17) (.tmp 20) rfl w.heap.size g k cap (nm L k) rfl O1.out r.n (wr.heap.size + 1) (by simp) rfl (by omega) (by have h1 := O1.out.lt g rfl; omega) ?_)
      intro g' cap' w3 hown hgrow
      have O3 := Lib.hid hown
      have B3 := Lib.hid (B2.out.grown hgrow (fun h => HN.out (Option.some.inj h).symm))
      have L3 := Lib.hid ((W1.out.alloc W1.out.size (.cells #[.int .i64 r.n] 3)).grown hgrow (Nat.le_trans W1.out.size (by simp)) (fun j hj => by cases hj; have h1 := O1.out.lt g rfl; omega))
      have N3 : Hid (g' ≠ gs) := fun h => by
        obtain ⟨r', hb, _⟩ := bk_of_owns hown
        have h2 := B3.out
        rw [← h] at h2
        unfold Bk at hb h2
        rw [hb] at h2
        simp at h2
      clear hown hgrow
      go_wp2
      go_roundw
      case rel => exact ⟨k + 1, g', cap', by omega, by go_num, rfl, by rw [HT.out, List.map_append]; exact O3.out, B3.out, N3.out, L3.out⟩
      case measure => simp [intOf]; omega
    · obtain rfl : ms = k := by omega
      have HN2 := Lib.hid (take_all HM.out)
      have HQ : Hid (Si wr (some ⟨g, 0, none⟩) ms (al s l)) := by
        have ho := HO.out
        rw [nm, HN2.out, HA.out] at ho
        have hz : (al s l).length = ms := by have := ho.1; simpa using this
        obtain ⟨r', hb, _, _⟩ := bk_of_owns ho
        exact bk_si hb hz
      go_wp2_with fail
      refine (FstI.impl _ ms cap (al s l) wr HQ.out (by omega)).mono ?_
      rintro e w1 ⟨g1, m1, c1, r1, rfl, hm1, hc1, hg1, hb1, hl1⟩
      have G1 := Lib.hid (Nat.le_trans HL.out.size hg1)
      have M1 := Lib.hid hm1
      have C1 := Lib.hid hc1
      have B1 := Lib.hid hb1
      have L1 := Lib.hid (HL.out.trans (hl1.mono HL.out.size))
      clear hm1 hc1 hg1 hb1 hl1
      go_wp2
      go_ret
      exact ⟨g1, m1, c1, r1, rfl, M1.out, C1.out, G1.out, B1.out, L1.out⟩
end Go.Proofs.Ytaahaepgabcebaa.AdrI
