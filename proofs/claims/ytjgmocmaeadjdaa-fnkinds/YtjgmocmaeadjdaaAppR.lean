/- A new slice of records that a call gives back, and laws on append of records. -/
import Derived.Test.YtjgmocmaeadjdaaMemR
import Derived.Test.YtjgmocmaeadjdaaCopyR
namespace Go.Proofs.Ytjgmocmaeadjdaa.AppR
open Go.RowKit Go.Proofs.Ytjgmocmaeadjdaa.Mem Go.Proofs.Ytjgmocmaeadjdaa.MemR

theorem owns_new (w : World) : (w.alloc (.cells #[] 56)).ownsRow w.heap.size 56 6 (.slice (some ⟨w.heap.size, 0, none⟩) 0 0) 0 [] :=
  World.ownsRow_made w #[] 0 (Nat.le_refl _) (Nat.zero_le _) (by simp)
theorem one_fl (l : List Rec) : ∀ u ∈ fl l, u.oneCell' = true := by
  intro u hu
  obtain ⟨r, _, hr⟩ := List.mem_flatMap.1 hu
  simp [rc] at hr
  rcases hr with rfl | rfl | rfl | rfl | rfl | rfl <;> rfl
/-- The cells of a slice that reads as records, as the laws on append ask for them. -/
theorem cells_of {w : World} {B b off n : Nat} {l : List Rec} (hs : Sr w B (some ⟨b, off, none⟩) n l) : ∀ j u, (fl l)[j]? = some u → w.cell? ((⟨b, off, none⟩ : Addr).add j) = some u := by
  intro j u hu
  have hj : j < l.length * 6 := by
    have := (List.getElem?_eq_some_iff.1 hu).1
    rwa [fl_len] at this
  obtain ⟨b', off', hA, _, hc⟩ := hs.2 (by have := hs.1; omega)
  simp only [Option.some.injEq, Addr.mk.injEq, and_true] at hA
  obtain ⟨rfl, rfl⟩ := hA
  have hd : j / 6 < l.length := by omega
  have h6 : j % 6 < 6 := by omega
  have e : j = j / 6 * 6 + j % 6 := by omega
  have hg := fl_get l (j / 6) (j % 6) hd h6
  rw [← e, hu] at hg
  obtain ⟨c0, c1, c2, c3, c4, c5⟩ := hc (j / 6) hd
  rw [Addr.add_lit, show off + j = off + j / 6 * 6 + j % 6 by omega, hg]
  generalize j % 6 = c at h6 ⊢
  rcases c with _ | _ | _ | _ | _ | _ | c
  · exact c0
  · exact c1
  · exact c2
  · exact c3
  · exact c4
  · exact c5
  · omega
/-- append of a slice of records onto a row of the call's own. -/
theorem append_recs {w : World} {ops : Array Oper} {rest : List Oper} {o : Oper} {a : Act} {Q : Exit → Act → World → Prop} (hgd : o.guard = none) (s x : Operand)
    (ho : o.op = .call { callee := .builtin .append, args := #[s, x], argTypes := #[24, 24] })
    (base g n cap : Nat) (L : List Rec) (hs : a.eval s = .slice (some ⟨g, 0, none⟩) n cap) (hown : w.ownsRow base 56 6 (.slice (some ⟨g, 0, none⟩) n cap) n (fl L))
    (b off m c B : Nat) (l : List Rec) (hx : a.eval x = .slice (some ⟨b, off, none⟩) m c) (hl : Sr w B (some ⟨b, off, none⟩) m l)
    (hn : n ≤ 800000000) (hm : m ≤ 800000000) (hbase : base ≤ w.heap.size)
    (h : ∀ g' cap' w', w'.ownsRow base 56 6 (.slice (some ⟨g', 0, none⟩) (n + m) cap') (n + m) (fl (L ++ l)) → w.grownBy w' (some g) → wpList Try.prog ops Q rest (a.put o.dst (.slice (some ⟨g', 0, none⟩) (n + m) cap')) w') : wpList Try.prog ops Q (o :: rest) a w := by
  obtain ⟨i0, hi, hz0, hz1, hz2⟩ := info_parts CopyR.info
  exact wpList_append_own w hgd s x 24 ho base 56 i0 _ 6 72 Try.underlying24 hi hz0 hz1 hz2 rfl (by decide) _ n (fl L) hs hown ⟨b, off, none⟩ m c (fl l) hx (by rw [fl_len, hl.1]) (cells_of hl) (one_fl l) (by unfold maxLen; omega) (by omega) hbase
    (fun v' w' h1 h2 h3 => by
      rcases h1.2 with ⟨hv, _⟩ | ⟨g', cap', cur, hv, _⟩
      · have := (h3.1 hv).1
        cases this
      · subst hv
        exact h g' cap' w' (by rw [fl_append]; exact h1) h2)
end Go.Proofs.Ytjgmocmaeadjdaa.AppR
