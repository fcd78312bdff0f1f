/- What SortRecords does in the model: a new slice with the same records in order, which turns nothing that was there. Conditions: fewer than 400000001 records, at most 400000000 bytes in each name and host. -/
import Derived.Test.YtjgmocmaeadjdaaSrtMath
import Derived.Test.YtjgmocmaeadjdaaAppR
import Derived.Test.YtjgmocmaeadjdaaBoxR
import Derived.Test.YtjgmocmaeadjdaaLessR
import Derived.Test.YtjgmocmaeadjdaaCopyR
import Derived.Deep.RegionHeld3
import Derived.Deep.AppendLies
import Derived.BigRegion
namespace Go.Proofs.Ytjgmocmaeadjdaa.SortZ
open Go.RowKit Go.Proofs.Ytjgmocmaeadjdaa.Mem Go.Proofs.Ytjgmocmaeadjdaa.MemR Go.Proofs.Ytjgmocmaeadjdaa.LessR Go.Proofs.Ytjgmocmaeadjdaa.SrtMath Go.Proofs.Ytjgmocmaeadjdaa.AppR Go.Proofs.Ytjgmocmaeadjdaa.BoxR

/-- The call returned a new slice with the same records in order, and turned nothing that was there. -/
def GivesR (w : World) (n : Nat) (l : List Rec) (e : Ending) (w' : World) : Prop :=
  ∃ L g c r, Srt l L ∧ e = .returned (.slice (some ⟨g, 0, none⟩) n c) ∧ n ≤ c ∧ w.heap.size ≤ g ∧ Bk w' g 56 (fl L ++ r) ∧ Below w.heap.size w w'

/-- The row so far lies in block g, with the room v behind it; nothing of w has been turned. A def, so that no step of a walk opens it. -/
def Sv (w : World) (g : Nat) (L : List Rec) (v : List Value) (w' : World) : Prop := Bk w' g 56 (fl L ++ v) ∧ Below w.heap.size w w'
section
variable {w w1 w2 : World} {g b o q : Nat} {L : List Rec} {v : List Value} {x : Rec}
theorem Sv.below (h : Sv w g L v w1) (hl : Below w1.heap.size w1 w2) : Sv w g L v w2 := ⟨h.1.below hl h.1.lt, h.2.trans (hl.mono h.2.size)⟩
theorem Sv.grown (h : Sv w g L v w1) (hl : w1.grownBy w2 (some q)) (h1 : q ≠ g) (h2 : w.heap.size ≤ q) : Sv w g L v w2 := ⟨h.1.grown hl (fun e => h1 (Option.some.inj e).symm), h.2.grown hl h.2.size (fun k hk => by cases hk; exact h2)⟩
/-- What is kept through the region: the record that is put in its place, and the row so far. -/
theorem kept (hb : b < w.heap.size) (h : (w1.cell? ⟨b, o, none⟩ = some (.string x.name) ∧ w1.cell? ⟨b, o + 1, none⟩ = some (.int .i64 x.ty) ∧ w1.cell? ⟨b, o + 2, none⟩ = some (.int .i64 x.ttl) ∧ w1.cell? ⟨b, o + 3, none⟩ = some (.int .i64 x.n) ∧ w1.cell? ⟨b, o + 4, none⟩ = some (.string x.host) ∧ w1.cell? ⟨b, o + 5, none⟩ = some (.string x.text)) ∧ Sv w g L v w1) (hl : Below w1.heap.size w1 w2) : (w2.cell? ⟨b, o, none⟩ = some (.string x.name) ∧ w2.cell? ⟨b, o + 1, none⟩ = some (.int .i64 x.ty) ∧ w2.cell? ⟨b, o + 2, none⟩ = some (.int .i64 x.ttl) ∧ w2.cell? ⟨b, o + 3, none⟩ = some (.int .i64 x.n) ∧ w2.cell? ⟨b, o + 4, none⟩ = some (.string x.host) ∧ w2.cell? ⟨b, o + 5, none⟩ = some (.string x.text)) ∧ Sv w g L v w2 :=
  ⟨(show Ce w2 b o x from (show Ce w1 b o x from h.1).below hl (Nat.lt_of_lt_of_le hb h.2.2.size)), h.2.below hl⟩
theorem kept_draw (hb : b < w.heap.size) (h : (w1.cell? ⟨b, o, none⟩ = some (.string x.name) ∧ w1.cell? ⟨b, o + 1, none⟩ = some (.int .i64 x.ty) ∧ w1.cell? ⟨b, o + 2, none⟩ = some (.int .i64 x.ttl) ∧ w1.cell? ⟨b, o + 3, none⟩ = some (.int .i64 x.n) ∧ w1.cell? ⟨b, o + 4, none⟩ = some (.string x.host) ∧ w1.cell? ⟨b, o + 5, none⟩ = some (.string x.text)) ∧ Sv w g L v w1) : (w1.drew.cell? ⟨b, o, none⟩ = some (.string x.name) ∧ w1.drew.cell? ⟨b, o + 1, none⟩ = some (.int .i64 x.ty) ∧ w1.drew.cell? ⟨b, o + 2, none⟩ = some (.int .i64 x.ttl) ∧ w1.drew.cell? ⟨b, o + 3, none⟩ = some (.int .i64 x.n) ∧ w1.drew.cell? ⟨b, o + 4, none⟩ = some (.string x.host) ∧ w1.drew.cell? ⟨b, o + 5, none⟩ = some (.string x.text)) ∧ Sv w g L v w1.drew := kept hb h ((Below.refl _ _).drew)
theorem kept_alloc (hb : b < w.heap.size) (h : (w1.cell? ⟨b, o, none⟩ = some (.string x.name) ∧ w1.cell? ⟨b, o + 1, none⟩ = some (.int .i64 x.ty) ∧ w1.cell? ⟨b, o + 2, none⟩ = some (.int .i64 x.ttl) ∧ w1.cell? ⟨b, o + 3, none⟩ = some (.int .i64 x.n) ∧ w1.cell? ⟨b, o + 4, none⟩ = some (.string x.host) ∧ w1.cell? ⟨b, o + 5, none⟩ = some (.string x.text)) ∧ Sv w g L v w1) (ob : Obj) : ((w1.alloc ob).cell? ⟨b, o, none⟩ = some (.string x.name) ∧ (w1.alloc ob).cell? ⟨b, o + 1, none⟩ = some (.int .i64 x.ty) ∧ (w1.alloc ob).cell? ⟨b, o + 2, none⟩ = some (.int .i64 x.ttl) ∧ (w1.alloc ob).cell? ⟨b, o + 3, none⟩ = some (.int .i64 x.n) ∧ (w1.alloc ob).cell? ⟨b, o + 4, none⟩ = some (.string x.host) ∧ (w1.alloc ob).cell? ⟨b, o + 5, none⟩ = some (.string x.text)) ∧ Sv w g L v (w1.alloc ob) := kept hb h ((Below.refl _ _).alloc (Nat.le_refl _) _)
theorem kept_grown (hb : b < w.heap.size) (h : (w1.cell? ⟨b, o, none⟩ = some (.string x.name) ∧ w1.cell? ⟨b, o + 1, none⟩ = some (.int .i64 x.ty) ∧ w1.cell? ⟨b, o + 2, none⟩ = some (.int .i64 x.ttl) ∧ w1.cell? ⟨b, o + 3, none⟩ = some (.int .i64 x.n) ∧ w1.cell? ⟨b, o + 4, none⟩ = some (.string x.host) ∧ w1.cell? ⟨b, o + 5, none⟩ = some (.string x.text)) ∧ Sv w g L v w1) (hl : w1.grownBy w2 (some q)) (h1 : q ≠ g) (h2 : w.heap.size ≤ q) : (w2.cell? ⟨b, o, none⟩ = some (.string x.name) ∧ w2.cell? ⟨b, o + 1, none⟩ = some (.int .i64 x.ty) ∧ w2.cell? ⟨b, o + 2, none⟩ = some (.int .i64 x.ttl) ∧ w2.cell? ⟨b, o + 3, none⟩ = some (.int .i64 x.n) ∧ w2.cell? ⟨b, o + 4, none⟩ = some (.string x.host) ∧ w2.cell? ⟨b, o + 5, none⟩ = some (.string x.text)) ∧ Sv w g L v w2 :=
  ⟨(show Ce w2 b o x from (show Ce w1 b o x from h.1).move fun p hp => World.cell?_of_block (hl.block _ (by rw [hp]; exact Nat.lt_of_lt_of_le hb h.2.2.size) (fun e => by have := Option.some.inj e; omega))), h.2.grown hl h1 h2⟩
end

theorem owns_ge {w : World} {base g n c : Nat} {xs : List Value} (h : w.ownsRow base 56 6 (.slice (some ⟨g, 0, none⟩) n c) n xs) : base ≤ g := (bk_of_owns6 h).choose_spec.2.2.2
/-- The head of the row so far. -/
theorem take_sr {w W : World} {g k : Nat} {L : List Rec} {v : List Value} (h : Sv w g L v W) (hk : k ≤ L.length) : Sr W W.heap.size (some ⟨g, 0, none⟩) k (L.take k) :=
  ⟨by rw [List.length_take]; omega, fun _ => ⟨g, 0, rfl, h.1.lt, fun j hj => by
    have hj' : j < k := by rw [List.length_take] at hj; omega
    rw [Nat.zero_add, List.getElem_take]
    exact bk_ce h.1 j (by omega)⟩⟩
/-- The rest of it. -/
theorem drop_sr {w W : World} {g k : Nat} {L : List Rec} {v : List Value} (h : Sv w g L v W) (hk : k ≤ L.length) : Sr W W.heap.size (some ⟨g, k * 6, none⟩) (L.length - k) (L.drop k) :=
  ⟨by rw [List.length_drop], fun _ => ⟨g, k * 6, rfl, h.1.lt, fun j hj => by
    have hj' : k + j < L.length := by rw [List.length_drop] at hj; omega
    rw [List.getElem_drop, ← Nat.add_mul]
    exact bk_ce h.1 (k + j) hj'⟩⟩
theorem one_sr (w : World) (x : Rec) : Sr (w.alloc (.cells #[.string x.name, .int .i64 x.ty, .int .i64 x.ttl, .int .i64 x.n, .string x.host, .string x.text] 56)) (w.alloc (.cells #[.string x.name, .int .i64 x.ty, .int .i64 x.ttl, .int .i64 x.n, .string x.host, .string x.text] 56)).heap.size (some ⟨w.heap.size, 0, none⟩) 1 [x] := by
  have hb : Bk (w.alloc (.cells #[.string x.name, .int .i64 x.ty, .int .i64 x.ttl, .int .i64 x.n, .string x.host, .string x.text] 56)) w.heap.size 56 (fl [x]) := heap_alloc_new w _
  exact bk_sr0 hb rfl

theorem le_A (w : World) (o : Obj) : w.heap.size ≤ (w.alloc o).drew.heap.size := by show w.heap.size ≤ (w.heap.push o).size; simp
theorem le_B (w : World) (o p : Obj) : w.heap.size ≤ ((w.alloc o).alloc p).drew.heap.size := by show w.heap.size ≤ ((w.heap.push o).push p).size; simp; omega
theorem le_D (w : World) (o : Obj) : w.heap.size ≤ (w.alloc o).heap.size := by show w.heap.size ≤ (w.heap.push o).size; simp
theorem own_A (w : World) : (w.alloc (.cells #[] 56)).drew.ownsRow w.heap.size 56 6 (.slice (some ⟨w.heap.size, 0, none⟩) 0 0) 0 (fl []) := (owns_new w).drew
theorem own_B (w : World) (o : Obj) : ((w.alloc (.cells #[] 56)).alloc o).drew.ownsRow w.heap.size 56 6 (.slice (some ⟨w.heap.size, 0, none⟩) 0 0) 0 (fl []) := ((owns_new w).alloc o).drew
theorem own_C (w : World) (o : Obj) : ((w.alloc o).alloc (.cells #[] 56)).drew.ownsRow w.heap.size 56 6 (.slice (some ⟨w.heap.size + 1, 0, none⟩) 0 0) 0 (fl []) := by
  have hz : (w.alloc o).heap.size = w.heap.size + 1 := by simp
  have h := (owns_new (w.alloc o)).drew
  rw [hz] at h
  refine ⟨h.1, ?_⟩
  rcases h.2 with h1 | ⟨g, cap, cur, hv, hg, h2⟩
  · exact Or.inl h1
  · exact Or.inr ⟨g, cap, cur, hv, by omega, h2⟩
theorem xs_B {w w4 : World} {x : Rec} (h : ((w.alloc (.cells #[] 56)).alloc (.cells #[.string x.name, .int .i64 x.ty, .int .i64 x.ttl, .int .i64 x.n, .string x.host, .string x.text] 56)).drew.grownBy w4 (some w.heap.size)) : Sr w4 w4.heap.size (some ⟨w.heap.size + 1, 0, none⟩) 1 [x] := by
  have hz : (w.alloc (.cells #[] 56)).heap.size = w.heap.size + 1 := by simp
  have hb : Bk ((w.alloc (.cells #[] 56)).alloc (.cells #[.string x.name, .int .i64 x.ty, .int .i64 x.ttl, .int .i64 x.n, .string x.host, .string x.text] 56)).drew (w.heap.size + 1) 56 (fl [x]) := by rw [← hz]; exact heap_alloc_new _ _
  exact bk_sr0 (hb.grown h (fun e => by have := Option.some.inj e; omega)) rfl
theorem xs_C {w w4 : World} {x : Rec} (h : ((w.alloc (.cells #[.string x.name, .int .i64 x.ty, .int .i64 x.ttl, .int .i64 x.n, .string x.host, .string x.text] 56)).alloc (.cells #[] 56)).drew.grownBy w4 (some (w.heap.size + 1))) : Sr w4 w4.heap.size (some ⟨w.heap.size, 0, none⟩) 1 [x] := by
  have hb : Bk (w.alloc (.cells #[.string x.name, .int .i64 x.ty, .int .i64 x.ttl, .int .i64 x.n, .string x.host, .string x.text] 56)) w.heap.size 56 (fl [x]) := heap_alloc_new _ _
  have hb2 : Bk ((w.alloc (.cells #[.string x.name, .int .i64 x.ty, .int .i64 x.ttl, .int .i64 x.n, .string x.host, .string x.text] 56)).alloc (.cells #[] 56)).drew w.heap.size 56 (fl [x]) := hb.alloc _
  exact bk_sr0 (hb2.grown h (fun e => by have := Option.some.inj e; omega)) rfl

/-- append of a slice of records onto a row of the call's own, at a step of a region that draws its order. -/
theorem step_recs {w : World} {ops : Array Oper} {o : Oper} {a : Act} {K : Act → World → Prop} {Q : Exit → Act → World → Prop} {E : Prop} (hgd : o.guard = none) (s x : Operand)
    (ho : o.op = .call { callee := .builtin .append, args := #[s, x], argTypes := #[24, 24] })
    (base g n cap : Nat) (L : List Rec) (hs : a.eval s = .slice (some ⟨g, 0, none⟩) n cap) (hown : w.ownsRow base 56 6 (.slice (some ⟨g, 0, none⟩) n cap) n (fl L))
    (b off m c B : Nat) (l : List Rec) (hx : a.eval x = .slice (some ⟨b, off, none⟩) m c) (hl : Sr w B (some ⟨b, off, none⟩) m l)
    (hn : n ≤ 800000000) (hm : m ≤ 800000000) (hbase : base ≤ w.heap.size) (nm : Nat) (hnm : n + m = nm) (M : List Rec) (hM : L ++ l = M)
    (h : ∀ g' cap' w', w'.ownsRow base 56 6 (.slice (some ⟨g', 0, none⟩) nm cap') nm (fl M) → w.grownBy w' (some g) → K (a.put o.dst (.slice (some ⟨g', 0, none⟩) nm cap')) w') :
    if Region.wanted o (yielded ops a.tmps) = true then Oper.wp Try.prog o a w K Q else E := by
  subst hnm hM
  have hw : Region.wanted o (yielded ops a.tmps) = true := by simp [Region.wanted, hgd]
  rw [if_pos hw]
  obtain ⟨i0, hi, hz0, hz1, hz2⟩ := info_parts CopyR.info
  exact wp_append_own w s x 24 ho base 56 i0 _ 6 72 Try.underlying24 hi hz0 hz1 hz2 rfl (by decide) _ n (fl L) hs hown ⟨b, off, none⟩ m c (fl l) hx (by rw [fl_len, hl.1]) (cells_of hl) (one_fl l) (by unfold maxLen; omega) (by omega) hbase
    (fun v' w' h1 h2 h3 => by
      rcases h1.2 with ⟨hv, _⟩ | ⟨g', cap', cur, hv, _⟩
      · have := (h3.1 hv).1
        cases this
      · subst hv
        exact h g' cap' w' (by rw [fl_append]; exact h1) h2)

set_option maxHeartbeats 4000000 in
set_option maxRecDepth 100000 in
theorem spec (b off n c : Nat) (l : List Rec) (w : World) (hs : Sr w w.heap.size (some ⟨b, off, none⟩) n l) (hn : n ≤ 400000000) (hf : ∀ r ∈ l, Fine r) :
    Calls Try.prog 80 #[.slice (some ⟨b, off, none⟩) n c] w (GivesR w n l) := by
  have mixed : Try.prog.follows .mixedOrders = true := by kernel_rfl
  have HF := Lib.hid hf
  have HS := Lib.hid hs
  clear hf hs
  have V0 : Hid (Sv w w.heap.size [] [] (w.alloc (.cells #[] 56))) := ⟨heap_alloc_new w _, (Below.refl w.heap.size w).alloc (Nat.le_refl _) _⟩
  go_enter Try.func80, Try.ntmps80
  go_wp2
  go_loopw [3, 4, 5] (fun s i _ wr => ∃ (k g cap : Nat) (L : List Rec) (v : List Value), s = .slice (some ⟨g, 0, none⟩) k cap ∧ i = .int .i64 k ∧ k ≤ n ∧ k ≤ cap ∧ w.heap.size ≤ g ∧ Hid (Srt (l.take k) L) ∧ Hid (Sv w g L v wr)) (fun _ i _ _ => n - (intOf i).toNat)
  case atStart => exact ⟨0, w.heap.size, 0, [], [], rfl, rfl, Nat.zero_le _, Nat.zero_le _, Nat.le_refl _, by show Srt _ _; exact srt_nil, V0.out⟩
  case round =>
    clear V0
    obtain ⟨i, g, cap, L, v, rfl, rfl, hi, hic, hg, SR, V1⟩ := hrel
    by_cases hlt : i < n
    · have hil : i < l.length := by rw [HS.out.1]; exact hlt
      obtain ⟨b', off', hA, hbB, hcs⟩ := HS.out.2 (by omega)
      simp only [Option.some.injEq, Addr.mk.injEq, and_true] at hA
      obtain ⟨rfl, rfl⟩ := hA
      have CX := Lib.hid (hcs i hil)
      have FX := Lib.hid (HF.out l[i] (List.getElem_mem hil))
      have TK := Lib.hid (show l.take (i + 1) = l.take i ++ [l[i]] from List.take_succ_eq_append_getElem hil)
      have LL := Lib.hid (show L.length = i by rw [SR.out.length, List.length_take]; omega)
      have FL := Lib.hid (show ∀ r ∈ L, Fine r from fun r hr => HF.out r (List.mem_of_mem_take (SR.out.1.mem_iff.1 hr)))
      clear hcs
      generalize l[i] = x at *
      go_wp2
      go_loopw [5] (fun s wr => ∃ k : Nat, s = .int .i64 k ∧ k ≤ i ∧ Hid (∀ j (hj : j < L.length), k ≤ j → lr x L[j] = true) ∧ Hid (Sv w g L v wr)) (fun s _ => (intOf s).toNat)
      case atStart => exact ⟨i, rfl, Nat.le_refl _, fun j hj h => by have := LL.out; omega, V1.out⟩
      case round =>
        clear V1
        obtain ⟨k, rfl, hk, UP, V1⟩ := hrel
        by_cases hk0 : 0 < k
        · obtain ⟨kp, rfl⟩ : ∃ kp, k = kp + 1 := ⟨k - 1, by omega⟩
          have hkl : kp < L.length := by rw [LL.out]; omega
          have FY := Lib.hid (FL.out L[kp] (List.getElem_mem hkl))
          have CY := Lib.hid (bk_ce V1.out.1 kp hkl)
          have CX1 := Lib.hid (CX.out.below V1.out.2 hbB)
          have SP := Lib.hid (fun W (_ : Below wr.heap.size wr W) => LessR.spec x L[kp] W FX.out FY.out)
          have NX := Lib.hid (fun (h : lr x L[kp] = true) => show ∀ j (hj : j < L.length), kp ≤ j → lr x L[j] = true from fun j hj hj' => by
            by_cases e : j = kp
            · subst e; exact h
            · exact UP.out j hj (by omega))
          have ST := Lib.hid (fun (h : lr x L[kp] = false) => show kp + 1 = 0 ∨ ∃ hk' : kp + 1 - 1 < L.length, lr x L[kp + 1 - 1] = false from Or.inr ⟨hkl, h⟩)
          have hw1 : IntKind.i64.wrap (kp : Int) = (kp : Int) := by rw [IntKind.wrap_i64]; omega
          have hb1 : (kp : Int) < (i : Int) := by omega
          have hb2 : (i : Int) < (n : Int) := by omega
          have hp0 : (0 : Int) < (kp : Int) + 1 := by omega
          have x0 : ∀ d os, (Sort.grow (redrawn wr d) os).cell? _ = some _ := fun d os => (CX1.out.below (below_regrown wr d os) (Nat.lt_of_lt_of_le hbB V1.out.2.size)).1
          have x1 : ∀ d os, (Sort.grow (redrawn wr d) os).cell? _ = some _ := fun d os => (CX1.out.below (below_regrown wr d os) (Nat.lt_of_lt_of_le hbB V1.out.2.size)).2.1
          have x2 : ∀ d os, (Sort.grow (redrawn wr d) os).cell? _ = some _ := fun d os => (CX1.out.below (below_regrown wr d os) (Nat.lt_of_lt_of_le hbB V1.out.2.size)).2.2.1
          have x3 : ∀ d os, (Sort.grow (redrawn wr d) os).cell? _ = some _ := fun d os => (CX1.out.below (below_regrown wr d os) (Nat.lt_of_lt_of_le hbB V1.out.2.size)).2.2.2.1
          have x4 : ∀ d os, (Sort.grow (redrawn wr d) os).cell? _ = some _ := fun d os => (CX1.out.below (below_regrown wr d os) (Nat.lt_of_lt_of_le hbB V1.out.2.size)).2.2.2.2.1
          have x5 : ∀ d os, (Sort.grow (redrawn wr d) os).cell? _ = some _ := fun d os => (CX1.out.below (below_regrown wr d os) (Nat.lt_of_lt_of_le hbB V1.out.2.size)).2.2.2.2.2
          have y0 : ∀ d os, (Sort.grow (redrawn wr d) os).cell? _ = some _ := fun d os => (CY.out.below (below_regrown wr d os) V1.out.1.lt).1
          have y1 : ∀ d os, (Sort.grow (redrawn wr d) os).cell? _ = some _ := fun d os => (CY.out.below (below_regrown wr d os) V1.out.1.lt).2.1
          have y2 : ∀ d os, (Sort.grow (redrawn wr d) os).cell? _ = some _ := fun d os => (CY.out.below (below_regrown wr d os) V1.out.1.lt).2.2.1
          have y3 : ∀ d os, (Sort.grow (redrawn wr d) os).cell? _ = some _ := fun d os => (CY.out.below (below_regrown wr d os) V1.out.1.lt).2.2.2.1
          have y4 : ∀ d os, (Sort.grow (redrawn wr d) os).cell? _ = some _ := fun d os => (CY.out.below (below_regrown wr d os) V1.out.1.lt).2.2.2.2.1
          have y5 : ∀ d os, (Sort.grow (redrawn wr d) os).cell? _ = some _ := fun d os => (CY.out.below (below_regrown wr d os) V1.out.1.lt).2.2.2.2.2
          generalize L[kp] = y at *
          cases hlv : lr x y
          · have HT := Lib.hid hlv
            rw [hlv] at SP
            clear hlv
            go_wp2_with fail
            refine wp_region_quiet_below (by assumption) (by kernel_rfl) ?_
            repeat (quiet_step (first | (go_at_call 82; exact in_class SP.out)))
            refine wpQuiet_nil ?_
            intro w3 hw3
            have V3 := Lib.hid (V1.out.below (of_class hw3))
            have H2 := Lib.hid (ST.out HT.out)
            clear hw3 V1 x0 x1 x2 x3 x4 x5 y0 y1 y2 y3 y4 y5 SP NX ST CY CX1
            have hkp : (kp : Int) + 1 = ((kp + 1 : Nat) : Int) := by omega
            rw [hkp]
            clear hw1 hb1 hb2 hp0 hkp hkl FY HT hk0
            generalize kp + 1 = k at *
            have hkL : k ≤ L.length := by rw [LL.out]; exact hk
            have pk : (0 : Int) ≤ (k : Int) := by omega
            have bk1 : (k : Int) ≤ (i : Int) := by omega
            go_wp2_with fail
            by_cases hkc : cap = k
            · obtain rfl : k = i := by omega
              obtain rfl : k = cap := hkc.symm
              have S0 : (w3.cell? ⟨b, off + k * 6, none⟩ = some (.string x.name) ∧ w3.cell? ⟨b, off + k * 6 + 1, none⟩ = some (.int .i64 x.ty) ∧ w3.cell? ⟨b, off + k * 6 + 2, none⟩ = some (.int .i64 x.ttl) ∧ w3.cell? ⟨b, off + k * 6 + 3, none⟩ = some (.int .i64 x.n) ∧ w3.cell? ⟨b, off + k * 6 + 4, none⟩ = some (.string x.host) ∧ w3.cell? ⟨b, off + k * 6 + 5, none⟩ = some (.string x.text)) ∧ Sv w g L v w3 := ⟨CX.out.below V3.out.2 hbB, V3.out⟩
              have hq2 : w.heap.size ≤ w3.heap.size := V3.out.2.size
              have hgl : g < w3.heap.size := V3.out.1.lt
              have hi0 : (0 : Int) ≤ (k : Int) := by omega
              have hin : (k : Int) < (n : Int) := by omega
              have hic' : (k : Int) ≤ (k : Int) := by omega
              go_region_held3 (fun w' => (w'.cell? ⟨b, off + k * 6, none⟩ = some (.string x.name) ∧ w'.cell? ⟨b, off + k * 6 + 1, none⟩ = some (.int .i64 x.ty) ∧ w'.cell? ⟨b, off + k * 6 + 2, none⟩ = some (.int .i64 x.ttl) ∧ w'.cell? ⟨b, off + k * 6 + 3, none⟩ = some (.int .i64 x.n) ∧ w'.cell? ⟨b, off + k * 6 + 4, none⟩ = some (.string x.host) ∧ w'.cell? ⟨b, off + k * 6 + 5, none⟩ = some (.string x.text)) ∧ Sv w g L v w')
                (first | exact S0 | assumption | exact kept_draw hbB (by assumption) | exact kept_alloc hbB (by assumption) _ | exact kept_grown hbB (by assumption) hgrow3 hg2n hg2w | exact kept_grown hbB (by assumption) hgrow2 hg1n hg1w | exact kept_grown hbB (by assumption) hgrow1 hq3 hq4 | fail)
                (first
                  | (refine step_recs (by rfl) (.tmp 31) (.tmp 34) (by rfl) w3.heap.size w3.heap.size 0 0 [] (by rfl) (own_A w3) g 0 k k _ (L.take k) (by rfl) (take_sr (And.right (by assumption)) hkL) (by omega) (by omega) (by first | exact le_A _ _ | exact le_B _ _ _ | exact le_D _ _ | exact Nat.le_refl _ | assumption | exact Nat.le_trans hz1 (le_D _ _) | exact Nat.le_trans hz1 (le_A _ _)) k (Nat.zero_add _) (L.take k) rfl ?_; intro g1 c1 w4 hown1 hgrow1; have hg1 := owns_ge hown1; have hg1n : g1 ≠ g := (by omega); have hg1w : w.heap.size ≤ g1 := (by omega); have hz1 : w3.heap.size ≤ w4.heap.size := Nat.le_trans (by first | exact le_A _ _ | exact le_B _ _ _ | exact le_D _ _ | exact Nat.le_refl _ | assumption | exact Nat.le_trans hz1 (le_D _ _) | exact Nat.le_trans hz1 (le_A _ _)) hgrow1.size; have hq3 : w3.heap.size ≠ g := (by omega); have hq4 : w.heap.size ≤ w3.heap.size := (by omega))
                  | (refine step_recs (by rfl) (.tmp 31) (.tmp 34) (by rfl) w3.heap.size w3.heap.size 0 0 [] (by rfl) (own_B w3 _) g 0 k k _ (L.take k) (by rfl) (take_sr (And.right (by assumption)) hkL) (by omega) (by omega) (by first | exact le_A _ _ | exact le_B _ _ _ | exact le_D _ _ | exact Nat.le_refl _ | assumption | exact Nat.le_trans hz1 (le_D _ _) | exact Nat.le_trans hz1 (le_A _ _)) k (Nat.zero_add _) (L.take k) rfl ?_; intro g1 c1 w4 hown1 hgrow1; have hg1 := owns_ge hown1; have hg1n : g1 ≠ g := (by omega); have hg1w : w.heap.size ≤ g1 := (by omega); have hz1 : w3.heap.size ≤ w4.heap.size := Nat.le_trans (by first | exact le_A _ _ | exact le_B _ _ _ | exact le_D _ _ | exact Nat.le_refl _ | assumption | exact Nat.le_trans hz1 (le_D _ _) | exact Nat.le_trans hz1 (le_A _ _)) hgrow1.size; have hq3 : w3.heap.size ≠ g := (by omega); have hq4 : w.heap.size ≤ w3.heap.size := (by omega))
                  | (refine step_recs (by rfl) (.tmp 31) (.tmp 34) (by rfl) w3.heap.size (w3.heap.size + 1) 0 0 [] (by rfl) (own_C w3 _) g 0 k k _ (L.take k) (by rfl) (take_sr (And.right (by assumption)) hkL) (by omega) (by omega) (by first | exact le_A _ _ | exact le_B _ _ _ | exact le_D _ _ | exact Nat.le_refl _ | assumption | exact Nat.le_trans hz1 (le_D _ _) | exact Nat.le_trans hz1 (le_A _ _)) k (Nat.zero_add _) (L.take k) rfl ?_; intro g1 c1 w4 hown1 hgrow1; have hg1 := owns_ge hown1; have hg1n : g1 ≠ g := (by omega); have hg1w : w.heap.size ≤ g1 := (by omega); have hz1 : w3.heap.size ≤ w4.heap.size := Nat.le_trans (by first | exact le_A _ _ | exact le_B _ _ _ | exact le_D _ _ | exact Nat.le_refl _ | assumption | exact Nat.le_trans hz1 (le_D _ _) | exact Nat.le_trans hz1 (le_A _ _)) hgrow1.size; have hq3 : (w3.heap.size + 1) ≠ g := (by omega); have hq4 : w.heap.size ≤ (w3.heap.size + 1) := (by omega))
                  | (refine step_recs (by rfl) (.tmp 35) (.tmp 40) (by rfl) w3.heap.size g1 k c1 (L.take k) (by rfl) (hown1.alloc _) w4.heap.size 0 1 1 _ [x] (by rfl) (one_sr w4 x) (by omega) (by omega) (by first | exact le_A _ _ | exact le_B _ _ _ | exact le_D _ _ | exact Nat.le_refl _ | assumption | exact Nat.le_trans hz1 (le_D _ _) | exact Nat.le_trans hz1 (le_A _ _)) (k + 1) rfl ((L.take k) ++ [x]) rfl ?_; intro g2 c2 w5 hown2 hgrow2; have hg2 := owns_ge hown2; have hg2n : g2 ≠ g := (by omega); have hg2w : w.heap.size ≤ g2 := (by omega); have hz2 : w3.heap.size ≤ w5.heap.size := Nat.le_trans (Nat.le_trans hz1 (by first | exact le_A _ _ | exact le_B _ _ _ | exact le_D _ _ | exact Nat.le_refl _ | assumption | exact Nat.le_trans hz1 (le_D _ _) | exact Nat.le_trans hz1 (le_A _ _))) hgrow2.size)
                  | (refine step_recs (by rfl) (.tmp 35) (.tmp 40) (by rfl) w3.heap.size g1 k c1 (L.take k) (by rfl) (hown1.alloc _).drew w4.heap.size 0 1 1 _ [x] (by rfl) (one_sr w4 x) (by omega) (by omega) (by first | exact le_A _ _ | exact le_B _ _ _ | exact le_D _ _ | exact Nat.le_refl _ | assumption | exact Nat.le_trans hz1 (le_D _ _) | exact Nat.le_trans hz1 (le_A _ _)) (k + 1) rfl ((L.take k) ++ [x]) rfl ?_; intro g2 c2 w5 hown2 hgrow2; have hg2 := owns_ge hown2; have hg2n : g2 ≠ g := (by omega); have hg2w : w.heap.size ≤ g2 := (by omega); have hz2 : w3.heap.size ≤ w5.heap.size := Nat.le_trans (Nat.le_trans hz1 (by first | exact le_A _ _ | exact le_B _ _ _ | exact le_D _ _ | exact Nat.le_refl _ | assumption | exact Nat.le_trans hz1 (le_D _ _) | exact Nat.le_trans hz1 (le_A _ _))) hgrow2.size)
                  | (refine step_recs (by rfl) (.tmp 35) (.tmp 40) (by rfl) w3.heap.size g1 k c1 (L.take k) (by rfl) hown1 (w3.heap.size + 1) 0 1 1 _ [x] (by rfl) (xs_B hgrow1) (by omega) (by omega) (by first | exact le_A _ _ | exact le_B _ _ _ | exact le_D _ _ | exact Nat.le_refl _ | assumption | exact Nat.le_trans hz1 (le_D _ _) | exact Nat.le_trans hz1 (le_A _ _)) (k + 1) rfl ((L.take k) ++ [x]) rfl ?_; intro g2 c2 w5 hown2 hgrow2; have hg2 := owns_ge hown2; have hg2n : g2 ≠ g := (by omega); have hg2w : w.heap.size ≤ g2 := (by omega); have hz2 : w3.heap.size ≤ w5.heap.size := Nat.le_trans (Nat.le_trans hz1 (by first | exact le_A _ _ | exact le_B _ _ _ | exact le_D _ _ | exact Nat.le_refl _ | assumption | exact Nat.le_trans hz1 (le_D _ _) | exact Nat.le_trans hz1 (le_A _ _))) hgrow2.size)
                  | (refine step_recs (by rfl) (.tmp 35) (.tmp 40) (by rfl) w3.heap.size g1 k c1 (L.take k) (by rfl) hown1 w3.heap.size 0 1 1 _ [x] (by rfl) (xs_C hgrow1) (by omega) (by omega) (by first | exact le_A _ _ | exact le_B _ _ _ | exact le_D _ _ | exact Nat.le_refl _ | assumption | exact Nat.le_trans hz1 (le_D _ _) | exact Nat.le_trans hz1 (le_A _ _)) (k + 1) rfl ((L.take k) ++ [x]) rfl ?_; intro g2 c2 w5 hown2 hgrow2; have hg2 := owns_ge hown2; have hg2n : g2 ≠ g := (by omega); have hg2w : w.heap.size ≤ g2 := (by omega); have hz2 : w3.heap.size ≤ w5.heap.size := Nat.le_trans (Nat.le_trans hz1 (by first | exact le_A _ _ | exact le_B _ _ _ | exact le_D _ _ | exact Nat.le_refl _ | assumption | exact Nat.le_trans hz1 (le_D _ _) | exact Nat.le_trans hz1 (le_A _ _))) hgrow2.size)
                  | (refine step_recs (by rfl) (.tmp 41) (.tmp 44) (by rfl) w3.heap.size g2 (k + 1) c2 ((L.take k) ++ [x]) (by rfl) hown2 g 0 0 0 0 [] (by rfl) Sr.nil (by omega) (by omega) (by first | exact le_A _ _ | exact le_B _ _ _ | exact le_D _ _ | exact Nat.le_refl _ | assumption | exact Nat.le_trans hz1 (le_D _ _) | exact Nat.le_trans hz1 (le_A _ _)) (k + 1) (by omega) (L.take k ++ [x] ++ L.drop k) (by rw [List.drop_of_length_le (Nat.le_of_eq LL.out)]) ?_; intro g3 c3 w6 hown3 hgrow3)
                  | (refine step_recs (by rfl) (.tmp 41) (.tmp 44) (by rfl) w3.heap.size g2 (k + 1) c2 ((L.take k) ++ [x]) (by rfl) hown2 g 0 0 (k - k) 0 [] (by rfl) Sr.nil (by omega) (by omega) (by first | exact le_A _ _ | exact le_B _ _ _ | exact le_D _ _ | exact Nat.le_refl _ | assumption | exact Nat.le_trans hz1 (le_D _ _) | exact Nat.le_trans hz1 (le_A _ _)) (k + 1) (by omega) (L.take k ++ [x] ++ L.drop k) (by rw [List.drop_of_length_le (Nat.le_of_eq LL.out)]) ?_; intro g3 c3 w6 hown3 hgrow3)
                  | (refine step_recs (by rfl) (.tmp 41) (.tmp 44) (by rfl) w3.heap.size g2 (k + 1) c2 ((L.take k) ++ [x]) (by rfl) hown2 g (k * 6) 0 0 0 [] (by rfl) Sr.nil (by omega) (by omega) (by first | exact le_A _ _ | exact le_B _ _ _ | exact le_D _ _ | exact Nat.le_refl _ | assumption | exact Nat.le_trans hz1 (le_D _ _) | exact Nat.le_trans hz1 (le_A _ _)) (k + 1) (by omega) (L.take k ++ [x] ++ L.drop k) (by rw [List.drop_of_length_le (Nat.le_of_eq LL.out)]) ?_; intro g3 c3 w6 hown3 hgrow3)
                  | (refine step_recs (by rfl) (.tmp 41) (.tmp 44) (by rfl) w3.heap.size g2 (k + 1) c2 ((L.take k) ++ [x]) (by rfl) hown2 g (k * 6) 0 (k - k) 0 [] (by rfl) Sr.nil (by omega) (by omega) (by first | exact le_A _ _ | exact le_B _ _ _ | exact le_D _ _ | exact Nat.le_refl _ | assumption | exact Nat.le_trans hz1 (le_D _ _) | exact Nat.le_trans hz1 (le_A _ _)) (k + 1) (by omega) (L.take k ++ [x] ++ L.drop k) (by rw [List.drop_of_length_le (Nat.le_of_eq LL.out)]) ?_; intro g3 c3 w6 hown3 hgrow3)
                  | (refine step_recs (by rfl) (.tmp 41) (.tmp 44) (by rfl) w3.heap.size g2 (k + 1) c2 ((L.take k) ++ [x]) (by rfl) hown2 g 0 (k - k) (k - k) 0 [] (by rfl) (by rw [Nat.sub_self]; exact Sr.nil) (by omega) (by omega) (by first | exact le_A _ _ | exact le_B _ _ _ | exact le_D _ _ | exact Nat.le_refl _ | assumption | exact Nat.le_trans hz1 (le_D _ _) | exact Nat.le_trans hz1 (le_A _ _)) (k + 1) (by omega) (L.take k ++ [x] ++ L.drop k) (by rw [List.drop_of_length_le (Nat.le_of_eq LL.out)]) ?_; intro g3 c3 w6 hown3 hgrow3)
                  | (refine step_recs (by rfl) (.tmp 41) (.tmp 44) (by rfl) w3.heap.size g2 (k + 1) c2 ((L.take k) ++ [x]) (by rfl) hown2 g (k * 6) (k - k) (k - k) 0 [] (by rfl) (by rw [Nat.sub_self]; exact Sr.nil) (by omega) (by omega) (by first | exact le_A _ _ | exact le_B _ _ _ | exact le_D _ _ | exact Nat.le_refl _ | assumption | exact Nat.le_trans hz1 (le_D _ _) | exact Nat.le_trans hz1 (le_A _ _)) (k + 1) (by omega) (L.take k ++ [x] ++ L.drop k) (by rw [List.drop_of_length_le (Nat.le_of_eq LL.out)]) ?_; intro g3 c3 w6 hown3 hgrow3)
                  | fail)
              all_goals
                rename_i hH
                have hg3 := owns_ge hown3
                obtain ⟨r3, hb3, _, hc3, _⟩ := bk_of_owns6 hown3
                have hSv := hH.2
                have SN := Lib.hid (show Srt (l.take (k + 1)) (L.take k ++ [x] ++ L.drop k) from by rw [TK.out]; exact srt_insert SR.out hkL UP.out H2.out)
                have VN := Lib.hid (show Sv w g3 (L.take k ++ [x] ++ L.drop k) r3 w6 from ⟨hb3, hSv.2⟩)
                clear hb3 hSv hown3 hgrow3 S0 hH
                go_wp2
                go_roundw
                case rel => exact ⟨k + 1, g3, c3, _, r3, rfl, by go_num, by omega, hc3, by omega, SN.out, VN.out⟩
                case measure => simp [intOf]; omega

            · have hkc2 : k < cap := by omega
              have bk2 : (k : Int) < (cap : Int) := by omega
              have bk3 : (k : Int) ≤ (cap : Int) := by omega
              have S0 : (w3.cell? ⟨b, off + i * 6, none⟩ = some (.string x.name) ∧ w3.cell? ⟨b, off + i * 6 + 1, none⟩ = some (.int .i64 x.ty) ∧ w3.cell? ⟨b, off + i * 6 + 2, none⟩ = some (.int .i64 x.ttl) ∧ w3.cell? ⟨b, off + i * 6 + 3, none⟩ = some (.int .i64 x.n) ∧ w3.cell? ⟨b, off + i * 6 + 4, none⟩ = some (.string x.host) ∧ w3.cell? ⟨b, off + i * 6 + 5, none⟩ = some (.string x.text)) ∧ Sv w g L v w3 := ⟨CX.out.below V3.out.2 hbB, V3.out⟩
              have hq2 : w.heap.size ≤ w3.heap.size := V3.out.2.size
              have hgl : g < w3.heap.size := V3.out.1.lt
              have hi0 : (0 : Int) ≤ (i : Int) := by omega
              have hin : (i : Int) < (n : Int) := by omega
              have hic' : (i : Int) ≤ (cap : Int) := by omega
              go_region_held3 (fun w' => (w'.cell? ⟨b, off + i * 6, none⟩ = some (.string x.name) ∧ w'.cell? ⟨b, off + i * 6 + 1, none⟩ = some (.int .i64 x.ty) ∧ w'.cell? ⟨b, off + i * 6 + 2, none⟩ = some (.int .i64 x.ttl) ∧ w'.cell? ⟨b, off + i * 6 + 3, none⟩ = some (.int .i64 x.n) ∧ w'.cell? ⟨b, off + i * 6 + 4, none⟩ = some (.string x.host) ∧ w'.cell? ⟨b, off + i * 6 + 5, none⟩ = some (.string x.text)) ∧ Sv w g L v w')
                (first | exact S0 | assumption | exact kept_draw hbB (by assumption) | exact kept_alloc hbB (by assumption) _ | exact kept_grown hbB (by assumption) hgrow3 hg2n hg2w | exact kept_grown hbB (by assumption) hgrow2 hg1n hg1w | exact kept_grown hbB (by assumption) hgrow1 hq3 hq4 | fail)
                (first
                  | (refine step_recs (by rfl) (.tmp 31) (.tmp 34) (by rfl) w3.heap.size w3.heap.size 0 0 [] (by rfl) (own_A w3) g 0 k cap _ (L.take k) (by rfl) (take_sr (And.right (by assumption)) hkL) (by omega) (by omega) (by first | exact le_A _ _ | exact le_B _ _ _ | exact le_D _ _ | exact Nat.le_refl _ | assumption | exact Nat.le_trans hz1 (le_D _ _) | exact Nat.le_trans hz1 (le_A _ _)) k (Nat.zero_add _) (L.take k) rfl ?_; intro g1 c1 w4 hown1 hgrow1; have hg1 := owns_ge hown1; have hg1n : g1 ≠ g := (by omega); have hg1w : w.heap.size ≤ g1 := (by omega); have hz1 : w3.heap.size ≤ w4.heap.size := Nat.le_trans (by first | exact le_A _ _ | exact le_B _ _ _ | exact le_D _ _ | exact Nat.le_refl _ | assumption | exact Nat.le_trans hz1 (le_D _ _) | exact Nat.le_trans hz1 (le_A _ _)) hgrow1.size; have hq3 : w3.heap.size ≠ g := (by omega); have hq4 : w.heap.size ≤ w3.heap.size := (by omega))
                  | (refine step_recs (by rfl) (.tmp 31) (.tmp 34) (by rfl) w3.heap.size w3.heap.size 0 0 [] (by rfl) (own_B w3 _) g 0 k cap _ (L.take k) (by rfl) (take_sr (And.right (by assumption)) hkL) (by omega) (by omega) (by first | exact le_A _ _ | exact le_B _ _ _ | exact le_D _ _ | exact Nat.le_refl _ | assumption | exact Nat.le_trans hz1 (le_D _ _) | exact Nat.le_trans hz1 (le_A _ _)) k (Nat.zero_add _) (L.take k) rfl ?_; intro g1 c1 w4 hown1 hgrow1; have hg1 := owns_ge hown1; have hg1n : g1 ≠ g := (by omega); have hg1w : w.heap.size ≤ g1 := (by omega); have hz1 : w3.heap.size ≤ w4.heap.size := Nat.le_trans (by first | exact le_A _ _ | exact le_B _ _ _ | exact le_D _ _ | exact Nat.le_refl _ | assumption | exact Nat.le_trans hz1 (le_D _ _) | exact Nat.le_trans hz1 (le_A _ _)) hgrow1.size; have hq3 : w3.heap.size ≠ g := (by omega); have hq4 : w.heap.size ≤ w3.heap.size := (by omega))
                  | (refine step_recs (by rfl) (.tmp 31) (.tmp 34) (by rfl) w3.heap.size (w3.heap.size + 1) 0 0 [] (by rfl) (own_C w3 _) g 0 k cap _ (L.take k) (by rfl) (take_sr (And.right (by assumption)) hkL) (by omega) (by omega) (by first | exact le_A _ _ | exact le_B _ _ _ | exact le_D _ _ | exact Nat.le_refl _ | assumption | exact Nat.le_trans hz1 (le_D _ _) | exact Nat.le_trans hz1 (le_A _ _)) k (Nat.zero_add _) (L.take k) rfl ?_; intro g1 c1 w4 hown1 hgrow1; have hg1 := owns_ge hown1; have hg1n : g1 ≠ g := (by omega); have hg1w : w.heap.size ≤ g1 := (by omega); have hz1 : w3.heap.size ≤ w4.heap.size := Nat.le_trans (by first | exact le_A _ _ | exact le_B _ _ _ | exact le_D _ _ | exact Nat.le_refl _ | assumption | exact Nat.le_trans hz1 (le_D _ _) | exact Nat.le_trans hz1 (le_A _ _)) hgrow1.size; have hq3 : (w3.heap.size + 1) ≠ g := (by omega); have hq4 : w.heap.size ≤ (w3.heap.size + 1) := (by omega))
                  | (refine step_recs (by rfl) (.tmp 35) (.tmp 40) (by rfl) w3.heap.size g1 k c1 (L.take k) (by rfl) (hown1.alloc _) w4.heap.size 0 1 1 _ [x] (by rfl) (one_sr w4 x) (by omega) (by omega) (by first | exact le_A _ _ | exact le_B _ _ _ | exact le_D _ _ | exact Nat.le_refl _ | assumption | exact Nat.le_trans hz1 (le_D _ _) | exact Nat.le_trans hz1 (le_A _ _)) (k + 1) rfl ((L.take k) ++ [x]) rfl ?_; intro g2 c2 w5 hown2 hgrow2; have hg2 := owns_ge hown2; have hg2n : g2 ≠ g := (by omega); have hg2w : w.heap.size ≤ g2 := (by omega); have hz2 : w3.heap.size ≤ w5.heap.size := Nat.le_trans (Nat.le_trans hz1 (by first | exact le_A _ _ | exact le_B _ _ _ | exact le_D _ _ | exact Nat.le_refl _ | assumption | exact Nat.le_trans hz1 (le_D _ _) | exact Nat.le_trans hz1 (le_A _ _))) hgrow2.size)
                  | (refine step_recs (by rfl) (.tmp 35) (.tmp 40) (by rfl) w3.heap.size g1 k c1 (L.take k) (by rfl) (hown1.alloc _).drew w4.heap.size 0 1 1 _ [x] (by rfl) (one_sr w4 x) (by omega) (by omega) (by first | exact le_A _ _ | exact le_B _ _ _ | exact le_D _ _ | exact Nat.le_refl _ | assumption | exact Nat.le_trans hz1 (le_D _ _) | exact Nat.le_trans hz1 (le_A _ _)) (k + 1) rfl ((L.take k) ++ [x]) rfl ?_; intro g2 c2 w5 hown2 hgrow2; have hg2 := owns_ge hown2; have hg2n : g2 ≠ g := (by omega); have hg2w : w.heap.size ≤ g2 := (by omega); have hz2 : w3.heap.size ≤ w5.heap.size := Nat.le_trans (Nat.le_trans hz1 (by first | exact le_A _ _ | exact le_B _ _ _ | exact le_D _ _ | exact Nat.le_refl _ | assumption | exact Nat.le_trans hz1 (le_D _ _) | exact Nat.le_trans hz1 (le_A _ _))) hgrow2.size)
                  | (refine step_recs (by rfl) (.tmp 35) (.tmp 40) (by rfl) w3.heap.size g1 k c1 (L.take k) (by rfl) hown1 (w3.heap.size + 1) 0 1 1 _ [x] (by rfl) (xs_B hgrow1) (by omega) (by omega) (by first | exact le_A _ _ | exact le_B _ _ _ | exact le_D _ _ | exact Nat.le_refl _ | assumption | exact Nat.le_trans hz1 (le_D _ _) | exact Nat.le_trans hz1 (le_A _ _)) (k + 1) rfl ((L.take k) ++ [x]) rfl ?_; intro g2 c2 w5 hown2 hgrow2; have hg2 := owns_ge hown2; have hg2n : g2 ≠ g := (by omega); have hg2w : w.heap.size ≤ g2 := (by omega); have hz2 : w3.heap.size ≤ w5.heap.size := Nat.le_trans (Nat.le_trans hz1 (by first | exact le_A _ _ | exact le_B _ _ _ | exact le_D _ _ | exact Nat.le_refl _ | assumption | exact Nat.le_trans hz1 (le_D _ _) | exact Nat.le_trans hz1 (le_A _ _))) hgrow2.size)
                  | (refine step_recs (by rfl) (.tmp 35) (.tmp 40) (by rfl) w3.heap.size g1 k c1 (L.take k) (by rfl) hown1 w3.heap.size 0 1 1 _ [x] (by rfl) (xs_C hgrow1) (by omega) (by omega) (by first | exact le_A _ _ | exact le_B _ _ _ | exact le_D _ _ | exact Nat.le_refl _ | assumption | exact Nat.le_trans hz1 (le_D _ _) | exact Nat.le_trans hz1 (le_A _ _)) (k + 1) rfl ((L.take k) ++ [x]) rfl ?_; intro g2 c2 w5 hown2 hgrow2; have hg2 := owns_ge hown2; have hg2n : g2 ≠ g := (by omega); have hg2w : w.heap.size ≤ g2 := (by omega); have hz2 : w3.heap.size ≤ w5.heap.size := Nat.le_trans (Nat.le_trans hz1 (by first | exact le_A _ _ | exact le_B _ _ _ | exact le_D _ _ | exact Nat.le_refl _ | assumption | exact Nat.le_trans hz1 (le_D _ _) | exact Nat.le_trans hz1 (le_A _ _))) hgrow2.size)
                  | (refine step_recs (by rfl) (.tmp 41) (.tmp 44) (by rfl) w3.heap.size g2 (k + 1) c2 ((L.take k) ++ [x]) (by rfl) hown2 g (k * 6) (i - k) (cap - k) _ (L.drop k) (by rfl) (by rw [← LL.out]; exact drop_sr (And.right (by assumption)) hkL) (by omega) (by omega) (by first | exact le_A _ _ | exact le_B _ _ _ | exact le_D _ _ | exact Nat.le_refl _ | assumption | exact Nat.le_trans hz1 (le_D _ _) | exact Nat.le_trans hz1 (le_A _ _)) (i + 1) (by omega) (L.take k ++ [x] ++ L.drop k) rfl ?_; intro g3 c3 w6 hown3 hgrow3)
                  | fail)
              all_goals
                rename_i hH
                have hg3 := owns_ge hown3
                obtain ⟨r3, hb3, _, hc3, _⟩ := bk_of_owns6 hown3
                have hSv := hH.2
                have SN := Lib.hid (show Srt (l.take (i + 1)) (L.take k ++ [x] ++ L.drop k) from by rw [TK.out]; exact srt_insert SR.out hkL UP.out H2.out)
                have VN := Lib.hid (show Sv w g3 (L.take k ++ [x] ++ L.drop k) r3 w6 from ⟨hb3, hSv.2⟩)
                clear hb3 hSv hown3 hgrow3 S0 hH
                go_wp2
                go_roundw
                case rel => exact ⟨i + 1, g3, c3, _, r3, rfl, by go_num, by omega, hc3, by omega, SN.out, VN.out⟩
                case measure => simp [intOf]; omega

          · have HT := Lib.hid hlv
            rw [hlv] at SP
            clear hlv
            go_wp2_with fail
            refine wp_region_quiet_below (by assumption) (by kernel_rfl) ?_
            repeat (quiet_step (first | (go_at_call 82; exact in_class SP.out)))
            refine wpQuiet_nil ?_
            intro w3 hw3
            have V3 := Lib.hid (V1.out.below (of_class hw3))
            have N3 := Lib.hid (NX.out HT.out)
            clear hw3 V1 x0 x1 x2 x3 x4 x5 y0 y1 y2 y3 y4 y5 SP NX ST CY CX1
            go_wp2
            go_roundw
            case rel => exact ⟨kp, by first | rfl | go_num, by omega, N3.out, V3.out⟩
            case measure => simp [intOf]
        · have H2 : Hid (k = 0 ∨ ∃ hk' : k - 1 < L.length, lr x L[k - 1] = false) := Or.inl (by omega)
          have V3' := Lib.hid (V1.out.below ((Below.refl _ _).drew))
          have HK := Lib.hid hk
          clear V1 hk
          generalize hz : (k : Int) = z
          have HZ := Lib.hid hz
          have hz0 : ¬ (0 : Int) < z := by have := HZ.out; omega
          have hzd : decide (z > 0) = false := decide_eq_false hz0
          clear hz hk0
          go_wp2_with fail
          go_big_region
          generalize wr.drew = w3 at V3' ⊢
          have V3 := Lib.hid V3'.out
          clear V3' hz0 hzd
          obtain rfl : (k : Int) = z := HZ.out
          have hk := HK.out
          clear HZ HK
          have hkL : k ≤ L.length := by rw [LL.out]; exact hk
          have pk : (0 : Int) ≤ (k : Int) := by omega
          have bk1 : (k : Int) ≤ (i : Int) := by omega
          go_wp2_with fail
          by_cases hkc : cap = k
          · obtain rfl : k = i := by omega
            obtain rfl : k = cap := hkc.symm
            have S0 : (w3.cell? ⟨b, off + k * 6, none⟩ = some (.string x.name) ∧ w3.cell? ⟨b, off + k * 6 + 1, none⟩ = some (.int .i64 x.ty) ∧ w3.cell? ⟨b, off + k * 6 + 2, none⟩ = some (.int .i64 x.ttl) ∧ w3.cell? ⟨b, off + k * 6 + 3, none⟩ = some (.int .i64 x.n) ∧ w3.cell? ⟨b, off + k * 6 + 4, none⟩ = some (.string x.host) ∧ w3.cell? ⟨b, off + k * 6 + 5, none⟩ = some (.string x.text)) ∧ Sv w g L v w3 := ⟨CX.out.below V3.out.2 hbB, V3.out⟩
            have hq2 : w.heap.size ≤ w3.heap.size := V3.out.2.size
            have hgl : g < w3.heap.size := V3.out.1.lt
            have hi0 : (0 : Int) ≤ (k : Int) := by omega
            have hin : (k : Int) < (n : Int) := by omega
            have hic' : (k : Int) ≤ (k : Int) := by omega
            go_region_held3 (fun w' => (w'.cell? ⟨b, off + k * 6, none⟩ = some (.string x.name) ∧ w'.cell? ⟨b, off + k * 6 + 1, none⟩ = some (.int .i64 x.ty) ∧ w'.cell? ⟨b, off + k * 6 + 2, none⟩ = some (.int .i64 x.ttl) ∧ w'.cell? ⟨b, off + k * 6 + 3, none⟩ = some (.int .i64 x.n) ∧ w'.cell? ⟨b, off + k * 6 + 4, none⟩ = some (.string x.host) ∧ w'.cell? ⟨b, off + k * 6 + 5, none⟩ = some (.string x.text)) ∧ Sv w g L v w')
              (first | exact S0 | assumption | exact kept_draw hbB (by assumption) | exact kept_alloc hbB (by assumption) _ | exact kept_grown hbB (by assumption) hgrow3 hg2n hg2w | exact kept_grown hbB (by assumption) hgrow2 hg1n hg1w | exact kept_grown hbB (by assumption) hgrow1 hq3 hq4 | fail)
              (first
                | (refine step_recs (by rfl) (.tmp 31) (.tmp 34) (by rfl) w3.heap.size w3.heap.size 0 0 [] (by rfl) (own_A w3) g 0 k k _ (L.take k) (by rfl) (take_sr (And.right (by assumption)) hkL) (by omega) (by omega) (by first | exact le_A _ _ | exact le_B _ _ _ | exact le_D _ _ | exact Nat.le_refl _ | assumption | exact Nat.le_trans hz1 (le_D _ _) | exact Nat.le_trans hz1 (le_A _ _)) k (Nat.zero_add _) (L.take k) rfl ?_; intro g1 c1 w4 hown1 hgrow1; have hg1 := owns_ge hown1; have hg1n : g1 ≠ g := (by omega); have hg1w : w.heap.size ≤ g1 := (by omega); have hz1 : w3.heap.size ≤ w4.heap.size := Nat.le_trans (by first | exact le_A _ _ | exact le_B _ _ _ | exact le_D _ _ | exact Nat.le_refl _ | assumption | exact Nat.le_trans hz1 (le_D _ _) | exact Nat.le_trans hz1 (le_A _ _)) hgrow1.size; have hq3 : w3.heap.size ≠ g := (by omega); have hq4 : w.heap.size ≤ w3.heap.size := (by omega))
                | (refine step_recs (by rfl) (.tmp 31) (.tmp 34) (by rfl) w3.heap.size w3.heap.size 0 0 [] (by rfl) (own_B w3 _) g 0 k k _ (L.take k) (by rfl) (take_sr (And.right (by assumption)) hkL) (by omega) (by omega) (by first | exact le_A _ _ | exact le_B _ _ _ | exact le_D _ _ | exact Nat.le_refl _ | assumption | exact Nat.le_trans hz1 (le_D _ _) | exact Nat.le_trans hz1 (le_A _ _)) k (Nat.zero_add _) (L.take k) rfl ?_; intro g1 c1 w4 hown1 hgrow1; have hg1 := owns_ge hown1; have hg1n : g1 ≠ g := (by omega); have hg1w : w.heap.size ≤ g1 := (by omega); have hz1 : w3.heap.size ≤ w4.heap.size := Nat.le_trans (by first | exact le_A _ _ | exact le_B _ _ _ | exact le_D _ _ | exact Nat.le_refl _ | assumption | exact Nat.le_trans hz1 (le_D _ _) | exact Nat.le_trans hz1 (le_A _ _)) hgrow1.size; have hq3 : w3.heap.size ≠ g := (by omega); have hq4 : w.heap.size ≤ w3.heap.size := (by omega))
                | (refine step_recs (by rfl) (.tmp 31) (.tmp 34) (by rfl) w3.heap.size (w3.heap.size + 1) 0 0 [] (by rfl) (own_C w3 _) g 0 k k _ (L.take k) (by rfl) (take_sr (And.right (by assumption)) hkL) (by omega) (by omega) (by first | exact le_A _ _ | exact le_B _ _ _ | exact le_D _ _ | exact Nat.le_refl _ | assumption | exact Nat.le_trans hz1 (le_D _ _) | exact Nat.le_trans hz1 (le_A _ _)) k (Nat.zero_add _) (L.take k) rfl ?_; intro g1 c1 w4 hown1 hgrow1; have hg1 := owns_ge hown1; have hg1n : g1 ≠ g := (by omega); have hg1w : w.heap.size ≤ g1 := (by omega); have hz1 : w3.heap.size ≤ w4.heap.size := Nat.le_trans (by first | exact le_A _ _ | exact le_B _ _ _ | exact le_D _ _ | exact Nat.le_refl _ | assumption | exact Nat.le_trans hz1 (le_D _ _) | exact Nat.le_trans hz1 (le_A _ _)) hgrow1.size; have hq3 : (w3.heap.size + 1) ≠ g := (by omega); have hq4 : w.heap.size ≤ (w3.heap.size + 1) := (by omega))
                | (refine step_recs (by rfl) (.tmp 35) (.tmp 40) (by rfl) w3.heap.size g1 k c1 (L.take k) (by rfl) (hown1.alloc _) w4.heap.size 0 1 1 _ [x] (by rfl) (one_sr w4 x) (by omega) (by omega) (by first | exact le_A _ _ | exact le_B _ _ _ | exact le_D _ _ | exact Nat.le_refl _ | assumption | exact Nat.le_trans hz1 (le_D _ _) | exact Nat.le_trans hz1 (le_A _ _)) (k + 1) rfl ((L.take k) ++ [x]) rfl ?_; intro g2 c2 w5 hown2 hgrow2; have hg2 := owns_ge hown2; have hg2n : g2 ≠ g := (by omega); have hg2w : w.heap.size ≤ g2 := (by omega); have hz2 : w3.heap.size ≤ w5.heap.size := Nat.le_trans (Nat.le_trans hz1 (by first | exact le_A _ _ | exact le_B _ _ _ | exact le_D _ _ | exact Nat.le_refl _ | assumption | exact Nat.le_trans hz1 (le_D _ _) | exact Nat.le_trans hz1 (le_A _ _))) hgrow2.size)
                | (refine step_recs (by rfl) (.tmp 35) (.tmp 40) (by rfl) w3.heap.size g1 k c1 (L.take k) (by rfl) (hown1.alloc _).drew w4.heap.size 0 1 1 _ [x] (by rfl) (one_sr w4 x) (by omega) (by omega) (by first | exact le_A _ _ | exact le_B _ _ _ | exact le_D _ _ | exact Nat.le_refl _ | assumption | exact Nat.le_trans hz1 (le_D _ _) | exact Nat.le_trans hz1 (le_A _ _)) (k + 1) rfl ((L.take k) ++ [x]) rfl ?_; intro g2 c2 w5 hown2 hgrow2; have hg2 := owns_ge hown2; have hg2n : g2 ≠ g := (by omega); have hg2w : w.heap.size ≤ g2 := (by omega); have hz2 : w3.heap.size ≤ w5.heap.size := Nat.le_trans (Nat.le_trans hz1 (by first | exact le_A _ _ | exact le_B _ _ _ | exact le_D _ _ | exact Nat.le_refl _ | assumption | exact Nat.le_trans hz1 (le_D _ _) | exact Nat.le_trans hz1 (le_A _ _))) hgrow2.size)
                | (refine step_recs (by rfl) (.tmp 35) (.tmp 40) (by rfl) w3.heap.size g1 k c1 (L.take k) (by rfl) hown1 (w3.heap.size + 1) 0 1 1 _ [x] (by rfl) (xs_B hgrow1) (by omega) (by omega) (by first | exact le_A _ _ | exact le_B _ _ _ | exact le_D _ _ | exact Nat.le_refl _ | assumption | exact Nat.le_trans hz1 (le_D _ _) | exact Nat.le_trans hz1 (le_A _ _)) (k + 1) rfl ((L.take k) ++ [x]) rfl ?_; intro g2 c2 w5 hown2 hgrow2; have hg2 := owns_ge hown2; have hg2n : g2 ≠ g := (by omega); have hg2w : w.heap.size ≤ g2 := (by omega); have hz2 : w3.heap.size ≤ w5.heap.size := Nat.le_trans (Nat.le_trans hz1 (by first | exact le_A _ _ | exact le_B _ _ _ | exact le_D _ _ | exact Nat.le_refl _ | assumption | exact Nat.le_trans hz1 (le_D _ _) | exact Nat.le_trans hz1 (le_A _ _))) hgrow2.size)
                | (refine step_recs (by rfl) (.tmp 35) (.tmp 40) (by rfl) w3.heap.size g1 k c1 (L.take k) (by rfl) hown1 w3.heap.size 0 1 1 _ [x] (by rfl) (xs_C hgrow1) (by omega) (by omega) (by first | exact le_A _ _ | exact le_B _ _ _ | exact le_D _ _ | exact Nat.le_refl _ | assumption | exact Nat.le_trans hz1 (le_D _ _) | exact Nat.le_trans hz1 (le_A _ _)) (k + 1) rfl ((L.take k) ++ [x]) rfl ?_; intro g2 c2 w5 hown2 hgrow2; have hg2 := owns_ge hown2; have hg2n : g2 ≠ g := (by omega); have hg2w : w.heap.size ≤ g2 := (by omega); have hz2 : w3.heap.size ≤ w5.heap.size := Nat.le_trans (Nat.le_trans hz1 (by first | exact le_A _ _ | exact le_B _ _ _ | exact le_D _ _ | exact Nat.le_refl _ | assumption | exact Nat.le_trans hz1 (le_D _ _) | exact Nat.le_trans hz1 (le_A _ _))) hgrow2.size)
                | (refine step_recs (by rfl) (.tmp 41) (.tmp 44) (by rfl) w3.heap.size g2 (k + 1) c2 ((L.take k) ++ [x]) (by rfl) hown2 g 0 0 0 0 [] (by rfl) Sr.nil (by omega) (by omega) (by first | exact le_A _ _ | exact le_B _ _ _ | exact le_D _ _ | exact Nat.le_refl _ | assumption | exact Nat.le_trans hz1 (le_D _ _) | exact Nat.le_trans hz1 (le_A _ _)) (k + 1) (by omega) (L.take k ++ [x] ++ L.drop k) (by rw [List.drop_of_length_le (Nat.le_of_eq LL.out)]) ?_; intro g3 c3 w6 hown3 hgrow3)
                | (refine step_recs (by rfl) (.tmp 41) (.tmp 44) (by rfl) w3.heap.size g2 (k + 1) c2 ((L.take k) ++ [x]) (by rfl) hown2 g 0 0 (k - k) 0 [] (by rfl) Sr.nil (by omega) (by omega) (by first | exact le_A _ _ | exact le_B _ _ _ | exact le_D _ _ | exact Nat.le_refl _ | assumption | exact Nat.le_trans hz1 (le_D _ _) | exact Nat.le_trans hz1 (le_A _ _)) (k + 1) (by omega) (L.take k ++ [x] ++ L.drop k) (by rw [List.drop_of_length_le (Nat.le_of_eq LL.out)]) ?_; intro g3 c3 w6 hown3 hgrow3)
                | (refine step_recs (by rfl) (.tmp 41) (.tmp 44) (by rfl) w3.heap.size g2 (k + 1) c2 ((L.take k) ++ [x]) (by rfl) hown2 g (k * 6) 0 0 0 [] (by rfl) Sr.nil (by omega) (by omega) (by first | exact le_A _ _ | exact le_B _ _ _ | exact le_D _ _ | exact Nat.le_refl _ | assumption | exact Nat.le_trans hz1 (le_D _ _) | exact Nat.le_trans hz1 (le_A _ _)) (k + 1) (by omega) (L.take k ++ [x] ++ L.drop k) (by rw [List.drop_of_length_le (Nat.le_of_eq LL.out)]) ?_; intro g3 c3 w6 hown3 hgrow3)
                | (refine step_recs (by rfl) (.tmp 41) (.tmp 44) (by rfl) w3.heap.size g2 (k + 1) c2 ((L.take k) ++ [x]) (by rfl) hown2 g (k * 6) 0 (k - k) 0 [] (by rfl) Sr.nil (by omega) (by omega) (by first | exact le_A _ _ | exact le_B _ _ _ | exact le_D _ _ | exact Nat.le_refl _ | assumption | exact Nat.le_trans hz1 (le_D _ _) | exact Nat.le_trans hz1 (le_A _ _)) (k + 1) (by omega) (L.take k ++ [x] ++ L.drop k) (by rw [List.drop_of_length_le (Nat.le_of_eq LL.out)]) ?_; intro g3 c3 w6 hown3 hgrow3)
                | (refine step_recs (by rfl) (.tmp 41) (.tmp 44) (by rfl) w3.heap.size g2 (k + 1) c2 ((L.take k) ++ [x]) (by rfl) hown2 g 0 (k - k) (k - k) 0 [] (by rfl) (by rw [Nat.sub_self]; exact Sr.nil) (by omega) (by omega) (by first | exact le_A _ _ | exact le_B _ _ _ | exact le_D _ _ | exact Nat.le_refl _ | assumption | exact Nat.le_trans hz1 (le_D _ _) | exact Nat.le_trans hz1 (le_A _ _)) (k + 1) (by omega) (L.take k ++ [x] ++ L.drop k) (by rw [List.drop_of_length_le (Nat.le_of_eq LL.out)]) ?_; intro g3 c3 w6 hown3 hgrow3)
                | (refine step_recs (by rfl) (.tmp 41) (.tmp 44) (by rfl) w3.heap.size g2 (k + 1) c2 ((L.take k) ++ [x]) (by rfl) hown2 g (k * 6) (k - k) (k - k) 0 [] (by rfl) (by rw [Nat.sub_self]; exact Sr.nil) (by omega) (by omega) (by first | exact le_A _ _ | exact le_B _ _ _ | exact le_D _ _ | exact Nat.le_refl _ | assumption | exact Nat.le_trans hz1 (le_D _ _) | exact Nat.le_trans hz1 (le_A _ _)) (k + 1) (by omega) (L.take k ++ [x] ++ L.drop k) (by rw [List.drop_of_length_le (Nat.le_of_eq LL.out)]) ?_; intro g3 c3 w6 hown3 hgrow3)
                | fail)
            all_goals
              rename_i hH
              have hg3 := owns_ge hown3
              obtain ⟨r3, hb3, _, hc3, _⟩ := bk_of_owns6 hown3
              have hSv := hH.2
              have SN := Lib.hid (show Srt (l.take (k + 1)) (L.take k ++ [x] ++ L.drop k) from by rw [TK.out]; exact srt_insert SR.out hkL UP.out H2.out)
              have VN := Lib.hid (show Sv w g3 (L.take k ++ [x] ++ L.drop k) r3 w6 from ⟨hb3, hSv.2⟩)
              clear hb3 hSv hown3 hgrow3 S0 hH
              go_wp2
              go_roundw
              case rel => exact ⟨k + 1, g3, c3, _, r3, rfl, by go_num, by omega, hc3, by omega, SN.out, VN.out⟩
              case measure => simp [intOf]; omega

          · have hkc2 : k < cap := by omega
            have bk2 : (k : Int) < (cap : Int) := by omega
            have bk3 : (k : Int) ≤ (cap : Int) := by omega
            have S0 : (w3.cell? ⟨b, off + i * 6, none⟩ = some (.string x.name) ∧ w3.cell? ⟨b, off + i * 6 + 1, none⟩ = some (.int .i64 x.ty) ∧ w3.cell? ⟨b, off + i * 6 + 2, none⟩ = some (.int .i64 x.ttl) ∧ w3.cell? ⟨b, off + i * 6 + 3, none⟩ = some (.int .i64 x.n) ∧ w3.cell? ⟨b, off + i * 6 + 4, none⟩ = some (.string x.host) ∧ w3.cell? ⟨b, off + i * 6 + 5, none⟩ = some (.string x.text)) ∧ Sv w g L v w3 := ⟨CX.out.below V3.out.2 hbB, V3.out⟩
            have hq2 : w.heap.size ≤ w3.heap.size := V3.out.2.size
            have hgl : g < w3.heap.size := V3.out.1.lt
            have hi0 : (0 : Int) ≤ (i : Int) := by omega
            have hin : (i : Int) < (n : Int) := by omega
            have hic' : (i : Int) ≤ (cap : Int) := by omega
            go_region_held3 (fun w' => (w'.cell? ⟨b, off + i * 6, none⟩ = some (.string x.name) ∧ w'.cell? ⟨b, off + i * 6 + 1, none⟩ = some (.int .i64 x.ty) ∧ w'.cell? ⟨b, off + i * 6 + 2, none⟩ = some (.int .i64 x.ttl) ∧ w'.cell? ⟨b, off + i * 6 + 3, none⟩ = some (.int .i64 x.n) ∧ w'.cell? ⟨b, off + i * 6 + 4, none⟩ = some (.string x.host) ∧ w'.cell? ⟨b, off + i * 6 + 5, none⟩ = some (.string x.text)) ∧ Sv w g L v w')
              (first | exact S0 | assumption | exact kept_draw hbB (by assumption) | exact kept_alloc hbB (by assumption) _ | exact kept_grown hbB (by assumption) hgrow3 hg2n hg2w | exact kept_grown hbB (by assumption) hgrow2 hg1n hg1w | exact kept_grown hbB (by assumption) hgrow1 hq3 hq4 | fail)
              (first
                | (refine step_recs (by rfl) (.tmp 31) (.tmp 34) (by rfl) w3.heap.size w3.heap.size 0 0 [] (by rfl) (own_A w3) g 0 k cap _ (L.take k) (by rfl) (take_sr (And.right (by assumption)) hkL) (by omega) (by omega) (by first | exact le_A _ _ | exact le_B _ _ _ | exact le_D _ _ | exact Nat.le_refl _ | assumption | exact Nat.le_trans hz1 (le_D _ _) | exact Nat.le_trans hz1 (le_A _ _)) k (Nat.zero_add _) (L.take k) rfl ?_; intro g1 c1 w4 hown1 hgrow1; have hg1 := owns_ge hown1; have hg1n : g1 ≠ g := (by omega); have hg1w : w.heap.size ≤ g1 := (by omega); have hz1 : w3.heap.size ≤ w4.heap.size := Nat.le_trans (by first | exact le_A _ _ | exact le_B _ _ _ | exact le_D _ _ | exact Nat.le_refl _ | assumption | exact Nat.le_trans hz1 (le_D _ _) | exact Nat.le_trans hz1 (le_A _ _)) hgrow1.size; have hq3 : w3.heap.size ≠ g := (by omega); have hq4 : w.heap.size ≤ w3.heap.size := (by omega))
                | (refine step_recs (by rfl) (.tmp 31) (.tmp 34) (by rfl) w3.heap.size w3.heap.size 0 0 [] (by rfl) (own_B w3 _) g 0 k cap _ (L.take k) (by rfl) (take_sr (And.right (by assumption)) hkL) (by omega) (by omega) (by first | exact le_A _ _ | exact le_B _ _ _ | exact le_D _ _ | exact Nat.le_refl _ | assumption | exact Nat.le_trans hz1 (le_D _ _) | exact Nat.le_trans hz1 (le_A _ _)) k (Nat.zero_add _) (L.take k) rfl ?_; intro g1 c1 w4 hown1 hgrow1; have hg1 := owns_ge hown1; have hg1n : g1 ≠ g := (by omega); have hg1w : w.heap.size ≤ g1 := (by omega); have hz1 : w3.heap.size ≤ w4.heap.size := Nat.le_trans (by first | exact le_A _ _ | exact le_B _ _ _ | exact le_D _ _ | exact Nat.le_refl _ | assumption | exact Nat.le_trans hz1 (le_D _ _) | exact Nat.le_trans hz1 (le_A _ _)) hgrow1.size; have hq3 : w3.heap.size ≠ g := (by omega); have hq4 : w.heap.size ≤ w3.heap.size := (by omega))
                | (refine step_recs (by rfl) (.tmp 31) (.tmp 34) (by rfl) w3.heap.size (w3.heap.size + 1) 0 0 [] (by rfl) (own_C w3 _) g 0 k cap _ (L.take k) (by rfl) (take_sr (And.right (by assumption)) hkL) (by omega) (by omega) (by first | exact le_A _ _ | exact le_B _ _ _ | exact le_D _ _ | exact Nat.le_refl _ | assumption | exact Nat.le_trans hz1 (le_D _ _) | exact Nat.le_trans hz1 (le_A _ _)) k (Nat.zero_add _) (L.take k) rfl ?_; intro g1 c1 w4 hown1 hgrow1; have hg1 := owns_ge hown1; have hg1n : g1 ≠ g := (by omega); have hg1w : w.heap.size ≤ g1 := (by omega); have hz1 : w3.heap.size ≤ w4.heap.size := Nat.le_trans (by first | exact le_A _ _ | exact le_B _ _ _ | exact le_D _ _ | exact Nat.le_refl _ | assumption | exact Nat.le_trans hz1 (le_D _ _) | exact Nat.le_trans hz1 (le_A _ _)) hgrow1.size; have hq3 : (w3.heap.size + 1) ≠ g := (by omega); have hq4 : w.heap.size ≤ (w3.heap.size + 1) := (by omega))
                | (refine step_recs (by rfl) (.tmp 35) (.tmp 40) (by rfl) w3.heap.size g1 k c1 (L.take k) (by rfl) (hown1.alloc _) w4.heap.size 0 1 1 _ [x] (by rfl) (one_sr w4 x) (by omega) (by omega) (by first | exact le_A _ _ | exact le_B _ _ _ | exact le_D _ _ | exact Nat.le_refl _ | assumption | exact Nat.le_trans hz1 (le_D _ _) | exact Nat.le_trans hz1 (le_A _ _)) (k + 1) rfl ((L.take k) ++ [x]) rfl ?_; intro g2 c2 w5 hown2 hgrow2; have hg2 := owns_ge hown2; have hg2n : g2 ≠ g := (by omega); have hg2w : w.heap.size ≤ g2 := (by omega); have hz2 : w3.heap.size ≤ w5.heap.size := Nat.le_trans (Nat.le_trans hz1 (by first | exact le_A _ _ | exact le_B _ _ _ | exact le_D _ _ | exact Nat.le_refl _ | assumption | exact Nat.le_trans hz1 (le_D _ _) | exact Nat.le_trans hz1 (le_A _ _))) hgrow2.size)
                | (refine step_recs (by rfl) (.tmp 35) (.tmp 40) (by rfl) w3.heap.size g1 k c1 (L.take k) (by rfl) (hown1.alloc _).drew w4.heap.size 0 1 1 _ [x] (by rfl) (one_sr w4 x) (by omega) (by omega) (by first | exact le_A _ _ | exact le_B _ _ _ | exact le_D _ _ | exact Nat.le_refl _ | assumption | exact Nat.le_trans hz1 (le_D _ _) | exact Nat.le_trans hz1 (le_A _ _)) (k + 1) rfl ((L.take k) ++ [x]) rfl ?_; intro g2 c2 w5 hown2 hgrow2; have hg2 := owns_ge hown2; have hg2n : g2 ≠ g := (by omega); have hg2w : w.heap.size ≤ g2 := (by omega); have hz2 : w3.heap.size ≤ w5.heap.size := Nat.le_trans (Nat.le_trans hz1 (by first | exact le_A _ _ | exact le_B _ _ _ | exact le_D _ _ | exact Nat.le_refl _ | assumption | exact Nat.le_trans hz1 (le_D _ _) | exact Nat.le_trans hz1 (le_A _ _))) hgrow2.size)
                | (refine step_recs (by rfl) (.tmp 35) (.tmp 40) (by rfl) w3.heap.size g1 k c1 (L.take k) (by rfl) hown1 (w3.heap.size + 1) 0 1 1 _ [x] (by rfl) (xs_B hgrow1) (by omega) (by omega) (by first | exact le_A _ _ | exact le_B _ _ _ | exact le_D _ _ | exact Nat.le_refl _ | assumption | exact Nat.le_trans hz1 (le_D _ _) | exact Nat.le_trans hz1 (le_A _ _)) (k + 1) rfl ((L.take k) ++ [x]) rfl ?_; intro g2 c2 w5 hown2 hgrow2; have hg2 := owns_ge hown2; have hg2n : g2 ≠ g := (by omega); have hg2w : w.heap.size ≤ g2 := (by omega); have hz2 : w3.heap.size ≤ w5.heap.size := Nat.le_trans (Nat.le_trans hz1 (by first | exact le_A _ _ | exact le_B _ _ _ | exact le_D _ _ | exact Nat.le_refl _ | assumption | exact Nat.le_trans hz1 (le_D _ _) | exact Nat.le_trans hz1 (le_A _ _))) hgrow2.size)
                | (refine step_recs (by rfl) (.tmp 35) (.tmp 40) (by rfl) w3.heap.size g1 k c1 (L.take k) (by rfl) hown1 w3.heap.size 0 1 1 _ [x] (by rfl) (xs_C hgrow1) (by omega) (by omega) (by first | exact le_A _ _ | exact le_B _ _ _ | exact le_D _ _ | exact Nat.le_refl _ | assumption | exact Nat.le_trans hz1 (le_D _ _) | exact Nat.le_trans hz1 (le_A _ _)) (k + 1) rfl ((L.take k) ++ [x]) rfl ?_; intro g2 c2 w5 hown2 hgrow2; have hg2 := owns_ge hown2; have hg2n : g2 ≠ g := (by omega); have hg2w : w.heap.size ≤ g2 := (by omega); have hz2 : w3.heap.size ≤ w5.heap.size := Nat.le_trans (Nat.le_trans hz1 (by first | exact le_A _ _ | exact le_B _ _ _ | exact le_D _ _ | exact Nat.le_refl _ | assumption | exact Nat.le_trans hz1 (le_D _ _) | exact Nat.le_trans hz1 (le_A _ _))) hgrow2.size)
                | (refine step_recs (by rfl) (.tmp 41) (.tmp 44) (by rfl) w3.heap.size g2 (k + 1) c2 ((L.take k) ++ [x]) (by rfl) hown2 g (k * 6) (i - k) (cap - k) _ (L.drop k) (by rfl) (by rw [← LL.out]; exact drop_sr (And.right (by assumption)) hkL) (by omega) (by omega) (by first | exact le_A _ _ | exact le_B _ _ _ | exact le_D _ _ | exact Nat.le_refl _ | assumption | exact Nat.le_trans hz1 (le_D _ _) | exact Nat.le_trans hz1 (le_A _ _)) (i + 1) (by omega) (L.take k ++ [x] ++ L.drop k) rfl ?_; intro g3 c3 w6 hown3 hgrow3)
                | fail)
            all_goals
              rename_i hH
              have hg3 := owns_ge hown3
              obtain ⟨r3, hb3, _, hc3, _⟩ := bk_of_owns6 hown3
              have hSv := hH.2
              have SN := Lib.hid (show Srt (l.take (i + 1)) (L.take k ++ [x] ++ L.drop k) from by rw [TK.out]; exact srt_insert SR.out hkL UP.out H2.out)
              have VN := Lib.hid (show Sv w g3 (L.take k ++ [x] ++ L.drop k) r3 w6 from ⟨hb3, hSv.2⟩)
              clear hb3 hSv hown3 hgrow3 S0 hH
              go_wp2
              go_roundw
              case rel => exact ⟨i + 1, g3, c3, _, r3, rfl, by go_num, by omega, hc3, by omega, SN.out, VN.out⟩
              case measure => simp [intOf]; omega

    · obtain rfl : i = n := by omega
      have SF := Lib.hid (show Srt l L by have := SR.out; rwa [List.take_of_length_le (by rw [HS.out.1]; exact Nat.le_refl _)] at this)
      go_wp2
      go_ret
      exact ⟨L, g, cap, v, SF.out, rfl, hic, hg, V1.out.1, V1.out.2⟩

end Go.Proofs.Ytjgmocmaeadjdaa.SortZ
