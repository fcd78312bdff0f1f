/- What sort.Slice does at a slice of texts: it sorts them, whatever their number; the comparison may make memory. Conditions: a strict weak order; fewer than 2^62 texts. -/
import Derived.Test.YtmkcjjgicinggaaGreatDoorGsPdq
import Derived.Test.YtmkcjjgicinggaaGreatDoorShelf
import Derived.Shelf.GgSortFunc.Tiny
import Derived.Shelf.GgSortFunc.Small
import Derived.Shelf.GgSortFunc.Compose
import Derived.Shelf.SlSortFunc.BreakPatterns
namespace Go.Proofs.YtmkcjjgicinggaaGreatDoor.GsSlice
open Go.RowKit Go.Sort Go.Lib Go.Shelf Go.Proofs.YtmkcjjgicinggaaGreatDoor.Mem Go.Proofs.YtmkcjjgicinggaaGreatDoor.GsDef Go.Proofs.YtmkcjjgicinggaaGreatDoor.GsPdq

section
variable {α : Type} [Inhabited α] {g : Nat} {lb : Array Value} {sf : Nat} {sb : Array Value} {enc : α → Value} {lt : α → α → Bool} {blk off size : Nat} {w0 : World}

theorem two (E : En Tryz.prog g lb sf sb enc lt blk off size w0) : Two g lb sf sb enc blk off size w0 := by
  intro a b d W S hs hab hb
  have hsw : SwapSwaps Tryz.prog sf sb enc blk off d.size := by rw [hs]; exact E.swap
  have hsm : d.size < 4611686018427387904 := by rw [hs]; exact E.small
  have h1 := Any.breakPatterns_func_w (P := Tryz.prog) (ρ := Tryz.laysGg6_ren) { Tryz.laysGg6 with } enc (.func g) #[] lb sf sb blk off a b d W hsw S.1.2 S.lt hab (by omega) hsm
  have h2 := Any.reverseRange_func_w (P := Tryz.prog) (ρ := Tryz.laysGg30_ren) Tryz.laysGg30 enc (.func g) #[] lb sf sb blk off a b d W hsw S.1.2 S.lt hab (by omega) hsm
  refine ⟨?_, ?_⟩
  · change Calls Tryz.prog 203 _ _ _ at h1
    refine h1.mono ?_
    rintro e w' ⟨rfl, n, os, rfl⟩
    exact ⟨rfl, S.sorted (breakPatterns_holds d a b hab (by omega)).1 n os, sort_grown _ _ _ _ _ _ _⟩
  · change Calls Tryz.prog 205 _ _ _ at h2
    refine h2.mono ?_
    rintro e w' ⟨rfl, n, os, rfl⟩
    exact ⟨rfl, S.sorted (reverseRange_holds d a b hab (by omega)).1 n os, sort_grown _ _ _ _ _ _ _⟩
end

noncomputable def siT : TypeInfo := (Tryz.prog.info? 39).get (by kernel_rfl)

noncomputable def siE : TypeInfo := (Tryz.prog.info? 9).get (by kernel_rfl)

theorem siK (n : Nat) (h2 : 2 ≤ n) : Lib.swapperK n siE 24 = 4 := by
  have a : siE.hasPointers = true := by kernel_rfl
  have b : siE.bytes = 16 := by kernel_rfl
  have c : (n == 0) = false := by simp; omega
  have d : (n == 1) = false := by simp; omega
  simp [Lib.swapperK, a, b, c, d]

theorem below_grow (w : World) (os : Array Obj) : Below w.heap.size w (grow w os) := ⟨rfl, rfl, rfl, by rw [size_grow]; exact Nat.le_add_right _ _, fun k hk => heap_grow_old _ _ hk⟩

set_option maxRecDepth 100000 in
theorem slice {α : Type} [Inhabited α] (enc : α → Value) (h1 : ∀ x, (enc x).oneCell' = true) (lt : α → α → Bool) (hO : SWO lt) (g : Nat) (lb : Array Value) (eg : ∀ args w, (callFunc g args).run Tryz.prog w = .ok (.enter g args) w) (blk off c : Nat) (d : Array α) (hsz : d.size < 4611686018427387904)
    (w : World) (hH : Holds enc w blk off d) (hblk : blk < w.heap.size) (hless : Lss Tryz.prog g lb enc lt blk off d.size w) :
    Calls Tryz.prog 110 #[.iface 39 (.slice (some ⟨blk, off, none⟩) d.size c), .func (.func g) #[] lb] w fun e w' =>
      e = .returned (.tuple #[]) ∧ ∃ d' : Array α, PermIn 0 d.size d d' ∧ SortedIn lt 0 d.size d' ∧ St enc w blk off d' w' := by
  by_cases h2 : 2 ≤ d.size
  · have key := Any.sort_Slice_of_pdq (P := Tryz.prog) (ρ := Tryz.laysGg6_ren) Tryz.laysGg6 39 9 siT siE (by kernel_rfl) (by kernel_rfl) (by kernel_rfl) (by kernel_rfl) 24 (fun _ => by kernel_rfl)
      (some ⟨blk, off, none⟩) d.size c hsz 193 (by rw [siK _ h2]; kernel_rfl) (.func g) #[] lb w
      (fun w' => ∃ d' : Array α, PermIn 0 d.size d d' ∧ SortedIn lt 0 d.size d' ∧ St enc w blk off d' w') ?_
    · change Calls Tryz.prog 110 _ _ _ at key
      exact key
    · have hB : sliceBound Tryz.prog 9 siE 24 (some ⟨blk, off, none⟩) d.size c = #[.slice (some ⟨blk, off, none⟩) d.size c, typeHandle Tryz.prog 9] := by
        unfold sliceBound; rw [if_neg (swapperK_gt _ _ _ h2)]
      rw [hB]
      have E : En Tryz.prog g lb 193 #[.slice (some ⟨blk, off, none⟩) d.size c, typeHandle Tryz.prog 9] enc lt blk off d.size w :=
        ⟨eg, hless, swapSwaps_of_literal true 193 (fun args W => run_callFunc_extern Tryz.func193 (by kernel_rfl) (by kernel_rfl) (by kernel_rfl) (e := Extern.ReflectliteSwapper.swap true) (by kernel_rfl) args W)
          9 siE (by kernel_rfl) (by kernel_rfl) (fun _ => by kernel_rfl) enc h1 blk off d.size c, hsz⟩
      have S : St enc w blk off d (sliceWorld Tryz.prog Tryz.laysGg6_ren 39 (some ⟨blk, off, none⟩) d.size c w) := ((St.start hH hblk).alloc _).alloc _
      have hlim : Lib.bitLen d.size < 4611686018427387904 := Nat.lt_of_le_of_lt (Lib.bitLen_le d.size 62 (by omega) (by omega)) (by omega)
      have h := pdq E hO (two E) (d.size + 1) 0 d.size (Lib.bitLen d.size) d _ (by omega) S rfl (Nat.zero_le _) (Nat.le_refl _) hlim (Or.inl rfl)
      have hs := pdq_sorts lt hO d 0 d.size (Lib.bitLen d.size) true true (Nat.zero_le _) (Nat.le_refl _) (Or.inl rfl)
      change Calls Tryz.prog 157 _ _ _
      refine h.mono ?_
      rintro e w' ⟨rfl, hS, _⟩
      exact ⟨rfl, _, hs.1, hs.2, hS⟩
  · have hn : d.size ≤ 1 := by omega
    have hK : Lib.swapperK d.size siE 24 = d.size + 1 := by
      rcases Nat.eq_zero_or_pos d.size with h | h
      · rw [h]; simp [Lib.swapperK]
      · rw [show d.size = 1 by omega]; simp [Lib.swapperK]
    have key := Any.sort_Slice_tiny (P := Tryz.prog) (ρ := Tryz.laysGg6_ren) Tryz.laysGg6 39 9 siT siE (by kernel_rfl) (by kernel_rfl) (by kernel_rfl) (by kernel_rfl) 24 (fun _ => by kernel_rfl)
      (some ⟨blk, off, none⟩) d.size c hn (if d.size = 0 then 190 else 191) (by
        rw [hK]
        rcases Nat.eq_zero_or_pos d.size with h | h
        · rw [h, if_pos rfl]; kernel_rfl
        · rw [show d.size = 1 by omega, if_neg (by decide)]; kernel_rfl) (.func g) #[] lb w
    change Calls Tryz.prog 110 _ _ _ at key
    refine key.mono ?_
    rintro e w' ⟨rfl, os, rfl⟩
    refine ⟨rfl, d, permIn_refl d 0 d.size, fun i j _ h2 h3 => by omega, (St.start hH hblk).below (below_grow w os)⟩

set_option maxRecDepth 100000 in
theorem none_nil (lf : Fn) (la lb : Array Value) (w : World) : Calls Tryz.prog 110 #[.iface 39 (.slice none 0 0), .func lf la lb] w fun e w' => e = .returned (.tuple #[]) ∧ Below w.heap.size w w' := by
  have hK : Lib.swapperK 0 siE 24 = 1 := by simp [Lib.swapperK]
  have key := Any.sort_Slice_tiny (P := Tryz.prog) (ρ := Tryz.laysGg6_ren) Tryz.laysGg6 39 9 siT siE (by kernel_rfl) (by kernel_rfl) (by kernel_rfl) (by kernel_rfl) 24 (fun _ => by kernel_rfl) none 0 0 (by omega) 190 (by rw [hK]; kernel_rfl) lf la lb w
  change Calls Tryz.prog 110 _ _ _ at key
  refine key.mono ?_
  rintro e w' ⟨rfl, os, rfl⟩
  exact ⟨rfl, below_grow w os⟩
end Go.Proofs.YtmkcjjgicinggaaGreatDoor.GsSlice
