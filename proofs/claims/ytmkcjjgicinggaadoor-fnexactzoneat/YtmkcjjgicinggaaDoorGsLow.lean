/- What lowest does: of the names that are keys of a map it finds the one with the most labels that a name is under, and gives its place. Conditions: fewer than 100000001 entries, at most 400000000 bytes in each name; the library's variable internal/bytealg.MaxLen holds an int. -/
import Derived.Test.YtmkcjjgicinggaaDoorGsSlice
import Derived.Test.YtmkcjjgicinggaaDoorGsKeys
import Derived.Test.YtmkcjjgicinggaaDoorKeyT
import Derived.Test.YtmkcjjgicinggaaDoorLess
import Derived.Test.YtmkcjjgicinggaaDoorUnderImpl
import Derived.Test.YtmkcjjgicinggaaDoorForMath
import Derived.Lib.QuietBelow
namespace Go.Proofs.YtmkcjjgicinggaaDoor.GsLow
open Go.RowKit Go.Sort Go.Proofs.YtmkcjjgicinggaaDoor.Mem Go.Proofs.YtmkcjjgicinggaaDoor.MemS Go.Proofs.YtmkcjjgicinggaaDoor.MapK Go.Proofs.YtmkcjjgicinggaaDoor.Labels Go.Proofs.YtmkcjjgicinggaaDoor.GsDef Go.Proofs.YtmkcjjgicinggaaDoor.GsKeys Go.Proofs.YtmkcjjgicinggaaDoor.NameMath Go.Proofs.YtmkcjjgicinggaaDoor.LessMath Go.Proofs.YtmkcjjgicinggaaDoor.ForMath Go.Proofs.YtmkcjjgicinggaaDoor.KeyT

/-- A text that is not too long. -/
def cut (s : ByteArray) : ByteArray := if s.size ≤ 400000000 then s else ⟨#[]⟩

theorem cut_size (s : ByteArray) : (cut s).size ≤ 400000000 := by
  unfold cut
  split
  · assumption
  · exact Nat.zero_le _

theorem cut_self {s : ByteArray} (h : s.size ≤ 400000000) : cut s = s := if_pos h

/-- How a name lies in a cell. -/
def ec (s : ByteArray) : Value := .string (cut s)

/-- Which of two names is less. -/
def lc (a b : ByteArray) : Bool := Ls (cut a) (cut b)

theorem swo : SWO lc where
  irrefl x := ls_irr _
  trans x y z h k := name_ord.tr _ _ _ h k
  ntrans x y z h k := by
    unfold lc at *
    cases e : Ls (cut x) (cut z) with
    | false => rfl
    | true =>
      by_cases hxy : cut x = cut y
      · rw [← hxy] at k; rw [k] at e; cases e
      · have h1 := ls_tot hxy h
        have h2 := name_ord.tr _ _ _ h1 e
        rw [k] at h2
        cases h2

set_option maxHeartbeats 4000000 in
set_option maxRecDepth 100000 in
theorem less (blk Bs n cap : Nat) (G : Nat → ByteArray) (W : World) (hE : Env W) (hb : W.cell? ⟨Bs, 0, none⟩ = some (.slice (some ⟨blk, 0, none⟩) n cap)) (hc : ∀ t, t < n → W.cell? ⟨blk, t, none⟩ = some (.string (G t))) (hG : ∀ t, (G t).size ≤ 400000000) (i j : Nat) (hi : i < n) (hj : j < n) :
    Calls Tryd.prog 32 #[.int .i64 i, .int .i64 j, .pointer (some ⟨Bs, 0, none⟩)] W fun e w' => e = .returned (.bool (Ls (G i) (G j))) ∧ Below W.heap.size W w' := by
  have mixed : Tryd.prog.follows .mixedOrders = true := by kernel_rfl
  have ci := hc i hi
  have cj := hc j hj
  have HC := Lib.hid (fun (W' : World) (h : Below W.heap.size W W') => Less.impl (G i) (G j) W' (hE.below h) (hG i) (hG j))
  clear hc hG hE
  generalize G i = x at *
  generalize G j = y at *
  go_enter Tryd.func32, Tryd.ntmps32
  go_wp2_with fail
  have x0 : ∀ d os, (Sort.grow (redrawn W d) os).cell? _ = some _ := cell_regrown hb
  have x1 : ∀ d os, (Sort.grow (redrawn W d) os).cell? _ = some _ := cell_regrown ci
  have x2 : ∀ d os, (Sort.grow (redrawn W d) os).cell? _ = some _ := cell_regrown cj
  refine wp_region_quiet_below (by assumption) (by kernel_rfl) ?_
  repeat (quiet_step (first | (go_at_call 33; exact Calls.regrown_of (HC.out _ (below_regrown _ _ _)))))
  refine wpQuiet_nil ?_
  intro w2 hw2
  have L2 := Lib.hid (show Below W.heap.size W w2 by obtain ⟨p, rfl⟩ := hw2; exact below_regrown _ _ _)
  clear hw2 x0 x1 x2
  go_wp2
  go_ret
  exact ⟨rfl, L2.out⟩

theorem Env.of_grown {w w' : World} {r : Option Nat} (h : Env w) (hg : w.grownBy w' r) (hn : some 0 ≠ r) : Env w' := by
  obtain ⟨m, hm⟩ := h
  exact ⟨m, hg.cell hm hn⟩

/-- What the loop has found among the first k. -/
def LwP (G : Nat → ByteArray) (k : Nat) (v : ByteArray → Int) (nm : ByteArray) (r : Int) : Prop :=
  (r = -1 ∧ ∀ i, i < k → Un nm (G i) = false) ∨ ∃ j, j < k ∧ Un nm (G j) = true ∧ r = v (G j) ∧ ∀ i, j < i → i < k → Un nm (G i) = false

section
variable {G : Nat → ByteArray} {k n : Nat} {v : ByteArray → Int} {nm : ByteArray} {r : Int} {K : List ByteArray}
theorem lwp_zero : LwP G 0 v nm (-1) := Or.inl ⟨rfl, fun _ h => absurd h (Nat.not_lt_zero _)⟩

theorem lwp_hit (h : Un nm (G k) = true) : LwP G (k + 1) v nm (v (G k)) := Or.inr ⟨k, Nat.lt_succ_self _, h, rfl, fun _ h1 h2 => by omega⟩

theorem lwp_skip (hp : LwP G k v nm r) (h : Un nm (G k) = false) : LwP G (k + 1) v nm r := by
  rcases hp with ⟨h1, h2⟩ | ⟨j, h1, h2, h3, h4⟩
  · exact Or.inl ⟨h1, fun i hi => by rcases Nat.lt_succ_iff_lt_or_eq.1 hi with h' | rfl; exact h2 i h'; exact h⟩
  · exact Or.inr ⟨j, by omega, h2, h3, fun i hi hk => by rcases Nat.lt_succ_iff_lt_or_eq.1 hk with h' | rfl; exact h4 i hi h'; exact h⟩

theorem lwp_end (hK : ∀ a, a ∈ K ↔ ∃ t, t < n ∧ G t = a) (hinj : ∀ i j, i < n → j < n → G i = G j → i = j) (hs : ∀ i j, i < j → j < n → Ls (G j) (G i) = false) (h : LwP G n v nm r) : Lw K v nm r := by
  rcases h with ⟨h1, h2⟩ | ⟨j, h1, h2, h3, h4⟩
  · refine Or.inl ⟨h1, fun a ha => ?_⟩
    obtain ⟨t, ht, rfl⟩ := (hK a).1 ha
    exact h2 t ht
  · refine Or.inr ⟨G j, (hK _).2 ⟨j, h1, rfl⟩, h2, h3, fun a ha hu => ?_⟩
    obtain ⟨t, ht, rfl⟩ := (hK a).1 ha
    rcases Nat.lt_trichotomy t j with hlt | rfl | hgt
    · have h5 := hs t j hlt h1
      have hne : G j ≠ G t := fun e => by have := hinj j t h1 ht e; omega
      exact Nat.le_of_lt (chain hu h2 (ls_tot hne h5))
    · exact Nat.le_refl _
    · rw [h4 t hgt ht] at hu
      cases hu
end

/-- The entries of a map from names to places. -/
def en (K : List ByteArray) (v : ByteArray → Int) : List (Value × Value) := K.map fun a => (.string a, .int .i64 (v a))

theorem en_key (K : List ByteArray) (v : ByteArray → Int) : ∀ p ∈ en K v, KS p.1 := by
  intro p hp
  obtain ⟨a, _, rfl⟩ := List.mem_map.1 hp
  exact ⟨a, rfl⟩

theorem en_nodup {K : List ByteArray} {v : ByteArray → Int} (h : K.Nodup) : ((en K v).map Prod.fst).Nodup := by
  unfold en
  rw [List.map_map]
  exact List.pairwise_map.2 (h.imp fun h e => h (by simpa using e))

theorem en_in {K : List ByteArray} {v : ByteArray → Int} {a : ByteArray} (h : a ∈ K) : (.string a, .int .i64 (v a)) ∈ en K v := List.mem_map.2 ⟨a, h, rfl⟩

theorem en_out {K : List ByteArray} {v : ByteArray → Int} {a : ByteArray} (h : a ∉ K) : ∀ p ∈ en K v, p.1 ≠ .string a := by
  intro p hp e
  obtain ⟨b, hb, rfl⟩ := List.mem_map.1 hp
  simp only [Value.string.injEq] at e
  exact h (e ▸ hb)

set_option maxHeartbeats 8000000 in
set_option maxRecDepth 100000 in
theorem low (nm : ByteArray) (b : Nat) (K : List ByteArray) (v : ByteArray → Int) (w : World) (he : Env w) (h : Mp w b (en K v)) (nd : K.Nodup) (hz : ∀ a ∈ K, a.size ≤ 400000000) (hl : K.length ≤ 100000000) (hnm : nm.size ≤ 400000000) :
    Calls Tryd.prog 18 #[.map (some b), .string nm] w fun e w' => ∃ r : Int, e = .returned (.int .i64 r) ∧ Lw K v nm r ∧ Below w.heap.size w w' := by
  have HKe := Lib.hid (keys (some b) w)
  have L1 : Hid (Below w.heap.size w (w.alloc (.cells #[.map (some b)] 47))) := (Below.refl _ _).alloc (Nat.le_refl _) _
  have M1 := Lib.hid (h.alloc (.cells #[.map (some b)] 47))
  have HCo := Lib.hid (collect (Bm := w.heap.size) (v := fun a => .int .i64 (v a)) M1.out nd hz hl (by simp))
  have HE := Lib.hid he
  have ND := Lib.hid nd
  have HZ := Lib.hid hz
  have EK := Lib.hid (en_key K v)
  have EN := Lib.hid (en_nodup (v := v) nd)
  have hbw := h.lt
  have HN := Lib.hid hnm
  clear h he nd hz hnm
  go_enter Tryd.func18, Tryd.ntmps18
  go_wp2_with fail
  refine HKe.out.mono ?_
  rintro e w1 ⟨rfl, rfl⟩
  go_wp2_with fail
  refine HCo.out.mono ?_
  rintro e w2 ⟨x, L, rfl, hperm, ⟨hrow, _⟩, hl2⟩
  have L2 := Lib.hid (L1.out.trans (hl2.mono L1.out.size))
  have M2 := Lib.hid (M1.out.below hl2 M1.out.lt)
  have hL : L.length ≤ 100000000 := by rw [hperm.length_eq]; exact hl
  have hlow : w.heap.size < w2.heap.size := Nat.lt_of_lt_of_le (by simp) hl2.size
  clear HKe HCo L1 M1
  rcases hrow.2 with ⟨rfl, h0⟩ | ⟨g, cap, cur, rfl, hg, hgg, hcap, _, hcs, htk⟩
  · obtain rfl : L = [] := List.eq_nil_of_length_eq_zero h0
    obtain rfl : K = [] := hperm.nil_eq.symm
    clear hperm hrow hl2 h0
    have C := Lib.hid (GsSlice.none_nil (.func 32) #[] #[.pointer (some ⟨w2.heap.size, 0, none⟩)])
    have B3 : Hid (Bk (w2.alloc (.cells #[.slice none 0 0] 60)) w2.heap.size 60 [.slice none 0 0]) := heap_alloc_new w2 _
    have L3 := Lib.hid (L2.out.alloc L2.out.size (.cells #[.slice none 0 0] 60))
    go_upto_region 2 with (fail)
    generalize w2.alloc (.cells #[.slice none 0 0] 60) = w3 at *
    have c0 : w3.cell? ⟨w2.heap.size, 0, none⟩ = some (.slice none 0 0) := B3.out.cell 0
    go_wp2_with fail
    refine (C.out w3).mono ?_
    rintro e w4 ⟨rfl, hl4⟩
    have L4 := Lib.hid (L3.out.trans (hl4.mono L3.out.size))
    have B5 := Lib.hid (B3.out.below hl4 B3.out.lt)
    clear hl4 c0 L3 B3 C
    have c0 : w4.cell? ⟨w2.heap.size, 0, none⟩ = some (.slice none 0 0) := B5.out.cell 0
    go_wp2
    go_loop [6, 18] (fun a i => a = .int .i64 (-1) ∧ i = .int .i64 0) (fun _ _ => 0)
    case atStart => exact ⟨rfl, rfl⟩
    case round =>
      obtain ⟨rfl, rfl⟩ := hrel
      go_wp2
      go_ret
      exact ⟨-1, rfl, Or.inl ⟨rfl, fun a ha => by cases ha⟩, L4.out⟩
  · obtain ⟨r, hb0, _, _⟩ := bk_of_owns hrow
    have HPm := Lib.hid hperm
    have hgw : w.heap.size + 1 ≤ g := by simpa using hg
    have hg2 : g < w2.heap.size := hb0.lt
    clear hrow hg hgg hcap hcs htk hperm hl2
    generalize hn : L.length = n at *
    have HLn := Lib.hid hn
    clear hn
    have B3 : Hid (Bk (w2.alloc (.cells #[.slice (some ⟨g, 0, none⟩) n cap] 60)) w2.heap.size 60 [.slice (some ⟨g, 0, none⟩) n cap]) := heap_alloc_new w2 _
    have R3 := Lib.hid (hb0.alloc (.cells #[.slice (some ⟨g, 0, none⟩) n cap] 60))
    have L3 := Lib.hid (L2.out.alloc L2.out.size (.cells #[.slice (some ⟨g, 0, none⟩) n cap] 60))
    have M3 := Lib.hid (M2.out.alloc (.cells #[.slice (some ⟨g, 0, none⟩) n cap] 60))
    clear hb0 L2 M2
    go_upto_region 2 with (fail)
    generalize w2.alloc (.cells #[.slice (some ⟨g, 0, none⟩) n cap] 60) = w3 at *
    have HE3 := Lib.hid ((show Env w3 from by obtain ⟨m, hm⟩ := HE.out; exact ⟨m, (L3.out.cell (p := ⟨0, 0, none⟩) (World.block_lt_of_cell? _ _ hm)).trans hm⟩))
    have NG : Hid (some w2.heap.size ≠ some g) := fun e => by have := Option.some.inj e; omega
    have hH : Holds ec w3 g 0 L.toArray := fun j hj => by
      have hj' : j < L.length := by simpa using hj
      have hm : L[j] ∈ K := HPm.out.subset (List.getElem_mem hj')
      refine ⟨?_, R3.out.free _⟩
      rw [Nat.zero_add, R3.out.cell, List.getElem?_append_left (by simpa using hj'), tv_get L j hj', getElem!_pos L.toArray j hj, List.getElem_toArray]
      unfold ec
      rw [cut_self (HZ.out _ hm)]
    have hLs : Lss Tryd.prog 32 #[.pointer (some ⟨w2.heap.size, 0, none⟩)] ec lc g 0 L.toArray.size w3 := fun W dk S hs i j hi hj => by
      have hs' : L.toArray.size = n := by simpa using HLn.out
      have hE' : Env W := Env.of_grown HE3.out S.1.1 (fun e => by have := Option.some.inj e; omega)
      have h := less g w2.heap.size n cap (fun t => cut dk[t]!) W hE' (S.1.1.cell (B3.out.cell 0) NG.out) (fun t ht => by have := (S.1.2 t (by omega)).1; rw [Nat.zero_add] at this; exact this) (fun t => cut_size _) i j (by omega) (by omega)
      exact h
    have hS := GsSlice.slice ec (fun _ => rfl) lc swo 32 #[.pointer (some ⟨w2.heap.size, 0, none⟩)] (enters_of Tryd.func32 (by kernel_rfl) rfl) g 0 cap L.toArray (by have := HLn.out; simp; omega) w3 hH R3.out.lt hLs
    rw [show L.toArray.size = n by simpa using HLn.out] at hS
    have C := Lib.hid hS
    clear hS hLs hH
    have c0 : w3.cell? ⟨w2.heap.size, 0, none⟩ = some (.slice (some ⟨g, 0, none⟩) n cap) := B3.out.cell 0
    go_wp2_with fail
    refine C.out.mono ?_
    rintro e w4 ⟨rfl, d', hpm, hso, hst⟩
    have hds : d'.size = n := by rw [hpm.1]; simpa using HLn.out
    have hpl : d'.toList.Perm L := by
      have := hpm.2.2
      rw [Array.extract_eq_self_of_le (by omega), Array.extract_eq_self_of_le (by have := HLn.out; simp; omega)] at this
      exact this
    have hcut : ∀ t, t < n → cut d'[t]! = d'[t]! ∧ d'[t]! ∈ K := fun t ht => by
      have hm : d'[t]! ∈ K := HPm.out.subset (hpl.subset (by rw [getElem!_pos d' t (by omega)]; simp))
      exact ⟨cut_self (HZ.out _ hm), hm⟩
    have hK : Hid (∀ a, a ∈ K ↔ ∃ t, t < n ∧ cut d'[t]! = a) := fun a => by
      constructor
      · intro ha
        have := (hpl.trans HPm.out).symm.subset ha
        obtain ⟨t, ht, e⟩ := List.getElem_of_mem this
        have ht' : t < d'.size := by simpa using ht
        refine ⟨t, by omega, ?_⟩
        rw [(hcut t (by omega)).1, getElem!_pos d' t ht']
        simpa using e
      · rintro ⟨t, ht, rfl⟩
        rw [(hcut t ht).1]
        exact (hcut t ht).2
    have hinj : Hid (∀ i j, i < n → j < n → cut d'[i]! = cut d'[j]! → i = j) := fun i j hi hj e => by
      rw [(hcut i hi).1, (hcut j hj).1, getElem!_pos d' i (by omega), getElem!_pos d' j (by omega)] at e
      have hnd : d'.toList.Nodup := (hpl.trans HPm.out).nodup_iff.2 ND.out
      exact nodup_inj hnd (a := d'[i]'(by omega)) (by simp [show i < d'.size by omega]) (by simp [show j < d'.size by omega, e])
    have hsorted : Hid (∀ i j, i < j → j < n → Ls (cut d'[j]!) (cut d'[i]!) = false) := fun i j hij hj => hso i j (Nat.zero_le _) hij hj
    have HC4 : Hid (∀ t, t < n → w4.cell? ⟨g, t, none⟩ = some (.string (cut d'[t]!))) := fun t ht => by
      have := (hst.1.2 t (by omega)).1
      rw [Nat.zero_add] at this
      exact this
    have B4 := Lib.hid (hst.1.1.cell (B3.out.cell 0) NG.out)
    have M4 := Lib.hid (M3.out.grown hst.1.1 (fun e => by have := Option.some.inj e; omega))
    have L4 := Lib.hid (L3.out.grown hst.1.1 L3.out.size (fun j hj => by cases hj; omega))
    have HIN : Hid (∀ t, t < n → cut d'[t]! ∈ K) := fun t ht => (hK.out _).2 ⟨t, ht, rfl⟩
    have HS1 : Hid (∀ t : Nat, (cut d'[t]!).size ≤ 400000000) := fun t => cut_size _
    clear hpm hso hst hds hpl hcut C c0 L3 M3 B3 R3 HE3
    obtain ⟨G, hG⟩ : ∃ G : Nat → ByteArray, ∀ t : Nat, cut d'[t]! = G t := ⟨fun t => cut d'[t]!, fun _ => rfl⟩
    simp only [hG] at hK hinj hsorted HC4 HIN HS1
    clear hG
    have c0 := B4.out
    go_wp2
    go_loop [6, 18] (fun a i => ∃ (k : Nat) (r : Int), k ≤ n ∧ i = .int .i64 k ∧ a = .int .i64 r ∧ Hid (LwP G k v nm r)) (fun _ i => n - (intOf i).toNat)
    case atStart => exact ⟨0, -1, Nat.zero_le _, rfl, rfl, lwp_zero⟩
    case round =>
      obtain ⟨k, r, hk, rfl, rfl, HLW⟩ := hrel
      by_cases hlt : k < n
      · have c1 := HC4.out k hlt
        have C := Lib.hid (UnderImpl.impl nm (G k) w4 HN.out (HS1.out k))
        cases hu : Un nm (G k) with
        | true =>
          rw [hu] at C
          have LK : Hid ((Instr.lookup 47 (.map (some b)) (.string (G k)) false).run Tryd.prog w4 = .ok (.int .i64 (v (G k))) w4) := M4.out.in KeyT.strings Tryd.underlying47 EK.out EN.out ⟨G k, rfl⟩ (en_in (HIN.out k hlt)) false
          have HLW2 := Lib.hid (lwp_hit (v := v) hu)
          clear hu
          generalize G k = a at *
          go_wp2_with fail
          refine C.out.mono ?_
          rintro e w5 ⟨rfl, rfl⟩
          go_wp2_with (at_lookup; refine wp_look rfl _ _ false rfl (.string a) (.int .i64 (v a)) rfl rfl LK.out ?_)
          go_roundw
          case rel => exact ⟨k + 1, v a, by omega, by go_num, rfl, HLW2.out⟩
          case measure => (simp [intOf] <;> omega)
        | false =>
          rw [hu] at C
          have HLW2 := Lib.hid (lwp_skip HLW.out hu)
          clear hu
          generalize G k = a at *
          go_wp2_with fail
          refine C.out.mono ?_
          rintro e w5 ⟨rfl, rfl⟩
          go_wp2
          go_roundw
          case rel => exact ⟨k + 1, r, by omega, by go_num, rfl, HLW2.out⟩
          case measure => (simp [intOf] <;> omega)
      · obtain rfl : n = k := by omega
        go_wp2
        go_ret
        exact ⟨r, rfl, lwp_end hK.out hinj.out hsorted.out HLW.out, L4.out⟩
end Go.Proofs.YtmkcjjgicinggaaDoor.GsLow
