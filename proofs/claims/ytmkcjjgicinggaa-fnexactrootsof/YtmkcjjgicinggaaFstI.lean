/- What firstsOf does at ints: a new slice with the ints, each once, in the order of the first occurrences. Condition: fewer than 400000001 of them. -/
import Derived.Test.YtmkcjjgicinggaaKeyT
import Derived.Test.YtmkcjjgicinggaaMemI
namespace Go.Proofs.Ytmkcjjgicinggaa.FstI
open Go.RowKit Go.Proofs.Ytmkcjjgicinggaa.Mem Go.Proofs.Ytmkcjjgicinggaa.SetMath Go.Proofs.Ytmkcjjgicinggaa.MapK Go.Proofs.Ytmkcjjgicinggaa.KeyT Go.Proofs.Ytmkcjjgicinggaa.MemI

/-- The entries of a set. -/
def en (l : List Int) : List (Value × Value) := l.map (fun x => (.int .i64 x, .bool true))

theorem en_key (l : List Int) : ∀ p ∈ en l, KI p.1 := by
  intro p hp
  obtain ⟨x, _, rfl⟩ := List.mem_map.1 hp
  exact ⟨x, rfl⟩

theorem val_inj {x y : Int} (h : (.int .i64 x : Value) = .int .i64 y) : x = y := by simpa using h

theorem en_out {l : List Int} {x : Int} (h : x ∉ l) : ∀ p ∈ en l, p.1 ≠ .int .i64 x := by
  intro p hp e
  obtain ⟨y, hy, rfl⟩ := List.mem_map.1 hp
  exact h (val_inj e ▸ hy)

theorem en_in {l : List Int} {x : Int} (h : x ∈ l) : (.int .i64 x, Value.bool true) ∈ en l := List.mem_map.2 ⟨x, h, rfl⟩

theorem en_nodup : ∀ {l : List Int}, l.Nodup → ((en l).map Prod.fst).Nodup
  | [], _ => by simp [en]
  | x :: l, h => by
    obtain ⟨h1, h2⟩ := List.nodup_cons.1 h
    show (.int .i64 x :: (en l).map Prod.fst).Nodup
    refine List.nodup_cons.2 ⟨fun hm => ?_, en_nodup h2⟩
    obtain ⟨p, hp, he⟩ := List.mem_map.1 hm
    exact en_out h1 p hp he

theorem en_snoc (l : List Int) (x : Int) : en (l ++ [x]) = en l ++ [(.int .i64 x, .bool true)] := by simp [en]

theorem zero (w : World) : (zeroValue 4).run Try.prog w = .ok (.bool false) w := by kernel_rfl

theorem made_own (w : World) : ((w.alloc (.map #[] 0)).alloc (.cells #[] 3)).ownsRow (w.heap.size + 1) 3 1 (.slice (some ⟨w.heap.size + 1, 0, none⟩) 0 0) 0 [] := by
  have e : (w.alloc (.map #[] 0)).heap.size = w.heap.size + 1 := by simp
  have := owns_new (w.alloc (.map #[] 0))
  rwa [e] at this

set_option maxHeartbeats 4000000 in
theorem impl (A0 : Option Addr) (n c : Nat) (l : List Int) (w : World) (hs : Si w A0 n l) (hn : n ≤ 400000000) :
    Calls Try.prog 18 #[.slice A0 n c] w (GivesI w (uq l)) := by
  have HS := Lib.hid hs
  clear hs
  have hmm := @run_makeMap Try.prog
  have P0 := Lib.hid (made_own w)
  have M0 := Lib.hid ((Mp.made w).alloc (.cells #[] 3))
  have L0 := Lib.hid (((Below.refl w.heap.size w).alloc (Nat.le_refl _) (.map #[] 0)).alloc (by simp) (.cells #[] 3))
  go_enter Try.func18, Try.ntmps18
  go_wp2
  generalize (w.alloc (.map #[] 0)).alloc (.cells #[] 3) = w0 at *
  go_loopw [4, 11] (fun out i wr => ∃ k g m cap : Nat, k ≤ n ∧ m ≤ k ∧ i = .int .i64 k ∧ out = .slice (some ⟨g, 0, none⟩) m cap ∧ Hid (wr.ownsRow (w.heap.size + 1) 3 1 (.slice (some ⟨g, 0, none⟩) m cap) m ((uq (l.take k)).map iv)) ∧ Hid (Mp wr w.heap.size (en (uq (l.take k)))) ∧ Hid (Below w.heap.size w wr)) (fun _ i _ => n - (intOf i).toNat)
  case atStart => exact ⟨0, w.heap.size + 1, 0, 0, Nat.zero_le _, Nat.le_refl _, rfl, rfl, P0.out, M0.out, L0.out⟩
  case round =>
    clear P0 M0 L0
    obtain ⟨k, g, m, cap, hk, hm, rfl, rfl, HO, HM, HL⟩ := hrel
    by_cases hlt : k < n
    · obtain ⟨b, off, rfl, hbB, hcs⟩ := HS.out.2 (by omega)
      have hkl : k < l.length := by rw [HS.out.1]; exact hlt
      have HU := Lib.hid (uq_take l k hkl)
      have e0 : wr.cell? ⟨b, off + k, none⟩ = some (.int .i64 l[k]) := (HL.out.cell (p := ⟨b, off + k, none⟩) hbB).trans (hcs k hkl)
      clear hcs
      generalize l[k] = x at *
      have M1 := Lib.hid HM.out
      have O1 := Lib.hid HO.out
      have L1 := Lib.hid HL.out
      have HE := Lib.hid (en_key (uq (l.take k)))
      have HD := Lib.hid (en_nodup (nodup_uq (l.take k)))
      have HX : Hid (KI (.int .i64 x)) := ⟨x, rfl⟩
      by_cases hin : x ∈ uq (l.take k)
      · have HA := Lib.hid (HU.out.trans (add_in hin))
        have HI := Lib.hid (en_in hin)
        clear hin
        have LK : Hid ((Instr.lookup 62 (.map (some w.heap.size)) (.int .i64 x) false).run Try.prog wr = .ok (.bool true) wr) := M1.out.in KeyT.ints Try.underlying62 HE.out HD.out HX.out HI.out false
        go_wp2_with (at_lookup; refine wp_look rfl _ _ false rfl (.int .i64 x) (.bool true) rfl rfl LK.out ?_)
        go_roundw
        case rel => exact ⟨k + 1, g, m, cap, by omega, by omega, by go_num, rfl, by rw [HA.out]; exact O1.out, by rw [HA.out]; exact M1.out, L1.out⟩
        case measure => simp [intOf]; omega
      · have HA := Lib.hid (HU.out.trans (add_out hin))
        have HI := Lib.hid (en_out hin)
        clear hin
        have LK : Hid ((Instr.lookup 62 (.map (some w.heap.size)) (.int .i64 x) false).run Try.prog wr = .ok (.bool false) wr) := M1.out.out KeyT.ints Try.underlying62 (zero _) HE.out HX.out HI.out false
        have ST := Lib.hid (M1.out.new KeyT.ints Try.underlying62 HE.out (.bool true) HX.out HI.out)
        go_wp2_with (first | (at_lookup; refine wp_look rfl _ _ false rfl (.int .i64 x) (.bool false) rfl rfl LK.out ?_) | (at_mapUpdate; refine wp_store rfl _ _ _ rfl (.int .i64 x) (.bool true) rfl rfl rfl (en (uq (l.take k)) ++ [(.int .i64 x, .bool true)]) ST.out ?_))
        intro w2 m2 g2 s2
        clear LK ST
        have M2 := Lib.hid m2
        have O2 := Lib.hid (O1.out.kept g2 (Or.inr (fun e => by have h1 : w.heap.size + 1 ≤ g := (O1.out.lt g rfl).1; have h2 : g = w.heap.size := Option.some.inj e; omega)))
        have L2 := Lib.hid (L1.out.grown g2 L1.out.size (fun j hj => by cases hj; exact Nat.le_refl _))
        clear m2 g2 s2 M1 O1 L1
        go_wp2_with (at_builtin; refine append_one (w := w2) rfl (.tmp 21) (.tmp 23) rfl (w.heap.size + 1) g m cap (uq (l.take k)) rfl O2.out x rfl (by omega) (by have h1 := O2.out.lt g rfl; omega) ?_)
        intro g' cap' w3 hown hgrow _
        have O3 := Lib.hid hown
        have NE := Lib.hid (show some w.heap.size ≠ some g from fun e => by have h1 := O2.out.lt g rfl; have h2 := Option.some.inj e; omega)
        have M3 := Lib.hid ((M2.out.alloc (.cells #[.int .i64 x] 3)).grown hgrow NE.out)
        have L3 := Lib.hid ((L2.out.alloc L2.out.size (.cells #[.int .i64 x] 3)).grown hgrow (Nat.le_trans L2.out.size (by simp)) (fun j hj => by cases hj; have h1 := O2.out.lt g rfl; omega))
        clear hown hgrow
        go_wp2
        go_roundw
        case rel => exact ⟨k + 1, g', m + 1, cap', by omega, by omega, by go_num, rfl, by rw [HA.out, List.map_append]; exact O3.out, by rw [HA.out, en_snoc]; exact M3.out, L3.out⟩
        case measure => simp [intOf]; omega
    · obtain rfl : n = k := by omega
      have HN := Lib.hid (take_all HS.out.1)
      go_wp2
      go_ret
      have ho := HO.out
      rw [HN.out] at ho
      exact gives_of_owns (own_mono ho (by omega)) HL.out
end Go.Proofs.Ytmkcjjgicinggaa.FstI
