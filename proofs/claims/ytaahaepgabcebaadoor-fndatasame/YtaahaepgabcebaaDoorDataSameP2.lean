/- What keyOf and KeysOf do in the program: the name and the type of a record; the keys of all records, each once. Condition: fewer than 400000001 records. -/
import Derived.Test.YtaahaepgabcebaaDoorDataSameP1
import Derived.Deep.DeepCutAuto
import Derived.Test.YtaahaepgabcebaaDoorAppS
import Derived.Test.YtaahaepgabcebaaDoorIsin
import Derived.Test.YtaahaepgabcebaaDoorAppR
/- What SameData does in the model: whether each record of the one list stands in the other, but for its time to live. Condition: fewer than 400000001 records. -/
namespace Go.Proofs.YtaahaepgabcebaaDoor.SameDS
open Go.RowKit Go.Proofs.YtaahaepgabcebaaDoor.Mem Go.Proofs.YtaahaepgabcebaaDoor.MemR Go.Proofs.YtaahaepgabcebaaDoor.Isin Go.Proofs.YtaahaepgabcebaaDoor.DataM

theorem sixB {w : World} {g : Nat} {r : Rec} (h : Bk w g 49 (rc r)) : w.cell? ⟨g, 0, none⟩ = some (.string r.name) ∧ w.cell? ⟨g, 0 + 1, none⟩ = some (.int .i64 r.ty) ∧ w.cell? ⟨g, 0 + 2, none⟩ = some (.int .i64 r.ttl) ∧ w.cell? ⟨g, 0 + 3, none⟩ = some (.int .i64 r.n) ∧ w.cell? ⟨g, 0 + 4, none⟩ = some (.string r.host) ∧ w.cell? ⟨g, 0 + 5, none⟩ = some (.string r.text) :=
  ⟨h.cell 0, h.cell 1, h.cell 2, h.cell 3, h.cell 4, h.cell 5⟩

set_option maxHeartbeats 4000000 in
theorem isIn (A : Option Addr) (n c : Nat) (l : List Rec) (r : Rec) (w : World) (hs : Sr w w.heap.size A n l) (hn : n ≤ 400000000) :
    Calls Tryd.prog 28 #[.slice A n c, .agg #[.string r.name, .int .i64 r.ty, .int .i64 r.ttl, .int .i64 r.n, .string r.host, .string r.text]] w fun e w' => e = .returned (.bool (isin (zs l) (zt r))) ∧ Below w.heap.size w w' := by
  have HS := Lib.hid hs
  have hg := EqlR.grd
  have R0 : Hid (Bk (w.alloc (.cells #[.string r.name, .int .i64 r.ty, .int .i64 r.ttl, .int .i64 r.n, .string r.host, .string r.text] 49)) w.heap.size 49 (rc r)) := heap_alloc_new w _
  have L0 : Hid (Below w.heap.size w (w.alloc (.cells #[.string r.name, .int .i64 r.ty, .int .i64 r.ttl, .int .i64 r.n, .string r.host, .string r.text] 49))) := (Below.refl w.heap.size w).alloc (Nat.le_refl _) _
  clear hs
  go_enter Tryd.func28, Tryd.ntmps28
  go_wp2
  generalize w.alloc (.cells #[.string r.name, .int .i64 r.ty, .int .i64 r.ttl, .int .i64 r.n, .string r.host, .string r.text] 49) = w0 at *
  go_loopw [5] (fun i wr => ∃ k : Nat, k ≤ n ∧ i = .int .i64 k ∧ Hid (zt r ∉ (zs l).take k) ∧ Hid (Bk wr w.heap.size 49 (rc r)) ∧ Hid (Below w.heap.size w wr)) (fun i _ => n - (intOf i).toNat)
  case atStart => exact ⟨0, Nat.zero_le _, rfl, not_zero _ _, R0.out, L0.out⟩
  case round =>
    clear R0 L0
    obtain ⟨k, hk, rfl, HX, HB, HL⟩ := hrel
    by_cases hlt : k < n
    · obtain ⟨b, off, rfl, hbB, hcs⟩ := HS.out.2 (by omega)
      have hkl : k < l.length := by rw [HS.out.1]; exact hlt
      obtain ⟨e0, e1, e2, e3, e4, e5⟩ := (hcs k hkl).below HL.out hbB
      clear hcs
      have hkz : k < (zs l).length := by rw [zs_len]; exact hkl
      have hz := zs_at l k hkz hkl
      have HI := Lib.hid (isin_at (zs l) (zt r) k hkz)
      have HO := Lib.hid (not_next (zs l) (zt r) k hkz)
      rw [hz] at HI HO
      clear hz
      generalize l[k] = x at *
      have y2 : (wr.alloc (.cells #[.string x.name, .int .i64 x.ty, .int .i64 x.ttl, .int .i64 x.n, .string x.host, .string x.text] 49)).cell? ⟨w.heap.size, 2, none⟩ = some (.int .i64 r.ttl) := (HB.out.alloc _).cell 2
      have B2 := Lib.hid (HB.out.alloc (.cells #[.string x.name, .int .i64 x.ty, .int .i64 r.ttl, .int .i64 x.n, .string x.host, .string x.text] 49))
      have X2 : Hid (Bk (wr.alloc (.cells #[.string x.name, .int .i64 x.ty, .int .i64 r.ttl, .int .i64 x.n, .string x.host, .string x.text] 49)) wr.heap.size 49 [.string x.name, .int .i64 x.ty, .int .i64 r.ttl, .int .i64 x.n, .string x.host, .string x.text]) := heap_alloc_new wr _
      have L2 := Lib.hid (HL.out.alloc HL.out.size (.cells #[.string x.name, .int .i64 x.ty, .int .i64 r.ttl, .int .i64 x.n, .string x.host, .string x.text] 49))
      go_upto_region 6 with (fail)
      clear y2 e0 e1 e2 e3 e4 e5 HB HL
      generalize wr.alloc (.cells #[.string x.name, .int .i64 x.ty, .int .i64 r.ttl, .int .i64 x.n, .string x.host, .string x.text] 49) = w2 at *
      generalize wr.heap.size = gx at *
      obtain ⟨y0, y1, y2, y3, y4, y5⟩ := sixB B2.out
      have x0 := X2.out.cell 0
      have x1 := X2.out.cell 1
      have x2 := X2.out.cell 2
      have x3 := X2.out.cell 3
      have x4 := X2.out.cell 4
      have x5 := X2.out.cell 5
      by_cases hne : wt r.ttl x = r
      · have HT := Lib.hid (HI.out (wt_yes hne))
        have hq := fun W => (show Sem.run Tryd.prog (binOp .eql 49 (.agg #[.string x.name, .int .i64 x.ty, .int .i64 r.ttl, .int .i64 x.n, .string x.host, .string x.text]) (.agg #[.string r.name, .int .i64 r.ty, .int .i64 r.ttl, .int .i64 r.n, .string r.host, .string r.text])) W = .ok (.bool true) W from by
          have h := EqlR.eql_same (wt r.ttl x) W
          rw [hne] at h
          have e : (Value.agg #[.string x.name, .int .i64 x.ty, .int .i64 r.ttl, .int .i64 x.n, .string x.host, .string x.text]) = .agg #[.string r.name, .int .i64 r.ty, .int .i64 r.ttl, .int .i64 r.n, .string r.host, .string r.text] := by rw [← hne]; rfl
          rw [e]
          exact h)
        clear hne HI HO
        go_wp2
        go_ret
        exact ⟨by rw [HT.out]; rfl, L2.out⟩
      · have HN := Lib.hid (HO.out HX.out (wt_no hne))
        have hq := fun W => (show Sem.run Tryd.prog (binOp .eql 49 (.agg #[.string x.name, .int .i64 x.ty, .int .i64 r.ttl, .int .i64 x.n, .string x.host, .string x.text]) (.agg #[.string r.name, .int .i64 r.ty, .int .i64 r.ttl, .int .i64 r.n, .string r.host, .string r.text])) W = .ok (.bool false) W from EqlR.eql_diff (r := wt r.ttl x) (s := r) hne W)
        clear hne HI HO
        go_wp2
        go_roundw
        case rel => exact ⟨k + 1, by omega, by go_num, HN.out, B2.out, L2.out⟩
        case measure => simp [intOf]; omega
    · obtain rfl : n = k := by omega
      have HF : Hid (isin (zs l) (zt r) = false) := isin_false (by have h := HX.out; rw [SetMath.take_all (by rw [zs_len]; exact HS.out.1)] at h; exact h)
      go_wp2
      go_ret
      exact ⟨by rw [HF.out]; rfl, HL.out⟩

set_option maxHeartbeats 4000000 in
theorem spec (A A' : Option Addr) (n c n' c' : Nat) (l m : List Rec) (w : World) (hs : Sr w w.heap.size A n l) (hs' : Sr w w.heap.size A' n' m) (hn : n ≤ 400000000) (hn' : n' ≤ 400000000) :
    Calls Tryd.prog 9 #[.slice A n c, .slice A' n' c'] w fun e w' => e = .returned (.bool (sd l m)) ∧ Below w.heap.size w w' := by
  have HS := Lib.hid hs
  have HT := Lib.hid hs'
  clear hs hs'
  go_enter Tryd.func9, Tryd.ntmps9
  go_wp2
  go_loopw [5] (fun i wr => ∃ k : Nat, k ≤ n ∧ i = .int .i64 k ∧ Hid (∀ x ∈ (zs l).take k, x ∈ zs m) ∧ Hid (Below w.heap.size w wr)) (fun i _ => n - (intOf i).toNat)
  case atStart => exact ⟨0, Nat.zero_le _, rfl, fun x hx => by simp at hx, Below.refl _ _⟩
  case round =>
    obtain ⟨k, hk, rfl, HX, HL⟩ := hrel
    by_cases hlt : k < n
    · obtain ⟨b, off, rfl, hbB, hcs⟩ := HS.out.2 (by omega)
      have hkl : k < l.length := by rw [HS.out.1]; exact hlt
      obtain ⟨e0, e1, e2, e3, e4, e5⟩ := (hcs k hkl).below HL.out hbB
      clear hcs
      have hkz : k < (zs l).length := by rw [zs_len]; exact hkl
      have hz := zs_at l k hkz hkl
      have HE := Lib.hid (List.take_succ_eq_append_getElem hkz)
      have HM : Hid (zt l[k] ∈ zs l) := by have := List.getElem_mem hkz; rw [hz] at this; exact this
      rw [hz] at HE
      clear hz
      generalize l[k] = x at *
      go_wp2_with fail
      refine (isIn A' n' c' m x wr ((HT.out.below HL.out).wider HL.out.size) hn').mono ?_
      rintro e w1 ⟨rfl, hl⟩
      have L1 := Lib.hid (HL.out.trans (hl.mono HL.out.size))
      clear hl e0 e1 e2 e3 e4 e5
      by_cases hin : zt x ∈ zs m
      · have HI := Lib.hid (isin_true hin)
        have HR : Hid (∀ y ∈ (zs l).take (k + 1), y ∈ zs m) := fun y hy => by
          rw [HE.out, List.mem_append, List.mem_singleton] at hy
          rcases hy with hy | rfl
          · exact HX.out y hy
          · exact hin
        clear hin
        rw [HI.out]
        go_wp2
        go_roundw
        case rel => exact ⟨k + 1, by omega, by go_num, HR.out, L1.out⟩
        case measure => simp [intOf]; omega
      · have HI := Lib.hid (isin_false hin)
        have HF : Hid (sd l m = false) := show _ = _ by
          unfold sd
          rw [sub_false (fun h => hin (h _ HM.out)), Bool.false_and]
        clear hin
        rw [HI.out]
        go_wp2
        go_ret
        exact ⟨by rw [HF.out]; rfl, L1.out⟩
    · obtain rfl : n = k := by omega
      have HA : Hid (sub l m = true) := sub_true (by have h := HX.out; rw [SetMath.take_all (by rw [zs_len]; exact HS.out.1)] at h; exact h)
      clear HX
      go_wp2
      go_loopw [6] (fun i wr => ∃ k : Nat, k ≤ n' ∧ i = .int .i64 k ∧ Hid (∀ x ∈ (zs m).take k, x ∈ zs l) ∧ Hid (Below w.heap.size w wr)) (fun i _ => n' - (intOf i).toNat)
      case atStart => exact ⟨0, Nat.zero_le _, rfl, fun x hx => by simp at hx, HL.out⟩
      case round =>
        clear HL
        obtain ⟨k, hk, rfl, HX, HL⟩ := hrel
        by_cases hlt : k < n'
        · obtain ⟨b, off, rfl, hbB, hcs⟩ := HT.out.2 (by omega)
          have hkl : k < m.length := by rw [HT.out.1]; exact hlt
          obtain ⟨e0, e1, e2, e3, e4, e5⟩ := (hcs k hkl).below HL.out hbB
          clear hcs
          have hkz : k < (zs m).length := by rw [zs_len]; exact hkl
          have hz := zs_at m k hkz hkl
          have HE := Lib.hid (List.take_succ_eq_append_getElem hkz)
          have HM : Hid (zt m[k] ∈ zs m) := by have := List.getElem_mem hkz; rw [hz] at this; exact this
          rw [hz] at HE
          clear hz
          generalize m[k] = x at *
          go_wp2_with fail
          refine (isIn A n c l x wr ((HS.out.below HL.out).wider HL.out.size) hn).mono ?_
          rintro e w1 ⟨rfl, hl⟩
          have L1 := Lib.hid (HL.out.trans (hl.mono HL.out.size))
          clear hl e0 e1 e2 e3 e4 e5
          by_cases hin : zt x ∈ zs l
          · have HI := Lib.hid (isin_true hin)
            have HR : Hid (∀ y ∈ (zs m).take (k + 1), y ∈ zs l) := fun y hy => by
              rw [HE.out, List.mem_append, List.mem_singleton] at hy
              rcases hy with hy | rfl
              · exact HX.out y hy
              · exact hin
            clear hin
            rw [HI.out]
            go_wp2
            go_roundw
            case rel => exact ⟨k + 1, by omega, by go_num, HR.out, L1.out⟩
            case measure => simp [intOf]; omega
          · have HI := Lib.hid (isin_false hin)
            have HF : Hid (sd l m = false) := show _ = _ by
              unfold sd
              rw [sub_false (l := m) (fun h => hin (h _ HM.out)), Bool.and_false]
            clear hin
            rw [HI.out]
            go_wp2
            go_ret
            exact ⟨by rw [HF.out]; rfl, L1.out⟩
        · obtain rfl : n' = k := by omega
          have HF : Hid (sd l m = true) := show _ = _ by
            unfold sd
            rw [HA.out, sub_true (by have h := HX.out; rw [SetMath.take_all (by rw [zs_len]; exact HT.out.1)] at h; exact h)]
            rfl
          go_wp2
          go_ret
          exact ⟨by rw [HF.out]; rfl, HL.out⟩
end Go.Proofs.YtaahaepgabcebaaDoor.SameDS

/- What firstsOf does at texts: a new slice with the texts, each once, in the order of the first occurrences. Condition: fewer than 400000001 of them. -/
namespace Go.Proofs.YtaahaepgabcebaaDoor.FstS
open Go.RowKit Go.Proofs.YtaahaepgabcebaaDoor.Mem Go.Proofs.YtaahaepgabcebaaDoor.SetMath Go.Proofs.YtaahaepgabcebaaDoor.MapK Go.Proofs.YtaahaepgabcebaaDoor.KeyT Go.Proofs.YtaahaepgabcebaaDoor.MemS Go.Proofs.YtaahaepgabcebaaDoor.AppS

/-- The entries of a set. -/
def en (l : List ByteArray) : List (Value × Value) := l.map (fun x => (.string x, .bool true))

theorem en_key (l : List ByteArray) : ∀ p ∈ en l, KS p.1 := by
  intro p hp
  obtain ⟨x, _, rfl⟩ := List.mem_map.1 hp
  exact ⟨x, rfl⟩

theorem val_inj {x y : ByteArray} (h : (.string x : Value) = .string y) : x = y := by simpa using h

theorem en_out {l : List ByteArray} {x : ByteArray} (h : x ∉ l) : ∀ p ∈ en l, p.1 ≠ .string x := by
  intro p hp e
  obtain ⟨y, hy, rfl⟩ := List.mem_map.1 hp
  exact h (val_inj e ▸ hy)

theorem en_in {l : List ByteArray} {x : ByteArray} (h : x ∈ l) : (.string x, Value.bool true) ∈ en l := List.mem_map.2 ⟨x, h, rfl⟩

theorem en_nodup : ∀ {l : List ByteArray}, l.Nodup → ((en l).map Prod.fst).Nodup
  | [], _ => by simp [en]
  | x :: l, h => by
    obtain ⟨h1, h2⟩ := List.nodup_cons.1 h
    show (.string x :: (en l).map Prod.fst).Nodup
    refine List.nodup_cons.2 ⟨fun hm => ?_, en_nodup h2⟩
    obtain ⟨p, hp, he⟩ := List.mem_map.1 hm
    exact en_out h1 p hp he

theorem en_snoc (l : List ByteArray) (x : ByteArray) : en (l ++ [x]) = en l ++ [(.string x, .bool true)] := by simp [en]

theorem zero (w : World) : (zeroValue 4).run Tryd.prog w = .ok (.bool false) w := by kernel_rfl

theorem made_own (w : World) : ((w.alloc (.map #[] 0)).alloc (.cells #[] 9)).ownsRow (w.heap.size + 1) 9 1 (.slice (some ⟨w.heap.size + 1, 0, none⟩) 0 0) 0 [] := by
  have e : (w.alloc (.map #[] 0)).heap.size = w.heap.size + 1 := by simp
  have := owns_new (w.alloc (.map #[] 0))
  rwa [e] at this

set_option maxHeartbeats 4000000 in
theorem impl (A0 : Option Addr) (n c : Nat) (l : List ByteArray) (w : World) (hs : Ss w w.heap.size A0 n l) (hn : n ≤ 400000000) :
    Calls Tryd.prog 29 #[.slice A0 n c] w (GivesS w (uq l)) := by
  obtain ⟨i0, hi, hz0, hz1, hz2⟩ := info_parts info
  have HS := Lib.hid hs
  clear hs
  have hmm := @run_makeMap Tryd.prog
  have P0 := Lib.hid (made_own w)
  have M0 := Lib.hid ((Mp.made w).alloc (.cells #[] 9))
  have L0 := Lib.hid (((Below.refl w.heap.size w).alloc (Nat.le_refl _) (.map #[] 0)).alloc (by simp) (.cells #[] 9))
  go_enter Tryd.func29, Tryd.ntmps29
  go_wp2
  generalize (w.alloc (.map #[] 0)).alloc (.cells #[] 9) = w0 at *
  go_loopw [4, 11] (fun out i wr => ∃ k g m cap : Nat, k ≤ n ∧ m ≤ k ∧ i = .int .i64 k ∧ out = .slice (some ⟨g, 0, none⟩) m cap ∧ Hid (wr.ownsRow (w.heap.size + 1) 9 1 (.slice (some ⟨g, 0, none⟩) m cap) m ((uq (l.take k)).map tv)) ∧ Hid (Mp wr w.heap.size (en (uq (l.take k)))) ∧ Hid (Below w.heap.size w wr)) (fun _ i _ => n - (intOf i).toNat)
  case atStart => exact ⟨0, w.heap.size + 1, 0, 0, Nat.zero_le _, Nat.le_refl _, rfl, rfl, P0.out, M0.out, L0.out⟩
  case round =>
    clear P0 M0 L0
    obtain ⟨k, g, m, cap, hk, hm, rfl, rfl, HO, HM, HL⟩ := hrel
    by_cases hlt : k < n
    · obtain ⟨b, off, rfl, hbB, hcs⟩ := HS.out.2 (by omega)
      have hkl : k < l.length := by rw [HS.out.1]; exact hlt
      have HU := Lib.hid (uq_take l k hkl)
      have e0 : wr.cell? ⟨b, off + k, none⟩ = some (.string l[k]) := (HL.out.cell (p := ⟨b, off + k, none⟩) hbB).trans (hcs k hkl)
      clear hcs
      generalize l[k] = x at *
      have M1 := Lib.hid HM.out
      have O1 := Lib.hid HO.out
      have L1 := Lib.hid HL.out
      have HE := Lib.hid (en_key (uq (l.take k)))
      have HD := Lib.hid (en_nodup (nodup_uq (l.take k)))
      have HX : Hid (KS (.string x)) := ⟨x, rfl⟩
      by_cases hin : x ∈ uq (l.take k)
      · have HA := Lib.hid (HU.out.trans (add_in hin))
        have HI := Lib.hid (en_in hin)
        clear hin
        have LK : Hid ((Instr.lookup 65 (.map (some w.heap.size)) (.string x) false).run Tryd.prog wr = .ok (.bool true) wr) := M1.out.in KeyT.strings Tryd.underlying65 HE.out HD.out HX.out HI.out false
        go_wp2_with (at_lookup; refine wp_look rfl _ _ false rfl (.string x) (.bool true) rfl rfl LK.out ?_)
        go_roundw
        case rel => exact ⟨k + 1, g, m, cap, by omega, by omega, by go_num, rfl, by rw [HA.out]; exact O1.out, by rw [HA.out]; exact M1.out, L1.out⟩
        case measure => simp [intOf]; omega
      · have HA := Lib.hid (HU.out.trans (add_out hin))
        have HI := Lib.hid (en_out hin)
        clear hin
        have LK : Hid ((Instr.lookup 65 (.map (some w.heap.size)) (.string x) false).run Tryd.prog wr = .ok (.bool false) wr) := M1.out.out KeyT.strings Tryd.underlying65 (zero _) HE.out HX.out HI.out false
        have ST := Lib.hid (M1.out.new KeyT.strings Tryd.underlying65 HE.out (.bool true) HX.out HI.out)
        go_wp2_with (first | (at_lookup; refine wp_look rfl _ _ false rfl (.string x) (.bool false) rfl rfl LK.out ?_) | (at_mapUpdate; refine wp_store rfl _ _ _ rfl (.string x) (.bool true) rfl rfl rfl (en (uq (l.take k)) ++ [(.string x, .bool true)]) ST.out ?_))
        intro w2 m2 g2 s2
        clear LK ST
        have M2 := Lib.hid m2
        have O2 := Lib.hid (O1.out.kept g2 (Or.inr (fun e => by have h1 : w.heap.size + 1 ≤ g := (O1.out.lt g rfl).1; have h2 : g = w.heap.size := Option.some.inj e; omega)))
        have L2 := Lib.hid (L1.out.grown g2 L1.out.size (fun j hj => by cases hj; exact Nat.le_refl _))
        clear m2 g2 s2 M1 O1 L1
        go_wp2_with (at_builtin; refine append_one (w := w2) rfl (.tmp 21) (.tmp 23) 32 rfl (w.heap.size + 1) 9 i0 _ Tryd.underlying32 hi hz0 hz1 hz2 rfl g m cap (uq (l.take k)) rfl O2.out x rfl (by omega) (by have h1 := O2.out.lt g rfl; omega) ?_)
        intro g' cap' w3 hown hgrow
        have O3 := Lib.hid hown
        have NE := Lib.hid (show some w.heap.size ≠ some g from fun e => by have h1 := O2.out.lt g rfl; have h2 := Option.some.inj e; omega)
        have M3 := Lib.hid ((M2.out.alloc (.cells #[.string x] 9)).grown hgrow NE.out)
        have L3 := Lib.hid ((L2.out.alloc L2.out.size (.cells #[.string x] 9)).grown hgrow (Nat.le_trans L2.out.size (by simp)) (fun j hj => by cases hj; have h1 := O2.out.lt g rfl; omega))
        clear hown hgrow
        go_wp2
        go_roundw
        case rel => exact ⟨k + 1, g', m + 1, cap', by omega, by omega, by go_num, rfl, by rw [HA.out, List.map_append]; exact O3.out, by rw [HA.out, en_snoc]; exact M3.out, L3.out⟩
        case measure => simp [intOf]; omega
    · obtain rfl : n = k := by omega
      have HN := Lib.hid (take_all HS.out.1)
      go_wp2
      go_ret
      have ho := HO.out
      rw [HN.out] at ho
      exact gives_of_owns (own_mono ho (by omega)) HL.out
end Go.Proofs.YtaahaepgabcebaaDoor.FstS

/- What Hosts does in the program: the hosts of the records of servers, each once. Condition: fewer than 400000001 records. -/
namespace Go.Proofs.YtaahaepgabcebaaDoor.HostI
open Go.RowKit Go.Proofs.YtaahaepgabcebaaDoor.Mem Go.Proofs.YtaahaepgabcebaaDoor.MemR Go.Proofs.YtaahaepgabcebaaDoor.SetMath Go.Proofs.YtaahaepgabcebaaDoor.MemS Go.Proofs.YtaahaepgabcebaaDoor.AppS

/-- append of one new text onto a row of the call's own, the new block's number as the walk spells it. -/
theorem append_at {w : World} {ops : Array Oper} {rest : List Oper} {o : Oper} {a : Act} {Q : Exit → Act → World → Prop} (hgd : o.guard = none) (s x : Operand)
    (ho : o.op = .call { callee := .builtin .append, args := #[s, x], argTypes := #[32, 32] })
    (base g n cap : Nat) (l : List ByteArray) (hs : a.eval s = .slice (some ⟨g, 0, none⟩) n cap) (hown : w.ownsRow base 9 1 (.slice (some ⟨g, 0, none⟩) n cap) n (l.map tv))
    (y : ByteArray) (p : Nat) (hp : w.heap.size = p) (hx : a.eval x = .slice (some ⟨p, 0, none⟩) 1 1) (hn : n ≤ 800000000) (hbase : base ≤ w.heap.size)
    (h : ∀ g' cap' w', w'.ownsRow base 9 1 (.slice (some ⟨g', 0, none⟩) (n + 1) cap') (n + 1) ((l ++ [y]).map tv) → (w.alloc (.cells #[.string y] 9)).grownBy w' (some g) → wpList Tryd.prog ops Q rest (a.put o.dst (.slice (some ⟨g', 0, none⟩) (n + 1) cap')) w') : wpList Tryd.prog ops Q (o :: rest) a (w.alloc (.cells #[.string y] 9)) := by
  subst hp
  obtain ⟨i0, hi, hz0, hz1, hz2⟩ := info_parts info
  exact append_one (w := w) hgd s x 32 ho base 9 i0 _ Tryd.underlying32 hi hz0 hz1 hz2 rfl g n cap l hs hown y hx hn hbase h

set_option maxHeartbeats 4000000 in
theorem impl (b0 o0 n c : Nat) (l : List Rec) (w : World) (hs : Sr w w.heap.size (some ⟨b0, o0, none⟩) n l) (hn : n ≤ 400000000) : Calls Tryd.prog 11 #[.slice (some ⟨b0, o0, none⟩) n c] w (GivesS w (uq (hl l))) := by
  have HS := Lib.hid hs
  clear hs
  have P0 := Lib.hid (owns_new w)
  have L0 := Lib.hid ((Below.refl w.heap.size w).alloc (Nat.le_refl _) (.cells #[] 9))
  go_enter Tryd.func11, Tryd.ntmps11
  go_wp2
  generalize w.alloc (.cells #[] 9) = w0 at *
  go_loopw [3, 9] (fun out i wr => ∃ k g m cap : Nat, k ≤ n ∧ m ≤ k ∧ i = .int .i64 k ∧ out = .slice (some ⟨g, 0, none⟩) m cap ∧ Hid (wr.ownsRow w.heap.size 9 1 (.slice (some ⟨g, 0, none⟩) m cap) m ((hl (l.take k)).map tv)) ∧ Hid (Below w.heap.size w wr)) (fun _ i _ => n - (intOf i).toNat)
  case atStart => exact ⟨0, w.heap.size, 0, 0, Nat.zero_le _, Nat.le_refl _, rfl, rfl, P0.out, L0.out⟩
  case round =>
    clear P0 L0
    obtain ⟨k, g, m, cap, hk, hm, rfl, rfl, HO, HL⟩ := hrel
    by_cases hlt : k < n
    · obtain ⟨b, off, hA, hbB, hcs⟩ := HS.out.2 (by omega)
      obtain ⟨rfl, rfl⟩ : b0 = b ∧ o0 = off := by simp at hA; exact hA
      clear hA
      have hkl : k < l.length := by rw [HS.out.1]; exact hlt
      obtain ⟨e0, e1, e2, e3, e4, e5⟩ := (hcs k hkl).below HL.out hbB
      clear hcs
      have HT := Lib.hid (hl_take l k hkl)
      generalize l[k] = r at *
      have W1 : Hid (Below w.heap.size w (wr.alloc (.cells #[.string r.name, .int .i64 r.ty, .int .i64 r.ttl, .int .i64 r.n, .string r.host, .string r.text] 49))) := HL.out.alloc HL.out.size _
      have O1 := Lib.hid (HO.out.alloc (.cells #[.string r.name, .int .i64 r.ty, .int .i64 r.ttl, .int .i64 r.n, .string r.host, .string r.text] 49))
      by_cases hty : ¬ r.ty = 2
      · have HA := Lib.hid (show hl (l.take (k + 1)) = hl (l.take k) from by rw [HT.out, if_neg hty, List.append_nil])
        have t0 : (r.ty == 2) = false := by simpa using hty
        clear hty
        go_wp2
        go_roundw
        case rel => exact ⟨k + 1, g, m, cap, by omega, by omega, by go_num, rfl, by rw [HA.out]; exact O1.out, W1.out⟩
        case measure => simp [intOf]; omega
      replace hty : r.ty = 2 := Classical.not_not.1 hty
      have HA := Lib.hid (show hl (l.take (k + 1)) = hl (l.take k) ++ [r.host] from by rw [HT.out, if_pos hty])
      have t0 : (r.ty == 2) = true := by simpa using hty
      clear hty
      go_wp2_with (at_builtin; refine append_at (w := wr.alloc (.cells #[.string r.name, .int .i64 r.ty, .int .i64 r.ttl, .int .i64 r.n, .string r.host, .string r.text] 49)) rfl (.tmp 16) (.tmp 19) rfl w.heap.size g m cap (hl (l.take k)) rfl O1.out r.host (wr.heap.size + 1) (by simp) rfl (by omega) (by have h1 := O1.out.lt g rfl; omega) ?_)
      intro g' cap' w3 hown hgrow
      have O3 := Lib.hid hown
      have L3 := Lib.hid ((W1.out.alloc W1.out.size (.cells #[.string r.host] 9)).grown hgrow (Nat.le_trans W1.out.size (by simp)) (fun j hj => by cases hj; have h1 := O1.out.lt g rfl; omega))
      clear hown hgrow
      go_wp2
      go_roundw
      case rel => exact ⟨k + 1, g', m + 1, cap', by omega, by omega, by go_num, rfl, by rw [HA.out, List.map_append]; exact O3.out, L3.out⟩
      case measure => simp [intOf]; omega
    · obtain rfl : n = k := by omega
      have HN := Lib.hid (take_all HS.out.1)
      have HQ : Hid (Ss wr wr.heap.size (some ⟨g, 0, none⟩) m (hl l)) := by
        have ho := HO.out
        rw [HN.out] at ho
        have hz : (hl l).length = m := by have := ho.1; simpa using this
        obtain ⟨r', hb, _, _⟩ := bk_of_owns ho
        exact bk_ssw hb hz
      go_wp2_with fail
      refine (FstS.impl _ m cap (hl l) wr HQ.out (by omega)).mono ?_
      rintro e w1 ⟨g1, m1, c1, r1, rfl, hm1, hc1, hg1, hb1, hl1⟩
      have G1 := Lib.hid (Nat.le_trans HL.out.size hg1)
      have M1 := Lib.hid hm1
      have C1 := Lib.hid hc1
      have B1 := Lib.hid hb1
      have L1 := Lib.hid (HL.out.trans (hl1.mono HL.out.size))
      clear hm1 hc1 hg1 hb1 hl1
      go_wp2
      go_ret
      exact ⟨g1, m1, c1, r1, rfl, M1.out, C1.out, G1.out, B1.out, L1.out⟩
end Go.Proofs.YtaahaepgabcebaaDoor.HostI

/- What Hosts does in the model. Condition: fewer than 400000001 records. -/
namespace Go.Proofs.YtaahaepgabcebaaDoor.HostS
open Go.RowKit Go.Proofs.YtaahaepgabcebaaDoor.Mem Go.Proofs.YtaahaepgabcebaaDoor.MemR Go.Proofs.YtaahaepgabcebaaDoor.SetMath Go.Proofs.YtaahaepgabcebaaDoor.Isin Go.Proofs.YtaahaepgabcebaaDoor.MemS Go.Proofs.YtaahaepgabcebaaDoor.AppS

theorem grown_of_below {w w' : World} (h : Below w.heap.size w w') (r : Option Nat) : w.grownBy w' r := ⟨h.os, h.tape, h.output, h.size, fun k hk _ => h.block k hk⟩

set_option maxHeartbeats 1000000 in
theorem has (A : Option Addr) (n c : Nat) (l : List ByteArray) (x : ByteArray) (w : World) (hs : Ss w w.heap.size A n l) (hn : n ≤ 400000000) :
    Calls Tryd.prog 30 #[.slice A n c, .string x] w fun e w' => e = .returned (.bool (isin l x)) ∧ Below w.heap.size w w' := by
  have HS := Lib.hid hs
  clear hs
  go_enter Tryd.func30, Tryd.ntmps30
  go_wp2
  go_loopw [5] (fun i wr => ∃ k : Nat, k ≤ n ∧ i = .int .i64 k ∧ Hid (x ∉ l.take k) ∧ Hid (Below w.heap.size w wr)) (fun i _ => n - (intOf i).toNat)
  case atStart => exact ⟨0, Nat.zero_le _, rfl, not_zero l x, Below.refl _ _⟩
  case round =>
    obtain ⟨k, hk, rfl, HX, HL⟩ := hrel
    by_cases hlt : k < n
    · obtain ⟨b, off, rfl, hbB, hcs⟩ := HS.out.2 (by omega)
      have hkl : k < l.length := by rw [HS.out.1]; exact hlt
      have e0 : wr.cell? ⟨b, off + k, none⟩ = some (.string l[k]) := (HL.out.cell (p := ⟨b, off + k, none⟩) hbB).trans (hcs k hkl)
      clear hcs
      have HI := Lib.hid (isin_at l x k hkl)
      have HO := Lib.hid (not_next l x k hkl)
      generalize l[k] = y at *
      by_cases hne : y = x
      · have HT := Lib.hid (HI.out hne)
        subst hne
        have q1 : (y.toList == y.toList) = true := by simp
        have q2 : (y.data.toList == y.data.toList) = true := by simp
        go_wp2
        go_ret
        exact ⟨by rw [HT.out]; rfl, HL.out⟩
      · have HN := Lib.hid (HO.out HX.out hne)
        have q1 : (y.toList == x.toList) = false := bytes_ne hne
        have q2 : (y.data.toList == x.data.toList) = false := by rw [← ByteArray.toList_eq, ← ByteArray.toList_eq]; exact q1
        clear hne
        go_wp2
        go_roundw
        case rel => exact ⟨k + 1, by omega, by go_num, HN.out, HL.out⟩
        case measure => simp [intOf]; omega
    · obtain rfl : n = k := by omega
      have HF : Hid (isin l x = false) := isin_false (by rw [take_all HS.out.1] at HX; exact HX.out)
      go_wp2
      go_ret
      exact ⟨by rw [HF.out]; rfl, HL.out⟩

set_option maxHeartbeats 4000000 in
theorem spec (b0 o0 n c : Nat) (l : List Rec) (w : World) (hs : Sr w w.heap.size (some ⟨b0, o0, none⟩) n l) (hn : n ≤ 400000000) : Calls Tryd.prog 12 #[.slice (some ⟨b0, o0, none⟩) n c] w (GivesS w (uq (hl l))) := by
  obtain ⟨i0, hi, hz0, hz1, hz2⟩ := info_parts info
  have HS := Lib.hid hs
  clear hs
  have P0 := Lib.hid (owns_new w)
  have L0 := Lib.hid ((Below.refl w.heap.size w).alloc (Nat.le_refl _) (.cells #[] 9))
  go_enter Tryd.func12, Tryd.ntmps12
  go_wp2
  generalize w.alloc (.cells #[] 9) = w0 at *
  go_loopw [3, 4] (fun out i wr => ∃ k g m cap : Nat, k ≤ n ∧ m ≤ k ∧ i = .int .i64 k ∧ out = .slice (some ⟨g, 0, none⟩) m cap ∧ Hid (wr.ownsRow w.heap.size 9 1 (.slice (some ⟨g, 0, none⟩) m cap) m ((uq (hl (l.take k))).map tv)) ∧ Hid (Below w.heap.size w wr)) (fun _ i _ => n - (intOf i).toNat)
  case atStart => exact ⟨0, w.heap.size, 0, 0, Nat.zero_le _, Nat.le_refl _, rfl, rfl, P0.out, L0.out⟩
  case round =>
    clear P0 L0
    obtain ⟨k, g, m, cap, hk, hm, rfl, rfl, HO, HL⟩ := hrel
    by_cases hlt : k < n
    · obtain ⟨b, off, hA, hbB, hcs⟩ := HS.out.2 (by omega)
      obtain ⟨rfl, rfl⟩ : b0 = b ∧ o0 = off := by simp at hA; exact hA
      clear hA
      have hkl : k < l.length := by rw [HS.out.1]; exact hlt
      obtain ⟨e0, e1, e2, e3, e4, e5⟩ := (hcs k hkl).below HL.out hbB
      clear hcs
      have HT := Lib.hid (hl_take l k hkl)
      generalize l[k] = r at *
      by_cases hty : ¬ r.ty = 2
      · have HA := Lib.hid (show uq (hl (l.take (k + 1))) = uq (hl (l.take k)) from by rw [HT.out, if_neg hty, List.append_nil])
        have t0 : (r.ty == 2) = false := by simpa using hty
        clear hty
        go_wp2
        go_roundw
        case rel => exact ⟨k + 1, g, m, cap, by omega, by omega, by go_num, rfl, by rw [HA.out]; exact HO.out, HL.out⟩
        case measure => simp [intOf]; omega
      replace hty : r.ty = 2 := Classical.not_not.1 hty
      have HU := Lib.hid (show uq (hl (l.take (k + 1))) = add (uq (hl (l.take k))) r.host from by rw [HT.out, if_pos hty, uq_snoc])
      have t0 : (r.ty == 2) = true := by simpa using hty
      clear hty
      have HZ : Hid ((uq (hl (l.take k))).length = m) := show _ = _ by have := HO.out.1; simpa using this
      have SS : Hid (∀ W : World, W.ownsRow w.heap.size 9 1 (.slice (some ⟨g, 0, none⟩) m cap) m ((uq (hl (l.take k))).map tv) → Calls Tryd.prog 30 #[.slice (some ⟨g, 0, none⟩) m cap, .string r.host] W fun e w' => e = .returned (.bool (isin (uq (hl (l.take k))) (r.host))) ∧ Below W.heap.size W w') :=
        fun W O => has _ m cap (uq (hl (l.take k))) (r.host) W (show Ss W W.heap.size (some ⟨g, 0, none⟩) m (uq (hl (l.take k))) from by obtain ⟨r', hb, _, _⟩ := bk_of_owns O; exact bk_ssw hb HZ.out) (by omega)
      go_wp2_with fail
      refine (SS.out _ HO.out).mono ?_
      rintro e w1 ⟨rfl, hl⟩
      have O1 := Lib.hid (HO.out.kept (grown_of_below hl none) (Or.inr (fun e => by cases e)))
      have L1 := Lib.hid (HL.out.trans (hl.mono HL.out.size))
      have C1 := (show Ce w1 b0 (o0 + k * 6) r from ⟨(hl.cell (p := ⟨b0, o0 + k * 6, none⟩) (Nat.lt_of_lt_of_le hbB HL.out.size)).trans e0, (hl.cell (p := ⟨b0, o0 + k * 6 + 1, none⟩) (Nat.lt_of_lt_of_le hbB HL.out.size)).trans e1, (hl.cell (p := ⟨b0, o0 + k * 6 + 2, none⟩) (Nat.lt_of_lt_of_le hbB HL.out.size)).trans e2, (hl.cell (p := ⟨b0, o0 + k * 6 + 3, none⟩) (Nat.lt_of_lt_of_le hbB HL.out.size)).trans e3, (hl.cell (p := ⟨b0, o0 + k * 6 + 4, none⟩) (Nat.lt_of_lt_of_le hbB HL.out.size)).trans e4, (hl.cell (p := ⟨b0, o0 + k * 6 + 5, none⟩) (Nat.lt_of_lt_of_le hbB HL.out.size)).trans e5⟩)
      clear hl e0 e1 e2 e3 e4 e5 SS
      obtain ⟨e0, e1, e2, e3, e4, e5⟩ := C1
      by_cases hin : r.host ∈ uq (hl (l.take k))
      · have HA := Lib.hid (HU.out.trans (add_in hin))
        have HB := Lib.hid (isin_true hin)
        clear hin
        rw [HB.out]
        go_wp2
        go_roundw
        case rel => exact ⟨k + 1, g, m, cap, by omega, by omega, by go_num, rfl, by rw [HA.out]; exact O1.out, L1.out⟩
        case measure => simp [intOf]; omega
      · have HA := Lib.hid (HU.out.trans (add_out hin))
        have HB := Lib.hid (isin_false hin)
        clear hin
        rw [HB.out]
        go_wp2_with (at_builtin; refine append_one (w := w1) rfl (.tmp 28) (.tmp 34) 32 rfl w.heap.size 9 i0 _ Tryd.underlying32 hi hz0 hz1 hz2 rfl g m cap (uq (hl (l.take k))) rfl O1.out r.host rfl (by omega) (by have h1 := O1.out.lt g rfl; omega) ?_)
        intro g' cap' w3 hown hgrow
        have O3 := Lib.hid hown
        have L3 := Lib.hid ((L1.out.alloc L1.out.size (.cells #[.string r.host] 9)).grown hgrow (Nat.le_trans L1.out.size (by simp)) (fun j hj => by cases hj; have h1 := O1.out.lt g rfl; omega))
        clear hown hgrow
        go_wp2
        go_roundw
        case rel => exact ⟨k + 1, g', m + 1, cap', by omega, by omega, by go_num, rfl, by rw [HA.out, List.map_append]; exact O3.out, L3.out⟩
        case measure => simp [intOf]; omega
    · obtain rfl : n = k := by omega
      have HN := Lib.hid (take_all HS.out.1)
      go_wp2
      go_ret
      have ho := HO.out
      rw [HN.out] at ho
      exact gives_of_owns ho HL.out
end Go.Proofs.YtaahaepgabcebaaDoor.HostS

/- 'm[k] = append(m[k], x)' as the model has it: the entry is found or laid, with its stamp; then its value is stored at the stamp. -/
namespace Go.Proofs.YtaahaepgabcebaaDoor.MapE
open Go.RowKit Go.Proofs.YtaahaepgabcebaaDoor.Mem Go.Proofs.YtaahaepgabcebaaDoor.MapK
open Go.ChangeMaps (setBlock heap_setBlock_same heap_setBlock_other)

/-- As Mp; and the j-th entry bears the stamp st. -/
def Ms (w : World) (b : Nat) (l : List (Value × Value)) (j st : Nat) : Prop :=
  ∃ es clock, w.heap[b]? = some (.map es clock) ∧ es.toList.map (fun e => (e.key, e.val)) = l ∧ (∀ e ∈ es.toList, e.born < clock) ∧ (es.toList.map (·.born)).Nodup ∧ ∃ e, es.toList[j]? = some e ∧ e.born = st
section
variable {P : Program} {w w' : World} {b : Nat} {l : List (Value × Value)} {k e t : TypeId} {S : Value → Prop} {j st : Nat}

theorem Ms.lt (h : Ms w b l j st) : b < w.heap.size := by
  obtain ⟨es, clock, hb, _⟩ := h
  exact (Array.getElem?_eq_some_iff.1 hb).1

theorem Ms.kept (h : Ms w b l j st) (hk : w'.heap[b]? = w.heap[b]?) : Ms w' b l j st := by
  obtain ⟨es, clock, hb, h1⟩ := h
  exact ⟨es, clock, hk.trans hb, h1⟩

theorem Ms.grown {row : Option Nat} (h : Ms w b l j st) (hg : w.grownBy w' row) (hne : some b ≠ row) : Ms w' b l j st := h.kept (hg.block b h.lt hne)

theorem Ms.alloc (h : Ms w b l j st) (o : Obj) : Ms (w.alloc o) b l j st := h.grown (World.grownBy_alloc w o none) (by simp)

/-- The entry is not there: it is laid, with the zero value. -/
theorem entry_new (h : Mp w b l) (K : MapK.KeyT P k S) (ht : P.underlying t = some (.map k e)) {z : Value} (hz : (zeroValue e).run P w = .ok z w) (hS : ∀ p ∈ l, S p.1) {x : Value} (hx : S x) (hno : ∀ p ∈ l, p.1 ≠ x) :
    ∃ w' st, (Instr.mapEntry t (.map (some b)) x).run P w = .ok (.tuple #[z, .int .i64 (st : Nat)]) w' ∧ Ms w' b (l ++ [(x, z)]) l.length st ∧ w.grownBy w' (some b) ∧ w'.heap.size = w.heap.size := by
  obtain ⟨es, clock, hb, hl, hborn, hnd⟩ := h
  rcases K.find w hx es.toList (mem_key hl hS) with ⟨hrun, _⟩ | ⟨j, e0, _, hj, hk⟩
  · refine ⟨setBlock w b (.map (es.push ⟨x, z, clock⟩) (clock + 1)), clock, ?_, ⟨_, _, heap_setBlock_same hb _, ?_, ?_, ?_, ⟨x, z, clock⟩, ?_, rfl⟩, grown_block hb _, by simp [setBlock]⟩
    · simp [Instr.mapEntry, run_underlying ht, MapKept.run_getObj_map hb, K.check w false hx, hrun, hz, MapKept.run_setObj_map _ hb, Result.andThen, setBlock, goInt]
    · rw [Array.toList_push, List.map_append, hl]; rfl
    · intro e' he'
      rw [Array.toList_push, List.mem_append] at he'
      rcases he' with he' | he'
      · have := hborn e' he'; omega
      · obtain rfl := List.mem_singleton.1 he'; exact Nat.lt_succ_self _
    · rw [Array.toList_push, List.map_append, List.nodup_append]
      refine ⟨hnd, by simp, fun a ha c hc => ?_⟩
      obtain ⟨e', he', rfl⟩ := List.mem_map.1 ha
      have h1 := hborn e' he'
      simp at hc
      omega
    · rw [Array.toList_push, ← hl, List.length_map, List.getElem?_append_right (Nat.le_refl _), Nat.sub_self]
      rfl
  · exact absurd hk (hno (e0.key, e0.val) (hl ▸ List.mem_map.2 ⟨e0, List.mem_of_getElem? hj, rfl⟩))

/-- The entry is there. -/
theorem entry_old (h : Mp w b l) (K : MapK.KeyT P k S) (ht : P.underlying t = some (.map k e)) (hS : ∀ p ∈ l, S p.1) (hd : (l.map Prod.fst).Nodup) {x u : Value} (hx : S x) {j : Nat} (hin : l[j]? = some (x, u)) :
    ∃ w' st, (Instr.mapEntry t (.map (some b)) x).run P w = .ok (.tuple #[u, .int .i64 (st : Nat)]) w' ∧ Ms w' b l j st ∧ w.grownBy w' (some b) ∧ w'.heap.size = w.heap.size := by
  obtain ⟨es, clock, hb, hl, hborn, hnd⟩ := h
  rcases K.find w hx es.toList (mem_key hl hS) with ⟨_, hno⟩ | ⟨i, e0, hrun, hi, hk⟩
  · have hm := List.mem_of_getElem? hin
    rw [← hl] at hm
    obtain ⟨e0, he, hq⟩ := List.mem_map.1 hm
    exact absurd (congrArg Prod.fst hq) (hno e0 he)
  · have hli : l[i]? = some (e0.key, e0.val) := by rw [← hl, List.getElem?_map, hi]; rfl
    have hij : i = j := by
      rw [hk] at hli
      exact key_idx hd hli hin
    subst hij
    have hu : e0.val = u := by rw [hli] at hin; exact congrArg Prod.snd (Option.some.inj hin)
    have hget : es[i]? = some e0 := by rw [← Array.getElem?_toList]; exact hi
    have hmod : (es.modify i fun e => { e with key := x }) = es := by
      refine Array.toList_inj.1 ?_
      rw [Array.toList_modify]
      refine List.ext_getElem? fun n => ?_
      rw [List.getElem?_modify]
      by_cases hn : i = n
      · subst hn
        rw [hi]
        simp [← hk]
      · simp [hn]
    refine ⟨setBlock w b (.map (es.modify i fun e => { e with key := x }) clock), e0.born, ?_, ⟨es, clock, by rw [heap_setBlock_same hb _, hmod], hl, hborn, hnd, e0, hi, rfl⟩, grown_block hb _, by simp [setBlock]⟩
    have hst := K.stays w hx
    have hck := K.check w false hx
    subst hk
    subst hu
    simp [Instr.mapEntry, run_underlying ht, MapKept.run_getObj_map hb, hck, hrun, hget, hst, MapKept.run_setObj_map _ hb, Result.andThen, setBlock, goInt]

/-- The value is stored at the stamp. -/
theorem Ms.store (h : Ms w b l j st) (t : TypeId) {x u : Value} (hin : l[j]? = some (x, u)) (v : Value) :
    ∃ w', (Instr.entryStore t (.map (some b)) (.int .i64 (st : Nat)) v).run P w = .ok () w' ∧ Mp w' b (l.set j (x, v)) ∧ w.grownBy w' (some b) ∧ w'.heap.size = w.heap.size := by
  obtain ⟨es, clock, hb, hl, hborn, hnd, e0, hj, rfl⟩ := h
  have hx : e0.key = x := by
    rw [← hl, List.getElem?_map, hj] at hin
    exact congrArg Prod.fst (Option.some.inj hin)
  have hfind : es.findIdx? (fun e => (e.born : Int) == (e0.born : Int)) = some j := by
    obtain ⟨hlt, he⟩ := List.getElem?_eq_some_iff.1 hj
    rw [Array.findIdx?_eq_some_iff_getElem]
    refine ⟨by simpa using hlt, by rw [show es[j]'(by simpa using hlt) = e0 from he]; simp, fun i hi hp => ?_⟩
    have hil : i < es.toList.length := by omega
    have h1 : (es.toList.map (·.born))[i]? = some e0.born := by
      rw [List.getElem?_map, List.getElem?_eq_getElem hil]
      have h3 : es[i].born = e0.born := by simp at hp; omega
      have h4 : es.toList[i].born = e0.born := h3
      rw [Option.map_some, h4]
    have h2 : (es.toList.map (·.born))[j]? = some e0.born := by rw [List.getElem?_map, hj]; rfl
    have := nodup_inj hnd h1 h2
    omega
  refine ⟨setBlock w b (.map (es.modify j fun e => { e with val := v }) clock), ?_, ⟨_, _, heap_setBlock_same hb _, ?_, ?_, ?_⟩, grown_block hb _, by simp [setBlock]⟩
  · simp [Instr.entryStore, MapKept.run_getObj_map hb, asInt, asIntOf, hfind, MapKept.run_setObj_map _ hb, Result.andThen, setBlock]
  · rw [Array.toList_modify, ← hl]
    refine List.ext_getElem? fun n => ?_
    rw [List.getElem?_map, List.getElem?_modify, List.getElem?_set]
    by_cases hn : j = n
    · subst hn
      have : j < es.toList.length := (List.getElem?_eq_some_iff.1 hj).1
      rw [Array.length_toList] at this
      rw [hj]
      simp [this, hx]
    · simp [hn]
  · intro e' he'
    rw [Array.toList_modify] at he'
    obtain ⟨n, hn⟩ := List.getElem?_of_mem he'
    rw [List.getElem?_modify] at hn
    obtain ⟨e1, h1, rfl⟩ := Option.map_eq_some_iff.1 hn
    have := hborn e1 (List.mem_of_getElem? h1)
    split <;> exact this
  · have : (es.modify j fun e => { e with val := v }).toList.map (·.born) = es.toList.map (·.born) := by
      rw [Array.toList_modify]
      refine List.ext_getElem? fun n => ?_
      rw [List.getElem?_map, List.getElem?_map, List.getElem?_modify]
      cases es.toList[n]? <;> simp
      split <;> rfl
    rw [this]
    exact hnd

/-- The look-up of an entry at the operation. -/
theorem wp_entry {ops : Array Oper} {rest : List Oper} {o : Oper} {a : Act} {Q : Exit → Act → World → Prop}
    (hg : o.guard = none) (m x : Operand) (hop : o.op = Op.mapEntry t m x) (key u : Value) (hm : a.eval m = .map (some b)) (hx : a.eval x = key) (l' : List (Value × Value)) (j' : Nat)
    (hrun : ∃ w' st, (Instr.mapEntry t (.map (some b)) key).run P w = .ok (.tuple #[u, .int .i64 (st : Nat)]) w' ∧ Ms w' b l' j' st ∧ w.grownBy w' (some b) ∧ w'.heap.size = w.heap.size)
    (hK : ∀ w' (st : Nat), Ms w' b l' j' st → w.grownBy w' (some b) → w'.heap.size = w.heap.size → wpList P ops Q rest (a.put o.dst (.tuple #[u, .int .i64 (st : Nat)])) w') : wpList P ops Q (o :: rest) a w := by
  obtain ⟨w', s0, h1, h2, h3, h4⟩ := hrun
  refine wpList_plain hg fun K' hK' => ?_
  unfold Oper.wp
  simp [execOp, hop, hm, hx, h1, Result.andThen]
  exact hK' _ _ (hK w' s0 h2 h3 h4)

/-- The store at a stamp at the operation. -/
theorem wp_stamp {ops : Array Oper} {rest : List Oper} {o : Oper} {a : Act} {Q : Exit → Act → World → Prop}
    (hg : o.guard = none) (m s v : Operand) (hop : o.op = Op.entryStore t m s v) (u : Value) (hm : a.eval m = .map (some b)) (hs : a.eval s = .int .i64 (st : Nat)) (hv : a.eval v = u)
    (l' : List (Value × Value)) (hrun : ∃ w', (Instr.entryStore t (.map (some b)) (.int .i64 (st : Nat)) u).run P w = .ok () w' ∧ Mp w' b l' ∧ w.grownBy w' (some b) ∧ w'.heap.size = w.heap.size)
    (hK : ∀ w', Mp w' b l' → w.grownBy w' (some b) → w'.heap.size = w.heap.size → wpList P ops Q rest (a.put o.dst undef) w') : wpList P ops Q (o :: rest) a w := by
  obtain ⟨w', h1, h2, h3, h4⟩ := hrun
  refine wpList_plain hg fun K' hK' => ?_
  unfold Oper.wp
  simp [execOp, hop, hm, hs, hv, h1, Result.andThen]
  exact hK' _ _ (hK w' h2 h3 h4)
end
end Go.Proofs.YtaahaepgabcebaaDoor.MapE

/- A map of slices of records, one for each key: what it is, and that it is so again behind one more record. -/
namespace Go.Proofs.YtaahaepgabcebaaDoor.GrpM
open Go.RowKit Go.Proofs.YtaahaepgabcebaaDoor.Mem Go.Proofs.YtaahaepgabcebaaDoor.MemR Go.Proofs.YtaahaepgabcebaaDoor.SetMath Go.Proofs.YtaahaepgabcebaaDoor.MemQ Go.Proofs.YtaahaepgabcebaaDoor.MapK Go.Proofs.YtaahaepgabcebaaDoor.MapE

/-- An entry: the key, the block of the slice, its length and its capacity. -/
structure Ge where
  q : Key
  g : Nat
  m : Nat
  cap : Nat

/-- Its slice. -/
def sv (e : Ge) : Value := .slice (some ⟨e.g, 0, none⟩) e.m e.cap

/-- The entries as the map holds them. -/
def ev (es : List Ge) : List (Value × Value) := es.map (fun e => (qv e.q, sv e))

/-- The records of a key. -/
noncomputable def sq (q : Key) (l : List Rec) : List Rec := sf q.name q.ty l

theorem sq_snoc (q : Key) (l : List Rec) (r : Rec) : sq q (l ++ [r]) = sq q l ++ (if isk q.name q.ty r = true then [r] else []) := by
  rw [sq, sf, List.filter_append, List.filter_cons, List.filter_nil]; rfl

theorem sq_same (l : List Rec) (r : Rec) : sq (ky r) (l ++ [r]) = sq (ky r) l ++ [r] := by
  rw [sq_snoc, show isk (ky r).name (ky r).ty r = true from isk_true ⟨rfl, rfl⟩, if_pos rfl]

theorem sq_other {q : Key} (l : List Rec) {r : Rec} (h : q ≠ ky r) : sq q (l ++ [r]) = sq q l := by
  rw [sq_snoc, isk_false (fun e => h (by obtain ⟨a, b⟩ := q; simp only at e; rw [ky, e.1, e.2])), if_neg (by decide), List.append_nil]

theorem sq_none {q : Key} {l : List Rec} (h : q ∉ kl l) : sq q l = [] := by
  refine List.filter_eq_nil_iff.2 (fun r hr hk => h ?_)
  refine List.mem_map.2 ⟨r, hr, ?_⟩
  obtain ⟨h1, h2⟩ := isk_iff.1 hk
  obtain ⟨a, b⟩ := q
  rw [ky, h1, h2]

theorem uq_kl (l : List Rec) (r : Rec) : uq (kl (l ++ [r])) = add (uq (kl l)) (ky r) := by
  rw [show kl (l ++ [r]) = kl l ++ [ky r] from by rw [kl, List.map_append]; rfl, uq_snoc]

/-- Block b is a map that holds, for each key of the records l, its records in a row of the call's own, from base on; no two in one row. -/
def Gr (w : World) (base b : Nat) (l : List Rec) : Prop := ∃ es : List Ge, Mp w b (ev es) ∧ es.map (·.q) = uq (kl l) ∧
  (∀ (i : Nat) (e : Ge), es[i]? = some e → w.ownsRow base 49 6 (sv e) e.m (fl (sq e.q l))) ∧ (∀ (i i' : Nat) (e e' : Ge), es[i]? = some e → es[i']? = some e' → i ≠ i' → e.g ≠ e'.g)

section
variable {w w' w2 w3 w4 : World} {base b g' cap' : Nat} {l : List Rec} {es : List Ge}

theorem ev_key (es : List Ge) : ∀ p ∈ ev es, ∃ q : Key, p.1 = qv q := by
  intro p hp
  obtain ⟨e, _, rfl⟩ := List.mem_map.1 hp
  exact ⟨_, rfl⟩

theorem qv_inj {q p : Key} (h : qv q = qv p) : q = p := by
  obtain ⟨a, b⟩ := q
  obtain ⟨c, d⟩ := p
  simp [qv] at h
  rw [h.1, h.2]

theorem ev_nodup : ∀ {es : List Ge}, (es.map (·.q)).Nodup → ((ev es).map Prod.fst).Nodup
  | [], _ => by simp [ev]
  | e :: es, h => by
    rw [List.map_cons] at h
    obtain ⟨h1, h2⟩ := List.nodup_cons.1 h
    show (qv e.q :: (ev es).map Prod.fst).Nodup
    refine List.nodup_cons.2 ⟨fun hm => ?_, ev_nodup h2⟩
    obtain ⟨p, hp, he⟩ := List.mem_map.1 hm
    obtain ⟨e', he', rfl⟩ := List.mem_map.1 hp
    exact h1 (List.mem_map.2 ⟨e', he', qv_inj he⟩)

theorem ev_out {q : Key} (h : q ∉ es.map (·.q)) : ∀ p ∈ ev es, p.1 ≠ qv q := by
  intro p hp e
  obtain ⟨e', he', rfl⟩ := List.mem_map.1 hp
  exact h (List.mem_map.2 ⟨e', he', qv_inj e⟩)

theorem ev_at {i : Nat} {e : Ge} (h : es[i]? = some e) : (ev es)[i]? = some (qv e.q, sv e) := by rw [ev, List.getElem?_map, h]; rfl

theorem own_kept {e : Ge} {xs : List Value} {row : Option Nat} (h : w.ownsRow base 49 6 (sv e) e.m xs) (hg : w.grownBy w' row) (hne : some e.g ≠ row) : w'.ownsRow base 49 6 (sv e) e.m xs := h.kept hg (Or.inr hne)

theorem own_lt {e : Ge} {xs : List Value} (h : w.ownsRow base 49 6 (sv e) e.m xs) : base ≤ e.g ∧ e.g < w.heap.size := h.lt e.g rfl

theorem own_m {e : Ge} (h : w.ownsRow base 49 6 (sv e) e.m (fl (sq e.q l))) : (sq e.q l).length = e.m := by have := h.1; rw [fl_len] at this; omega

/-- Nothing of the groups is turned by what turns other blocks. -/
theorem rows_kept {row : Option Nat} (h : ∀ (i : Nat) (e : Ge), es[i]? = some e → w.ownsRow base 49 6 (sv e) e.m (fl (sq e.q l))) (hg : w.grownBy w' row) (hne : ∀ g, base ≤ g → g < w.heap.size → some g ≠ row) :
    ∀ (i : Nat) (e : Ge), es[i]? = some e → w'.ownsRow base 49 6 (sv e) e.m (fl (sq e.q l)) := fun i e he => by
  have h1 := own_lt (h i e he)
  exact own_kept (h i e he) hg (hne _ h1.1 h1.2)

/-- One more record of a key that is there. -/
theorem gr_old (hq : es.map (·.q) = uq (kl l)) (ho : ∀ (i : Nat) (e : Ge), es[i]? = some e → w2.ownsRow base 49 6 (sv e) e.m (fl (sq e.q l))) (hd : ∀ (i i' : Nat) (e e' : Ge), es[i]? = some e → es[i']? = some e' → i ≠ i' → e.g ≠ e'.g)
    {j : Nat} {e : Ge} {r : Rec} (hj : es[j]? = some e) (hk : e.q = ky r) (hgr : w2.grownBy w3 (some e.g)) (hown : w3.ownsRow base 49 6 (.slice (some ⟨g', 0, none⟩) (e.m + 1) cap') (e.m + 1) (fl (sq e.q l) ++ fl [r])) (hl : e.g = g' ∨ g' = w2.heap.size)
    (hb : b < base) (h4 : w3.grownBy w4 (some b)) (hm : Mp w4 b ((ev es).set j (qv (ky r), .slice (some ⟨g', 0, none⟩) (e.m + 1) cap'))) : Gr w4 base b (l ++ [r]) := by
  have hnd : (es.map (·.q)).Nodup := hq ▸ nodup_uq _
  have hjl : j < es.length := (List.getElem?_eq_some_iff.1 hj).1
  have hin : ky r ∈ uq (kl l) := by rw [← hq, ← hk]; exact List.mem_map.2 ⟨e, List.mem_of_getElem? hj, rfl⟩
  have hother : ∀ (i : Nat) (e' : Ge), es[i]? = some e' → i ≠ j → e'.q ≠ ky r := fun i e' he' hne hqq => hne (nodup_inj hnd (a := ky r) (by rw [List.getElem?_map, he', Option.map_some, hqq]) (by rw [List.getElem?_map, hj, Option.map_some, hk]))
  have hg' : base ≤ g' := (hown.lt g' rfl).1
  refine ⟨es.set j ⟨ky r, g', e.m + 1, cap'⟩, ?_, ?_, ?_, ?_⟩
  · have : ev (es.set j ⟨ky r, g', e.m + 1, cap'⟩) = (ev es).set j (qv (ky r), .slice (some ⟨g', 0, none⟩) (e.m + 1) cap') := by rw [ev, List.map_set]; rfl
    rw [this]; exact hm
  · rw [List.map_set, uq_kl, add_in hin]
    show (es.map (·.q)).set j (ky r) = uq (kl l)
    rw [hq]
    refine List.ext_getElem? fun i => ?_
    rw [List.getElem?_set]
    by_cases hi : j = i
    · subst hi
      have h1 : j < (uq (kl l)).length := by rw [← hq, List.length_map]; exact hjl
      have h2 : (uq (kl l))[j]? = some (ky r) := by rw [← hq, List.getElem?_map, hj, Option.map_some, hk]
      rw [if_pos rfl, if_pos h1, h2]
    · rw [if_neg hi]
  · intro i e' he'
    rw [List.getElem?_set] at he'
    by_cases hi : j = i
    · subst hi
      simp [hjl] at he'
      subst he'
      have h5 : w4.ownsRow base 49 6 (.slice (some ⟨g', 0, none⟩) (e.m + 1) cap') (e.m + 1) (fl (sq e.q l) ++ fl [r]) := hown.kept h4 (Or.inr (fun h => by have h6 : g' = b := Option.some.inj h; omega))
      rw [hk, ← fl_append, ← sq_same] at h5
      exact h5
    · simp [hi] at he'
      have h5 := own_kept (ho i e' he') hgr (fun h => hd i j e' e he' hj (fun h => hi h.symm) (Option.some.inj h))
      have h7 := own_lt h5
      have h6 := own_kept h5 h4 (fun h => by have h8 : e'.g = b := Option.some.inj h; omega)
      rw [sq_other l (hother i e' he' (fun h => hi h.symm))]
      exact h6
  · intro i i' e1 e2 h1 h2 hne
    rw [List.getElem?_set] at h1 h2
    have aux : ∀ (i : Nat) (e' : Ge), es[i]? = some e' → i ≠ j → g' ≠ e'.g := fun i e' he' hi h => by
      rcases hl with hl | hl
      · exact hd j i e e' hj he' (fun h => hi h.symm) (hl.trans h)
      · have := own_lt (ho i e' he'); omega
    by_cases hi : j = i
    · subst hi
      simp [hjl] at h1
      subst h1
      simp [hne] at h2
      exact aux i' e2 h2 (fun h => hne h.symm)
    · simp [hi] at h1
      by_cases hi' : j = i'
      · subst hi'
        simp [hjl] at h2
        subst h2
        exact fun h => aux i e1 h1 (fun h => hi h.symm) h.symm
      · simp [hi'] at h2
        exact hd i i' e1 e2 h1 h2 hne

/-- One more record of a key that is not there. -/
theorem gr_new (hq : es.map (·.q) = uq (kl l)) (ho : ∀ (i : Nat) (e : Ge), es[i]? = some e → w2.ownsRow base 49 6 (sv e) e.m (fl (sq e.q l))) (hd : ∀ (i i' : Nat) (e e' : Ge), es[i]? = some e → es[i']? = some e' → i ≠ i' → e.g ≠ e'.g)
    {r : Rec} (hk : ky r ∉ uq (kl l)) (hgr : w2.grownBy w3 none) (hown : w3.ownsRow base 49 6 (.slice (some ⟨g', 0, none⟩) 1 cap') 1 (fl [r])) (hl : g' = w2.heap.size)
    (hb : b < base) (h4 : w3.grownBy w4 (some b)) (hm : Mp w4 b (ev es ++ [(qv (ky r), .slice (some ⟨g', 0, none⟩) 1 cap')])) : Gr w4 base b (l ++ [r]) := by
  have hother : ∀ (i : Nat) (e' : Ge), es[i]? = some e' → e'.q ≠ ky r := fun i e' he' hqq => hk (by rw [← hq, ← hqq]; exact List.mem_map.2 ⟨e', List.mem_of_getElem? he', rfl⟩)
  have hg' : base ≤ g' := (hown.lt g' rfl).1
  have hcase : ∀ (i : Nat) (e' : Ge), (es ++ [(⟨ky r, g', 1, cap'⟩ : Ge)])[i]? = some e' → (i < es.length ∧ es[i]? = some e') ∨ (i = es.length ∧ e' = ⟨ky r, g', 1, cap'⟩) := by
    intro i e' h
    by_cases hi : i < es.length
    · rw [List.getElem?_append_left hi] at h; exact Or.inl ⟨hi, h⟩
    · rw [List.getElem?_append_right (by omega)] at h
      have h0 : i - es.length = 0 := by
        have := (List.getElem?_eq_some_iff.1 h).1
        simpa using this
      rw [h0] at h
      exact Or.inr ⟨by omega, by simpa using h.symm⟩
  refine ⟨es ++ [⟨ky r, g', 1, cap'⟩], ?_, ?_, ?_, ?_⟩
  · have : ev (es ++ [⟨ky r, g', 1, cap'⟩]) = ev es ++ [(qv (ky r), .slice (some ⟨g', 0, none⟩) 1 cap')] := by rw [ev, List.map_append]; rfl
    rw [this]; exact hm
  · rw [List.map_append, uq_kl]
    show es.map (·.q) ++ [ky r] = add (uq (kl l)) (ky r)
    rw [add_out hk, hq]
  · intro i e' he'
    rcases hcase i e' he' with ⟨_, h⟩ | ⟨_, rfl⟩
    · have h5 := own_kept (ho i e' h) hgr (by simp)
      have h7 := own_lt h5
      have h6 := own_kept h5 h4 (fun h => by have h8 : e'.g = b := Option.some.inj h; omega)
      rw [sq_other l (hother i e' h)]
      exact h6
    · have h5 : w4.ownsRow base 49 6 (.slice (some ⟨g', 0, none⟩) 1 cap') 1 (fl [r]) := hown.kept h4 (Or.inr (fun h => by have h6 : g' = b := Option.some.inj h; omega))
      have h6 : sq (ky r) (l ++ [r]) = [r] := by rw [sq_same, sq_none (fun h => hk (mem_uq.2 h)), List.nil_append]
      show w4.ownsRow base 49 6 (.slice (some ⟨g', 0, none⟩) 1 cap') 1 (fl (sq (ky r) (l ++ [r])))
      rw [h6]
      exact h5
  · intro i i' e1 e2 h1 h2 hne
    rcases hcase i e1 h1 with ⟨hi, h1⟩ | ⟨hi, rfl⟩
    · rcases hcase i' e2 h2 with ⟨_, h2⟩ | ⟨_, rfl⟩
      · exact hd i i' e1 e2 h1 h2 hne
      · have := own_lt (ho i e1 h1)
        intro h
        have h8 : e1.g = g' := h
        omega
    · rcases hcase i' e2 h2 with ⟨_, h2⟩ | ⟨hi', rfl⟩
      · have := own_lt (ho i' e2 h2)
        intro h
        have h8 : g' = e2.g := h
        omega
      · omega
end
end Go.Proofs.YtaahaepgabcebaaDoor.GrpM

/- What firstsOf does at questions: a new slice with the questions, each once, in the order of the first occurrences. Condition: fewer than 400000001 of them. -/
namespace Go.Proofs.YtaahaepgabcebaaDoor.FstQ
open Go.RowKit Go.Proofs.YtaahaepgabcebaaDoor.Mem Go.Proofs.YtaahaepgabcebaaDoor.SetMath Go.Proofs.YtaahaepgabcebaaDoor.MapK Go.Proofs.YtaahaepgabcebaaDoor.KeyT Go.Proofs.YtaahaepgabcebaaDoor.MemQ

/-- The entries of a set. -/
def en (l : List Key) : List (Value × Value) := l.map (fun x => (qv x, .bool true))

theorem en_key (l : List Key) : ∀ p ∈ en l, KQ p.1 := by
  intro p hp
  obtain ⟨x, _, rfl⟩ := List.mem_map.1 hp
  exact ⟨x, rfl⟩

theorem val_inj {x y : Key} (h : (qv x : Value) = qv y) : x = y := by exact qv_inj h

theorem en_out {l : List Key} {x : Key} (h : x ∉ l) : ∀ p ∈ en l, p.1 ≠ qv x := by
  intro p hp e
  obtain ⟨y, hy, rfl⟩ := List.mem_map.1 hp
  exact h (val_inj e ▸ hy)

theorem en_in {l : List Key} {x : Key} (h : x ∈ l) : (qv x, Value.bool true) ∈ en l := List.mem_map.2 ⟨x, h, rfl⟩

theorem en_nodup : ∀ {l : List Key}, l.Nodup → ((en l).map Prod.fst).Nodup
  | [], _ => by simp [en]
  | x :: l, h => by
    obtain ⟨h1, h2⟩ := List.nodup_cons.1 h
    show (qv x :: (en l).map Prod.fst).Nodup
    refine List.nodup_cons.2 ⟨fun hm => ?_, en_nodup h2⟩
    obtain ⟨p, hp, he⟩ := List.mem_map.1 hm
    exact en_out h1 p hp he

theorem en_snoc (l : List Key) (x : Key) : en (l ++ [x]) = en l ++ [(qv x, .bool true)] := by simp [en]

theorem zero (w : World) : (zeroValue 4).run Tryd.prog w = .ok (.bool false) w := by kernel_rfl

theorem made_own (w : World) : ((w.alloc (.map #[] 0)).alloc (.cells #[] 69)).ownsRow (w.heap.size + 1) 69 2 (.slice (some ⟨w.heap.size + 1, 0, none⟩) 0 0) 0 [] := by
  have e : (w.alloc (.map #[] 0)).heap.size = w.heap.size + 1 := by simp
  have := owns_new (w.alloc (.map #[] 0))
  rwa [e] at this

end Go.Proofs.YtaahaepgabcebaaDoor.FstQ

/- What keyOf and KeysOf do in the program: the name and the type of a record; the keys of all records, each once. Condition: fewer than 400000001 records. -/
namespace Go.Proofs.YtaahaepgabcebaaDoor.KeyI
open Go.RowKit Go.Proofs.YtaahaepgabcebaaDoor.Mem Go.Proofs.YtaahaepgabcebaaDoor.MemR Go.Proofs.YtaahaepgabcebaaDoor.SetMath Go.Proofs.YtaahaepgabcebaaDoor.MemQ

set_option maxHeartbeats 1000000 in
theorem keyOf (r : Rec) (w : World) : Calls Tryd.prog 48 #[.agg #[.string r.name, .int .i64 r.ty, .int .i64 r.ttl, .int .i64 r.n, .string r.host, .string r.text]] w fun e w' => e = .returned (.agg #[.string r.name, .int .i64 r.ty]) ∧ Below w.heap.size w w' := by
  go_enter Tryd.func48, Tryd.ntmps48
  go_wp2
  refine bodyPost_ret (v := .agg #[.string r.name, .int .i64 r.ty]) (by simp [results, Tryd.results48, go_sem]) rfl ⟨rfl, ?_⟩
  repeat (first | exact Below.refl _ _ | refine Below.setCell ?_ (by simp; try omega) _ | refine Below.alloc ?_ (by simp; try omega) _)

end Go.Proofs.YtaahaepgabcebaaDoor.KeyI
