/- What AddrsOf does in the program: the addresses that the zone of the host has for it; none where no zone has the host. -/
import Derived.Test.YtmkcjjgicinggaaGreatDoorExactAddrsOfP2
import Derived.Test.YtmkcjjgicinggaaGreatDoorExactAddrsOfP1
import Derived.Test.YtmkcjjgicinggaaGreatDoorSetMath
import Derived.Deep.DeepCutAuto
import Derived.Test.YtmkcjjgicinggaaGreatDoorMemI
import Derived.Test.YtmkcjjgicinggaaGreatDoorAdoM
/- What firstsOf does at questions: a new slice with the questions, each once, in the order of the first occurrences. Condition: fewer than 400000001 of them. -/
namespace Go.Proofs.YtmkcjjgicinggaaGreatDoor.FstQ
open Go.RowKit Go.Proofs.YtmkcjjgicinggaaGreatDoor.Mem Go.Proofs.YtmkcjjgicinggaaGreatDoor.SetMath Go.Proofs.YtmkcjjgicinggaaGreatDoor.MapK Go.Proofs.YtmkcjjgicinggaaGreatDoor.KeyT Go.Proofs.YtmkcjjgicinggaaGreatDoor.MemQ

/-- The entries of a set. -/
def en (l : List Key) : List (Value × Value) := l.map (fun x => (qv x, .bool true))

theorem en_key (l : List Key) : ∀ p ∈ en l, KQ p.1 := by
  intro p hp
  obtain ⟨x, _, rfl⟩ := List.mem_map.1 hp
  exact ⟨x, rfl⟩

theorem val_inj {x y : Key} (h : (qv x : Value) = qv y) : x = y := by exact qv_inj h

theorem en_out {l : List Key} {x : Key} (h : x ∉ l) : ∀ p ∈ en l, p.1 ≠ qv x := by
  intro p hp e
  obtain ⟨y, hy, rfl⟩ := List.mem_map.1 hp
  exact h (val_inj e ▸ hy)

theorem en_in {l : List Key} {x : Key} (h : x ∈ l) : (qv x, Value.bool true) ∈ en l := List.mem_map.2 ⟨x, h, rfl⟩

theorem en_nodup : ∀ {l : List Key}, l.Nodup → ((en l).map Prod.fst).Nodup
  | [], _ => by simp [en]
  | x :: l, h => by
    obtain ⟨h1, h2⟩ := List.nodup_cons.1 h
    show (qv x :: (en l).map Prod.fst).Nodup
    refine List.nodup_cons.2 ⟨fun hm => ?_, en_nodup h2⟩
    obtain ⟨p, hp, he⟩ := List.mem_map.1 hm
    exact en_out h1 p hp he

theorem en_snoc (l : List Key) (x : Key) : en (l ++ [x]) = en l ++ [(qv x, .bool true)] := by simp [en]

theorem zero (w : World) : (zeroValue 4).run Tryz.prog w = .ok (.bool false) w := by kernel_rfl

theorem made_own (w : World) : ((w.alloc (.map #[] 0)).alloc (.cells #[] 29)).ownsRow (w.heap.size + 1) 29 2 (.slice (some ⟨w.heap.size + 1, 0, none⟩) 0 0) 0 [] := by
  have e : (w.alloc (.map #[] 0)).heap.size = w.heap.size + 1 := by simp
  have := owns_new (w.alloc (.map #[] 0))
  rwa [e] at this

end Go.Proofs.YtmkcjjgicinggaaGreatDoor.FstQ

/- What keyOf and KeysOf do in the program: the name and the type of a record; the keys of all records, each once. Condition: fewer than 400000001 records. -/
namespace Go.Proofs.YtmkcjjgicinggaaGreatDoor.KeyI
open Go.RowKit Go.Proofs.YtmkcjjgicinggaaGreatDoor.Mem Go.Proofs.YtmkcjjgicinggaaGreatDoor.MemR Go.Proofs.YtmkcjjgicinggaaGreatDoor.SetMath Go.Proofs.YtmkcjjgicinggaaGreatDoor.MemQ

set_option maxHeartbeats 1000000 in
theorem keyOf (r : Rec) (w : World) : Calls Tryz.prog 120 #[.agg #[.string r.name, .int .i64 r.ty, .int .i64 r.ttl, .int .i64 r.n, .string r.host, .string r.text]] w fun e w' => e = .returned (.agg #[.string r.name, .int .i64 r.ty]) ∧ Below w.heap.size w w' := by
  go_enter Tryz.func120, Tryz.ntmps120
  go_wp2
  refine bodyPost_ret (v := .agg #[.string r.name, .int .i64 r.ty]) (by simp [results, Tryz.results120, go_sem]) rfl ⟨rfl, ?_⟩
  repeat (first | exact Below.refl _ _ | refine Below.setCell ?_ (by simp; try omega) _ | refine Below.alloc ?_ (by simp; try omega) _)

end Go.Proofs.YtmkcjjgicinggaaGreatDoor.KeyI

/- What copyRecords in the program and l7Copy in the model do: a new slice with the same records. Condition: fewer than 400000001 records. -/
namespace Go.Proofs.YtmkcjjgicinggaaGreatDoor.CpyR
open Go.RowKit Go.Proofs.YtmkcjjgicinggaaGreatDoor.Mem Go.Proofs.YtmkcjjgicinggaaGreatDoor.MemR Go.Proofs.YtmkcjjgicinggaaGreatDoor.AppR

/-- The call returned a new slice with the n records of l, and turned nothing that was there. -/
def GivesC (w : World) (n : Nat) (l : List Rec) (e : Ending) (w' : World) : Prop :=
  ∃ g c r, e = .returned (.slice (some ⟨g, 0, none⟩) n c) ∧ n ≤ c ∧ w.heap.size ≤ g ∧ Bk w' g 93 (fl l ++ r) ∧ Below w.heap.size w w'

set_option maxHeartbeats 2000000 in
theorem copyI (b off n c : Nat) (l : List Rec) (w : World) (hs : Sr w w.heap.size (some ⟨b, off, none⟩) n l) (hn : n ≤ 400000000) : Calls Tryz.prog 61 #[.slice (some ⟨b, off, none⟩) n c] w (GivesC w n l) := by
  have L0 := Lib.hid ((Below.refl w.heap.size w).alloc (Nat.le_refl _) (.cells #[] 93))
  have S0 := Lib.hid (hs.on ((Below.refl w.heap.size w).alloc (Nat.le_refl _) (.cells #[] 93)))
  have O0 := Lib.hid (owns_new w)
  clear hs
  go_enter Tryz.func61, Tryz.ntmps61
  go_wp2_with (at_builtin; refine append_recs (w := w.alloc (.cells #[] 93)) rfl (.tmp 3) (.tmp 4) rfl w.heap.size w.heap.size 0 0 [] rfl O0.out b off n c _ l rfl S0.out (by omega) (by omega) (by simp) ?_)
  intro g' cap' w1 hown hgrow
  obtain ⟨r, hb, hr, hcap, hg⟩ := bk_of_owns6 hown
  have L1 := Lib.hid (L0.out.grown hgrow L0.out.size (fun k hk => by cases hk; exact Nat.le_refl _))
  have B1 := Lib.hid hb
  have G1 := Lib.hid hg
  clear hown hgrow hb hr hg L0 S0 O0
  go_wp2
  go_ret
  exact ⟨g', cap', r, rfl, hcap, G1.out, B1.out, L1.out⟩

set_option maxHeartbeats 2000000 in
theorem copyS (b off n c : Nat) (l : List Rec) (w : World) (hs : Sr w w.heap.size (some ⟨b, off, none⟩) n l) (hn : n ≤ 400000000) : Calls Tryz.prog 134 #[.slice (some ⟨b, off, none⟩) n c] w (GivesC w n l) := by
  have L0 := Lib.hid ((Below.refl w.heap.size w).alloc (Nat.le_refl _) (.cells #[] 93))
  have S0 := Lib.hid (hs.on ((Below.refl w.heap.size w).alloc (Nat.le_refl _) (.cells #[] 93)))
  have O0 := Lib.hid (owns_new w)
  clear hs
  go_enter Tryz.func134, Tryz.ntmps134
  go_wp2_with (at_builtin; refine append_recs (w := w.alloc (.cells #[] 93)) rfl (.tmp 3) (.tmp 4) rfl w.heap.size w.heap.size 0 0 [] rfl O0.out b off n c _ l rfl S0.out (by omega) (by omega) (by simp) ?_)
  intro g' cap' w1 hown hgrow
  obtain ⟨r, hb, hr, hcap, hg⟩ := bk_of_owns6 hown
  have L1 := Lib.hid (L0.out.grown hgrow L0.out.size (fun k hk => by cases hk; exact Nat.le_refl _))
  have B1 := Lib.hid hb
  have G1 := Lib.hid hg
  clear hown hgrow hb hr hg L0 S0 O0
  go_wp2
  go_ret
  exact ⟨g', cap', r, rfl, hcap, G1.out, B1.out, L1.out⟩

end Go.Proofs.YtmkcjjgicinggaaGreatDoor.CpyR

/- What WithTtl does in the program and in the model: a new slice with the same records, their times to live all replaced. Condition: fewer than 400000001 records. -/
namespace Go.Proofs.YtmkcjjgicinggaaGreatDoor.Wt
open Go.RowKit Go.Proofs.YtmkcjjgicinggaaGreatDoor.Mem Go.Proofs.YtmkcjjgicinggaaGreatDoor.MemR Go.Proofs.YtmkcjjgicinggaaGreatDoor.SetMath Go.Proofs.YtmkcjjgicinggaaGreatDoor.CpyR

/-- The call returned a new slice that reads as the records l (room behind it let in), and turned nothing that was there. -/
def GivesL (w : World) (l : List Rec) (e : Ending) (w' : World) : Prop :=
  ∃ g m c r, e = .returned (.slice (some ⟨g, 0, none⟩) m c) ∧ l.length = m ∧ m ≤ c ∧ w.heap.size ≤ g ∧ Bk w' g 93 (fl l ++ r) ∧ Below w.heap.size w w'

theorem put_ttl (t : Int) (l : List Rec) (v : List Value) (k : Nat) (h : k < l.length) : (fl ((l.take k).map (wr t) ++ l.drop k) ++ v).set (k * 6 + 2) (.int .i64 t) = fl ((l.take (k + 1)).map (wr t) ++ l.drop (k + 1)) ++ v := by
  obtain ⟨h', e⟩ := wr_at t l k h
  rw [List.set_append_left _ _ (by rw [fl_len]; omega), fl_set _ k 2 (.int .i64 t) h' (by rw [e]; rfl) (by omega), e]
  have hp : put l[k] 2 (.int .i64 t) = wr t l[k] := rfl
  rw [hp, wr_set t l k h]

theorem below_set {w w' : World} {g j : Nat} (h : Below w.heap.size w w') (hg : w.heap.size ≤ g) (u : Value) : Below w.heap.size w (w'.setCell ⟨g, j, none⟩ u) := h.setCell hg u

set_option maxHeartbeats 2000000 in
theorem impl (t : Int) (b off n c : Nat) (l : List Rec) (w : World) (hs : Sr w w.heap.size (some ⟨b, off, none⟩) n l) (hn : n ≤ 400000000) : Calls Tryz.prog 216 #[.slice (some ⟨b, off, none⟩) n c, .int .i64 t] w (GivesL w (l.map (wr t))) := by
  have HN := Lib.hid hs.1
  have C := Lib.hid (copyI b off n c l w hs hn)
  clear hs
  go_enter Tryz.func216, Tryz.ntmps216
  go_wp2_with fail
  refine C.out.mono ?_
  rintro e w1 ⟨g, cp, r, rfl, hcap, hg, hb, hl⟩
  have B1 := Lib.hid hb
  have L1 := Lib.hid hl
  have G1 := Lib.hid hg
  clear hb hl hg C
  go_wp2
  go_loopw [11] (fun i wr' => ∃ k : Nat, k ≤ n ∧ i = .int .i64 k ∧ Hid (Bk wr' g 93 (fl ((l.take k).map (wr t) ++ l.drop k) ++ r)) ∧ Hid (Below w.heap.size w wr')) (fun i _ => n - (intOf i).toNat)
  case atStart => exact ⟨0, Nat.zero_le _, rfl, by simpa [Hid] using B1.out, L1.out⟩
  case round =>
    clear B1 L1
    obtain ⟨k, hk, rfl, HB, HL⟩ := hrel
    by_cases hlt : k < n
    · have hkl : k < l.length := by rw [HN.out]; exact hlt
      have HP := Lib.hid (put_ttl t l r k hkl)
      obtain ⟨h', e⟩ := wr_at t l k hkl
      have z2 := (bk_ce HB.out k h').2.2.1
      have f2 := HB.out.free (k * 6 + 2)
      clear e
      go_wp2
      go_roundw
      case rel =>
        refine ⟨k + 1, by omega, by go_num, ?_, ?_⟩
        · show Bk _ _ _ _
          rw [← HP.out]
          exact HB.out.set (k * 6 + 2) (.int .i64 t)
        · exact HL.out.setCell G1.out _
      case measure => simp [intOf]; omega
    · obtain rfl : n = k := by omega
      go_wp2
      go_ret
      refine ⟨g, n, cp, r, rfl, by rw [List.length_map, HN.out], hcap, G1.out, ?_, HL.out⟩
      have := HB.out
      rw [take_all HN.out, List.drop_eq_nil_of_le (by rw [HN.out]; exact Nat.le_refl _), List.append_nil] at this
      exact this
end Go.Proofs.YtmkcjjgicinggaaGreatDoor.Wt

/- What setsOf and SetOf do in the program: a map of slices, one for each name and type; the records of a name and a type, in order. Condition: fewer than 100000001 records. -/
namespace Go.Proofs.YtmkcjjgicinggaaGreatDoor.SetI
open Go.RowKit Go.Proofs.YtmkcjjgicinggaaGreatDoor.Mem Go.Proofs.YtmkcjjgicinggaaGreatDoor.MemR Go.Proofs.YtmkcjjgicinggaaGreatDoor.SetMath Go.Proofs.YtmkcjjgicinggaaGreatDoor.MemQ Go.Proofs.YtmkcjjgicinggaaGreatDoor.MapK Go.Proofs.YtmkcjjgicinggaaGreatDoor.MapE Go.Proofs.YtmkcjjgicinggaaGreatDoor.GrpM Go.Proofs.YtmkcjjgicinggaaGreatDoor.AppR Go.Proofs.YtmkcjjgicinggaaGreatDoor.Wt

/-- The call returned a map of groups, and turned nothing that was there. -/
def GivesG (w : World) (l : List Rec) (e : Ending) (w' : World) : Prop :=
  ∃ b, e = .returned (.map (some b)) ∧ w.heap.size ≤ b ∧ Gr w' (w.heap.size + 1) b l ∧ Below w.heap.size w w'

theorem zero (w : World) : (zeroValue 35).run Tryz.prog w = .ok (.slice none 0 0) w := by kernel_rfl

theorem gr_zero {w : World} {base b : Nat} {l : List Rec} (h : Mp w b []) : Gr w base b (l.take 0) :=
  ⟨[], h, rfl, fun i e he => by simp at he, fun i i' e e' he => by simp at he⟩

set_option maxHeartbeats 2000000 in
/-- copyRecords of nil. -/
theorem copyNil (w : World) : Calls Tryz.prog 61 #[.slice none 0 0] w (CpyR.GivesC w 0 []) := by
  have L0 := Lib.hid ((Below.refl w.heap.size w).alloc (Nat.le_refl _) (.cells #[] 93))
  have O0 := Lib.hid (AppR.owns_new w)
  go_enter Tryz.func61, Tryz.ntmps61
  obtain ⟨i0, hi, hz0, hz1, hz2⟩ := info_parts CopyR.info
  go_wp2_with (at_builtin; refine wpList_append_own_none rfl (.tmp 3) (.tmp 4) 35 rfl w.heap.size 93 i0 6 Tryz.underlying35 hi hz1 _ 0 [] rfl O0.out rfl ?_)
  go_wp2
  go_ret
  obtain ⟨r, hb, _, _, hg⟩ := bk_of_owns6 O0.out
  exact ⟨w.heap.size, 0, r, rfl, Nat.le_refl _, hg, hb, L0.out⟩

set_option maxRecDepth 100000 in
set_option maxHeartbeats 4000000 in
theorem sets (b0 o0 n c : Nat) (l : List Rec) (w : World) (hs : Sr w w.heap.size (some ⟨b0, o0, none⟩) n l) (hn : n ≤ 100000000) : Calls Tryz.prog 62 #[.slice (some ⟨b0, o0, none⟩) n c] w (GivesG w l) := by
  have HS := Lib.hid hs
  clear hs
  have hmm := @run_makeMap Tryz.prog
  obtain ⟨i0, hi, hz0, hz1, hz2⟩ := info_parts CopyR.info
  have P0 := Lib.hid (gr_zero (base := w.heap.size + 1) (l := l) (Mp.made w))
  have L0 := Lib.hid ((Below.refl w.heap.size w).alloc (Nat.le_refl _) (.map #[] 0))
  go_enter Tryz.func62, Tryz.ntmps62
  go_wp2
  generalize w.alloc (.map #[] 0) = w0 at *
  go_loopw [10] (fun i wr => ∃ k : Nat, k ≤ n ∧ i = .int .i64 k ∧ Hid (Gr wr (w.heap.size + 1) w.heap.size (l.take k)) ∧ Hid (Below w.heap.size w wr)) (fun i _ => n - (intOf i).toNat)
  case atStart => exact ⟨0, Nat.zero_le _, rfl, P0.out, L0.out⟩
  case round =>
    clear P0 L0
    obtain ⟨k, hk, rfl, HO, HL⟩ := hrel
    by_cases hlt : k < n
    · obtain ⟨b, off, hA, hbB, hcs⟩ := HS.out.2 (by omega)
      obtain ⟨rfl, rfl⟩ : b0 = b ∧ o0 = off := by simp at hA; exact hA
      clear hA
      have hkl : k < l.length := by rw [HS.out.1]; exact hlt
      obtain ⟨e0, e1, e2, e3, e4, e5⟩ := (hcs k hkl).below HL.out hbB
      clear hcs
      have HT := Lib.hid (List.take_succ_eq_append_getElem hkl)
      have HTL : Hid ((l.take k).length = k) := show _ = _ by simp; omega
      generalize l[k] = r at *
      obtain ⟨es, hm, hq, ho, hd⟩ := HO.out
      clear HO
      have HM := Lib.hid hm
      have HQ := Lib.hid hq
      have HR := Lib.hid ho
      have HD := Lib.hid hd
      clear hm hq ho hd
      have B1 : Hid (Bk (wr.alloc (.cells #[.string r.name, .int .i64 r.ty, .int .i64 r.ttl, .int .i64 r.n, .string r.host, .string r.text] 93)) wr.heap.size 93 (rc r)) := heap_alloc_new wr _
      have hgB : w.heap.size ≤ wr.heap.size := HL.out.size
      go_wp2_with fail
      refine (KeyI.keyOf r _).mono ?_
      rintro e w1 ⟨rfl, hl⟩
      have hlA : Below wr.heap.size wr w1 := ((Below.refl wr.heap.size wr).alloc (Nat.le_refl _) _).trans (hl.mono (by simp))
      have M1 := Lib.hid ((HM.out.below hlA HM.out.lt).alloc (.cells #[.string r.name, .int .i64 r.ty] 29))
      have R1 := Lib.hid (rows_kept HR.out (row := none) (w' := w1.alloc (.cells #[.string r.name, .int .i64 r.ty] 29)) (World.grownBy.trans ⟨hlA.os, hlA.tape, hlA.output, hlA.size, fun k hk _ => hlA.block k hk⟩ (World.grownBy_alloc w1 _ none)) (by simp))
      have L1 := Lib.hid ((HL.out.trans (hlA.mono HL.out.size)).alloc (Nat.le_trans HL.out.size hlA.size) (.cells #[.string r.name, .int .i64 r.ty] 29))
      have X1 := Lib.hid ((B1.out.below hl (by simp)).alloc (.cells #[.string r.name, .int .i64 r.ty] 29))
      have Y1 : Hid (Bk (w1.alloc (.cells #[.string r.name, .int .i64 r.ty] 29)) w1.heap.size 29 [.string r.name, .int .i64 r.ty]) := heap_alloc_new w1 _
      clear hl hlA HM HR HL B1 e0 e1 e2 e3 e4 e5
      go_upto_region 6 with (fail)
      generalize w1.alloc (.cells #[.string r.name, .int .i64 r.ty] 29) = w2 at *
      generalize w1.heap.size = gk at *
      have x0 := Y1.out.cell 0
      have x1 := Y1.out.cell 1
      have y0 : w2.cell? ⟨wr.heap.size, 0, none⟩ = some (.string r.name) := X1.out.cell 0
      have y1 : w2.cell? ⟨wr.heap.size, 1, none⟩ = some (.int .i64 r.ty) := X1.out.cell 1
      have y2 : w2.cell? ⟨wr.heap.size, 2, none⟩ = some (.int .i64 r.ttl) := X1.out.cell 2
      have y3 : w2.cell? ⟨wr.heap.size, 3, none⟩ = some (.int .i64 r.n) := X1.out.cell 3
      have y4 : w2.cell? ⟨wr.heap.size, 4, none⟩ = some (.string r.host) := X1.out.cell 4
      have y5 : w2.cell? ⟨wr.heap.size, 5, none⟩ = some (.string r.text) := X1.out.cell 5
      have KT := KeyT.quests
      have M3 := Lib.hid (M1.out.alloc (.cells #[.string r.name, .int .i64 r.ty, .int .i64 r.ttl, .int .i64 r.n, .string r.host, .string r.text] 93))
      have R3 := Lib.hid (rows_kept R1.out (World.grownBy_alloc w2 (.cells #[.string r.name, .int .i64 r.ty, .int .i64 r.ttl, .int .i64 r.n, .string r.host, .string r.text] 93) none) (by simp))
      have L3 := Lib.hid (L1.out.alloc L1.out.size (.cells #[.string r.name, .int .i64 r.ty, .int .i64 r.ttl, .int .i64 r.n, .string r.host, .string r.text] 93))
      have N3 : Hid (Bk (w2.alloc (.cells #[.string r.name, .int .i64 r.ty, .int .i64 r.ttl, .int .i64 r.n, .string r.host, .string r.text] 93)) w2.heap.size 93 (fl [r])) := heap_alloc_new w2 _
      have HB : Hid (w.heap.size < w2.heap.size) := M1.out.lt
      have HS' := Lib.hid (ev_key es)
      have HND := Lib.hid (ev_nodup (es := es) (by rw [HQ.out]; exact nodup_uq _))
      have HX : Hid (KeyT.KQ (qv (ky r))) := ⟨ky r, rfl⟩
      clear M1 R1 L1 X1 Y1 hgB
      by_cases hin : ky r ∈ uq (kl (l.take k))
      · obtain ⟨j, e, hj, hk'⟩ : ∃ (j : Nat) (e : Ge), es[j]? = some e ∧ e.q = ky r := by
          rw [← HQ.out] at hin
          obtain ⟨e, he, hq⟩ := List.mem_map.1 hin
          obtain ⟨j, hj⟩ := List.getElem?_of_mem he
          exact ⟨j, e, hj, hq⟩
        have HJ := Lib.hid hj
        have HK := Lib.hid hk'
        have hem : e.m ≤ k := by
          have h1 := own_m (R3.out j e hj)
          have h2 := sf_len_take e.q.name e.q.ty l k
          have h3 : (sq e.q (l.take k)).length ≤ k := h2
          omega
        have EN := Lib.hid (entry_old M3.out KT Tryz.underlying96 HS'.out HND.out HX.out (show (ev es)[j]? = some (qv (ky r), sv e) from by rw [← hk']; exact ev_at hj))
        clear hin hj hk'
        go_wp2_with (guard_target =~ wpList _ _ _ ({ dst := _, op := Op.mapEntry _ _ _, type := _, pos := _, after := _, guard := _ } :: _) _ _; refine wp_entry rfl (.tmp 16) (.tmp 17) rfl (qv (ky r)) (sv e) rfl rfl (ev es) j EN.out ?_)
        intro w4 st m4 g4 s4
        have M4 := Lib.hid m4
        have R4 := Lib.hid (rows_kept R3.out g4 (fun g hg _ h => by have h8 : g = w.heap.size := Option.some.inj h; omega))
        have L4 := Lib.hid (L3.out.grown g4 L3.out.size (fun j hj => by cases hj; exact Nat.le_refl _))
        have N4 := Lib.hid (N3.out.grown g4 (fun h => by have h8 : w2.heap.size = w.heap.size := Option.some.inj h; have := HB.out; omega))
        have S4 : Hid (w4.heap.size = w2.heap.size + 1) := s4
        clear m4 g4 s4 EN M3 R3 L3 N3 x0 x1 y0 y1 y2 y3 y4 y5
        go_wp2_with (at_builtin; refine wpList_append_lies w4 rfl (.tmp 18) (.tmp 20) 35 rfl (w.heap.size + 1) 93 i0 _ 6 72 Tryz.underlying35 hi hz0 hz1 hz2 rfl (by decide) (sv e) e.m (fl (sq e.q (l.take k))) rfl (R4.out j e HJ.out) ⟨w2.heap.size, 0, none⟩ 1 1 (fl [r]) rfl rfl (World.news_of_block N4.out) (one_fl [r]) (by decide) (by unfold maxLen; omega) (by omega) (by have h1 := HB.out; have h2 := S4.out; omega) w4.heap.size rfl ?_)
        intro g' cap' w5 hown hgrow hlies hlt5
        have O5 := Lib.hid hown
        have G5 : Hid (w4.grownBy w5 (some e.g)) := hgrow
        have LI : Hid (e.g = g' ∨ g' = w4.heap.size) := hlies.imp (fun h => Option.some.inj h) id
        have NB : Hid (some w.heap.size ≠ some e.g) := fun h => by
          have h8 : w.heap.size = e.g := Option.some.inj h
          have := own_lt (R4.out j e HJ.out)
          omega
        have ST := Lib.hid ((M4.out.grown G5.out NB.out).store (P := Tryz.prog) 96 (show (ev es)[j]? = some (qv e.q, sv e) from ev_at HJ.out) (.slice (some ⟨g', 0, none⟩) (e.m + 1) cap'))
        have L5 := Lib.hid (L4.out.grown G5.out L4.out.size (fun i hi => by cases hi; have := own_lt (R4.out j e HJ.out); omega))
        clear hown hgrow hlies hlt5 M4 N4 L4
        rw [HK.out] at ST
        go_wp2_with (guard_target =~ wpList _ _ _ ({ dst := _, op := Op.entryStore _ _ _ _, type := _, pos := _, after := _, guard := _ } :: _) _ _; refine wp_stamp rfl (.tmp 16) (.tmp 23) (.tmp 22) rfl (.slice (some ⟨g', 0, none⟩) (e.m + 1) cap') rfl rfl rfl ((ev es).set j (qv (ky r), .slice (some ⟨g', 0, none⟩) (e.m + 1) cap')) ST.out ?_)
        intro w6 m6 g6 s6
        have GG : Hid (Gr w6 (w.heap.size + 1) w.heap.size (l.take k ++ [r])) := gr_old HQ.out R4.out HD.out HJ.out HK.out G5.out O5.out LI.out (Nat.lt_succ_self _) g6 m6
        have L6 := Lib.hid (L5.out.grown g6 L5.out.size (fun j hj => by cases hj; exact Nat.le_refl _))
        clear m6 g6 s6 ST L5 O5 G5 LI NB R4
        go_wp2
        go_roundw
        case rel => exact ⟨k + 1, by omega, by go_num, by rw [HT.out]; exact GG.out, L6.out⟩
        case measure => simp [intOf]; omega
      · have HI := Lib.hid hin
        have HO' : Hid (∀ p ∈ ev es, p.1 ≠ qv (ky r)) := ev_out (by rw [HQ.out]; exact hin)
        have EN := Lib.hid (entry_new M3.out KT Tryz.underlying96 (zero _) HS'.out HX.out HO'.out)
        clear hin
        go_wp2_with (guard_target =~ wpList _ _ _ ({ dst := _, op := Op.mapEntry _ _ _, type := _, pos := _, after := _, guard := _ } :: _) _ _; refine wp_entry rfl (.tmp 16) (.tmp 17) rfl (qv (ky r)) (.slice none 0 0) rfl rfl (ev es ++ [(qv (ky r), .slice none 0 0)]) (ev es).length EN.out ?_)
        intro w4 st m4 g4 s4
        have M4 := Lib.hid m4
        have R4 := Lib.hid (rows_kept R3.out g4 (fun g hg _ h => by have h8 : g = w.heap.size := Option.some.inj h; omega))
        have L4 := Lib.hid (L3.out.grown g4 L3.out.size (fun j hj => by cases hj; exact Nat.le_refl _))
        have N4 := Lib.hid (N3.out.grown g4 (fun h => by have h8 : w2.heap.size = w.heap.size := Option.some.inj h; have := HB.out; omega))
        have S4 : Hid (w4.heap.size = w2.heap.size + 1) := s4
        clear m4 g4 s4 EN M3 R3 L3 N3 x0 x1 y0 y1 y2 y3 y4 y5
        go_wp2_with (at_builtin; refine wpList_append_lies w4 rfl (.tmp 18) (.tmp 20) 35 rfl (w.heap.size + 1) 93 i0 _ 6 72 Tryz.underlying35 hi hz0 hz1 hz2 rfl (by decide) (.slice none 0 0) 0 [] rfl (World.ownsRow_nil w4 _ _ _) ⟨w2.heap.size, 0, none⟩ 1 1 (fl [r]) rfl rfl (World.news_of_block N4.out) (one_fl [r]) (by decide) (by unfold maxLen; omega) (by omega) (by have h1 := HB.out; have h2 := S4.out; omega) w4.heap.size rfl ?_)
        intro g' cap' w5 hown hgrow hlies hlt5
        have O5 : Hid (w5.ownsRow (w.heap.size + 1) 93 6 (.slice (some ⟨g', 0, none⟩) 1 cap') 1 (fl [r])) := hown
        have G5 : Hid (w4.grownBy w5 none) := hgrow
        have LI : Hid (g' = w4.heap.size) := hlies.elim (fun h => by cases h) id
        have ST := Lib.hid ((M4.out.grown G5.out (by simp)).store (P := Tryz.prog) 96 (show (ev es ++ [(qv (ky r), Value.slice none 0 0)])[(ev es).length]? = some (qv (ky r), .slice none 0 0) from by rw [List.getElem?_append_right (Nat.le_refl _), Nat.sub_self]; rfl) (.slice (some ⟨g', 0, none⟩) 1 cap'))
        have L5 := Lib.hid (L4.out.grown G5.out L4.out.size (fun i hi => by cases hi))
        have EQ : Hid ((ev es ++ [(qv (ky r), Value.slice none 0 0)]).set (ev es).length (qv (ky r), Value.slice (some ⟨g', 0, none⟩) 1 cap') = ev es ++ [(qv (ky r), Value.slice (some ⟨g', 0, none⟩) 1 cap')]) := show _ = _ by
          rw [List.set_append_right _ _ (Nat.le_refl _), Nat.sub_self]; rfl
        clear hown hgrow hlies hlt5 M4 N4 L4
        rw [EQ.out] at ST
        go_wp2_with (guard_target =~ wpList _ _ _ ({ dst := _, op := Op.entryStore _ _ _ _, type := _, pos := _, after := _, guard := _ } :: _) _ _; refine wp_stamp rfl (.tmp 16) (.tmp 23) (.tmp 22) rfl (.slice (some ⟨g', 0, none⟩) 1 cap') rfl rfl rfl (ev es ++ [(qv (ky r), .slice (some ⟨g', 0, none⟩) 1 cap')]) ST.out ?_)
        intro w6 m6 g6 s6
        have GG : Hid (Gr w6 (w.heap.size + 1) w.heap.size (l.take k ++ [r])) := gr_new HQ.out R4.out HD.out HI.out G5.out O5.out LI.out (Nat.lt_succ_self _) g6 m6
        have L6 := Lib.hid (L5.out.grown g6 L5.out.size (fun j hj => by cases hj; exact Nat.le_refl _))
        clear m6 g6 s6 ST L5 O5 G5 LI EQ R4
        go_wp2
        go_roundw
        case rel => exact ⟨k + 1, by omega, by go_num, by rw [HT.out]; exact GG.out, L6.out⟩
        case measure => simp [intOf]; omega
    · obtain rfl : n = k := by omega
      have HN := Lib.hid (take_all HS.out.1)
      go_wp2
      go_ret
      exact ⟨w.heap.size, rfl, Nat.le_refl _, by have := HO.out; rw [HN.out] at this; exact this, HL.out⟩

set_option maxHeartbeats 4000000 in
theorem impl (s : ByteArray) (t : Int) (b0 o0 n c : Nat) (l : List Rec) (w : World) (hs : Sr w w.heap.size (some ⟨b0, o0, none⟩) n l) (hn : n ≤ 100000000) : Calls Tryz.prog 15 #[.slice (some ⟨b0, o0, none⟩) n c, .string s, .int .i64 t] w (GivesL w (sf s t l)) := by
  have SE := Lib.hid (sets b0 o0 n c l w hs hn)
  have HN := Lib.hid hs.1
  clear hs
  go_enter Tryz.func15, Tryz.ntmps15
  go_wp2_with fail
  refine SE.out.mono ?_
  rintro e w1 ⟨b, rfl, hb, ⟨es, hm, hq, ho, hd⟩, hl⟩
  have M1 := Lib.hid hm
  have HQ := Lib.hid hq
  have R1 := Lib.hid ho
  have L1 := Lib.hid hl
  have HS' := Lib.hid (ev_key es)
  have HND := Lib.hid (ev_nodup (es := es) (by rw [hq]; exact nodup_uq _))
  have HX : Hid (KeyT.KQ (qv ⟨s, t⟩)) := ⟨⟨s, t⟩, rfl⟩
  have KT := KeyT.quests
  clear hm hq ho hd hl SE hb
  by_cases hin : (⟨s, t⟩ : Key) ∈ uq (kl l)
  · obtain ⟨j, e, hj, hk'⟩ : ∃ (j : Nat) (e : Ge), es[j]? = some e ∧ e.q = ⟨s, t⟩ := by
      rw [← HQ.out] at hin
      obtain ⟨e, he, hq⟩ := List.mem_map.1 hin
      obtain ⟨j, hj⟩ := List.getElem?_of_mem he
      exact ⟨j, e, hj, hq⟩
    have OW := Lib.hid (R1.out j e hj)
    have HE : Hid (sq e.q l = sf s t l) := show _ = _ by rw [hk']; rfl
    have HM := Lib.hid (own_m OW.out)
    have hm : e.m ≤ n := by
      have h1 := HM.out
      have h2 := sf_len e.q.name e.q.ty l
      have h3 : (sq e.q l).length ≤ l.length := h2
      have := HN.out
      omega
    have LK : Hid ((Instr.lookup 96 (.map (some b)) (.agg #[.string s, .int .i64 t]) false).run Tryz.prog w1 = .ok (.slice (some ⟨e.g, 0, none⟩) e.m e.cap) w1) := M1.out.in KT Tryz.underlying96 HS'.out HND.out HX.out (show (qv ⟨s, t⟩, sv e) ∈ ev es from by rw [← hk']; exact List.mem_of_getElem? (ev_at hj)) false
    have SR : Hid (Sr w1 w1.heap.size (some ⟨e.g, 0, none⟩) e.m (sf s t l)) := by
      obtain ⟨r', hb, _⟩ := bk_of_owns6 OW.out
      rw [HE.out] at hb HM
      exact bk_sr hb HM.out
    clear hin hj hk'
    go_wp2_with (at_lookup; refine wp_look rfl _ _ false rfl (.agg #[.string s, .int .i64 t]) (.slice (some ⟨e.g, 0, none⟩) e.m e.cap) rfl rfl LK.out ?_)
    refine (CpyR.copyI e.g 0 e.m e.cap (sf s t l) w1 SR.out (by omega)).mono ?_
    rintro e' w2 ⟨g, cp, r, rfl, hcap, hg, hb, hl⟩
    have B2 := Lib.hid hb
    have G2 := Lib.hid (Nat.le_trans L1.out.size hg)
    have L2 := Lib.hid (L1.out.trans (hl.mono L1.out.size))
    have C2 := Lib.hid hcap
    have H2 : Hid ((sf s t l).length = e.m) := by rw [HE.out] at HM; exact HM
    clear hb hg hl hcap
    go_wp2
    go_ret
    exact ⟨g, e.m, cp, r, rfl, H2.out, C2.out, G2.out, B2.out, L2.out⟩
  · have HE : Hid (sf s t l = []) := sq_none (q := ⟨s, t⟩) (fun h => hin (mem_uq.2 h))
    have LK : Hid ((Instr.lookup 96 (.map (some b)) (.agg #[.string s, .int .i64 t]) false).run Tryz.prog w1 = .ok (.slice none 0 0) w1) := M1.out.out KT Tryz.underlying96 (zero _) HS'.out HX.out (ev_out (by rw [HQ.out]; exact hin)) false
    clear hin
    go_wp2_with (at_lookup; refine wp_look rfl _ _ false rfl (.agg #[.string s, .int .i64 t]) (.slice none 0 0) rfl rfl LK.out ?_)
    refine (copyNil w1).mono ?_
    rintro e' w2 ⟨g, cp, r, rfl, hcap, hg, hb, hl⟩
    have B2 := Lib.hid hb
    have G2 := Lib.hid (Nat.le_trans L1.out.size hg)
    have L2 := Lib.hid (L1.out.trans (hl.mono L1.out.size))
    have C2 := Lib.hid hcap
    clear hb hg hl hcap
    go_wp2
    go_ret
    rw [HE.out]
    exact ⟨g, 0, cp, r, rfl, rfl, C2.out, G2.out, B2.out, L2.out⟩
end Go.Proofs.YtmkcjjgicinggaaGreatDoor.SetI

/- What firstsOf does at ints: a new slice with the ints, each once, in the order of the first occurrences. Condition: fewer than 400000001 of them. -/
namespace Go.Proofs.YtmkcjjgicinggaaGreatDoor.FstI
open Go.RowKit Go.Proofs.YtmkcjjgicinggaaGreatDoor.Mem Go.Proofs.YtmkcjjgicinggaaGreatDoor.SetMath Go.Proofs.YtmkcjjgicinggaaGreatDoor.MapK Go.Proofs.YtmkcjjgicinggaaGreatDoor.KeyT Go.Proofs.YtmkcjjgicinggaaGreatDoor.MemI

/-- The entries of a set. -/
def en (l : List Int) : List (Value × Value) := l.map (fun x => (.int .i64 x, .bool true))

theorem en_key (l : List Int) : ∀ p ∈ en l, KI p.1 := by
  intro p hp
  obtain ⟨x, _, rfl⟩ := List.mem_map.1 hp
  exact ⟨x, rfl⟩

theorem val_inj {x y : Int} (h : (.int .i64 x : Value) = .int .i64 y) : x = y := by simpa using h

theorem en_out {l : List Int} {x : Int} (h : x ∉ l) : ∀ p ∈ en l, p.1 ≠ .int .i64 x := by
  intro p hp e
  obtain ⟨y, hy, rfl⟩ := List.mem_map.1 hp
  exact h (val_inj e ▸ hy)

theorem en_in {l : List Int} {x : Int} (h : x ∈ l) : (.int .i64 x, Value.bool true) ∈ en l := List.mem_map.2 ⟨x, h, rfl⟩

theorem en_nodup : ∀ {l : List Int}, l.Nodup → ((en l).map Prod.fst).Nodup
  | [], _ => by simp [en]
  | x :: l, h => by
    obtain ⟨h1, h2⟩ := List.nodup_cons.1 h
    show (.int .i64 x :: (en l).map Prod.fst).Nodup
    refine List.nodup_cons.2 ⟨fun hm => ?_, en_nodup h2⟩
    obtain ⟨p, hp, he⟩ := List.mem_map.1 hm
    exact en_out h1 p hp he

theorem en_snoc (l : List Int) (x : Int) : en (l ++ [x]) = en l ++ [(.int .i64 x, .bool true)] := by simp [en]

theorem zero (w : World) : (zeroValue 4).run Tryz.prog w = .ok (.bool false) w := by kernel_rfl

theorem made_own (w : World) : ((w.alloc (.map #[] 0)).alloc (.cells #[] 3)).ownsRow (w.heap.size + 1) 3 1 (.slice (some ⟨w.heap.size + 1, 0, none⟩) 0 0) 0 [] := by
  have e : (w.alloc (.map #[] 0)).heap.size = w.heap.size + 1 := by simp
  have := owns_new (w.alloc (.map #[] 0))
  rwa [e] at this

set_option maxHeartbeats 4000000 in
theorem impl (A0 : Option Addr) (n c : Nat) (l : List Int) (w : World) (hs : Si w A0 n l) (hn : n ≤ 400000000) :
    Calls Tryz.prog 67 #[.slice A0 n c] w (GivesI w (uq l)) := by
  have HS := Lib.hid hs
  clear hs
  have hmm := @run_makeMap Tryz.prog
  have P0 := Lib.hid (made_own w)
  have M0 := Lib.hid ((Mp.made w).alloc (.cells #[] 3))
  have L0 := Lib.hid (((Below.refl w.heap.size w).alloc (Nat.le_refl _) (.map #[] 0)).alloc (by simp) (.cells #[] 3))
  go_enter Tryz.func67, Tryz.ntmps67
  go_wp2
  generalize (w.alloc (.map #[] 0)).alloc (.cells #[] 3) = w0 at *
  go_loopw [4, 11] (fun out i wr => ∃ k g m cap : Nat, k ≤ n ∧ m ≤ k ∧ i = .int .i64 k ∧ out = .slice (some ⟨g, 0, none⟩) m cap ∧ Hid (wr.ownsRow (w.heap.size + 1) 3 1 (.slice (some ⟨g, 0, none⟩) m cap) m ((uq (l.take k)).map iv)) ∧ Hid (Mp wr w.heap.size (en (uq (l.take k)))) ∧ Hid (Below w.heap.size w wr)) (fun _ i _ => n - (intOf i).toNat)
  case atStart => exact ⟨0, w.heap.size + 1, 0, 0, Nat.zero_le _, Nat.le_refl _, rfl, rfl, P0.out, M0.out, L0.out⟩
  case round =>
    clear P0 M0 L0
    obtain ⟨k, g, m, cap, hk, hm, rfl, rfl, HO, HM, HL⟩ := hrel
    by_cases hlt : k < n
    · obtain ⟨b, off, rfl, hbB, hcs⟩ := HS.out.2 (by omega)
      have hkl : k < l.length := by rw [HS.out.1]; exact hlt
      have HU := Lib.hid (uq_take l k hkl)
      have e0 : wr.cell? ⟨b, off + k, none⟩ = some (.int .i64 l[k]) := (HL.out.cell (p := ⟨b, off + k, none⟩) hbB).trans (hcs k hkl)
      clear hcs
      generalize l[k] = x at *
      have M1 := Lib.hid HM.out
      have O1 := Lib.hid HO.out
      have L1 := Lib.hid HL.out
      have HE := Lib.hid (en_key (uq (l.take k)))
      have HD := Lib.hid (en_nodup (nodup_uq (l.take k)))
      have HX : Hid (KI (.int .i64 x)) := ⟨x, rfl⟩
      by_cases hin : x ∈ uq (l.take k)
      · have HA := Lib.hid (HU.out.trans (add_in hin))
        have HI := Lib.hid (en_in hin)
        clear hin
        have LK : Hid ((Instr.lookup 150 (.map (some w.heap.size)) (.int .i64 x) false).run Tryz.prog wr = .ok (.bool true) wr) := M1.out.in KeyT.ints Tryz.underlying150 HE.out HD.out HX.out HI.out false
        go_wp2_with (at_lookup; refine wp_look rfl _ _ false rfl (.int .i64 x) (.bool true) rfl rfl LK.out ?_)
        go_roundw
        case rel => exact ⟨k + 1, g, m, cap, by omega, by omega, by go_num, rfl, by rw [HA.out]; exact O1.out, by rw [HA.out]; exact M1.out, L1.out⟩
        case measure => simp [intOf]; omega
      · have HA := Lib.hid (HU.out.trans (add_out hin))
        have HI := Lib.hid (en_out hin)
        clear hin
        have LK : Hid ((Instr.lookup 150 (.map (some w.heap.size)) (.int .i64 x) false).run Tryz.prog wr = .ok (.bool false) wr) := M1.out.out KeyT.ints Tryz.underlying150 (zero _) HE.out HX.out HI.out false
        have ST := Lib.hid (M1.out.new KeyT.ints Tryz.underlying150 HE.out (.bool true) HX.out HI.out)
        go_wp2_with (first | (at_lookup; refine wp_look rfl _ _ false rfl (.int .i64 x) (.bool false) rfl rfl LK.out ?_) | (at_mapUpdate; refine wp_store rfl _ _ _ rfl (.int .i64 x) (.bool true) rfl rfl rfl (en (uq (l.take k)) ++ [(.int .i64 x, .bool true)]) ST.out ?_))
        intro w2 m2 g2 s2
        clear LK ST
        have M2 := Lib.hid m2
        have O2 := Lib.hid (O1.out.kept g2 (Or.inr (fun e => by have h1 : w.heap.size + 1 ≤ g := (O1.out.lt g rfl).1; have h2 : g = w.heap.size := Option.some.inj e; omega)))
        have L2 := Lib.hid (L1.out.grown g2 L1.out.size (fun j hj => by cases hj; exact Nat.le_refl _))
        clear m2 g2 s2 M1 O1 L1
        go_wp2_with (at_builtin; refine append_one (w := w2) rfl (.tmp 21) (.tmp 23) rfl (w.heap.size + 1) g m cap (uq (l.take k)) rfl O2.out x rfl (by omega) (by have h1 := O2.out.lt g rfl; omega) ?_)
        intro g' cap' w3 hown hgrow _
        have O3 := Lib.hid hown
        have NE := Lib.hid (show some w.heap.size ≠ some g from fun e => by have h1 := O2.out.lt g rfl; have h2 := Option.some.inj e; omega)
        have M3 := Lib.hid ((M2.out.alloc (.cells #[.int .i64 x] 3)).grown hgrow NE.out)
        have L3 := Lib.hid ((L2.out.alloc L2.out.size (.cells #[.int .i64 x] 3)).grown hgrow (Nat.le_trans L2.out.size (by simp)) (fun j hj => by cases hj; have h1 := O2.out.lt g rfl; omega))
        clear hown hgrow
        go_wp2
        go_roundw
        case rel => exact ⟨k + 1, g', m + 1, cap', by omega, by omega, by go_num, rfl, by rw [HA.out, List.map_append]; exact O3.out, by rw [HA.out, en_snoc]; exact M3.out, L3.out⟩
        case measure => simp [intOf]; omega
    · obtain rfl : n = k := by omega
      have HN := Lib.hid (take_all HS.out.1)
      go_wp2
      go_ret
      have ho := HO.out
      rw [HN.out] at ho
      exact gives_of_owns (own_mono ho (by omega)) HL.out
end Go.Proofs.YtmkcjjgicinggaaGreatDoor.FstI

/- What Addrs does in the program: the numbers of the records of addresses of a name, each once. Condition: fewer than 100000001 records. -/
namespace Go.Proofs.YtmkcjjgicinggaaGreatDoor.AdrI
open Go.RowKit Go.Proofs.YtmkcjjgicinggaaGreatDoor.Mem Go.Proofs.YtmkcjjgicinggaaGreatDoor.MemR Go.Proofs.YtmkcjjgicinggaaGreatDoor.SetMath Go.Proofs.YtmkcjjgicinggaaGreatDoor.MemI

/-- The numbers of the first k records. -/
def nm (L : List Rec) (k : Nat) : List Int := (L.take k).map (·.n)

/-- append of one new int onto a row of the call's own, the new block's number as the walk spells it. -/
theorem append_at {w : World} {ops : Array Oper} {rest : List Oper} {o : Oper} {a : Act} {Q : Exit → Act → World → Prop} (hgd : o.guard = none) (s x : Operand)
    (ho : o.op = .call { callee := .builtin .append, args := #[s, x], argTypes := #[42, 42] })
    (base g n cap : Nat) (l : List Int) (hs : a.eval s = .slice (some ⟨g, 0, none⟩) n cap) (hown : w.ownsRow base 3 1 (.slice (some ⟨g, 0, none⟩) n cap) n (l.map iv))
    (y : Int) (p : Nat) (hp : w.heap.size = p) (hx : a.eval x = .slice (some ⟨p, 0, none⟩) 1 1) (hn : n ≤ 800000000) (hbase : base ≤ w.heap.size)
    (h : ∀ g' cap' w', w'.ownsRow base 3 1 (.slice (some ⟨g', 0, none⟩) (n + 1) cap') (n + 1) ((l ++ [y]).map iv) → (w.alloc (.cells #[.int .i64 y] 3)).grownBy w' (some g) → wpList Tryz.prog ops Q rest (a.put o.dst (.slice (some ⟨g', 0, none⟩) (n + 1) cap')) w') : wpList Tryz.prog ops Q (o :: rest) a (w.alloc (.cells #[.int .i64 y] 3)) := by
  subst hp
  exact append_one (w := w) hgd s x ho base g n cap l hs hown y hx hn hbase (fun g' cap' w' h1 h2 _ => h g' cap' w' h1 h2)

set_option maxHeartbeats 4000000 in
theorem impl (s : ByteArray) (b0 o0 n c : Nat) (l : List Rec) (w : World) (hs : Sr w w.heap.size (some ⟨b0, o0, none⟩) n l) (hn : n ≤ 100000000) : Calls Tryz.prog 63 #[.slice (some ⟨b0, o0, none⟩) n c, .string s] w (GivesI w (uq (al s l))) := by
  have P0 := Lib.hid (owns_new w)
  have L0 := Lib.hid ((Below.refl w.heap.size w).alloc (Nat.le_refl _) (.cells #[] 3))
  have SE : Hid (∀ W : World, Below w.heap.size w W → Calls Tryz.prog 15 #[.slice (some ⟨b0, o0, none⟩) n c, .string s, .int .i64 1] W (Wt.GivesL W (sf s 1 l))) :=
    fun W hW => SetI.impl s 1 b0 o0 n c l W ((hs.below hW).wider hW.size) hn
  have HLn : Hid ((sf s 1 l).length ≤ 100000000) := show _ ≤ _ by have h1 := sf_len s 1 l; have h2 := hs.1; omega
  have HA : Hid ((sf s 1 l).map (·.n) = al s l) := show _ = _ from rfl
  clear hs hn
  generalize sf s 1 l = L at *
  go_enter Tryz.func63, Tryz.ntmps63
  go_wp2_with fail
  refine (SE.out _ L0.out).mono ?_
  rintro e w1 ⟨gs, ms, cs, rs, rfl, hms, hcs, hgs, hbs, hls⟩
  have hms0 : ms ≤ 100000000 := by have := HLn.out; omega
  have HM := Lib.hid hms
  have B1 := Lib.hid hbs
  have P1 := Lib.hid (P0.out.kept (row := none) ⟨hls.os, hls.tape, hls.output, hls.size, fun k hk _ => hls.block k hk⟩ (Or.inr (fun e => by cases e)))
  have L1 := Lib.hid (L0.out.trans (hls.mono L0.out.size))
  have NG : Hid (gs ≠ w.heap.size) := fun h => by have h2 : (w.alloc (.cells #[] 3)).heap.size ≤ gs := hgs; rw [h] at h2; simp at h2; omega
  have GS : Hid (w.heap.size + 1 ≤ gs) := show _ ≤ _ by have h2 : (w.alloc (.cells #[] 3)).heap.size ≤ gs := hgs; simpa using h2
  clear hms hcs hgs hbs hls SE P0 L0
  go_wp2
  have HT0 : Hid (∀ k (h : k < L.length), nm L (k + 1) = nm L k ++ [L[k].n]) := fun k h => by rw [nm, List.take_succ_eq_append_getElem h, List.map_append]; rfl
  go_loopw [5, 13] (fun out i wr => ∃ k g cap : Nat, k ≤ ms ∧ i = .int .i64 k ∧ out = .slice (some ⟨g, 0, none⟩) k cap ∧ Hid (wr.ownsRow w.heap.size 3 1 (.slice (some ⟨g, 0, none⟩) k cap) k ((nm L k).map iv)) ∧ Hid (Bk wr gs 93 (fl L ++ rs)) ∧ Hid (g ≠ gs) ∧ Hid (Below w.heap.size w wr)) (fun _ i _ => ms - (intOf i).toNat)
  case atStart => exact ⟨0, w.heap.size, 0, Nat.zero_le _, rfl, rfl, P1.out, B1.out, fun h => NG.out h.symm, L1.out⟩
  case round =>
    clear P1 L1 B1
    obtain ⟨k, g, cap, hk, rfl, rfl, HO, HB, HN, HL⟩ := hrel
    by_cases hlt : k < ms
    · have hkl : k < L.length := by rw [HM.out]; exact hlt
      obtain ⟨e0, e1, e2, e3, e4, e5⟩ := bk_ce HB.out k hkl
      have HT := Lib.hid (HT0.out k hkl)
      generalize L[k] = r at *
      have W1 : Hid (Below w.heap.size w (wr.alloc (.cells #[.string r.name, .int .i64 r.ty, .int .i64 r.ttl, .int .i64 r.n, .string r.host, .string r.text] 93))) := HL.out.alloc HL.out.size _
      have O1 := Lib.hid (HO.out.alloc (.cells #[.string r.name, .int .i64 r.ty, .int .i64 r.ttl, .int .i64 r.n, .string r.host, .string r.text] 93))
      have B2 := Lib.hid ((HB.out.alloc (.cells #[.string r.name, .int .i64 r.ty, .int .i64 r.ttl, .int .i64 r.n, .string r.host, .string r.text] 93)).alloc (.cells #[.int .i64 r.n] 3))
      go_wp2_with (at_builtin; refine append_at (w := wr.alloc (.cells #[.string r.name, .int .i64 r.ty, .int .i64 r.ttl, .int .i64 r.n, .string r.host, .string r.text] 93)) rfl (.tmp 17) (.tmp 20) rfl w.heap.size g k cap (nm L k) rfl O1.out r.n (wr.heap.size + 1) (by simp) rfl (by omega) (by have h1 := O1.out.lt g rfl; omega) ?_)
      intro g' cap' w3 hown hgrow
      have O3 := Lib.hid hown
      have B3 := Lib.hid (B2.out.grown hgrow (fun h => HN.out (Option.some.inj h).symm))
      have L3 := Lib.hid ((W1.out.alloc W1.out.size (.cells #[.int .i64 r.n] 3)).grown hgrow (Nat.le_trans W1.out.size (by simp)) (fun j hj => by cases hj; have h1 := O1.out.lt g rfl; omega))
      have N3 : Hid (g' ≠ gs) := fun h => by
        obtain ⟨r', hb, _⟩ := bk_of_owns hown
        have h2 := B3.out
        rw [← h] at h2
        unfold Bk at hb h2
        rw [hb] at h2
        simp at h2
      clear hown hgrow
      go_wp2
      go_roundw
      case rel => exact ⟨k + 1, g', cap', by omega, by go_num, rfl, by rw [HT.out, List.map_append]; exact O3.out, B3.out, N3.out, L3.out⟩
      case measure => simp [intOf]; omega
    · obtain rfl : ms = k := by omega
      have HN2 := Lib.hid (take_all HM.out)
      have HQ : Hid (Si wr (some ⟨g, 0, none⟩) ms (al s l)) := by
        have ho := HO.out
        rw [nm, HN2.out, HA.out] at ho
        have hz : (al s l).length = ms := by have := ho.1; simpa using this
        obtain ⟨r', hb, _, _⟩ := bk_of_owns ho
        exact bk_si hb hz
      go_wp2_with fail
      refine (FstI.impl _ ms cap (al s l) wr HQ.out (by omega)).mono ?_
      rintro e w1 ⟨g1, m1, c1, r1, rfl, hm1, hc1, hg1, hb1, hl1⟩
      have G1 := Lib.hid (Nat.le_trans HL.out.size hg1)
      have M1 := Lib.hid hm1
      have C1 := Lib.hid hc1
      have B1 := Lib.hid hb1
      have L1 := Lib.hid (HL.out.trans (hl1.mono HL.out.size))
      clear hm1 hc1 hg1 hb1 hl1
      go_wp2
      go_ret
      exact ⟨g1, m1, c1, r1, rfl, M1.out, C1.out, G1.out, B1.out, L1.out⟩
end Go.Proofs.YtmkcjjgicinggaaGreatDoor.AdrI

/- What AddrsOf does in the program: the addresses that the zone of the host has for it; none where no zone has the host. -/
namespace Go.Proofs.YtmkcjjgicinggaaGreatDoor.AdoI
open Go.RowKit Go.Proofs.YtmkcjjgicinggaaGreatDoor.Mem Go.Proofs.YtmkcjjgicinggaaGreatDoor.MemR Go.Proofs.YtmkcjjgicinggaaGreatDoor.MemF Go.Proofs.YtmkcjjgicinggaaGreatDoor.SetMath Go.Proofs.YtmkcjjgicinggaaGreatDoor.MemI Go.Proofs.YtmkcjjgicinggaaGreatDoor.ForMath Go.Proofs.YtmkcjjgicinggaaGreatDoor.AdoM Go.Proofs.YtmkcjjgicinggaaGreatDoor.Labels

set_option maxHeartbeats 4000000 in
theorem impl (A : Option Addr) (n c : Nat) (zs : List Zn) (P : Option Addr) (m d : Nat) (s : ByteArray) (w : World) (he : Env w) (hs : Rz True w w.heap.size A n zs) (hn : n ≤ 100000000) (hz : ∀ z ∈ zs, z.apex.size ≤ 400000000 ∧ z.l.length ≤ 100000000) (hnm : s.size ≤ 400000000) :
    Calls Tryz.prog 16 #[.agg #[.slice A n c, .slice P m d], .string s] w (GivesI w (adl zs s)) := by
  have X0 := Lib.hid (fx_new w 27 (.slice A n c) (.slice P m d))
  have L0 := Lib.hid ((Below.refl w.heap.size w).alloc (Nat.le_refl _) (.cells #[.slice A n c, .slice P m d] 27))
  have C1 := Lib.hid (ZonI.zoneOf True A n c zs P m d s _ (he.below L0.out) (hs.on L0.out) (by omega) (fun z hz' => (hz z hz').1) hnm)
  have HS := Lib.hid hs
  have HZ := Lib.hid hz
  have HB := Lib.hid (zo_bound s (fun _ => true) (aps zs))
  have HA : Hid ((aps zs).length = n) := show _ = _ by rw [aps, List.length_map]; exact hs.1
  have HNo : Hid (zo s (fun _ => true) (aps zs) < 0 → adl zs s = []) := fun h => adl_no h
  have HYes : Hid (¬ zo s (fun _ => true) (aps zs) < 0 → adl zs s = uq (al s (zl zs (zo s (fun _ => true) (aps zs)).toNat))) := fun h => adl_yes h
  clear hs hz
  generalize adl zs s = L at *
  generalize zo s (fun _ => true) (aps zs) = v at *
  obtain ⟨x0, x1⟩ := X0.out
  go_enter Tryz.func16, Tryz.ntmps16
  go_wp2_with fail
  refine C1.out.mono ?_
  rintro e w1 ⟨rfl, hl⟩
  have L1 := Lib.hid (L0.out.trans (hl.mono L0.out.size))
  have X1 := Lib.hid (X0.out.below hl)
  clear hl L0 X0 x0 x1 C1
  obtain ⟨x0, x1⟩ := X1.out
  by_cases hneg : v < 0
  · have HL := Lib.hid (HNo.out hneg)
    go_wp2
    go_ret
    refine ⟨w1.heap.size, 0, 0, [], rfl, by rw [HL.out]; rfl, Nat.le_refl _, L1.out.size, ?_, L1.out.alloc L1.out.size _⟩
    rw [HL.out]
    exact heap_alloc_new w1 (.cells #[] 3)
  · have HL := Lib.hid (HYes.out (by omega))
    obtain ⟨k, rfl⟩ : ∃ k : Nat, v = (k : Int) := ⟨v.toNat, by omega⟩
    have hkn : k < n := by have := HB.out.2; have := HA.out; omega
    rw [Int.toNat_natCast] at HL
    obtain ⟨b, off, rfl, hbB, hcs⟩ := HS.out.2 (by omega)
    have hkz : k < zs.length := by rw [HS.out.1]; exact hkn
    obtain ⟨e0, A', n', c', e1, hr, ho⟩ := (hcs k hkz).below L1.out hbB
    obtain ⟨g', o', rfl⟩ := ho trivial
    have HR := Lib.hid (AdrI.impl s g' o' n' c' zs[k].l w1 (hr.wider L1.out.size) (by have h1 := (HZ.out _ (List.getElem_mem hkz)).2; have h2 := hr.1; omega))
    have HL2 : Hid (uq (al s zs[k].l) = L) := show _ = _ by rw [HL.out, zl_at hkz]
    rw [HL2.out] at HR
    clear hcs hr e0 HL HL2
    go_wp2_with fail
    refine HR.out.mono ?_
    rintro e w2 ⟨g, q, cq, r, rfl, h1, h2, h3, h4, hl⟩
    have G := Lib.hid (show w.heap.size ≤ g from Nat.le_trans L1.out.size h3)
    have H1 := Lib.hid h1
    have H2 := Lib.hid h2
    have H4 := Lib.hid h4
    have L2 := Lib.hid (L1.out.trans (hl.mono L1.out.size))
    clear h1 h2 h3 h4 hl x0 x1 e1
    go_wp2
    go_ret
    exact ⟨g, q, cq, r, rfl, H1.out, H2.out, G.out, H4.out, L2.out⟩
end Go.Proofs.YtmkcjjgicinggaaGreatDoor.AdoI
