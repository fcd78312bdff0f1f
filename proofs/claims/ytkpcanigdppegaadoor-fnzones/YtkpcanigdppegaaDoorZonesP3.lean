/- A map of slices of records, one for each key: what it is, and that it is so again behind one more record. -/
import Derived.Test.YtkpcanigdppegaaDoorZonesP2
import Derived.Test.YtkpcanigdppegaaDoorZokMath
import Derived.Test.YtkpcanigdppegaaDoorMemZ
import Derived.Deep.DeepCutAuto
import Derived.IntWalk
import Derived.Test.YtkpcanigdppegaaDoorZoneMath
import Derived.Test.YtkpcanigdppegaaDoorResR
import Derived.Test.YtkpcanigdppegaaDoorZonesP1
import Derived.Test.YtkpcanigdppegaaDoorAppR
/- What firstsOf does at questions: a new slice with the questions, each once, in the order of the first occurrences. Condition: fewer than 400000001 of them. -/
namespace Go.Proofs.YtkpcanigdppegaaDoor.FstQ
open Go.RowKit Go.Proofs.YtkpcanigdppegaaDoor.Mem Go.Proofs.YtkpcanigdppegaaDoor.SetMath Go.Proofs.YtkpcanigdppegaaDoor.MapK Go.Proofs.YtkpcanigdppegaaDoor.KeyT Go.Proofs.YtkpcanigdppegaaDoor.MemQ

/-- The entries of a set. -/
def en (l : List Key) : List (Value × Value) := l.map (fun x => (qv x, .bool true))

theorem en_key (l : List Key) : ∀ p ∈ en l, KQ p.1 := by
  intro p hp
  obtain ⟨x, _, rfl⟩ := List.mem_map.1 hp
  exact ⟨x, rfl⟩

theorem val_inj {x y : Key} (h : (qv x : Value) = qv y) : x = y := by exact qv_inj h

theorem en_out {l : List Key} {x : Key} (h : x ∉ l) : ∀ p ∈ en l, p.1 ≠ qv x := by
  intro p hp e
  obtain ⟨y, hy, rfl⟩ := List.mem_map.1 hp
  exact h (val_inj e ▸ hy)

theorem en_in {l : List Key} {x : Key} (h : x ∈ l) : (qv x, Value.bool true) ∈ en l := List.mem_map.2 ⟨x, h, rfl⟩

theorem en_nodup : ∀ {l : List Key}, l.Nodup → ((en l).map Prod.fst).Nodup
  | [], _ => by simp [en]
  | x :: l, h => by
    obtain ⟨h1, h2⟩ := List.nodup_cons.1 h
    show (qv x :: (en l).map Prod.fst).Nodup
    refine List.nodup_cons.2 ⟨fun hm => ?_, en_nodup h2⟩
    obtain ⟨p, hp, he⟩ := List.mem_map.1 hm
    exact en_out h1 p hp he

theorem en_snoc (l : List Key) (x : Key) : en (l ++ [x]) = en l ++ [(qv x, .bool true)] := by simp [en]

theorem zero (w : World) : (zeroValue 4).run Tryd.prog w = .ok (.bool false) w := by kernel_rfl

theorem made_own (w : World) : ((w.alloc (.map #[] 0)).alloc (.cells #[] 28)).ownsRow (w.heap.size + 1) 28 2 (.slice (some ⟨w.heap.size + 1, 0, none⟩) 0 0) 0 [] := by
  have e : (w.alloc (.map #[] 0)).heap.size = w.heap.size + 1 := by simp
  have := owns_new (w.alloc (.map #[] 0))
  rwa [e] at this

end Go.Proofs.YtkpcanigdppegaaDoor.FstQ

/- What keyOf and KeysOf do in the program: the name and the type of a record; the keys of all records, each once. Condition: fewer than 400000001 records. -/
namespace Go.Proofs.YtkpcanigdppegaaDoor.KeyI
open Go.RowKit Go.Proofs.YtkpcanigdppegaaDoor.Mem Go.Proofs.YtkpcanigdppegaaDoor.MemR Go.Proofs.YtkpcanigdppegaaDoor.SetMath Go.Proofs.YtkpcanigdppegaaDoor.MemQ

set_option maxHeartbeats 1000000 in
theorem keyOf (r : Rec) (w : World) : Calls Tryd.prog 70 #[.agg #[.string r.name, .int .i64 r.ty, .int .i64 r.ttl, .int .i64 r.n, .string r.host, .string r.text]] w fun e w' => e = .returned (.agg #[.string r.name, .int .i64 r.ty]) ∧ Below w.heap.size w w' := by
  go_enter Tryd.func70, Tryd.ntmps70
  go_wp2
  refine bodyPost_ret (v := .agg #[.string r.name, .int .i64 r.ty]) (by simp [results, Tryd.results70, go_sem]) rfl ⟨rfl, ?_⟩
  repeat (first | exact Below.refl _ _ | refine Below.setCell ?_ (by simp; try omega) _ | refine Below.alloc ?_ (by simp; try omega) _)

end Go.Proofs.YtkpcanigdppegaaDoor.KeyI

/- Two keys of records compared with == and with != : what is answered, and nothing is turned. -/
namespace Go.Proofs.YtkpcanigdppegaaDoor.EqlQ
open Go.RowKit Go.Proofs.YtkpcanigdppegaaDoor.Mem Go.Proofs.YtkpcanigdppegaaDoor.MemR Go.Proofs.YtkpcanigdppegaaDoor.SetMath Go.Proofs.YtkpcanigdppegaaDoor.MemQ Go.Proofs.YtkpcanigdppegaaDoor.KeyT

theorem eql_same (s : ByteArray) (t : Int) (w : World) : Sem.run Tryd.prog (binOp .eql 28 (.agg #[.string s, .int .i64 t]) (.agg #[.string s, .int .i64 t])) w = .ok (.bool true) w := by
  have h := quest_same ⟨s, t⟩ w
  unfold qv Op.equal Op.maxDepth at h
  rw [run_eql_struct]
  simp only at h
  rw [h]
  rfl

theorem eql_diff {s s' : ByteArray} {t t' : Int} (e : ¬ (s = s' ∧ t = t')) (w : World) : Sem.run Tryd.prog (binOp .eql 28 (.agg #[.string s, .int .i64 t]) (.agg #[.string s', .int .i64 t'])) w = .ok (.bool false) w := by
  have h := quest_diff (q := ⟨s, t⟩) (p := ⟨s', t'⟩) (fun k => e (by injection k with h1 h2; exact ⟨h1, h2⟩)) w
  unfold qv Op.equal Op.maxDepth at h
  rw [run_eql_struct]
  simp only at h
  rw [h]
  rfl

theorem neq_same (s : ByteArray) (t : Int) (w : World) : Sem.run Tryd.prog (binOp .neq 28 (.agg #[.string s, .int .i64 t]) (.agg #[.string s, .int .i64 t])) w = .ok (.bool false) w := by
  have h := quest_same ⟨s, t⟩ w
  unfold qv Op.equal Op.maxDepth at h
  rw [run_neq_struct]
  simp only at h
  rw [h]
  rfl

theorem neq_diff {s s' : ByteArray} {t t' : Int} (e : ¬ (s = s' ∧ t = t')) (w : World) : Sem.run Tryd.prog (binOp .neq 28 (.agg #[.string s, .int .i64 t]) (.agg #[.string s', .int .i64 t'])) w = .ok (.bool true) w := by
  have h := quest_diff (q := ⟨s, t⟩) (p := ⟨s', t'⟩) (fun k => e (by injection k with h1 h2; exact ⟨h1, h2⟩)) w
  unfold qv Op.equal Op.maxDepth at h
  rw [run_neq_struct]
  simp only at h
  rw [h]
  rfl

end Go.Proofs.YtkpcanigdppegaaDoor.EqlQ

/- What inOrder does in the program: every record comes behind the one ahead of it, and neighbours of one key have one time to live. Condition: fewer than 400000001 records, of at most 400000000 bytes a text. -/
namespace Go.Proofs.YtkpcanigdppegaaDoor.OrdI
open Go.RowKit Go.Proofs.YtkpcanigdppegaaDoor.Mem Go.Proofs.YtkpcanigdppegaaDoor.MemR Go.Proofs.YtkpcanigdppegaaDoor.SetMath Go.Proofs.YtkpcanigdppegaaDoor.NameMath Go.Proofs.YtkpcanigdppegaaDoor.NameOk Go.Proofs.YtkpcanigdppegaaDoor.ZoneMath Go.Proofs.YtkpcanigdppegaaDoor.MemZ Go.Proofs.YtkpcanigdppegaaDoor.RecOk Go.Proofs.YtkpcanigdppegaaDoor.LessR Go.Proofs.YtkpcanigdppegaaDoor.ZokMath Go.Proofs.YtkpcanigdppegaaDoor.Labels Go.Proofs.YtkpcanigdppegaaDoor.BoxR

theorem bx_newE (w : World) (t : TypeId) (r : Rec) (g : Nat) (e : w.heap.size = g) : Bx (w.alloc (.cells #[.string r.name, .int .i64 r.ty, .int .i64 r.ttl, .int .i64 r.n, .string r.host, .string r.text] t)) g r := e ▸ bx_new w t r

theorem bx_drew {w : World} {g : Nat} {r : Rec} (h : Bx w g r) : Bx w.drew g r := h

set_option maxRecDepth 100000 in
set_option maxHeartbeats 8000000 in
theorem impl (b0 o0 n c : Nat) (l : List Rec) (w : World) (hs : Sr w w.heap.size (some ⟨b0, o0, none⟩) n l) (hn : n ≤ 400000000) (he : Env w) (hz : ∀ r ∈ l, Fine r) :
    Calls Tryd.prog 41 #[.slice (some ⟨b0, o0, none⟩) n c] w fun e w' => e = .returned (.bool (dec (Alln l.length (Po l)))) ∧ Below w.heap.size w w' := by
  have mixed : Tryd.prog.follows .mixedOrders = true := by kernel_rfl
  have HS := Lib.hid hs
  have HZ := Lib.hid hz
  have HV := Lib.hid he
  clear hs hz he
  go_enter Tryd.func41, Tryd.ntmps41
  go_wp2
  go_loopw [3] (fun i wr => ∃ j : Nat, i = .int .i64 ((j : Int) + 1) ∧ (j = 0 ∨ j + 1 ≤ n) ∧ Hid (Alln (j + 1) (Po l)) ∧ Hid (Below w.heap.size w wr)) (fun i _ => n + 1 - (intOf i).toNat)
  case atStart => exact ⟨0, rfl, Or.inl rfl, fun i hi => Or.inl (by omega), Below.refl _ _⟩
  case round =>
    obtain ⟨j, rfl, hj, HE, HL⟩ := hrel
    by_cases hlt : j + 1 < n
    · obtain ⟨b, off, hA, hbB, hcs⟩ := HS.out.2 (by omega)
      obtain ⟨rfl, rfl⟩ : b0 = b ∧ o0 = off := by simp at hA; exact hA
      clear hA
      have hj0 : j < l.length := by rw [HS.out.1]; omega
      have hj1 : j + 1 < l.length := by rw [HS.out.1]; exact hlt
      obtain ⟨p0, p1, p2, p3, p4, p5⟩ := (hcs j hj0).below HL.out hbB
      obtain ⟨e0, e1, e2, e3, e4, e5⟩ := (hcs (j + 1) hj1).below HL.out hbB
      clear hcs
      have HP : Hid (Po l (j + 1) ↔ (lr l[j] l[j + 1] = true ∧ ¬ (l[j].name = l[j + 1].name ∧ l[j].ty = l[j + 1].ty ∧ l[j].ttl ≠ l[j + 1].ttl))) := show _ ↔ _ by
        rw [Po, Nat.add_sub_cancel, at0_get hj0, at0_get hj1]
        exact ⟨fun h => h.elim (fun h => absurd h (by omega)) id, Or.inr⟩
      have F0 := Lib.hid (HZ.out _ (List.getElem_mem hj0))
      have F1 := Lib.hid (HZ.out _ (List.getElem_mem hj1))
      generalize l[j] = p at *
      generalize l[j + 1] = r at *
      have i1 : (j : Int) + 1 < (n : Int) := by omega
      have i2 : (j : Int) + 1 - 1 = (j : Int) := by omega
      have i3 : (j : Int) < (n : Int) := by omega
      have i4 : IntKind.i64.wrap (j : Int) = (j : Int) := IntWalk.i64_in _ (by omega)
      have i5 : IntKind.i64.wrap ((j : Int) + 1) = (j : Int) + 1 := IntWalk.i64_in _ (by omega)
      have ltb : b0 < wr.heap.size := Nat.lt_of_lt_of_le hbB HL.out.size
      go_wp2
      go_cut [4, 5] (fun a b wx => ∃ gx gy, a = .pointer (some ⟨gx, 0, none⟩) ∧ b = .pointer (some ⟨gy, 0, none⟩) ∧ Hid (Bx wx gx p) ∧ Hid (Bx wx gy r) ∧ Hid (Below w.heap.size w wx))
      case first =>
        go_region
        all_goals
          go_wp2_with fail
          go_meet
          case rel =>
            refine ⟨_, _, rfl, rfl, ?_, ?_, ?_⟩
            · show Bx _ _ _
              refine bx_drew ?_
              first | (refine bx_newE _ _ _ _ ?_; simp; done) | (refine Bx.alloc ?_ _; refine bx_newE _ _ _ _ ?_; simp; done)
            · show Bx _ _ _
              refine bx_drew ?_
              first | (refine bx_newE _ _ _ _ ?_; simp; done) | (refine Bx.alloc ?_ _; refine bx_newE _ _ _ _ ?_; simp; done)
            · show Below _ _ _
              exact ((HL.out.alloc HL.out.size _).alloc (Nat.le_trans HL.out.size (by simp)) _).drew
      case rest =>
        obtain ⟨gx, gy, rfl, rfl, X1, Y1, L1⟩ := hcut
        clear HL p0 p1 p2 p3 p4 p5 e0 e1 e2 e3 e4 e5 i1 i2 i3 i4 ltb
        have LC := Lib.hid (fun W (h : Below w.heap.size w W) => LessR.impl p r W (HV.out.below h) F0.out F1.out)
        obtain ⟨x0, x1, x2, x3, x4, x5⟩ := X1.out
        obtain ⟨y0, y1, y2, y3, y4, y5⟩ := Y1.out
        cases hlr : lr p r with
        | false =>
          have HF := Lib.hid (dec_false (alln_not hj1 (fun h => by have := (HP.out.1 h).1; rw [hlr] at this; cases this)))
          rw [hlr] at LC
          clear hlr HP
          go_wp2_with fail
          refine (LC.out _ L1.out).mono ?_
          rintro e w2 ⟨rfl, hl⟩
          have L2 := Lib.hid (L1.out.trans (hl.mono L1.out.size))
          clear hl LC x0 x1 x2 x3 x4 x5 y0 y1 y2 y3 y4 y5
          go_wp2
          go_ret
          exact ⟨congrArg (fun b => Ending.returned (Value.bool b)) HF.out.symm, L2.out⟩
        | true =>
          have HP2 : Hid (Po l (j + 1) ↔ ¬ (p.name = r.name ∧ p.ty = r.ty ∧ p.ttl ≠ r.ttl)) := ⟨fun h => (HP.out.1 h).2, fun h => HP.out.2 ⟨hlr, h⟩⟩
          rw [hlr] at LC
          clear hlr HP
          go_wp2_with fail
          refine (LC.out _ L1.out).mono ?_
          rintro e w2 ⟨rfl, hl⟩
          have L2 := Lib.hid (L1.out.trans (hl.mono L1.out.size))
          have X2 := Lib.hid (X1.out.below hl)
          have Y2 := Lib.hid (Y1.out.below hl)
          clear hl LC x0 x1 x2 x3 x4 x5 y0 y1 y2 y3 y4 y5 X1 Y1 L1
          go_upto_region 1 with (fail)
          have x0 : ∀ d os, (Sort.grow (redrawn w2 d) os).cell? _ = some _ := fun d os => (X2.out.drawn d os).1
          have x1 : ∀ d os, (Sort.grow (redrawn w2 d) os).cell? _ = some _ := fun d os => (X2.out.drawn d os).2.1
          have x2 : ∀ d os, (Sort.grow (redrawn w2 d) os).cell? _ = some _ := fun d os => (X2.out.drawn d os).2.2.1
          have x3 : ∀ d os, (Sort.grow (redrawn w2 d) os).cell? _ = some _ := fun d os => (X2.out.drawn d os).2.2.2.1
          have x4 : ∀ d os, (Sort.grow (redrawn w2 d) os).cell? _ = some _ := fun d os => (X2.out.drawn d os).2.2.2.2.1
          have x5 : ∀ d os, (Sort.grow (redrawn w2 d) os).cell? _ = some _ := fun d os => (X2.out.drawn d os).2.2.2.2.2
          have y0 : ∀ d os, (Sort.grow (redrawn w2 d) os).cell? _ = some _ := fun d os => (Y2.out.drawn d os).1
          have y1 : ∀ d os, (Sort.grow (redrawn w2 d) os).cell? _ = some _ := fun d os => (Y2.out.drawn d os).2.1
          have y2 : ∀ d os, (Sort.grow (redrawn w2 d) os).cell? _ = some _ := fun d os => (Y2.out.drawn d os).2.2.1
          have y3 : ∀ d os, (Sort.grow (redrawn w2 d) os).cell? _ = some _ := fun d os => (Y2.out.drawn d os).2.2.2.1
          have y4 : ∀ d os, (Sort.grow (redrawn w2 d) os).cell? _ = some _ := fun d os => (Y2.out.drawn d os).2.2.2.2.1
          have y5 : ∀ d os, (Sort.grow (redrawn w2 d) os).cell? _ = some _ := fun d os => (Y2.out.drawn d os).2.2.2.2.2
          have KP := Lib.hid (fun W (_ : Below w2.heap.size w2 W) => KeyI.keyOf p W)
          have KR := Lib.hid (fun W (_ : Below w2.heap.size w2 W) => KeyI.keyOf r W)
          by_cases hk : ¬ (p.name = r.name ∧ p.ty = r.ty)
          · have HN := Lib.hid (alln_next HE.out (HP2.out.2 (fun h => hk ⟨h.1, h.2.1⟩)))
            have q := EqlQ.eql_diff hk
            clear hk HP2
            go_wp2_with fail
            refine wp_region_quiet_below (by assumption) (by kernel_rfl) ?_
            repeat (quiet_step (first | (go_at_call 70; with_reducible exact in_class KP.out) | (go_at_call 70; with_reducible exact in_class KR.out)))
            refine wpQuiet_nil ?_
            intro w3 hw3
            have hl := of_class hw3
            have L3 := Lib.hid (L2.out.trans (hl.mono L2.out.size))
            clear hw3 hl x0 x1 x2 x3 x4 x5 y0 y1 y2 y3 y4 y5 q KP KR
            go_wp2
            go_roundw
            case rel => exact ⟨j + 1, by go_num, Or.inr (by omega), HN.out, L3.out⟩
            case measure => simp [intOf]; omega
          replace hk := Classical.not_not.1 hk
          have q : ∀ w : World, Sem.run Tryd.prog (binOp .eql 28 (.agg #[.string p.name, .int .i64 p.ty]) (.agg #[.string r.name, .int .i64 r.ty])) w = .ok (.bool true) w := fun w => by
            rw [hk.1, hk.2]
            exact EqlQ.eql_same r.name r.ty w
          by_cases ht : p.ttl = r.ttl
          · have HN := Lib.hid (alln_next HE.out (HP2.out.2 (fun h => h.2.2 ht)))
            have t0 : (p.ttl != r.ttl) = false := by simpa using ht
            clear hk HP2 ht
            go_wp2_with fail
            refine wp_region_quiet_below (by assumption) (by kernel_rfl) ?_
            repeat (quiet_step (first | (go_at_call 70; with_reducible exact in_class KP.out) | (go_at_call 70; with_reducible exact in_class KR.out)))
            refine wpQuiet_nil ?_
            intro w3 hw3
            have hl := of_class hw3
            have L3 := Lib.hid (L2.out.trans (hl.mono L2.out.size))
            clear hw3 hl x0 x1 x2 x3 x4 x5 y0 y1 y2 y3 y4 y5 q KP KR
            go_wp2
            go_roundw
            case rel => exact ⟨j + 1, by go_num, Or.inr (by omega), HN.out, L3.out⟩
            case measure => simp [intOf]; omega
          · have HF := Lib.hid (dec_false (alln_not hj1 (fun h => HP2.out.1 h ⟨hk.1, hk.2, ht⟩)))
            have t0 : (p.ttl != r.ttl) = true := by simpa using ht
            clear hk HP2 ht
            go_wp2_with fail
            refine wp_region_quiet_below (by assumption) (by kernel_rfl) ?_
            repeat (quiet_step (first | (go_at_call 70; with_reducible exact in_class KP.out) | (go_at_call 70; with_reducible exact in_class KR.out)))
            refine wpQuiet_nil ?_
            intro w3 hw3
            have hl := of_class hw3
            have L3 := Lib.hid (L2.out.trans (hl.mono L2.out.size))
            clear hw3 hl x0 x1 x2 x3 x4 x5 y0 y1 y2 y3 y4 y5 q KP KR
            go_wp2
            go_ret
            exact ⟨congrArg (fun b => Ending.returned (Value.bool b)) HF.out.symm, L3.out⟩
    · have HF : Hid (dec (Alln l.length (Po l)) = true) := dec_true (fun i hi => HE.out i (by rw [HS.out.1] at hi; omega))
      have i1 : ¬ (j : Int) + 1 < (n : Int) := by omega
      go_wp2
      go_ret
      exact ⟨congrArg (fun b => Ending.returned (Value.bool b)) HF.out.symm, HL.out⟩

end Go.Proofs.YtkpcanigdppegaaDoor.OrdI

/- What StartOf does in the model: the first record of the start's type, or a record with nothing in it. Condition: fewer than 400000001 records. -/
namespace Go.Proofs.YtkpcanigdppegaaDoor.StartS
open Go.RowKit Go.Proofs.YtkpcanigdppegaaDoor.Mem Go.Proofs.YtkpcanigdppegaaDoor.MemR Go.Proofs.YtkpcanigdppegaaDoor.SetMath Go.Proofs.YtkpcanigdppegaaDoor.ZoneMath Go.Proofs.YtkpcanigdppegaaDoor.MemZ Go.Proofs.YtkpcanigdppegaaDoor.ResR

theorem box2 {w : World} {a : Obj} {cs : Array Value} {t : TypeId} : Bk ((w.alloc a).alloc (.cells cs t)) (w.heap.size + 1) t cs.toList := by
  have := heap_alloc_new (w.alloc a) (.cells cs t)
  rw [show (w.alloc a).heap.size = w.heap.size + 1 by simp] at this
  exact this

set_option maxRecDepth 100000 in
set_option maxHeartbeats 8000000 in
theorem spec (s : ByteArray) (b0 o0 n c : Nat) (l : List Rec) (w : World) (hs : Sr w w.heap.size (some ⟨b0, o0, none⟩) n l) (hn : n ≤ 400000000) :
    Calls Tryd.prog 15 #[.agg #[.string s, .slice (some ⟨b0, o0, none⟩) n c]] w fun e w' => e = .returned (.agg #[.string ((st l)).name, .int .i64 ((st l)).ty, .int .i64 ((st l)).ttl, .int .i64 ((st l)).n, .string ((st l)).host, .string ((st l)).text]) ∧ Below w.heap.size w w' := by
  have Z0 := Lib.hid ((zx_new w 26 s (.slice (some ⟨b0, o0, none⟩) n c)).alloc (.cells #[.string ⟨#[]⟩, .int .i64 0, .int .i64 0, .int .i64 0, .string ⟨#[]⟩, .string ⟨#[]⟩] 39))
  have R0 := Lib.hid (box2 (w := w) (a := .cells #[.string s, .slice (some ⟨b0, o0, none⟩) n c] 26) (cs := #[.string ⟨#[]⟩, .int .i64 0, .int .i64 0, .int .i64 0, .string ⟨#[]⟩, .string ⟨#[]⟩]) (t := 39))
  have L0 := Lib.hid (((Below.refl w.heap.size w).alloc (Nat.le_refl _) (.cells #[.string s, .slice (some ⟨b0, o0, none⟩) n c] 26)).alloc (by simp) (.cells #[.string ⟨#[]⟩, .int .i64 0, .int .i64 0, .int .i64 0, .string ⟨#[]⟩, .string ⟨#[]⟩] 39))
  have HS := Lib.hid hs
  clear hs
  go_enter Tryd.func15, Tryd.ntmps15
  go_wp2
  generalize (w.alloc (.cells #[.string s, .slice (some ⟨b0, o0, none⟩) n c] 26)).alloc (.cells #[.string ⟨#[]⟩, .int .i64 0, .int .i64 0, .int .i64 0, .string ⟨#[]⟩, .string ⟨#[]⟩] 39) = w0 at *
  go_loopw [3] (fun i wr => ∃ k : Nat, k ≤ n ∧ i = .int .i64 k ∧ wr = w0 ∧ Hid (∀ r ∈ l.take k, r.ty ≠ 6)) (fun i _ => n - (intOf i).toNat)
  case atStart => exact ⟨0, Nat.zero_le _, rfl, rfl, fun r hr => by simp at hr⟩
  case round =>
    obtain ⟨k, hk, rfl, rfl, HE⟩ := hrel
    obtain ⟨z0, z1⟩ := Z0.out
    have r0 : wr.cell? ⟨w.heap.size + 1, 0, none⟩ = some (.string ⟨#[]⟩) := R0.out.cell 0
    have r1 : wr.cell? ⟨w.heap.size + 1, 1, none⟩ = some (.int .i64 0) := R0.out.cell 1
    have r2 : wr.cell? ⟨w.heap.size + 1, 2, none⟩ = some (.int .i64 0) := R0.out.cell 2
    have r3 : wr.cell? ⟨w.heap.size + 1, 3, none⟩ = some (.int .i64 0) := R0.out.cell 3
    have r4 : wr.cell? ⟨w.heap.size + 1, 4, none⟩ = some (.string ⟨#[]⟩) := R0.out.cell 4
    have r5 : wr.cell? ⟨w.heap.size + 1, 5, none⟩ = some (.string ⟨#[]⟩) := R0.out.cell 5
    have q0 := R0.out.free 0
    have q1 := R0.out.free 1
    have q2 := R0.out.free 2
    have q3 := R0.out.free 3
    have q4 := R0.out.free 4
    have q5 := R0.out.free 5
    by_cases hlt : k < n
    · obtain ⟨b, off, hA, hbB, hcs⟩ := HS.out.2 (by omega)
      obtain ⟨rfl, rfl⟩ : b0 = b ∧ o0 = off := by simp at hA; exact hA
      clear hA
      have hkl : k < l.length := by rw [HS.out.1]; exact hlt
      obtain ⟨e0, e1, e2, e3, e4, e5⟩ := (hcs k hkl).below L0.out hbB
      clear hcs
      have HH := Lib.hid (fun e => st_hit l k hkl e HE.out)
      have HN := Lib.hid (fun e => st_next l k hkl e HE.out)
      generalize l[k] = r at *
      by_cases hty : r.ty = 6
      · have HF := Lib.hid (HH.out hty)
        have t0 : (r.ty == 6) = true := by simpa using hty
        clear hty HH HN
        have F := Lib.hid (fil_bk (r0 := zr) R0.out r)
        have E := Lib.hid (fil_below L0.out (g := w.heap.size + 1) (by omega) r)
        go_wp2
        exact bodyPost_ret (v := .agg #[.string r.name, .int .i64 r.ty, .int .i64 r.ttl, .int .i64 r.n, .string r.host, .string r.text]) (res1 rfl F.out rfl) rfl ⟨by rw [HF.out], E.out⟩
      · have HF := Lib.hid (HN.out hty)
        have t0 : (r.ty == 6) = false := by simpa using hty
        clear hty HH HN
        go_wp2
        go_roundw
        case rel => exact ⟨k + 1, by omega, by go_num, trivial, HF.out⟩
        case measure => simp [intOf]; omega
    · obtain rfl : n = k := by omega
      have HF := Lib.hid (st_none l (by rw [take_all HS.out.1] at HE; exact HE.out))
      have F := Lib.hid (fil_bk (r0 := zr) R0.out zr)
      have E := Lib.hid (fil_below L0.out (g := w.heap.size + 1) (by omega) zr)
      go_wp2
      exact bodyPost_ret (v := .agg #[.string zr.name, .int .i64 zr.ty, .int .i64 zr.ttl, .int .i64 zr.n, .string zr.host, .string zr.text]) (res1 rfl F.out rfl) rfl ⟨by rw [HF.out], E.out⟩
end Go.Proofs.YtkpcanigdppegaaDoor.StartS

/- What StartOf does in the program (a range over the zone's records): the first record of the start's type, or a record with nothing in it. Condition: fewer than 400000001 records. -/
namespace Go.Proofs.YtkpcanigdppegaaDoor.StartOfI
open Go.RowKit Go.Proofs.YtkpcanigdppegaaDoor.Mem Go.Proofs.YtkpcanigdppegaaDoor.MemR Go.Proofs.YtkpcanigdppegaaDoor.SetMath Go.Proofs.YtkpcanigdppegaaDoor.ZoneMath Go.Proofs.YtkpcanigdppegaaDoor.MemZ Go.Proofs.YtkpcanigdppegaaDoor.ResR Go.Proofs.YtkpcanigdppegaaDoor.StartS

set_option maxRecDepth 100000 in
set_option maxHeartbeats 8000000 in
theorem impl (s : ByteArray) (b0 o0 n c : Nat) (l : List Rec) (w : World) (hs : Sr w w.heap.size (some ⟨b0, o0, none⟩) n l) (hn : n ≤ 400000000) (_ : s.size ≤ 400000000) (_ : ∀ r ∈ l, r.name.size ≤ 400000000) :
    Calls Tryd.prog 14 #[.agg #[.string s, .slice (some ⟨b0, o0, none⟩) n c]] w fun e w' => e = .returned (.agg #[.string ((st l)).name, .int .i64 ((st l)).ty, .int .i64 ((st l)).ttl, .int .i64 ((st l)).n, .string ((st l)).host, .string ((st l)).text]) ∧ Below w.heap.size w w' := by
  have Z0 := Lib.hid ((zx_new w 26 s (.slice (some ⟨b0, o0, none⟩) n c)).alloc (.cells #[.string ⟨#[]⟩, .int .i64 0, .int .i64 0, .int .i64 0, .string ⟨#[]⟩, .string ⟨#[]⟩] 39))
  have R0 := Lib.hid (box2 (w := w) (a := .cells #[.string s, .slice (some ⟨b0, o0, none⟩) n c] 26) (cs := #[.string ⟨#[]⟩, .int .i64 0, .int .i64 0, .int .i64 0, .string ⟨#[]⟩, .string ⟨#[]⟩]) (t := 39))
  have L0 := Lib.hid (((Below.refl w.heap.size w).alloc (Nat.le_refl _) (.cells #[.string s, .slice (some ⟨b0, o0, none⟩) n c] 26)).alloc (by simp) (.cells #[.string ⟨#[]⟩, .int .i64 0, .int .i64 0, .int .i64 0, .string ⟨#[]⟩, .string ⟨#[]⟩] 39))
  have HS := Lib.hid hs
  clear hs
  go_enter Tryd.func14, Tryd.ntmps14
  go_wp2
  generalize (w.alloc (.cells #[.string s, .slice (some ⟨b0, o0, none⟩) n c] 26)).alloc (.cells #[.string ⟨#[]⟩, .int .i64 0, .int .i64 0, .int .i64 0, .string ⟨#[]⟩, .string ⟨#[]⟩] 39) = w0 at *
  go_loopw [8] (fun i wr => ∃ k : Nat, k ≤ n ∧ i = .int .i64 k ∧ Hid (Bk wr (w.heap.size + 1) 39 (rc zr)) ∧ Hid (Below w.heap.size w wr) ∧ Hid (∀ r ∈ l.take k, r.ty ≠ 6)) (fun i _ => n - (intOf i).toNat)
  case atStart => exact ⟨0, Nat.zero_le _, rfl, R0.out, L0.out, fun r hr => by simp at hr⟩
  case round =>
    clear Z0 R0 L0
    obtain ⟨k, hk, rfl, HR, HL, HE⟩ := hrel
    by_cases hlt : k < n
    · obtain ⟨b, off, hA, hbB, hcs⟩ := HS.out.2 (by omega)
      obtain ⟨rfl, rfl⟩ : b0 = b ∧ o0 = off := by simp at hA; exact hA
      clear hA
      have hkl : k < l.length := by rw [HS.out.1]; exact hlt
      obtain ⟨e0, e1, e2, e3, e4, e5⟩ := (hcs k hkl).below HL.out hbB
      clear hcs
      have HH := Lib.hid (fun e => st_hit l k hkl e HE.out)
      have HN := Lib.hid (fun e => st_next l k hkl e HE.out)
      generalize l[k] = r at *
      have R1 := Lib.hid (HR.out.alloc (.cells #[.string r.name, .int .i64 r.ty, .int .i64 r.ttl, .int .i64 r.n, .string r.host, .string r.text] 39))
      have L1 := Lib.hid (HL.out.alloc HL.out.size (.cells #[.string r.name, .int .i64 r.ty, .int .i64 r.ttl, .int .i64 r.n, .string r.host, .string r.text] 39))
      clear HR HL
      by_cases hty : r.ty = 6
      · have HF := Lib.hid (HH.out hty)
        have t0 : (r.ty == 6) = true := by simpa using hty
        clear hty HH HN
        have r0 : (wr.alloc (.cells #[.string r.name, .int .i64 r.ty, .int .i64 r.ttl, .int .i64 r.n, .string r.host, .string r.text] 39)).cell? ⟨w.heap.size + 1, 0, none⟩ = some (.string ⟨#[]⟩) := R1.out.cell 0
        have r1 : (wr.alloc (.cells #[.string r.name, .int .i64 r.ty, .int .i64 r.ttl, .int .i64 r.n, .string r.host, .string r.text] 39)).cell? ⟨w.heap.size + 1, 1, none⟩ = some (.int .i64 0) := R1.out.cell 1
        have r2 : (wr.alloc (.cells #[.string r.name, .int .i64 r.ty, .int .i64 r.ttl, .int .i64 r.n, .string r.host, .string r.text] 39)).cell? ⟨w.heap.size + 1, 2, none⟩ = some (.int .i64 0) := R1.out.cell 2
        have r3 : (wr.alloc (.cells #[.string r.name, .int .i64 r.ty, .int .i64 r.ttl, .int .i64 r.n, .string r.host, .string r.text] 39)).cell? ⟨w.heap.size + 1, 3, none⟩ = some (.int .i64 0) := R1.out.cell 3
        have r4 : (wr.alloc (.cells #[.string r.name, .int .i64 r.ty, .int .i64 r.ttl, .int .i64 r.n, .string r.host, .string r.text] 39)).cell? ⟨w.heap.size + 1, 4, none⟩ = some (.string ⟨#[]⟩) := R1.out.cell 4
        have r5 : (wr.alloc (.cells #[.string r.name, .int .i64 r.ty, .int .i64 r.ttl, .int .i64 r.n, .string r.host, .string r.text] 39)).cell? ⟨w.heap.size + 1, 5, none⟩ = some (.string ⟨#[]⟩) := R1.out.cell 5
        have q0 := R1.out.free 0
        have q1 := R1.out.free 1
        have q2 := R1.out.free 2
        have q3 := R1.out.free 3
        have q4 := R1.out.free 4
        have q5 := R1.out.free 5
        have F := Lib.hid (fil_bk (r0 := zr) R1.out r)
        have E := Lib.hid (fil_below L1.out (g := w.heap.size + 1) (by omega) r)
        go_wp2
        exact bodyPost_ret (v := .agg #[.string r.name, .int .i64 r.ty, .int .i64 r.ttl, .int .i64 r.n, .string r.host, .string r.text]) (res1 rfl F.out rfl) rfl ⟨by rw [HF.out], E.out⟩
      · have HF := Lib.hid (HN.out hty)
        have t0 : (r.ty == 6) = false := by simpa using hty
        clear hty HH HN
        go_wp2
        go_roundw
        case rel => exact ⟨k + 1, by omega, by go_num, R1.out, L1.out, HF.out⟩
        case measure => simp [intOf]; omega
    · obtain rfl : n = k := by omega
      have HF := Lib.hid (st_none l (by rw [take_all HS.out.1] at HE; exact HE.out))
      have r0 : wr.cell? ⟨w.heap.size + 1, 0, none⟩ = some (.string ⟨#[]⟩) := HR.out.cell 0
      have r1 : wr.cell? ⟨w.heap.size + 1, 1, none⟩ = some (.int .i64 0) := HR.out.cell 1
      have r2 : wr.cell? ⟨w.heap.size + 1, 2, none⟩ = some (.int .i64 0) := HR.out.cell 2
      have r3 : wr.cell? ⟨w.heap.size + 1, 3, none⟩ = some (.int .i64 0) := HR.out.cell 3
      have r4 : wr.cell? ⟨w.heap.size + 1, 4, none⟩ = some (.string ⟨#[]⟩) := HR.out.cell 4
      have r5 : wr.cell? ⟨w.heap.size + 1, 5, none⟩ = some (.string ⟨#[]⟩) := HR.out.cell 5
      have q0 := HR.out.free 0
      have q1 := HR.out.free 1
      have q2 := HR.out.free 2
      have q3 := HR.out.free 3
      have q4 := HR.out.free 4
      have q5 := HR.out.free 5
      have F := Lib.hid (fil_bk (r0 := zr) HR.out zr)
      have E := Lib.hid (fil_below HL.out (g := w.heap.size + 1) (by omega) zr)
      go_wp2
      exact bodyPost_ret (v := .agg #[.string zr.name, .int .i64 zr.ty, .int .i64 zr.ttl, .int .i64 zr.n, .string zr.host, .string zr.text]) (res1 rfl F.out rfl) rfl ⟨by rw [HF.out], E.out⟩
end Go.Proofs.YtkpcanigdppegaaDoor.StartOfI

/- 'm[k] = append(m[k], x)' as the model has it: the entry is found or laid, with its stamp; then its value is stored at the stamp. -/
namespace Go.Proofs.YtkpcanigdppegaaDoor.MapE
open Go.RowKit Go.Proofs.YtkpcanigdppegaaDoor.Mem Go.Proofs.YtkpcanigdppegaaDoor.MapK
open Go.ChangeMaps (setBlock heap_setBlock_same heap_setBlock_other)

/-- As Mp; and the j-th entry bears the stamp st. -/
def Ms (w : World) (b : Nat) (l : List (Value × Value)) (j st : Nat) : Prop :=
  ∃ es clock, w.heap[b]? = some (.map es clock) ∧ es.toList.map (fun e => (e.key, e.val)) = l ∧ (∀ e ∈ es.toList, e.born < clock) ∧ (es.toList.map (·.born)).Nodup ∧ ∃ e, es.toList[j]? = some e ∧ e.born = st
section
variable {P : Program} {w w' : World} {b : Nat} {l : List (Value × Value)} {k e t : TypeId} {S : Value → Prop} {j st : Nat}

theorem Ms.lt (h : Ms w b l j st) : b < w.heap.size := by
  obtain ⟨es, clock, hb, _⟩ := h
  exact (Array.getElem?_eq_some_iff.1 hb).1

theorem Ms.kept (h : Ms w b l j st) (hk : w'.heap[b]? = w.heap[b]?) : Ms w' b l j st := by
  obtain ⟨es, clock, hb, h1⟩ := h
  exact ⟨es, clock, hk.trans hb, h1⟩

theorem Ms.grown {row : Option Nat} (h : Ms w b l j st) (hg : w.grownBy w' row) (hne : some b ≠ row) : Ms w' b l j st := h.kept (hg.block b h.lt hne)

theorem Ms.alloc (h : Ms w b l j st) (o : Obj) : Ms (w.alloc o) b l j st := h.grown (World.grownBy_alloc w o none) (by simp)

/-- The entry is not there: it is laid, with the zero value. -/
theorem entry_new (h : Mp w b l) (K : MapK.KeyT P k S) (ht : P.underlying t = some (.map k e)) {z : Value} (hz : (zeroValue e).run P w = .ok z w) (hS : ∀ p ∈ l, S p.1) {x : Value} (hx : S x) (hno : ∀ p ∈ l, p.1 ≠ x) :
    ∃ w' st, (Instr.mapEntry t (.map (some b)) x).run P w = .ok (.tuple #[z, .int .i64 (st : Nat)]) w' ∧ Ms w' b (l ++ [(x, z)]) l.length st ∧ w.grownBy w' (some b) ∧ w'.heap.size = w.heap.size := by
  obtain ⟨es, clock, hb, hl, hborn, hnd⟩ := h
  rcases K.find w hx es.toList (mem_key hl hS) with ⟨hrun, _⟩ | ⟨j, e0, _, hj, hk⟩
  · refine ⟨setBlock w b (.map (es.push ⟨x, z, clock⟩) (clock + 1)), clock, ?_, ⟨_, _, heap_setBlock_same hb _, ?_, ?_, ?_, ⟨x, z, clock⟩, ?_, rfl⟩, grown_block hb _, by simp [setBlock]⟩
    · simp [Instr.mapEntry, run_underlying ht, MapKept.run_getObj_map hb, K.check w false hx, hrun, hz, MapKept.run_setObj_map _ hb, Result.andThen, setBlock, goInt]
    · rw [Array.toList_push, List.map_append, hl]; rfl
    · intro e' he'
      rw [Array.toList_push, List.mem_append] at he'
      rcases he' with he' | he'
      · have := hborn e' he'; omega
      · obtain rfl := List.mem_singleton.1 he'; exact Nat.lt_succ_self _
    · rw [Array.toList_push, List.map_append, List.nodup_append]
      refine ⟨hnd, by simp, fun a ha c hc => ?_⟩
      obtain ⟨e', he', rfl⟩ := List.mem_map.1 ha
      have h1 := hborn e' he'
      simp at hc
      omega
    · rw [Array.toList_push, ← hl, List.length_map, List.getElem?_append_right (Nat.le_refl _), Nat.sub_self]
      rfl
  · exact absurd hk (hno (e0.key, e0.val) (hl ▸ List.mem_map.2 ⟨e0, List.mem_of_getElem? hj, rfl⟩))

/-- The entry is there. -/
theorem entry_old (h : Mp w b l) (K : MapK.KeyT P k S) (ht : P.underlying t = some (.map k e)) (hS : ∀ p ∈ l, S p.1) (hd : (l.map Prod.fst).Nodup) {x u : Value} (hx : S x) {j : Nat} (hin : l[j]? = some (x, u)) :
    ∃ w' st, (Instr.mapEntry t (.map (some b)) x).run P w = .ok (.tuple #[u, .int .i64 (st : Nat)]) w' ∧ Ms w' b l j st ∧ w.grownBy w' (some b) ∧ w'.heap.size = w.heap.size := by
  obtain ⟨es, clock, hb, hl, hborn, hnd⟩ := h
  rcases K.find w hx es.toList (mem_key hl hS) with ⟨_, hno⟩ | ⟨i, e0, hrun, hi, hk⟩
  · have hm := List.mem_of_getElem? hin
    rw [← hl] at hm
    obtain ⟨e0, he, hq⟩ := List.mem_map.1 hm
    exact absurd (congrArg Prod.fst hq) (hno e0 he)
  · have hli : l[i]? = some (e0.key, e0.val) := by rw [← hl, List.getElem?_map, hi]; rfl
    have hij : i = j := by
      rw [hk] at hli
      exact key_idx hd hli hin
    subst hij
    have hu : e0.val = u := by rw [hli] at hin; exact congrArg Prod.snd (Option.some.inj hin)
    have hget : es[i]? = some e0 := by rw [← Array.getElem?_toList]; exact hi
    have hmod : (es.modify i fun e => { e with key := x }) = es := by
      refine Array.toList_inj.1 ?_
      rw [Array.toList_modify]
      refine List.ext_getElem? fun n => ?_
      rw [List.getElem?_modify]
      by_cases hn : i = n
      · subst hn
        rw [hi]
        simp [← hk]
      · simp [hn]
    refine ⟨setBlock w b (.map (es.modify i fun e => { e with key := x }) clock), e0.born, ?_, ⟨es, clock, by rw [heap_setBlock_same hb _, hmod], hl, hborn, hnd, e0, hi, rfl⟩, grown_block hb _, by simp [setBlock]⟩
    have hst := K.stays w hx
    have hck := K.check w false hx
    subst hk
    subst hu
    simp [Instr.mapEntry, run_underlying ht, MapKept.run_getObj_map hb, hck, hrun, hget, hst, MapKept.run_setObj_map _ hb, Result.andThen, setBlock, goInt]

/-- The value is stored at the stamp. -/
theorem Ms.store (h : Ms w b l j st) (t : TypeId) {x u : Value} (hin : l[j]? = some (x, u)) (v : Value) :
    ∃ w', (Instr.entryStore t (.map (some b)) (.int .i64 (st : Nat)) v).run P w = .ok () w' ∧ Mp w' b (l.set j (x, v)) ∧ w.grownBy w' (some b) ∧ w'.heap.size = w.heap.size := by
  obtain ⟨es, clock, hb, hl, hborn, hnd, e0, hj, rfl⟩ := h
  have hx : e0.key = x := by
    rw [← hl, List.getElem?_map, hj] at hin
    exact congrArg Prod.fst (Option.some.inj hin)
  have hfind : es.findIdx? (fun e => (e.born : Int) == (e0.born : Int)) = some j := by
    obtain ⟨hlt, he⟩ := List.getElem?_eq_some_iff.1 hj
    rw [Array.findIdx?_eq_some_iff_getElem]
    refine ⟨by simpa using hlt, by rw [show es[j]'(by simpa using hlt) = e0 from he]; simp, fun i hi hp => ?_⟩
    have hil : i < es.toList.length := by omega
    have h1 : (es.toList.map (·.born))[i]? = some e0.born := by
      rw [List.getElem?_map, List.getElem?_eq_getElem hil]
      have h3 : es[i].born = e0.born := by simp at hp; omega
      have h4 : es.toList[i].born = e0.born := h3
      rw [Option.map_some, h4]
    have h2 : (es.toList.map (·.born))[j]? = some e0.born := by rw [List.getElem?_map, hj]; rfl
    have := nodup_inj hnd h1 h2
    omega
  refine ⟨setBlock w b (.map (es.modify j fun e => { e with val := v }) clock), ?_, ⟨_, _, heap_setBlock_same hb _, ?_, ?_, ?_⟩, grown_block hb _, by simp [setBlock]⟩
  · simp [Instr.entryStore, MapKept.run_getObj_map hb, asInt, asIntOf, hfind, MapKept.run_setObj_map _ hb, Result.andThen, setBlock]
  · rw [Array.toList_modify, ← hl]
    refine List.ext_getElem? fun n => ?_
    rw [List.getElem?_map, List.getElem?_modify, List.getElem?_set]
    by_cases hn : j = n
    · subst hn
      have : j < es.toList.length := (List.getElem?_eq_some_iff.1 hj).1
      rw [Array.length_toList] at this
      rw [hj]
      simp [this, hx]
    · simp [hn]
  · intro e' he'
    rw [Array.toList_modify] at he'
    obtain ⟨n, hn⟩ := List.getElem?_of_mem he'
    rw [List.getElem?_modify] at hn
    obtain ⟨e1, h1, rfl⟩ := Option.map_eq_some_iff.1 hn
    have := hborn e1 (List.mem_of_getElem? h1)
    split <;> exact this
  · have : (es.modify j fun e => { e with val := v }).toList.map (·.born) = es.toList.map (·.born) := by
      rw [Array.toList_modify]
      refine List.ext_getElem? fun n => ?_
      rw [List.getElem?_map, List.getElem?_map, List.getElem?_modify]
      cases es.toList[n]? <;> simp
      split <;> rfl
    rw [this]
    exact hnd

/-- The look-up of an entry at the operation. -/
theorem wp_entry {ops : Array Oper} {rest : List Oper} {o : Oper} {a : Act} {Q : Exit → Act → World → Prop}
    (hg : o.guard = none) (m x : Operand) (hop : o.op = Op.mapEntry t m x) (key u : Value) (hm : a.eval m = .map (some b)) (hx : a.eval x = key) (l' : List (Value × Value)) (j' : Nat)
    (hrun : ∃ w' st, (Instr.mapEntry t (.map (some b)) key).run P w = .ok (.tuple #[u, .int .i64 (st : Nat)]) w' ∧ Ms w' b l' j' st ∧ w.grownBy w' (some b) ∧ w'.heap.size = w.heap.size)
    (hK : ∀ w' (st : Nat), Ms w' b l' j' st → w.grownBy w' (some b) → w'.heap.size = w.heap.size → wpList P ops Q rest (a.put o.dst (.tuple #[u, .int .i64 (st : Nat)])) w') : wpList P ops Q (o :: rest) a w := by
  obtain ⟨w', s0, h1, h2, h3, h4⟩ := hrun
  refine wpList_plain hg fun K' hK' => ?_
  unfold Oper.wp
  simp [execOp, hop, hm, hx, h1, Result.andThen]
  exact hK' _ _ (hK w' s0 h2 h3 h4)

/-- The store at a stamp at the operation. -/
theorem wp_stamp {ops : Array Oper} {rest : List Oper} {o : Oper} {a : Act} {Q : Exit → Act → World → Prop}
    (hg : o.guard = none) (m s v : Operand) (hop : o.op = Op.entryStore t m s v) (u : Value) (hm : a.eval m = .map (some b)) (hs : a.eval s = .int .i64 (st : Nat)) (hv : a.eval v = u)
    (l' : List (Value × Value)) (hrun : ∃ w', (Instr.entryStore t (.map (some b)) (.int .i64 (st : Nat)) u).run P w = .ok () w' ∧ Mp w' b l' ∧ w.grownBy w' (some b) ∧ w'.heap.size = w.heap.size)
    (hK : ∀ w', Mp w' b l' → w.grownBy w' (some b) → w'.heap.size = w.heap.size → wpList P ops Q rest (a.put o.dst undef) w') : wpList P ops Q (o :: rest) a w := by
  obtain ⟨w', h1, h2, h3, h4⟩ := hrun
  refine wpList_plain hg fun K' hK' => ?_
  unfold Oper.wp
  simp [execOp, hop, hm, hs, hv, h1, Result.andThen]
  exact hK' _ _ (hK w' h2 h3 h4)
end
end Go.Proofs.YtkpcanigdppegaaDoor.MapE

/- A map of slices of records, one for each key: what it is, and that it is so again behind one more record. -/
namespace Go.Proofs.YtkpcanigdppegaaDoor.GrpM
open Go.RowKit Go.Proofs.YtkpcanigdppegaaDoor.Mem Go.Proofs.YtkpcanigdppegaaDoor.MemR Go.Proofs.YtkpcanigdppegaaDoor.SetMath Go.Proofs.YtkpcanigdppegaaDoor.MemQ Go.Proofs.YtkpcanigdppegaaDoor.MapK Go.Proofs.YtkpcanigdppegaaDoor.MapE

/-- An entry: the key, the block of the slice, its length and its capacity. -/
structure Ge where
  q : Key
  g : Nat
  m : Nat
  cap : Nat

/-- Its slice. -/
def sv (e : Ge) : Value := .slice (some ⟨e.g, 0, none⟩) e.m e.cap

/-- The entries as the map holds them. -/
def ev (es : List Ge) : List (Value × Value) := es.map (fun e => (qv e.q, sv e))

/-- The records of a key. -/
noncomputable def sq (q : Key) (l : List Rec) : List Rec := sf q.name q.ty l

theorem sq_snoc (q : Key) (l : List Rec) (r : Rec) : sq q (l ++ [r]) = sq q l ++ (if isk q.name q.ty r = true then [r] else []) := by
  rw [sq, sf, List.filter_append, List.filter_cons, List.filter_nil]; rfl

theorem sq_same (l : List Rec) (r : Rec) : sq (ky r) (l ++ [r]) = sq (ky r) l ++ [r] := by
  rw [sq_snoc, show isk (ky r).name (ky r).ty r = true from isk_true ⟨rfl, rfl⟩, if_pos rfl]

theorem sq_other {q : Key} (l : List Rec) {r : Rec} (h : q ≠ ky r) : sq q (l ++ [r]) = sq q l := by
  rw [sq_snoc, isk_false (fun e => h (by obtain ⟨a, b⟩ := q; simp only at e; rw [ky, e.1, e.2])), if_neg (by decide), List.append_nil]

theorem sq_none {q : Key} {l : List Rec} (h : q ∉ kl l) : sq q l = [] := by
  refine List.filter_eq_nil_iff.2 (fun r hr hk => h ?_)
  refine List.mem_map.2 ⟨r, hr, ?_⟩
  obtain ⟨h1, h2⟩ := isk_iff.1 hk
  obtain ⟨a, b⟩ := q
  rw [ky, h1, h2]

theorem uq_kl (l : List Rec) (r : Rec) : uq (kl (l ++ [r])) = add (uq (kl l)) (ky r) := by
  rw [show kl (l ++ [r]) = kl l ++ [ky r] from by rw [kl, List.map_append]; rfl, uq_snoc]

/-- Block b is a map that holds, for each key of the records l, its records in a row of the call's own, from base on; no two in one row. -/
def Gr (w : World) (base b : Nat) (l : List Rec) : Prop := ∃ es : List Ge, Mp w b (ev es) ∧ es.map (·.q) = uq (kl l) ∧
  (∀ (i : Nat) (e : Ge), es[i]? = some e → w.ownsRow base 39 6 (sv e) e.m (fl (sq e.q l))) ∧ (∀ (i i' : Nat) (e e' : Ge), es[i]? = some e → es[i']? = some e' → i ≠ i' → e.g ≠ e'.g)

section
variable {w w' w2 w3 w4 : World} {base b g' cap' : Nat} {l : List Rec} {es : List Ge}

theorem ev_key (es : List Ge) : ∀ p ∈ ev es, ∃ q : Key, p.1 = qv q := by
  intro p hp
  obtain ⟨e, _, rfl⟩ := List.mem_map.1 hp
  exact ⟨_, rfl⟩

theorem qv_inj {q p : Key} (h : qv q = qv p) : q = p := by
  obtain ⟨a, b⟩ := q
  obtain ⟨c, d⟩ := p
  simp [qv] at h
  rw [h.1, h.2]

theorem ev_nodup : ∀ {es : List Ge}, (es.map (·.q)).Nodup → ((ev es).map Prod.fst).Nodup
  | [], _ => by simp [ev]
  | e :: es, h => by
    rw [List.map_cons] at h
    obtain ⟨h1, h2⟩ := List.nodup_cons.1 h
    show (qv e.q :: (ev es).map Prod.fst).Nodup
    refine List.nodup_cons.2 ⟨fun hm => ?_, ev_nodup h2⟩
    obtain ⟨p, hp, he⟩ := List.mem_map.1 hm
    obtain ⟨e', he', rfl⟩ := List.mem_map.1 hp
    exact h1 (List.mem_map.2 ⟨e', he', qv_inj he⟩)

theorem ev_out {q : Key} (h : q ∉ es.map (·.q)) : ∀ p ∈ ev es, p.1 ≠ qv q := by
  intro p hp e
  obtain ⟨e', he', rfl⟩ := List.mem_map.1 hp
  exact h (List.mem_map.2 ⟨e', he', qv_inj e⟩)

theorem ev_at {i : Nat} {e : Ge} (h : es[i]? = some e) : (ev es)[i]? = some (qv e.q, sv e) := by rw [ev, List.getElem?_map, h]; rfl

theorem own_kept {e : Ge} {xs : List Value} {row : Option Nat} (h : w.ownsRow base 39 6 (sv e) e.m xs) (hg : w.grownBy w' row) (hne : some e.g ≠ row) : w'.ownsRow base 39 6 (sv e) e.m xs := h.kept hg (Or.inr hne)

theorem own_lt {e : Ge} {xs : List Value} (h : w.ownsRow base 39 6 (sv e) e.m xs) : base ≤ e.g ∧ e.g < w.heap.size := h.lt e.g rfl

theorem own_m {e : Ge} (h : w.ownsRow base 39 6 (sv e) e.m (fl (sq e.q l))) : (sq e.q l).length = e.m := by have := h.1; rw [fl_len] at this; omega

/-- Nothing of the groups is turned by what turns other blocks. -/
theorem rows_kept {row : Option Nat} (h : ∀ (i : Nat) (e : Ge), es[i]? = some e → w.ownsRow base 39 6 (sv e) e.m (fl (sq e.q l))) (hg : w.grownBy w' row) (hne : ∀ g, base ≤ g → g < w.heap.size → some g ≠ row) :
    ∀ (i : Nat) (e : Ge), es[i]? = some e → w'.ownsRow base 39 6 (sv e) e.m (fl (sq e.q l)) := fun i e he => by
  have h1 := own_lt (h i e he)
  exact own_kept (h i e he) hg (hne _ h1.1 h1.2)

/-- One more record of a key that is there. -/
theorem gr_old (hq : es.map (·.q) = uq (kl l)) (ho : ∀ (i : Nat) (e : Ge), es[i]? = some e → w2.ownsRow base 39 6 (sv e) e.m (fl (sq e.q l))) (hd : ∀ (i i' : Nat) (e e' : Ge), es[i]? = some e → es[i']? = some e' → i ≠ i' → e.g ≠ e'.g)
    {j : Nat} {e : Ge} {r : Rec} (hj : es[j]? = some e) (hk : e.q = ky r) (hgr : w2.grownBy w3 (some e.g)) (hown : w3.ownsRow base 39 6 (.slice (some ⟨g', 0, none⟩) (e.m + 1) cap') (e.m + 1) (fl (sq e.q l) ++ fl [r])) (hl : e.g = g' ∨ g' = w2.heap.size)
    (hb : b < base) (h4 : w3.grownBy w4 (some b)) (hm : Mp w4 b ((ev es).set j (qv (ky r), .slice (some ⟨g', 0, none⟩) (e.m + 1) cap'))) : Gr w4 base b (l ++ [r]) := by
  have hnd : (es.map (·.q)).Nodup := hq ▸ nodup_uq _
  have hjl : j < es.length := (List.getElem?_eq_some_iff.1 hj).1
  have hin : ky r ∈ uq (kl l) := by rw [← hq, ← hk]; exact List.mem_map.2 ⟨e, List.mem_of_getElem? hj, rfl⟩
  have hother : ∀ (i : Nat) (e' : Ge), es[i]? = some e' → i ≠ j → e'.q ≠ ky r := fun i e' he' hne hqq => hne (nodup_inj hnd (a := ky r) (by rw [List.getElem?_map, he', Option.map_some, hqq]) (by rw [List.getElem?_map, hj, Option.map_some, hk]))
  have hg' : base ≤ g' := (hown.lt g' rfl).1
  refine ⟨es.set j ⟨ky r, g', e.m + 1, cap'⟩, ?_, ?_, ?_, ?_⟩
  · have : ev (es.set j ⟨ky r, g', e.m + 1, cap'⟩) = (ev es).set j (qv (ky r), .slice (some ⟨g', 0, none⟩) (e.m + 1) cap') := by rw [ev, List.map_set]; rfl
    rw [this]; exact hm
  · rw [List.map_set, uq_kl, add_in hin]
    show (es.map (·.q)).set j (ky r) = uq (kl l)
    rw [hq]
    refine List.ext_getElem? fun i => ?_
    rw [List.getElem?_set]
    by_cases hi : j = i
    · subst hi
      have h1 : j < (uq (kl l)).length := by rw [← hq, List.length_map]; exact hjl
      have h2 : (uq (kl l))[j]? = some (ky r) := by rw [← hq, List.getElem?_map, hj, Option.map_some, hk]
      rw [if_pos rfl, if_pos h1, h2]
    · rw [if_neg hi]
  · intro i e' he'
    rw [List.getElem?_set] at he'
    by_cases hi : j = i
    · subst hi
      simp [hjl] at he'
      subst he'
      have h5 : w4.ownsRow base 39 6 (.slice (some ⟨g', 0, none⟩) (e.m + 1) cap') (e.m + 1) (fl (sq e.q l) ++ fl [r]) := hown.kept h4 (Or.inr (fun h => by have h6 : g' = b := Option.some.inj h; omega))
      rw [hk, ← fl_append, ← sq_same] at h5
      exact h5
    · simp [hi] at he'
      have h5 := own_kept (ho i e' he') hgr (fun h => hd i j e' e he' hj (fun h => hi h.symm) (Option.some.inj h))
      have h7 := own_lt h5
      have h6 := own_kept h5 h4 (fun h => by have h8 : e'.g = b := Option.some.inj h; omega)
      rw [sq_other l (hother i e' he' (fun h => hi h.symm))]
      exact h6
  · intro i i' e1 e2 h1 h2 hne
    rw [List.getElem?_set] at h1 h2
    have aux : ∀ (i : Nat) (e' : Ge), es[i]? = some e' → i ≠ j → g' ≠ e'.g := fun i e' he' hi h => by
      rcases hl with hl | hl
      · exact hd j i e e' hj he' (fun h => hi h.symm) (hl.trans h)
      · have := own_lt (ho i e' he'); omega
    by_cases hi : j = i
    · subst hi
      simp [hjl] at h1
      subst h1
      simp [hne] at h2
      exact aux i' e2 h2 (fun h => hne h.symm)
    · simp [hi] at h1
      by_cases hi' : j = i'
      · subst hi'
        simp [hjl] at h2
        subst h2
        exact fun h => aux i e1 h1 (fun h => hi h.symm) h.symm
      · simp [hi'] at h2
        exact hd i i' e1 e2 h1 h2 hne

/-- One more record of a key that is not there. -/
theorem gr_new (hq : es.map (·.q) = uq (kl l)) (ho : ∀ (i : Nat) (e : Ge), es[i]? = some e → w2.ownsRow base 39 6 (sv e) e.m (fl (sq e.q l))) (hd : ∀ (i i' : Nat) (e e' : Ge), es[i]? = some e → es[i']? = some e' → i ≠ i' → e.g ≠ e'.g)
    {r : Rec} (hk : ky r ∉ uq (kl l)) (hgr : w2.grownBy w3 none) (hown : w3.ownsRow base 39 6 (.slice (some ⟨g', 0, none⟩) 1 cap') 1 (fl [r])) (hl : g' = w2.heap.size)
    (hb : b < base) (h4 : w3.grownBy w4 (some b)) (hm : Mp w4 b (ev es ++ [(qv (ky r), .slice (some ⟨g', 0, none⟩) 1 cap')])) : Gr w4 base b (l ++ [r]) := by
  have hother : ∀ (i : Nat) (e' : Ge), es[i]? = some e' → e'.q ≠ ky r := fun i e' he' hqq => hk (by rw [← hq, ← hqq]; exact List.mem_map.2 ⟨e', List.mem_of_getElem? he', rfl⟩)
  have hg' : base ≤ g' := (hown.lt g' rfl).1
  have hcase : ∀ (i : Nat) (e' : Ge), (es ++ [(⟨ky r, g', 1, cap'⟩ : Ge)])[i]? = some e' → (i < es.length ∧ es[i]? = some e') ∨ (i = es.length ∧ e' = ⟨ky r, g', 1, cap'⟩) := by
    intro i e' h
    by_cases hi : i < es.length
    · rw [List.getElem?_append_left hi] at h; exact Or.inl ⟨hi, h⟩
    · rw [List.getElem?_append_right (by omega)] at h
      have h0 : i - es.length = 0 := by
        have := (List.getElem?_eq_some_iff.1 h).1
        simpa using this
      rw [h0] at h
      exact Or.inr ⟨by omega, by simpa using h.symm⟩
  refine ⟨es ++ [⟨ky r, g', 1, cap'⟩], ?_, ?_, ?_, ?_⟩
  · have : ev (es ++ [⟨ky r, g', 1, cap'⟩]) = ev es ++ [(qv (ky r), .slice (some ⟨g', 0, none⟩) 1 cap')] := by rw [ev, List.map_append]; rfl
    rw [this]; exact hm
  · rw [List.map_append, uq_kl]
    show es.map (·.q) ++ [ky r] = add (uq (kl l)) (ky r)
    rw [add_out hk, hq]
  · intro i e' he'
    rcases hcase i e' he' with ⟨_, h⟩ | ⟨_, rfl⟩
    · have h5 := own_kept (ho i e' h) hgr (by simp)
      have h7 := own_lt h5
      have h6 := own_kept h5 h4 (fun h => by have h8 : e'.g = b := Option.some.inj h; omega)
      rw [sq_other l (hother i e' h)]
      exact h6
    · have h5 : w4.ownsRow base 39 6 (.slice (some ⟨g', 0, none⟩) 1 cap') 1 (fl [r]) := hown.kept h4 (Or.inr (fun h => by have h6 : g' = b := Option.some.inj h; omega))
      have h6 : sq (ky r) (l ++ [r]) = [r] := by rw [sq_same, sq_none (fun h => hk (mem_uq.2 h)), List.nil_append]
      show w4.ownsRow base 39 6 (.slice (some ⟨g', 0, none⟩) 1 cap') 1 (fl (sq (ky r) (l ++ [r])))
      rw [h6]
      exact h5
  · intro i i' e1 e2 h1 h2 hne
    rcases hcase i e1 h1 with ⟨hi, h1⟩ | ⟨hi, rfl⟩
    · rcases hcase i' e2 h2 with ⟨_, h2⟩ | ⟨_, rfl⟩
      · exact hd i i' e1 e2 h1 h2 hne
      · have := own_lt (ho i e1 h1)
        intro h
        have h8 : e1.g = g' := h
        omega
    · rcases hcase i' e2 h2 with ⟨_, h2⟩ | ⟨hi', rfl⟩
      · have := own_lt (ho i' e2 h2)
        intro h
        have h8 : g' = e2.g := h
        omega
      · omega
end
end Go.Proofs.YtkpcanigdppegaaDoor.GrpM
