/- What dataIn, maps.Equal and SameData do in the program: a set of the records without their times to live; whether two such sets are equal. Condition: fewer than 400000001 records. -/
import Derived.Test.YtaahaepgabcebaaMapN
import Derived.Test.YtaahaepgabcebaaKeyT
import Derived.Test.YtaahaepgabcebaaDataM
import Derived.Test.YtaahaepgabcebaaWt
import Derived.Deep.DeepCutAuto
namespace Go.Proofs.Ytaahaepgabcebaa.SameDI
open Go.RowKit Go.Proofs.Ytaahaepgabcebaa.Mem Go.Proofs.Ytaahaepgabcebaa.MemR Go.Proofs.Ytaahaepgabcebaa.SetMath Go.Proofs.Ytaahaepgabcebaa.MapK Go.Proofs.Ytaahaepgabcebaa.MapN Go.Proofs.Ytaahaepgabcebaa.KeyT Go.Proofs.Ytaahaepgabcebaa.DataM

/-- The record as a value. -/
def rv (x : Rec) : Value := .agg #[.string x.name, .int .i64 x.ty, .int .i64 x.ttl, .int .i64 x.n, .string x.host, .string x.text]
/-- The entries of a set of records. -/
def er (l : List Rec) : List (Value × Value) := l.map (fun x => (rv x, .bool true))
theorem er_key (l : List Rec) : ∀ p ∈ er l, KR p.1 := by
  intro p hp
  obtain ⟨x, _, rfl⟩ := List.mem_map.1 hp
  exact ⟨x, rfl⟩
theorem er_out {l : List Rec} {x : Rec} (h : x ∉ l) : ∀ p ∈ er l, p.1 ≠ rv x := by
  intro p hp e
  obtain ⟨y, hy, rfl⟩ := List.mem_map.1 hp
  exact h (rv_inj (show rv y = rv x from e) ▸ hy)
theorem er_in {l : List Rec} {x : Rec} (h : x ∈ l) : (rv x, Value.bool true) ∈ er l := List.mem_map.2 ⟨x, h, rfl⟩
theorem er_nodup : ∀ {l : List Rec}, l.Nodup → ((er l).map Prod.fst).Nodup
  | [], _ => by simp [er]
  | x :: l, h => by
    obtain ⟨h1, h2⟩ := List.nodup_cons.1 h
    show (rv x :: (er l).map Prod.fst).Nodup
    refine List.nodup_cons.2 ⟨fun hm => ?_, er_nodup h2⟩
    obtain ⟨p, hp, he⟩ := List.mem_map.1 hm
    exact er_out h1 p hp he
theorem er_snoc (l : List Rec) (x : Rec) : er (l ++ [x]) = er l ++ [(rv x, .bool true)] := by simp [er]
theorem er_len (l : List Rec) : (er l).length = l.length := by simp [er]
theorem zero (w : World) : (zeroValue 4).run Try.prog w = .ok (.bool false) w := by kernel_rfl
theorem set_same {α : Type} {l : List α} {j : Nat} {x : α} (h : l[j]? = some x) : l.set j x = l := by
  refine List.ext_getElem? fun i => ?_
  rw [List.getElem?_set]
  by_cases hi : j = i
  · subst hi
    rw [if_pos rfl, if_pos (List.getElem?_eq_some_iff.1 h).1, h]
  · rw [if_neg hi]
/-- A store of true at a key of the set, new or not. -/
theorem put {P : Program} {w : World} {b : Nat} {l : List Rec} {t k e : TypeId} (h : Mp w b (er l)) (K : MapK.KeyT P k KR) (ht : P.underlying t = some (.map k e)) (hn : l.Nodup) (x : Rec) :
    ∃ w', (Instr.mapUpdate t (.map (some b)) (rv x) (.bool true)).run P w = .ok () w' ∧ Mp w' b (er (add l x)) ∧ w.grownBy w' (some b) ∧ w'.heap.size = w.heap.size := by
  by_cases hx : x ∈ l
  · obtain ⟨j, hj⟩ := List.getElem?_of_mem (er_in hx)
    have := h.old K ht (er_key l) (er_nodup hn) (.bool true) (⟨x, rfl⟩ : KR (rv x)) hj
    rw [set_same hj] at this
    rw [add_in hx]
    exact this
  · have := h.new K ht (er_key l) (.bool true) (⟨x, rfl⟩ : KR (rv x)) (er_out hx)
    rw [add_out hx, er_snoc]
    exact this

/-- The call returned a map that is the set of the records of l without their times to live, and turned nothing that was there. -/
def GivesD (w : World) (l : List Rec) (e : Ending) (w' : World) : Prop := ∃ b, e = .returned (.map (some b)) ∧ w.heap.size ≤ b ∧ Mp w' b (er (uq (zs l))) ∧ Below w.heap.size w w'

set_option maxRecDepth 100000 in
set_option maxHeartbeats 4000000 in
theorem dataIn (b0 o0 n c : Nat) (l : List Rec) (w : World) (hs : Sr w w.heap.size (some ⟨b0, o0, none⟩) n l) (hn : n ≤ 400000000) : Calls Try.prog 65 #[.slice (some ⟨b0, o0, none⟩) n c] w (GivesD w l) := by
  have hmm := @run_makeMap Try.prog
  have SE : Hid (∀ W : World, Below w.heap.size w W → Calls Try.prog 21 #[.slice (some ⟨b0, o0, none⟩) n c, .int .i64 0] W (Wt.GivesL W (l.map (wr 0)))) :=
    fun W hW => Wt.impl 0 b0 o0 n c l W ((hs.below hW).wider hW.size) hn
  have P0 := Lib.hid (Mp.made w)
  have L0 := Lib.hid ((Below.refl w.heap.size w).alloc (Nat.le_refl _) (.map #[] 0))
  have HZ : Hid (l.map (wr 0) = zs l) := show _ = _ from rfl
  have HLn : Hid ((zs l).length ≤ 400000000) := show _ ≤ _ by have h2 := hs.1; rw [zs_len]; omega
  rw [HZ.out] at SE
  clear hs hn HZ
  generalize hzl : zs l = L at *
  have HLZ := Lib.hid hzl
  clear hzl
  go_enter Try.func65, Try.ntmps65
  go_wp2_with fail
  refine (SE.out _ L0.out).mono ?_
  rintro e w1 ⟨gs, ms, cs, rs, rfl, hms, hcs, hgs, hbs, hls⟩
  have hms0 : ms ≤ 400000000 := by have := HLn.out; omega
  have HM := Lib.hid hms
  have B1 := Lib.hid hbs
  have GS : Hid (w.heap.size + 1 ≤ gs) := show _ ≤ _ by have h2 : (w.alloc (.map #[] 0)).heap.size ≤ gs := hgs; simpa using h2
  have P1 := Lib.hid (P0.out.below hls P0.out.lt)
  have L1 := Lib.hid (L0.out.trans (hls.mono L0.out.size))
  clear hms hcs hgs hbs hls SE P0 L0
  go_wp2
  go_loopw [10] (fun i wr => ∃ k : Nat, k ≤ ms ∧ i = .int .i64 k ∧ Hid (Mp wr w.heap.size (er (uq (L.take k)))) ∧ Hid (Bk wr gs 37 (fl L ++ rs)) ∧ Hid (Below w.heap.size w wr)) (fun i _ => ms - (intOf i).toNat)
  case atStart => exact ⟨0, Nat.zero_le _, rfl, P1.out, B1.out, L1.out⟩
  case round =>
    clear P1 L1 B1
    obtain ⟨k, hk, rfl, HP, HB, HL⟩ := hrel
    by_cases hlt : k < ms
    · have hkl : k < L.length := by rw [HM.out]; exact hlt
      obtain ⟨e0, e1, e2, e3, e4, e5⟩ := bk_ce HB.out k hkl
      have HU := Lib.hid (uq_take L k hkl)
      generalize L[k] = x at *
      have P2 := Lib.hid (HP.out.alloc (.cells #[.string x.name, .int .i64 x.ty, .int .i64 x.ttl, .int .i64 x.n, .string x.host, .string x.text] 37))
      have ST := Lib.hid (put P2.out KeyT.recs Try.underlying82 (nodup_uq _) x)
      have B2 := Lib.hid (HB.out.alloc (.cells #[.string x.name, .int .i64 x.ty, .int .i64 x.ttl, .int .i64 x.n, .string x.host, .string x.text] 37))
      have L2 := Lib.hid (HL.out.alloc HL.out.size (.cells #[.string x.name, .int .i64 x.ty, .int .i64 x.ttl, .int .i64 x.n, .string x.host, .string x.text] 37))
      go_wp2_with (at_mapUpdate; refine wp_store rfl _ _ _ rfl (.agg #[.string x.name, .int .i64 x.ty, .int .i64 x.ttl, .int .i64 x.n, .string x.host, .string x.text]) (.bool true) rfl rfl rfl (er (add (uq (L.take k)) x)) ST.out ?_)
      intro w3 m3 g3 s3
      have P3 : Hid (Mp w3 w.heap.size (er (uq (L.take (k + 1))))) := by rw [HU.out]; exact m3
      have B3 := Lib.hid (B2.out.grown g3 (fun h => by have h8 : gs = w.heap.size := Option.some.inj h; have := GS.out; omega))
      have L3 := Lib.hid (L2.out.grown g3 L2.out.size (fun j hj => by cases hj; exact Nat.le_refl _))
      clear m3 g3 s3 ST P2 B2 L2
      go_wp2
      go_roundw
      case rel => exact ⟨k + 1, by omega, by go_num, P3.out, B3.out, L3.out⟩
      case measure => simp [intOf]; omega
    · obtain rfl : ms = k := by omega
      have HN := Lib.hid (take_all HM.out)
      go_wp2
      go_ret
      exact ⟨w.heap.size, rfl, Nat.le_refl _, by have := HP.out; rw [HN.out, ← HLZ.out] at this; exact this, HL.out⟩

/-- Whether two sets are the same. -/
noncomputable def eqb (U V : List Rec) : Bool := @decide (U.length = V.length ∧ ∀ x ∈ U, x ∈ V) (Classical.propDecidable _)
theorem eqb_true {U V : List Rec} (h : U.length = V.length ∧ ∀ x ∈ U, x ∈ V) : eqb U V = true := @decide_eq_true _ (Classical.propDecidable _) h
theorem eqb_false {U V : List Rec} (h : ¬ (U.length = V.length ∧ ∀ x ∈ U, x ∈ V)) : eqb U V = false := @decide_eq_false _ (Classical.propDecidable _) h
theorem eqb_sd (l m : List Rec) : eqb (uq (zs l)) (uq (zs m)) = sd l m := by
  by_cases h1 : (uq (zs l)).length = (uq (zs m)).length
  · by_cases h2 : ∀ x ∈ uq (zs l), x ∈ uq (zs m)
    · rw [eqb_true ⟨h1, h2⟩, sd_all h1 h2]
    · rw [eqb_false (fun h => h2 h.2)]
      obtain ⟨x, hx⟩ := Classical.not_forall.1 h2
      obtain ⟨h3, h4⟩ := Classical.not_imp.1 hx
      rw [sd_out h3 h4]
  · rw [eqb_false (fun h => h1 h.1), sd_len h1]

set_option maxRecDepth 100000 in
set_option maxHeartbeats 4000000 in
theorem equal (b1 b2 : Nat) (U V : List Rec) (w : World) (h1 : Mp w b1 (er U)) (h2 : Mp w b2 (er V)) (hV : V.Nodup) :
    Calls Try.prog 64 #[.map (some b1), .map (some b2)] w fun e w' => e = .returned (.bool (eqb U V)) ∧ Below w.heap.size w w' := by
  have M1 := Lib.hid h1
  have M2 := Lib.hid h2
  have HV := Lib.hid hV
  have KT := KeyT.recs
  clear h1 h2 hV
  have ER := Lib.hid (er_len U)
  have EV := Lib.hid (er_len V)
  go_enter Try.func64, Try.ntmps64
  by_cases hlen : U.length = V.length
  · have q : (((er U).length : Nat) : Int) = ((er V).length : Nat) := by rw [ER.out, EV.out, hlen]
    have q1 : ((((er U).length : Nat) : Int) != ((er V).length : Nat)) = false := by rw [q]; simp
    have HLen := Lib.hid hlen
    clear hlen q
    obtain ⟨es, clock, hb, hl, hborn, hnd⟩ := M1.out
    have hrg := fun W (hW : W.heap[b1]? = some (.map es clock)) => run_range_map (P := Try.prog) W 82 _ _ b1 es clock Try.underlying82 hW
    have hr0 := hrg w hb
    have HE : Hid (∀ e ∈ es.toList, ∃ x ∈ U, e.key = rv x ∧ e.val = .bool true) := fun e he => by
      have hm : (e.key, e.val) ∈ er U := hl ▸ List.mem_map.2 ⟨e, he, rfl⟩
      obtain ⟨x, hx, hq⟩ := List.mem_map.1 hm
      exact ⟨x, hx, (congrArg Prod.fst hq).symm, (congrArg Prod.snd hq).symm⟩
    have HU : Hid (∀ x ∈ U, ∃ e ∈ es.toList, e.key = rv x) := fun x hx => by
      have hm := er_in hx
      rw [← hl] at hm
      obtain ⟨e, he, hq⟩ := List.mem_map.1 hm
      exact ⟨e, he, congrArg Prod.fst hq⟩
    have HB := Lib.hid hborn
    have HN := Lib.hid hnd
    have I0 := Lib.hid (It.made hb)
    have P0 := Lib.hid (M2.out.alloc (.mapIter (some b1) clock #[] clock))
    have L0 := Lib.hid ((Below.refl w.heap.size w).alloc (Nat.le_refl _) (.mapIter (some b1) clock #[] clock))
    have N1 := Lib.hid M1.out.lt
    have N2 := Lib.hid M2.out.lt
    clear hborn hnd hl hrg
    have ln1 : Sem.run Try.prog (Builtin.len_ #[82] 3 #[.map (some b1)]) w = .ok (.int .i64 ((er U).length : Nat)) w := Mp.len M1.out Try.underlying82 3
    have ln2 : Sem.run Try.prog (Builtin.len_ #[82] 3 #[.map (some b2)]) w = .ok (.int .i64 ((er V).length : Nat)) w := Mp.len M2.out Try.underlying82 3
    go_wp2
    clear hr0 hb q1 M1 M2 ln1 ln2
    generalize w.alloc (.mapIter (some b1) clock #[] clock) = w0 at *
    go_loopw [16] (fun _ wr => ∃ seen, Hid (It wr w.heap.size b1 es clock seen) ∧ Hid (∀ e ∈ es.toList, e.born ∈ seen → ∃ x ∈ V, e.key = rv x) ∧ Hid (Mp wr b2 (er V)) ∧ Hid (Below w.heap.size w wr)) (fun _ wr => lft wr w.heap.size b1)
    case atStart => exact ⟨#[], I0.out, fun e _ h => by simp at h, P0.out, L0.out⟩
    case round =>
      clear I0 P0 L0
      obtain ⟨seen, HI, HS, HP, HL⟩ := hrel
      go_wp2_with (guard_target =~ wpList _ _ _ ({ dst := _, op := Op.next _ _, type := _, pos := _, after := _, guard := _ } :: _) _ _; refine wp_next rfl _ rfl rfl HI.out HB.out ?_ ?_)
      · intro hz
        have HF : Hid (eqb U V = true) := eqb_true ⟨HLen.out, fun x hx => by
          obtain ⟨e, he, hk⟩ := HU.out x hx
          obtain ⟨y, hy, hk'⟩ := HS.out e he (left_none (by rw [hz]; rfl) e he)
          have : x = y := rv_inj (show rv x = rv y from hk ▸ hk')
          exact this ▸ hy⟩
        clear hz
        go_wp2
        go_ret
        exact ⟨by rw [HF.out]; rfl, HL.out⟩
      · intro e he0 w1 it1 g1 s1
        have he : e ∈ (leftOf es seen).toList := by simpa using he0
        clear he0
        obtain ⟨x, hxU, hk, hv⟩ := HE.out e (MapN.mem_left.1 he).1
        have HME := Lib.hid (MapN.mem_left.1 he).1
        have HLS := Lib.hid (left_less he)
        have I1 := Lib.hid it1
        have P1 := Lib.hid (HP.out.grown g1 (fun h => by have h8 : b2 = w.heap.size := Option.some.inj h; have := N2.out; omega))
        have L1 := Lib.hid (HL.out.grown g1 HL.out.size (fun j hj => by cases hj; exact Nat.le_refl _))
        have HXU := Lib.hid hxU
        obtain ⟨ek, ev, eb⟩ := e
        replace hk : ek = .agg #[.string x.name, .int .i64 x.ty, .int .i64 x.ttl, .int .i64 x.n, .string x.host, .string x.text] := hk
        replace hv : ev = .bool true := hv
        subst hk hv
        clear he it1 g1 s1 hxU
        have I2 := Lib.hid (I1.out.alloc (.cells #[.string x.name, .int .i64 x.ty, .int .i64 x.ttl, .int .i64 x.n, .string x.host, .string x.text] 37))
        have P2 := Lib.hid (P1.out.alloc (.cells #[.string x.name, .int .i64 x.ty, .int .i64 x.ttl, .int .i64 x.n, .string x.host, .string x.text] 37))
        have L2 := Lib.hid (L1.out.alloc L1.out.size (.cells #[.string x.name, .int .i64 x.ty, .int .i64 x.ttl, .int .i64 x.n, .string x.host, .string x.text] 37))
        by_cases hin : x ∈ V
        · have HI2 := Lib.hid hin
          have LK : Hid ((Instr.lookup 82 (.map (some b2)) (.agg #[.string x.name, .int .i64 x.ty, .int .i64 x.ttl, .int .i64 x.n, .string x.host, .string x.text]) true).run Try.prog (w1.alloc (.cells #[.string x.name, .int .i64 x.ty, .int .i64 x.ttl, .int .i64 x.n, .string x.host, .string x.text] 37)) = .ok (.tuple #[.bool true, .bool true]) (w1.alloc (.cells #[.string x.name, .int .i64 x.ty, .int .i64 x.ttl, .int .i64 x.n, .string x.host, .string x.text] 37))) := P2.out.in KT Try.underlying82 (er_key V) (er_nodup HV.out) ⟨x, rfl⟩ (er_in hin) true
          clear hin
          go_wp2_with (first | (guard_target =~ wpList _ _ _ ({ dst := _, op := Op.entry _, type := _, pos := _, after := _, guard := _ } :: _) _ _; refine wp_pair rfl _ rfl rfl _ I1.out HME.out HN.out ?_) | (at_lookup; refine wp_look rfl _ _ true rfl (.agg #[.string x.name, .int .i64 x.ty, .int .i64 x.ttl, .int .i64 x.n, .string x.host, .string x.text]) (.tuple #[.bool true, .bool true]) rfl rfl LK.out ?_))
          have HS2 : Hid (∀ e ∈ es.toList, e.born ∈ seen.push eb → ∃ y ∈ V, e.key = rv y) := fun e he hb => by
            rcases Array.mem_push.1 hb with hb | hb
            · exact HS.out e he hb
            · have : e = ⟨.agg #[.string x.name, .int .i64 x.ty, .int .i64 x.ttl, .int .i64 x.n, .string x.host, .string x.text], .bool true, eb⟩ := by
                obtain ⟨i, hi⟩ := List.getElem?_of_mem he
                obtain ⟨j, hj⟩ := List.getElem?_of_mem HME.out
                have h1 : (es.toList.map (·.born))[i]? = some eb := by rw [List.getElem?_map, hi, Option.map_some, hb]
                have h2 : (es.toList.map (·.born))[j]? = some eb := by rw [List.getElem?_map, hj]; rfl
                have hij := nodup_inj HN.out h1 h2
                subst hij
                rw [hi] at hj
                exact Option.some.inj hj
              exact ⟨x, HI2.out, by rw [this]; rfl⟩
          go_roundw
          case rel => exact ⟨seen.push eb, I2.out, HS2.out, P2.out, L2.out⟩
          case measure =>
            rw [I2.out.left, HI.out.left]
            exact HLS.out
        · have HF : Hid (eqb U V = false) := eqb_false (fun h => hin (h.2 x HXU.out))
          have LK : Hid ((Instr.lookup 82 (.map (some b2)) (.agg #[.string x.name, .int .i64 x.ty, .int .i64 x.ttl, .int .i64 x.n, .string x.host, .string x.text]) true).run Try.prog (w1.alloc (.cells #[.string x.name, .int .i64 x.ty, .int .i64 x.ttl, .int .i64 x.n, .string x.host, .string x.text] 37)) = .ok (.tuple #[.bool false, .bool false]) (w1.alloc (.cells #[.string x.name, .int .i64 x.ty, .int .i64 x.ttl, .int .i64 x.n, .string x.host, .string x.text] 37))) := P2.out.out KT Try.underlying82 (zero _) (er_key V) ⟨x, rfl⟩ (er_out hin) true
          clear hin
          go_wp2_with (first | (guard_target =~ wpList _ _ _ ({ dst := _, op := Op.entry _, type := _, pos := _, after := _, guard := _ } :: _) _ _; refine wp_pair rfl _ rfl rfl _ I1.out HME.out HN.out ?_) | (at_lookup; refine wp_look rfl _ _ true rfl (.agg #[.string x.name, .int .i64 x.ty, .int .i64 x.ttl, .int .i64 x.n, .string x.host, .string x.text]) (.tuple #[.bool false, .bool false]) rfl rfl LK.out ?_))
          go_ret
          exact ⟨by rw [HF.out]; rfl, L2.out⟩
  · have q1 : ((((er U).length : Nat) : Int) != ((er V).length : Nat)) = true := by rw [ER.out, EV.out, bne_iff_ne]; omega
    have HF : Hid (eqb U V = false) := eqb_false (fun h => hlen h.1)
    clear hlen
    have ln1 : Sem.run Try.prog (Builtin.len_ #[82] 3 #[.map (some b1)]) w = .ok (.int .i64 ((er U).length : Nat)) w := Mp.len M1.out Try.underlying82 3
    have ln2 : Sem.run Try.prog (Builtin.len_ #[82] 3 #[.map (some b2)]) w = .ok (.int .i64 ((er V).length : Nat)) w := Mp.len M2.out Try.underlying82 3
    go_wp2
    go_ret
    exact ⟨by rw [HF.out]; rfl, Below.refl _ _⟩

set_option maxHeartbeats 4000000 in
theorem impl (b0 o0 n c b1 o1 n' c' : Nat) (l m : List Rec) (w : World) (hs : Sr w w.heap.size (some ⟨b0, o0, none⟩) n l) (hs' : Sr w w.heap.size (some ⟨b1, o1, none⟩) n' m) (hn : n ≤ 400000000) (hn' : n' ≤ 400000000) :
    Calls Try.prog 40 #[.slice (some ⟨b0, o0, none⟩) n c, .slice (some ⟨b1, o1, none⟩) n' c'] w fun e w' => e = .returned (.bool (sd l m)) ∧ Below w.heap.size w w' := by
  have D1 := Lib.hid (dataIn b0 o0 n c l w hs hn)
  have D2 : Hid (∀ W : World, Below w.heap.size w W → Calls Try.prog 65 #[.slice (some ⟨b1, o1, none⟩) n' c'] W (GivesD W m)) := fun W hW => dataIn b1 o1 n' c' m W ((hs'.below hW).wider hW.size) hn'
  have HE := Lib.hid (eqb_sd l m)
  clear hs hs' hn hn'
  go_enter Try.func40, Try.ntmps40
  go_wp2_with fail
  refine D1.out.mono ?_
  rintro e w1 ⟨g1, rfl, hg1, hm1, hl1⟩
  have M1 := Lib.hid hm1
  have L1 := Lib.hid hl1
  clear hg1 hm1 hl1
  go_wp2_with fail
  refine (D2.out w1 L1.out).mono ?_
  rintro e w2 ⟨g2, rfl, hg2, hm2, hl2⟩
  have M2 := Lib.hid hm2
  have N1 := Lib.hid (M1.out.below hl2 M1.out.lt)
  have L2 := Lib.hid (L1.out.trans (hl2.mono L1.out.size))
  clear hg2 hm2 hl2 M1
  go_wp2_with fail
  refine (equal g1 g2 (uq (zs l)) (uq (zs m)) w2 N1.out M2.out (nodup_uq _)).mono ?_
  rintro e w3 ⟨rfl, hl3⟩
  have L3 := Lib.hid (L2.out.trans (hl3.mono L2.out.size))
  clear hl3
  rw [HE.out]
  go_wp2
  go_ret
  exact ⟨rfl, L3.out⟩
end Go.Proofs.Ytaahaepgabcebaa.SameDI
