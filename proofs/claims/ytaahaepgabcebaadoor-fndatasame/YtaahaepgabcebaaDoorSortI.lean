/- What slices.SortStableFunc and SortRecords do in the program. Conditions as in the text on compareRecords. -/
import Derived.Test.YtaahaepgabcebaaDoorSortR
namespace Go.Proofs.YtaahaepgabcebaaDoor.SortI
open Go.RowKit Go.Proofs.YtaahaepgabcebaaDoor.Mem Go.Proofs.YtaahaepgabcebaaDoor.MemR Go.Proofs.YtaahaepgabcebaaDoor.Labels Go.Proofs.YtaahaepgabcebaaDoor.LessR Go.Proofs.YtaahaepgabcebaaDoor.LessMath Go.Proofs.YtaahaepgabcebaaDoor.SrtMath Go.Proofs.YtaahaepgabcebaaDoor.SortR Go.Proofs.YtaahaepgabcebaaDoor.Merge Go.Proofs.YtaahaepgabcebaaDoor.SortK Go.Proofs.YtaahaepgabcebaaDoor.InsK Go.Proofs.YtaahaepgabcebaaDoor.SymK

/-- A record whose names are not too long. -/
abbrev FRec : Type := { r : Rec // Fine r }
def fz : FRec := ⟨zr, Nat.zero_le _, Nat.zero_le _⟩
@[reducible] def inh : Inhabited FRec := ⟨fz⟩
def en (x : FRec) : List Value := rc x.1
def cf (x y : FRec) : Int := cmpr x.1 y.1
theorem cf_lt : lt cf = fun x y => lr x.1 y.1 := by
  funext x y
  exact cmpr_lt x.1 y.1
theorem cf_swo : Sort.SWO (lt cf) := by
  rw [cf_lt]
  exact swo (fun x : FRec => x.1)
/-- The records of a row. -/
def un (d : Array FRec) : List Rec := d.toList.map (·.1)
theorem un_len (d : Array FRec) : (un d).length = d.size := by simp [un]
section
attribute [local instance] inh
open Go.Sort (flatK HoldsK putRowK putCells PermIn SortedIn)
theorem un_get (d : Array FRec) (i : Nat) (h : i < d.size) : (un d)[i]'(by rw [un_len]; exact h) = (d[i]!).1 := by
  rw [getElem!_pos d i h]
  simp [un]
theorem flat_list (d : Array FRec) : (flatK en 6 d).toList = fl (un d) := by
  refine List.ext_getElem? fun t => ?_
  by_cases ht : t < d.size * 6
  · have hj : t / 6 < d.size := by omega
    have h6 : t % 6 < 6 := by omega
    have e : t = t / 6 * 6 + t % 6 := by omega
    have hl : (fl (un d))[t]? = (rc ((un d)[t / 6]'(by rw [un_len]; exact hj)))[t % 6]? := by
      conv => lhs; rw [e]
      exact fl_get (un d) (t / 6) (t % 6) (by rw [un_len]; exact hj) h6
    have hs : t < (flatK en 6 d).size := by rw [Sort.size_flatK]; exact ht
    have hg := Sort.get_flatK en 6 d t ht
    rw [hl, un_get d _ hj, Array.getElem?_toList, Array.getElem?_eq_getElem hs, ← getElem!_pos (flatK en 6 d) t hs, hg]
    have h6' : t % 6 < (en d[t / 6]!).length := h6
    show some ((en d[t / 6]!)[t % 6]!) = (en d[t / 6]!)[t % 6]?
    rw [List.getElem?_eq_getElem h6', getElem!_pos (en d[t / 6]!) (t % 6) h6']
  · rw [List.getElem?_eq_none (by rw [Array.length_toList, Sort.size_flatK]; omega), List.getElem?_eq_none (by rw [fl_len, un_len]; omega)]
theorem holds_of_bk {w : World} {g : Nat} {t : TypeId} {v : List Value} {d : Array FRec} (h : Bk w g t (fl (un d) ++ v)) : HoldsK en 6 w g 0 d := by
  intro j hj
  refine ⟨?_, by rw [Nat.zero_add]; exact h.free j⟩
  rw [Nat.zero_add, h.cell, List.getElem?_append_left (by rw [← flat_list, Array.length_toList]; exact hj), ← flat_list, Array.getElem?_toList, Array.getElem?_eq_getElem hj, getElem!_pos (flatK en 6 d) j hj]
  rfl
theorem put_list (F : Array Value) (X v : List Value) (h : X.length = F.size) : putCells id 0 F (X ++ v).toArray = (F.toList ++ v).toArray := by
  apply Array.toList_inj.1
  refine List.ext_getElem? fun t => ?_
  unfold putCells
  by_cases ht : t < F.size
  · rw [Array.toList_mapIdx]
    simp [ht, h, List.getElem?_append_left]
  · rw [Array.toList_mapIdx]
    simp [ht]
    rw [List.getElem?_append_right (by omega), List.getElem?_append_right (by rw [Array.length_toList]; omega), h, Array.length_toList]
theorem bk_of_sb {w W : World} {g : Nat} {t : TypeId} {v : List Value} {l : List Rec} {d' : Array FRec} (h : Bk w g t (fl l ++ v)) (hs : d'.size = l.length) (S : SB en 6 w g 0 d' W) : Bk W g t (fl (un d') ++ v) ∧ w.grownBy W (some g) := by
  obtain ⟨p, rfl⟩ := S
  have hlt := h.lt
  have hz : (putRowK en 6 w g 0 d').heap.size = w.heap.size := Sort.size_putRowK en 6 w g 0 d'
  refine ⟨?_, rfl, rfl, rfl, ?_, fun k hk hne => ?_⟩
  · show ((putRowK en 6 w g 0 d').heap ++ p.os)[g]? = _
    rw [Array.getElem?_append_left (by rw [hz]; exact hlt)]
    show (w.heap.modify g (Sort.onCells (putCells id 0 (flatK en 6 d'))))[g]? = _
    rw [Array.getElem?_modify, if_pos rfl, show w.heap[g]? = _ from h]
    show some (Obj.cells (putCells id 0 (flatK en 6 d') (fl l ++ v).toArray) t (0, 0)) = _
    rw [put_list _ _ _ (by rw [fl_len, Sort.size_flatK, hs]), flat_list]
  · show w.heap.size ≤ ((putRowK en 6 w g 0 d').heap ++ p.os).size
    rw [Array.size_append, hz]
    omega
  · show ((putRowK en 6 w g 0 d').heap ++ p.os)[k]? = _
    rw [Array.getElem?_append_left (by rw [hz]; exact hk)]
    show (w.heap.modify g (Sort.onCells (putCells id 0 (flatK en 6 d'))))[k]? = _
    rw [Array.getElem?_modify, if_neg (fun e => hne (by rw [e]))]
theorem srt_of {d d' : Array FRec} (h : Merged (lt cf) 0 d.size d d') : Srt (un d) (un d') := by
  obtain ⟨⟨hz, _, hp⟩, hs⟩ := h
  refine ⟨?_, ?_⟩
  · have e1 : (d'.extract 0 d.size).toList = d'.toList := by rw [← hz, Array.extract_size]
    have e2 : (d.extract 0 d.size).toList = d.toList := by rw [Array.extract_size]
    rw [e1, e2] at hp
    exact hp.map _
  · unfold Inc
    rw [List.pairwise_iff_getElem]
    intro i j hi hj hij
    rw [un_len] at hi hj
    rw [un_get d' i hi, un_get d' j hj]
    have := hs i j (Nat.zero_le _) hij (by omega)
    rw [cf_lt] at this
    exact this
/-- The list as a row. -/
def row (l : List Rec) (hf : ∀ r ∈ l, Fine r) : Array FRec := (l.attach.map (fun r => (⟨r.1, hf r.1 r.2⟩ : FRec))).toArray
theorem un_row (l : List Rec) (hf : ∀ r ∈ l, Fine r) : un (row l hf) = l := by
  unfold un row
  rw [List.map_map]
  exact List.attach_map_subtype_val l
theorem row_size (l : List Rec) (hf : ∀ r ∈ l, Fine r) : (row l hf).size = l.length := by rw [← un_len, un_row]

/-- The block g holds l in order; nothing else has been turned. -/
def Done (w : World) (g : Nat) (v : List Value) (l : List Rec) (w' : World) : Prop := ∃ L, Srt l L ∧ Bk w' g 49 (fl L ++ v) ∧ w.grownBy w' (some g)
theorem env_of {w W : World} {g : Nat} (h : Env w) (hg : g ≠ 0) (hb : w.grownBy W (some g)) : Env W := by
  have hlt := h.lt
  obtain ⟨m, hm⟩ := h
  exact ⟨m, (World.cell?_of_block (a := ⟨0, 0, none⟩) (hb.block 0 hlt (fun e => hg (Option.some.inj e).symm))).trans hm⟩
theorem cmp_prem {w : World} {g : Nat} {v : List Value} {l : List Rec} (hb : Bk w g 49 (fl l ++ v)) (he : Env w) (hg : g ≠ 0) : Cmp Tryd.prog 36 #[] en 6 cf g 0 l.length w := by
  intro W dk hs S x y
  have hW := (bk_of_sb hb hs S).2
  exact SortR.compare x.1 y.1 W (env_of he hg hW) x.2 y.2

set_option maxHeartbeats 4000000 in
theorem stableFunc (g cap : Nat) (l : List Rec) (v : List Value) (w : World) (hb : Bk w g 49 (fl l ++ v)) (he : Env w) (hg : g ≠ 0) (hl : l.length ≤ 400000000) (hf : ∀ r ∈ l, Fine r) :
    Calls Tryd.prog 35 #[.slice (some ⟨g, 0, none⟩) l.length cap, .func (.func 36) #[] #[]] w fun e w' => e = .returned (.tuple #[]) ∧ Done w g v l w' := by
  have C := cmp_prem hb he hg
  have hd := row_size l hf
  have hb' : Bk w g 49 (fl (un (row l hf)) ++ v) := by rw [un_row]; exact hb
  have hH := holds_of_bk hb'
  have R : Row en 6 w g 0 (row l hf) := ⟨fun _ => rfl, fun x u hu => by simp [en, rc] at hu; rcases hu with rfl | rfl | rfl | rfl | rfl | rfl <;> rfl, hH, hb.lt⟩
  rw [← hd] at C
  have hc := StabK.stable facts en cf 36 #[] g 0 cap (row l hf) w (enters_of Tryd.func36 (by kernel_rfl) rfl) C cf_swo R (by omega) (row l hf) w rfl (SB.start hH)
  have fin : ∀ w', Mrg en 6 cf w g 0 0 (row l hf).size (row l hf) w' → Done w g v l w' := fun w' ⟨d', hM, hS⟩ => by
    have h1 := srt_of hM
    rw [un_row] at h1
    obtain ⟨h2, h3⟩ := bk_of_sb hb (hM.1.1.trans hd) hS
    exact ⟨un d', h1, h2, h3⟩
  rw [hd] at hc fin
  have HC := Lib.hid (show Calls Tryd.prog 42 #[.slice (some ⟨g, 0, none⟩) l.length cap, .int .i64 l.length, .func (.func 36) #[] #[]] w fun e w' => e = .returned (.tuple #[]) ∧ Done w g v l w' from hc.mono fun e w' h => ⟨h.1, fin w' h.2⟩)
  clear hc C hd hb' hH R hb he hg fin hf
  generalize l.length = n at *
  go_enter Tryd.func35, Tryd.ntmps35
  go_wp2_with fail
  refine HC.out.mono ?_
  rintro e w1 ⟨rfl, hM⟩
  have M := Lib.hid hM
  clear hM
  go_wp2
  go_end0
  exact ⟨rfl, M.out⟩
end
end Go.Proofs.YtaahaepgabcebaaDoor.SortI
