/- A row of elements of k cells that a sort rearranges in place, while a comparison reads and may make memory of its own: what each step leaves. Over whatever program bears the texts of the library's stable sort of records. -/
import Derived.Test.YtaahaepgabcebaaDoorMerge
import Derived.Test.YtaahaepgabcebaaDoorMem
import Derived.Lib.QuietBelow
import Derived.Shelf.SlSortFuncK.RowK2
import Derived.Shelf.SlicesQ.Load
import Derived.Laws.IdiomCopy
namespace Go.Proofs.YtaahaepgabcebaaDoor.SortK
open Go.RowKit Go.Sort

theorem bnd (n k x : Nat) (hx : x < n) : x * k + k ≤ n * k := by
  have := Nat.mul_le_mul_right k (show x + 1 ≤ n from hx)
  rwa [Nat.add_mul, Nat.one_mul] at this

section
variable {α : Type} [Inhabited α] {enc : α → List Value} {k : Nat} {w0 W W' : World} {blk off : Nat} {dk d0 : Array α}

/-- W came of w0: the row at blk holds dk, other blocks were laid, the tape was asked however often. -/
def SB (enc : α → List Value) (k : Nat) (w0 : World) (blk off : Nat) (dk : Array α) (W : World) : Prop := ∃ p : Regrown, W = grow (redrawn (putRowK enc k w0 blk off dk) p.d) p.os
/-- What is known of the row, once. -/
structure Row (enc : α → List Value) (k : Nat) (w0 : World) (blk off : Nat) (d0 : Array α) : Prop where
  hk : ∀ x, (enc x).length = k
  h1 : ∀ x, ∀ v ∈ enc x, v.oneCell' = true
  hH : HoldsK enc k w0 blk off d0
  hblk : blk < w0.heap.size

theorem SB.start (h : HoldsK enc k w0 blk off dk) : SB enc k w0 blk off dk w0 := ⟨⟨w0.drawn, #[]⟩, by rw [putRowK_self enc k w0 blk off dk h, grow_empty]; rfl⟩
theorem SB.below (h : SB enc k w0 blk off dk W) (hb : Below W.heap.size W W') : SB enc k w0 blk off dk W' := by
  obtain ⟨p, rfl⟩ := h
  obtain ⟨q, rfl⟩ := regrown_of_below hb
  refine ⟨⟨q.d, p.os ++ q.os⟩, ?_⟩
  show grow (grow (redrawn (putRowK enc k w0 blk off dk) q.d) p.os) q.os = _
  rw [grow_grow]
theorem SB.drew (h : SB enc k w0 blk off dk W) : SB enc k w0 blk off dk W.drew := h.below ((Below.refl _ _).drew)
theorem SB.inClass (h : SB enc k w0 blk off dk W) (d : Nat) (os : Array Obj) : SB enc k w0 blk off dk (grow (redrawn W d) os) := h.below (below_regrown W d os)
theorem SB.holds (h : SB enc k w0 blk off dk W) (R : Row enc k w0 blk off d0) (hs : dk.size = d0.size) : HoldsK enc k W blk off dk := by
  obtain ⟨p, rfl⟩ := h
  refine holdsK_grow enc k _ p.os blk off dk ?_ (show HoldsK enc k (redrawn (putRowK enc k w0 blk off dk) p.d) blk off dk from holdsK_putRowK enc k w0 blk off d0 dk R.hH hs)
  show blk < (putRowK enc k w0 blk off dk).heap.size
  rw [size_putRowK]
  exact R.hblk
theorem SB.le (h : SB enc k w0 blk off dk W) : w0.heap.size ≤ W.heap.size := by
  obtain ⟨p, rfl⟩ := h
  rw [size_grow]
  show w0.heap.size ≤ (putRowK enc k w0 blk off dk).heap.size + _
  rw [size_putRowK]
  omega
theorem cells_at (h : HoldsK enc k W blk off dk) (hk : ∀ x, (enc x).length = k) {i : Nat} (hi : i < dk.size) : ∀ c v, (enc dk[i]!)[c]? = some v → W.cell? ((⟨blk, off + i * k, none⟩ : Addr).add c) = some v := fun c v hv => by
  obtain ⟨hc, rfl⟩ := List.getElem?_eq_some_iff.1 hv
  rw [Addr.add_lit, (h.cell hi (by rw [← hk dk[i]!]; exact hc)).1, getElem!_pos (enc dk[i]!) c hc]
/-- A load of an element. -/
theorem SB.load (h : SB enc k w0 blk off dk W) (R : Row enc k w0 blk off d0) (hs : dk.size = d0.size) (P : Program) (i : Nat) (hi : i < dk.size) :
    Sem.run P (loadCellsFrom ⟨blk, off + i * k, none⟩ 0 k #[]) W = .ok (enc dk[i]!).toArray W :=
  run_loadCellsFrom_list P _ _ _ k (R.hk _) (cells_at (h.holds R hs) R.hk hi)
theorem put_run (P : Program) {F : Array Value} (h : Holds id W blk off F) (s : Nat) (vs : List Value) (hs : s + vs.length ≤ F.size) (h1 : ∀ v ∈ vs, v.oneCell' = true) :
    Sem.run P (storeCells ⟨blk, off + s, none⟩ vs 0) W = .ok () (W.setCells blk (off + s) vs) := by
  have := run_storeCells_cells (P := P) blk (off + s) vs 0 W (fun c hc => by rw [Nat.add_zero, Nat.add_assoc, (h (s + c) (by omega)).1]; rfl) (fun c hc => by rw [Nat.add_zero, Nat.add_assoc]; exact (h (s + c) (by omega)).2) h1
  rwa [Nat.add_zero] at this
theorem put_holds {F : Array Value} (h : Holds id W blk off F) (s : Nat) (vs : List Value) (hs : s + vs.length ≤ F.size) : Holds id (W.setCells blk (off + s) vs) blk off (setMany F s vs) := by
  have e : W.setCells blk (off + s) vs = putRow id W blk off (setMany F s vs) := by
    conv => lhs; rw [← putRow_self id W blk off F h]
    exact setCells_putRow _ _ _ _ _ _ hs
  rw [e]
  exact holds_putRow id W blk off F _ h (by rw [size_setMany])
/-- The first store of an exchange. -/
theorem SB.st1 (h : SB enc k w0 blk off dk W) (R : Row enc k w0 blk off d0) (hs : dk.size = d0.size) (P : Program) (i : Nat) (hi : i < dk.size) (y : α) :
    Sem.run P (storeCells ⟨blk, off + i * k, none⟩ (enc y) 0) W = .ok () (W.setCells blk (off + i * k) (enc y)) :=
  put_run P (h.holds R hs) (i * k) _ (by rw [R.hk, size_flatK]; exact bnd dk.size k i hi) (R.h1 _)
/-- The second one. -/
theorem SB.st2 (h : SB enc k w0 blk off dk W) (R : Row enc k w0 blk off d0) (hs : dk.size = d0.size) (P : Program) (i j : Nat) (hi : i < dk.size) (hj : j < dk.size) (y x : α) :
    Sem.run P (storeCells ⟨blk, off + j * k, none⟩ (enc x) 0) (W.setCells blk (off + i * k) (enc y)) = .ok () ((W.setCells blk (off + i * k) (enc y)).setCells blk (off + j * k) (enc x)) :=
  put_run P (put_holds (h.holds R hs) (i * k) _ (by rw [R.hk, size_flatK]; exact bnd dk.size k i hi)) (j * k) _ (by rw [R.hk, size_setMany, size_flatK]; exact bnd dk.size k j hj) (R.h1 _)
theorem sets_redrawn (b : Nat) : ∀ (vs : List Value) (o d : Nat) (w : World), (redrawn w d).setCells b o vs = redrawn (w.setCells b o vs) d
  | [], _, _, _ => rfl
  | v :: r, o, d, w => by rw [World.setCells, World.setCells, ← sets_redrawn b r (o + 1) d]; rfl
/-- Both: the row with the two elements exchanged. -/
theorem SB.swap (h : SB enc k w0 blk off dk W) (R : Row enc k w0 blk off d0) (i j : Nat) (hi : i < dk.size) (hj : j < dk.size) :
    SB enc k w0 blk off (swp dk i j) ((W.setCells blk (off + i * k) (enc dk[j]!)).setCells blk (off + j * k) (enc dk[i]!)) := by
  obtain ⟨p, rfl⟩ := h
  have hb : blk < (redrawn (putRowK enc k w0 blk off dk) p.d).heap.size := by show blk < (putRowK enc k w0 blk off dk).heap.size; rw [size_putRowK]; exact R.hblk
  refine ⟨p, ?_⟩
  rw [setCells_grow p.os blk _ _ _ hb, setCells_grow p.os blk _ _ _ (by rw [size_setCells]; exact hb), sets_redrawn, sets_redrawn, putRowK_swp enc k R.hk w0 blk off dk i j hi hj]
end

/-- What the walks ask of the program: the types that the texts name, and the texts. -/
structure Facts (P : Program) (k : Nat) : Prop where
  mixed : P.follows .mixedOrders = true
  t0 : P.underlying 0 = some (.tuple #[])
  a0 : ∀ w, (isAgg 0).run P w = .ok false w
  z0 : ∀ w, (Go.sizeOf 0).run P w = .ok 1 w
  v0 : ∀ w, (zeroValue 0).run P w = .ok (.tuple #[]) w
  t3 : P.underlying 3 = some (.int .i64)
  a3 : ∀ w, (isAgg 3).run P w = .ok false w
  z3 : ∀ w, (Go.sizeOf 3).run P w = .ok 1 w
  v3 : ∀ w, (zeroValue 3).run P w = .ok (.int .i64 0) w
  t4 : P.underlying 4 = some .bool
  a4 : ∀ w, (isAgg 4).run P w = .ok false w
  z4 : ∀ w, (Go.sizeOf 4).run P w = .ok 1 w
  v4 : ∀ w, (zeroValue 4).run P w = .ok (.bool false) w
  tS : P.underlying 24 = some (.slice 49)
  aS : ∀ w, (isAgg 24).run P w = .ok false w
  zS : ∀ w, (Go.sizeOf 24).run P w = .ok 1 w
  vS : ∀ w, (zeroValue 24).run P w = .ok (.slice none 0 0) w
  tF : P.underlying 58 = some (.func #[49, 49] #[3] false)
  aF : ∀ w, (isAgg 58).run P w = .ok false w
  zF : ∀ w, (Go.sizeOf 58).run P w = .ok 1 w
  vF : ∀ w, (zeroValue 58).run P w = .ok .nilFunc w
  tU : P.underlying 75 = some (.int .u64)
  aU : ∀ w, (isAgg 75).run P w = .ok false w
  zU : ∀ w, (Go.sizeOf 75).run P w = .ok 1 w
  vU : ∀ w, (zeroValue 75).run P w = .ok (.int .u64 0) w
  aE : ∀ w, (isAgg 49).run P w = .ok true w
  zE : ∀ w, (Go.sizeOf 49).run P w = .ok k w
  fIns : P.funcs[49]? = some Tryd.f49
  fSym : P.funcs[50]? = some Tryd.f50
  fRot : P.funcs[53]? = some Tryd.f53
  fSwp : P.funcs[55]? = some Tryd.f55
  fSta : P.funcs[42]? = some Tryd.f42
theorem facts : Facts Tryd.prog 6 :=
  ⟨by kernel_rfl, Tryd.underlying0, Tryd.isAgg0, Tryd.sizeOf0, Tryd.zeroValue0, Tryd.underlying3, Tryd.isAgg3, Tryd.sizeOf3, Tryd.zeroValue3, Tryd.underlying4, Tryd.isAgg4, Tryd.sizeOf4, Tryd.zeroValue4,
    Tryd.underlying24, Tryd.isAgg24, Tryd.sizeOf24, Tryd.zeroValue24, Tryd.underlying58, Tryd.isAgg58, Tryd.sizeOf58, Tryd.zeroValue58,
    Tryd.underlying75, Tryd.isAgg75, Tryd.sizeOf75, Tryd.zeroValue75, Tryd.isAgg49, Tryd.sizeOf49,
    Tryd.func49, Tryd.func50, Tryd.func53, Tryd.func55, Tryd.func42⟩
end Go.Proofs.YtaahaepgabcebaaDoor.SortK
