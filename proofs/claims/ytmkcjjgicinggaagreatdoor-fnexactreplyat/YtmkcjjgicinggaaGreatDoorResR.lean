/- A record that a call gives back lies in a box of its own, made first and filled at the return: what the box reads as, and what the result is. -/
import Derived.Test.YtmkcjjgicinggaaGreatDoorBoxR
import Derived.Laws.ResultCell
namespace Go.Proofs.YtmkcjjgicinggaaGreatDoor.ResR
open Go.RowKit Go.Proofs.YtmkcjjgicinggaaGreatDoor.Mem Go.Proofs.YtmkcjjgicinggaaGreatDoor.MemR Go.Proofs.YtmkcjjgicinggaaGreatDoor.BoxR

/-- The box g filled with the record r. -/
def fil (w : World) (g : Nat) (r : Rec) : World :=
  (((((w.setCell ⟨g, 0, none⟩ (.string r.name)).setCell ⟨g, 1, none⟩ (.int .i64 r.ty)).setCell ⟨g, 2, none⟩ (.int .i64 r.ttl)).setCell ⟨g, 3, none⟩ (.int .i64 r.n)).setCell ⟨g, 4, none⟩ (.string r.host)).setCell ⟨g, 5, none⟩ (.string r.text)
section
variable {w w1 : World} {g B : Nat} {t : TypeId} {r r0 : Rec}
theorem fil_bk (h : Bk w g t (rc r0)) (r : Rec) : Bk (fil w g r) g t (rc r) :=
  (((((h.set 0 (.string r.name)).set 1 (.int .i64 r.ty)).set 2 (.int .i64 r.ttl)).set 3 (.int .i64 r.n)).set 4 (.string r.host)).set 5 (.string r.text)
theorem fil_below (h : Below B w w1) (hg : B ≤ g) (r : Rec) : Below B w (fil w1 g r) :=
  (((((h.setCell (p := ⟨g, 0, none⟩) hg (.string r.name)).setCell (p := ⟨g, 1, none⟩) hg (.int .i64 r.ty)).setCell (p := ⟨g, 2, none⟩) hg (.int .i64 r.ttl)).setCell (p := ⟨g, 3, none⟩) hg (.int .i64 r.n)).setCell (p := ⟨g, 4, none⟩) hg (.string r.host)).setCell (p := ⟨g, 5, none⟩) hg (.string r.text)
theorem fil_other {k : Nat} {cs : List Value} (h : Bk w k t cs) (hk : k ≠ g) (r : Rec) : Bk (fil w g r) k t cs :=
  (((((h.other (p := ⟨g, 0, none⟩) hk (.string r.name)).other (p := ⟨g, 1, none⟩) hk (.int .i64 r.ty)).other (p := ⟨g, 2, none⟩) hk (.int .i64 r.ttl)).other (p := ⟨g, 3, none⟩) hk (.int .i64 r.n)).other (p := ⟨g, 4, none⟩) hk (.string r.host)).other (p := ⟨g, 5, none⟩) hk (.string r.text)
theorem fil_size : (fil w g r).heap.size = w.heap.size := by simp [fil, World.setCell]
end
theorem results_cell {fn : Func} {p : Tmp} {ty : TypeId} (h : fn.results = #[.cell p ty]) (tmps : Array Value) (P : Program) (w : World) :
    (results fn tmps).run P w = ((asAddr (tmps.getD p undef)).run P w).andThen fun a w₁ => (loadVar ty a).run P w₁ := by
  simp only [results, h]
  simp [Sem.run_bind, Result.andThen]
theorem results_cell_tmp2 {fn : Func} {p u v : Tmp} {ty : TypeId} (h : fn.results = #[.cell p ty, .tmp u, .tmp v]) (tmps : Array Value) (P : Program) (w : World) :
    (results fn tmps).run P w = ((asAddr (tmps.getD p undef)).run P w).andThen fun a w₁ => ((loadVar ty a).run P w₁).andThen fun x w₂ => .ok (.tuple #[x, tmps.getD u undef, tmps.getD v undef]) w₂ := by
  simp only [results, h]
  simp [Sem.run_bind, Result.andThen]
theorem load_rec {w : World} {g : Nat} {t : TypeId} {r : Rec} (h : Bk w g t (rc r)) : (loadVar 93 ⟨g, 0, none⟩).run Tryz.prog w = .ok (.agg #[.string r.name, .int .i64 r.ty, .int .i64 r.ttl, .int .i64 r.n, .string r.host, .string r.text]) w := by
  obtain ⟨c0, c1, c2, c3, c4, c5⟩ := bx_of h
  simp [go_sem, c0, c1, c2, c3, c4, c5]
theorem as_addr (a : Addr) (P : Program) (w : World) : (asAddr (.pointer (some a))).run P w = .ok a w := rfl
theorem res1 {fn : Func} {p : Tmp} {w : World} {g : Nat} {t : TypeId} {r : Rec} {tmps : Array Value} (hf : fn.results = #[.cell p 93]) (h : Bk w g t (rc r)) (h4 : tmps.getD p undef = .pointer (some ⟨g, 0, none⟩)) :
    (results fn tmps).run Tryz.prog w = .ok (.agg #[.string r.name, .int .i64 r.ty, .int .i64 r.ttl, .int .i64 r.n, .string r.host, .string r.text]) w := by
  rw [results_cell hf, h4, as_addr]
  simp only [Result.andThen, load_rec h]
theorem res2 {fn : Func} {p u : Tmp} {w : World} {g : Nat} {t : TypeId} {r : Rec} {x : Value} {tmps : Array Value} (hf : fn.results = #[.cell p 93, .tmp u]) (h : Bk w g t (rc r)) (h4 : tmps.getD p undef = .pointer (some ⟨g, 0, none⟩)) (h5 : tmps.getD u undef = x) :
    (results fn tmps).run Tryz.prog w = .ok (.tuple #[.agg #[.string r.name, .int .i64 r.ty, .int .i64 r.ttl, .int .i64 r.n, .string r.host, .string r.text], x]) w := by
  rw [results_cell_tmp hf, h4, h5, as_addr]
  simp only [Result.andThen, load_rec h]
theorem res3 {fn : Func} {p u v : Tmp} {w : World} {g : Nat} {t : TypeId} {r : Rec} {x y : Value} {tmps : Array Value} (hf : fn.results = #[.cell p 93, .tmp u, .tmp v]) (h : Bk w g t (rc r)) (h4 : tmps.getD p undef = .pointer (some ⟨g, 0, none⟩)) (h5 : tmps.getD u undef = x) (h6 : tmps.getD v undef = y) :
    (results fn tmps).run Tryz.prog w = .ok (.tuple #[.agg #[.string r.name, .int .i64 r.ty, .int .i64 r.ttl, .int .i64 r.n, .string r.host, .string r.text], x, y]) w := by
  rw [results_cell_tmp2 hf, h4, h5, h6, as_addr]
  simp only [Result.andThen, load_rec h]
end Go.Proofs.YtmkcjjgicinggaaGreatDoor.ResR
