/- A message that a call gives back lies in a box of its own, made first and filled at the return: what the box reads as, and what the result is; and boxes made one behind the other. -/
import Derived.Test.YtmkcjjgicinggaaGreatDoorMemM
import Derived.Test.YtmkcjjgicinggaaGreatDoorResR
namespace Go.Proofs.YtmkcjjgicinggaaGreatDoor.ResM
open Go.RowKit Go.Proofs.YtmkcjjgicinggaaGreatDoor.Mem Go.Proofs.YtmkcjjgicinggaaGreatDoor.MemR Go.Proofs.YtmkcjjgicinggaaGreatDoor.BoxR Go.Proofs.YtmkcjjgicinggaaGreatDoor.MemM Go.Proofs.YtmkcjjgicinggaaGreatDoor.ResR

/-- The box g filled with a message. -/
def filM (w : World) (g : Nat) (h : Hd) (x y z : Value) : World := ((((((((((((w.setCell ⟨g, 0, none⟩ (.int .i64 h.id)).setCell ⟨g, 1, none⟩ (.bool h.rp)).setCell ⟨g, 2, none⟩ (.bool h.au)).setCell ⟨g, 3, none⟩ (.bool h.ct)).setCell ⟨g, 4, none⟩ (.bool h.wa)).setCell ⟨g, 5, none⟩ (.bool h.ca)).setCell ⟨g, 6, none⟩ (.int .i64 h.code)).setCell ⟨g, 7, none⟩ (.string h.qn)).setCell ⟨g, 8, none⟩ (.int .i64 h.qt)).setCell ⟨g, 9, none⟩ (x)).setCell ⟨g, 10, none⟩ (y)).setCell ⟨g, 11, none⟩ (z))
section
variable {w w1 : World} {g B : Nat} {t : TypeId} {h h0 : Hd} {x y z x0 y0 z0 : Value} {a b : Obj} {cs : Array Value}
theorem at1 : Bk (w.alloc (.cells cs t)) w.heap.size t cs.toList := heap_alloc_new w _
theorem at2 : Bk ((w.alloc a).alloc (.cells cs t)) (w.heap.size + 1) t cs.toList := by
  have := heap_alloc_new (w.alloc a) (.cells cs t)
  rw [show (w.alloc a).heap.size = w.heap.size + 1 by simp] at this
  exact this
theorem at3 : Bk (((w.alloc a).alloc b).alloc (.cells cs t)) (w.heap.size + 1 + 1) t cs.toList := by
  have := heap_alloc_new ((w.alloc a).alloc b) (.cells cs t)
  rw [show ((w.alloc a).alloc b).heap.size = w.heap.size + 1 + 1 by simp] at this
  exact this
theorem filM_bk (k : Bk w g t (mc h0 x0 y0 z0)) (h : Hd) (x y z : Value) : Bk (filM w g h x y z) g t (mc h x y z) := ((((((((((((k.set 0 (.int .i64 h.id)).set 1 (.bool h.rp)).set 2 (.bool h.au)).set 3 (.bool h.ct)).set 4 (.bool h.wa)).set 5 (.bool h.ca)).set 6 (.int .i64 h.code)).set 7 (.string h.qn)).set 8 (.int .i64 h.qt)).set 9 (x)).set 10 (y)).set 11 (z))
theorem filM_below (k : Below B w w1) (hg : B ≤ g) (h : Hd) (x y z : Value) : Below B w (filM w1 g h x y z) := ((((((((((((k.setCell (p := ⟨g, 0, none⟩) hg (.int .i64 h.id)).setCell (p := ⟨g, 1, none⟩) hg (.bool h.rp)).setCell (p := ⟨g, 2, none⟩) hg (.bool h.au)).setCell (p := ⟨g, 3, none⟩) hg (.bool h.ct)).setCell (p := ⟨g, 4, none⟩) hg (.bool h.wa)).setCell (p := ⟨g, 5, none⟩) hg (.bool h.ca)).setCell (p := ⟨g, 6, none⟩) hg (.int .i64 h.code)).setCell (p := ⟨g, 7, none⟩) hg (.string h.qn)).setCell (p := ⟨g, 8, none⟩) hg (.int .i64 h.qt)).setCell (p := ⟨g, 9, none⟩) hg (x)).setCell (p := ⟨g, 10, none⟩) hg (y)).setCell (p := ⟨g, 11, none⟩) hg (z))
theorem filM_other {j : Nat} {u : TypeId} {cs : List Value} (k : Bk w j u cs) (hk : j ≠ g) (h : Hd) (x y z : Value) : Bk (filM w g h x y z) j u cs := ((((((((((((k.other (p := ⟨g, 0, none⟩) hk (.int .i64 h.id)).other (p := ⟨g, 1, none⟩) hk (.bool h.rp)).other (p := ⟨g, 2, none⟩) hk (.bool h.au)).other (p := ⟨g, 3, none⟩) hk (.bool h.ct)).other (p := ⟨g, 4, none⟩) hk (.bool h.wa)).other (p := ⟨g, 5, none⟩) hk (.bool h.ca)).other (p := ⟨g, 6, none⟩) hk (.int .i64 h.code)).other (p := ⟨g, 7, none⟩) hk (.string h.qn)).other (p := ⟨g, 8, none⟩) hk (.int .i64 h.qt)).other (p := ⟨g, 9, none⟩) hk (x)).other (p := ⟨g, 10, none⟩) hk (y)).other (p := ⟨g, 11, none⟩) hk (z))
end
theorem load_msg {w : World} {g : Nat} {t : TypeId} {h : Hd} {A1 A2 A3 : Option Addr} {n1 c1 n2 c2 n3 c3 : Nat} (k : Bk w g t (mc h (.slice A1 n1 c1) (.slice A2 n2 c2) (.slice A3 n3 c3))) :
    (loadVar 45 ⟨g, 0, none⟩).run Tryz.prog w = .ok (.agg #[.int .i64 h.id, .bool h.rp, .bool h.au, .bool h.ct, .bool h.wa, .bool h.ca, .int .i64 h.code, .string h.qn, .int .i64 h.qt, .slice A1 n1 c1, .slice A2 n2 c2, .slice A3 n3 c3]) w := by
  obtain ⟨c0, d1, d2, d3, c4, c5, c6, c7, c8, c9, c10, c11⟩ := mx_of k
  simp [go_sem, c0, d1, d2, d3, c4, c5, c6, c7, c8, c9, c10, c11]
theorem res1M {fn : Func} {p : Tmp} {w : World} {g : Nat} {t : TypeId} {h : Hd} {A1 A2 A3 : Option Addr} {n1 c1 n2 c2 n3 c3 : Nat} {tmps : Array Value} (hf : fn.results = #[.cell p 45])
    (k : Bk w g t (mc h (.slice A1 n1 c1) (.slice A2 n2 c2) (.slice A3 n3 c3))) (h4 : tmps.getD p undef = .pointer (some ⟨g, 0, none⟩)) :
    (results fn tmps).run Tryz.prog w = .ok (.agg #[.int .i64 h.id, .bool h.rp, .bool h.au, .bool h.ct, .bool h.wa, .bool h.ca, .int .i64 h.code, .string h.qn, .int .i64 h.qt, .slice A1 n1 c1, .slice A2 n2 c2, .slice A3 n3 c3]) w := by
  rw [results_cell hf, h4, as_addr]
  simp only [Result.andThen, load_msg k]
end Go.Proofs.YtmkcjjgicinggaaGreatDoor.ResM
