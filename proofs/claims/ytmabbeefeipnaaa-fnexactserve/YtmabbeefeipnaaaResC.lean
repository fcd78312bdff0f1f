/- A content that a call gives back lies in a box of its own, made first and filled at the return: what the box reads as, and what the result is; a section, perhaps nil. -/
import Derived.Test.YtmabbeefeipnaaaServeMath
import Derived.Test.YtmabbeefeipnaaaResR
import Derived.Test.YtmabbeefeipnaaaWt
namespace Go.Proofs.Ytmabbeefeipnaaa.ResC
open Go.RowKit Go.Proofs.Ytmabbeefeipnaaa.Mem Go.Proofs.Ytmabbeefeipnaaa.MemR Go.Proofs.Ytmabbeefeipnaaa.ResR Go.Proofs.Ytmabbeefeipnaaa.ServeMath Go.Proofs.Ytmabbeefeipnaaa.Wt

/-- A content as cells. -/
def cc (d : Int) (a : Bool) (x y z : Value) : List Value := [.int .i64 d, .bool a, x, y, z]

/-- The box g filled with a content. -/
def filC (w : World) (g : Nat) (d : Int) (a : Bool) (x y z : Value) : World := ((((w.setCell ⟨g, 0, none⟩ (.int .i64 d)).setCell ⟨g, 1, none⟩ (.bool a)).setCell ⟨g, 2, none⟩ (x)).setCell ⟨g, 3, none⟩ (y)).setCell ⟨g, 4, none⟩ (z)

section
variable {w w1 : World} {g B : Nat} {t : TypeId} {d d0 : Int} {a a0 : Bool} {x y z x0 y0 z0 : Value}

theorem filC_bk (k : Bk w g t (cc d0 a0 x0 y0 z0)) (d : Int) (a : Bool) (x y z : Value) : Bk (filC w g d a x y z) g t (cc d a x y z) := (((((k.set 0 (.int .i64 d)).set 1 (.bool a)).set 2 (x)).set 3 (y)).set 4 (z))

theorem filC_below (k : Below B w w1) (hg : B ≤ g) (d : Int) (a : Bool) (x y z : Value) : Below B w (filC w1 g d a x y z) := (((((k.setCell (p := ⟨g, 0, none⟩) hg (.int .i64 d)).setCell (p := ⟨g, 1, none⟩) hg (.bool a)).setCell (p := ⟨g, 2, none⟩) hg (x)).setCell (p := ⟨g, 3, none⟩) hg (y)).setCell (p := ⟨g, 4, none⟩) hg (z))

theorem filC_other {j : Nat} {u : TypeId} {cs : List Value} (k : Bk w j u cs) (hk : j ≠ g) (d : Int) (a : Bool) (x y z : Value) : Bk (filC w g d a x y z) j u cs := (((((k.other (p := ⟨g, 0, none⟩) hk (.int .i64 d)).other (p := ⟨g, 1, none⟩) hk (.bool a)).other (p := ⟨g, 2, none⟩) hk (x)).other (p := ⟨g, 3, none⟩) hk (y)).other (p := ⟨g, 4, none⟩) hk (z))
end

theorem load_con {w : World} {g : Nat} {t : TypeId} {d : Int} {a : Bool} {A1 A2 A3 : Option Addr} {n1 c1 n2 c2 n3 c3 : Nat} (k : Bk w g t (cc d a (.slice A1 n1 c1) (.slice A2 n2 c2) (.slice A3 n3 c3))) :
    (loadVar 64 ⟨g, 0, none⟩).run Try.prog w = .ok (.agg #[.int .i64 d, .bool a, .slice A1 n1 c1, .slice A2 n2 c2, .slice A3 n3 c3]) w := by
  have e0 : w.cell? ⟨g, 0, none⟩ = some (.int .i64 d) := k.cell 0
  have e1 : w.cell? ⟨g, 1, none⟩ = some (.bool a) := k.cell 1
  have e2 : w.cell? ⟨g, 2, none⟩ = some (.slice A1 n1 c1) := k.cell 2
  have e3 : w.cell? ⟨g, 3, none⟩ = some (.slice A2 n2 c2) := k.cell 3
  have e4 : w.cell? ⟨g, 4, none⟩ = some (.slice A3 n3 c3) := k.cell 4
  simp [go_sem, e0, e1, e2, e3, e4]

theorem res1C {fn : Func} {p : Tmp} {w : World} {g : Nat} {t : TypeId} {d : Int} {a : Bool} {A1 A2 A3 : Option Addr} {n1 c1 n2 c2 n3 c3 : Nat} {tmps : Array Value} (hf : fn.results = #[.cell p 64])
    (k : Bk w g t (cc d a (.slice A1 n1 c1) (.slice A2 n2 c2) (.slice A3 n3 c3))) (h4 : tmps.getD p undef = .pointer (some ⟨g, 0, none⟩)) :
    (results fn tmps).run Try.prog w = .ok (.agg #[.int .i64 d, .bool a, .slice A1 n1 c1, .slice A2 n2 c2, .slice A3 n3 c3]) w := by
  rw [results_cell hf, h4, as_addr]
  simp only [Result.andThen, load_con k]

/-- A section: nil, or a new block that reads as the records (room behind them let in). -/
def Sec (B : Nat) (w : World) (A : Option Addr) (m c : Nat) (L : List Rec) : Prop :=
  (A = none ∧ m = 0 ∧ c = 0 ∧ L = []) ∨ ∃ g r, A = some ⟨g, 0, none⟩ ∧ L.length = m ∧ m ≤ c ∧ B ≤ g ∧ Bk w g 68 (fl L ++ r)

theorem Sec.nil {B : Nat} {w : World} : Sec B w none 0 0 [] := .inl ⟨rfl, rfl, rfl, rfl⟩

theorem Sec.below {B : Nat} {w w' : World} {A : Option Addr} {m c : Nat} {L : List Rec} (h : Sec B w A m c L) (hb : Below w.heap.size w w') : Sec B w' A m c L := by
  rcases h with h | ⟨g, r, h1, h2, h3, h4, h5⟩
  · exact .inl h
  · exact .inr ⟨g, r, h1, h2, h3, h4, h5.below hb h5.lt⟩

theorem Sec.low {B B' : Nat} {w : World} {A : Option Addr} {m c : Nat} {L : List Rec} (h : Sec B w A m c L) (hb : B' ≤ B) : Sec B' w A m c L := by
  rcases h with h | ⟨g, r, h1, h2, h3, h4, h5⟩
  · exact .inl h
  · exact .inr ⟨g, r, h1, h2, h3, Nat.le_trans hb h4, h5⟩

theorem Sec.fil {B : Nat} {w : World} {A : Option Addr} {m c : Nat} {L : List Rec} (h : Sec B w A m c L) {g : Nat} (hg : g < B) (d : Int) (a : Bool) (x y z : Value) : Sec B (filC w g d a x y z) A m c L := by
  rcases h with h | ⟨k, r, h1, h2, h3, h4, h5⟩
  · exact .inl h
  · exact .inr ⟨k, r, h1, h2, h3, h4, filC_other h5 (by omega) d a x y z⟩

theorem Sec.len {B : Nat} {w : World} {A : Option Addr} {m c : Nat} {L : List Rec} (h : Sec B w A m c L) : L.length = m := by
  rcases h with ⟨_, h, _, rfl⟩ | ⟨g, r, _, h2, _⟩
  · exact h.symm
  · exact h2

theorem Sec.cap {B : Nat} {w : World} {A : Option Addr} {m c : Nat} {L : List Rec} (h : Sec B w A m c L) : m ≤ c := by
  rcases h with ⟨_, h, h', _⟩ | ⟨g, r, _, _, h3, _⟩
  · omega
  · exact h3

theorem Sec.sr {B : Nat} {w : World} {A : Option Addr} {m c : Nat} {L : List Rec} (h : Sec B w A m c L) : Sr w w.heap.size A m L := by
  rcases h with ⟨rfl, rfl, _, rfl⟩ | ⟨g, r, rfl, h2, _, _, h5⟩
  · exact Sr.nil
  · exact bk_sr h5 h2

/-- The call returned a content with this code, flag and sections, and turned nothing that was there. -/
def GivesK (w : World) (d : Int) (a : Bool) (L1 L2 L3 : List Rec) (e : Ending) (w' : World) : Prop :=
  ∃ A1 m1 c1 A2 m2 c2 A3 m3 c3, e = .returned (.agg #[.int .i64 d, .bool a, .slice A1 m1 c1, .slice A2 m2 c2, .slice A3 m3 c3]) ∧ Sec w.heap.size w' A1 m1 c1 L1 ∧ Sec w.heap.size w' A2 m2 c2 L2 ∧ Sec w.heap.size w' A3 m3 c3 L3 ∧ Below w.heap.size w w'

end Go.Proofs.Ytmabbeefeipnaaa.ResC
