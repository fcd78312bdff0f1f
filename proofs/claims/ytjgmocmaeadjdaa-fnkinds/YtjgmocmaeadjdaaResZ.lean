/- A zone that a call gives back lies in a box of its own, made first and filled at the return; rows of records of one's own. -/
import Derived.Test.YtjgmocmaeadjdaaMemZ
import Derived.Test.YtjgmocmaeadjdaaResR
import Derived.Test.YtjgmocmaeadjdaaAppR
import Derived.Test.YtjgmocmaeadjdaaDrawR
namespace Go.Proofs.Ytjgmocmaeadjdaa.ResZ
open Go.RowKit Go.Proofs.Ytjgmocmaeadjdaa.Mem Go.Proofs.Ytjgmocmaeadjdaa.MemR Go.Proofs.Ytjgmocmaeadjdaa.MemZ Go.Proofs.Ytjgmocmaeadjdaa.ResR Go.Proofs.Ytjgmocmaeadjdaa.AppR Go.Proofs.Ytjgmocmaeadjdaa.Draw

theorem load_z {w : World} {g : Nat} {t : TypeId} {s : ByteArray} {A : Option Addr} {n c : Nat} (h : Bk w g t (zc s (.slice A n c))) : (loadVar 26 ⟨g, 0, none⟩).run Try.prog w = .ok (.agg #[.string s, .slice A n c]) w := by
  obtain ⟨c0, c1⟩ := zx_of h
  simp [go_sem, c0, c1]

theorem resZ1 {fn : Func} {p : Tmp} {w : World} {g : Nat} {t : TypeId} {s : ByteArray} {A : Option Addr} {n c : Nat} {tmps : Array Value} (hf : fn.results = #[.cell p 26]) (h : Bk w g t (zc s (.slice A n c))) (h4 : tmps.getD p undef = .pointer (some ⟨g, 0, none⟩)) :
    (results fn tmps).run Try.prog w = .ok (.agg #[.string s, .slice A n c]) w := by
  rw [results_cell hf, h4, as_addr]
  simp only [Result.andThen, load_z h]

theorem resZ2 {fn : Func} {p u : Tmp} {w : World} {g : Nat} {t : TypeId} {s : ByteArray} {A : Option Addr} {n c : Nat} {x : Value} {tmps : Array Value} (hf : fn.results = #[.cell p 26, .tmp u]) (h : Bk w g t (zc s (.slice A n c))) (h4 : tmps.getD p undef = .pointer (some ⟨g, 0, none⟩)) (h5 : tmps.getD u undef = x) :
    (results fn tmps).run Try.prog w = .ok (.tuple #[.agg #[.string s, .slice A n c], x]) w := by
  rw [results_cell_tmp hf, h4, h5, as_addr]
  simp only [Result.andThen, load_z h]

theorem load_k {w : World} {g : Nat} {t : TypeId} {s : ByteArray} {n : Int} (h : Bk w g t [.string s, .int .i64 n]) : (loadVar 28 ⟨g, 0, none⟩).run Try.prog w = .ok (.agg #[.string s, .int .i64 n]) w := by
  have c0 : w.cell? ⟨g, 0, none⟩ = some (.string s) := h.cell 0
  have c1 : w.cell? ⟨g, 1, none⟩ = some (.int .i64 n) := h.cell 1
  simp [go_sem, c0, c1]

theorem results_cell2 {fn : Func} {p q : Tmp} {ty tz : TypeId} (h : fn.results = #[.cell p ty, .cell q tz]) (tmps : Array Value) (P : Program) (w : World) :
    (results fn tmps).run P w = ((asAddr (tmps.getD p undef)).run P w).andThen fun a w₁ => ((loadVar ty a).run P w₁).andThen fun x w₂ => ((asAddr (tmps.getD q undef)).run P w₂).andThen fun b w₃ => ((loadVar tz b).run P w₃).andThen fun y w₄ => .ok (.tuple #[x, y]) w₄ := by
  simp only [results, h]
  simp [Sem.run_bind, Result.andThen]

theorem resZQ {fn : Func} {p q : Tmp} {w : World} {g k : Nat} {t u : TypeId} {s s' : ByteArray} {A : Option Addr} {n c : Nat} {ty : Int} {tmps : Array Value} (hf : fn.results = #[.cell p 26, .cell q 28]) (h : Bk w g t (zc s (.slice A n c))) (h' : Bk w k u [.string s', .int .i64 ty]) (h4 : tmps.getD p undef = .pointer (some ⟨g, 0, none⟩)) (h5 : tmps.getD q undef = .pointer (some ⟨k, 0, none⟩)) :
    (results fn tmps).run Try.prog w = .ok (.tuple #[.agg #[.string s, .slice A n c], .agg #[.string s', .int .i64 ty]]) w := by
  rw [results_cell2 hf, h4, h5, as_addr]
  simp only [Result.andThen, load_z h, as_addr, load_k h']

/-- A block of records is a row of the call's own. -/
theorem owns6 {w : World} {base g n : Nat} {l : List Rec} (h : Bk w g 56 (fl l)) (hb : base ≤ g) (hl : l.length = n) (hm : n ≤ 1000) :
    w.ownsRow base 56 6 (.slice (some ⟨g, 0, none⟩) n n) n (fl l) := by
  refine ⟨by rw [fl_len, hl], .inr ⟨g, n, _, rfl, hb, h, Nat.le_refl _, by unfold maxLen; omega, ?_, ?_⟩⟩
  · rw [List.size_toArray, fl_len, hl]
  · show (fl l).take (n * 6) = fl l
    rw [List.take_of_length_le (by rw [fl_len, hl]; omega)]

theorem own_set {w : World} {base gb gl n cap : Nat} {L : List Rec} (h : w.ownsRow base 56 6 (.slice (some ⟨gl, 0, none⟩) n cap) n (fl L)) (hb : gl ≠ gb) (j : Nat) (u : Value) : (w.setCell ⟨gb, j, none⟩ u).ownsRow base 56 6 (.slice (some ⟨gl, 0, none⟩) n cap) n (fl L) :=
  h.kept (row := some gb) (grown_set (grown_refl _ _) j u) (Or.inr (fun e => hb (Option.some.inj e)))

theorem own_far {w w' : World} {base g gl n cap : Nat} {L : List Rec} (h : w.ownsRow base 56 6 (.slice (some ⟨gl, 0, none⟩) n cap) n (fl L)) (hg : w.grownBy w' (some g)) (hb : g < base) : w'.ownsRow base 56 6 (.slice (some ⟨gl, 0, none⟩) n cap) n (fl L) :=
  h.kept hg (Or.inr (fun e => by have h1 : base ≤ gl := (h.lt gl rfl).1; have h2 : gl = g := Option.some.inj e; omega))

theorem own_below {w w' : World} {base gl n cap : Nat} {L : List Rec} (h : w.ownsRow base 56 6 (.slice (some ⟨gl, 0, none⟩) n cap) n (fl L)) (hb : Below w.heap.size w w') : w'.ownsRow base 56 6 (.slice (some ⟨gl, 0, none⟩) n cap) n (fl L) :=
  h.kept (row := none) ⟨hb.os, hb.tape, hb.output, hb.size, fun k hk _ => hb.block k hk⟩ (Or.inr (by simp [Value.ownBlock]))

theorem own_sr {w : World} {base gl n cap : Nat} {L : List Rec} (h : w.ownsRow base 56 6 (.slice (some ⟨gl, 0, none⟩) n cap) n (fl L)) : Sr w w.heap.size (some ⟨gl, 0, none⟩) n L := by
  obtain ⟨r, hb, _⟩ := bk_of_owns6 h
  exact bk_sr hb (by have := h.1; rw [fl_len] at this; omega)

theorem cur_far {w w' : World} {base g gl n cap : Nat} {L : List Rec} (h : Cur w g) (ho : w.ownsRow base 56 6 (.slice (some ⟨gl, 0, none⟩) n cap) n (fl L)) (hg : w.grownBy w' (some gl)) (hb : g < base) : Cur w' g :=
  h.grown hg (fun k hk => by have h1 := (ho.lt gl rfl).1; cases hk; omega)

theorem cur_below {w w' : World} {g : Nat} (h : Cur w g) (hb : Below w.heap.size w w') : Cur w' g :=
  h.grown (row := none) ⟨hb.os, hb.tape, hb.output, hb.size, fun k hk _ => hb.block k hk⟩ (fun k hk => by cases hk)

theorem grown_below {w v v' : World} {g : Nat} (h : w.grownBy v (some g)) (hb : Below v.heap.size v v') : w.grownBy v' (some g) :=
  grown_trans h ⟨hb.os, hb.tape, hb.output, hb.size, fun k hk _ => hb.block k hk⟩

theorem grown_far {w v v' : World} {g gl : Nat} (h : w.grownBy v (some g)) (hg : v.grownBy v' (some gl)) (hl : w.heap.size ≤ gl) : w.grownBy v' (some g) :=
  ⟨hg.os.trans h.os, hg.tape.trans h.tape, hg.output.trans h.output, Nat.le_trans h.size hg.size, fun k hk hne => (hg.block k (Nat.lt_of_lt_of_le hk h.size) (fun e => by have := Option.some.inj e; omega)).trans (h.block k hk hne)⟩

theorem cur_filZ {w : World} {g gz : Nat} (h : Cur w g) (hg : g < gz) (s : ByteArray) (x : Value) : Cur (filZ w gz s x) g := DrawR.cur_new (DrawR.cur_new h hg 0 (.string s)) hg 1 x

theorem grown_filZ {w v : World} {g gz : Nat} (h : w.grownBy v (some g)) (hg : w.heap.size ≤ gz) (s : ByteArray) (x : Value) : w.grownBy (filZ v gz s x) (some g) := DrawR.grown_new (DrawR.grown_new h hg 0 (.string s)) hg 1 x

theorem own_filZ {w : World} {base gz gl n cap : Nat} {L : List Rec} (h : w.ownsRow base 56 6 (.slice (some ⟨gl, 0, none⟩) n cap) n (fl L)) (hb : gl ≠ gz) (s : ByteArray) (x : Value) : (filZ w gz s x).ownsRow base 56 6 (.slice (some ⟨gl, 0, none⟩) n cap) n (fl L) := own_set (own_set h hb 0 (.string s)) hb 1 x

end Go.Proofs.Ytjgmocmaeadjdaa.ResZ
