/- What Hosts does in the program: the hosts of the records of servers, each once. Condition: fewer than 400000001 records. -/
import Derived.Test.YtkpcanigdppegaaDoorFstS
namespace Go.Proofs.YtkpcanigdppegaaDoor.HostI
open Go.RowKit Go.Proofs.YtkpcanigdppegaaDoor.Mem Go.Proofs.YtkpcanigdppegaaDoor.MemR Go.Proofs.YtkpcanigdppegaaDoor.SetMath Go.Proofs.YtkpcanigdppegaaDoor.MemS Go.Proofs.YtkpcanigdppegaaDoor.AppS

/-- append of one new text onto a row of the call's own, the new block's number as the walk spells it. -/
theorem append_at {w : World} {ops : Array Oper} {rest : List Oper} {o : Oper} {a : Act} {Q : Exit → Act → World → Prop} (hgd : o.guard = none) (s x : Operand)
    (ho : o.op = .call { callee := .builtin .append, args := #[s, x], argTypes := #[33, 33] })
    (base g n cap : Nat) (l : List ByteArray) (hs : a.eval s = .slice (some ⟨g, 0, none⟩) n cap) (hown : w.ownsRow base 9 1 (.slice (some ⟨g, 0, none⟩) n cap) n (l.map tv))
    (y : ByteArray) (p : Nat) (hp : w.heap.size = p) (hx : a.eval x = .slice (some ⟨p, 0, none⟩) 1 1) (hn : n ≤ 800000000) (hbase : base ≤ w.heap.size)
    (h : ∀ g' cap' w', w'.ownsRow base 9 1 (.slice (some ⟨g', 0, none⟩) (n + 1) cap') (n + 1) ((l ++ [y]).map tv) → (w.alloc (.cells #[.string y] 9)).grownBy w' (some g) → wpList Tryd.prog ops Q rest (a.put o.dst (.slice (some ⟨g', 0, none⟩) (n + 1) cap')) w') : wpList Tryd.prog ops Q (o :: rest) a (w.alloc (.cells #[.string y] 9)) := by
  subst hp
  obtain ⟨i0, hi, hz0, hz1, hz2⟩ := info_parts info
  exact append_one (w := w) hgd s x 33 ho base 9 i0 _ Tryd.underlying33 hi hz0 hz1 hz2 rfl g n cap l hs hown y hx hn hbase h

end Go.Proofs.YtkpcanigdppegaaDoor.HostI
