/- What firstsOf does at questions: a new slice with the questions, each once, in the order of the first occurrences. Condition: fewer than 400000001 of them. -/
import Derived.Test.YtmabbeefeipnaaaKeyT
import Derived.Test.YtmabbeefeipnaaaMemQ
namespace Go.Proofs.Ytmabbeefeipnaaa.FstQ
open Go.RowKit Go.Proofs.Ytmabbeefeipnaaa.Mem Go.Proofs.Ytmabbeefeipnaaa.SetMath Go.Proofs.Ytmabbeefeipnaaa.MapK Go.Proofs.Ytmabbeefeipnaaa.KeyT Go.Proofs.Ytmabbeefeipnaaa.MemQ

/-- The entries of a set. -/
def en (l : List Key) : List (Value × Value) := l.map (fun x => (qv x, .bool true))

theorem en_key (l : List Key) : ∀ p ∈ en l, KQ p.1 := by
  intro p hp
  obtain ⟨x, _, rfl⟩ := List.mem_map.1 hp
  exact ⟨x, rfl⟩

theorem val_inj {x y : Key} (h : (qv x : Value) = qv y) : x = y := by exact qv_inj h

theorem en_out {l : List Key} {x : Key} (h : x ∉ l) : ∀ p ∈ en l, p.1 ≠ qv x := by
  intro p hp e
  obtain ⟨y, hy, rfl⟩ := List.mem_map.1 hp
  exact h (val_inj e ▸ hy)

theorem en_in {l : List Key} {x : Key} (h : x ∈ l) : (qv x, Value.bool true) ∈ en l := List.mem_map.2 ⟨x, h, rfl⟩

theorem en_nodup : ∀ {l : List Key}, l.Nodup → ((en l).map Prod.fst).Nodup
  | [], _ => by simp [en]
  | x :: l, h => by
    obtain ⟨h1, h2⟩ := List.nodup_cons.1 h
    show (qv x :: (en l).map Prod.fst).Nodup
    refine List.nodup_cons.2 ⟨fun hm => ?_, en_nodup h2⟩
    obtain ⟨p, hp, he⟩ := List.mem_map.1 hm
    exact en_out h1 p hp he

theorem en_snoc (l : List Key) (x : Key) : en (l ++ [x]) = en l ++ [(qv x, .bool true)] := by simp [en]

theorem zero (w : World) : (zeroValue 4).run Try.prog w = .ok (.bool false) w := by kernel_rfl

theorem made_own (w : World) : ((w.alloc (.map #[] 0)).alloc (.cells #[] 34)).ownsRow (w.heap.size + 1) 34 2 (.slice (some ⟨w.heap.size + 1, 0, none⟩) 0 0) 0 [] := by
  have e : (w.alloc (.map #[] 0)).heap.size = w.heap.size + 1 := by simp
  have := owns_new (w.alloc (.map #[] 0))
  rwa [e] at this

end Go.Proofs.Ytmabbeefeipnaaa.FstQ
