/- Plain facts on memory: questions, and what a slice of questions reads as; a new slice of questions that a call gives back; a law on append of one question. -/
import Derived.Test.YtmkcjjgicinggaaSetMath
import Derived.Deep.AppendLies
namespace Go.Proofs.Ytmkcjjgicinggaa.MemQ
open Go.RowKit Go.Proofs.Ytmkcjjgicinggaa.Mem Go.Proofs.Ytmkcjjgicinggaa.SetMath

/-- The cells that hold a question. -/
def qc (q : Key) : List Value := [.string q.name, .int .i64 q.ty]

/-- A question as a value. -/
def qv (q : Key) : Value := .agg #[.string q.name, .int .i64 q.ty]

/-- The cells that hold a list of questions. -/
def fq (l : List Key) : List Value := l.flatMap qc

theorem fq_cons (r : Key) (l : List Key) : fq (r :: l) = qc r ++ fq l := rfl

theorem fq_append (l m : List Key) : fq (l ++ m) = fq l ++ fq m := List.flatMap_append

theorem fq_len : ∀ l : List Key, (fq l).length = l.length * 2
  | [] => rfl
  | r :: l => by rw [fq_cons, List.length_append, fq_len l, List.length_cons, show (qc r).length = 2 from rfl]; omega

theorem fq_get : ∀ (l : List Key) (j c : Nat) (h : j < l.length), c < 2 → (fq l)[j * 2 + c]? = (qc l[j])[c]?
  | r :: l, 0, c, _, hc => by
    rw [fq_cons, Nat.zero_mul, Nat.zero_add, List.getElem?_append_left (by show c < 2; exact hc)]
    rfl
  | r :: l, j + 1, c, h, hc => by
    have e : (qc r).length = 2 := rfl
    rw [fq_cons, List.getElem?_append_right (by rw [e]; omega), e, show (j + 1) * 2 + c - 2 = j * 2 + c by omega, fq_get l j c (by simpa using h) hc]
    rfl

/-- Both cells set: the question there is another one. -/
theorem fq_put : ∀ (l : List Key) (k : Nat) (r : Key), k < l.length → ((fq l).set (k * 2) (.string r.name)).set (k * 2 + 1) (.int .i64 r.ty) = fq (l.set k r)
  | x :: l, 0, r, _ => rfl
  | x :: l, k + 1, r, h => by
    have e2 : (qc x).length = 2 := rfl
    have e : ∀ (Y : List Value) (c : Nat) (v : Value), (qc x ++ Y).set ((k + 1) * 2 + c) v = qc x ++ Y.set (k * 2 + c) v := fun Y c v => by
      rw [List.set_append_right _ _ (by rw [e2]; omega), e2, show (k + 1) * 2 + c - 2 = k * 2 + c by omega]
    have e0 : ∀ (Y : List Value) (v : Value), (qc x ++ Y).set ((k + 1) * 2) v = qc x ++ Y.set (k * 2) v := fun Y v => e Y 0 v
    rw [fq_cons, e0, e, fq_put l k r (by simpa using h)]
    rfl

/-- From offset o on, block b holds the question q. -/
def Cq (w : World) (b o : Nat) (q : Key) : Prop := w.cell? ⟨b, o, none⟩ = some (.string q.name) ∧ w.cell? ⟨b, o + 1, none⟩ = some (.int .i64 q.ty)

/-- The slice with address A and n elements reads, in w, as the questions l. -/
def Sq (w : World) (A : Option Addr) (n : Nat) (l : List Key) : Prop :=
  l.length = n ∧ (0 < n → ∃ b off, A = some ⟨b, off, none⟩ ∧ b < w.heap.size ∧ ∀ j (h : j < l.length), Cq w b (off + j * 2) l[j])
section
variable {w w' : World} {n g b o : Nat} {A : Option Addr} {l : List Key} {t : TypeId} {q : Key}

theorem Cq.below {B : Nat} (h : Cq w b o q) (hb : Below B w w') (hl : b < B) : Cq w' b o q := ⟨(hb.cell (p := ⟨b, o, none⟩) hl).trans h.1, (hb.cell (p := ⟨b, o + 1, none⟩) hl).trans h.2⟩

theorem Sq.nil : Sq w A 0 [] := ⟨rfl, fun h => absurd h (Nat.lt_irrefl _)⟩

theorem Sq.on (h : Sq w A n l) (hb : Below w.heap.size w w') : Sq w' A n l := by
  refine ⟨h.1, fun hn => ?_⟩
  obtain ⟨b, off, hA, hl, hc⟩ := h.2 hn
  exact ⟨b, off, hA, Nat.lt_of_lt_of_le hl hb.size, fun j hj => (hc j hj).below hb hl⟩

theorem bk_cq {v : List Value} (h : Bk w g t (fq l ++ v)) (j : Nat) (hj : j < l.length) : Cq w g (j * 2) l[j] := by
  have hc : ∀ c, c < 2 → w.cell? ⟨g, j * 2 + c, none⟩ = (qc l[j])[c]? := fun c hc => by
    rw [h.cell, List.getElem?_append_left (by rw [fq_len]; omega), fq_get l j c hj hc]
  exact ⟨hc 0 (by omega), hc 1 (by omega)⟩

/-- A block of questions with room behind, read as a slice over its head. -/
theorem bk_sq {v : List Value} (h : Bk w g t (fq l ++ v)) (hn : l.length = n) : Sq w (some ⟨g, 0, none⟩) n l :=
  ⟨hn, fun _ => ⟨g, 0, rfl, h.lt, fun j hj => by rw [Nat.zero_add]; exact bk_cq h j hj⟩⟩

/-- What the call owns as a row of questions is such a block. -/
theorem bk_of_owns2 {base cap : Nat} {xs : List Value} (h : w.ownsRow base t 2 (.slice (some ⟨g, 0, none⟩) n cap) n xs) : ∃ r, Bk w g t (xs ++ r) ∧ (xs ++ r).length = cap * 2 ∧ n ≤ cap ∧ base ≤ g := by
  rcases h.2 with ⟨h1, _⟩ | ⟨g', cap', cur, hv, hb, hh, hle, _, hs, ht⟩
  · cases h1
  · simp only [Value.slice.injEq, Option.some.injEq, Addr.mk.injEq, true_and, and_true] at hv
    obtain ⟨rfl, rfl⟩ := hv
    refine ⟨cur.toList.drop (n * 2), ?_, ?_, hle, hb⟩
    · unfold Bk; rw [hh, ← ht]; simp
    · rw [← ht]; simp; omega
end

theorem one_fq (y : Key) : ∀ u ∈ [Value.string y.name, Value.int .i64 y.ty], u.oneCell' = true := by
  intro u hu
  simp only [List.mem_cons, List.not_mem_nil, or_false] at hu
  rcases hu with rfl | rfl <;> rfl

end Go.Proofs.Ytmkcjjgicinggaa.MemQ
