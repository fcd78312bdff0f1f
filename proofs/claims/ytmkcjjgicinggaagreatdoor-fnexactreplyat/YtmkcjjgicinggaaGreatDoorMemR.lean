/- Plain facts on memory: records, and what a slice of records reads as. -/
import Derived.Test.YtmkcjjgicinggaaGreatDoorMem
namespace Go.Proofs.YtmkcjjgicinggaaGreatDoor.MemR
open Go.RowKit Go.Proofs.YtmkcjjgicinggaaGreatDoor.Mem

/-- A record. -/
structure Rec where
  name : ByteArray
  ty : Int
  ttl : Int
  n : Int
  host : ByteArray
  text : ByteArray

/-- The cells that hold a record. -/
def rc (r : Rec) : List Value := [.string r.name, .int .i64 r.ty, .int .i64 r.ttl, .int .i64 r.n, .string r.host, .string r.text]
/-- The cells that hold a list of records. -/
def fl (l : List Rec) : List Value := l.flatMap rc
theorem rc_len (r : Rec) : (rc r).length = 6 := rfl
theorem fl_cons (r : Rec) (l : List Rec) : fl (r :: l) = rc r ++ fl l := rfl
theorem fl_append (l m : List Rec) : fl (l ++ m) = fl l ++ fl m := List.flatMap_append
theorem fl_len : ∀ l : List Rec, (fl l).length = l.length * 6
  | [] => rfl
  | r :: l => by rw [fl_cons, List.length_append, rc_len, fl_len l, List.length_cons]; omega
theorem fl_get : ∀ (l : List Rec) (j c : Nat) (h : j < l.length), c < 6 → (fl l)[j * 6 + c]? = (rc l[j])[c]?
  | r :: l, 0, c, _, hc => by
    rw [fl_cons, Nat.zero_mul, Nat.zero_add, List.getElem?_append_left (by rw [rc_len]; exact hc)]
    rfl
  | r :: l, j + 1, c, h, hc => by
    rw [fl_cons, List.getElem?_append_right (by rw [rc_len]; omega), rc_len, show (j + 1) * 6 + c - 6 = j * 6 + c by omega, fl_get l j c (by simpa using h) hc]
    rfl
/-- One cell of a list of records set anew: the record there has that field changed. -/
def put (r : Rec) : Nat → Value → Rec
  | 0, .string s => { r with name := s }
  | 1, .int _ x => { r with ty := x }
  | 2, .int _ x => { r with ttl := x }
  | 3, .int _ x => { r with n := x }
  | 4, .string s => { r with host := s }
  | 5, .string s => { r with text := s }
  | _, _ => r
theorem fl_set : ∀ (l : List Rec) (k c : Nat) (v : Value) (h : k < l.length), rc (put l[k] c v) = (rc l[k]).set c v → c < 6 → (fl l).set (k * 6 + c) v = fl (l.set k (put l[k] c v))
  | r :: l, 0, c, v, _, e, hc => by
    rw [fl_cons, Nat.zero_mul, Nat.zero_add, List.set_append_left _ _ (by rw [rc_len]; exact hc), List.set_cons_zero, fl_cons]
    exact congrArg (· ++ fl l) e.symm
  | r :: l, k + 1, c, v, h, e, hc => by
    rw [fl_cons, List.set_append_right _ _ (by rw [rc_len]; omega), rc_len, show (k + 1) * 6 + c - 6 = k * 6 + c by omega, List.set_cons_succ, fl_cons]
    exact congrArg (rc r ++ ·) (fl_set l k c v (by simpa using h) e hc)
/-- All six cells set: the record there is another one. -/
theorem fl_put : ∀ (l : List Rec) (k : Nat) (r : Rec), k < l.length → ((((((fl l).set (k * 6) (.string r.name)).set (k * 6 + 1) (.int .i64 r.ty)).set (k * 6 + 2) (.int .i64 r.ttl)).set (k * 6 + 3) (.int .i64 r.n)).set (k * 6 + 4) (.string r.host)).set (k * 6 + 5) (.string r.text) = fl (l.set k r)
  | x :: l, 0, r, _ => rfl
  | x :: l, k + 1, r, h => by
    have e : ∀ (Y : List Value) (c : Nat) (v : Value), (rc x ++ Y).set ((k + 1) * 6 + c) v = rc x ++ Y.set (k * 6 + c) v := fun Y c v => by
      rw [List.set_append_right _ _ (by rw [rc_len]; omega), rc_len, show (k + 1) * 6 + c - 6 = k * 6 + c by omega]
    have e0 : ∀ (Y : List Value) (v : Value), (rc x ++ Y).set ((k + 1) * 6) v = rc x ++ Y.set (k * 6) v := fun Y v => e Y 0 v
    rw [fl_cons, e0, e, e, e, e, e, fl_put l k r (by simpa using h)]
    rfl
/-- The record with nothing in it. -/
def zr : Rec := ⟨⟨#[]⟩, 0, 0, 0, ⟨#[]⟩, ⟨#[]⟩⟩
theorem made_fl (n : Nat) : (madeCells #[.string ⟨#[]⟩, .int .i64 0, .int .i64 0, .int .i64 0, .string ⟨#[]⟩, .string ⟨#[]⟩] (n * 6)).toList = fl (List.replicate n zr) := by
  refine List.ext_getElem? fun i => ?_
  by_cases hi : i < n * 6
  · have hj : i / 6 < n := by omega
    have e : i = i / 6 * 6 + i % 6 := by omega
    have h6 : i % 6 < 6 := by omega
    conv => rhs; rw [e]
    rw [fl_get _ (i / 6) (i % 6) (by simpa using hj) h6]
    simp only [madeCells, Array.toList_map, Array.toList_range, List.getElem?_map, List.getElem?_range hi, List.getElem_replicate, Option.map_some]
    generalize hc : i % 6 = c at h6
    rcases c with _ | _ | _ | _ | _ | _ | c <;> first | rfl | omega
  · rw [List.getElem?_eq_none (by simp [madeCells]; omega), List.getElem?_eq_none (by rw [fl_len]; simp; omega)]
/-- The bytes of a record's texts. -/
def rz (r : Rec) : Nat := r.name.size + r.host.size + r.text.size
/-- All the bytes. -/
def tot (l : List Rec) : Nat := (l.map rz).sum
theorem tot_step (l : List Rec) (k : Nat) (h : k < l.length) : tot (l.take (k + 1)) = tot (l.take k) + rz l[k] := by
  rw [tot, List.take_succ_eq_append_getElem h, List.map_append, List.sum_append]
  simp [tot]
theorem le_sum : ∀ (l : List Nat) (x : Nat), x ∈ l → x ≤ l.sum
  | y :: l, x, h => by
    rw [List.sum_cons]
    rcases List.mem_cons.1 h with rfl | h
    · omega
    · have := le_sum l x h; omega
theorem tot_le (l : List Rec) (r : Rec) (h : r ∈ l) : rz r ≤ tot l := le_sum _ _ (List.mem_map.2 ⟨r, h, rfl⟩)

/-- From offset o on, block b holds the record r. -/
def Ce (w : World) (b o : Nat) (r : Rec) : Prop :=
  w.cell? ⟨b, o, none⟩ = some (.string r.name) ∧ w.cell? ⟨b, o + 1, none⟩ = some (.int .i64 r.ty) ∧ w.cell? ⟨b, o + 2, none⟩ = some (.int .i64 r.ttl) ∧
  w.cell? ⟨b, o + 3, none⟩ = some (.int .i64 r.n) ∧ w.cell? ⟨b, o + 4, none⟩ = some (.string r.host) ∧ w.cell? ⟨b, o + 5, none⟩ = some (.string r.text)
/-- The slice with address A and n elements reads, in w, as the records l, all of them in a block below B. -/
def Sr (w : World) (B : Nat) (A : Option Addr) (n : Nat) (l : List Rec) : Prop :=
  l.length = n ∧ (0 < n → ∃ b off, A = some ⟨b, off, none⟩ ∧ b < B ∧ ∀ j (h : j < l.length), Ce w b (off + j * 6) l[j])

section
variable {w w' : World} {B B' n g b o : Nat} {A : Option Addr} {l : List Rec} {t : TypeId} {r : Rec}
theorem Ce.move (h : Ce w b o r) (hk : ∀ p : Addr, p.block = b → w'.cell? p = w.cell? p) : Ce w' b o r :=
  ⟨(hk _ rfl).trans h.1, (hk _ rfl).trans h.2.1, (hk _ rfl).trans h.2.2.1, (hk _ rfl).trans h.2.2.2.1, (hk _ rfl).trans h.2.2.2.2.1, (hk _ rfl).trans h.2.2.2.2.2⟩
theorem Ce.below (h : Ce w b o r) (hb : Below B w w') (hl : b < B) : Ce w' b o r := h.move fun p hp => hb.cell (by rw [hp]; exact hl)
theorem Sr.len (h : Sr w B A n l) : l.length = n := h.1
theorem Sr.nil : Sr w B A 0 [] := ⟨rfl, fun h => absurd h (Nat.lt_irrefl _)⟩
theorem Sr.below (h : Sr w B A n l) (hb : Below B w w') : Sr w' B A n l := by
  refine ⟨h.1, fun hn => ?_⟩
  obtain ⟨b, off, hA, hl, hc⟩ := h.2 hn
  exact ⟨b, off, hA, hl, fun j hj => (hc j hj).below hb hl⟩
theorem Sr.wider (h : Sr w B A n l) (hB : B ≤ B') : Sr w B' A n l := by
  refine ⟨h.1, fun hn => ?_⟩
  obtain ⟨b, off, hA, hb, hc⟩ := h.2 hn
  exact ⟨b, off, hA, Nat.lt_of_lt_of_le hb hB, hc⟩
/-- What holds in this world's memory holds behind a call that turned nothing. -/
theorem Sr.on (h : Sr w w.heap.size A n l) (hb : Below w.heap.size w w') : Sr w' w'.heap.size A n l := (h.below hb).wider hb.size
theorem bk_ce {v : List Value} (h : Bk w g t (fl l ++ v)) (j : Nat) (hj : j < l.length) : Ce w g (j * 6) l[j] := by
  have hc : ∀ c, c < 6 → w.cell? ⟨g, j * 6 + c, none⟩ = (rc l[j])[c]? := fun c hc => by
    rw [h.cell, List.getElem?_append_left (by rw [fl_len]; omega), fl_get l j c hj hc]
  exact ⟨hc 0 (by omega), hc 1 (by omega), hc 2 (by omega), hc 3 (by omega), hc 4 (by omega), hc 5 (by omega)⟩
/-- A block of records with room behind, read as a slice over its head. -/
theorem bk_sr {v : List Value} (h : Bk w g t (fl l ++ v)) (hn : l.length = n) : Sr w w.heap.size (some ⟨g, 0, none⟩) n l :=
  ⟨hn, fun _ => ⟨g, 0, rfl, h.lt, fun j hj => by rw [Nat.zero_add]; exact bk_ce h j hj⟩⟩
theorem bk_sr0 (h : Bk w g t (fl l)) (hn : l.length = n) : Sr w w.heap.size (some ⟨g, 0, none⟩) n l := bk_sr (v := []) (by rw [List.append_nil]; exact h) hn
/-- What the call owns as a row of records is such a block. -/
theorem bk_of_owns6 {base cap : Nat} {xs : List Value} (h : w.ownsRow base t 6 (.slice (some ⟨g, 0, none⟩) n cap) n xs) : ∃ r, Bk w g t (xs ++ r) ∧ (xs ++ r).length = cap * 6 ∧ n ≤ cap ∧ base ≤ g := by
  rcases h.2 with ⟨h1, _⟩ | ⟨g', cap', cur, hv, hb, hh, hle, _, hs, ht⟩
  · cases h1
  · simp only [Value.slice.injEq, Option.some.injEq, Addr.mk.injEq, true_and, and_true] at hv
    obtain ⟨rfl, rfl⟩ := hv
    refine ⟨cur.toList.drop (n * 6), ?_, ?_, hle, hb⟩
    · unfold Bk; rw [hh, ← ht]; simp
    · rw [← ht]; simp; omega
end
end Go.Proofs.YtmkcjjgicinggaaGreatDoor.MemR
