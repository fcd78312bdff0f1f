/- Plain facts on memory: zones and posts in slices, and what a name space reads as. -/
import Derived.Test.YtmkcjjgicinggaaGreatDoorMemZ
namespace Go.Proofs.YtmkcjjgicinggaaGreatDoor.MemF
open Go.RowKit Go.Proofs.YtmkcjjgicinggaaGreatDoor.Mem Go.Proofs.YtmkcjjgicinggaaGreatDoor.MemR Go.Proofs.YtmkcjjgicinggaaGreatDoor.BoxR Go.Proofs.YtmkcjjgicinggaaGreatDoor.MemZ

/-- A zone. -/
structure Zn where
  apex : ByteArray
  l : List Rec

/-- A post. -/
structure Pst where
  addr : Int
  apex : ByteArray

/-- Whether a slice has an address. -/
def Ad (A : Option Addr) : Prop := ∃ g o, A = some ⟨g, o, none⟩

/-- From offset o on, block b holds the zone z: its apex, and a slice of its records in a block below B; where own holds, no slice is nil. -/
def Cz (own : Prop) (w : World) (B b o : Nat) (z : Zn) : Prop :=
  w.cell? ⟨b, o, none⟩ = some (.string z.apex) ∧ ∃ A n c, w.cell? ⟨b, o + 1, none⟩ = some (.slice A n c) ∧ Sr w B A n z.l ∧ (own → Ad A)

/-- The slice with address A and n elements reads, in w, as the zones zs, all of it in blocks below B. -/
def Rz (own : Prop) (w : World) (B : Nat) (A : Option Addr) (n : Nat) (zs : List Zn) : Prop :=
  zs.length = n ∧ (0 < n → ∃ b off, A = some ⟨b, off, none⟩ ∧ b < B ∧ ∀ j (h : j < zs.length), Cz own w B b (off + j * 2) zs[j])

/-- From offset o on, block b holds the post p. -/
def Cp (w : World) (b o : Nat) (p : Pst) : Prop :=
  w.cell? ⟨b, o, none⟩ = some (.int .i64 p.addr) ∧ w.cell? ⟨b, o + 1, none⟩ = some (.string p.apex)

/-- The slice with address A and n elements reads, in w, as the posts ps, all of them in a block below B. -/
def Rp (w : World) (B : Nat) (A : Option Addr) (n : Nat) (ps : List Pst) : Prop :=
  ps.length = n ∧ (0 < n → ∃ b off, A = some ⟨b, off, none⟩ ∧ b < B ∧ ∀ j (h : j < ps.length), Cp w b (off + j * 2) ps[j])

section
variable {own : Prop} {w w' : World} {B B' n m b o : Nat} {A P : Option Addr} {zs : List Zn} {ps : List Pst} {z : Zn} {p : Pst}

theorem Cz.below (h : Cz own w B b o z) (hb : Below B w w') (hl : b < B) : Cz own w' B b o z := by
  obtain ⟨h0, A, n, c, h1, h2, h3⟩ := h
  exact ⟨(hb.cell (p := ⟨b, o, none⟩) hl).trans h0, A, n, c, (hb.cell (p := ⟨b, o + 1, none⟩) hl).trans h1, h2.below hb, h3⟩

theorem Cz.wider (h : Cz own w B b o z) (hB : B ≤ B') : Cz own w B' b o z := by
  obtain ⟨h0, A, n, c, h1, h2, h3⟩ := h
  exact ⟨h0, A, n, c, h1, h2.wider hB, h3⟩

theorem Rz.below (h : Rz own w B A n zs) (hb : Below B w w') : Rz own w' B A n zs := by
  refine ⟨h.1, fun hn => ?_⟩
  obtain ⟨b, off, hA, hl, hc⟩ := h.2 hn
  exact ⟨b, off, hA, hl, fun j hj => (hc j hj).below hb hl⟩

theorem Rz.wider (h : Rz own w B A n zs) (hB : B ≤ B') : Rz own w B' A n zs := by
  refine ⟨h.1, fun hn => ?_⟩
  obtain ⟨b, off, hA, hl, hc⟩ := h.2 hn
  exact ⟨b, off, hA, Nat.lt_of_lt_of_le hl hB, fun j hj => (hc j hj).wider hB⟩

theorem Rz.on (h : Rz own w w.heap.size A n zs) (hb : Below w.heap.size w w') : Rz own w' w'.heap.size A n zs := (h.below hb).wider hb.size

theorem Rz.nil : Rz own w B A 0 [] := ⟨rfl, fun h => absurd h (Nat.lt_irrefl _)⟩

theorem Cp.below (h : Cp w b o p) (hb : Below B w w') (hl : b < B) : Cp w' b o p :=
  ⟨(hb.cell (p := ⟨b, o, none⟩) hl).trans h.1, (hb.cell (p := ⟨b, o + 1, none⟩) hl).trans h.2⟩

theorem Rp.below (h : Rp w B A n ps) (hb : Below B w w') : Rp w' B A n ps := by
  refine ⟨h.1, fun hn => ?_⟩
  obtain ⟨b, off, hA, hl, hc⟩ := h.2 hn
  exact ⟨b, off, hA, hl, fun j hj => (hc j hj).below hb hl⟩

theorem Rp.wider (h : Rp w B A n ps) (hB : B ≤ B') : Rp w B' A n ps := by
  refine ⟨h.1, fun hn => ?_⟩
  obtain ⟨b, off, hA, hl, hc⟩ := h.2 hn
  exact ⟨b, off, hA, Nat.lt_of_lt_of_le hl hB, hc⟩

theorem Rp.on (h : Rp w w.heap.size A n ps) (hb : Below w.heap.size w w') : Rp w' w'.heap.size A n ps := (h.below hb).wider hb.size

theorem Rp.nil : Rp w B A 0 [] := ⟨rfl, fun h => absurd h (Nat.lt_irrefl _)⟩
end

/-- A name space in a world: its zones and its posts. -/
def Sf (own : Prop) (w : World) (A : Option Addr) (n : Nat) (zs : List Zn) (P : Option Addr) (m : Nat) (ps : List Pst) : Prop :=
  Rz own w w.heap.size A n zs ∧ Rp w w.heap.size P m ps

section
variable {own : Prop} {w w' : World} {n m : Nat} {A P : Option Addr} {zs : List Zn} {ps : List Pst}
theorem Sf.on (h : Sf own w A n zs P m ps) (hb : Below w.heap.size w w') : Sf own w' A n zs P m ps := ⟨h.1.on hb, h.2.on hb⟩
end

/-- Two cells in a box of their own. -/
def Fx (w : World) (g : Nat) (x y : Value) : Prop := w.cell? ⟨g, 0, none⟩ = some x ∧ w.cell? ⟨g, 1, none⟩ = some y
section
variable {w w' : World} {g B : Nat} {t : TypeId} {x y : Value}
theorem fx_of (k : Bk w g t [x, y]) : Fx w g x y := ⟨k.cell 0, k.cell 1⟩
theorem Fx.lt (k : Fx w g x y) : g < w.heap.size := World.block_lt_of_cell? _ _ k.1
theorem Fx.move (k : Fx w g x y) (e : ∀ j, w'.cell? ⟨g, j, none⟩ = w.cell? ⟨g, j, none⟩) : Fx w' g x y := ⟨(e 0).trans k.1, (e 1).trans k.2⟩
theorem Fx.below (k : Fx w g x y) (hb : Below w.heap.size w w') : Fx w' g x y := k.move fun j => hb.cell (p := ⟨g, j, none⟩) k.lt
theorem fx_new (w : World) (t : TypeId) (x y : Value) : Fx (w.alloc (.cells #[x, y] t)) w.heap.size x y :=
  fx_of (t := t) (heap_alloc_new w _)
theorem Fx.alloc (k : Fx w g x y) (o : Obj) : Fx (w.alloc o) g x y := k.below ((Below.refl _ _).alloc (Nat.le_refl _) _)
theorem Fx.grown {row : Option Nat} (k : Fx w g x y) (hb : w.grownBy w' row) (hg : some g ≠ row) : Fx w' g x y :=
  k.move fun _ => World.cell?_of_block (hb.block g k.lt hg)
end

/-- A call's own zones: their block, the blocks of their records, all different. -/
def Oz (w : World) (lo g : Nat) (zs : List Zn) (gs : List Nat) : Prop :=
  gs.length = zs.length ∧ Bk w g 37 ((zs.zip gs).flatMap fun p => [.string p.1.apex, .slice (some ⟨p.2, 0, none⟩) p.1.l.length p.1.l.length]) ∧
  (∀ p ∈ zs.zip gs, Bk w p.2 93 (fl p.1.l)) ∧ (g :: gs).Nodup ∧ ∀ h ∈ g :: gs, lo ≤ h

/-- The cells of posts. -/
def fp (ps : List Pst) : List Value := ps.flatMap fun p => [.int .i64 p.addr, .string p.apex]

section
theorem fz_len (L : List (Zn × Nat)) : (L.flatMap fun p => ([.string p.1.apex, .slice (some ⟨p.2, 0, none⟩) p.1.l.length p.1.l.length] : List Value)).length = L.length * 2 := by
  induction L with
  | nil => rfl
  | cons p L ih => rw [List.flatMap_cons, List.length_append, ih, List.length_cons]; simp; omega

theorem fz_get : ∀ (L : List (Zn × Nat)) (j : Nat) (h : j < L.length), (L.flatMap fun p => ([.string p.1.apex, .slice (some ⟨p.2, 0, none⟩) p.1.l.length p.1.l.length] : List Value))[j * 2]? = some (.string L[j].1.apex) ∧
    (L.flatMap fun p => ([.string p.1.apex, .slice (some ⟨p.2, 0, none⟩) p.1.l.length p.1.l.length] : List Value))[j * 2 + 1]? = some (.slice (some ⟨L[j].2, 0, none⟩) L[j].1.l.length L[j].1.l.length)
  | p :: L, 0, _ => ⟨rfl, rfl⟩
  | p :: L, j + 1, h => by
    have := fz_get L j (by simpa using h)
    rw [List.flatMap_cons, show (j + 1) * 2 = j * 2 + 2 by omega]
    exact this

theorem fp_len (ps : List Pst) : (fp ps).length = ps.length * 2 := by
  unfold fp
  induction ps with
  | nil => rfl
  | cons p L ih => rw [List.flatMap_cons, List.length_append, ih, List.length_cons]; simp; omega

theorem fp_get : ∀ (L : List Pst) (j : Nat) (h : j < L.length), (fp L)[j * 2]? = some (.int .i64 L[j].addr) ∧ (fp L)[j * 2 + 1]? = some (.string L[j].apex)
  | p :: L, 0, _ => ⟨rfl, rfl⟩
  | p :: L, j + 1, h => by
    have := fp_get L j (by simpa using h)
    unfold fp at *
    rw [List.flatMap_cons, show (j + 1) * 2 = j * 2 + 2 by omega]
    exact this
end

section
variable {w w' : World} {lo g n : Nat} {zs : List Zn} {ps : List Pst} {gs : List Nat} {t : TypeId}
theorem Oz.below (h : Oz w lo g zs gs) (hb : Below w.heap.size w w') : Oz w' lo g zs gs := by
  obtain ⟨h1, h2, h3, h4, h5⟩ := h
  exact ⟨h1, h2.below hb h2.lt, fun p hp => (h3 p hp).below hb (h3 p hp).lt, h4, h5⟩

/-- What the call owns reads as zones. -/
theorem Oz.sz (h : Oz w lo g zs gs) (hn : zs.length = n) : Rz True w w.heap.size (some ⟨g, 0, none⟩) n zs := by
  obtain ⟨h1, h2, h3, h4, h5⟩ := h
  refine ⟨hn, fun _ => ⟨g, 0, rfl, h2.lt, fun j hj => ?_⟩⟩
  have hz : j < (zs.zip gs).length := by rw [List.length_zip]; omega
  obtain ⟨c0, c1⟩ := fz_get (zs.zip gs) j hz
  have e1 : (zs.zip gs)[j].1 = zs[j] := by simp
  rw [e1] at c0 c1
  have hb := h3 _ (List.getElem_mem hz)
  rw [e1] at hb
  refine ⟨?_, _, _, zs[j].l.length, ?_, bk_sr0 hb rfl, fun _ => ⟨_, _, rfl⟩⟩
  · rw [Nat.zero_add, h2.cell]; exact c0
  · rw [Nat.zero_add, h2.cell]; exact c1

theorem bk_sp {v : List Value} (h : Bk w g t (fp ps ++ v)) (hn : ps.length = n) : Rp w w.heap.size (some ⟨g, 0, none⟩) n ps := by
  refine ⟨hn, fun _ => ⟨g, 0, rfl, h.lt, fun j hj => ?_⟩⟩
  obtain ⟨c0, c1⟩ := fp_get ps j hj
  have hl := fp_len ps
  refine ⟨?_, ?_⟩
  · rw [Nat.zero_add, h.cell, List.getElem?_append_left (by omega)]; exact c0
  · rw [Nat.zero_add, h.cell, List.getElem?_append_left (by omega)]; exact c1

theorem bk_sp0 (h : Bk w g t (fp ps)) (hn : ps.length = n) : Rp w w.heap.size (some ⟨g, 0, none⟩) n ps := bk_sp (v := []) (by rw [List.append_nil]; exact h) hn
end

/-- The call made a name space of its own, with these zones and posts, and turned nothing that was there. -/
def GivesF (w : World) (zs : List Zn) (ps : List Pst) (e : Ending) (w' : World) : Prop :=
  ∃ g gs h, e = .returned (.agg #[.slice (some ⟨g, 0, none⟩) zs.length zs.length, .slice (some ⟨h, 0, none⟩) ps.length ps.length]) ∧
    Oz w' w.heap.size g zs gs ∧ Bk w' h 103 (fp ps) ∧ h ∉ g :: gs ∧ w.heap.size ≤ h ∧ Below w.heap.size w w'

/-- The apexes. -/
def aps (zs : List Zn) : List ByteArray := zs.map (·.apex)
end Go.Proofs.YtmkcjjgicinggaaGreatDoor.MemF
