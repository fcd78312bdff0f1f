/- What the steps of the program's walkName do (labelError, followPointer, takeLabel): they move the progress that stands in a block of its own as WireMath tells, and turn nothing else that was there. Conditions: at most 400000000 bytes; the library's variable internal/bytealg.MaxLen holds an int. -/
import Derived.Test.YtkfibepejlgniaaGreatDoorWalkSpec
import Derived.Test.YtkfibepejlgniaaGreatDoorNameOk
import Derived.Test.YtkfibepejlgniaaGreatDoorJoin
import Derived.Test.YtkfibepejlgniaaGreatDoorGet
namespace Go.Proofs.YtkfibepejlgniaaGreatDoor.WalkImpl
open Go.RowKit Go.Proofs.YtkfibepejlgniaaGreatDoor.Mem Go.Proofs.YtkfibepejlgniaaGreatDoor.MemS Go.Proofs.YtkfibepejlgniaaGreatDoor.AppS Go.Proofs.YtkfibepejlgniaaGreatDoor.JoinSpec Go.Proofs.YtkfibepejlgniaaGreatDoor.Labels Go.Proofs.YtkfibepejlgniaaGreatDoor.Label Go.Proofs.YtkfibepejlgniaaGreatDoor.GetLabel Go.Proofs.YtkfibepejlgniaaGreatDoor.NameOk Go.Proofs.YtkfibepejlgniaaGreatDoor.WireMath Go.Proofs.YtkfibepejlgniaaGreatDoor.WalkSpec Go.Proofs.YtkfibepejlgniaaGreatDoor.Get

/-- The progress as it stands in block g. -/
def Nw (w : World) (g : Nat) (v : Value) (k m j a : Int) : Prop := Bk w g 144 [v, .int .i64 k, .int .i64 m, .int .i64 j, .int .i64 a]
section
variable {w w' : World} {g : Nat} {v : Value} {k m j a : Int}
theorem Nw.lt (h : Nw w g v k m j a) : g < w.heap.size := Bk.lt h
theorem Nw.c0 (h : Nw w g v k m j a) : w.cell? ⟨g, 0, none⟩ = some v := by rw [Bk.cell h]; rfl
theorem Nw.c1 (h : Nw w g v k m j a) : w.cell? ⟨g, 1, none⟩ = some (.int .i64 k) := by rw [Bk.cell h]; rfl
theorem Nw.c2 (h : Nw w g v k m j a) : w.cell? ⟨g, 2, none⟩ = some (.int .i64 m) := by rw [Bk.cell h]; rfl
theorem Nw.c3 (h : Nw w g v k m j a) : w.cell? ⟨g, 3, none⟩ = some (.int .i64 j) := by rw [Bk.cell h]; rfl
theorem Nw.c4 (h : Nw w g v k m j a) : w.cell? ⟨g, 4, none⟩ = some (.int .i64 a) := by rw [Bk.cell h]; rfl
theorem Nw.free (h : Nw w g v k m j a) (i : Nat) : w.frozen? ⟨g, i, none⟩ = false := Bk.free h i
theorem Nw.s0 (h : Nw w g v k m j a) (u : Value) : Nw (w.setCell ⟨g, 0, none⟩ u) g u k m j a := Bk.set h 0 u
theorem Nw.s1 (h : Nw w g v k m j a) (u : Int) : Nw (w.setCell ⟨g, 1, none⟩ (.int .i64 u)) g v u m j a := Bk.set h 1 _
theorem Nw.s2 (h : Nw w g v k m j a) (u : Int) : Nw (w.setCell ⟨g, 2, none⟩ (.int .i64 u)) g v k u j a := Bk.set h 2 _
theorem Nw.s3 (h : Nw w g v k m j a) (u : Int) : Nw (w.setCell ⟨g, 3, none⟩ (.int .i64 u)) g v k m u a := Bk.set h 3 _
theorem Nw.s4 (h : Nw w g v k m j a) (u : Int) : Nw (w.setCell ⟨g, 4, none⟩ (.int .i64 u)) g v k m j u := Bk.set h 4 _
theorem Nw.below {B : Nat} (h : Nw w g v k m j a) (hb : Below B w w') (hg : g < B) : Nw w' g v k m j a := Bk.below h hb hg
end
theorem grown_refl (a : World) (r : Option Nat) : a.grownBy a r := ⟨rfl, rfl, rfl, Nat.le_refl _, fun _ _ _ => rfl⟩
theorem grown_set {w wr : World} {g : Nat} (h : w.grownBy wr (some g)) (j : Nat) (u : Value) : w.grownBy (wr.setCell ⟨g, j, none⟩ u) (some g) :=
  ⟨h.os, h.tape, h.output, by simpa [World.setCell] using h.size, fun k hk hne => by
    rw [Below.heap_setCell _ _ _ _ (fun e => hne (by simp [e]))]; exact h.block k hk hne⟩

/-- Why there is no label at offset k. Defs, so that no step of a walk opens them. -/
def ler (l : List UInt8) (k : Int) : Nat := if bt l k ≤ 12 ∧ (l.length : Int) < k + 1 + bt l k then 1 else 2
/-- The offset behind the first pointer. -/
def aft (j : Nat) (k a : Int) : Int := if j = 0 then k + 2 else a

set_option maxHeartbeats 1000000 in
theorem labelError (A : Option Addr) (n c : Nat) (l : List UInt8) (k : Nat) (w : World) (B : Nat) (hs : Sl w B A n l) (hn : n ≤ 400000000) (hk : k < n) :
    Calls Tryz.prog 192 #[.slice A n c, .int .i64 (k : Int)] w fun e w' => e = .returned (.int .i64 (ler l (k : Int) : Int)) ∧ w = w' := by
  have hkl : k < l.length := by have := hs.1; omega
  have HL := Lib.hid hs.1
  obtain ⟨b, off, rfl, hbB, hcs⟩ := hs.2 (by omega)
  have hcell : w.cell? ⟨b, off + k, none⟩ = some (.int .u8 (l[k].toNat : Int)) := hcs k hkl
  have HY := Lib.hid (bt_nat l k hkl)
  have hy1 : l[k].toNat < 256 := l[k].toNat_lt
  clear hs hcs
  generalize l[k].toNat = y at *
  by_cases h1 : y ≤ 12
  · by_cases h2 : n < k + 1 + y
    · have HV : Hid (ler l (k : Int) = 1) := by show _ = _; rw [ler, HY.out, HL.out, if_pos (by omega)]
      go_enter Tryz.func192, Tryz.ntmps192
      go_wp2
      go_ret
      rw [HV.out]
      exact ⟨rfl, rfl⟩
    · have HV : Hid (ler l (k : Int) = 2) := by show _ = _; rw [ler, HY.out, HL.out, if_neg (by omega)]
      go_enter Tryz.func192, Tryz.ntmps192
      go_wp2
      go_ret
      rw [HV.out]
      exact ⟨rfl, rfl⟩
  · have HV : Hid (ler l (k : Int) = 2) := by show _ = _; rw [ler, HY.out, HL.out, if_neg (by omega)]
    go_enter Tryz.func192, Tryz.ntmps192
    go_wp2
    go_ret
    rw [HV.out]
    exact ⟨rfl, rfl⟩

set_option maxHeartbeats 1000000 in
theorem follow_cut (A : Option Addr) (n c : Nat) (g : Nat) (v : Value) (k : Nat) (m j a : Int) (w : World) (hw : Nw w g v (k : Int) m j a) (hn : n ≤ 400000000) (hk : n ≤ k + 1) (hk2 : k < n) :
    Calls Tryz.prog 175 #[.pointer (some ⟨g, 0, none⟩), .slice A n c] w fun e w' => e = .returned (.int .i64 1) ∧ w = w' := by
  have h1 := hw.c1
  clear hw
  go_enter Tryz.func175, Tryz.ntmps175
  go_wp2_with fail
  refine (implGet2_no A n c w (k : Int) hn (by omega)).mono ?_
  rintro e w1 ⟨rfl, rfl⟩
  go_wp2
  go_ret
  exact ⟨rfl, rfl⟩

theorem be_tg {l : List UInt8} {k : Nat} (h : k + 2 ≤ l.length) : be ((l.drop k).take 2) - 49152 = tg l (k : Int) := by
  rw [be2 l k h, tg, bt_nat l k (by omega), show ((k : Int) + 1) = ((k + 1 : Nat) : Int) by omega, bt_nat l (k + 1) (by omega)]
  omega

set_option maxHeartbeats 1000000 in
theorem follow_bad (A : Option Addr) (n c : Nat) (l : List UInt8) (g : Nat) (v : Value) (k : Nat) (m j a : Int) (w : World) (B : Nat) (hs : Sl w B A n l) (hw : Nw w g v (k : Int) m j a) (hn : n ≤ 400000000) (hnc : n ≤ c) (hk : k + 1 < n) (hm : m ≤ tg l (k : Int)) :
    Calls Tryz.prog 175 #[.pointer (some ⟨g, 0, none⟩), .slice A n c] w fun e w' => e = .returned (.int .i64 3) ∧ w = w' := by
  have h1 := hw.c1
  have h2 := hw.c2
  have hl := hs.1
  have G2 := Lib.hid (implGet2_yes A n c l w B k hs hnc hn (by omega))
  have hbe := be_tg (l := l) (k := k) (by omega)
  have hb0 := be_pos ((l.drop k).take 2)
  have hb1 := be_lt ((l.drop k).take 2) (by simp; omega)
  generalize be ((l.drop k).take 2) = q at *
  clear hw hs
  go_enter Tryz.func175, Tryz.ntmps175
  go_wp2_with fail
  refine G2.out.mono ?_
  rintro e w1 ⟨rfl, rfl⟩
  have hq : m ≤ q - 49152 := by omega
  go_wp2
  go_ret
  exact ⟨rfl, rfl⟩

set_option maxHeartbeats 1000000 in
theorem follow_jump (A : Option Addr) (n c : Nat) (l : List UInt8) (g : Nat) (v : Value) (k : Nat) (m a : Int) (j : Nat) (w : World) (B : Nat) (hs : Sl w B A n l) (hw : Nw w g v (k : Int) m (j : Int) a) (hn : n ≤ 400000000) (hnc : n ≤ c) (hk : k + 1 < n) (hm : ¬ m ≤ tg l (k : Int)) (hj : j ≤ 16384) :
    Calls Tryz.prog 175 #[.pointer (some ⟨g, 0, none⟩), .slice A n c] w fun e w' => e = .returned (.int .i64 0) ∧ Nw w' g v (tg l (k : Int)) (tg l (k : Int)) ((j + 1 : Nat) : Int) (aft j (k : Int) a) ∧ w.grownBy w' (some g) := by
  have h1 := hw.c1
  have h2 := hw.c2
  have h3 := hw.c3
  have h4 := hw.c4
  have f1 := hw.free 1
  have f2 := hw.free 2
  have f3 := hw.free 3
  have f4 := hw.free 4
  have hl := hs.1
  have G2 := Lib.hid (implGet2_yes A n c l w B k hs hnc hn (by omega))
  have hbe := be_tg (l := l) (k := k) (by omega)
  have hb0 := be_pos ((l.drop k).take 2)
  have hb1 := be_lt ((l.drop k).take 2) (by simp; omega)
  have HW := Lib.hid hw
  generalize be ((l.drop k).take 2) = q at *
  rw [← hbe] at hm ⊢
  clear hw hs hbe
  have hcast : ((j + 1 : Nat) : Int) = (j : Int) + 1 := by omega
  rw [hcast]
  clear hcast
  go_enter Tryz.func175, Tryz.ntmps175
  go_wp2_with fail
  refine G2.out.mono ?_
  rintro e w1 ⟨rfl, rfl⟩
  have hq : ¬ m ≤ q - 49152 := by omega
  by_cases hj0 : j = 0
  · have HA : Hid (aft j (k : Int) a = (k : Int) + 2) := if_pos hj0
    subst hj0
    go_wp2
    go_ret
    rw [HA.out]
    exact ⟨rfl, ((((HW.out.s4 _).s1 _).s2 _).s3 _), grown_set (grown_set (grown_set (grown_set (grown_refl _ _) _ _) _ _) _ _) _ _⟩
  · have hjn : ((j : Int) == 0) = false := by rw [beq_eq_false_iff_ne]; omega
    have HA : Hid (aft j (k : Int) a = a) := if_neg hj0
    go_wp2
    go_ret
    rw [HA.out]
    exact ⟨rfl, (((HW.out.s1 _).s2 _).s3 _), grown_set (grown_set (grown_set (grown_refl _ _) _ _) _ _) _ _⟩

theorem env_at {w w' : World} {B : Nat} (h : Env w) (hb : Below B w w') (hB : 0 < B) : Env w' := by
  obtain ⟨m, hm⟩ := h
  exact ⟨m, (hb.cell (p := ⟨0, 0, none⟩) hB).trans hm⟩
theorem grown_of_below {w w' : World} (h : Below w.heap.size w w') (r : Option Nat) : w.grownBy w' r := ⟨h.os, h.tape, h.output, h.size, fun k hk _ => h.block k hk⟩
/-- The texts L stand as a row of their own at or beyond base. -/
def Rw (w : World) (base : Nat) (v : Value) (L : List ByteArray) : Prop := w.ownsRow base 9 1 v L.length (L.map tv)
theorem Rw.far {w w' : World} {g : Nat} {v : Value} {L : List ByteArray} (h : Rw w (g + 1) v L) (hg : w.grownBy w' (some g)) : Rw w' (g + 1) v L := by
  refine World.ownsRow.kept h hg ?_
  cases hv : v.ownBlock with
  | none => exact Or.inl rfl
  | some k =>
    have := (World.ownsRow.lt h k hv).1
    exact Or.inr (fun e => by have := Option.some.inj e; omega)
theorem Rw.below {w w' : World} {base : Nat} {v : Value} {L : List ByteArray} (h : Rw w base v L) (hb : Below w.heap.size w w') : Rw w' base v L := by
  refine World.ownsRow.kept h (grown_of_below hb none) ?_
  cases hv : v.ownBlock with
  | none => exact Or.inl rfl
  | some k => exact Or.inr (by simp)
theorem Rw.not {w : World} {g : Nat} {v : Value} {L : List ByteArray} (h : Rw w (g + 1) v L) : some g ≠ v.ownBlock := fun e => by
  have := (World.ownsRow.lt h g e.symm).1
  omega
theorem Rw.ss {w : World} {base g' n' c' : Nat} {L : List ByteArray} (h : Rw w base (.slice (some ⟨g', 0, none⟩) n' c') L) (hn : n' = L.length) : Ss w w.heap.size (some ⟨g', 0, none⟩) n' L ∧ n' ≤ c' := by
  subst hn
  obtain ⟨r, hk, hr, _⟩ := bk_of_owns h
  exact ⟨bk_ssw hk rfl, by rw [← hr, List.length_append, List.length_map]; omega⟩

/-- append of one new text onto a row of one's own, nil or not. -/
theorem append_onev {P : Program} {w : World} {ops : Array Oper} {rest : List Oper} {o : Oper} {a : Act} {Q : Exit → Act → World → Prop} (hgd : o.guard = none) (s x : Operand) (t : TypeId)
    (ho : o.op = .call { callee := .builtin .append, args := #[s, x], argTypes := #[t, t] })
    (base : Nat) (i : TypeInfo) (z : Value) (ht : P.underlying t = some (.slice 9)) (hi : P.info? 9 = some i) (hz : i.zero = some z)
    (hsize : i.size = 1) (hby : i.bytes = 16) (hzs : z.cells.size = 1)
    (v : Value) (l : List ByteArray) (hs : a.eval s = v) (hown : Rw w base v l)
    (y : ByteArray) (hx : a.eval x = .slice (some ⟨w.heap.size, 0, none⟩) 1 1)
    (hn : l.length ≤ 800000000) (hbase : base ≤ w.heap.size)
    (h : ∀ g' cap' w', Rw w' base (.slice (some ⟨g', 0, none⟩) (l.length + 1) cap') (l ++ [y]) → (w.alloc (.cells #[.string y] 9)).grownBy w' v.ownBlock → wpList P ops Q rest (a.put o.dst (.slice (some ⟨g', 0, none⟩) (l.length + 1) cap')) w') : wpList P ops Q (o :: rest) a (w.alloc (.cells #[.string y] 9)) := by
  refine wpList_append_own (w.alloc (.cells #[.string y] 9)) hgd s x t ho base 9 i z 1 16 ht hi hz hsize hby hzs (by decide) v l.length (l.map tv) hs (World.ownsRow.alloc hown _) ⟨w.heap.size, 0, none⟩ 1 1 [.string y] hx rfl
    (fun j u hu => ?_) (fun u hu => by simp at hu; subst hu; rfl) (by unfold maxLen; omega) (by omega) (by simp; omega) (fun v' w' h1 h2 h3 => ?_)
  · have hj : j = 0 := by have := (List.getElem?_eq_some_iff.1 hu).1; simp at this; exact this
    subst hj
    have hb : Bk (w.alloc (.cells #[.string y] 9)) w.heap.size 9 [.string y] := heap_alloc_new w _
    rw [Addr.add_lit, hb.cell]
    exact hu
  · rcases h1.2 with ⟨hv, _⟩ | ⟨g', cap', cur, hv, _⟩
    · have := (h3.1 hv).2
      omega
    · subst hv
      have e : (l ++ [y]).length = l.length + 1 := by simp
      refine h g' cap' w' ?_ h2
      unfold Rw
      rw [List.map_append, e]
      exact h1

set_option maxHeartbeats 1000000 in
theorem take_none (A : Option Addr) (n c : Nat) (l : List UInt8) (g : Nat) (v : Value) (k : Nat) (m j a : Int) (w : World) (hs : Sl w w.heap.size A n l) (hw : Nw w g v (k : Int) m j a) (hn : n ≤ 400000000) (hnc : n ≤ c) (hk : k < n) (hh : has l (k : Int) = none) :
    Calls Tryz.prog 176 #[.pointer (some ⟨g, 0, none⟩), .slice A n c] w fun e w' => e = .returned (.int .i64 (ler l (k : Int) : Int)) ∧ Below w.heap.size w w' := by
  have h1 := hw.c1
  have GL := Lib.hid (GetLabel.impl_any A n c l (k : Int) w w.heap.size hs hn hnc)
  rw [hh] at GL
  have HW := Lib.hid hw
  have HS := Lib.hid hs
  clear hw hs hh
  go_enter Tryz.func176, Tryz.ntmps176
  go_wp2_with fail
  refine GL.out.mono ?_
  rintro e w1 ⟨rfl, hl⟩
  have L1 := Lib.hid hl
  have h1 := (HW.out.below hl HW.out.lt).c1
  clear hl
  simp only [val]
  go_wp2_with fail
  refine (labelError A n c l k w1 w.heap.size (HS.out.below L1.out) hn hk).mono ?_
  rintro e w2 ⟨rfl, rfl⟩
  go_wp2
  go_ret
  exact ⟨rfl, L1.out⟩

/-- A label was taken: the texts are L, the progress stands at offset k. -/
def Took (w : World) (g : Nat) (L : List ByteArray) (k m j a : Int) (code : Int) (e : Ending) (w' : World) : Prop :=
  e = .returned (.int .i64 code) ∧ (∃ g' c', Nw w' g (.slice (some ⟨g', 0, none⟩) L.length c') k m j a ∧ Rw w' (g + 1) (.slice (some ⟨g', 0, none⟩) L.length c') L) ∧ Below g w w'

set_option maxRecDepth 100000 in
set_option maxHeartbeats 4000000 in
theorem take_ok (A : Option Addr) (n c : Nat) (l : List UInt8) (g : Nat) (A' : Option Addr) (n' c' : Nat) (L : List ByteArray) (k : Nat) (m j a : Int) (p : ByteArray) (e0 : Nat) (w : World) (hg0 : 0 < g) (he : Env w) (hs : Sl w w.heap.size A n l) (hw : Nw w g (.slice A' n' c') (k : Int) m j a)
    (hr : Rw w (g + 1) (.slice A' n' c') L) (hn : n ≤ 400000000) (hnc : n ≤ c) (hh : has l (k : Int) = some (p, e0)) (hL : L.length ≤ 6) (hK : okL (L ++ [p]) = true) (hb : Nm (Jo (L ++ [p])) = true) :
    Calls Tryz.prog 176 #[.pointer (some ⟨g, 0, none⟩), .slice A n c] w (Took w g (L ++ [p]) (e0 : Int) m j a 0) := by
  obtain ⟨i0, hi, hz0, hz1, hz2⟩ := info_parts AppS.info
  have h1 := hw.c1
  have GL := Lib.hid (GetLabel.impl_any A n c l (k : Int) w w.heap.size hs hn hnc)
  rw [hh] at GL
  have HW := Lib.hid hw
  have HR := Lib.hid hr
  have HE := Lib.hid he
  have HLN : Hid (L.length + 1 = (L ++ [p]).length) := by show _ = _; simp
  have HSM := Lib.hid (sum_small hK (by rw [← HLN.out]; omega))
  have HSZ : Hid ((Jo (L ++ [p])).size ≤ 400000000) := by
    show _ ≤ _
    have h2 := jo_size (L ++ [p]) (L ++ [p]).length (Nat.le_refl _)
    rw [List.take_length] at h2
    have h3 := HSM.out
    rw [Jo_size]
    omega
  have NO := Lib.hid (fun w he => NameOk.impl (Jo (L ++ [p])) w he HSZ.out)
  rw [hb] at NO
  clear hw hs hh hr he hK hb
  go_enter Tryz.func176, Tryz.ntmps176
  go_wp2_with fail
  refine GL.out.mono ?_
  rintro e w1 ⟨rfl, hl⟩
  have L1 := Lib.hid hl
  have W1 := Lib.hid (HW.out.below hl HW.out.lt)
  have R1 := Lib.hid (HR.out.below hl)
  have h0 := W1.out.c0
  clear hl h1
  simp only [val]
  go_wp2_with (at_builtin; refine append_onev rfl (.tmp 30) (.tmp 32) 85 rfl (g + 1) i0 (.string ⟨#[]⟩) Tryz.underlying85 hi hz0 hz1 hz2 rfl (.slice A' n' c') L rfl R1.out p rfl ?c1 ?c2 ?_)
  case c1 => omega
  case c2 => exact W1.out.lt
  intro g' cap' w2 hown hgrow
  have R2 := Lib.hid hown
  have W2 : Hid (Nw w2 g (.slice A' n' c') (k : Int) m j a) := Bk.grown (Bk.alloc W1.out _) hgrow R1.out.not
  have L2 : Hid (Below g w w2) := ((L1.out.mono (Nat.le_of_lt HW.out.lt)).alloc (Nat.le_of_lt W1.out.lt) _).grown hgrow (by have := W1.out.lt; simp; omega) (fun q hq => by have := (World.ownsRow.lt R1.out q hq).1; omega)
  clear hown hgrow R1 L1 h0
  have h0 := W2.out.c0
  have f0 := W2.out.free 0
  have W3 := Lib.hid (W2.out.s0 (.slice (some ⟨g', 0, none⟩) (L.length + 1) cap'))
  have R3 := Lib.hid (R2.out.far (grown_set (grown_refl w2 (some g)) 0 (.slice (some ⟨g', 0, none⟩) (L.length + 1) cap')))
  have L3 := Lib.hid (L2.out.setCell (p := ⟨g, 0, none⟩) (Nat.le_refl _) (.slice (some ⟨g', 0, none⟩) (L.length + 1) cap'))
  have h30 := W3.out.c0
  clear W1 W2 L2 R2
  go_wp2_with fail
  clear h0 f0 h30
  generalize w2.setCell ⟨g, 0, none⟩ (.slice (some ⟨g', 0, none⟩) (L.length + 1) cap') = w3 at *
  refine (Join.impl _ _ _ (L ++ [p]) w3 (R3.out.ss HLN.out).1 (R3.out.ss HLN.out).2 (by have := HSM.out; omega)).mono ?_
  rintro e w4 ⟨rfl, hl⟩
  have W4 := Lib.hid (W3.out.below hl W3.out.lt)
  have R4 := Lib.hid (R3.out.below hl)
  have L4 := Lib.hid (L3.out.trans (hl.mono (Nat.le_of_lt W3.out.lt)))
  clear hl W3 R3 L3
  go_wp2_with fail
  refine (NO.out w4 (env_at HE.out L4.out hg0)).mono ?_
  rintro e w5 ⟨rfl, hl⟩
  have W5 := Lib.hid (W4.out.below hl W4.out.lt)
  have R5 := Lib.hid (R4.out.below hl)
  have L5 := Lib.hid (L4.out.trans (hl.mono (Nat.le_of_lt W4.out.lt)))
  clear hl W4 R4 L4
  have h51 := W5.out.c1
  have f51 := W5.out.free 1
  go_wp2
  go_ret
  unfold Took
  rw [← HLN.out]
  exact ⟨rfl, ⟨g', cap', W5.out.s1 _, R5.out.far (grown_set (grown_refl _ (some g)) 1 _)⟩, L5.out.setCell (p := ⟨g, 1, none⟩) (Nat.le_refl _) _⟩

set_option maxRecDepth 100000 in
set_option maxHeartbeats 4000000 in
theorem take_long (A : Option Addr) (n c : Nat) (l : List UInt8) (g : Nat) (A' : Option Addr) (n' c' : Nat) (L : List ByteArray) (k : Nat) (m j a : Int) (p : ByteArray) (e0 : Nat) (w : World) (hg0 : 0 < g) (he : Env w) (hs : Sl w w.heap.size A n l) (hw : Nw w g (.slice A' n' c') (k : Int) m j a)
    (hr : Rw w (g + 1) (.slice A' n' c') L) (hn : n ≤ 400000000) (hnc : n ≤ c) (hh : has l (k : Int) = some (p, e0)) (hL : L.length ≤ 6) (hK : okL (L ++ [p]) = true) (hb : Nm (Jo (L ++ [p])) = false) :
    Calls Tryz.prog 176 #[.pointer (some ⟨g, 0, none⟩), .slice A n c] w (Took w g (L ++ [p]) (k : Int) m j a 4) := by
  obtain ⟨i0, hi, hz0, hz1, hz2⟩ := info_parts AppS.info
  have h1 := hw.c1
  have GL := Lib.hid (GetLabel.impl_any A n c l (k : Int) w w.heap.size hs hn hnc)
  rw [hh] at GL
  have HW := Lib.hid hw
  have HR := Lib.hid hr
  have HE := Lib.hid he
  have HLN : Hid (L.length + 1 = (L ++ [p]).length) := by show _ = _; simp
  have HSM := Lib.hid (sum_small hK (by rw [← HLN.out]; omega))
  have HSZ : Hid ((Jo (L ++ [p])).size ≤ 400000000) := by
    show _ ≤ _
    have h2 := jo_size (L ++ [p]) (L ++ [p]).length (Nat.le_refl _)
    rw [List.take_length] at h2
    have h3 := HSM.out
    rw [Jo_size]
    omega
  have NO := Lib.hid (fun w he => NameOk.impl (Jo (L ++ [p])) w he HSZ.out)
  rw [hb] at NO
  clear hw hs hh hr he hK hb
  go_enter Tryz.func176, Tryz.ntmps176
  go_wp2_with fail
  refine GL.out.mono ?_
  rintro e w1 ⟨rfl, hl⟩
  have L1 := Lib.hid hl
  have W1 := Lib.hid (HW.out.below hl HW.out.lt)
  have R1 := Lib.hid (HR.out.below hl)
  have h0 := W1.out.c0
  clear hl h1
  simp only [val]
  go_wp2_with (at_builtin; refine append_onev rfl (.tmp 30) (.tmp 32) 85 rfl (g + 1) i0 (.string ⟨#[]⟩) Tryz.underlying85 hi hz0 hz1 hz2 rfl (.slice A' n' c') L rfl R1.out p rfl ?c1 ?c2 ?_)
  case c1 => omega
  case c2 => exact W1.out.lt
  intro g' cap' w2 hown hgrow
  have R2 := Lib.hid hown
  have W2 : Hid (Nw w2 g (.slice A' n' c') (k : Int) m j a) := Bk.grown (Bk.alloc W1.out _) hgrow R1.out.not
  have L2 : Hid (Below g w w2) := ((L1.out.mono (Nat.le_of_lt HW.out.lt)).alloc (Nat.le_of_lt W1.out.lt) _).grown hgrow (by have := W1.out.lt; simp; omega) (fun q hq => by have := (World.ownsRow.lt R1.out q hq).1; omega)
  clear hown hgrow R1 L1 h0
  have h0 := W2.out.c0
  have f0 := W2.out.free 0
  have W3 := Lib.hid (W2.out.s0 (.slice (some ⟨g', 0, none⟩) (L.length + 1) cap'))
  have R3 := Lib.hid (R2.out.far (grown_set (grown_refl w2 (some g)) 0 (.slice (some ⟨g', 0, none⟩) (L.length + 1) cap')))
  have L3 := Lib.hid (L2.out.setCell (p := ⟨g, 0, none⟩) (Nat.le_refl _) (.slice (some ⟨g', 0, none⟩) (L.length + 1) cap'))
  have h30 := W3.out.c0
  clear W1 W2 L2 R2
  go_wp2_with fail
  clear h0 f0 h30
  generalize w2.setCell ⟨g, 0, none⟩ (.slice (some ⟨g', 0, none⟩) (L.length + 1) cap') = w3 at *
  refine (Join.impl _ _ _ (L ++ [p]) w3 (R3.out.ss HLN.out).1 (R3.out.ss HLN.out).2 (by have := HSM.out; omega)).mono ?_
  rintro e w4 ⟨rfl, hl⟩
  have W4 := Lib.hid (W3.out.below hl W3.out.lt)
  have R4 := Lib.hid (R3.out.below hl)
  have L4 := Lib.hid (L3.out.trans (hl.mono (Nat.le_of_lt W3.out.lt)))
  clear hl W3 R3 L3
  go_wp2_with fail
  refine (NO.out w4 (env_at HE.out L4.out hg0)).mono ?_
  rintro e w5 ⟨rfl, hl⟩
  have W5 := Lib.hid (W4.out.below hl W4.out.lt)
  have R5 := Lib.hid (R4.out.below hl)
  have L5 := Lib.hid (L4.out.trans (hl.mono (Nat.le_of_lt W4.out.lt)))
  clear hl W4 R4 L4
  have h51 := W5.out.c1
  have f51 := W5.out.free 1
  go_wp2
  go_ret
  unfold Took
  rw [← HLN.out]
  exact ⟨rfl, ⟨g', cap', W5.out, R5.out⟩, L5.out⟩
end Go.Proofs.YtkfibepejlgniaaGreatDoor.WalkImpl
