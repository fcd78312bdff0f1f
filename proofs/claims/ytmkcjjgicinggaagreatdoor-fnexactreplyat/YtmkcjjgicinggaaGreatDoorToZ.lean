/- What the law's own helper toZone does: the same zone with a new slice of the same records. Condition: fewer than 400000001 records. -/
import Derived.Test.YtmkcjjgicinggaaGreatDoorCopyR
import Derived.Test.YtmkcjjgicinggaaGreatDoorMemZ
namespace Go.Proofs.YtmkcjjgicinggaaGreatDoor.ToZ
open Go.RowKit Go.Proofs.YtmkcjjgicinggaaGreatDoor.Mem Go.Proofs.YtmkcjjgicinggaaGreatDoor.MemR Go.Proofs.YtmkcjjgicinggaaGreatDoor.BoxR Go.Proofs.YtmkcjjgicinggaaGreatDoor.MemZ Go.Proofs.YtmkcjjgicinggaaGreatDoor.CopyR

section
variable {w : World} {t : TypeId} {a b : Obj} {cs : Array Value}
theorem at2 : Bk ((w.alloc a).alloc (.cells cs t)) (w.heap.size + 1) t cs.toList := by
  have := heap_alloc_new (w.alloc a) (.cells cs t)
  rw [show (w.alloc a).heap.size = w.heap.size + 1 by simp] at this
  exact this
theorem at3 : Bk (((w.alloc a).alloc b).alloc (.cells cs t)) (w.heap.size + 1 + 1) t cs.toList := by
  have := heap_alloc_new ((w.alloc a).alloc b) (.cells cs t)
  rw [show ((w.alloc a).alloc b).heap.size = w.heap.size + 1 + 1 by simp] at this
  exact this
theorem results_cellZ {fn : Func} {p : Tmp} {ty : TypeId} (h : fn.results = #[.cell p ty]) (tmps : Array Value) (P : Program) (w : World) :
    (results fn tmps).run P w = Result.andThen ((asAddr (tmps.getD p undef)).run P w) fun a w => (loadVar ty a).run P w := by
  simp [results, h, go_sem]
end
theorem load_zone {w : World} {g : Nat} {t : TypeId} {s : ByteArray} {A : Option Addr} {n c : Nat} (k : Bk w g t (zc s (.slice A n c))) :
    (loadVar 37 ⟨g, 0, none⟩).run Tryz.prog w = .ok (.agg #[.string s, .slice A n c]) w := by
  obtain ⟨c0, c1⟩ := zx_of k
  simp [go_sem, c0, c1]
theorem res1Z {fn : Func} {p : Tmp} {w : World} {g : Nat} {t : TypeId} {s : ByteArray} {A : Option Addr} {n c : Nat} {tmps : Array Value} (hf : fn.results = #[.cell p 37])
    (k : Bk w g t (zc s (.slice A n c))) (h4 : tmps.getD p undef = .pointer (some ⟨g, 0, none⟩)) :
    (results fn tmps).run Tryz.prog w = .ok (.agg #[.string s, .slice A n c]) w := by
  rw [results_cellZ hf, h4, show (asAddr (.pointer (some ⟨g, 0, none⟩))).run Tryz.prog w = .ok ⟨g, 0, none⟩ w from rfl]
  simp only [Result.andThen, load_zone k]

theorem toRecordS_z (A : Option Addr) (n c : Nat) (l : List Rec) (w : World) (hs : Sr w w.heap.size A n l) (hn : n ≤ 400000000) :
    Calls Tryz.prog 98 #[.slice A n c] w fun e w' => ∃ g, e = .returned (.slice (some ⟨g, 0, none⟩) n n) ∧ Bk w' g 93 (fl l) ∧ w.heap.size ≤ g ∧ Below w.heap.size w w' :=
  (toRecordS_any A n c l w hs hn).mono fun _ _ ⟨h1, h2, h3⟩ => ⟨_, h1, h2, Nat.le_refl _, h3⟩

set_option maxRecDepth 100000 in
set_option maxHeartbeats 4000000 in
theorem toZone_any (s : ByteArray) (A : Option Addr) (n c : Nat) (l : List Rec) (w : World) (hs : Sr w w.heap.size A n l) (hn : n ≤ 400000000) :
    Calls Tryz.prog 142 #[.agg #[.string s, .slice A n c]] w (GivesZ w s n l) := by
  have S0 := Lib.hid hs
  clear hs
  have P0 := Lib.hid (((zx_new w 161 s (.slice A n c)).alloc (.cells #[.string ⟨#[]⟩, .slice none 0 0] 37)).alloc (.cells #[.string s, .slice none 0 0] 37))
  have R0 := Lib.hid ((at2 (w := w) (a := .cells #[.string s, .slice A n c] 161) (cs := #[.string ⟨#[]⟩, .slice none 0 0]) (t := 37)).alloc (.cells #[.string s, .slice none 0 0] 37))
  have O0 := Lib.hid (at3 (w := w) (a := .cells #[.string s, .slice A n c] 161) (b := .cells #[.string ⟨#[]⟩, .slice none 0 0] 37) (cs := #[.string s, .slice none 0 0]) (t := 37))
  have L0 := Lib.hid ((((Below.refl w.heap.size w).alloc (Nat.le_refl _) (.cells #[.string s, .slice A n c] 161)).alloc (by simp) (.cells #[.string ⟨#[]⟩, .slice none 0 0] 37)).alloc (by simp; omega) (.cells #[.string s, .slice none 0 0] 37))
  obtain ⟨x0, x1⟩ := P0.out
  go_enter Tryz.func142, Tryz.ntmps142
  go_wp2_with fail
  refine (toRecordS_z A n c l _ (S0.out.on L0.out) hn).mono ?_
  rintro e w3 ⟨g, rfl, hb, hg, hl⟩
  have B3 := Lib.hid hb
  have N3 : Hid (w.heap.size + 1 + 1 < g) := Nat.lt_of_lt_of_le O0.out.lt hg
  have R3 := Lib.hid (R0.out.below hl R0.out.lt)
  have O3 := Lib.hid (O0.out.below hl O0.out.lt)
  have L3 := Lib.hid (L0.out.trans (hl.mono L0.out.size))
  clear hb hg hl P0 R0 O0 L0 x0 x1
  have z1 : w3.cell? ⟨w.heap.size + 1 + 1, 1, none⟩ = some (.slice none 0 0) := O3.out.cell 1
  have f1 := O3.out.free 1
  have O4 := Lib.hid (O3.out.set 1 (.slice (some ⟨g, 0, none⟩) n n))
  have R4 := Lib.hid (R3.out.other (p := ⟨w.heap.size + 1 + 1, 1, none⟩) (by simp) (.slice (some ⟨g, 0, none⟩) n n))
  have L4 := Lib.hid (L3.out.setCell (p := ⟨w.heap.size + 1 + 1, 1, none⟩) (by simp; omega) (.slice (some ⟨g, 0, none⟩) n n))
  have B4 := Lib.hid (B3.out.other (p := ⟨w.heap.size + 1 + 1, 1, none⟩) (Nat.ne_of_gt N3.out) (.slice (some ⟨g, 0, none⟩) n n))
  have o0 : w3.cell? ⟨w.heap.size + 1 + 1, 0, none⟩ = some (.string s) := O3.out.cell 0
  have r0 : w3.cell? ⟨w.heap.size + 1, 0, none⟩ = some (.string ⟨#[]⟩) := R3.out.cell 0
  have q0 := R3.out.free 0
  have r1 : w3.cell? ⟨w.heap.size + 1, 1, none⟩ = some (.slice none 0 0) := R3.out.cell 1
  have q1 := R3.out.free 1
  have F := Lib.hid (filZ_bk (s0 := ⟨#[]⟩) (x0 := .slice none 0 0) R4.out s (.slice (some ⟨g, 0, none⟩) n n))
  have E := Lib.hid (filZ_below L4.out (g := w.heap.size + 1) (by omega) s (.slice (some ⟨g, 0, none⟩) n n))
  have I := Lib.hid (filZ_other B4.out (g := w.heap.size + 1) (by have := N3.out; omega) s (.slice (some ⟨g, 0, none⟩) n n))
  go_wp2
  refine bodyPost_ret (v := .agg #[.string s, .slice (some ⟨g, 0, none⟩) n n]) (res1Z rfl F.out rfl) rfl ⟨g, rfl, I.out, ?_, E.out⟩
  have := N3.out
  omega
end Go.Proofs.YtmkcjjgicinggaaGreatDoor.ToZ
