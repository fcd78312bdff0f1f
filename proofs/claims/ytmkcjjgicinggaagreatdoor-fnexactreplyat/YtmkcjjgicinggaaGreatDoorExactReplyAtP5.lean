/- What keyOf and KeysOf do in the program: the name and the type of a record; the keys of all records, each once. Condition: fewer than 400000001 records. -/
import Derived.Test.YtmkcjjgicinggaaGreatDoorExactReplyAtP3
import Derived.Test.YtmkcjjgicinggaaGreatDoorMemZ
import Derived.Test.YtmkcjjgicinggaaGreatDoorExactReplyAtP4
import Derived.Test.YtmkcjjgicinggaaGreatDoorMemM
import Derived.Test.YtmkcjjgicinggaaGreatDoorResR
import Derived.Test.YtmkcjjgicinggaaGreatDoorMapK
import Derived.Test.YtmkcjjgicinggaaGreatDoorExactReplyAtP1
/- What Exists does in the model: it tells whether a record's name is the name or under it. Condition: fewer than 400000001 records, no name of more than 400000000 bytes. -/
namespace Go.Proofs.YtmkcjjgicinggaaGreatDoor.ExistsS
open Go.RowKit Go.Proofs.YtmkcjjgicinggaaGreatDoor.Mem Go.Proofs.YtmkcjjgicinggaaGreatDoor.MemR Go.Proofs.YtmkcjjgicinggaaGreatDoor.SetMath Go.Proofs.YtmkcjjgicinggaaGreatDoor.NameMath Go.Proofs.YtmkcjjgicinggaaGreatDoor.ZoneMath Go.Proofs.YtmkcjjgicinggaaGreatDoor.MemZ

set_option maxHeartbeats 4000000 in
theorem spec (s nm : ByteArray) (b0 o0 n c : Nat) (l : List Rec) (w : World) (hs : Sr w w.heap.size (some ⟨b0, o0, none⟩) n l) (hn : n ≤ 400000000) (hm : nm.size ≤ 400000000) (hz : ∀ r ∈ l, r.name.size ≤ 400000000) :
    Calls Tryz.prog 186 #[.agg #[.string s, .slice (some ⟨b0, o0, none⟩) n c], .string nm] w fun e w' => e = .returned (.bool (ex nm l)) ∧ Below w.heap.size w w' := by
  have Z0 := Lib.hid (zx_new w 37 s (.slice (some ⟨b0, o0, none⟩) n c))
  have L0 := Lib.hid ((Below.refl w.heap.size w).alloc (Nat.le_refl _) (.cells #[.string s, .slice (some ⟨b0, o0, none⟩) n c] 37))
  have HS := Lib.hid hs
  have HZ := Lib.hid hz
  clear hs hz
  go_enter Tryz.func186, Tryz.ntmps186
  go_wp2
  generalize w.alloc (.cells #[.string s, .slice (some ⟨b0, o0, none⟩) n c] 37) = w0 at *
  go_loopw [5] (fun i wr => ∃ k : Nat, k ≤ n ∧ i = .int .i64 k ∧ Hid (ex nm (l.take k) = false) ∧ Hid (Zx wr w.heap.size s (.slice (some ⟨b0, o0, none⟩) n c)) ∧ Hid (Below w.heap.size w wr)) (fun i _ => n - (intOf i).toNat)
  case atStart => exact ⟨0, Nat.zero_le _, rfl, rfl, Z0.out, L0.out⟩
  case round =>
    clear Z0 L0
    obtain ⟨k, hk, rfl, HE, HX, HL⟩ := hrel
    obtain ⟨z0, z1⟩ := HX.out
    by_cases hlt : k < n
    · obtain ⟨b, off, hA, hbB, hcs⟩ := HS.out.2 (by omega)
      obtain ⟨rfl, rfl⟩ : b0 = b ∧ o0 = off := by simp at hA; exact hA
      clear hA
      have hkl : k < l.length := by rw [HS.out.1]; exact hlt
      obtain ⟨e0, e1, e2, e3, e4, e5⟩ := (hcs k hkl).below HL.out hbB
      clear hcs
      have HT := Lib.hid (ex_take nm l k hkl)
      have HH := Lib.hid (ex_hit nm l k hkl)
      have HM := Lib.hid (HZ.out _ (List.getElem_mem hkl))
      generalize l[k] = r at *
      have US := Lib.hid (fun W => Under.spec r.name nm W HM.out hm)
      generalize Un r.name nm = u at *
      go_wp2_with fail
      refine (US.out _).mono ?_
      rintro e w1 ⟨rfl, hl⟩
      have L1 := Lib.hid (HL.out.trans (hl.mono HL.out.size))
      have X1 := Lib.hid (HX.out.below hl)
      clear hl US z0 z1 e0 e1 e2 e3 e4 e5
      cases u with
      | true =>
        have HF := Lib.hid (HH.out rfl)
        clear HH HT
        go_wp2
        go_ret
        exact ⟨congrArg (fun b => Ending.returned (Value.bool b)) HF.out.symm, L1.out⟩
      | false =>
        have HN := Lib.hid (HT.out.trans (by rw [HE.out, Bool.or_false]))
        clear HH HT
        go_wp2
        go_roundw
        case rel => exact ⟨k + 1, by omega, by go_num, HN.out, X1.out, L1.out⟩
        case measure => simp [intOf]; omega
    · obtain rfl : n = k := by omega
      have HF : Hid (ex nm l = false) := by rw [take_all HS.out.1] at HE; exact HE
      go_wp2
      go_ret
      exact ⟨congrArg (fun b => Ending.returned (Value.bool b)) HF.out.symm, HL.out⟩
end Go.Proofs.YtmkcjjgicinggaaGreatDoor.ExistsS

/- What KindIn does in the model: the kind of a question's reply. Condition: fewer than 400000001 records, no name of more than 400000000 bytes. -/
namespace Go.Proofs.YtmkcjjgicinggaaGreatDoor.KindS
open Go.RowKit Go.Proofs.YtmkcjjgicinggaaGreatDoor.Mem Go.Proofs.YtmkcjjgicinggaaGreatDoor.MemR Go.Proofs.YtmkcjjgicinggaaGreatDoor.SetMath Go.Proofs.YtmkcjjgicinggaaGreatDoor.NameMath Go.Proofs.YtmkcjjgicinggaaGreatDoor.ZoneMath Go.Proofs.YtmkcjjgicinggaaGreatDoor.ServeMath Go.Proofs.YtmkcjjgicinggaaGreatDoor.MemZ Go.Proofs.YtmkcjjgicinggaaGreatDoor.MemM

/-- The boxes of a zone and a question. -/
theorem two (w : World) (s nm : ByteArray) (ty : Int) (x : Value) (t u : TypeId) : (Zx ((w.alloc (.cells #[.string s, x] t)).alloc (.cells #[.string nm, .int .i64 ty] u)) w.heap.size s x ∧ Qx ((w.alloc (.cells #[.string s, x] t)).alloc (.cells #[.string nm, .int .i64 ty] u)) (w.heap.size + 1) nm ty) ∧ Below w.heap.size w ((w.alloc (.cells #[.string s, x] t)).alloc (.cells #[.string nm, .int .i64 ty] u)) := by
  refine ⟨⟨(zx_new w t s x).alloc _, ?_⟩, ((Below.refl w.heap.size w).alloc (Nat.le_refl _) _).alloc (by simp) _⟩
  have := qx_new (w.alloc (.cells #[.string s, x] t)) u nm ty
  rw [show (w.alloc (.cells #[.string s, x] t)).heap.size = w.heap.size + 1 by simp] at this
  exact this

set_option maxHeartbeats 8000000 in
theorem spec (s nm : ByteArray) (ty : Int) (b0 o0 n c : Nat) (l : List Rec) (w : World) (hs : Sr w w.heap.size (some ⟨b0, o0, none⟩) n l) (hn : n ≤ 400000000) (hm : s.size ≤ 400000000) (hq : nm.size ≤ 400000000) (hz : ∀ r ∈ l, r.name.size ≤ 400000000) :
    Calls Tryz.prog 135 #[.agg #[.string s, .slice (some ⟨b0, o0, none⟩) n c], .agg #[.string nm, .int .i64 ty]] w fun e w' => e = .returned (.int .i64 (kd s nm ty l)) ∧ Below w.heap.size w w' := by
  obtain ⟨⟨hx, hy⟩, hl0⟩ := two w s nm ty (.slice (some ⟨b0, o0, none⟩) n c) 37 29
  have X0 := Lib.hid hx
  have Y0 := Lib.hid hy
  have L0 := Lib.hid hl0
  have S0 := Lib.hid (hs.on hl0)
  have CS := Lib.hid (fun W hW => CutOfS.spec s nm b0 o0 n c l W hW hn hm hq hz)
  have US := Lib.hid (fun W => Under.spec nm s W hq hm)
  have ES := Lib.hid (fun W hW => ExistsS.spec s nm b0 o0 n c l W hW hn hq hz)
  have AS := Lib.hid (fun W hW => SetS.spec nm 5 b0 o0 n c l W hW hn)
  have TS := Lib.hid (fun W hW => SetS.spec nm ty b0 o0 n c l W hW hn)
  have K0 := Lib.hid (@kd0 s nm ty l)
  have K1 := Lib.hid (@kd1 s nm ty l)
  have K2 := Lib.hid (@kd2 s nm ty l)
  have K3 := Lib.hid (@kd3 s nm ty l)
  have K4 := Lib.hid (@kd4 s nm ty l)
  have K5 := Lib.hid (@kd5 s nm ty l)
  clear hs hz hx hy hl0
  generalize kd s nm ty l = k at *
  obtain ⟨o, ho⟩ : ∃ o, co nm (uq (cn s l)) = o := ⟨_, rfl⟩
  rw [ho] at CS K1 K2 K3 K4 K5
  clear ho
  generalize Un nm s = u at *
  generalize ex nm l = x at *
  generalize sf nm 5 l = la at *
  generalize sf nm ty l = lt at *
  obtain ⟨x0, x1⟩ := X0.out
  obtain ⟨y0, y1⟩ := Y0.out
  obtain ⟨v, b, hv, hb⟩ : ∃ v b, cv o = .tuple #[.string v, .bool b] ∧ b = o.isSome := by cases o <;> exact ⟨_, _, rfl, rfl⟩
  rw [hv] at CS
  have HB := Lib.hid hb
  clear hv hb
  go_enter Tryz.func135, Tryz.ntmps135
  go_wp2_with fail
  refine (CS.out _ S0.out).mono ?_
  rintro e w1 ⟨rfl, hl⟩
  have X1 := Lib.hid (X0.out.below hl)
  have Y1 := Lib.hid (Y0.out.below hl)
  have S1 := Lib.hid (S0.out.on hl)
  have L1 := Lib.hid (L0.out.trans (hl.mono L0.out.size))
  clear hl CS X0 Y0 S0 L0 x0 x1 y0 y1
  obtain ⟨x0, x1⟩ := X1.out
  obtain ⟨y0, y1⟩ := Y1.out
  go_wp2_with fail
  refine (US.out _).mono ?_
  rintro e w2 ⟨rfl, hl⟩
  have X2 := Lib.hid (X1.out.below hl)
  have Y2 := Lib.hid (Y1.out.below hl)
  have S2 := Lib.hid (S1.out.on hl)
  have L2 := Lib.hid (L1.out.trans (hl.mono L1.out.size))
  clear hl US X1 Y1 S1 L1 x0 x1 y0 y1
  cases u with
  | false =>
    have HF := Lib.hid (K0.out (by trivial))
    go_wp2
    go_ret
    exact ⟨congrArg (fun b => Ending.returned (Value.int .i64 b)) HF.out.symm, L2.out⟩
  | true =>
  cases b with
  | true =>
    have HF := Lib.hid (K1.out (by trivial) HB.out.symm)
    go_wp2
    go_ret
    exact ⟨congrArg (fun b => Ending.returned (Value.int .i64 b)) HF.out.symm, L2.out⟩
  | false =>
  have HO : Hid (o = none) := by
    have := HB.out
    cases o with
    | none => rfl
    | some y => cases this
  obtain ⟨x0, x1⟩ := X2.out
  obtain ⟨y0, y1⟩ := Y2.out
  by_cases hty : ty = 5
  · have t5 : (ty != 5) = false := by simp [hty]
    have HA : Hid (ty = 5 ∨ la.length = 0) := Or.inl hty
    clear hty
    go_wp2_with fail
    refine (TS.out _ S2.out).mono ?_
    rintro e w4 ⟨g, m, cp, r, rfl, hm4, -, -, -, hl⟩
    have M4 := Lib.hid hm4
    have X4 := Lib.hid (X2.out.below hl)
    have Y4 := Lib.hid (Y2.out.below hl)
    have S4 := Lib.hid (S2.out.on hl)
    have L4 := Lib.hid (L2.out.trans (hl.mono L2.out.size))
    clear hl hm4 X2 Y2 S2 L2 x0 x1 y0 y1
    by_cases h4 : (0 : Int) < (m : Int)
    · have HF := Lib.hid (K3.out (by trivial) HO.out HA.out (by have := M4.out; omega))
      go_wp2
      go_ret
      exact ⟨congrArg (fun b => Ending.returned (Value.int .i64 b)) HF.out.symm, L4.out⟩
    · have K4' := Lib.hid (K4.out (by trivial) HO.out HA.out (by have := M4.out; omega))
      have K5' := Lib.hid (K5.out (by trivial) HO.out HA.out (by have := M4.out; omega))
      obtain ⟨x0, x1⟩ := X4.out
      obtain ⟨y0, y1⟩ := Y4.out
      go_wp2_with fail
      refine (ES.out _ S4.out).mono ?_
      rintro e w5 ⟨rfl, hl⟩
      have L5 := Lib.hid (L4.out.trans (hl.mono L4.out.size))
      clear hl
      cases x with
      | true => go_wp2; go_ret; exact ⟨congrArg (fun b => Ending.returned (Value.int .i64 b)) (K4'.out (by trivial)).symm, L5.out⟩
      | false => go_wp2; go_ret; exact ⟨congrArg (fun b => Ending.returned (Value.int .i64 b)) (K5'.out (by trivial)).symm, L5.out⟩
  · have t5 : (ty != 5) = true := by simp [hty]
    have HT := Lib.hid hty
    clear hty
    go_wp2_with fail
    refine (AS.out _ S2.out).mono ?_
    rintro e w3 ⟨ga, ma, ca, ra, rfl, hm3, -, -, -, hl⟩
    have M3 := Lib.hid hm3
    have X3 := Lib.hid (X2.out.below hl)
    have Y3 := Lib.hid (Y2.out.below hl)
    have S3 := Lib.hid (S2.out.on hl)
    have L3 := Lib.hid (L2.out.trans (hl.mono L2.out.size))
    clear hl hm3 X2 Y2 S2 L2 x0 x1 y0 y1
    by_cases h3 : (0 : Int) < (ma : Int)
    · have HF := Lib.hid (K2.out (by trivial) HO.out HT.out (by have := M3.out; omega))
      go_wp2
      go_ret
      exact ⟨congrArg (fun b => Ending.returned (Value.int .i64 b)) HF.out.symm, L3.out⟩
    · have HA : Hid (ty = 5 ∨ la.length = 0) := Or.inr (by have := M3.out; omega)
      obtain ⟨x0, x1⟩ := X3.out
      obtain ⟨y0, y1⟩ := Y3.out
      go_wp2_with fail
      refine (TS.out _ S3.out).mono ?_
      rintro e w4 ⟨g, m, cp, r, rfl, hm4, -, -, -, hl⟩
      have M4 := Lib.hid hm4
      have X4 := Lib.hid (X3.out.below hl)
      have Y4 := Lib.hid (Y3.out.below hl)
      have S4 := Lib.hid (S3.out.on hl)
      have L4 := Lib.hid (L3.out.trans (hl.mono L3.out.size))
      clear hl hm4 X3 Y3 S3 L3 x0 x1 y0 y1
      by_cases h4 : (0 : Int) < (m : Int)
      · have HF := Lib.hid (K3.out (by trivial) HO.out HA.out (by have := M4.out; omega))
        go_wp2
        go_ret
        exact ⟨congrArg (fun b => Ending.returned (Value.int .i64 b)) HF.out.symm, L4.out⟩
      · have K4' := Lib.hid (K4.out (by trivial) HO.out HA.out (by have := M4.out; omega))
        have K5' := Lib.hid (K5.out (by trivial) HO.out HA.out (by have := M4.out; omega))
        obtain ⟨x0, x1⟩ := X4.out
        obtain ⟨y0, y1⟩ := Y4.out
        go_wp2_with fail
        refine (ES.out _ S4.out).mono ?_
        rintro e w5 ⟨rfl, hl⟩
        have L5 := Lib.hid (L4.out.trans (hl.mono L4.out.size))
        clear hl
        cases x with
        | true => go_wp2; go_ret; exact ⟨congrArg (fun b => Ending.returned (Value.int .i64 b)) (K4'.out (by trivial)).symm, L5.out⟩
        | false => go_wp2; go_ret; exact ⟨congrArg (fun b => Ending.returned (Value.int .i64 b)) (K5'.out (by trivial)).symm, L5.out⟩

end Go.Proofs.YtmkcjjgicinggaaGreatDoor.KindS

/- What StartOf does in the model: the first record of the start's type, or a record with nothing in it. Condition: fewer than 400000001 records. -/
namespace Go.Proofs.YtmkcjjgicinggaaGreatDoor.StartS
open Go.RowKit Go.Proofs.YtmkcjjgicinggaaGreatDoor.Mem Go.Proofs.YtmkcjjgicinggaaGreatDoor.MemR Go.Proofs.YtmkcjjgicinggaaGreatDoor.SetMath Go.Proofs.YtmkcjjgicinggaaGreatDoor.ZoneMath Go.Proofs.YtmkcjjgicinggaaGreatDoor.MemZ Go.Proofs.YtmkcjjgicinggaaGreatDoor.ResR

theorem box2 {w : World} {a : Obj} {cs : Array Value} {t : TypeId} : Bk ((w.alloc a).alloc (.cells cs t)) (w.heap.size + 1) t cs.toList := by
  have := heap_alloc_new (w.alloc a) (.cells cs t)
  rw [show (w.alloc a).heap.size = w.heap.size + 1 by simp] at this
  exact this

set_option maxRecDepth 100000 in
set_option maxHeartbeats 8000000 in
theorem spec (s : ByteArray) (b0 o0 n c : Nat) (l : List Rec) (w : World) (hs : Sr w w.heap.size (some ⟨b0, o0, none⟩) n l) (hn : n ≤ 400000000) :
    Calls Tryz.prog 188 #[.agg #[.string s, .slice (some ⟨b0, o0, none⟩) n c]] w fun e w' => e = .returned (.agg #[.string ((st l)).name, .int .i64 ((st l)).ty, .int .i64 ((st l)).ttl, .int .i64 ((st l)).n, .string ((st l)).host, .string ((st l)).text]) ∧ Below w.heap.size w w' := by
  have Z0 := Lib.hid ((zx_new w 37 s (.slice (some ⟨b0, o0, none⟩) n c)).alloc (.cells #[.string ⟨#[]⟩, .int .i64 0, .int .i64 0, .int .i64 0, .string ⟨#[]⟩, .string ⟨#[]⟩] 93))
  have R0 := Lib.hid (box2 (w := w) (a := .cells #[.string s, .slice (some ⟨b0, o0, none⟩) n c] 37) (cs := #[.string ⟨#[]⟩, .int .i64 0, .int .i64 0, .int .i64 0, .string ⟨#[]⟩, .string ⟨#[]⟩]) (t := 93))
  have L0 := Lib.hid (((Below.refl w.heap.size w).alloc (Nat.le_refl _) (.cells #[.string s, .slice (some ⟨b0, o0, none⟩) n c] 37)).alloc (by simp) (.cells #[.string ⟨#[]⟩, .int .i64 0, .int .i64 0, .int .i64 0, .string ⟨#[]⟩, .string ⟨#[]⟩] 93))
  have HS := Lib.hid hs
  clear hs
  go_enter Tryz.func188, Tryz.ntmps188
  go_wp2
  generalize (w.alloc (.cells #[.string s, .slice (some ⟨b0, o0, none⟩) n c] 37)).alloc (.cells #[.string ⟨#[]⟩, .int .i64 0, .int .i64 0, .int .i64 0, .string ⟨#[]⟩, .string ⟨#[]⟩] 93) = w0 at *
  go_loopw [3] (fun i wr => ∃ k : Nat, k ≤ n ∧ i = .int .i64 k ∧ wr = w0 ∧ Hid (∀ r ∈ l.take k, r.ty ≠ 6)) (fun i _ => n - (intOf i).toNat)
  case atStart => exact ⟨0, Nat.zero_le _, rfl, rfl, fun r hr => by simp at hr⟩
  case round =>
    obtain ⟨k, hk, rfl, rfl, HE⟩ := hrel
    obtain ⟨z0, z1⟩ := Z0.out
    have r0 : wr.cell? ⟨w.heap.size + 1, 0, none⟩ = some (.string ⟨#[]⟩) := R0.out.cell 0
    have r1 : wr.cell? ⟨w.heap.size + 1, 1, none⟩ = some (.int .i64 0) := R0.out.cell 1
    have r2 : wr.cell? ⟨w.heap.size + 1, 2, none⟩ = some (.int .i64 0) := R0.out.cell 2
    have r3 : wr.cell? ⟨w.heap.size + 1, 3, none⟩ = some (.int .i64 0) := R0.out.cell 3
    have r4 : wr.cell? ⟨w.heap.size + 1, 4, none⟩ = some (.string ⟨#[]⟩) := R0.out.cell 4
    have r5 : wr.cell? ⟨w.heap.size + 1, 5, none⟩ = some (.string ⟨#[]⟩) := R0.out.cell 5
    have q0 := R0.out.free 0
    have q1 := R0.out.free 1
    have q2 := R0.out.free 2
    have q3 := R0.out.free 3
    have q4 := R0.out.free 4
    have q5 := R0.out.free 5
    by_cases hlt : k < n
    · obtain ⟨b, off, hA, hbB, hcs⟩ := HS.out.2 (by omega)
      obtain ⟨rfl, rfl⟩ : b0 = b ∧ o0 = off := by simp at hA; exact hA
      clear hA
      have hkl : k < l.length := by rw [HS.out.1]; exact hlt
      obtain ⟨e0, e1, e2, e3, e4, e5⟩ := (hcs k hkl).below L0.out hbB
      clear hcs
      have HH := Lib.hid (fun e => st_hit l k hkl e HE.out)
      have HN := Lib.hid (fun e => st_next l k hkl e HE.out)
      generalize l[k] = r at *
      by_cases hty : r.ty = 6
      · have HF := Lib.hid (HH.out hty)
        have t0 : (r.ty == 6) = true := by simpa using hty
        clear hty HH HN
        have F := Lib.hid (fil_bk (r0 := zr) R0.out r)
        have E := Lib.hid (fil_below L0.out (g := w.heap.size + 1) (by omega) r)
        go_wp2
        exact bodyPost_ret (v := .agg #[.string r.name, .int .i64 r.ty, .int .i64 r.ttl, .int .i64 r.n, .string r.host, .string r.text]) (res1 rfl F.out rfl) rfl ⟨by rw [HF.out], E.out⟩
      · have HF := Lib.hid (HN.out hty)
        have t0 : (r.ty == 6) = false := by simpa using hty
        clear hty HH HN
        go_wp2
        go_roundw
        case rel => exact ⟨k + 1, by omega, by go_num, trivial, HF.out⟩
        case measure => simp [intOf]; omega
    · obtain rfl : n = k := by omega
      have HF := Lib.hid (st_none l (by rw [take_all HS.out.1] at HE; exact HE.out))
      have F := Lib.hid (fil_bk (r0 := zr) R0.out zr)
      have E := Lib.hid (fil_below L0.out (g := w.heap.size + 1) (by omega) zr)
      go_wp2
      exact bodyPost_ret (v := .agg #[.string zr.name, .int .i64 zr.ty, .int .i64 zr.ttl, .int .i64 zr.n, .string zr.host, .string zr.text]) (res1 rfl F.out rfl) rfl ⟨by rw [HF.out], E.out⟩
end Go.Proofs.YtmkcjjgicinggaaGreatDoor.StartS

/- What MoreIn does in the model: a new slice of the servers of the cut, or of the start. Condition: fewer than 400000001 records, no name of more than 400000000 bytes. -/
namespace Go.Proofs.YtmkcjjgicinggaaGreatDoor.MorS
open Go.RowKit Go.Proofs.YtmkcjjgicinggaaGreatDoor.Mem Go.Proofs.YtmkcjjgicinggaaGreatDoor.MemR Go.Proofs.YtmkcjjgicinggaaGreatDoor.SetMath Go.Proofs.YtmkcjjgicinggaaGreatDoor.NameMath Go.Proofs.YtmkcjjgicinggaaGreatDoor.ZoneMath Go.Proofs.YtmkcjjgicinggaaGreatDoor.ServeMath Go.Proofs.YtmkcjjgicinggaaGreatDoor.MemZ Go.Proofs.YtmkcjjgicinggaaGreatDoor.MemM Go.Proofs.YtmkcjjgicinggaaGreatDoor.Wt Go.Proofs.YtmkcjjgicinggaaGreatDoor.KindS Go.Proofs.YtmkcjjgicinggaaGreatDoor.CutOfS

theorem cu_cv (s nm : ByteArray) (l : List Rec) : ∃ b, cv (co nm (uq (cn s l))) = .tuple #[.string (cu s nm l), .bool b] := by
  unfold cu
  cases co nm (uq (cn s l)) <;> exact ⟨_, rfl⟩

set_option maxHeartbeats 8000000 in
theorem spec (s nm : ByteArray) (ty : Int) (b0 o0 n c : Nat) (l : List Rec) (w : World) (hs : Sr w w.heap.size (some ⟨b0, o0, none⟩) n l) (hn : n ≤ 400000000) (hm : s.size ≤ 400000000) (hq : nm.size ≤ 400000000) (hz : ∀ r ∈ l, r.name.size ≤ 400000000) :
    Calls Tryz.prog 138 #[.agg #[.string s, .slice (some ⟨b0, o0, none⟩) n c], .agg #[.string nm, .int .i64 ty]] w (GivesL w (mol (kd s nm ty l) s nm l)) := by
  obtain ⟨⟨hx, hy⟩, hl0⟩ := two w s nm ty (.slice (some ⟨b0, o0, none⟩) n c) 37 29
  have X0 := Lib.hid hx
  have Y0 := Lib.hid hy
  have L0 := Lib.hid hl0
  have S0 := Lib.hid (hs.on hl0)
  have KI := Lib.hid (fun W hW => KindS.spec s nm ty b0 o0 n c l W hW (by omega) hm hq hz)
  have CS := Lib.hid (fun W hW => CutOfS.spec s nm b0 o0 n c l W hW hn hm hq hz)
  have ST := Lib.hid (fun W hW => StartS.spec s b0 o0 n c l W hW hn)
  have TS := Lib.hid (fun W hW => SetS.spec (cu s nm l) 2 b0 o0 n c l W hW hn)
  obtain ⟨b, hb⟩ := cu_cv s nm l
  rw [hb] at CS
  clear hb
  clear hs hz hx hy hl0
  generalize kd s nm ty l = k at *
  obtain ⟨x0, x1⟩ := X0.out
  obtain ⟨y0, y1⟩ := Y0.out
  go_enter Tryz.func138, Tryz.ntmps138
  go_wp2_with fail
  refine (KI.out _ S0.out).mono ?_
  rintro e w1 ⟨rfl, hl⟩
  have X1 := Lib.hid (X0.out.below hl)
  have Y1 := Lib.hid (Y0.out.below hl)
  have S1 := Lib.hid (S0.out.on hl)
  have L1 := Lib.hid (L0.out.trans (hl.mono L0.out.size))
  clear hl KI X0 Y0 S0 L0 x0 x1 y0 y1
  obtain ⟨x0, x1⟩ := X1.out
  obtain ⟨y0, y1⟩ := Y1.out
  by_cases h1 : k = 1
  · have HA : Hid (mol k s nm l = sf (cu s nm l) 2 l) := if_pos h1
    subst h1
    generalize cu s nm l = u at *
    go_wp2_with fail
    refine (CS.out _ S1.out).mono ?_
    rintro e w1' ⟨rfl, hl⟩
    have X2 := Lib.hid (X1.out.below hl)
    have S2 := Lib.hid (S1.out.on hl)
    have L2 := Lib.hid (L1.out.trans (hl.mono L1.out.size))
    clear hl CS X1 Y1 S1 L1 x0 x1 y0 y1
    obtain ⟨x0, x1⟩ := X2.out
    go_wp2_with fail
    refine (TS.out _ S2.out).mono ?_
    rintro e w3 ⟨g, m, cp, r, rfl, hm2, hc2, hg2, hb2, hl⟩
    have H2 := Lib.hid (And.intro hm2 (And.intro hc2 (And.intro (Nat.le_trans L2.out.size hg2) hb2)))
    have L3 := Lib.hid (L2.out.trans (hl.mono L2.out.size))
    clear hl hm2 hc2 hg2 hb2
    go_wp2
    go_ret
    exact ⟨g, m, cp, r, rfl, by rw [HA.out]; exact H2.out.1, H2.out.2.1, H2.out.2.2.1, by rw [HA.out]; exact H2.out.2.2.2, L3.out⟩
  · have t1 : (k == 1) = false := by simpa using h1
    by_cases h4 : k = 4 ∨ k = 5
    · have HA : Hid (mol k s nm l = [st l]) := by show _ = _; unfold mol; rw [if_neg h1, if_pos h4]
      have t4 : (k == 4) = true ∨ (k == 4) = false ∧ (k == 5) = true := by
        rcases h4 with h | h <;> subst h <;> simp
      clear h1 h4
      generalize st l = r at *
      rcases t4 with t4 | ⟨t4, t5⟩
      · go_wp2_with fail
        refine (ST.out _ S1.out).mono ?_
        rintro e w2 ⟨rfl, hl⟩
        have L2 := Lib.hid (L1.out.trans (hl.mono L1.out.size))
        have L3 := Lib.hid (L2.out.alloc L2.out.size (.cells #[.string r.name, .int .i64 r.ty, .int .i64 r.ttl, .int .i64 r.n, .string r.host, .string r.text] 93))
        have N3 := Lib.hid (heap_alloc_new w2 (.cells #[.string r.name, .int .i64 r.ty, .int .i64 r.ttl, .int .i64 r.n, .string r.host, .string r.text] 93))
        have G3 : Hid (w.heap.size ≤ w2.heap.size) := L2.out.size
        clear hl
        go_wp2
        go_ret
        exact ⟨w2.heap.size, 1, 1, [], rfl, by rw [HA.out]; rfl, Nat.le_refl _, G3.out, by rw [HA.out]; exact N3.out, L3.out⟩
      · go_wp2_with fail
        refine (ST.out _ S1.out).mono ?_
        rintro e w2 ⟨rfl, hl⟩
        have L2 := Lib.hid (L1.out.trans (hl.mono L1.out.size))
        have L3 := Lib.hid (L2.out.alloc L2.out.size (.cells #[.string r.name, .int .i64 r.ty, .int .i64 r.ttl, .int .i64 r.n, .string r.host, .string r.text] 93))
        have N3 := Lib.hid (heap_alloc_new w2 (.cells #[.string r.name, .int .i64 r.ty, .int .i64 r.ttl, .int .i64 r.n, .string r.host, .string r.text] 93))
        have G3 : Hid (w.heap.size ≤ w2.heap.size) := L2.out.size
        clear hl
        go_wp2
        go_ret
        exact ⟨w2.heap.size, 1, 1, [], rfl, by rw [HA.out]; rfl, Nat.le_refl _, G3.out, by rw [HA.out]; exact N3.out, L3.out⟩
    · have t4 : (k == 4) = false := by have : ¬ k = 4 := fun e => h4 (Or.inl e); simpa using this
      have t5 : (k == 5) = false := by have : ¬ k = 5 := fun e => h4 (Or.inr e); simpa using this
      have HA : Hid (mol k s nm l = []) := by show _ = _; unfold mol; rw [if_neg h1, if_neg h4]
      clear h1 h4
      have B2 := Lib.hid (AppR.owns_new w1)
      have L2 := Lib.hid (L1.out.trans (((Below.refl w1.heap.size w1).alloc (Nat.le_refl _) (.cells #[] 93)).mono L1.out.size))
      have N2 := Lib.hid (heap_alloc_new w1 (.cells #[] 93))
      have G2 : Hid (w.heap.size ≤ w1.heap.size) := L1.out.size
      go_wp2
      go_ret
      exact ⟨w1.heap.size, 0, 0, [], rfl, by rw [HA.out]; rfl, Nat.le_refl _, G2.out, by rw [HA.out]; exact N2.out, L2.out⟩

end Go.Proofs.YtmkcjjgicinggaaGreatDoor.MorS

/- 'm[k] = append(m[k], x)' as the model has it: the entry is found or laid, with its stamp; then its value is stored at the stamp. -/
namespace Go.Proofs.YtmkcjjgicinggaaGreatDoor.MapE
open Go.RowKit Go.Proofs.YtmkcjjgicinggaaGreatDoor.Mem Go.Proofs.YtmkcjjgicinggaaGreatDoor.MapK
open Go.ChangeMaps (setBlock heap_setBlock_same heap_setBlock_other)

/-- As Mp; and the j-th entry bears the stamp st. -/
def Ms (w : World) (b : Nat) (l : List (Value × Value)) (j st : Nat) : Prop :=
  ∃ es clock, w.heap[b]? = some (.map es clock) ∧ es.toList.map (fun e => (e.key, e.val)) = l ∧ (∀ e ∈ es.toList, e.born < clock) ∧ (es.toList.map (·.born)).Nodup ∧ ∃ e, es.toList[j]? = some e ∧ e.born = st
section
variable {P : Program} {w w' : World} {b : Nat} {l : List (Value × Value)} {k e t : TypeId} {S : Value → Prop} {j st : Nat}

theorem Ms.lt (h : Ms w b l j st) : b < w.heap.size := by
  obtain ⟨es, clock, hb, _⟩ := h
  exact (Array.getElem?_eq_some_iff.1 hb).1

theorem Ms.kept (h : Ms w b l j st) (hk : w'.heap[b]? = w.heap[b]?) : Ms w' b l j st := by
  obtain ⟨es, clock, hb, h1⟩ := h
  exact ⟨es, clock, hk.trans hb, h1⟩

theorem Ms.grown {row : Option Nat} (h : Ms w b l j st) (hg : w.grownBy w' row) (hne : some b ≠ row) : Ms w' b l j st := h.kept (hg.block b h.lt hne)

theorem Ms.alloc (h : Ms w b l j st) (o : Obj) : Ms (w.alloc o) b l j st := h.grown (World.grownBy_alloc w o none) (by simp)

/-- The entry is not there: it is laid, with the zero value. -/
theorem entry_new (h : Mp w b l) (K : MapK.KeyT P k S) (ht : P.underlying t = some (.map k e)) {z : Value} (hz : (zeroValue e).run P w = .ok z w) (hS : ∀ p ∈ l, S p.1) {x : Value} (hx : S x) (hno : ∀ p ∈ l, p.1 ≠ x) :
    ∃ w' st, (Instr.mapEntry t (.map (some b)) x).run P w = .ok (.tuple #[z, .int .i64 (st : Nat)]) w' ∧ Ms w' b (l ++ [(x, z)]) l.length st ∧ w.grownBy w' (some b) ∧ w'.heap.size = w.heap.size := by
  obtain ⟨es, clock, hb, hl, hborn, hnd⟩ := h
  rcases K.find w hx es.toList (mem_key hl hS) with ⟨hrun, _⟩ | ⟨j, e0, _, hj, hk⟩
  · refine ⟨setBlock w b (.map (es.push ⟨x, z, clock⟩) (clock + 1)), clock, ?_, ⟨_, _, heap_setBlock_same hb _, ?_, ?_, ?_, ⟨x, z, clock⟩, ?_, rfl⟩, grown_block hb _, by simp [setBlock]⟩
    · simp [Instr.mapEntry, run_underlying ht, MapKept.run_getObj_map hb, K.check w false hx, hrun, hz, MapKept.run_setObj_map _ hb, Result.andThen, setBlock, goInt]
    · rw [Array.toList_push, List.map_append, hl]; rfl
    · intro e' he'
      rw [Array.toList_push, List.mem_append] at he'
      rcases he' with he' | he'
      · have := hborn e' he'; omega
      · obtain rfl := List.mem_singleton.1 he'; exact Nat.lt_succ_self _
    · rw [Array.toList_push, List.map_append, List.nodup_append]
      refine ⟨hnd, by simp, fun a ha c hc => ?_⟩
      obtain ⟨e', he', rfl⟩ := List.mem_map.1 ha
      have h1 := hborn e' he'
      simp at hc
      omega
    · rw [Array.toList_push, ← hl, List.length_map, List.getElem?_append_right (Nat.le_refl _), Nat.sub_self]
      rfl
  · exact absurd hk (hno (e0.key, e0.val) (hl ▸ List.mem_map.2 ⟨e0, List.mem_of_getElem? hj, rfl⟩))

/-- The entry is there. -/
theorem entry_old (h : Mp w b l) (K : MapK.KeyT P k S) (ht : P.underlying t = some (.map k e)) (hS : ∀ p ∈ l, S p.1) (hd : (l.map Prod.fst).Nodup) {x u : Value} (hx : S x) {j : Nat} (hin : l[j]? = some (x, u)) :
    ∃ w' st, (Instr.mapEntry t (.map (some b)) x).run P w = .ok (.tuple #[u, .int .i64 (st : Nat)]) w' ∧ Ms w' b l j st ∧ w.grownBy w' (some b) ∧ w'.heap.size = w.heap.size := by
  obtain ⟨es, clock, hb, hl, hborn, hnd⟩ := h
  rcases K.find w hx es.toList (mem_key hl hS) with ⟨_, hno⟩ | ⟨i, e0, hrun, hi, hk⟩
  · have hm := List.mem_of_getElem? hin
    rw [← hl] at hm
    obtain ⟨e0, he, hq⟩ := List.mem_map.1 hm
    exact absurd (congrArg Prod.fst hq) (hno e0 he)
  · have hli : l[i]? = some (e0.key, e0.val) := by rw [← hl, List.getElem?_map, hi]; rfl
    have hij : i = j := by
      rw [hk] at hli
      exact key_idx hd hli hin
    subst hij
    have hu : e0.val = u := by rw [hli] at hin; exact congrArg Prod.snd (Option.some.inj hin)
    have hget : es[i]? = some e0 := by rw [← Array.getElem?_toList]; exact hi
    have hmod : (es.modify i fun e => { e with key := x }) = es := by
      refine Array.toList_inj.1 ?_
      rw [Array.toList_modify]
      refine List.ext_getElem? fun n => ?_
      rw [List.getElem?_modify]
      by_cases hn : i = n
      · subst hn
        rw [hi]
        simp [← hk]
      · simp [hn]
    refine ⟨setBlock w b (.map (es.modify i fun e => { e with key := x }) clock), e0.born, ?_, ⟨es, clock, by rw [heap_setBlock_same hb _, hmod], hl, hborn, hnd, e0, hi, rfl⟩, grown_block hb _, by simp [setBlock]⟩
    have hst := K.stays w hx
    have hck := K.check w false hx
    subst hk
    subst hu
    simp [Instr.mapEntry, run_underlying ht, MapKept.run_getObj_map hb, hck, hrun, hget, hst, MapKept.run_setObj_map _ hb, Result.andThen, setBlock, goInt]

/-- The value is stored at the stamp. -/
theorem Ms.store (h : Ms w b l j st) (t : TypeId) {x u : Value} (hin : l[j]? = some (x, u)) (v : Value) :
    ∃ w', (Instr.entryStore t (.map (some b)) (.int .i64 (st : Nat)) v).run P w = .ok () w' ∧ Mp w' b (l.set j (x, v)) ∧ w.grownBy w' (some b) ∧ w'.heap.size = w.heap.size := by
  obtain ⟨es, clock, hb, hl, hborn, hnd, e0, hj, rfl⟩ := h
  have hx : e0.key = x := by
    rw [← hl, List.getElem?_map, hj] at hin
    exact congrArg Prod.fst (Option.some.inj hin)
  have hfind : es.findIdx? (fun e => (e.born : Int) == (e0.born : Int)) = some j := by
    obtain ⟨hlt, he⟩ := List.getElem?_eq_some_iff.1 hj
    rw [Array.findIdx?_eq_some_iff_getElem]
    refine ⟨by simpa using hlt, by rw [show es[j]'(by simpa using hlt) = e0 from he]; simp, fun i hi hp => ?_⟩
    have hil : i < es.toList.length := by omega
    have h1 : (es.toList.map (·.born))[i]? = some e0.born := by
      rw [List.getElem?_map, List.getElem?_eq_getElem hil]
      have h3 : es[i].born = e0.born := by simp at hp; omega
      have h4 : es.toList[i].born = e0.born := h3
      rw [Option.map_some, h4]
    have h2 : (es.toList.map (·.born))[j]? = some e0.born := by rw [List.getElem?_map, hj]; rfl
    have := nodup_inj hnd h1 h2
    omega
  refine ⟨setBlock w b (.map (es.modify j fun e => { e with val := v }) clock), ?_, ⟨_, _, heap_setBlock_same hb _, ?_, ?_, ?_⟩, grown_block hb _, by simp [setBlock]⟩
  · simp [Instr.entryStore, MapKept.run_getObj_map hb, asInt, asIntOf, hfind, MapKept.run_setObj_map _ hb, Result.andThen, setBlock]
  · rw [Array.toList_modify, ← hl]
    refine List.ext_getElem? fun n => ?_
    rw [List.getElem?_map, List.getElem?_modify, List.getElem?_set]
    by_cases hn : j = n
    · subst hn
      have : j < es.toList.length := (List.getElem?_eq_some_iff.1 hj).1
      rw [Array.length_toList] at this
      rw [hj]
      simp [this, hx]
    · simp [hn]
  · intro e' he'
    rw [Array.toList_modify] at he'
    obtain ⟨n, hn⟩ := List.getElem?_of_mem he'
    rw [List.getElem?_modify] at hn
    obtain ⟨e1, h1, rfl⟩ := Option.map_eq_some_iff.1 hn
    have := hborn e1 (List.mem_of_getElem? h1)
    split <;> exact this
  · have : (es.modify j fun e => { e with val := v }).toList.map (·.born) = es.toList.map (·.born) := by
      rw [Array.toList_modify]
      refine List.ext_getElem? fun n => ?_
      rw [List.getElem?_map, List.getElem?_map, List.getElem?_modify]
      cases es.toList[n]? <;> simp
      split <;> rfl
    rw [this]
    exact hnd

/-- The look-up of an entry at the operation. -/
theorem wp_entry {ops : Array Oper} {rest : List Oper} {o : Oper} {a : Act} {Q : Exit → Act → World → Prop}
    (hg : o.guard = none) (m x : Operand) (hop : o.op = Op.mapEntry t m x) (key u : Value) (hm : a.eval m = .map (some b)) (hx : a.eval x = key) (l' : List (Value × Value)) (j' : Nat)
    (hrun : ∃ w' st, (Instr.mapEntry t (.map (some b)) key).run P w = .ok (.tuple #[u, .int .i64 (st : Nat)]) w' ∧ Ms w' b l' j' st ∧ w.grownBy w' (some b) ∧ w'.heap.size = w.heap.size)
    (hK : ∀ w' (st : Nat), Ms w' b l' j' st → w.grownBy w' (some b) → w'.heap.size = w.heap.size → wpList P ops Q rest (a.put o.dst (.tuple #[u, .int .i64 (st : Nat)])) w') : wpList P ops Q (o :: rest) a w := by
  obtain ⟨w', s0, h1, h2, h3, h4⟩ := hrun
  refine wpList_plain hg fun K' hK' => ?_
  unfold Oper.wp
  simp [execOp, hop, hm, hx, h1, Result.andThen]
  exact hK' _ _ (hK w' s0 h2 h3 h4)

/-- The store at a stamp at the operation. -/
theorem wp_stamp {ops : Array Oper} {rest : List Oper} {o : Oper} {a : Act} {Q : Exit → Act → World → Prop}
    (hg : o.guard = none) (m s v : Operand) (hop : o.op = Op.entryStore t m s v) (u : Value) (hm : a.eval m = .map (some b)) (hs : a.eval s = .int .i64 (st : Nat)) (hv : a.eval v = u)
    (l' : List (Value × Value)) (hrun : ∃ w', (Instr.entryStore t (.map (some b)) (.int .i64 (st : Nat)) u).run P w = .ok () w' ∧ Mp w' b l' ∧ w.grownBy w' (some b) ∧ w'.heap.size = w.heap.size)
    (hK : ∀ w', Mp w' b l' → w.grownBy w' (some b) → w'.heap.size = w.heap.size → wpList P ops Q rest (a.put o.dst undef) w') : wpList P ops Q (o :: rest) a w := by
  obtain ⟨w', h1, h2, h3, h4⟩ := hrun
  refine wpList_plain hg fun K' hK' => ?_
  unfold Oper.wp
  simp [execOp, hop, hm, hs, hv, h1, Result.andThen]
  exact hK' _ _ (hK w' h2 h3 h4)
end
end Go.Proofs.YtmkcjjgicinggaaGreatDoor.MapE

/- A map of slices of records, one for each key: what it is, and that it is so again behind one more record. -/
namespace Go.Proofs.YtmkcjjgicinggaaGreatDoor.GrpM
open Go.RowKit Go.Proofs.YtmkcjjgicinggaaGreatDoor.Mem Go.Proofs.YtmkcjjgicinggaaGreatDoor.MemR Go.Proofs.YtmkcjjgicinggaaGreatDoor.SetMath Go.Proofs.YtmkcjjgicinggaaGreatDoor.MemQ Go.Proofs.YtmkcjjgicinggaaGreatDoor.MapK Go.Proofs.YtmkcjjgicinggaaGreatDoor.MapE

/-- An entry: the key, the block of the slice, its length and its capacity. -/
structure Ge where
  q : Key
  g : Nat
  m : Nat
  cap : Nat

/-- Its slice. -/
def sv (e : Ge) : Value := .slice (some ⟨e.g, 0, none⟩) e.m e.cap

/-- The entries as the map holds them. -/
def ev (es : List Ge) : List (Value × Value) := es.map (fun e => (qv e.q, sv e))

/-- The records of a key. -/
noncomputable def sq (q : Key) (l : List Rec) : List Rec := sf q.name q.ty l

theorem sq_snoc (q : Key) (l : List Rec) (r : Rec) : sq q (l ++ [r]) = sq q l ++ (if isk q.name q.ty r = true then [r] else []) := by
  rw [sq, sf, List.filter_append, List.filter_cons, List.filter_nil]; rfl

theorem sq_same (l : List Rec) (r : Rec) : sq (ky r) (l ++ [r]) = sq (ky r) l ++ [r] := by
  rw [sq_snoc, show isk (ky r).name (ky r).ty r = true from isk_true ⟨rfl, rfl⟩, if_pos rfl]

theorem sq_other {q : Key} (l : List Rec) {r : Rec} (h : q ≠ ky r) : sq q (l ++ [r]) = sq q l := by
  rw [sq_snoc, isk_false (fun e => h (by obtain ⟨a, b⟩ := q; simp only at e; rw [ky, e.1, e.2])), if_neg (by decide), List.append_nil]

theorem sq_none {q : Key} {l : List Rec} (h : q ∉ kl l) : sq q l = [] := by
  refine List.filter_eq_nil_iff.2 (fun r hr hk => h ?_)
  refine List.mem_map.2 ⟨r, hr, ?_⟩
  obtain ⟨h1, h2⟩ := isk_iff.1 hk
  obtain ⟨a, b⟩ := q
  rw [ky, h1, h2]

theorem uq_kl (l : List Rec) (r : Rec) : uq (kl (l ++ [r])) = add (uq (kl l)) (ky r) := by
  rw [show kl (l ++ [r]) = kl l ++ [ky r] from by rw [kl, List.map_append]; rfl, uq_snoc]

/-- Block b is a map that holds, for each key of the records l, its records in a row of the call's own, from base on; no two in one row. -/
def Gr (w : World) (base b : Nat) (l : List Rec) : Prop := ∃ es : List Ge, Mp w b (ev es) ∧ es.map (·.q) = uq (kl l) ∧
  (∀ (i : Nat) (e : Ge), es[i]? = some e → w.ownsRow base 93 6 (sv e) e.m (fl (sq e.q l))) ∧ (∀ (i i' : Nat) (e e' : Ge), es[i]? = some e → es[i']? = some e' → i ≠ i' → e.g ≠ e'.g)

section
variable {w w' w2 w3 w4 : World} {base b g' cap' : Nat} {l : List Rec} {es : List Ge}

theorem ev_key (es : List Ge) : ∀ p ∈ ev es, ∃ q : Key, p.1 = qv q := by
  intro p hp
  obtain ⟨e, _, rfl⟩ := List.mem_map.1 hp
  exact ⟨_, rfl⟩

theorem qv_inj {q p : Key} (h : qv q = qv p) : q = p := by
  obtain ⟨a, b⟩ := q
  obtain ⟨c, d⟩ := p
  simp [qv] at h
  rw [h.1, h.2]

theorem ev_nodup : ∀ {es : List Ge}, (es.map (·.q)).Nodup → ((ev es).map Prod.fst).Nodup
  | [], _ => by simp [ev]
  | e :: es, h => by
    rw [List.map_cons] at h
    obtain ⟨h1, h2⟩ := List.nodup_cons.1 h
    show (qv e.q :: (ev es).map Prod.fst).Nodup
    refine List.nodup_cons.2 ⟨fun hm => ?_, ev_nodup h2⟩
    obtain ⟨p, hp, he⟩ := List.mem_map.1 hm
    obtain ⟨e', he', rfl⟩ := List.mem_map.1 hp
    exact h1 (List.mem_map.2 ⟨e', he', qv_inj he⟩)

theorem ev_out {q : Key} (h : q ∉ es.map (·.q)) : ∀ p ∈ ev es, p.1 ≠ qv q := by
  intro p hp e
  obtain ⟨e', he', rfl⟩ := List.mem_map.1 hp
  exact h (List.mem_map.2 ⟨e', he', qv_inj e⟩)

theorem ev_at {i : Nat} {e : Ge} (h : es[i]? = some e) : (ev es)[i]? = some (qv e.q, sv e) := by rw [ev, List.getElem?_map, h]; rfl

theorem own_kept {e : Ge} {xs : List Value} {row : Option Nat} (h : w.ownsRow base 93 6 (sv e) e.m xs) (hg : w.grownBy w' row) (hne : some e.g ≠ row) : w'.ownsRow base 93 6 (sv e) e.m xs := h.kept hg (Or.inr hne)

theorem own_lt {e : Ge} {xs : List Value} (h : w.ownsRow base 93 6 (sv e) e.m xs) : base ≤ e.g ∧ e.g < w.heap.size := h.lt e.g rfl

theorem own_m {e : Ge} (h : w.ownsRow base 93 6 (sv e) e.m (fl (sq e.q l))) : (sq e.q l).length = e.m := by have := h.1; rw [fl_len] at this; omega

/-- Nothing of the groups is turned by what turns other blocks. -/
theorem rows_kept {row : Option Nat} (h : ∀ (i : Nat) (e : Ge), es[i]? = some e → w.ownsRow base 93 6 (sv e) e.m (fl (sq e.q l))) (hg : w.grownBy w' row) (hne : ∀ g, base ≤ g → g < w.heap.size → some g ≠ row) :
    ∀ (i : Nat) (e : Ge), es[i]? = some e → w'.ownsRow base 93 6 (sv e) e.m (fl (sq e.q l)) := fun i e he => by
  have h1 := own_lt (h i e he)
  exact own_kept (h i e he) hg (hne _ h1.1 h1.2)

/-- One more record of a key that is there. -/
theorem gr_old (hq : es.map (·.q) = uq (kl l)) (ho : ∀ (i : Nat) (e : Ge), es[i]? = some e → w2.ownsRow base 93 6 (sv e) e.m (fl (sq e.q l))) (hd : ∀ (i i' : Nat) (e e' : Ge), es[i]? = some e → es[i']? = some e' → i ≠ i' → e.g ≠ e'.g)
    {j : Nat} {e : Ge} {r : Rec} (hj : es[j]? = some e) (hk : e.q = ky r) (hgr : w2.grownBy w3 (some e.g)) (hown : w3.ownsRow base 93 6 (.slice (some ⟨g', 0, none⟩) (e.m + 1) cap') (e.m + 1) (fl (sq e.q l) ++ fl [r])) (hl : e.g = g' ∨ g' = w2.heap.size)
    (hb : b < base) (h4 : w3.grownBy w4 (some b)) (hm : Mp w4 b ((ev es).set j (qv (ky r), .slice (some ⟨g', 0, none⟩) (e.m + 1) cap'))) : Gr w4 base b (l ++ [r]) := by
  have hnd : (es.map (·.q)).Nodup := hq ▸ nodup_uq _
  have hjl : j < es.length := (List.getElem?_eq_some_iff.1 hj).1
  have hin : ky r ∈ uq (kl l) := by rw [← hq, ← hk]; exact List.mem_map.2 ⟨e, List.mem_of_getElem? hj, rfl⟩
  have hother : ∀ (i : Nat) (e' : Ge), es[i]? = some e' → i ≠ j → e'.q ≠ ky r := fun i e' he' hne hqq => hne (nodup_inj hnd (a := ky r) (by rw [List.getElem?_map, he', Option.map_some, hqq]) (by rw [List.getElem?_map, hj, Option.map_some, hk]))
  have hg' : base ≤ g' := (hown.lt g' rfl).1
  refine ⟨es.set j ⟨ky r, g', e.m + 1, cap'⟩, ?_, ?_, ?_, ?_⟩
  · have : ev (es.set j ⟨ky r, g', e.m + 1, cap'⟩) = (ev es).set j (qv (ky r), .slice (some ⟨g', 0, none⟩) (e.m + 1) cap') := by rw [ev, List.map_set]; rfl
    rw [this]; exact hm
  · rw [List.map_set, uq_kl, add_in hin]
    show (es.map (·.q)).set j (ky r) = uq (kl l)
    rw [hq]
    refine List.ext_getElem? fun i => ?_
    rw [List.getElem?_set]
    by_cases hi : j = i
    · subst hi
      have h1 : j < (uq (kl l)).length := by rw [← hq, List.length_map]; exact hjl
      have h2 : (uq (kl l))[j]? = some (ky r) := by rw [← hq, List.getElem?_map, hj, Option.map_some, hk]
      rw [if_pos rfl, if_pos h1, h2]
    · rw [if_neg hi]
  · intro i e' he'
    rw [List.getElem?_set] at he'
    by_cases hi : j = i
    · subst hi
      simp [hjl] at he'
      subst he'
      have h5 : w4.ownsRow base 93 6 (.slice (some ⟨g', 0, none⟩) (e.m + 1) cap') (e.m + 1) (fl (sq e.q l) ++ fl [r]) := hown.kept h4 (Or.inr (fun h => by have h6 : g' = b := Option.some.inj h; omega))
      rw [hk, ← fl_append, ← sq_same] at h5
      exact h5
    · simp [hi] at he'
      have h5 := own_kept (ho i e' he') hgr (fun h => hd i j e' e he' hj (fun h => hi h.symm) (Option.some.inj h))
      have h7 := own_lt h5
      have h6 := own_kept h5 h4 (fun h => by have h8 : e'.g = b := Option.some.inj h; omega)
      rw [sq_other l (hother i e' he' (fun h => hi h.symm))]
      exact h6
  · intro i i' e1 e2 h1 h2 hne
    rw [List.getElem?_set] at h1 h2
    have aux : ∀ (i : Nat) (e' : Ge), es[i]? = some e' → i ≠ j → g' ≠ e'.g := fun i e' he' hi h => by
      rcases hl with hl | hl
      · exact hd j i e e' hj he' (fun h => hi h.symm) (hl.trans h)
      · have := own_lt (ho i e' he'); omega
    by_cases hi : j = i
    · subst hi
      simp [hjl] at h1
      subst h1
      simp [hne] at h2
      exact aux i' e2 h2 (fun h => hne h.symm)
    · simp [hi] at h1
      by_cases hi' : j = i'
      · subst hi'
        simp [hjl] at h2
        subst h2
        exact fun h => aux i e1 h1 (fun h => hi h.symm) h.symm
      · simp [hi'] at h2
        exact hd i i' e1 e2 h1 h2 hne

/-- One more record of a key that is not there. -/
theorem gr_new (hq : es.map (·.q) = uq (kl l)) (ho : ∀ (i : Nat) (e : Ge), es[i]? = some e → w2.ownsRow base 93 6 (sv e) e.m (fl (sq e.q l))) (hd : ∀ (i i' : Nat) (e e' : Ge), es[i]? = some e → es[i']? = some e' → i ≠ i' → e.g ≠ e'.g)
    {r : Rec} (hk : ky r ∉ uq (kl l)) (hgr : w2.grownBy w3 none) (hown : w3.ownsRow base 93 6 (.slice (some ⟨g', 0, none⟩) 1 cap') 1 (fl [r])) (hl : g' = w2.heap.size)
    (hb : b < base) (h4 : w3.grownBy w4 (some b)) (hm : Mp w4 b (ev es ++ [(qv (ky r), .slice (some ⟨g', 0, none⟩) 1 cap')])) : Gr w4 base b (l ++ [r]) := by
  have hother : ∀ (i : Nat) (e' : Ge), es[i]? = some e' → e'.q ≠ ky r := fun i e' he' hqq => hk (by rw [← hq, ← hqq]; exact List.mem_map.2 ⟨e', List.mem_of_getElem? he', rfl⟩)
  have hg' : base ≤ g' := (hown.lt g' rfl).1
  have hcase : ∀ (i : Nat) (e' : Ge), (es ++ [(⟨ky r, g', 1, cap'⟩ : Ge)])[i]? = some e' → (i < es.length ∧ es[i]? = some e') ∨ (i = es.length ∧ e' = ⟨ky r, g', 1, cap'⟩) := by
    intro i e' h
    by_cases hi : i < es.length
    · rw [List.getElem?_append_left hi] at h; exact Or.inl ⟨hi, h⟩
    · rw [List.getElem?_append_right (by omega)] at h
      have h0 : i - es.length = 0 := by
        have := (List.getElem?_eq_some_iff.1 h).1
        simpa using this
      rw [h0] at h
      exact Or.inr ⟨by omega, by simpa using h.symm⟩
  refine ⟨es ++ [⟨ky r, g', 1, cap'⟩], ?_, ?_, ?_, ?_⟩
  · have : ev (es ++ [⟨ky r, g', 1, cap'⟩]) = ev es ++ [(qv (ky r), .slice (some ⟨g', 0, none⟩) 1 cap')] := by rw [ev, List.map_append]; rfl
    rw [this]; exact hm
  · rw [List.map_append, uq_kl]
    show es.map (·.q) ++ [ky r] = add (uq (kl l)) (ky r)
    rw [add_out hk, hq]
  · intro i e' he'
    rcases hcase i e' he' with ⟨_, h⟩ | ⟨_, rfl⟩
    · have h5 := own_kept (ho i e' h) hgr (by simp)
      have h7 := own_lt h5
      have h6 := own_kept h5 h4 (fun h => by have h8 : e'.g = b := Option.some.inj h; omega)
      rw [sq_other l (hother i e' h)]
      exact h6
    · have h5 : w4.ownsRow base 93 6 (.slice (some ⟨g', 0, none⟩) 1 cap') 1 (fl [r]) := hown.kept h4 (Or.inr (fun h => by have h6 : g' = b := Option.some.inj h; omega))
      have h6 : sq (ky r) (l ++ [r]) = [r] := by rw [sq_same, sq_none (fun h => hk (mem_uq.2 h)), List.nil_append]
      show w4.ownsRow base 93 6 (.slice (some ⟨g', 0, none⟩) 1 cap') 1 (fl (sq (ky r) (l ++ [r])))
      rw [h6]
      exact h5
  · intro i i' e1 e2 h1 h2 hne
    rcases hcase i e1 h1 with ⟨hi, h1⟩ | ⟨hi, rfl⟩
    · rcases hcase i' e2 h2 with ⟨_, h2⟩ | ⟨_, rfl⟩
      · exact hd i i' e1 e2 h1 h2 hne
      · have := own_lt (ho i e1 h1)
        intro h
        have h8 : e1.g = g' := h
        omega
    · rcases hcase i' e2 h2 with ⟨_, h2⟩ | ⟨hi', rfl⟩
      · have := own_lt (ho i' e2 h2)
        intro h
        have h8 : g' = e2.g := h
        omega
      · omega
end
end Go.Proofs.YtmkcjjgicinggaaGreatDoor.GrpM

/- What firstsOf does at questions: a new slice with the questions, each once, in the order of the first occurrences. Condition: fewer than 400000001 of them. -/
namespace Go.Proofs.YtmkcjjgicinggaaGreatDoor.FstQ
open Go.RowKit Go.Proofs.YtmkcjjgicinggaaGreatDoor.Mem Go.Proofs.YtmkcjjgicinggaaGreatDoor.SetMath Go.Proofs.YtmkcjjgicinggaaGreatDoor.MapK Go.Proofs.YtmkcjjgicinggaaGreatDoor.KeyT Go.Proofs.YtmkcjjgicinggaaGreatDoor.MemQ

/-- The entries of a set. -/
def en (l : List Key) : List (Value × Value) := l.map (fun x => (qv x, .bool true))

theorem en_key (l : List Key) : ∀ p ∈ en l, KQ p.1 := by
  intro p hp
  obtain ⟨x, _, rfl⟩ := List.mem_map.1 hp
  exact ⟨x, rfl⟩

theorem val_inj {x y : Key} (h : (qv x : Value) = qv y) : x = y := by exact qv_inj h

theorem en_out {l : List Key} {x : Key} (h : x ∉ l) : ∀ p ∈ en l, p.1 ≠ qv x := by
  intro p hp e
  obtain ⟨y, hy, rfl⟩ := List.mem_map.1 hp
  exact h (val_inj e ▸ hy)

theorem en_in {l : List Key} {x : Key} (h : x ∈ l) : (qv x, Value.bool true) ∈ en l := List.mem_map.2 ⟨x, h, rfl⟩

theorem en_nodup : ∀ {l : List Key}, l.Nodup → ((en l).map Prod.fst).Nodup
  | [], _ => by simp [en]
  | x :: l, h => by
    obtain ⟨h1, h2⟩ := List.nodup_cons.1 h
    show (qv x :: (en l).map Prod.fst).Nodup
    refine List.nodup_cons.2 ⟨fun hm => ?_, en_nodup h2⟩
    obtain ⟨p, hp, he⟩ := List.mem_map.1 hm
    exact en_out h1 p hp he

theorem en_snoc (l : List Key) (x : Key) : en (l ++ [x]) = en l ++ [(qv x, .bool true)] := by simp [en]

theorem zero (w : World) : (zeroValue 4).run Tryz.prog w = .ok (.bool false) w := by kernel_rfl

theorem made_own (w : World) : ((w.alloc (.map #[] 0)).alloc (.cells #[] 29)).ownsRow (w.heap.size + 1) 29 2 (.slice (some ⟨w.heap.size + 1, 0, none⟩) 0 0) 0 [] := by
  have e : (w.alloc (.map #[] 0)).heap.size = w.heap.size + 1 := by simp
  have := owns_new (w.alloc (.map #[] 0))
  rwa [e] at this

end Go.Proofs.YtmkcjjgicinggaaGreatDoor.FstQ

/- What keyOf and KeysOf do in the program: the name and the type of a record; the keys of all records, each once. Condition: fewer than 400000001 records. -/
namespace Go.Proofs.YtmkcjjgicinggaaGreatDoor.KeyI
open Go.RowKit Go.Proofs.YtmkcjjgicinggaaGreatDoor.Mem Go.Proofs.YtmkcjjgicinggaaGreatDoor.MemR Go.Proofs.YtmkcjjgicinggaaGreatDoor.SetMath Go.Proofs.YtmkcjjgicinggaaGreatDoor.MemQ

set_option maxHeartbeats 1000000 in
theorem keyOf (r : Rec) (w : World) : Calls Tryz.prog 120 #[.agg #[.string r.name, .int .i64 r.ty, .int .i64 r.ttl, .int .i64 r.n, .string r.host, .string r.text]] w fun e w' => e = .returned (.agg #[.string r.name, .int .i64 r.ty]) ∧ Below w.heap.size w w' := by
  go_enter Tryz.func120, Tryz.ntmps120
  go_wp2
  refine bodyPost_ret (v := .agg #[.string r.name, .int .i64 r.ty]) (by simp [results, Tryz.results120, go_sem]) rfl ⟨rfl, ?_⟩
  repeat (first | exact Below.refl _ _ | refine Below.setCell ?_ (by simp; try omega) _ | refine Below.alloc ?_ (by simp; try omega) _)

end Go.Proofs.YtmkcjjgicinggaaGreatDoor.KeyI
