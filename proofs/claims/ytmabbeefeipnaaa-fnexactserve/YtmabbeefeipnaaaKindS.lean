/- What KindIn does in the model: the kind of a question's reply. Condition: fewer than 400000001 records, no name of more than 400000000 bytes. -/
import Derived.Test.YtmabbeefeipnaaaServeMath
import Derived.Test.YtmabbeefeipnaaaCutOfS
import Derived.Test.YtmabbeefeipnaaaSetS
import Derived.Test.YtmabbeefeipnaaaExistsS
import Derived.Test.YtmabbeefeipnaaaMemM
namespace Go.Proofs.Ytmabbeefeipnaaa.KindS
open Go.RowKit Go.Proofs.Ytmabbeefeipnaaa.Mem Go.Proofs.Ytmabbeefeipnaaa.MemR Go.Proofs.Ytmabbeefeipnaaa.SetMath Go.Proofs.Ytmabbeefeipnaaa.NameMath Go.Proofs.Ytmabbeefeipnaaa.ZoneMath Go.Proofs.Ytmabbeefeipnaaa.ServeMath Go.Proofs.Ytmabbeefeipnaaa.MemZ Go.Proofs.Ytmabbeefeipnaaa.MemM

/-- The boxes of a zone and a question. -/
theorem two (w : World) (s nm : ByteArray) (ty : Int) (x : Value) (t u : TypeId) : (Zx ((w.alloc (.cells #[.string s, x] t)).alloc (.cells #[.string nm, .int .i64 ty] u)) w.heap.size s x ∧ Qx ((w.alloc (.cells #[.string s, x] t)).alloc (.cells #[.string nm, .int .i64 ty] u)) (w.heap.size + 1) nm ty) ∧ Below w.heap.size w ((w.alloc (.cells #[.string s, x] t)).alloc (.cells #[.string nm, .int .i64 ty] u)) := by
  refine ⟨⟨(zx_new w t s x).alloc _, ?_⟩, ((Below.refl w.heap.size w).alloc (Nat.le_refl _) _).alloc (by simp) _⟩
  have := qx_new (w.alloc (.cells #[.string s, x] t)) u nm ty
  rw [show (w.alloc (.cells #[.string s, x] t)).heap.size = w.heap.size + 1 by simp] at this
  exact this

set_option maxHeartbeats 8000000 in
theorem spec (s nm : ByteArray) (ty : Int) (b0 o0 n c : Nat) (l : List Rec) (w : World) (hs : Sr w w.heap.size (some ⟨b0, o0, none⟩) n l) (hn : n ≤ 400000000) (hm : s.size ≤ 400000000) (hq : nm.size ≤ 400000000) (hz : ∀ r ∈ l, r.name.size ≤ 400000000) :
    Calls Try.prog 11 #[.agg #[.string s, .slice (some ⟨b0, o0, none⟩) n c], .agg #[.string nm, .int .i64 ty]] w fun e w' => e = .returned (.int .i64 (kd s nm ty l)) ∧ Below w.heap.size w w' := by
  obtain ⟨⟨hx, hy⟩, hl0⟩ := two w s nm ty (.slice (some ⟨b0, o0, none⟩) n c) 32 34
  have X0 := Lib.hid hx
  have Y0 := Lib.hid hy
  have L0 := Lib.hid hl0
  have S0 := Lib.hid (hs.on hl0)
  have CS := Lib.hid (fun W hW => CutOfS.spec s nm b0 o0 n c l W hW hn hm hq hz)
  have US := Lib.hid (fun W => Under.spec nm s W hq hm)
  have ES := Lib.hid (fun W hW => ExistsS.spec s nm b0 o0 n c l W hW hn hq hz)
  have AS := Lib.hid (fun W hW => SetS.spec nm 5 b0 o0 n c l W hW hn)
  have TS := Lib.hid (fun W hW => SetS.spec nm ty b0 o0 n c l W hW hn)
  have K0 := Lib.hid (@kd0 s nm ty l)
  have K1 := Lib.hid (@kd1 s nm ty l)
  have K2 := Lib.hid (@kd2 s nm ty l)
  have K3 := Lib.hid (@kd3 s nm ty l)
  have K4 := Lib.hid (@kd4 s nm ty l)
  have K5 := Lib.hid (@kd5 s nm ty l)
  clear hs hz hx hy hl0
  generalize kd s nm ty l = k at *
  obtain ⟨o, ho⟩ : ∃ o, co nm (uq (cn s l)) = o := ⟨_, rfl⟩
  rw [ho] at CS K1 K2 K3 K4 K5
  clear ho
  generalize Un nm s = u at *
  generalize ex nm l = x at *
  generalize sf nm 5 l = la at *
  generalize sf nm ty l = lt at *
  obtain ⟨x0, x1⟩ := X0.out
  obtain ⟨y0, y1⟩ := Y0.out
  obtain ⟨v, b, hv, hb⟩ : ∃ v b, cv o = .tuple #[.string v, .bool b] ∧ b = o.isSome := by cases o <;> exact ⟨_, _, rfl, rfl⟩
  rw [hv] at CS
  have HB := Lib.hid hb
  clear hv hb
  go_enter Try.func11, Try.ntmps11
  go_wp2_with fail
  refine (CS.out _ S0.out).mono ?_
  rintro e w1 ⟨rfl, hl⟩
  have X1 := Lib.hid (X0.out.below hl)
  have Y1 := Lib.hid (Y0.out.below hl)
  have S1 := Lib.hid (S0.out.on hl)
  have L1 := Lib.hid (L0.out.trans (hl.mono L0.out.size))
  clear hl CS X0 Y0 S0 L0 x0 x1 y0 y1
  obtain ⟨x0, x1⟩ := X1.out
  obtain ⟨y0, y1⟩ := Y1.out
  go_wp2_with fail
  refine (US.out _).mono ?_
  rintro e w2 ⟨rfl, hl⟩
  have X2 := Lib.hid (X1.out.below hl)
  have Y2 := Lib.hid (Y1.out.below hl)
  have S2 := Lib.hid (S1.out.on hl)
  have L2 := Lib.hid (L1.out.trans (hl.mono L1.out.size))
  clear hl US X1 Y1 S1 L1 x0 x1 y0 y1
  cases u with
  | false =>
    have HF := Lib.hid (K0.out (by trivial))
    go_wp2
    go_ret
    exact ⟨congrArg (fun b => Ending.returned (Value.int .i64 b)) HF.out.symm, L2.out⟩
  | true =>
  cases b with
  | true =>
    have HF := Lib.hid (K1.out (by trivial) HB.out.symm)
    go_wp2
    go_ret
    exact ⟨congrArg (fun b => Ending.returned (Value.int .i64 b)) HF.out.symm, L2.out⟩
  | false =>
  have HO : Hid (o = none) := by
    have := HB.out
    cases o with
    | none => rfl
    | some y => cases this
  obtain ⟨x0, x1⟩ := X2.out
  obtain ⟨y0, y1⟩ := Y2.out
  by_cases hty : ty = 5
  · have t5 : (ty != 5) = false := by simp [hty]
    have HA : Hid (ty = 5 ∨ la.length = 0) := Or.inl hty
    clear hty
    go_wp2_with fail
    refine (TS.out _ S2.out).mono ?_
    rintro e w4 ⟨g, m, cp, r, rfl, hm4, -, -, -, hl⟩
    have M4 := Lib.hid hm4
    have X4 := Lib.hid (X2.out.below hl)
    have Y4 := Lib.hid (Y2.out.below hl)
    have S4 := Lib.hid (S2.out.on hl)
    have L4 := Lib.hid (L2.out.trans (hl.mono L2.out.size))
    clear hl hm4 X2 Y2 S2 L2 x0 x1 y0 y1
    by_cases h4 : (0 : Int) < (m : Int)
    · have HF := Lib.hid (K3.out (by trivial) HO.out HA.out (by have := M4.out; omega))
      go_wp2
      go_ret
      exact ⟨congrArg (fun b => Ending.returned (Value.int .i64 b)) HF.out.symm, L4.out⟩
    · have K4' := Lib.hid (K4.out (by trivial) HO.out HA.out (by have := M4.out; omega))
      have K5' := Lib.hid (K5.out (by trivial) HO.out HA.out (by have := M4.out; omega))
      obtain ⟨x0, x1⟩ := X4.out
      obtain ⟨y0, y1⟩ := Y4.out
      go_wp2_with fail
      refine (ES.out _ S4.out).mono ?_
      rintro e w5 ⟨rfl, hl⟩
      have L5 := Lib.hid (L4.out.trans (hl.mono L4.out.size))
      clear hl
      cases x with
      | true => go_wp2; go_ret; exact ⟨congrArg (fun b => Ending.returned (Value.int .i64 b)) (K4'.out (by trivial)).symm, L5.out⟩
      | false => go_wp2; go_ret; exact ⟨congrArg (fun b => Ending.returned (Value.int .i64 b)) (K5'.out (by trivial)).symm, L5.out⟩
  · have t5 : (ty != 5) = true := by simp [hty]
    have HT := Lib.hid hty
    clear hty
    go_wp2_with fail
    refine (AS.out _ S2.out).mono ?_
    rintro e w3 ⟨ga, ma, ca, ra, rfl, hm3, -, -, -, hl⟩
    have M3 := Lib.hid hm3
    have X3 := Lib.hid (X2.out.below hl)
    have Y3 := Lib.hid (Y2.out.below hl)
    have S3 := Lib.hid (S2.out.on hl)
    have L3 := Lib.hid (L2.out.trans (hl.mono L2.out.size))
    clear hl hm3 X2 Y2 S2 L2 x0 x1 y0 y1
    by_cases h3 : (0 : Int) < (ma : Int)
    · have HF := Lib.hid (K2.out (by trivial) HO.out HT.out (by have := M3.out; omega))
      go_wp2
      go_ret
      exact ⟨congrArg (fun b => Ending.returned (Value.int .i64 b)) HF.out.symm, L3.out⟩
    · have HA : Hid (ty = 5 ∨ la.length = 0) := Or.inr (by have := M3.out; omega)
      obtain ⟨x0, x1⟩ := X3.out
      obtain ⟨y0, y1⟩ := Y3.out
      go_wp2_with fail
      refine (TS.out _ S3.out).mono ?_
      rintro e w4 ⟨g, m, cp, r, rfl, hm4, -, -, -, hl⟩
      have M4 := Lib.hid hm4
      have X4 := Lib.hid (X3.out.below hl)
      have Y4 := Lib.hid (Y3.out.below hl)
      have S4 := Lib.hid (S3.out.on hl)
      have L4 := Lib.hid (L3.out.trans (hl.mono L3.out.size))
      clear hl hm4 X3 Y3 S3 L3 x0 x1 y0 y1
      by_cases h4 : (0 : Int) < (m : Int)
      · have HF := Lib.hid (K3.out (by trivial) HO.out HA.out (by have := M4.out; omega))
        go_wp2
        go_ret
        exact ⟨congrArg (fun b => Ending.returned (Value.int .i64 b)) HF.out.symm, L4.out⟩
      · have K4' := Lib.hid (K4.out (by trivial) HO.out HA.out (by have := M4.out; omega))
        have K5' := Lib.hid (K5.out (by trivial) HO.out HA.out (by have := M4.out; omega))
        obtain ⟨x0, x1⟩ := X4.out
        obtain ⟨y0, y1⟩ := Y4.out
        go_wp2_with fail
        refine (ES.out _ S4.out).mono ?_
        rintro e w5 ⟨rfl, hl⟩
        have L5 := Lib.hid (L4.out.trans (hl.mono L4.out.size))
        clear hl
        cases x with
        | true => go_wp2; go_ret; exact ⟨congrArg (fun b => Ending.returned (Value.int .i64 b)) (K4'.out (by trivial)).symm, L5.out⟩
        | false => go_wp2; go_ret; exact ⟨congrArg (fun b => Ending.returned (Value.int .i64 b)) (K5'.out (by trivial)).symm, L5.out⟩

end Go.Proofs.Ytmabbeefeipnaaa.KindS
