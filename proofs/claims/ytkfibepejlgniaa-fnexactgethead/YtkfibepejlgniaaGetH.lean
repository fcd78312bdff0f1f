/- What GetHead does in the program and in the model: it reads a header as HeadRd tells, and turns nothing that was there. Condition: at most 400000000 bytes. -/
import Derived.Test.YtkfibepejlgniaaHeadRd
import Derived.Test.YtkfibepejlgniaaPartI
import Derived.Test.YtkfibepejlgniaaResM
import Derived.Deep.RegionHeld3
namespace Go.Proofs.Ytkfibepejlgniaa.GetH
open Go.RowKit Go.Proofs.Ytkfibepejlgniaa.Mem Go.Proofs.Ytkfibepejlgniaa.MemR Go.Proofs.Ytkfibepejlgniaa.MemM Go.Proofs.Ytkfibepejlgniaa.Get Go.Proofs.Ytkfibepejlgniaa.ResR Go.Proofs.Ytkfibepejlgniaa.ResM Go.Proofs.Ytkfibepejlgniaa.PartI Go.Proofs.Ytkfibepejlgniaa.HeadRd

theorem results_cell_tmp4 {fn : Func} {p t u v x : Tmp} {ty : TypeId} (h : fn.results = #[.cell p ty, .tmp t, .tmp u, .tmp v, .tmp x]) (tmps : Array Value) (P : Program) (w : World) :
    (results fn tmps).run P w = ((asAddr (tmps.getD p undef)).run P w).andThen fun a w₁ => ((loadVar ty a).run P w₁).andThen fun y w₂ => .ok (.tuple #[y, tmps.getD t undef, tmps.getD u undef, tmps.getD v undef, tmps.getD x undef]) w₂ := by
  simp only [results, h]
  simp [Sem.run_bind, Result.andThen]
theorem res5M {fn : Func} {p t u v x : Tmp} {w : World} {g : Nat} {tt : TypeId} {h : Hd} {A1 A2 A3 : Option Addr} {n1 c1 n2 c2 n3 c3 : Nat} {a b c d : Value} {tmps : Array Value} (hf : fn.results = #[.cell p 33, .tmp t, .tmp u, .tmp v, .tmp x])
    (k : Bk w g tt (mc h (.slice A1 n1 c1) (.slice A2 n2 c2) (.slice A3 n3 c3))) (h4 : tmps.getD p undef = .pointer (some ⟨g, 0, none⟩)) (e1 : tmps.getD t undef = a) (e2 : tmps.getD u undef = b) (e3 : tmps.getD v undef = c) (e4 : tmps.getD x undef = d) :
    (results fn tmps).run Try.prog w = .ok (.tuple #[.agg #[.int .i64 h.id, .bool h.rp, .bool h.au, .bool h.ct, .bool h.wa, .bool h.ca, .int .i64 h.code, .string h.qn, .int .i64 h.qt, .slice A1 n1 c1, .slice A2 n2 c2, .slice A3 n3 c3], a, b, c, d]) w := by
  rw [results_cell_tmp4 hf, h4, as_addr]
  simp only [Result.andThen, load_msg k, e1, e2, e3, e4]
theorem res2M {fn : Func} {p t : Tmp} {w : World} {g : Nat} {tt : TypeId} {h : Hd} {A1 A2 A3 : Option Addr} {n1 c1 n2 c2 n3 c3 : Nat} {a : Value} {tmps : Array Value} (hf : fn.results = #[.cell p 33, .tmp t])
    (k : Bk w g tt (mc h (.slice A1 n1 c1) (.slice A2 n2 c2) (.slice A3 n3 c3))) (h4 : tmps.getD p undef = .pointer (some ⟨g, 0, none⟩)) (e1 : tmps.getD t undef = a) :
    (results fn tmps).run Try.prog w = .ok (.tuple #[.agg #[.int .i64 h.id, .bool h.rp, .bool h.au, .bool h.ct, .bool h.wa, .bool h.ca, .int .i64 h.code, .string h.qn, .int .i64 h.qt, .slice A1 n1 c1, .slice A2 n2 c2, .slice A3 n3 c3], a]) w := by
  rw [results_cell_tmp hf, h4, as_addr]
  simp only [Result.andThen, load_msg k, e1]

/-- The program's test for other bits is the model's. -/
theorem not135 (x : Int) (h0 : 0 ≤ x) (h1 : x < 256) : (bits .andNot .u8 x 135 == 0) = !bo x 120 := by
  have key : ∀ y : Fin 256, (bits .andNot .u8 ((y.val : Nat) : Int) 135 == 0) = !bo ((y.val : Nat) : Int) 120 := by decide +kernel
  have := key ⟨x.toNat, by omega⟩
  rw [Int.toNat_of_nonneg h0] at this
  exact this
theorem not143 (x : Int) (h0 : 0 ≤ x) (h1 : x < 256) : (bits .andNot .u8 x 143 == 0) = !bo x 112 := by
  have key : ∀ y : Fin 256, (bits .andNot .u8 ((y.val : Nat) : Int) 143 == 0) = !bo ((y.val : Nat) : Int) 112 := by decide +kernel
  have := key ⟨x.toNat, by omega⟩
  rw [Int.toNat_of_nonneg h0] at this
  exact this
theorem and15_wrap (x : Int) (h0 : 0 ≤ x) (h1 : x < 256) : IntKind.i64.wrap (bits .and .u8 x 15) = bits .and .u8 x 15 := by
  rw [u8_and15 x h0 h1, IntKind.wrap_i64]; omega

set_option maxRecDepth 100000 in
set_option maxHeartbeats 4000000 in
theorem flagsIn (b off : Nat) (l : List UInt8) (w : World) (hs : Sl w w.heap.size (some ⟨b, off, none⟩) 12 l) :
    Calls Try.prog 32 #[.slice (some ⟨b, off, none⟩) 12 12] w fun e w' => e = .returned (.tuple #[.agg #[.int .i64 (hdr 0 (by8 l 2) (by8 l 3)).id, .bool (hdr 0 (by8 l 2) (by8 l 3)).rp, .bool (hdr 0 (by8 l 2) (by8 l 3)).au, .bool (hdr 0 (by8 l 2) (by8 l 3)).ct, .bool (hdr 0 (by8 l 2) (by8 l 3)).wa, .bool (hdr 0 (by8 l 2) (by8 l 3)).ca, .int .i64 (hdr 0 (by8 l 2) (by8 l 3)).code, .string (hdr 0 (by8 l 2) (by8 l 3)).qn, .int .i64 (hdr 0 (by8 l 2) (by8 l 3)).qt, .slice none 0 0, .slice none 0 0, .slice none 0 0], .bool (!bo (by8 l 2) 120 && !bo (by8 l 3) 112)]) ∧ Below w.heap.size w w' := by
  have hl := hs.1
  have hs' := hs.below ((Below.refl w.heap.size w).alloc (Nat.le_refl _) (.cells #[.int .i64 0, .bool false, .bool false, .bool false, .bool false, .bool false, .int .i64 0, .string ⟨#[]⟩, .int .i64 0, .slice none 0 0, .slice none 0 0, .slice none 0 0] 33))
  obtain ⟨b', off', e, hb, hc⟩ := hs'.2 (by omega)
  simp only [Option.some.injEq, Addr.mk.injEq, and_true] at e
  obtain ⟨rfl, rfl⟩ := e
  have k2 := hc 2 (by omega)
  have k3 := hc 3 (by omega)
  rw [← by8_at] at k2 k3
  have i2 := by8_in l 2
  have i3 := by8_in l 3
  generalize by8 l 2 = x at *
  generalize by8 l 3 = y at *
  have S0 : (w.alloc (.cells #[.int .i64 0, .bool false, .bool false, .bool false, .bool false, .bool false, .int .i64 0, .string ⟨#[]⟩, .int .i64 0, .slice none 0 0, .slice none 0 0, .slice none 0 0] 33)).cell? ⟨b, off + 2, none⟩ = some (.int .u8 x) ∧ (w.alloc (.cells #[.int .i64 0, .bool false, .bool false, .bool false, .bool false, .bool false, .int .i64 0, .string ⟨#[]⟩, .int .i64 0, .slice none 0 0, .slice none 0 0, .slice none 0 0] 33)).cell? ⟨b, off + 3, none⟩ = some (.int .u8 y) := ⟨k2, k3⟩
  have T1 := Lib.hid (not135 x i2.1 i2.2)
  have T2 := Lib.hid (not143 y i3.1 i3.2)
  have T3 := Lib.hid (and15_wrap y i3.1 i3.2)
  have L0 := Lib.hid ((Below.refl w.heap.size w).alloc (Nat.le_refl _) (.cells #[.int .i64 0, .bool false, .bool false, .bool false, .bool false, .bool false, .int .i64 0, .string ⟨#[]⟩, .int .i64 0, .slice none 0 0, .slice none 0 0, .slice none 0 0] 33))
  have Z0 : Hid (Bk (w.alloc (.cells #[.int .i64 0, .bool false, .bool false, .bool false, .bool false, .bool false, .int .i64 0, .string ⟨#[]⟩, .int .i64 0, .slice none 0 0, .slice none 0 0, .slice none 0 0] 33)) w.heap.size 33 (mc zh (.slice none 0 0) (.slice none 0 0) (.slice none 0 0))) := heap_alloc_new w _
  clear hs hs' hl hc k2 k3 i2 i3 hb
  generalize (!bo x 120) = p at *
  generalize (!bo y 112) = q at *
  cases p
  all_goals
    go_enter Try.func32, Try.ntmps32
    go_wp2
    go_region_held3 (fun w' => w'.cell? ⟨b, off + 2, none⟩ = some (.int .u8 x) ∧ w'.cell? ⟨b, off + 3, none⟩ = some (.int .u8 y))
      (first | exact S0 | with_reducible assumption | fail)
      (fail)
    rename_i hH
    clear hH
    have L1 : Hid (Below w.heap.size w (w.alloc (.cells #[.int .i64 0, .bool false, .bool false, .bool false, .bool false, .bool false, .int .i64 0, .string ⟨#[]⟩, .int .i64 0, .slice none 0 0, .slice none 0 0, .slice none 0 0] 33)).drew) := L0.out.drew
    have Z1 : Hid (Bk (w.alloc (.cells #[.int .i64 0, .bool false, .bool false, .bool false, .bool false, .bool false, .int .i64 0, .string ⟨#[]⟩, .int .i64 0, .slice none 0 0, .slice none 0 0, .slice none 0 0] 33)).drew w.heap.size 33 (mc zh (.slice none 0 0) (.slice none 0 0) (.slice none 0 0))) := Z0.out
    generalize (w.alloc (.cells #[.int .i64 0, .bool false, .bool false, .bool false, .bool false, .bool false, .int .i64 0, .string ⟨#[]⟩, .int .i64 0, .slice none 0 0, .slice none 0 0, .slice none 0 0] 33)).drew = w1 at *
    have L2 := Lib.hid (L1.out.alloc L1.out.size (.cells #[.int .i64 0, .bool (bits .and .u8 x 128 != 0), .bool (bits .and .u8 x 4 != 0), .bool (bits .and .u8 x 2 != 0), .bool (bits .and .u8 x 1 != 0), .bool (bits .and .u8 y 128 != 0), .int .i64 (bits .and .u8 y 15), .string ⟨#[]⟩, .int .i64 0, .slice none 0 0, .slice none 0 0, .slice none 0 0] 33))
    have Z2 := Lib.hid (Z1.out.alloc (.cells #[.int .i64 0, .bool (bits .and .u8 x 128 != 0), .bool (bits .and .u8 x 4 != 0), .bool (bits .and .u8 x 2 != 0), .bool (bits .and .u8 x 1 != 0), .bool (bits .and .u8 y 128 != 0), .int .i64 (bits .and .u8 y 15), .string ⟨#[]⟩, .int .i64 0, .slice none 0 0, .slice none 0 0, .slice none 0 0] 33))
    have X2 := mx_new w1 33 (hdr 0 x y) (.slice none 0 0) (.slice none 0 0) (.slice none 0 0)
    obtain ⟨z0, z1, z2, z3, z4, z5, z6, z7, z8, z9, z10, z11⟩ := mx_of Z2.out
    have f0 := Z2.out.free 0
    have f1 := Z2.out.free 1
    have f2 := Z2.out.free 2
    have f3 := Z2.out.free 3
    have f4 := Z2.out.free 4
    have f5 := Z2.out.free 5
    have f6 := Z2.out.free 6
    have f7 := Z2.out.free 7
    have f8 := Z2.out.free 8
    have f9 := Z2.out.free 9
    have f10 := Z2.out.free 10
    have f11 := Z2.out.free 11
    have t1 := T1.out
    have t2 := T2.out
    have t3 := T3.out
    clear T1 T2 T3
    go_wp2
    exact bodyPost_ret (v := .tuple #[.agg #[.int .i64 (hdr 0 x y).id, .bool (hdr 0 x y).rp, .bool (hdr 0 x y).au, .bool (hdr 0 x y).ct, .bool (hdr 0 x y).wa, .bool (hdr 0 x y).ca, .int .i64 (hdr 0 x y).code, .string (hdr 0 x y).qn, .int .i64 (hdr 0 x y).qt, .slice none 0 0, .slice none 0 0, .slice none 0 0], _]) (res2M rfl (filM_bk Z2.out (hdr 0 x y) (.slice none 0 0) (.slice none 0 0) (.slice none 0 0)) rfl rfl) rfl ⟨by first | rfl | simp, filM_below L2.out (Nat.le_refl _) (hdr 0 x y) (.slice none 0 0) (.slice none 0 0) (.slice none 0 0)⟩
end Go.Proofs.Ytkfibepejlgniaa.GetH
