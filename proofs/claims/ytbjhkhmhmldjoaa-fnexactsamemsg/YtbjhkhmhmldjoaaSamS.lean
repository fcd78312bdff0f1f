/- What SameMsg does, put together of its ways. -/
import Derived.Test.YtbjhkhmhmldjoaaSamA
import Derived.Test.YtbjhkhmhmldjoaaSamB
import Derived.Test.YtbjhkhmhmldjoaaSamC
import Derived.Test.YtbjhkhmhmldjoaaSamD
import Derived.Test.YtbjhkhmhmldjoaaSamE
namespace Go.Proofs.Ytbjhkhmhmldjoaa.SamS
open Go.RowKit Go.Proofs.Ytbjhkhmhmldjoaa.Mem Go.Proofs.Ytbjhkhmhmldjoaa.MemR Go.Proofs.Ytbjhkhmhmldjoaa.BoxR Go.Proofs.Ytbjhkhmhmldjoaa.MemM Go.Proofs.Ytbjhkhmhmldjoaa.ResM Go.Proofs.Ytbjhkhmhmldjoaa.SameR Go.Proofs.Ytbjhkhmhmldjoaa.SamM Go.Proofs.Ytbjhkhmhmldjoaa.SamA Go.Proofs.Ytbjhkhmhmldjoaa.SamB Go.Proofs.Ytbjhkhmhmldjoaa.SamC Go.Proofs.Ytbjhkhmhmldjoaa.SamD Go.Proofs.Ytbjhkhmhmldjoaa.SamE

theorem same (h k : Hd) (A1 A1' : Option Addr) (n1 n1' c1 c1' : Nat) (l1 m1 : List Rec) (A2 A2' : Option Addr) (n2 n2' c2 c2' : Nat) (l2 m2 : List Rec) (A3 A3' : Option Addr) (n3 n3' c3 c3' : Nat) (l3 m3 : List Rec) (w : World) (e1 : Sr w w.heap.size A1 n1 l1) (g1 : Sr w w.heap.size A1' n1' m1) (b1 : n1 ≤ 400000000) (b1' : n1' ≤ 400000000) (e2 : Sr w w.heap.size A2 n2 l2) (g2 : Sr w w.heap.size A2' n2' m2) (b2 : n2 ≤ 400000000) (b2' : n2' ≤ 400000000) (e3 : Sr w w.heap.size A3 n3 l3) (g3 : Sr w w.heap.size A3' n3' m3) (b3 : n3 ≤ 400000000) (b3' : n3' ≤ 400000000) : Calls Try.prog 8 #[.agg #[.int .i64 h.id, .bool h.rp, .bool h.au, .bool h.ct, .bool h.wa, .bool h.ca, .int .i64 h.code, .string h.qn, .int .i64 h.qt, .slice A1 n1 c1, .slice A2 n2 c2, .slice A3 n3 c3], .agg #[.int .i64 k.id, .bool k.rp, .bool k.au, .bool k.ct, .bool k.wa, .bool k.ca, .int .i64 k.code, .string k.qn, .int .i64 k.qt, .slice A1' n1' c1', .slice A2' n2' c2', .slice A3' n3' c3']] w fun e w' => e = .returned (.bool (smm h k l1 l2 l3 m1 m2 m3)) ∧ Below w.heap.size w w' := by
  obtain ⟨ia, pa, qa, ra, sa, ta, da, nma, tya⟩ := h
  obtain ⟨ib, pb, qb, rb, sb, tb, db, nmb, tyb⟩ := k
  dsimp only
  by_cases ce0 : ia = ib
  case neg =>
    rw [smm_h (fun e => ce0 e.1)]
    exact sp_f0 ia pa qa ra sa ta da nma tya ib pb qb rb sb tb db nmb tyb A1 A1' n1 n1' c1 c1' A2 A2' n2 n2' c2 c2' A3 A3' n3 n3' c3 c3' w ce0
  obtain rfl := ce0
  by_cases ce1 : pa = pb
  case neg =>
    rw [smm_h (fun e => ce1 e.2.1)]
    exact sp_f1 ia pa qa ra sa ta da nma tya pb qb rb sb tb db nmb tyb A1 A1' n1 n1' c1 c1' A2 A2' n2 n2' c2 c2' A3 A3' n3 n3' c3 c3' w ce1
  obtain rfl := ce1
  by_cases ce2 : qa = qb
  case neg =>
    rw [smm_h (fun e => ce2 e.2.2.1)]
    exact sp_f2 ia pa qa ra sa ta da nma tya qb rb sb tb db nmb tyb A1 A1' n1 n1' c1 c1' A2 A2' n2 n2' c2 c2' A3 A3' n3 n3' c3 c3' w ce2
  obtain rfl := ce2
  by_cases ce3 : ra = rb
  case neg =>
    rw [smm_h (fun e => ce3 e.2.2.2.1)]
    exact sp_f3 ia pa qa ra sa ta da nma tya rb sb tb db nmb tyb A1 A1' n1 n1' c1 c1' A2 A2' n2 n2' c2 c2' A3 A3' n3 n3' c3 c3' w ce3
  obtain rfl := ce3
  by_cases ce4 : sa = sb
  case neg =>
    rw [smm_h (fun e => ce4 e.2.2.2.2.1)]
    exact sp_f4 ia pa qa ra sa ta da nma tya sb tb db nmb tyb A1 A1' n1 n1' c1 c1' A2 A2' n2 n2' c2 c2' A3 A3' n3 n3' c3 c3' w ce4
  obtain rfl := ce4
  by_cases ce5 : ta = tb
  case neg =>
    rw [smm_h (fun e => ce5 e.2.2.2.2.2.1)]
    exact sp_f5 ia pa qa ra sa ta da nma tya tb db nmb tyb A1 A1' n1 n1' c1 c1' A2 A2' n2 n2' c2 c2' A3 A3' n3 n3' c3 c3' w ce5
  obtain rfl := ce5
  by_cases ce6 : da = db
  case neg =>
    rw [smm_h (fun e => ce6 e.2.2.2.2.2.2)]
    exact sp_f6 ia pa qa ra sa ta da nma tya db nmb tyb A1 A1' n1 n1' c1 c1' A2 A2' n2 n2' c2 c2' A3 A3' n3 n3' c3 c3' w ce6
  obtain rfl := ce6
  by_cases cq : nma = nmb ∧ tya = tyb
  case neg =>
    rw [smm_q cq]
    exact sp_f7 ia pa qa ra sa ta da nma tya nmb tyb A1 A1' n1 n1' c1 c1' A2 A2' n2 n2' c2 c2' A3 A3' n3 n3' c3 c3' w cq
  obtain ⟨rfl, rfl⟩ := cq
  rw [smm_r]
  have C1 : ∀ W : World, Below w.heap.size w W → Calls Try.prog 26 #[.slice A1 n1 c1, .slice A1' n1' c1'] W fun e w' => e = .returned (.bool (sm l1 m1)) ∧ Below W.heap.size W w' := fun W hW => SameR.spec A1 A1' n1 c1 n1' c1' l1 m1 W (e1.on hW) (g1.on hW) b1 b1'
  have C2 : ∀ W : World, Below w.heap.size w W → Calls Try.prog 26 #[.slice A2 n2 c2, .slice A2' n2' c2'] W fun e w' => e = .returned (.bool (sm l2 m2)) ∧ Below W.heap.size W w' := fun W hW => SameR.spec A2 A2' n2 c2 n2' c2' l2 m2 W (e2.on hW) (g2.on hW) b2 b2'
  have C3 : ∀ W : World, Below w.heap.size w W → Calls Try.prog 26 #[.slice A3 n3 c3, .slice A3' n3' c3'] W fun e w' => e = .returned (.bool (sm l3 m3)) ∧ Below W.heap.size W w' := fun W hW => SameR.spec A3 A3' n3 c3 n3' c3' l3 m3 W (e3.on hW) (g3.on hW) b3 b3'
  generalize sm l1 m1 = u1 at *
  generalize sm l2 m2 = u2 at *
  generalize sm l3 m3 = u3 at *
  cases u1
  · exact sp_r1 ia pa qa ra sa ta da nma tya A1 A1' n1 n1' c1 c1' A2 A2' n2 n2' c2 c2' A3 A3' n3 n3' c3 c3' w C1
  cases u2
  · exact sp_r2 ia pa qa ra sa ta da nma tya A1 A1' n1 n1' c1 c1' A2 A2' n2 n2' c2 c2' A3 A3' n3 n3' c3 c3' w C1 C2
  · exact sp_r3 ia pa qa ra sa ta da nma tya A1 A1' n1 n1' c1 c1' A2 A2' n2 n2' c2 c2' A3 A3' n3 n3' c3 c3' w u3 C1 C2 C3
end Go.Proofs.Ytbjhkhmhmldjoaa.SamS
