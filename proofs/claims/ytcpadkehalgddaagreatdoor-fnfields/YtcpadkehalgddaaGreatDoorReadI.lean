/- What the program's readers of data do: they read as FieldRd tells, and hand on a value of which recordOf makes the record. Conditions: at most 400000000 bytes; the library's variable internal/bytealg.MaxLen holds an int. -/
import Derived.Test.YtcpadkehalgddaaGreatDoorFieldRd
import Derived.Test.YtcpadkehalgddaaGreatDoorNameGet
import Derived.Test.YtcpadkehalgddaaGreatDoorResR
namespace Go.Proofs.YtcpadkehalgddaaGreatDoor.ReadI
open Go.RowKit Go.Proofs.YtcpadkehalgddaaGreatDoor.Mem Go.Proofs.YtcpadkehalgddaaGreatDoor.MemR Go.Proofs.YtcpadkehalgddaaGreatDoor.JoinSpec Go.Proofs.YtcpadkehalgddaaGreatDoor.Labels Go.Proofs.YtcpadkehalgddaaGreatDoor.GetLabel Go.Proofs.YtcpadkehalgddaaGreatDoor.BoxR Go.Proofs.YtcpadkehalgddaaGreatDoor.NameOk Go.Proofs.YtcpadkehalgddaaGreatDoor.WireMath Go.Proofs.YtcpadkehalgddaaGreatDoor.WalkSpec Go.Proofs.YtcpadkehalgddaaGreatDoor.Get Go.Proofs.YtcpadkehalgddaaGreatDoor.FieldMath Go.Proofs.YtcpadkehalgddaaGreatDoor.FieldRd Go.Proofs.YtcpadkehalgddaaGreatDoor.ResR

theorem get4 (A : Option Addr) (n c : Nat) (l : List UInt8) (k : Int) (w : World) (B : Nat) (hs : Sl w B A n l) (hnc : n ≤ c) (hn : n ≤ 400000000) :
    Calls Tryz.prog 47 #[.slice A n c, .int .i64 k] w fun e w' => e = .returned (.tuple #[.int .i64 (n4 l k).1, .bool (n4 l k).2]) ∧ w = w' := by
  have hl := hs.1
  unfold n4
  by_cases h : 0 ≤ k ∧ k ≤ (l.length : Int) - 4
  · rw [if_pos h]
    obtain ⟨j, rfl⟩ := Int.eq_ofNat_of_zero_le h.1
    refine (implGet4_yes A n c l w B j hs hnc hn (by omega)).mono fun e w' ⟨he, hw⟩ => ⟨?_, hw⟩
    rw [he, Int.toNat_natCast]
    unfold four
    by_cases hv : 2147483647 < be ((l.drop j).take 4)
    · rw [if_pos hv, if_pos hv]
    · rw [if_neg hv, if_neg hv]
  · rw [if_neg h]
    exact implGet4_no A n c w k hn (by omega)

/-- recordOf makes the record r of the value v. -/
def RecOf (v : Value) (r : Rec) : Prop := ∀ W, Calls Tryz.prog 49 #[v] W fun e w' => e = .returned (.agg #[.string r.name, .int .i64 r.ty, .int .i64 r.ttl, .int .i64 r.n, .string r.host, .string r.text]) ∧ Below W.heap.size W w'

theorem as_addr_addr (v : Value) (w : World) : (Instr.typeAssert (.iface 92 v) 59 92 true).run Tryz.prog w = .ok (.tuple #[v, .bool true]) w := by kernel_rfl
theorem as_server_addr (v : Value) (w : World) : (Instr.typeAssert (.iface 93 v) 59 92 true).run Tryz.prog w = .ok (.tuple #[.int .i64 0, .bool false]) w := by kernel_rfl
theorem as_server_server (v : Value) (w : World) : (Instr.typeAssert (.iface 93 v) 59 93 true).run Tryz.prog w = .ok (.tuple #[v, .bool true]) w := by kernel_rfl
theorem as_alias_addr (v : Value) (w : World) : (Instr.typeAssert (.iface 94 v) 59 92 true).run Tryz.prog w = .ok (.tuple #[.int .i64 0, .bool false]) w := by kernel_rfl
theorem as_alias_server (v : Value) (w : World) : (Instr.typeAssert (.iface 94 v) 59 93 true).run Tryz.prog w = .ok (.tuple #[.string ⟨#[]⟩, .bool false]) w := by kernel_rfl
theorem as_alias_alias (v : Value) (w : World) : (Instr.typeAssert (.iface 94 v) 59 94 true).run Tryz.prog w = .ok (.tuple #[v, .bool true]) w := by kernel_rfl
theorem as_start_addr (v : Value) (w : World) : (Instr.typeAssert (.iface 96 v) 59 92 true).run Tryz.prog w = .ok (.tuple #[.int .i64 0, .bool false]) w := by kernel_rfl
theorem as_start_server (v : Value) (w : World) : (Instr.typeAssert (.iface 96 v) 59 93 true).run Tryz.prog w = .ok (.tuple #[.string ⟨#[]⟩, .bool false]) w := by kernel_rfl
theorem as_start_alias (v : Value) (w : World) : (Instr.typeAssert (.iface 96 v) 59 94 true).run Tryz.prog w = .ok (.tuple #[.string ⟨#[]⟩, .bool false]) w := by kernel_rfl
theorem as_start_start (v : Value) (w : World) : (Instr.typeAssert (.iface 96 v) 59 96 true).run Tryz.prog w = .ok (.tuple #[v, .bool true]) w := by kernel_rfl
theorem as_text_addr (v : Value) (w : World) : (Instr.typeAssert (.iface 97 v) 59 92 true).run Tryz.prog w = .ok (.tuple #[.int .i64 0, .bool false]) w := by kernel_rfl
theorem as_text_server (v : Value) (w : World) : (Instr.typeAssert (.iface 97 v) 59 93 true).run Tryz.prog w = .ok (.tuple #[.string ⟨#[]⟩, .bool false]) w := by kernel_rfl
theorem as_text_alias (v : Value) (w : World) : (Instr.typeAssert (.iface 97 v) 59 94 true).run Tryz.prog w = .ok (.tuple #[.string ⟨#[]⟩, .bool false]) w := by kernel_rfl
theorem as_text_start (v : Value) (w : World) : (Instr.typeAssert (.iface 97 v) 59 96 true).run Tryz.prog w = .ok (.tuple #[.agg #[.string ⟨#[]⟩, .int .i64 0], .bool false]) w := by kernel_rfl
theorem as_text_text (v : Value) (w : World) : (Instr.typeAssert (.iface 97 v) 59 97 true).run Tryz.prog w = .ok (.tuple #[v, .bool true]) w := by kernel_rfl

set_option maxHeartbeats 1000000 in
theorem of_addr (x : Int) : RecOf (.iface 92 (.int .i64 x)) (rA x) := by
  intro w
  have h_addr := as_addr_addr
  go_enter Tryz.func49, Tryz.ntmps49
  go_wp2
  exact bodyPost_ret (v := .agg #[.string ((rA x)).name, .int .i64 ((rA x)).ty, .int .i64 ((rA x)).ttl, .int .i64 ((rA x)).n, .string ((rA x)).host, .string ((rA x)).text]) (res1 rfl (show Bk _ w.heap.size 25 (rc (rA x)) from heap_alloc_new w _) rfl) rfl ⟨rfl, (Below.refl _ _).alloc (Nat.le_refl _) _⟩

set_option maxHeartbeats 1000000 in
theorem of_server (s : ByteArray) : RecOf (.iface 93 (.string s)) (rH 2 s) := by
  intro w
  have h_addr := as_server_addr
  have h_server := as_server_server
  go_enter Tryz.func49, Tryz.ntmps49
  go_wp2
  exact bodyPost_ret (v := .agg #[.string ((rH 2 s)).name, .int .i64 ((rH 2 s)).ty, .int .i64 ((rH 2 s)).ttl, .int .i64 ((rH 2 s)).n, .string ((rH 2 s)).host, .string ((rH 2 s)).text]) (res1 rfl (show Bk _ w.heap.size 25 (rc (rH 2 s)) from heap_alloc_new w _) rfl) rfl ⟨rfl, (Below.refl _ _).alloc (Nat.le_refl _) _⟩

set_option maxHeartbeats 1000000 in
theorem of_alias (s : ByteArray) : RecOf (.iface 94 (.string s)) (rH 5 s) := by
  intro w
  have h_addr := as_alias_addr
  have h_server := as_alias_server
  have h_alias := as_alias_alias
  go_enter Tryz.func49, Tryz.ntmps49
  go_wp2
  exact bodyPost_ret (v := .agg #[.string ((rH 5 s)).name, .int .i64 ((rH 5 s)).ty, .int .i64 ((rH 5 s)).ttl, .int .i64 ((rH 5 s)).n, .string ((rH 5 s)).host, .string ((rH 5 s)).text]) (res1 rfl (show Bk _ w.heap.size 25 (rc (rH 5 s)) from heap_alloc_new w _) rfl) rfl ⟨rfl, (Below.refl _ _).alloc (Nat.le_refl _) _⟩

set_option maxHeartbeats 1000000 in
theorem of_start (s : ByteArray) (x : Int) : RecOf (.iface 96 (.agg #[.string s, .int .i64 x])) (rS s x) := by
  intro w
  have h_addr := as_start_addr
  have h_server := as_start_server
  have h_alias := as_start_alias
  have h_start := as_start_start
  go_enter Tryz.func49, Tryz.ntmps49
  go_wp2
  exact bodyPost_ret (v := .agg #[.string ((rS s x)).name, .int .i64 ((rS s x)).ty, .int .i64 ((rS s x)).ttl, .int .i64 ((rS s x)).n, .string ((rS s x)).host, .string ((rS s x)).text]) (res1 rfl ((show Bk _ w.heap.size 25 (rc (rS s x)) from heap_alloc_new w _).alloc _) rfl) rfl ⟨rfl, ((Below.refl _ _).alloc (Nat.le_refl _) _).alloc (by simp) _⟩

set_option maxHeartbeats 1000000 in
theorem of_text (s : ByteArray) : RecOf (.iface 97 (.string s)) (rT s) := by
  intro w
  have h_addr := as_text_addr
  have h_server := as_text_server
  have h_alias := as_text_alias
  have h_start := as_text_start
  have h_text := as_text_text
  go_enter Tryz.func49, Tryz.ntmps49
  go_wp2
  exact bodyPost_ret (v := .agg #[.string ((rT s)).name, .int .i64 ((rT s)).ty, .int .i64 ((rT s)).ttl, .int .i64 ((rT s)).n, .string ((rT s)).host, .string ((rT s)).text]) (res1 rfl (show Bk _ w.heap.size 25 (rc (rT s)) from heap_alloc_new w _) rfl) rfl ⟨rfl, (Below.refl _ _).alloc (Nat.le_refl _) _⟩

/-- What a reader hands on. -/
def Rd (w : World) (X : Nat × Int × Rec) (e : Ending) (w' : World) : Prop :=
  ∃ v, e = .returned (.tuple #[v, .int .i64 X.2.1, .int .i64 (X.1 : Int)]) ∧ (X.1 = 0 → RecOf v X.2.2) ∧ Below w.heap.size w w'

set_option maxHeartbeats 1000000 in
theorem readAddr (A : Option Addr) (n c : Nat) (l : List UInt8) (k : Int) (w : World) (hs : Sl w w.heap.size A n l) (hnc : n ≤ c) (hn : n ≤ 400000000) (hk : 0 ≤ k ∧ k ≤ (n : Int)) :
    Calls Tryz.prog 82 #[.slice A n c, .int .i64 k] w (Rd w (rdA l k)) := by
  have G := Lib.hid (get4 A n c l k w _ hs hnc hn)
  have HX : Hid (rdA l k = if (n4 l k).2 = true then (0, k + 4, rA (n4 l k).1) else (2, 0, zr)) := rfl
  clear hs
  generalize rdA l k = X at *
  generalize n4 l k = y at *
  obtain ⟨x, b⟩ := y
  go_enter Tryz.func82, Tryz.ntmps82
  go_wp2_with fail
  refine G.out.mono ?_
  rintro e w1 ⟨rfl, rfl⟩
  cases b
  · have HX2 : Hid (X = (2, 0, zr)) := HX.out
    clear HX
    go_wp2
    go_ret3
    rw [HX2.out]
    exact ⟨_, rfl, fun h => absurd h (by decide), Below.refl _ _⟩
  · have HX2 : Hid (X = (0, k + 4, rA x)) := HX.out
    clear HX
    go_wp2
    go_ret3
    rw [HX2.out]
    exact ⟨_, rfl, fun _ => of_addr x, Below.refl _ _⟩

set_option maxHeartbeats 1000000 in
theorem readServer (A : Option Addr) (n c : Nat) (l : List UInt8) (k : Int) (w : World) (he : Env w) (hs : Sl w w.heap.size A n l) (hnc : n ≤ c) (hn : n ≤ 400000000) :
    Calls Tryz.prog 83 #[.slice A n c, .int .i64 k] w (Rd w (rdH l k 2)) := by
  have G := Lib.hid (NameGet.getName A n c l k w _ rfl he hs hn hnc)
  clear hs he
  unfold rdH
  generalize rn l [] k k 0 (-1) = R at *
  obtain ⟨c0, L0, x0, j0⟩ := R
  unfold val3 at G
  dsimp only at G ⊢
  generalize Jo L0 = s at *
  go_enter Tryz.func83, Tryz.ntmps83
  go_wp2_with fail
  refine G.out.mono ?_
  rintro e w1 ⟨rfl, hl⟩
  have L1 := Lib.hid hl
  clear hl
  go_wp2
  go_ret3
  exact ⟨_, rfl, fun _ => of_server s, L1.out⟩

set_option maxHeartbeats 1000000 in
theorem readAlias (A : Option Addr) (n c : Nat) (l : List UInt8) (k : Int) (w : World) (he : Env w) (hs : Sl w w.heap.size A n l) (hnc : n ≤ c) (hn : n ≤ 400000000) :
    Calls Tryz.prog 84 #[.slice A n c, .int .i64 k] w (Rd w (rdH l k 5)) := by
  have G := Lib.hid (NameGet.getName A n c l k w _ rfl he hs hn hnc)
  clear hs he
  unfold rdH
  generalize rn l [] k k 0 (-1) = R at *
  obtain ⟨c0, L0, x0, j0⟩ := R
  unfold val3 at G
  dsimp only at G ⊢
  generalize Jo L0 = s at *
  go_enter Tryz.func84, Tryz.ntmps84
  go_wp2_with fail
  refine G.out.mono ?_
  rintro e w1 ⟨rfl, hl⟩
  have L1 := Lib.hid hl
  clear hl
  go_wp2
  go_ret3
  exact ⟨_, rfl, fun _ => of_alias s, L1.out⟩

set_option maxHeartbeats 1000000 in
theorem readStart (A : Option Addr) (n c : Nat) (l : List UInt8) (k : Int) (w : World) (he : Env w) (hs : Sl w w.heap.size A n l) (hnc : n ≤ c) (hn : n ≤ 400000000) :
    Calls Tryz.prog 85 #[.slice A n c, .int .i64 k] w (Rd w (rdS l k)) := by
  have G := Lib.hid (NameGet.getName A n c l k w _ rfl he hs hn hnc)
  have G4 := Lib.hid (fun (q : Int) (W : World) (hW : Below w.heap.size w W) => get4 A n c l q W _ ((hs.below hW).wider hW.size) hnc hn)
  have HI := Lib.hid (fun q => n4_in (l := l) (k := q))
  have HL := Lib.hid hs.1
  have HX : Hid (rdS l k = if (rn l [] k k 0 (-1)).1 ≠ 0 then ((rn l [] k k 0 (-1)).1, 0, zr) else if (n4 l (rn l [] k k 0 (-1)).2.2.1).2 = true then (0, (rn l [] k k 0 (-1)).2.2.1 + 4, rS (Jo (rn l [] k k 0 (-1)).2.1) (n4 l (rn l [] k k 0 (-1)).2.2.1).1) else (2, 0, zr)) := rfl
  clear hs he
  generalize rdS l k = X at *
  generalize rn l [] k k 0 (-1) = R at *
  obtain ⟨c0, L0, x0, j0⟩ := R
  unfold val3 at G
  dsimp only at G HX ⊢
  generalize Jo L0 = s at *
  go_enter Tryz.func85, Tryz.ntmps85
  go_wp2_with fail
  refine G.out.mono ?_
  rintro e w1 ⟨rfl, hl⟩
  have L1 := Lib.hid hl
  clear hl G
  by_cases hc : c0 = 0
  · subst hc
    have HX2 := Lib.hid (HX.out.trans (if_neg (fun e => e rfl)))
    clear HX
    have G5 := Lib.hid (G4.out x0 w1 L1.out)
    have HI5 := Lib.hid (HI.out x0)
    clear G4 HI
    generalize n4 l x0 = y at *
    obtain ⟨x, b⟩ := y
    go_wp2_with fail
    refine G5.out.mono ?_
    rintro e w2 ⟨rfl, rfl⟩
    cases b
    · have HX3 : Hid (X = (2, 0, zr)) := HX2.out
      clear HX2
      go_wp2
      go_ret3
      rw [HX3.out]
      exact ⟨_, rfl, fun h => absurd h (by decide), L1.out⟩
    · have HX3 : Hid (X = (0, x0 + 4, rS s x)) := HX2.out
      obtain ⟨q0, q1⟩ := HI5.out rfl
      rw [HL.out] at q1
      clear HX2 HI5
      go_wp2
      go_ret3
      rw [HX3.out]
      exact ⟨_, rfl, fun _ => of_start s x, L1.out⟩
  · have HX2 := Lib.hid (HX.out.trans (if_pos hc))
    have hc2 : ((c0 : Int) != 0) = true := by simp; omega
    clear HX
    go_wp2
    go_ret3
    rw [HX2.out]
    exact ⟨_, rfl, fun h => absurd h hc, L1.out⟩

theorem conv_text {w : World} {B b off n : Nat} {l : List UInt8} (hs : Sl w B (some ⟨b, off, none⟩) n l) (k m cap : Nat) (h : k + 1 + m ≤ n) :
    (convert 22 97 (.slice (some ⟨b, off + (k + 1), none⟩) m cap)).run Tryz.prog w = .ok (.string (piece l k m)) w := by
  have hl := hs.1
  obtain ⟨b', off', hA, _, hc⟩ := hs.2 (by omega)
  obtain ⟨rfl, rfl⟩ : b = b' ∧ off = off' := by simpa using hA
  have hlen : ((l.drop (k + 1)).take m).length = m := by simp; omega
  have := run_convert_bytes_back (P := Tryz.prog) w 22 97 5 ⟨b, off + (k + 1), none⟩ cap ((l.drop (k + 1)).take m) Tryz.underlying22 Tryz.underlying5 Tryz.underlying97 (fun j hj => by
    rw [Addr.add_lit]
    have hj2 : j < m := by rw [hlen] at hj; exact hj
    have := hc (k + 1 + j) (by omega)
    rw [Nat.add_assoc, this]
    simp)
  rw [hlen] at this
  exact this
theorem conv_empty {w : World} (A : Addr) (cap : Nat) (l : List UInt8) (k : Nat) :
    (convert 22 97 (.slice (some A) 0 cap)).run Tryz.prog w = .ok (.string (piece l k 0)) w := by
  have := run_convert_bytes_back (P := Tryz.prog) w 22 97 5 A cap [] Tryz.underlying22 Tryz.underlying5 Tryz.underlying97 (fun j hj => by simp at hj)
  simpa [piece] using this
theorem bt_at (l : List UInt8) (k : Nat) (h : k < l.length) : bt l (k : Int) = (l[k].toNat : Int) := by
  unfold bt
  rw [Int.toNat_natCast, List.getD_eq_getElem?_getD, List.getElem?_eq_getElem h]
  rfl

set_option maxHeartbeats 1000000 in
theorem readText (A : Option Addr) (n c : Nat) (l : List UInt8) (k : Int) (w : World) (hs : Sl w w.heap.size A n l) (hnc : n ≤ c) (hn : n ≤ 400000000) (hk : 0 ≤ k ∧ k ≤ (n : Int)) :
    Calls Tryz.prog 86 #[.slice A n c, .int .i64 k] w (Rd w (rdT l k)) := by
  have hl := hs.1
  obtain ⟨k', rfl⟩ := Int.eq_ofNat_of_zero_le hk.1
  have hk2 := hk.2
  clear hk
  have HX : Hid (rdT l (k' : Int) = if (l.length : Int) ≤ (k' : Int) then (2, 0, zr) else if (l.length : Int) < (k' : Int) + 1 + bt l (k' : Int) then (2, 0, zr) else (0, (k' : Int) + 1 + bt l (k' : Int), rT (piece l (k' : Int).toNat (bt l (k' : Int)).toNat))) := rfl
  generalize rdT l (k' : Int) = X at *
  rw [hl] at HX
  by_cases h1 : (n : Int) ≤ (k' : Int)
  · have HX2 := Lib.hid (HX.out.trans (if_pos h1))
    clear HX hs hl
    go_enter Tryz.func86, Tryz.ntmps86
    go_wp2
    go_ret3
    rw [HX2.out]
    exact ⟨_, rfl, fun h => absurd h (by decide), Below.refl _ _⟩
  · have hkl : k' < l.length := by omega
    have hkn : k' < n := by omega
    have HX2 := Lib.hid (HX.out.trans (if_neg h1))
    clear HX
    rw [bt_at l k' hkl, Int.toNat_natCast, Int.toNat_natCast] at HX2
    obtain ⟨b, off, rfl, hbB, hcs⟩ := hs.2 (by omega)
    have hx : w.cell? ⟨b, off + k', none⟩ = some (.int .u8 (l[k'].toNat : Int)) := hcs k' hkl
    have hb1 : l[k'].toNat < 256 := l[k'].toNat_lt
    have HS := Lib.hid hs
    clear hs hcs hl h1 hk2
    generalize l[k'].toNat = m at *
    by_cases hin : k' + 1 + m ≤ n
    · have HX3 := Lib.hid (HX2.out.trans (if_neg (by omega)))
      clear HX2
      by_cases hck : c = k' + 1
      · obtain rfl : m = 0 := by omega
        have hcv := fun A cap => conv_empty (w := w) A cap l k'
        generalize piece l k' 0 = T at *
        go_enter Tryz.func86, Tryz.ntmps86
        go_wp2
        go_ret3
        rw [HX3.out]
        exact ⟨_, rfl, fun _ => of_text T, Below.refl _ _⟩
      · have hcv := fun cap => conv_text HS.out k' m cap hin
        generalize piece l k' m = T at *
        go_enter Tryz.func86, Tryz.ntmps86
        go_wp2
        go_ret3
        rw [HX3.out]
        exact ⟨_, rfl, fun _ => of_text T, Below.refl _ _⟩
    · have HX3 := Lib.hid (HX2.out.trans (if_pos (by omega)))
      clear HX2
      go_enter Tryz.func86, Tryz.ntmps86
      go_wp2
      go_ret3
      rw [HX3.out]
      exact ⟨_, rfl, fun h => absurd h (by decide), Below.refl _ _⟩

set_option maxHeartbeats 1000000 in
theorem readData (A : Option Addr) (n c : Nat) (l : List UInt8) (k ty : Int) (w : World) (he : Env w) (hs : Sl w w.heap.size A n l) (hnc : n ≤ c) (hn : n ≤ 400000000) (hk : 0 ≤ k ∧ k ≤ (n : Int)) :
    Calls Tryz.prog 48 #[.slice A n c, .int .i64 k, .int .i64 ty] w (Rd w (rdd l k ty)) := by
  have P1 := Lib.hid (readAddr A n c l k w hs hnc hn hk)
  have P2 := Lib.hid (readServer A n c l k w he hs hnc hn)
  have P5 := Lib.hid (readAlias A n c l k w he hs hnc hn)
  have P6 := Lib.hid (readStart A n c l k w he hs hnc hn)
  have P16 := Lib.hid (readText A n c l k w hs hnc hn hk)
  clear hs he hk
  by_cases t1 : ty = 1
  · subst t1
    have HX : Hid (rdd l k 1 = rdA l k) := rfl
    generalize rdd l k 1 = X at *
    generalize rdA l k = Y at *
    obtain ⟨yc, yn, yr⟩ := Y
    go_enter Tryz.func48, Tryz.ntmps48
    go_wp2_with fail
    refine P1.out.mono ?_
    rintro e w1 ⟨v, rfl, hv, hl⟩
    have HV := Lib.hid hv
    have L1 := Lib.hid hl
    clear hv hl
    go_wp2
    go_ret3
    rw [HX.out]
    exact ⟨v, rfl, HV.out, L1.out⟩
  by_cases t2 : ty = 2
  · subst t2
    have HX : Hid (rdd l k 2 = rdH l k 2) := rfl
    generalize rdd l k 2 = X at *
    generalize rdH l k 2 = Y at *
    obtain ⟨yc, yn, yr⟩ := Y
    go_enter Tryz.func48, Tryz.ntmps48
    go_wp2_with fail
    refine P2.out.mono ?_
    rintro e w1 ⟨v, rfl, hv, hl⟩
    have HV := Lib.hid hv
    have L1 := Lib.hid hl
    clear hv hl
    go_wp2
    go_ret3
    rw [HX.out]
    exact ⟨v, rfl, HV.out, L1.out⟩
  by_cases t5 : ty = 5
  · subst t5
    have HX : Hid (rdd l k 5 = rdH l k 5) := rfl
    generalize rdd l k 5 = X at *
    generalize rdH l k 5 = Y at *
    obtain ⟨yc, yn, yr⟩ := Y
    go_enter Tryz.func48, Tryz.ntmps48
    go_wp2_with fail
    refine P5.out.mono ?_
    rintro e w1 ⟨v, rfl, hv, hl⟩
    have HV := Lib.hid hv
    have L1 := Lib.hid hl
    clear hv hl
    go_wp2
    go_ret3
    rw [HX.out]
    exact ⟨v, rfl, HV.out, L1.out⟩
  by_cases t6 : ty = 6
  · subst t6
    have HX : Hid (rdd l k 6 = rdS l k) := rfl
    generalize rdd l k 6 = X at *
    generalize rdS l k = Y at *
    obtain ⟨yc, yn, yr⟩ := Y
    go_enter Tryz.func48, Tryz.ntmps48
    go_wp2_with fail
    refine P6.out.mono ?_
    rintro e w1 ⟨v, rfl, hv, hl⟩
    have HV := Lib.hid hv
    have L1 := Lib.hid hl
    clear hv hl
    go_wp2
    go_ret3
    rw [HX.out]
    exact ⟨v, rfl, HV.out, L1.out⟩
  by_cases t16 : ty = 16
  · subst t16
    have HX : Hid (rdd l k 16 = rdT l k) := rfl
    generalize rdd l k 16 = X at *
    generalize rdT l k = Y at *
    obtain ⟨yc, yn, yr⟩ := Y
    go_enter Tryz.func48, Tryz.ntmps48
    go_wp2_with fail
    refine P16.out.mono ?_
    rintro e w1 ⟨v, rfl, hv, hl⟩
    have HV := Lib.hid hv
    have L1 := Lib.hid hl
    clear hv hl
    go_wp2
    go_ret3
    rw [HX.out]
    exact ⟨v, rfl, HV.out, L1.out⟩
  have HX : Hid (rdd l k ty = (2, 0, zr)) := by show _ = _; unfold rdd; rw [if_neg t1, if_neg (by omega), if_neg t6, if_neg t16]
  generalize rdd l k ty = X at *
  have e1 : (ty == 1) = false := beq_eq_false_iff_ne.2 t1
  have e2 : (ty == 2) = false := beq_eq_false_iff_ne.2 t2
  have e5 : (ty == 5) = false := beq_eq_false_iff_ne.2 t5
  have e6 : (ty == 6) = false := beq_eq_false_iff_ne.2 t6
  have e16 : (ty == 16) = false := beq_eq_false_iff_ne.2 t16
  clear P1 P2 P5 P6 P16
  go_enter Tryz.func48, Tryz.ntmps48
  go_wp2
  go_ret3
  rw [HX.out]
  exact ⟨_, rfl, fun h => absurd h (by decide), Below.refl _ _⟩

end Go.Proofs.YtcpadkehalgddaaGreatDoor.ReadI
