/- Plain mathematics: the zone that the model draws is in order, has nothing twice, and is valid. -/
import Derived.Test.YtjgmocmaeadjdaaZoneL
import Derived.Test.YtjgmocmaeadjdaaUqzMath
namespace Go.Proofs.Ytjgmocmaeadjdaa.ZoneV
open Go.RowKit Go.Proofs.Ytjgmocmaeadjdaa.MemR Go.Proofs.Ytjgmocmaeadjdaa.SetMath Go.Proofs.Ytjgmocmaeadjdaa.NameMath Go.Proofs.Ytjgmocmaeadjdaa.NameOk Go.Proofs.Ytjgmocmaeadjdaa.ZoneMath Go.Proofs.Ytjgmocmaeadjdaa.RecOk Go.Proofs.Ytjgmocmaeadjdaa.LessR Go.Proofs.Ytjgmocmaeadjdaa.SrtMath Go.Proofs.Ytjgmocmaeadjdaa.ZokMath Go.Proofs.Ytjgmocmaeadjdaa.UqzMath Go.Proofs.Ytjgmocmaeadjdaa.ZoneL

def com : ByteArray := ⟨#[99, 111, 109]⟩

def ex : ByteArray := ⟨#[101, 120, 46, 99, 111, 109]⟩

def pick (t h : Int) : Nat → Rec
  | 0 => rS t h
  | 1 => rV t
  | 2 => rA t
  | 3 => rX t
  | 4 => rY t
  | 5 => rW
  | 6 => rT
  | _ => rB

def ib (a b c : Bool) : List Nat := [0, 1, 2] ++ (if a then [3, 4] else []) ++ (if b then [5] else []) ++ (if c then [6, 7] else [])

def is (a b c : Bool) : List Nat := [1, 0] ++ (if c then [7] else []) ++ (if a then [3, 4] else []) ++ [2] ++ (if c then [6] else []) ++ (if b then [5] else [])

theorem perm_i : ∀ a b c : Bool, (ib a b c).Perm (is a b c) := by decide

theorem perm (t h : Int) (a b c : Bool) : (zb t h a b c).Perm (zs t h a b c) := by
  have e1 : zb t h a b c = (ib a b c).map (pick t h) := by cases a <;> cases b <;> cases c <;> rfl
  have e2 : zs t h a b c = (is a b c).map (pick t h) := by cases a <;> cases b <;> cases c <;> rfl
  rw [e1, e2]
  exact (perm_i a b c).map _

theorem inc : ∀ p ∈ ts, ∀ a b c : Bool, (zs p.1 p.2 a b c).Pairwise (fun x y => lr y x = false) := by decide +kernel

theorem srt {t h : Int} (ht : (t, h) ∈ ts) (a b c : Bool) : Srt (zb t h a b c) (zs t h a b c) := ⟨(perm t h a b c).symm, inc (t, h) ht a b c⟩

theorem zs_len (t h : Int) (a b c : Bool) : (zs t h a b c).length ≤ 8 := by cases a <;> cases b <;> cases c <;> simp [zs]

theorem keys : ∀ p ∈ ts, ∀ a b c : Bool, ∀ i, i < 10 → i + 1 < (zs p.1 p.2 a b c).length → ¬ ((at0 (zs p.1 p.2 a b c) i).name = (at0 (zs p.1 p.2 a b c) (i + 1)).name ∧ (at0 (zs p.1 p.2 a b c) i).ty = (at0 (zs p.1 p.2 a b c) (i + 1)).ty) := by decide +kernel

theorem thin {t h : Int} (ht : (t, h) ∈ ts) (a b c : Bool) : uqz (zs t h a b c) = zs t h a b c :=
  uqz_all _ fun i hi => keys (t, h) ht a b c i (by have := zs_len t h a b c; omega) hi

theorem isc_eq (s : ByteArray) (r : Rec) : isc s r = (decide (r.ty = 2) && (!decide (r.name = s) && Un r.name s)) := by
  by_cases h : r.ty = 2 ∧ r.name ≠ s ∧ Un r.name s = true
  · rw [isc_true h]
    simp [h.1, h.2.1, h.2.2]
  · rw [isc_false h]
    by_cases h1 : r.ty = 2
    · by_cases h2 : r.name = s
      · simp [h2]
      · cases h3 : Un r.name s
        · simp
        · exact absurd ⟨h1, h2, h3⟩ h
    · simp [h1]

theorem cn_eq (s : ByteArray) (l : List Rec) : cn s l = (l.filter (fun r => decide (r.ty = 2) && (!decide (r.name = s) && Un r.name s))).map (·.name) := by
  unfold cn
  rw [show isc s = (fun r => decide (r.ty = 2) && (!decide (r.name = s) && Un r.name s)) from funext (isc_eq s)]

theorem cuts_i : ∀ p ∈ ts, ∀ a b c : Bool, ((zs p.1 p.2 a b c).filter (fun r => decide (r.ty = 2) && (!decide (r.name = com) && Un r.name com))).map (·.name) = if a then [ex] else [] := by decide +kernel

theorem uq_one (x : ByteArray) : uq [x] = [x] := by
  show add [] x = [x]
  rw [add_out (by simp)]
  rfl

theorem cuts {t h : Int} (ht : (t, h) ∈ ts) (a b c : Bool) : uq (cn com (zs t h a b c)) = if a then [ex] else [] := by
  rw [cn_eq, cuts_i (t, h) ht a b c]
  cases a
  · rfl
  · exact uq_one ex

theorem good : ∀ p ∈ ts, ∀ a b c : Bool, ∀ i, i < (zs p.1 p.2 a b c).length →
    (rok (at0 (zs p.1 p.2 a b c) i) = true ∧ Un (at0 (zs p.1 p.2 a b c) i).name com = true) ∧
    (i = 0 ∨ (lr (at0 (zs p.1 p.2 a b c) (i - 1)) (at0 (zs p.1 p.2 a b c) i) = true ∧ ¬ ((at0 (zs p.1 p.2 a b c) (i - 1)).name = (at0 (zs p.1 p.2 a b c) i).name ∧ (at0 (zs p.1 p.2 a b c) (i - 1)).ty = (at0 (zs p.1 p.2 a b c) i).ty ∧ (at0 (zs p.1 p.2 a b c) (i - 1)).ttl ≠ (at0 (zs p.1 p.2 a b c) i).ttl))) ∧
    (¬ ((at0 (zs p.1 p.2 a b c) i).ty = 6 ∧ (at0 (zs p.1 p.2 a b c) i).name ≠ com) ∧ ¬ ((at0 (zs p.1 p.2 a b c) i).ty = 5 ∧ (at0 (zs p.1 p.2 a b c) i).name = com)) ∧
    (∀ k, k < (zs p.1 p.2 a b c).length → ¬ ((at0 (zs p.1 p.2 a b c) i).ty = 5 ∧ k ≠ i ∧ (at0 (zs p.1 p.2 a b c) k).name = (at0 (zs p.1 p.2 a b c) i).name)) ∧
    (a = false ∨ Un (at0 (zs p.1 p.2 a b c) i).name ex = false ∨ (at0 (zs p.1 p.2 a b c) i).ty = 1 ∨ ((at0 (zs p.1 p.2 a b c) i).name = ex ∧ (at0 (zs p.1 p.2 a b c) i).ty = 2)) := by decide +kernel

theorem n6_i : ∀ p ∈ ts, ∀ a b c : Bool, n6 (zs p.1 p.2 a b c) = 1 := by decide +kernel

theorem name_ok : Nm com = true := by decide +kernel

theorem pc {t h : Int} (ht : (t, h) ∈ ts) (a b c : Bool) {i : Nat} (hi : i < (zs t h a b c).length) : Pc com (zs t h a b c) i := by
  intro x hx hty
  rw [cuts ht] at hx
  have hg := (good (t, h) ht a b c i hi).2.2.2.2
  cases a with
  | false => cases hx
  | true =>
    rcases hg with hg | hg | hg | hg
    · cases hg
    · simp [co, hg] at hx
    · exact absurd hg hty
    · have hu : Un (at0 (zs t h true b c) i).name ex = true := by rw [hg.1]; exact un_self _
      simp [co, hu] at hx
      rw [← hx]
      exact hg

theorem valid {t h : Int} (ht : (t, h) ∈ ts) (a b c : Bool) : Zok com (zs t h a b c) := by
  refine ⟨⟨name_ok, Nat.le_trans (zs_len t h a b c) (by decide)⟩, fun i hi => ?_, n6_i (t, h) ht a b c, ?_⟩
  · have hg := good (t, h) ht a b c i hi
    exact ⟨hg.1, hg.2.1, hg.2.2.1, hg.2.2.2.1, pc ht a b c hi⟩
  · have hm : rV t ∈ sf com 2 (zs t h a b c) := List.mem_filter.2 ⟨by simp [zs], isk_true ⟨rfl, rfl⟩⟩
    exact List.length_pos_of_mem hm

end Go.Proofs.Ytjgmocmaeadjdaa.ZoneV
