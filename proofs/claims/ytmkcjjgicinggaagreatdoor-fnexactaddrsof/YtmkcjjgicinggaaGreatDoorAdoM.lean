/- Plain mathematics of a name space: the records of a zone by its number, and the addresses that the zone of a host has for it. -/
import Derived.Test.YtmkcjjgicinggaaGreatDoorForMath
import Derived.Test.YtmkcjjgicinggaaGreatDoorSetMath
namespace Go.Proofs.YtmkcjjgicinggaaGreatDoor.AdoM
open Go.RowKit Go.Proofs.YtmkcjjgicinggaaGreatDoor.Mem Go.Proofs.YtmkcjjgicinggaaGreatDoor.MemR Go.Proofs.YtmkcjjgicinggaaGreatDoor.MemF Go.Proofs.YtmkcjjgicinggaaGreatDoor.SetMath Go.Proofs.YtmkcjjgicinggaaGreatDoor.ForMath

/-- The records of the zone with this number. -/
def zl (zs : List Zn) (k : Nat) : List Rec := match zs[k]? with | some z => z.l | none => []
theorem zl_at {zs : List Zn} {k : Nat} (h : k < zs.length) : zl zs k = zs[k].l := by unfold zl; rw [List.getElem?_eq_getElem h]
theorem zl_len (zs : List Zn) (k B : Nat) (h : ∀ z ∈ zs, z.l.length ≤ B) : (zl zs k).length ≤ B := by
  by_cases hk : k < zs.length
  · rw [zl_at hk]; exact h _ (List.getElem_mem hk)
  · unfold zl; rw [List.getElem?_eq_none (by omega)]; exact Nat.zero_le _

/-- The addresses of a host. -/
noncomputable def adl (zs : List Zn) (s : ByteArray) : List Int := @ite _ (zo s (fun _ => true) (aps zs) < 0) (Int.decLt _ _) [] (uq (al s (zl zs (zo s (fun _ => true) (aps zs)).toNat)))
theorem adl_no {zs : List Zn} {s : ByteArray} (h : zo s (fun _ => true) (aps zs) < 0) : adl zs s = [] := by unfold adl; rw [if_pos h]
theorem adl_yes {zs : List Zn} {s : ByteArray} (h : ¬ zo s (fun _ => true) (aps zs) < 0) : adl zs s = uq (al s (zl zs (zo s (fun _ => true) (aps zs)).toNat)) := by unfold adl; rw [if_neg h]
theorem adl_len (zs : List Zn) (s : ByteArray) (B : Nat) (h : ∀ z ∈ zs, z.l.length ≤ B) : (adl zs s).length ≤ B := by
  by_cases hv : zo s (fun _ => true) (aps zs) < 0
  · rw [adl_no hv]; exact Nat.zero_le _
  · rw [adl_yes hv]
    have h1 := len_uq (al s (zl zs (zo s (fun _ => true) (aps zs)).toNat))
    have h2 := al_len s (zl zs (zo s (fun _ => true) (aps zs)).toNat)
    have h3 := zl_len zs (zo s (fun _ => true) (aps zs)).toNat B h
    omega
end Go.Proofs.YtmkcjjgicinggaaGreatDoor.AdoM
