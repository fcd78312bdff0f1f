/- What the program's Under does, by the library's proved contract of strings.HasSuffix: it tells whether the labels of its second text end those of its first. Condition: at most 400000000 bytes each. -/
import Derived.Test.YtmkcjjgicinggaaDoorLabSpec
import Derived.Test.YtmkcjjgicinggaaDoorNameMath
import Derived.Test.YtmkcjjgicinggaaDoorShelf
namespace Go.Proofs.YtmkcjjgicinggaaDoor.UnderImpl
open Go.RowKit Go.Proofs.YtmkcjjgicinggaaDoor.Mem Go.Proofs.YtmkcjjgicinggaaDoor.MemS Go.Proofs.YtmkcjjgicinggaaDoor.Split Go.Proofs.YtmkcjjgicinggaaDoor.NameMath

theorem hasSuffix (s p : ByteArray) (w : World) (hs : s.size ≤ 400000000) : Calls Tryd.prog 47 #[.string s, .string p] w fun e w' => e = .returned (.bool (Lib.hasSuffix s.data.toList p.data.toList)) ∧ w' = w :=
  Go.Proofs.Any.strings_HasSuffix Tryd.lays100 s p w (by omega)

set_option maxHeartbeats 1000000 in
theorem impl (a b : ByteArray) (w : World) (ha : a.size ≤ 400000000) (hb : b.size ≤ 400000000) : Calls Tryd.prog 34 #[.string a, .string b] w fun e w' => e = .returned (.bool (Un a b)) ∧ w = w' := by
  by_cases h0 : b.size = 0
  · have HU := Lib.hid (un_root (a := a) h0)
    obtain rfl : b = ⟨#[]⟩ := text_ext (List.eq_nil_of_length_eq_zero (by simpa using h0))
    clear h0 hb
    go_enter Tryd.func34, Tryd.ntmps34
    go_wp2
    go_ret
    rw [HU.out]
    exact ⟨rfl, rfl⟩
  · have hne : b.toList.isEmpty = false := Labels.not_empty b h0
    by_cases h : a = b
    · subst h
      have HU := Lib.hid (un_self a)
      clear h0
      go_enter Tryd.func34, Tryd.ntmps34
      go_wp2
      go_ret
      rw [HU.out]
      exact ⟨rfl, rfl⟩
    · have HU : Hid (Un a b = Lib.hasSuffix a.data.toList ((⟨#[46]⟩ : ByteArray) ++ b).data.toList) := by
        show _ = _
        rw [un_else h0 h, text_add]
        rfl
      have hq : (a.toList == b.toList) = false := by
        rw [beq_eq_false_iff_ne, ByteArray.toList_eq, ByteArray.toList_eq]
        exact fun e => h (text_ext e)
      have hq2 : (a.data.toList == b.data.toList) = false := by
        rw [beq_eq_false_iff_ne]
        exact fun e => h (text_ext e)
      clear h0 h
      have HS := Lib.hid (fun p w => hasSuffix a p w ha)
      go_enter Tryd.func34, Tryd.ntmps34
      go_wp2_with fail
      refine (HS.out _ w).mono ?_
      rintro e w1 ⟨rfl, rfl⟩
      go_wp2
      go_ret
      rw [HU.out]
      exact ⟨rfl, rfl⟩
end Go.Proofs.YtmkcjjgicinggaaDoor.UnderImpl
