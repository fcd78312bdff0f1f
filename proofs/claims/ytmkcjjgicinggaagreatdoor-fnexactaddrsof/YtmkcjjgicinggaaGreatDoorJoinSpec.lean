/- What the model's JoinLabels does: it returns the texts with a dot between them. Condition: at most 4000000 texts and bytes together. -/
import Derived.Test.YtmkcjjgicinggaaGreatDoorMemS
import Derived.Lib.Join
namespace Go.Proofs.YtmkcjjgicinggaaGreatDoor.JoinSpec
open Go.RowKit Go.Proofs.YtmkcjjgicinggaaGreatDoor.Mem Go.Proofs.YtmkcjjgicinggaaGreatDoor.MemS

/-- The bytes of the joined text. -/
def jo (l : List ByteArray) : List UInt8 := Lib.join (l.map (·.data.toList)) [46]
/-- The joined text. A def, so that no step of a walk opens it. -/
def Jo (l : List ByteArray) : ByteArray := ⟨(jo l).toArray⟩
theorem Jo_list (l : List ByteArray) : (Jo l).data.toList = jo l := by simp [Jo]
theorem Jo_size (l : List ByteArray) : (Jo l).size = (jo l).length := by
  show (jo l).toArray.size = _
  simp
theorem jo_first (l : List ByteArray) (h : 0 < l.length) : jo (l.take 1) = l[0].data.toList := by
  rw [List.take_succ_eq_append_getElem h]
  simp [jo, Lib.join_one]
theorem jo_step (l : List ByteArray) (k : Nat) (h0 : 0 < k) (h : k < l.length) : jo (l.take (k + 1)) = jo (l.take k) ++ [46] ++ l[k].data.toList := by
  cases l with
  | nil => simp at h
  | cons x r =>
    obtain ⟨k, rfl⟩ : ∃ j, k = j + 1 := ⟨k - 1, by omega⟩
    have hk : k < r.length := by simpa using h
    have e := Lib.joinTail_take_succ [46] (r.map (·.data.toList)) k r[k].data.toList (by simp [hk])
    simp only [jo, List.take_succ_cons, List.map_cons, Lib.join_cons, List.map_take, List.getElem_cons_succ]
    rw [e]
    simp [List.append_assoc]
theorem jo_size_step (l : List ByteArray) (k : Nat) (h : k < l.length) : (jo (l.take (k + 1))).length ≤ (jo (l.take k)).length + 1 + l[k].size := by
  have hz : l[k].data.toList.length = l[k].size := by simp
  by_cases h0 : 0 < k
  · rw [jo_step l k h0 h, List.length_append, List.length_append, hz]; simp
  · obtain rfl : k = 0 := by omega
    rw [jo_first l h, hz]; omega
theorem jo_size (l : List ByteArray) : ∀ k, k ≤ l.length → (jo (l.take k)).length ≤ k + ((l.take k).map (·.size)).sum := by
  intro k
  induction k with
  | zero => intro _; simp [jo, Lib.join_nil]
  | succ k ih =>
    intro h
    have h1 := ih (by omega)
    have h2 := jo_size_step l k (by omega)
    rw [List.take_succ_eq_append_getElem (show k < l.length by omega), List.map_append, List.sum_append]
    rw [List.take_succ_eq_append_getElem (show k < l.length by omega)] at h2
    simp at h1 h2 ⊢
    omega
theorem sum_take (l : List ByteArray) (k : Nat) : ((l.take k).map (·.size)).sum ≤ (l.map (·.size)).sum := by
  conv => rhs; rw [← List.take_append_drop k l, List.map_append, List.sum_append]
  omega

set_option maxHeartbeats 1000000 in
theorem any (A : Option Addr) (n c : Nat) (l : List ByteArray) (w : World) (B : Nat) (hs : Ss w B A n l) (hn : l.length + (l.map (·.size)).sum ≤ 800000000) :
    Calls Tryz.prog 184 #[.slice A n c] w fun e w' => e = .returned (.string (Jo l)) ∧ w = w' := by
  have HL := Lib.hid hs.1
  have hn1 : n ≤ 800000000 := by have := hs.1; omega
  have HN := Lib.hid hn
  clear hn
  go_enter Tryz.func184, Tryz.ntmps184
  go_wp2
  go_loop [3, 4] (fun t i => ∃ (k : Nat), k ≤ n ∧ i = .int .i64 k ∧ t = .string (Jo (l.take k))) (fun _ i => n - (intOf i).toNat)
  case atStart => exact ⟨0, Nat.zero_le _, rfl, by simp [Jo, jo, Lib.join_nil]⟩
  case round =>
    obtain ⟨k, hk, rfl, rfl⟩ := hrel
    by_cases hlt : k < n
    · obtain ⟨b, off, rfl, hbB, hcs⟩ := hs.2 (by omega)
      have hkl : k < l.length := by rw [HL.out]; exact hlt
      have hx : w.cell? ⟨b, off + k, none⟩ = some (.string l[k]) := hcs k hkl
      have hz1 : (Jo (l.take k)).size ≤ 800000000 := by
        have h1 := jo_size l k (by omega)
        have h2 := sum_take l k
        have h3 := HN.out
        rw [Jo_size]
        omega
      have hz2 : l[k].size ≤ 800000000 := by
        have h3 := HN.out
        have : l[k].size ≤ (l.map (·.size)).sum := le_sum _ _ (List.mem_map.2 ⟨l[k], List.getElem_mem hkl, rfl⟩)
        omega
      clear hcs hs
      by_cases h0 : 0 < k
      · have HS : Hid (Jo (l.take k) ++ ⟨#[46]⟩ ++ l[k] = Jo (l.take (k + 1))) := by
          show _ = _
          apply text_ext
          rw [text_add, text_add, Jo_list, Jo_list, jo_step l k h0 hkl]
        generalize Jo (l.take k) = T at *
        generalize l[k] = U at *
        go_wp2
        go_round
        case rel => exact ⟨k + 1, by omega, by go_num, by rw [← HS.out]⟩
        case measure => simp [intOf]; omega
      · have HS : Hid (Jo (l.take k) ++ l[k] = Jo (l.take (k + 1))) := by
          show _ = _
          obtain rfl : k = 0 := by omega
          apply text_ext
          rw [text_add, Jo_list, Jo_list, jo_first l hkl]
          simp [jo, Lib.join_nil]
        generalize Jo (l.take k) = T at *
        generalize l[k] = U at *
        have h0' : ¬ (0 : Int) < (k : Int) := by omega
        go_wp2
        go_round
        case rel => exact ⟨k + 1, by omega, by go_num, by rw [← HS.out]⟩
        case measure => simp [intOf]; omega
    · go_wp2
      go_ret
      rw [List.take_of_length_le (by rw [HL.out]; omega)]
      exact ⟨rfl, rfl⟩
end Go.Proofs.YtmkcjjgicinggaaGreatDoor.JoinSpec
