/- Plain mathematics: the sets of all keys together are the list; the least time to live is none greater than the first. -/
import Derived.Test.YtaahaepgabcebaaGrpM
namespace Go.Proofs.Ytaahaepgabcebaa.SumM
open Go.Proofs.Ytaahaepgabcebaa.MemR Go.Proofs.Ytaahaepgabcebaa.SetMath Go.Proofs.Ytaahaepgabcebaa.GrpM

/-- How many records the keys of U have together. -/
noncomputable def cov (U : List Key) (l : List Rec) : Nat := (U.map (fun q => (sq q l).length)).sum
theorem cov_take (U : List Key) (l : List Rec) (k : Nat) (h : k < U.length) : cov (U.take (k + 1)) l = cov (U.take k) l + (sq U[k] l).length := by
  rw [cov, List.take_succ_eq_append_getElem h, List.map_append, List.sum_append]
  simp [cov]
theorem sq_cons (q : Key) (r : Rec) (l : List Rec) : (sq q (r :: l)).length = (sq q l).length + (if isk q.name q.ty r = true then 1 else 0) := by
  rw [sq, sf, List.filter_cons]
  split
  · simp [sq, sf]
  · simp [sq, sf]
theorem isk_ky {q : Key} {r : Rec} : isk q.name q.ty r = true ↔ q = ky r := by
  rw [isk_iff]
  obtain ⟨a, b⟩ := q
  constructor
  · rintro ⟨h1, h2⟩; rw [ky, h1, h2]
  · intro h; rw [ky, Key.mk.injEq] at h; exact ⟨h.1.symm, h.2.symm⟩
theorem sum_out : ∀ (U : List Key) (r : Rec), ky r ∉ U → (U.map (fun q => if isk q.name q.ty r = true then 1 else 0)).sum = 0
  | [], _, _ => rfl
  | q :: U, r, h => by
    rw [List.map_cons, List.sum_cons, sum_out U r (fun hm => h (by simp [hm])), if_neg (fun e => h (by rw [isk_ky.1 e]; simp))]
theorem sum_in : ∀ (U : List Key) (r : Rec), U.Nodup → ky r ∈ U → (U.map (fun q => if isk q.name q.ty r = true then 1 else 0)).sum = 1
  | [], _, _, h => by cases h
  | q :: U, r, hn, h => by
    obtain ⟨h1, h2⟩ := List.nodup_cons.1 hn
    rw [List.map_cons, List.sum_cons]
    by_cases e : q = ky r
    · rw [if_pos (isk_ky.2 e), sum_out U r (fun hm => h1 (e ▸ hm))]
    · rw [if_neg (fun hi => e (isk_ky.1 hi)), sum_in U r h2 ((List.mem_cons.1 h).elim (fun hx => absurd hx.symm e) id)]
theorem sum_add : ∀ (U : List Key) (f g : Key → Nat), (U.map (fun q => f q + g q)).sum = (U.map f).sum + (U.map g).sum
  | [], _, _ => rfl
  | q :: U, f, g => by
    rw [List.map_cons, List.sum_cons, List.map_cons, List.sum_cons, List.map_cons, List.sum_cons, sum_add U f g]; omega
theorem cov_all (U : List Key) (hn : U.Nodup) : ∀ (l : List Rec), (∀ r ∈ l, ky r ∈ U) → cov U l = l.length
  | [], _ => by
    have : ∀ V : List Key, (V.map (fun q => (sq q []).length)).sum = 0 := fun V => by
      induction V with
      | nil => rfl
      | cons q V ih => rw [List.map_cons, List.sum_cons, ih]; rfl
    exact this U
  | r :: l, h => by
    have e : cov U (r :: l) = (U.map (fun q => (sq q l).length + (if isk q.name q.ty r = true then 1 else 0))).sum := by
      rw [cov]; congr 1; exact List.map_congr_left (fun q _ => sq_cons q r l)
    rw [e, sum_add, sum_in U r hn (h r (by simp)), List.length_cons]
    have := cov_all U hn l (fun x hx => h x (by simp [hx]))
    rw [cov] at this
    omega
theorem cov_uq (l : List Rec) : cov (uq (kl l)) l = l.length := cov_all _ (nodup_uq _) l (fun r hr => mem_uq.2 (List.mem_map.2 ⟨r, hr, rfl⟩))
theorem sq_some {q : Key} {l : List Rec} (h : q ∈ uq (kl l)) : 0 < (sq q l).length := by
  obtain ⟨r, hr, rfl⟩ := List.mem_map.1 (mem_uq.1 h)
  exact List.length_pos_of_mem (List.mem_filter.2 ⟨hr, isk_iff.2 ⟨rfl, rfl⟩⟩)
theorem mn_le : ∀ (l : List Rec) (m : Int), l.foldl (fun m x => if x.ttl < m then x.ttl else m) m ≤ m
  | [], m => Int.le_refl m
  | r :: l, m => by
    rw [List.foldl_cons]
    refine Int.le_trans (mn_le l _) ?_
    split <;> omega
theorem mn_first_le (l : List Rec) (h : 0 < l.length) : ¬ l[0].ttl < mn l := by
  cases l with
  | nil => simp at h
  | cons r l => exact Int.not_lt.2 (mn_le l r.ttl)
theorem mn_wr (t : Int) (l : List Rec) (h : 0 < l.length) : mn (l.map (wr t)) = t := by
  cases l with
  | nil => simp at h
  | cons r l =>
    rw [List.map_cons, mn]
    show (l.map (wr t)).foldl _ t = t
    clear h
    induction l with
    | nil => rfl
    | cons x l ih =>
      rw [List.map_cons, List.foldl_cons, show (wr t x).ttl = t from rfl, if_neg (Int.lt_irrefl _)]
      exact ih
theorem cov_step {U : List Key} {l : List Rec} {k : Nat} {q : Key} (h : k < U.length) (hq : U[k] = q) : cov (U.take (k + 1)) l = cov (U.take k) l + (sq q l).length := by rw [cov_take U l k h, hq]
theorem cov_le (U : List Key) (l : List Rec) (k : Nat) : cov (U.take k) l ≤ cov U l := by
  have h := congrArg (fun V : List Key => cov V l) (List.take_append_drop k U)
  simp only [cov, List.map_append, List.sum_append] at h
  rw [cov, cov]
  omega
theorem cov_zero (U : List Key) (l : List Rec) : cov (U.take 0) l = 0 := rfl
end Go.Proofs.Ytaahaepgabcebaa.SumM
