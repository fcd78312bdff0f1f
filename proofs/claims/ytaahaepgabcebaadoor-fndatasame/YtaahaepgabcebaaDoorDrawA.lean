/- What the model's draws of any record, and of lists of records, do: records whose texts have at most 60 bytes; nothing that was there is turned but the cursor. -/
import Derived.Test.YtaahaepgabcebaaDoorDrawR
import Derived.Test.YtaahaepgabcebaaDoorOwnR
namespace Go.Proofs.YtaahaepgabcebaaDoor.DrawA
open Go.RowKit Go.Proofs.YtaahaepgabcebaaDoor.Mem Go.Proofs.YtaahaepgabcebaaDoor.MemS Go.Proofs.YtaahaepgabcebaaDoor.MemR Go.Proofs.YtaahaepgabcebaaDoor.BoxR Go.Proofs.YtaahaepgabcebaaDoor.Draw Go.Proofs.YtaahaepgabcebaaDoor.DrawS Go.Proofs.YtaahaepgabcebaaDoor.DrawL Go.Proofs.YtaahaepgabcebaaDoor.DrawN Go.Proofs.YtaahaepgabcebaaDoor.AppR Go.Proofs.YtaahaepgabcebaaDoor.ResR Go.Proofs.YtaahaepgabcebaaDoor.DrawR Go.Proofs.YtaahaepgabcebaaDoor.OwnR

def anyTypes : List Int := [0, 3, 15, 1, 2, 6]
def anyTtls : List Int := [-1, 100000, 100001]
def anyNums : List Int := [-1, 2147483647, 2147483648, 100001, 0]
def anyTexts : List ByteArray := [⟨#[32]⟩, ⟨#[127]⟩, ⟨#[116, 104, 105, 114, 116, 101, 101, 110, 98, 121, 116, 101, 115]⟩, ⟨#[120]⟩]
theorem anyTexts_short : ∀ x ∈ anyTexts, Short x := all_short _ (by decide)

/-- A new row of records with short texts; the cursor moved, nothing else turned. -/
def Lst (w : World) (g most : Nat) (e : Ending) (w' : World) : Prop :=
  ∃ (gl cap : Nat) (L : List Rec), e = .returned (.slice (some ⟨gl, 0, none⟩) L.length cap) ∧ w'.ownsRow w.heap.size 49 6 (.slice (some ⟨gl, 0, none⟩) L.length cap) L.length (fl L) ∧ L.length ≤ most ∧ (∀ r ∈ L, Sml r) ∧ Cur w' g ∧ w.grownBy w' (some g)
theorem own_far {w w' : World} {base g gl n cap : Nat} {L : List Rec} (h : w.ownsRow base 49 6 (.slice (some ⟨gl, 0, none⟩) n cap) n (fl L)) (hg : w.grownBy w' (some g)) (hb : g < base) : w'.ownsRow base 49 6 (.slice (some ⟨gl, 0, none⟩) n cap) n (fl L) :=
  h.kept hg (Or.inr (fun e => by have h1 := (h.lt gl rfl).1; have h2 := Option.some.inj e; simp at h2; omega))
theorem cur_far {w w' : World} {base g gl n cap : Nat} {L : List Rec} (h : Cur w g) (ho : w.ownsRow base 49 6 (.slice (some ⟨gl, 0, none⟩) n cap) n (fl L)) (hg : w.grownBy w' (some gl)) (hb : g < base) : Cur w' g :=
  h.grown hg (fun k hk => by have h1 := (ho.lt gl rfl).1; cases hk; omega)
theorem grown_far {w v v' : World} {g gl : Nat} (h : w.grownBy v (some g)) (hg : v.grownBy v' (some gl)) (hl : w.heap.size ≤ gl) : w.grownBy v' (some g) :=
  ⟨hg.os.trans h.os, hg.tape.trans h.tape, hg.output.trans h.output, Nat.le_trans h.size hg.size, fun k hk hne => (hg.block k (Nat.lt_of_lt_of_le hk h.size) (fun e => by have := Option.some.inj e; omega)).trans (h.block k hk hne)⟩

set_option maxHeartbeats 4000000 in
set_option maxRecDepth 100000 in
theorem l5List_any (g most : Nat) (w : World) (hc : Cur w g) (hm : most ≤ 100) : Calls Tryd.prog 24 #[.pointer (some ⟨g, 0, none⟩), .int .i64 (most : Int)] w (Lst w g most) := by
  have HC := Lib.hid hc
  have GL := Lib.hid hc.lt
  clear hc
  go_enter Tryd.func24, Tryd.ntmps24
  go_wp2_with fail
  refine (l1Below_any g ((most : Int) + 1) _ (HC.out.alloc _) (by omega) (by omega)).mono ?_
  rintro e w1 ⟨q, rfl, hq0, hq1, hc1, hg1⟩
  obtain ⟨q0, rfl⟩ := Int.eq_ofNat_of_zero_le hq0
  have O1 := Lib.hid (own_far (L := []) (AppR.owns_new w) hg1 GL.out)
  have C1 := Lib.hid hc1
  have G1 := Lib.hid (grown_trans (World.grownBy_alloc w (.cells #[] 49) (some g)) hg1)
  clear hc1 hg1 HC
  go_wp2
  go_loopw [5, 6] (fun v i wr => ∃ (gl m cap q : Nat) (L : List Rec), m + q ≤ most ∧ i = .int .i64 (q : Int) ∧ v = .slice (some ⟨gl, 0, none⟩) m cap ∧ Hid (wr.ownsRow w.heap.size 49 6 (.slice (some ⟨gl, 0, none⟩) m cap) m (fl L)) ∧ Hid (∀ r ∈ L, Sml r) ∧ Hid (Cur wr g) ∧ Hid (w.grownBy wr (some g))) (fun _ i _ => (intOf i).toNat)
  case atStart => exact ⟨w.heap.size, 0, 0, q0, [], by omega, rfl, rfl, O1.out, (fun r hr => by cases hr), C1.out, G1.out⟩
  case round =>
    clear O1 C1 G1
    obtain ⟨gl, m, cap, q, L, hmq, rfl, rfl, HO, HS, HC, HG⟩ := hrel
    by_cases hq : 0 < q
    · obtain ⟨p, rfl⟩ : ∃ p, q = p + 1 := ⟨q - 1, by omega⟩
      have hp0 : (0 : Int) < ((p + 1 : Nat) : Int) := by omega
      go_wp2_with fail
      refine (l5Draw_any g wr HC.out).mono ?_
      rintro e w2 ⟨r, rfl, hr, hc2, hg2⟩
      have HR := Lib.hid hr
      have O3 := Lib.hid ((own_far HO.out hg2 GL.out).alloc (.cells #[.string r.name, .int .i64 r.ty, .int .i64 r.ttl, .int .i64 r.n, .string r.host, .string r.text] 49))
      have C3 := Lib.hid (hc2.alloc (.cells #[.string r.name, .int .i64 r.ty, .int .i64 r.ttl, .int .i64 r.n, .string r.host, .string r.text] 49))
      have G3 := Lib.hid (grown_trans (grown_trans HG.out hg2) (World.grownBy_alloc w2 (.cells #[.string r.name, .int .i64 r.ty, .int .i64 r.ttl, .int .i64 r.n, .string r.host, .string r.text] 49) (some g)))
      have S3 := Lib.hid (one_sr w2 r)
      clear hr hc2 hg2 HO HC HG
      go_wp2_with (at_builtin; refine append_recs rfl (.tmp 16) (.tmp 19) rfl w.heap.size gl m cap L rfl O3.out w2.heap.size 0 1 1 _ [r] rfl S3.out ?d1 ?d2 ?d3 ?_)
      case d1 => omega
      case d2 => omega
      case d3 => exact G3.out.size
      intro g4 cap4 w4 hown hgrow
      have O4 := Lib.hid hown
      have C4 := Lib.hid (cur_far C3.out O3.out hgrow GL.out)
      have G4 := Lib.hid (grown_far G3.out hgrow (O3.out.lt gl rfl).1)
      have S4 : Hid (∀ x ∈ L ++ [r], Sml x) := fun x hx => by
        rcases List.mem_append.1 hx with hx | hx
        · exact HS.out x hx
        · rw [List.mem_singleton.1 hx]; exact HR.out
      clear hown hgrow O3 C3 G3 S3 HS HR
      go_wp2
      go_roundw
      case rel => exact ⟨g4, m + 1, cap4, p, L ++ [r], by omega, by go_num, rfl, O4.out, S4.out, C4.out, G4.out⟩
      case measure => first | (simp [intOf]; done) | (simp [intOf]; omega)
    · obtain rfl : q = 0 := by omega
      have hl := own_len HO.out
      go_wp2
      go_ret
      exact ⟨gl, cap, L, by rw [hl]; rfl, by rw [hl]; exact HO.out, by omega, HS.out, HC.out, HG.out⟩

end Go.Proofs.YtaahaepgabcebaaDoor.DrawA
