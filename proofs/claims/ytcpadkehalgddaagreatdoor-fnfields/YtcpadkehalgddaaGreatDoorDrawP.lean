/- What the model's draws for PutRecord and PutRecords do: short slices of bytes, records of short texts; nothing that was there is turned. -/
import Derived.Test.YtcpadkehalgddaaGreatDoorDrawA
import Derived.Test.YtcpadkehalgddaaGreatDoorDrawW
namespace Go.Proofs.YtcpadkehalgddaaGreatDoor.DrawP
open Go.RowKit Go.Proofs.YtcpadkehalgddaaGreatDoor.Mem Go.Proofs.YtcpadkehalgddaaGreatDoor.MemR Go.Proofs.YtcpadkehalgddaaGreatDoor.BoxR Go.Proofs.YtcpadkehalgddaaGreatDoor.App Go.Proofs.YtcpadkehalgddaaGreatDoor.Draw Go.Proofs.YtcpadkehalgddaaGreatDoor.DrawS Go.Proofs.YtcpadkehalgddaaGreatDoor.DrawL Go.Proofs.YtcpadkehalgddaaGreatDoor.DrawN Go.Proofs.YtcpadkehalgddaaGreatDoor.DrawW Go.Proofs.YtcpadkehalgddaaGreatDoor.AppR Go.Proofs.YtcpadkehalgddaaGreatDoor.ResR Go.Proofs.YtcpadkehalgddaaGreatDoor.DrawR Go.Proofs.YtcpadkehalgddaaGreatDoor.DrawA Go.Proofs.YtcpadkehalgddaaGreatDoor.GetsM

theorem results_tmp_cell {fn : Func} {p u : Tmp} {ty : TypeId} (h : fn.results = #[.tmp u, .cell p ty]) (tmps : Array Value) (P : Program) (w : World) :
    (results fn tmps).run P w = ((asAddr (tmps.getD p undef)).run P w).andThen fun a w₁ => ((loadVar ty a).run P w₁).andThen fun x w₂ => .ok (.tuple #[tmps.getD u undef, x]) w₂ := by
  simp only [results, h]
  simp [Sem.run_bind, Result.andThen]
theorem res2' {fn : Func} {p u : Tmp} {w : World} {g : Nat} {t : TypeId} {r : Rec} {x : Value} {tmps : Array Value} (hf : fn.results = #[.tmp u, .cell p 25]) (h : Bk w g t (rc r)) (h4 : tmps.getD p undef = .pointer (some ⟨g, 0, none⟩)) (h5 : tmps.getD u undef = x) :
    (results fn tmps).run Tryz.prog w = .ok (.tuple #[x, .agg #[.string r.name, .int .i64 r.ty, .int .i64 r.ttl, .int .i64 r.n, .string r.host, .string r.text]]) w := by
  rw [results_tmp_cell hf, h4, h5, as_addr]
  simp only [Result.andThen, load_rec h]
theorem fil_grown (w : World) (g : Nat) (r : Rec) : w.grownBy (fil w g r) (some g) := grown_set (grown_set (grown_set (grown_set (grown_set (grown_set (grown_refl w (some g)) 0 (.string r.name)) 1 (.int .i64 r.ty)) 2 (.int .i64 r.ttl)) 3 (.int .i64 r.n)) 4 (.string r.host)) 5 (.string r.text)

/-- Bytes and a record; nothing that was there is turned. -/
def Dpr (w : World) (e : Ending) (w' : World) : Prop :=
  ∃ (gb m cap : Nat) (l : List UInt8) (r : Rec), e = .returned (.tuple #[.slice (some ⟨gb, 0, none⟩) m cap, .agg #[.string r.name, .int .i64 r.ty, .int .i64 r.ttl, .int .i64 r.n, .string r.host, .string r.text]]) ∧ m ≤ 340 ∧ m ≤ cap ∧ Sml r ∧ Sl w' w'.heap.size (some ⟨gb, 0, none⟩) m l ∧ Below w.heap.size w w'

set_option maxHeartbeats 4000000 in
set_option maxRecDepth 100000 in
theorem drawPutRecord_any (A : Option Addr) (n c : Nat) (l : List UInt8) (w : World) (hs : Sl w w.heap.size A n l) (hn : n ≤ 1048576) : Calls Tryz.prog 7 #[.slice A n c] w (Dpr w) := by
  have HS := Lib.hid (sl_alloc hs (.cells #[.string ⟨#[]⟩, .int .i64 0, .int .i64 0, .int .i64 0, .string ⟨#[]⟩, .string ⟨#[]⟩] 25))
  have Z0 := Lib.hid (zero_box w)
  have L0 := Lib.hid ((Below.refl w.heap.size w).alloc (Nat.le_refl _) (.cells #[.string ⟨#[]⟩, .int .i64 0, .int .i64 0, .int .i64 0, .string ⟨#[]⟩, .string ⟨#[]⟩] 25))
  clear hs
  have K := Lib.hid (l1New_any A n c l _ HS.out hn)
  rw [show (w.alloc (.cells #[.string ⟨#[]⟩, .int .i64 0, .int .i64 0, .int .i64 0, .string ⟨#[]⟩, .string ⟨#[]⟩] 25)).heap.size = w.heap.size + 1 by simp] at K
  go_enter Tryz.func7, Tryz.ntmps7
  go_wp2_with fail
  refine K.out.mono ?_
  rintro e w1 ⟨rfl, hc1, hg1⟩
  have C1 := Lib.hid hc1
  have Z1 := Lib.hid (Z0.out.grown hg1 (fun e => by cases e))
  have L1 := Lib.hid (L0.out.trans ((below_of_grown hg1).mono L0.out.size))
  clear hc1 hg1 Z0 L0 K
  go_wp2_with fail
  refine (l4Bytes_any (w.heap.size + 1) w1 C1.out).mono ?_
  rintro e w2 ⟨gb, m, cap, a, rfl, hm, ha, ho, hc2, hg2⟩
  have O2 := Lib.hid ho
  have C2 := Lib.hid hc2
  have Z2 := Lib.hid (Z1.out.grown hg2 (fun e => by have := Option.some.inj e; omega))
  have G1 := Lib.hid C1.out.lt
  have L2 := Lib.hid (L1.out.grown hg2 L1.out.size (fun j hj => by cases hj; omega))
  clear ho hc2 hg2 C1 Z1 L1
  go_wp2_with fail
  refine (l5Any_any (w.heap.size + 1) w2 C2.out).mono ?_
  rintro e w3 ⟨r, rfl, hr, hc3, hg3⟩
  have HR := Lib.hid hr
  have O3 := Lib.hid (O2.out.far hg3 G1.out)
  have Z3 := Lib.hid (Z2.out.grown hg3 (fun e => by have := Option.some.inj e; omega))
  have L3 := Lib.hid (L2.out.grown hg3 L2.out.size (fun j hj => by cases hj; omega))
  have O4 := Lib.hid (O3.out.far (fil_grown w3 w.heap.size r) (by have := G1.out; omega))
  clear hr hc3 hg3 C2 Z2 L2 O2 O3
  obtain ⟨z0, z1, z2, z3, z4, z5⟩ := bx_of Z3.out
  have fz0 := Z3.out.free 0
  have fz1 := Z3.out.free 1
  have fz2 := Z3.out.free 2
  have fz3 := Z3.out.free 3
  have fz4 := Z3.out.free 4
  have fz5 := Z3.out.free 5
  obtain ⟨lb, hsl, hmc⟩ := O4.out.sl
  have SL := Lib.hid hsl
  clear hsl
  go_wp2
  exact bodyPost_ret (v := .tuple #[.slice (some ⟨gb, 0, none⟩) m cap, .agg #[.string r.name, .int .i64 r.ty, .int .i64 r.ttl, .int .i64 r.n, .string r.host, .string r.text]]) (res2' rfl (fil_bk Z3.out r) rfl rfl) rfl ⟨gb, m, cap, lb, r, rfl, hm, hmc, HR.out, SL.out, fil_below L3.out (Nat.le_refl _) r⟩

/-- Bytes and records; nothing that was there is turned. -/
def Dprs (w : World) (e : Ending) (w' : World) : Prop :=
  ∃ (gb m cap gl cap' : Nat) (l : List UInt8) (L : List Rec), e = .returned (.tuple #[.slice (some ⟨gb, 0, none⟩) m cap, .slice (some ⟨gl, 0, none⟩) L.length cap']) ∧ m ≤ 3 ∧ m ≤ cap ∧ L.length ≤ 5 ∧ (∀ r ∈ L, Sml r) ∧ Sl w' w'.heap.size (some ⟨gb, 0, none⟩) m l ∧ Sr w' w'.heap.size (some ⟨gl, 0, none⟩) L.length L ∧ Below w.heap.size w w'
theorem own_sr {w : World} {base gl n cap : Nat} {L : List Rec} (h : w.ownsRow base 25 6 (.slice (some ⟨gl, 0, none⟩) n cap) n (fl L)) : Sr w w.heap.size (some ⟨gl, 0, none⟩) L.length L := by
  obtain ⟨r, hb, _, _, _⟩ := bk_of_owns6 h
  exact bk_sr hb rfl
theorem own_slb {w : World} {base g m cap : Nat} {l : List UInt8} (h : w.ownsRow base 5 1 (.slice (some ⟨g, 0, none⟩) m cap) m (l.map bv)) : Sl w w.heap.size (some ⟨g, 0, none⟩) m l ∧ m ≤ cap := by
  have hl : l.length = m := by have := h.1; simpa using this
  obtain ⟨r, hb, hr, _⟩ := bk_of_owns h
  exact ⟨hl ▸ (hb.sl'.wider hb.lt), by rw [← hr, List.length_append, List.length_map, hl]; omega⟩

set_option maxHeartbeats 4000000 in
set_option maxRecDepth 100000 in
theorem drawPutRecords_any (A : Option Addr) (n c : Nat) (l : List UInt8) (w : World) (hs : Sl w w.heap.size A n l) (hn : n ≤ 1048576) : Calls Tryz.prog 16 #[.slice A n c] w (Dprs w) := by
  have HS := Lib.hid hs
  clear hs
  go_enter Tryz.func16, Tryz.ntmps16
  go_wp2_with fail
  refine (l1New_any A n c l w HS.out hn).mono ?_
  rintro e w1 ⟨rfl, hc1, hg1⟩
  have C1 := Lib.hid hc1
  have G1 := Lib.hid hc1.lt
  have L1 := Lib.hid (below_of_grown hg1)
  clear hc1 hg1
  go_wp2_with fail
  refine (l5List_any w.heap.size 4 w1 C1.out (by omega)).mono ?_
  rintro e w2 ⟨gl, cap, L, rfl, ho, hL, hS, hc2, hg2⟩
  obtain ⟨m, hm⟩ : ∃ m, L.length = m := ⟨_, rfl⟩
  rw [hm] at ho hL ⊢
  have O2 := Lib.hid ho
  have S2 := Lib.hid hS
  have C2 := Lib.hid hc2
  have L2 := Lib.hid (below_more L1.out hg2 (Nat.le_refl _))
  have G2 := Lib.hid (Nat.lt_of_lt_of_le G1.out hg2.size)
  clear ho hS hc2 hg2 hm C1
  go_wp2_with fail
  refine (l1Once_any w.heap.size 5 w2 C2.out (by omega) (by omega)).mono ?_
  rintro e w3 ⟨b, rfl, hc3, hg3⟩
  have O3 := Lib.hid (own_far O2.out hg3 G1.out)
  have C3 := Lib.hid hc3
  have L3 := Lib.hid (below_more L2.out hg3 (Nat.le_refl _))
  clear hc3 hg3 C2 O2 L2
  cases b
  · go_wp2_with fail
    refine (l1Below_any w.heap.size 3 w3 C3.out (by omega) (by omega)).mono ?_
    rintro e w4 ⟨y, rfl, hy0, hy1, hc, hg⟩
    obtain ⟨my, rfl⟩ := Int.eq_ofNat_of_zero_le hy0
    have O4 := Lib.hid (own_far O3.out hg G1.out)
    have C4 := Lib.hid hc
    have L4 := Lib.hid (below_more L3.out hg (Nat.le_refl _))
    clear hc hg
    go_wp2_with fail
    refine (Draw2.l1BytesO_any w.heap.size my w4 C4.out (by omega)).mono ?_
    rintro e w5 ⟨gb, capb, lb, rfl, hlb, hob, hc, hg⟩
    have O5 := Lib.hid (own_far O4.out hg G1.out)
    have L5 := Lib.hid (below_more L4.out hg (Nat.le_refl _))
    have SR := Lib.hid (own_sr O5.out)
    have hlen := own_len O5.out
    obtain ⟨hsl, hmc⟩ := own_slb hob
    have SB := Lib.hid hsl
    clear hob hc hg hsl
    go_wp2
    go_ret2
    exact ⟨gb, my, capb, gl, cap, lb, L, by rw [hlen]; rfl, by omega, hmc, by omega, S2.out, SB.out, SR.out, L5.out⟩
  · go_wp2_with fail
    refine (l5Any_any w.heap.size w3 C3.out).mono ?_
    rintro e w4 ⟨r, rfl, hr, hc4, hg4⟩
    have HR := Lib.hid hr
    have O5 := Lib.hid ((own_far O3.out hg4 G1.out).alloc (.cells #[.string r.name, .int .i64 r.ty, .int .i64 r.ttl, .int .i64 r.n, .string r.host, .string r.text] 25))
    have C5 := Lib.hid (hc4.alloc (.cells #[.string r.name, .int .i64 r.ty, .int .i64 r.ttl, .int .i64 r.n, .string r.host, .string r.text] 25))
    have L4 := Lib.hid (below_more L3.out hg4 (Nat.le_refl _))
    have L5 := Lib.hid (L4.out.alloc L4.out.size (.cells #[.string r.name, .int .i64 r.ty, .int .i64 r.ttl, .int .i64 r.n, .string r.host, .string r.text] 25))
    have X5 := Lib.hid (one_sr w4 r)
    have G5 := Lib.hid (show w1.heap.size ≤ (w4.alloc (.cells #[.string r.name, .int .i64 r.ty, .int .i64 r.ttl, .int .i64 r.n, .string r.host, .string r.text] 25)).heap.size from by have := (O5.out.lt gl rfl); omega)
    clear hr hc4 hg4 O3 C3 L3 L4
    go_wp2_with (at_builtin; refine append_recs rfl (.tmp 12) (.tmp 15) rfl w1.heap.size gl m cap L rfl O5.out w4.heap.size 0 1 1 _ [r] rfl X5.out ?d1 ?d2 ?d3 ?_)
    case d1 => omega
    case d2 => omega
    case d3 => exact G5.out
    intro g6 cap6 w6 hown hgrow
    have O6 := Lib.hid hown
    have C6 := Lib.hid (cur_far C5.out O5.out hgrow G1.out)
    have L6 := Lib.hid (L5.out.grown hgrow L5.out.size (fun j hj => by cases hj; have := (O5.out.lt gl rfl).1; have := G1.out; omega))
    have S6 : Hid (∀ x ∈ L ++ [r], Sml x) := fun x hx => by
      rcases List.mem_append.1 hx with hx | hx
      · exact S2.out x hx
      · rw [List.mem_singleton.1 hx]; exact HR.out
    clear hown hgrow O5 C5 L5 X5 S2 HR
    go_wp2_with fail
    refine (l1Below_any w.heap.size 3 w6 C6.out (by omega) (by omega)).mono ?_
    rintro e w7 ⟨y, rfl, hy0, hy1, hc, hg⟩
    obtain ⟨my, rfl⟩ := Int.eq_ofNat_of_zero_le hy0
    have O7 := Lib.hid (own_far O6.out hg G1.out)
    have C7 := Lib.hid hc
    have L7 := Lib.hid (below_more L6.out hg (Nat.le_refl _))
    clear hc hg
    go_wp2_with fail
    refine (Draw2.l1BytesO_any w.heap.size my w7 C7.out (by omega)).mono ?_
    rintro e w8 ⟨gb, capb, lb, rfl, hlb, hob, hc, hg⟩
    have O8 := Lib.hid (own_far O7.out hg G1.out)
    have L8 := Lib.hid (below_more L7.out hg (Nat.le_refl _))
    have SR := Lib.hid (own_sr O8.out)
    have hlen := own_len O8.out
    obtain ⟨hsl, hmc⟩ := own_slb hob
    have SB := Lib.hid hsl
    clear hob hc hg hsl
    go_wp2
    go_ret2
    exact ⟨gb, my, capb, g6, cap6, lb, L ++ [r], by rw [hlen]; rfl, by omega, hmc, by omega, S6.out, SB.out, SR.out, L8.out⟩
end Go.Proofs.YtcpadkehalgddaaGreatDoor.DrawP
