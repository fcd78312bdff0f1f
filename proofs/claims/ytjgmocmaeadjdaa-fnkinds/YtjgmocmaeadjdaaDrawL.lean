/- What the model's draws of labels do: texts of at most 20 bytes; nothing that was there is turned but the cursor. -/
import Derived.Test.YtjgmocmaeadjdaaDrawS
namespace Go.Proofs.Ytjgmocmaeadjdaa.DrawL
open Go.RowKit Go.Proofs.Ytjgmocmaeadjdaa.Mem Go.Proofs.Ytjgmocmaeadjdaa.Draw Go.Proofs.Ytjgmocmaeadjdaa.DrawS

/-- A short text. -/
def Short (x : ByteArray) : Prop := x.size ≤ 20
theorem all_short (l : List ByteArray) (h : (l.all fun x => decide (x.size ≤ 20)) = true) : ∀ x ∈ l, Short x := fun x hx => of_decide_eq_true (p := x.size ≤ 20) (List.all_eq_true.1 h x hx)
def labels : List ByteArray := [⟨#[97]⟩, ⟨#[98]⟩, ⟨#[99]⟩, ⟨#[119, 119, 119]⟩, ⟨#[110, 115]⟩, ⟨#[110, 115, 49]⟩, ⟨#[99, 111, 109]⟩, ⟨#[111, 114, 103]⟩, ⟨#[101, 120]⟩, ⟨#[116, 119, 101, 108, 118, 101, 98, 121, 116, 101, 115, 48]⟩, ⟨#[120, 45, 121]⟩, ⟨#[95, 116]⟩]
theorem labels_short : ∀ x ∈ labels, Short x := all_short _ (by decide)
def odds : List ByteArray := [⟨#[]⟩, ⟨#[65]⟩, ⟨#[87, 119, 119]⟩, ⟨#[116, 104, 105, 114, 116, 101, 101, 110, 98, 121, 116, 101, 115]⟩, ⟨#[97, 32, 98]⟩, ⟨#[97, 46, 98]⟩, ⟨#[0]⟩, ⟨#[123]⟩, ⟨#[64]⟩]
theorem odds_short : ∀ x ∈ odds, Short x := all_short _ (by decide)

end Go.Proofs.Ytjgmocmaeadjdaa.DrawL
