/- What the program's Labels does, by the library's proved contract of strings.Split: a new slice with the pieces of the text between its dots, none for the empty text. Condition: at most 400000000 bytes; the library's variable internal/bytealg.MaxLen holds an int. -/
import Derived.Test.YtjgmocmaeadjdaaLabSpec
import Derived.Test.YtjgmocmaeadjdaaShelf
namespace Go.Proofs.Ytjgmocmaeadjdaa.Labels
open Go.RowKit Go.Proofs.Ytjgmocmaeadjdaa.Mem Go.Proofs.Ytjgmocmaeadjdaa.MemS Go.Proofs.Ytjgmocmaeadjdaa.AppS Go.Proofs.Ytjgmocmaeadjdaa.Split

end Go.Proofs.Ytjgmocmaeadjdaa.Labels
