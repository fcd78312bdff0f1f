/- What PartsOf does in the program and in the model: it returns the number of labels. Condition: at most 400000000 bytes; for the program: the library's variable internal/bytealg.MaxLen holds an int. -/
import Derived.Test.YtjgmocmaeadjdaaLabels
namespace Go.Proofs.Ytjgmocmaeadjdaa.Parts
open Go.RowKit Go.Proofs.Ytjgmocmaeadjdaa.Mem Go.Proofs.Ytjgmocmaeadjdaa.MemS Go.Proofs.Ytjgmocmaeadjdaa.AppS Go.Proofs.Ytjgmocmaeadjdaa.Split Go.Proofs.Ytjgmocmaeadjdaa.Labels

end Go.Proofs.Ytjgmocmaeadjdaa.Parts
