/- What the program's NameOk does: it tells whether a text has at most 50 bytes and at most 6 labels, all of them valid. Conditions: at most 400000000 bytes; the library's variable internal/bytealg.MaxLen holds an int. -/
import Derived.Test.YtjgmocmaeadjdaaParts
import Derived.Test.YtjgmocmaeadjdaaNameSpec
namespace Go.Proofs.Ytjgmocmaeadjdaa.NameOk
open Go.RowKit Go.Proofs.Ytjgmocmaeadjdaa.Mem Go.Proofs.Ytjgmocmaeadjdaa.MemS Go.Proofs.Ytjgmocmaeadjdaa.AppS Go.Proofs.Ytjgmocmaeadjdaa.Split Go.Proofs.Ytjgmocmaeadjdaa.Labels Go.Proofs.Ytjgmocmaeadjdaa.Label

end Go.Proofs.Ytjgmocmaeadjdaa.NameOk
