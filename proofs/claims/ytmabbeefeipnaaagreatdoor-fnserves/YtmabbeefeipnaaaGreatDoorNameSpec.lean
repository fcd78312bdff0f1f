/- What the model's NameOk does: it tells whether a text has at most 50 bytes and at most 6 labels, all of them valid. Condition: at most 400000000 bytes. -/
import Derived.Test.YtmabbeefeipnaaaGreatDoorNameDef
namespace Go.Proofs.YtmabbeefeipnaaaGreatDoor.NameOk
open Go.RowKit Go.Proofs.YtmabbeefeipnaaaGreatDoor.Mem Go.Proofs.YtmabbeefeipnaaaGreatDoor.MemS Go.Proofs.YtmabbeefeipnaaaGreatDoor.AppS Go.Proofs.YtmabbeefeipnaaaGreatDoor.Split Go.Proofs.YtmabbeefeipnaaaGreatDoor.Labels Go.Proofs.YtmabbeefeipnaaaGreatDoor.Label

end Go.Proofs.YtmabbeefeipnaaaGreatDoor.NameOk
