/- Replies: marks, ReplyMac, MakeReply, ReplyOK: of the specification. -/
import Derived.Test.YtiflfcpoajijaaaDoorJFnClients3
import Derived.Test.YtiflfcpoajijaaaDoorJFnClients6
import Derived.Deep.RegionHeldLaw
import Derived.BigQuiet
namespace Go.Proofs.YtiflfcpoajijaaaDoor.Rys
open Go.RowKit Go.Proofs.YtiflfcpoajijaaaDoor.Sl Go.Proofs.YtiflfcpoajijaaaDoor.By Go.Proofs.YtiflfcpoajijaaaDoor.Ap Go.Proofs.YtiflfcpoajijaaaDoor.Tx Go.Proofs.YtiflfcpoajijaaaDoor.Sh Go.Proofs.YtiflfcpoajijaaaDoor.Ho Go.Proofs.YtiflfcpoajijaaaDoor.Fz Go.Proofs.YtiflfcpoajijaaaDoor.Pu Go.Proofs.YtiflfcpoajijaaaDoor.Fu Go.Proofs.YtiflfcpoajijaaaDoor.Mr Go.Proofs.YtiflfcpoajijaaaDoor.Rm Go.Proofs.YtiflfcpoajijaaaDoor.Fq
open Go.Proofs.YtiflfcpoajijaaaDoor.Gy (Re oneV)
open Go.Proofs.YtiflfcpoajijaaaDoor.Ry
open Go.Proofs.YtiflfcpoajijaaaDoor.Tm (fCode fOut f_cases implFaultsOf_any)

end Go.Proofs.YtiflfcpoajijaaaDoor.Rys
