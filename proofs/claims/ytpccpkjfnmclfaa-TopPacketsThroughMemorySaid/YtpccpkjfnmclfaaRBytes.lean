/- the bytes of a packet, made by the reference. -/
import Derived.Test.YtpccpkjfnmclfaaPBytes
import Derived.Test.YtpccpkjfnmclfaaConcat
import Derived.Deep.RegionHeld3
import Derived.Deep.DeepCutAuto
namespace Go.Proofs.Ytpccpkjfnmclfaa
open Go.RowKit

end Go.Proofs.Ytpccpkjfnmclfaa
