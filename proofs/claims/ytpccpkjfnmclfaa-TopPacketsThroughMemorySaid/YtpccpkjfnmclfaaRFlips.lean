/- the walk of the reference's CheckFlips. -/
import Derived.Test.YtpccpkjfnmclfaaFlipW
import Derived.Test.YtpccpkjfnmclfaaRReadAt
import Derived.Deep.Cut
namespace Go.Proofs.Ytpccpkjfnmclfaa
open Go.RowKit

end Go.Proofs.Ytpccpkjfnmclfaa
