/- the sum of the reference of stage 4. -/
import Derived.Test.YtpccpkjfnmclfaaSum
namespace Go.Proofs.Ytpccpkjfnmclfaa
open Go.RowKit

end Go.Proofs.Ytpccpkjfnmclfaa
