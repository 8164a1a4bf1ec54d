/- Lost and Wrong of the reference. -/
import Derived.Test.YtpccpkjfnmclfaaRLost
import Derived.Test.YtpccpkjfnmclfaaPlay
namespace Go.Proofs.Ytpccpkjfnmclfaa
open Go.RowKit
attribute [local go_sem] msetCell_draws malloc_draws

end Go.Proofs.Ytpccpkjfnmclfaa
