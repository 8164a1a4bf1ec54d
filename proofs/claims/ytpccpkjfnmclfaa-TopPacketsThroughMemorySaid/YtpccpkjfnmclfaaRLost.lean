/- the places of words lost, of words read as others, of the reference. -/
import Derived.Test.YtpccpkjfnmclfaaWrong
import Derived.Test.YtpccpkjfnmclfaaBase
namespace Go.Proofs.Ytpccpkjfnmclfaa
open Go.RowKit
attribute [local go_sem] msetCell_draws malloc_draws

end Go.Proofs.Ytpccpkjfnmclfaa
