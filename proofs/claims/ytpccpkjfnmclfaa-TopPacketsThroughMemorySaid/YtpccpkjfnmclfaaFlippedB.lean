/- the walk of the program's Flipped. -/
import Derived.Test.YtpccpkjfnmclfaaWritten
import Derived.StillTailTactics
import Derived.Deep.Cut
namespace Go.Proofs.Ytpccpkjfnmclfaa
open Go.RowKit
attribute [local go_sem] msetCell_draws malloc_draws

end Go.Proofs.Ytpccpkjfnmclfaa
