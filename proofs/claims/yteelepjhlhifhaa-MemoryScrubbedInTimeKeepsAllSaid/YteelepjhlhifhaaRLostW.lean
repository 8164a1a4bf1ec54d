/- Lost and Wrong of the reference. -/
import Derived.Test.YteelepjhlhifhaaRLost
import Derived.Test.YteelepjhlhifhaaPlay
namespace Go.Proofs.Yteelepjhlhifhaa
open Go.RowKit
attribute [local go_sem] setCell_draws alloc_draws

end Go.Proofs.Yteelepjhlhifhaa
