/- the walk of the program's Flipped. -/
import Derived.Test.YteelepjhlhifhaaWritten
import Derived.StillTailTactics
import Derived.Deep.Cut
namespace Go.Proofs.Yteelepjhlhifhaa
open Go.RowKit
attribute [local go_sem] setCell_draws alloc_draws

end Go.Proofs.Yteelepjhlhifhaa
