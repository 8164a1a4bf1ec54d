/- slices.Equal of numbers. -/
import Derived.Test.YtpccpkjfnmclfaaWords
import Derived.WalkKit
import Derived.Outline
import Derived.Lib.Hide
import Derived.RegionTactic
import Derived.Deep.QuietTactic
import Derived.BigQuiet
import Derived.Deep.RegionHeld3
namespace Go.Proofs.Ytpccpkjfnmclfaa
open Go.RowKit

end Go.Proofs.Ytpccpkjfnmclfaa
