/- the reference's lowest terms. -/
import Derived.Test.YtpccpkjfnmclfaaShare
namespace Go.Proofs.Ytpccpkjfnmclfaa
open Go.RowKit
attribute [local go_sem] setCell_draws alloc_draws
end Go.Proofs.Ytpccpkjfnmclfaa
