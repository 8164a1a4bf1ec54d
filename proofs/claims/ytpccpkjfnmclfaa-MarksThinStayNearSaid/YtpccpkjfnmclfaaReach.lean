/- both checks of a clock; reach of both sides. -/
import Derived.Test.YtpccpkjfnmclfaaMarks
import Derived.Test.YtpccpkjfnmclfaaClockMath
namespace Go.Proofs.Ytpccpkjfnmclfaa
open Go.RowKit

/-- a clock, a mark as values -/
def cv (s f : Int) : Value := .agg #[.int .i64 s, .int .i64 f]
def mv (x : Mk) : Value := .agg #[.int .i64 x.t, .int .i64 x.z, .int .i64 x.o]

theorem quiet_eq {f : FuncId} {args : Array Value} {w : World} {n : Nat} {v : Value} (h : Calls Try.prog f args (w.drewN n) fun e w' => e = .returned v ∧ w.drewN n = w') :
    Calls Try.prog f args (w.drewN n) fun e w'' => e = .returned v ∧ ∃ m, w'' = w.drewN m := h.mono fun _ _ ⟨he, hm⟩ => ⟨he, n, hm.symm⟩
/-- what reach leaves -/
def ReachPost (r : Int × Int) (w : World) (e : Ending) (w' : World) : Prop := e = .returned (.tuple #[.int .i64 r.1, .int .i64 r.2]) ∧ Below w.heap.size w w'
end Go.Proofs.Ytpccpkjfnmclfaa
