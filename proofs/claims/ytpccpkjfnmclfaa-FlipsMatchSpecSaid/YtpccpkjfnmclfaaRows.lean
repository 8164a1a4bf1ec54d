/-
  No cell of these rows narrows 'for every input' (looked for: loops, veiled, ifaces, maps, wideKeys, modest, calm, conditions, laid).
  DERIVED. THE GIVEN ROWS OF THIS SEAT. 6 by the template 'for every input the law returns true; each argument reads behind the call as it read before'; 0 by the template 'total and deterministic' (their statements: YtpccpkjfnmclfaaTotals.lean).
  GIVEN WITH THE SEED: the statements are not yours to turn. If you find one false, say at which input.
  Laid BY PROGRAM, IN A SANDBOX (cutbox-rows.mjs): the forced cells as the released guide's own fill.sh prints them over the translation bd558d9979e603c3… (all of the seat's roots in one cut). By AI agents, Wed Nov 11 2026. No macro, syntax, notation, axiom, sorry.
-/
import Derived.Test.YtpccpkjfnmclfaaChecked
import GoSem.Claim
import GoSem.ClaimJoined
import GoSem.ClaimMapViews
import Derived.JoinedTies
import Derived.KernelRfl
namespace Go.Proofs.Ytpccpkjfnmclfaa
/- THE CELL 'sum', in the pinned program and in every row, IS THE sha256 OF THE DUMP (.gsa) THAT YtpccpkjfnmclfaaProg.lean LOADS. Nothing in Lean hashes anything: it is a label: what it is worth is what the hold of that sum in a sandbox is worth. -/
noncomputable def Try.pinned : Pinned := { name := "ytpccpkjfnmclfaa", sum := "bd558d9979e603c3b9054ad99c4fbc0ee83d498500fc62d59949bef8dc018bba", checked := Try.checked }
namespace Rows
def none {H : Type} : Left H := { results := [], args := [] }

/-- 'perigeelaw1.PacketSplitMatchesSpec': WHATEVER THE INPUT: true; the input reads as it did. -/
def packetSplitMatchesSpecSpec : ChangeSpec := { name := "packetSplitMatchesSpec", fn := fun _ => fun
  | [d1, d2, d3, d4, d5] => { results := [.lit (.bool true)], args := [d1, d2, d3, d4, d5] }
  | _ => none }
def packetSplitMatchesSpecRow : OpenClaim := { program := "ytpccpkjfnmclfaa", sum := "bd558d9979e603c3b9054ad99c4fbc0ee83d498500fc62d59949bef8dc018bba", func := "perigee/perigeelaw1.PacketSplitMatchesSpec", spec := "packetSplitMatchesSpec", apart := false }
def PacketSplitMatchesSpecSaid : Prop := packetSplitMatchesSpecRow.holds Try.pinned (OpenSpec.ofChange packetSplitMatchesSpecSpec)

/-- ITS FALSE NEIGHBOUR: 'it returns false'. Refute it at one input. -/
def packetSplitMatchesSpecWrong : ChangeSpec := { name := "packetSplitMatchesSpec", fn := fun _ => fun
  | [d1, d2, d3, d4, d5] => { results := [.lit (.bool false)], args := [d1, d2, d3, d4, d5] }
  | _ => none }
def PacketSplitMatchesSpecWrongFalsely : Prop := packetSplitMatchesSpecRow.holds Try.pinned (OpenSpec.ofChange packetSplitMatchesSpecWrong)

/-- 'perigeelaw2.MarksMergeMatchSpec': WHATEVER THE INPUT: true; the input reads as it did. -/
def marksMergeMatchSpecSpec : ChangeSpec := { name := "marksMergeMatchSpec", fn := fun _ => fun
  | [d1, d2, d3] => { results := [.lit (.bool true)], args := [d1, d2, d3] }
  | _ => none }
def marksMergeMatchSpecRow : OpenClaim := { program := "ytpccpkjfnmclfaa", sum := "bd558d9979e603c3b9054ad99c4fbc0ee83d498500fc62d59949bef8dc018bba", func := "perigee/perigeelaw2.MarksMergeMatchSpec", spec := "marksMergeMatchSpec", unfollowed := true, recurses := true, named := ["math/bits.divideError", "math/bits.overflowError"], apart := false }
def MarksMergeMatchSpecSaid : Prop := marksMergeMatchSpecRow.holds Try.pinned (OpenSpec.ofChange marksMergeMatchSpecSpec)

/-- ITS FALSE NEIGHBOUR: 'it returns false'. Refute it at one input. -/
def marksMergeMatchSpecWrong : ChangeSpec := { name := "marksMergeMatchSpec", fn := fun _ => fun
  | [d1, d2, d3] => { results := [.lit (.bool false)], args := [d1, d2, d3] }
  | _ => none }
def MarksMergeMatchSpecWrongFalsely : Prop := marksMergeMatchSpecRow.holds Try.pinned (OpenSpec.ofChange marksMergeMatchSpecWrong)

/-- 'perigeelaw2.MarksMergeEven': WHATEVER THE INPUT: true; the input reads as it did. -/
def marksMergeEvenSpec : ChangeSpec := { name := "marksMergeEven", fn := fun _ => fun
  | [d1, d2] => { results := [.lit (.bool true)], args := [d1, d2] }
  | _ => none }
def marksMergeEvenRow : OpenClaim := { program := "ytpccpkjfnmclfaa", sum := "bd558d9979e603c3b9054ad99c4fbc0ee83d498500fc62d59949bef8dc018bba", func := "perigee/perigeelaw2.MarksMergeEven", spec := "marksMergeEven", unfollowed := true, recurses := true, apart := false }
def MarksMergeEvenSaid : Prop := marksMergeEvenRow.holds Try.pinned (OpenSpec.ofChange marksMergeEvenSpec)

/-- ITS FALSE NEIGHBOUR: 'it returns false'. Refute it at one input. -/
def marksMergeEvenWrong : ChangeSpec := { name := "marksMergeEven", fn := fun _ => fun
  | [d1, d2] => { results := [.lit (.bool false)], args := [d1, d2] }
  | _ => none }
def MarksMergeEvenWrongFalsely : Prop := marksMergeEvenRow.holds Try.pinned (OpenSpec.ofChange marksMergeEvenWrong)

/-- 'perigeelaw2.MarksThinStayNear': WHATEVER THE INPUT: true; the input reads as it did. -/
def marksThinStayNearSpec : ChangeSpec := { name := "marksThinStayNear", fn := fun _ => fun
  | [d1, d2, d3] => { results := [.lit (.bool true)], args := [d1, d2, d3] }
  | _ => none }
def marksThinStayNearRow : OpenClaim := { program := "ytpccpkjfnmclfaa", sum := "bd558d9979e603c3b9054ad99c4fbc0ee83d498500fc62d59949bef8dc018bba", func := "perigee/perigeelaw2.MarksThinStayNear", spec := "marksThinStayNear", unfollowed := true, recurses := true, named := ["math/bits.divideError", "math/bits.overflowError"], apart := false }
def MarksThinStayNearSaid : Prop := marksThinStayNearRow.holds Try.pinned (OpenSpec.ofChange marksThinStayNearSpec)

/-- ITS FALSE NEIGHBOUR: 'it returns false'. Refute it at one input. -/
def marksThinStayNearWrong : ChangeSpec := { name := "marksThinStayNear", fn := fun _ => fun
  | [d1, d2, d3] => { results := [.lit (.bool false)], args := [d1, d2, d3] }
  | _ => none }
def MarksThinStayNearWrongFalsely : Prop := marksThinStayNearRow.holds Try.pinned (OpenSpec.ofChange marksThinStayNearWrong)

/-- 'perigeelaw4.FlipsMatchSpec': WHATEVER THE INPUT: true; the input reads as it did. -/
def flipsMatchSpecSpec : ChangeSpec := { name := "flipsMatchSpec", fn := fun _ => fun
  | [d1, d2] => { results := [.lit (.bool true)], args := [d1, d2] }
  | _ => none }
def flipsMatchSpecRow : OpenClaim := { program := "ytpccpkjfnmclfaa", sum := "bd558d9979e603c3b9054ad99c4fbc0ee83d498500fc62d59949bef8dc018bba", func := "perigee/perigeelaw4.FlipsMatchSpec", spec := "flipsMatchSpec", apart := false }
def FlipsMatchSpecSaid : Prop := flipsMatchSpecRow.holds Try.pinned (OpenSpec.ofChange flipsMatchSpecSpec)

/-- ITS FALSE NEIGHBOUR: 'it returns false'. Refute it at one input. -/
def flipsMatchSpecWrong : ChangeSpec := { name := "flipsMatchSpec", fn := fun _ => fun
  | [d1, d2] => { results := [.lit (.bool false)], args := [d1, d2] }
  | _ => none }
def FlipsMatchSpecWrongFalsely : Prop := flipsMatchSpecRow.holds Try.pinned (OpenSpec.ofChange flipsMatchSpecWrong)

/-- 'perigeetop.TopPacketsThroughMemory': WHATEVER THE INPUT: true; the input reads as it did. -/
def topPacketsThroughMemorySpec : ChangeSpec := { name := "topPacketsThroughMemory", fn := fun _ => fun
  | [d1, d2] => { results := [.lit (.bool true)], args := [d1, d2] }
  | _ => none }
def topPacketsThroughMemoryRow : OpenClaim := { program := "ytpccpkjfnmclfaa", sum := "bd558d9979e603c3b9054ad99c4fbc0ee83d498500fc62d59949bef8dc018bba", func := "perigee/perigeetop.TopPacketsThroughMemory", spec := "topPacketsThroughMemory", apart := false }
def TopPacketsThroughMemorySaid : Prop := topPacketsThroughMemoryRow.holds Try.pinned (OpenSpec.ofChange topPacketsThroughMemorySpec)

/-- ITS FALSE NEIGHBOUR: 'it returns false'. Refute it at one input. -/
def topPacketsThroughMemoryWrong : ChangeSpec := { name := "topPacketsThroughMemory", fn := fun _ => fun
  | [d1, d2] => { results := [.lit (.bool false)], args := [d1, d2] }
  | _ => none }
def TopPacketsThroughMemoryWrongFalsely : Prop := topPacketsThroughMemoryRow.holds Try.pinned (OpenSpec.ofChange topPacketsThroughMemoryWrong)

/- THE SECOND FORM. 'bulk': how many values and letters a reading holds, each counted each time it is reached (what is shared counts as often as it is met; a slice's spare places count too). A statement '..UptoSaid' is the law's where the arguments, and the package variables that the reading takes, are together of bulk at most 1048576: NARROWER than '..Said'. Prove '..Said' where nothing that the law and all that it calls make is longer than what came in: it says more and counts as full. Else prove '..UptoSaid'. A law counts once. -/
mutual
def uptoBulk {H : Type} : DataW H → Nat
  | .lit (.string bytes) => bytes.length + 1
  | .lit _ => 1
  | .nil => 1
  | .ptr d => uptoBulk d + 1
  | .slice elems spare => uptoBulkAll elems + uptoBulkAll spare + 1
  | .agg parts => uptoBulkAll parts + 1
  | .iface _ d => uptoBulk d + 1
  | .map entries => uptoBulkEntries entries + 1
  | .held _ => 1
def uptoBulkAll {H : Type} : List (DataW H) → Nat
  | [] => 0
  | d :: r => uptoBulk d + uptoBulkAll r
def uptoBulkEntries {H : Type} : List (Lit × DataW H) → Nat
  | [] => 0
  | x :: r => uptoBulkEntry x + uptoBulkEntries r
def uptoBulkEntry {H : Type} : Lit × DataW H → Nat
  | (.string bytes, d) => bytes.length + uptoBulk d + 1
  | (_, d) => uptoBulk d + 1
 end
def uptoSmall : (H : Type) → List (DataW H) → Bool := fun _ ds => decide (uptoBulkAll ds ≤ 1048576)
def OpenSpec.upto (s : _root_.Go.ChangeSpec) : _root_.Go.OpenSpec := { _root_.Go.OpenSpec.ofChange s with cond := some uptoSmall }

/-- 'perigeelaw1.PacketSplitMatchesSpec', WHERE WHAT IT READS IS OF BULK AT MOST 1048576: true; the input reads as it did. -/
def packetSplitMatchesSpecUptoRow : OpenClaim := { program := "ytpccpkjfnmclfaa", sum := "bd558d9979e603c3b9054ad99c4fbc0ee83d498500fc62d59949bef8dc018bba", func := "perigee/perigeelaw1.PacketSplitMatchesSpec", spec := "packetSplitMatchesSpec", apart := false, narrowed := true }
def PacketSplitMatchesSpecUptoSaid : Prop := packetSplitMatchesSpecUptoRow.holds Try.pinned (OpenSpec.upto packetSplitMatchesSpecSpec)

/-- 'perigeelaw2.MarksMergeMatchSpec', WHERE WHAT IT READS IS OF BULK AT MOST 1048576: true; the input reads as it did. -/
def marksMergeMatchSpecUptoRow : OpenClaim := { program := "ytpccpkjfnmclfaa", sum := "bd558d9979e603c3b9054ad99c4fbc0ee83d498500fc62d59949bef8dc018bba", func := "perigee/perigeelaw2.MarksMergeMatchSpec", spec := "marksMergeMatchSpec", unfollowed := true, recurses := true, named := ["math/bits.divideError", "math/bits.overflowError"], apart := false, narrowed := true }
def MarksMergeMatchSpecUptoSaid : Prop := marksMergeMatchSpecUptoRow.holds Try.pinned (OpenSpec.upto marksMergeMatchSpecSpec)

/-- 'perigeelaw2.MarksMergeEven', WHERE WHAT IT READS IS OF BULK AT MOST 1048576: true; the input reads as it did. -/
def marksMergeEvenUptoRow : OpenClaim := { program := "ytpccpkjfnmclfaa", sum := "bd558d9979e603c3b9054ad99c4fbc0ee83d498500fc62d59949bef8dc018bba", func := "perigee/perigeelaw2.MarksMergeEven", spec := "marksMergeEven", unfollowed := true, recurses := true, apart := false, narrowed := true }
def MarksMergeEvenUptoSaid : Prop := marksMergeEvenUptoRow.holds Try.pinned (OpenSpec.upto marksMergeEvenSpec)

/-- 'perigeelaw2.MarksThinStayNear', WHERE WHAT IT READS IS OF BULK AT MOST 1048576: true; the input reads as it did. -/
def marksThinStayNearUptoRow : OpenClaim := { program := "ytpccpkjfnmclfaa", sum := "bd558d9979e603c3b9054ad99c4fbc0ee83d498500fc62d59949bef8dc018bba", func := "perigee/perigeelaw2.MarksThinStayNear", spec := "marksThinStayNear", unfollowed := true, recurses := true, named := ["math/bits.divideError", "math/bits.overflowError"], apart := false, narrowed := true }
def MarksThinStayNearUptoSaid : Prop := marksThinStayNearUptoRow.holds Try.pinned (OpenSpec.upto marksThinStayNearSpec)

/-- 'perigeelaw4.FlipsMatchSpec', WHERE WHAT IT READS IS OF BULK AT MOST 1048576: true; the input reads as it did. -/
def flipsMatchSpecUptoRow : OpenClaim := { program := "ytpccpkjfnmclfaa", sum := "bd558d9979e603c3b9054ad99c4fbc0ee83d498500fc62d59949bef8dc018bba", func := "perigee/perigeelaw4.FlipsMatchSpec", spec := "flipsMatchSpec", apart := false, narrowed := true }
def FlipsMatchSpecUptoSaid : Prop := flipsMatchSpecUptoRow.holds Try.pinned (OpenSpec.upto flipsMatchSpecSpec)

/-- 'perigeetop.TopPacketsThroughMemory', WHERE WHAT IT READS IS OF BULK AT MOST 1048576: true; the input reads as it did. -/
def topPacketsThroughMemoryUptoRow : OpenClaim := { program := "ytpccpkjfnmclfaa", sum := "bd558d9979e603c3b9054ad99c4fbc0ee83d498500fc62d59949bef8dc018bba", func := "perigee/perigeetop.TopPacketsThroughMemory", spec := "topPacketsThroughMemory", apart := false, narrowed := true }
def TopPacketsThroughMemoryUptoSaid : Prop := topPacketsThroughMemoryUptoRow.holds Try.pinned (OpenSpec.upto topPacketsThroughMemorySpec)

end Rows
end Go.Proofs.Ytpccpkjfnmclfaa
