/-
  No cell of these rows narrows 'for every input' (looked for: loops, veiled, ifaces, maps, wideKeys, modest, calm, conditions, laid).
  DERIVED. THE GIVEN ROWS OF THIS SEAT. 13 by the template 'for every input the law returns true; each argument reads behind the call as it read before'; 0 by the template 'total and deterministic' (their statements: YtidddoldkedicaaTotals.lean).
  GIVEN WITH THE SEED: the statements are not yours to turn. If you find one false, say at which input.
  Laid BY PROGRAM, IN A SANDBOX (cutbox-rows.mjs): the forced cells as the released guide's own fill.sh prints them over the translation 8ac824ac703a5943… (all of the seat's roots in one cut). By AI agents, Wed Nov 11 2026. No macro, syntax, notation, axiom, sorry.
-/
import Derived.Test.YtidddoldkedicaaChecked
import GoSem.Claim
import GoSem.ClaimJoined
import GoSem.ClaimMapViews
import Derived.JoinedTies
import Derived.KernelRfl
namespace Go.Proofs.Ytidddoldkedicaa
/- THE CELL 'sum', in the pinned program and in every row, IS THE sha256 OF THE DUMP (.gsa) THAT YtidddoldkedicaaProg.lean LOADS. Nothing in Lean hashes anything: it is a label: what it is worth is what the hold of that sum in a sandbox is worth. -/
noncomputable def Try.pinned : Pinned := { name := "ytidddoldkedicaa", sum := "8ac824ac703a5943d1ffe73fcac37057f2dc7988cea46a08d4027b064b074e29", checked := Try.checked }
namespace Rows
def none {H : Type} : Left H := { results := [], args := [] }

/-- 'perigeelaw3.MemoryCodesMatchSpec': WHATEVER THE INPUT: true; the input reads as it did. -/
def memoryCodesMatchSpecSpec : ChangeSpec := { name := "memoryCodesMatchSpec", fn := fun _ => fun
  | [d1, d2] => { results := [.lit (.bool true)], args := [d1, d2] }
  | _ => none }
def memoryCodesMatchSpecRow : OpenClaim := { program := "ytidddoldkedicaa", sum := "8ac824ac703a5943d1ffe73fcac37057f2dc7988cea46a08d4027b064b074e29", func := "perigee/perigeelaw3.MemoryCodesMatchSpec", spec := "memoryCodesMatchSpec", apart := false }
def MemoryCodesMatchSpecSaid : Prop := memoryCodesMatchSpecRow.holds Try.pinned (OpenSpec.ofChange memoryCodesMatchSpecSpec)

/-- ITS FALSE NEIGHBOUR: 'it returns false'. Refute it at one input. -/
def memoryCodesMatchSpecWrong : ChangeSpec := { name := "memoryCodesMatchSpec", fn := fun _ => fun
  | [d1, d2] => { results := [.lit (.bool false)], args := [d1, d2] }
  | _ => none }
def MemoryCodesMatchSpecWrongFalsely : Prop := memoryCodesMatchSpecRow.holds Try.pinned (OpenSpec.ofChange memoryCodesMatchSpecWrong)

/-- 'perigeelaw3.MemoryOneFlipIsPutRight': WHATEVER THE INPUT: true; the input reads as it did. -/
def memoryOneFlipIsPutRightSpec : ChangeSpec := { name := "memoryOneFlipIsPutRight", fn := fun _ => fun
  | [d1, d2, d3] => { results := [.lit (.bool true)], args := [d1, d2, d3] }
  | _ => none }
def memoryOneFlipIsPutRightRow : OpenClaim := { program := "ytidddoldkedicaa", sum := "8ac824ac703a5943d1ffe73fcac37057f2dc7988cea46a08d4027b064b074e29", func := "perigee/perigeelaw3.MemoryOneFlipIsPutRight", spec := "memoryOneFlipIsPutRight", apart := false }
def MemoryOneFlipIsPutRightSaid : Prop := memoryOneFlipIsPutRightRow.holds Try.pinned (OpenSpec.ofChange memoryOneFlipIsPutRightSpec)

/-- ITS FALSE NEIGHBOUR: 'it returns false'. Refute it at one input. -/
def memoryOneFlipIsPutRightWrong : ChangeSpec := { name := "memoryOneFlipIsPutRight", fn := fun _ => fun
  | [d1, d2, d3] => { results := [.lit (.bool false)], args := [d1, d2, d3] }
  | _ => none }
def MemoryOneFlipIsPutRightWrongFalsely : Prop := memoryOneFlipIsPutRightRow.holds Try.pinned (OpenSpec.ofChange memoryOneFlipIsPutRightWrong)

/-- 'perigeelaw3.MemoryBanksMatchSpec': WHATEVER THE INPUT: true; the input reads as it did. -/
def memoryBanksMatchSpecSpec : ChangeSpec := { name := "memoryBanksMatchSpec", fn := fun _ => fun
  | [d1, d2, d3, d4] => { results := [.lit (.bool true)], args := [d1, d2, d3, d4] }
  | _ => none }
def memoryBanksMatchSpecRow : OpenClaim := { program := "ytidddoldkedicaa", sum := "8ac824ac703a5943d1ffe73fcac37057f2dc7988cea46a08d4027b064b074e29", func := "perigee/perigeelaw3.MemoryBanksMatchSpec", spec := "memoryBanksMatchSpec", apart := false }
def MemoryBanksMatchSpecSaid : Prop := memoryBanksMatchSpecRow.holds Try.pinned (OpenSpec.ofChange memoryBanksMatchSpecSpec)

/-- ITS FALSE NEIGHBOUR: 'it returns false'. Refute it at one input. -/
def memoryBanksMatchSpecWrong : ChangeSpec := { name := "memoryBanksMatchSpec", fn := fun _ => fun
  | [d1, d2, d3, d4] => { results := [.lit (.bool false)], args := [d1, d2, d3, d4] }
  | _ => none }
def MemoryBanksMatchSpecWrongFalsely : Prop := memoryBanksMatchSpecRow.holds Try.pinned (OpenSpec.ofChange memoryBanksMatchSpecWrong)

/-- 'perigeelaw3.MemoryWrittenIsRead': WHATEVER THE INPUT: true; the input reads as it did. -/
def memoryWrittenIsReadSpec : ChangeSpec := { name := "memoryWrittenIsRead", fn := fun _ => fun
  | [d1, d2, d3, d4] => { results := [.lit (.bool true)], args := [d1, d2, d3, d4] }
  | _ => none }
def memoryWrittenIsReadRow : OpenClaim := { program := "ytidddoldkedicaa", sum := "8ac824ac703a5943d1ffe73fcac37057f2dc7988cea46a08d4027b064b074e29", func := "perigee/perigeelaw3.MemoryWrittenIsRead", spec := "memoryWrittenIsRead", apart := false }
def MemoryWrittenIsReadSaid : Prop := memoryWrittenIsReadRow.holds Try.pinned (OpenSpec.ofChange memoryWrittenIsReadSpec)

/-- ITS FALSE NEIGHBOUR: 'it returns false'. Refute it at one input. -/
def memoryWrittenIsReadWrong : ChangeSpec := { name := "memoryWrittenIsRead", fn := fun _ => fun
  | [d1, d2, d3, d4] => { results := [.lit (.bool false)], args := [d1, d2, d3, d4] }
  | _ => none }
def MemoryWrittenIsReadWrongFalsely : Prop := memoryWrittenIsReadRow.holds Try.pinned (OpenSpec.ofChange memoryWrittenIsReadWrong)

/-- 'perigeelaw3.MemoryScrubbedMatchesSpec': WHATEVER THE INPUT: true; the input reads as it did. -/
def memoryScrubbedMatchesSpecSpec : ChangeSpec := { name := "memoryScrubbedMatchesSpec", fn := fun _ => fun
  | [d1, d2, d3] => { results := [.lit (.bool true)], args := [d1, d2, d3] }
  | _ => none }
def memoryScrubbedMatchesSpecRow : OpenClaim := { program := "ytidddoldkedicaa", sum := "8ac824ac703a5943d1ffe73fcac37057f2dc7988cea46a08d4027b064b074e29", func := "perigee/perigeelaw3.MemoryScrubbedMatchesSpec", spec := "memoryScrubbedMatchesSpec", apart := false }
def MemoryScrubbedMatchesSpecSaid : Prop := memoryScrubbedMatchesSpecRow.holds Try.pinned (OpenSpec.ofChange memoryScrubbedMatchesSpecSpec)

/-- ITS FALSE NEIGHBOUR: 'it returns false'. Refute it at one input. -/
def memoryScrubbedMatchesSpecWrong : ChangeSpec := { name := "memoryScrubbedMatchesSpec", fn := fun _ => fun
  | [d1, d2, d3] => { results := [.lit (.bool false)], args := [d1, d2, d3] }
  | _ => none }
def MemoryScrubbedMatchesSpecWrongFalsely : Prop := memoryScrubbedMatchesSpecRow.holds Try.pinned (OpenSpec.ofChange memoryScrubbedMatchesSpecWrong)

/-- 'perigeelaw3.MemoryScrubbedReadsTheSame': WHATEVER THE INPUT: true; the input reads as it did. -/
def memoryScrubbedReadsTheSameSpec : ChangeSpec := { name := "memoryScrubbedReadsTheSame", fn := fun _ => fun
  | [d1, d2, d3] => { results := [.lit (.bool true)], args := [d1, d2, d3] }
  | _ => none }
def memoryScrubbedReadsTheSameRow : OpenClaim := { program := "ytidddoldkedicaa", sum := "8ac824ac703a5943d1ffe73fcac37057f2dc7988cea46a08d4027b064b074e29", func := "perigee/perigeelaw3.MemoryScrubbedReadsTheSame", spec := "memoryScrubbedReadsTheSame", apart := false }
def MemoryScrubbedReadsTheSameSaid : Prop := memoryScrubbedReadsTheSameRow.holds Try.pinned (OpenSpec.ofChange memoryScrubbedReadsTheSameSpec)

/-- ITS FALSE NEIGHBOUR: 'it returns false'. Refute it at one input. -/
def memoryScrubbedReadsTheSameWrong : ChangeSpec := { name := "memoryScrubbedReadsTheSame", fn := fun _ => fun
  | [d1, d2, d3] => { results := [.lit (.bool false)], args := [d1, d2, d3] }
  | _ => none }
def MemoryScrubbedReadsTheSameWrongFalsely : Prop := memoryScrubbedReadsTheSameRow.holds Try.pinned (OpenSpec.ofChange memoryScrubbedReadsTheSameWrong)

/-- 'perigeelaw3.MemoryRoundsMatchSpec': WHATEVER THE INPUT: true; the input reads as it did. -/
def memoryRoundsMatchSpecSpec : ChangeSpec := { name := "memoryRoundsMatchSpec", fn := fun _ => fun
  | [d1, d2, d3, d4] => { results := [.lit (.bool true)], args := [d1, d2, d3, d4] }
  | _ => none }
def memoryRoundsMatchSpecRow : OpenClaim := { program := "ytidddoldkedicaa", sum := "8ac824ac703a5943d1ffe73fcac37057f2dc7988cea46a08d4027b064b074e29", func := "perigee/perigeelaw3.MemoryRoundsMatchSpec", spec := "memoryRoundsMatchSpec", apart := false }
def MemoryRoundsMatchSpecSaid : Prop := memoryRoundsMatchSpecRow.holds Try.pinned (OpenSpec.ofChange memoryRoundsMatchSpecSpec)

/-- ITS FALSE NEIGHBOUR: 'it returns false'. Refute it at one input. -/
def memoryRoundsMatchSpecWrong : ChangeSpec := { name := "memoryRoundsMatchSpec", fn := fun _ => fun
  | [d1, d2, d3, d4] => { results := [.lit (.bool false)], args := [d1, d2, d3, d4] }
  | _ => none }
def MemoryRoundsMatchSpecWrongFalsely : Prop := memoryRoundsMatchSpecRow.holds Try.pinned (OpenSpec.ofChange memoryRoundsMatchSpecWrong)

/-- 'perigeelaw3.MemoryLostMatchesSpec': WHATEVER THE INPUT: true; the input reads as it did. -/
def memoryLostMatchesSpecSpec : ChangeSpec := { name := "memoryLostMatchesSpec", fn := fun _ => fun
  | [d1, d2, d3, d4] => { results := [.lit (.bool true)], args := [d1, d2, d3, d4] }
  | _ => none }
def memoryLostMatchesSpecRow : OpenClaim := { program := "ytidddoldkedicaa", sum := "8ac824ac703a5943d1ffe73fcac37057f2dc7988cea46a08d4027b064b074e29", func := "perigee/perigeelaw3.MemoryLostMatchesSpec", spec := "memoryLostMatchesSpec", apart := false }
def MemoryLostMatchesSpecSaid : Prop := memoryLostMatchesSpecRow.holds Try.pinned (OpenSpec.ofChange memoryLostMatchesSpecSpec)

/-- ITS FALSE NEIGHBOUR: 'it returns false'. Refute it at one input. -/
def memoryLostMatchesSpecWrong : ChangeSpec := { name := "memoryLostMatchesSpec", fn := fun _ => fun
  | [d1, d2, d3, d4] => { results := [.lit (.bool false)], args := [d1, d2, d3, d4] }
  | _ => none }
def MemoryLostMatchesSpecWrongFalsely : Prop := memoryLostMatchesSpecRow.holds Try.pinned (OpenSpec.ofChange memoryLostMatchesSpecWrong)

/-- 'perigeelaw3.MemoryScrubbedInTimeKeepsAll': WHATEVER THE INPUT: true; the input reads as it did. -/
def memoryScrubbedInTimeKeepsAllSpec : ChangeSpec := { name := "memoryScrubbedInTimeKeepsAll", fn := fun _ => fun
  | [d1, d2, d3] => { results := [.lit (.bool true)], args := [d1, d2, d3] }
  | _ => none }
def memoryScrubbedInTimeKeepsAllRow : OpenClaim := { program := "ytidddoldkedicaa", sum := "8ac824ac703a5943d1ffe73fcac37057f2dc7988cea46a08d4027b064b074e29", func := "perigee/perigeelaw3.MemoryScrubbedInTimeKeepsAll", spec := "memoryScrubbedInTimeKeepsAll", apart := false }
def MemoryScrubbedInTimeKeepsAllSaid : Prop := memoryScrubbedInTimeKeepsAllRow.holds Try.pinned (OpenSpec.ofChange memoryScrubbedInTimeKeepsAllSpec)

/-- ITS FALSE NEIGHBOUR: 'it returns false'. Refute it at one input. -/
def memoryScrubbedInTimeKeepsAllWrong : ChangeSpec := { name := "memoryScrubbedInTimeKeepsAll", fn := fun _ => fun
  | [d1, d2, d3] => { results := [.lit (.bool false)], args := [d1, d2, d3] }
  | _ => none }
def MemoryScrubbedInTimeKeepsAllWrongFalsely : Prop := memoryScrubbedInTimeKeepsAllRow.holds Try.pinned (OpenSpec.ofChange memoryScrubbedInTimeKeepsAllWrong)

/-- 'perigeelaw3.MemorySlowestMatchesSpec': WHATEVER THE INPUT: true; the input reads as it did. -/
def memorySlowestMatchesSpecSpec : ChangeSpec := { name := "memorySlowestMatchesSpec", fn := fun _ => fun
  | [d1, d2, d3, d4, d5] => { results := [.lit (.bool true)], args := [d1, d2, d3, d4, d5] }
  | _ => none }
def memorySlowestMatchesSpecRow : OpenClaim := { program := "ytidddoldkedicaa", sum := "8ac824ac703a5943d1ffe73fcac37057f2dc7988cea46a08d4027b064b074e29", func := "perigee/perigeelaw3.MemorySlowestMatchesSpec", spec := "memorySlowestMatchesSpec", apart := false }
def MemorySlowestMatchesSpecSaid : Prop := memorySlowestMatchesSpecRow.holds Try.pinned (OpenSpec.ofChange memorySlowestMatchesSpecSpec)

/-- ITS FALSE NEIGHBOUR: 'it returns false'. Refute it at one input. -/
def memorySlowestMatchesSpecWrong : ChangeSpec := { name := "memorySlowestMatchesSpec", fn := fun _ => fun
  | [d1, d2, d3, d4, d5] => { results := [.lit (.bool false)], args := [d1, d2, d3, d4, d5] }
  | _ => none }
def MemorySlowestMatchesSpecWrongFalsely : Prop := memorySlowestMatchesSpecRow.holds Try.pinned (OpenSpec.ofChange memorySlowestMatchesSpecWrong)

/-- 'perigeelaw3.MemorySlowestIsSlowEnough': WHATEVER THE INPUT: true; the input reads as it did. -/
def memorySlowestIsSlowEnoughSpec : ChangeSpec := { name := "memorySlowestIsSlowEnough", fn := fun _ => fun
  | [d1, d2, d3, d4, d5] => { results := [.lit (.bool true)], args := [d1, d2, d3, d4, d5] }
  | _ => none }
def memorySlowestIsSlowEnoughRow : OpenClaim := { program := "ytidddoldkedicaa", sum := "8ac824ac703a5943d1ffe73fcac37057f2dc7988cea46a08d4027b064b074e29", func := "perigee/perigeelaw3.MemorySlowestIsSlowEnough", spec := "memorySlowestIsSlowEnough", apart := false }
def MemorySlowestIsSlowEnoughSaid : Prop := memorySlowestIsSlowEnoughRow.holds Try.pinned (OpenSpec.ofChange memorySlowestIsSlowEnoughSpec)

/-- ITS FALSE NEIGHBOUR: 'it returns false'. Refute it at one input. -/
def memorySlowestIsSlowEnoughWrong : ChangeSpec := { name := "memorySlowestIsSlowEnough", fn := fun _ => fun
  | [d1, d2, d3, d4, d5] => { results := [.lit (.bool false)], args := [d1, d2, d3, d4, d5] }
  | _ => none }
def MemorySlowestIsSlowEnoughWrongFalsely : Prop := memorySlowestIsSlowEnoughRow.holds Try.pinned (OpenSpec.ofChange memorySlowestIsSlowEnoughWrong)

/-- 'perigeelaw3.MemoryVotedMatchesSpec': WHATEVER THE INPUT: true; the input reads as it did. -/
def memoryVotedMatchesSpecSpec : ChangeSpec := { name := "memoryVotedMatchesSpec", fn := fun _ => fun
  | [d1, d2, d3] => { results := [.lit (.bool true)], args := [d1, d2, d3] }
  | _ => none }
def memoryVotedMatchesSpecRow : OpenClaim := { program := "ytidddoldkedicaa", sum := "8ac824ac703a5943d1ffe73fcac37057f2dc7988cea46a08d4027b064b074e29", func := "perigee/perigeelaw3.MemoryVotedMatchesSpec", spec := "memoryVotedMatchesSpec", apart := false }
def MemoryVotedMatchesSpecSaid : Prop := memoryVotedMatchesSpecRow.holds Try.pinned (OpenSpec.ofChange memoryVotedMatchesSpecSpec)

/-- ITS FALSE NEIGHBOUR: 'it returns false'. Refute it at one input. -/
def memoryVotedMatchesSpecWrong : ChangeSpec := { name := "memoryVotedMatchesSpec", fn := fun _ => fun
  | [d1, d2, d3] => { results := [.lit (.bool false)], args := [d1, d2, d3] }
  | _ => none }
def MemoryVotedMatchesSpecWrongFalsely : Prop := memoryVotedMatchesSpecRow.holds Try.pinned (OpenSpec.ofChange memoryVotedMatchesSpecWrong)

/-- 'perigeelaw3.MemoryTwoOutvoteOne': WHATEVER THE INPUT: true; the input reads as it did. -/
def memoryTwoOutvoteOneSpec : ChangeSpec := { name := "memoryTwoOutvoteOne", fn := fun _ => fun
  | [d1, d2] => { results := [.lit (.bool true)], args := [d1, d2] }
  | _ => none }
def memoryTwoOutvoteOneRow : OpenClaim := { program := "ytidddoldkedicaa", sum := "8ac824ac703a5943d1ffe73fcac37057f2dc7988cea46a08d4027b064b074e29", func := "perigee/perigeelaw3.MemoryTwoOutvoteOne", spec := "memoryTwoOutvoteOne", apart := false }
def MemoryTwoOutvoteOneSaid : Prop := memoryTwoOutvoteOneRow.holds Try.pinned (OpenSpec.ofChange memoryTwoOutvoteOneSpec)

/-- ITS FALSE NEIGHBOUR: 'it returns false'. Refute it at one input. -/
def memoryTwoOutvoteOneWrong : ChangeSpec := { name := "memoryTwoOutvoteOne", fn := fun _ => fun
  | [d1, d2] => { results := [.lit (.bool false)], args := [d1, d2] }
  | _ => none }
def MemoryTwoOutvoteOneWrongFalsely : Prop := memoryTwoOutvoteOneRow.holds Try.pinned (OpenSpec.ofChange memoryTwoOutvoteOneWrong)

/- THE SECOND FORM. 'bulk': how many values and letters a reading holds, each counted each time it is reached (what is shared counts as often as it is met; a slice's spare places count too). A statement '..UptoSaid' is the law's where the arguments, and the package variables that the reading takes, are together of bulk at most 1048576: NARROWER than '..Said'. Prove '..Said' where nothing that the law and all that it calls make is longer than what came in: it says more and counts as full. Else prove '..UptoSaid'. A law counts once. -/
mutual
def uptoBulk {H : Type} : DataW H → Nat
  | .lit (.string bytes) => bytes.length + 1
  | .lit _ => 1
  | .nil => 1
  | .ptr d => uptoBulk d + 1
  | .slice elems spare => uptoBulkAll elems + uptoBulkAll spare + 1
  | .agg parts => uptoBulkAll parts + 1
  | .iface _ d => uptoBulk d + 1
  | .map entries => uptoBulkEntries entries + 1
  | .held _ => 1
def uptoBulkAll {H : Type} : List (DataW H) → Nat
  | [] => 0
  | d :: r => uptoBulk d + uptoBulkAll r
def uptoBulkEntries {H : Type} : List (Lit × DataW H) → Nat
  | [] => 0
  | x :: r => uptoBulkEntry x + uptoBulkEntries r
def uptoBulkEntry {H : Type} : Lit × DataW H → Nat
  | (.string bytes, d) => bytes.length + uptoBulk d + 1
  | (_, d) => uptoBulk d + 1
 end
def uptoSmall : (H : Type) → List (DataW H) → Bool := fun _ ds => decide (uptoBulkAll ds ≤ 1048576)
def OpenSpec.upto (s : _root_.Go.ChangeSpec) : _root_.Go.OpenSpec := { _root_.Go.OpenSpec.ofChange s with cond := some uptoSmall }

/-- 'perigeelaw3.MemoryCodesMatchSpec', WHERE WHAT IT READS IS OF BULK AT MOST 1048576: true; the input reads as it did. -/
def memoryCodesMatchSpecUptoRow : OpenClaim := { program := "ytidddoldkedicaa", sum := "8ac824ac703a5943d1ffe73fcac37057f2dc7988cea46a08d4027b064b074e29", func := "perigee/perigeelaw3.MemoryCodesMatchSpec", spec := "memoryCodesMatchSpec", apart := false, narrowed := true }
def MemoryCodesMatchSpecUptoSaid : Prop := memoryCodesMatchSpecUptoRow.holds Try.pinned (OpenSpec.upto memoryCodesMatchSpecSpec)

/-- 'perigeelaw3.MemoryOneFlipIsPutRight', WHERE WHAT IT READS IS OF BULK AT MOST 1048576: true; the input reads as it did. -/
def memoryOneFlipIsPutRightUptoRow : OpenClaim := { program := "ytidddoldkedicaa", sum := "8ac824ac703a5943d1ffe73fcac37057f2dc7988cea46a08d4027b064b074e29", func := "perigee/perigeelaw3.MemoryOneFlipIsPutRight", spec := "memoryOneFlipIsPutRight", apart := false, narrowed := true }
def MemoryOneFlipIsPutRightUptoSaid : Prop := memoryOneFlipIsPutRightUptoRow.holds Try.pinned (OpenSpec.upto memoryOneFlipIsPutRightSpec)

/-- 'perigeelaw3.MemoryBanksMatchSpec', WHERE WHAT IT READS IS OF BULK AT MOST 1048576: true; the input reads as it did. -/
def memoryBanksMatchSpecUptoRow : OpenClaim := { program := "ytidddoldkedicaa", sum := "8ac824ac703a5943d1ffe73fcac37057f2dc7988cea46a08d4027b064b074e29", func := "perigee/perigeelaw3.MemoryBanksMatchSpec", spec := "memoryBanksMatchSpec", apart := false, narrowed := true }
def MemoryBanksMatchSpecUptoSaid : Prop := memoryBanksMatchSpecUptoRow.holds Try.pinned (OpenSpec.upto memoryBanksMatchSpecSpec)

/-- 'perigeelaw3.MemoryWrittenIsRead', WHERE WHAT IT READS IS OF BULK AT MOST 1048576: true; the input reads as it did. -/
def memoryWrittenIsReadUptoRow : OpenClaim := { program := "ytidddoldkedicaa", sum := "8ac824ac703a5943d1ffe73fcac37057f2dc7988cea46a08d4027b064b074e29", func := "perigee/perigeelaw3.MemoryWrittenIsRead", spec := "memoryWrittenIsRead", apart := false, narrowed := true }
def MemoryWrittenIsReadUptoSaid : Prop := memoryWrittenIsReadUptoRow.holds Try.pinned (OpenSpec.upto memoryWrittenIsReadSpec)

/-- 'perigeelaw3.MemoryScrubbedMatchesSpec', WHERE WHAT IT READS IS OF BULK AT MOST 1048576: true; the input reads as it did. -/
def memoryScrubbedMatchesSpecUptoRow : OpenClaim := { program := "ytidddoldkedicaa", sum := "8ac824ac703a5943d1ffe73fcac37057f2dc7988cea46a08d4027b064b074e29", func := "perigee/perigeelaw3.MemoryScrubbedMatchesSpec", spec := "memoryScrubbedMatchesSpec", apart := false, narrowed := true }
def MemoryScrubbedMatchesSpecUptoSaid : Prop := memoryScrubbedMatchesSpecUptoRow.holds Try.pinned (OpenSpec.upto memoryScrubbedMatchesSpecSpec)

/-- 'perigeelaw3.MemoryScrubbedReadsTheSame', WHERE WHAT IT READS IS OF BULK AT MOST 1048576: true; the input reads as it did. -/
def memoryScrubbedReadsTheSameUptoRow : OpenClaim := { program := "ytidddoldkedicaa", sum := "8ac824ac703a5943d1ffe73fcac37057f2dc7988cea46a08d4027b064b074e29", func := "perigee/perigeelaw3.MemoryScrubbedReadsTheSame", spec := "memoryScrubbedReadsTheSame", apart := false, narrowed := true }
def MemoryScrubbedReadsTheSameUptoSaid : Prop := memoryScrubbedReadsTheSameUptoRow.holds Try.pinned (OpenSpec.upto memoryScrubbedReadsTheSameSpec)

/-- 'perigeelaw3.MemoryRoundsMatchSpec', WHERE WHAT IT READS IS OF BULK AT MOST 1048576: true; the input reads as it did. -/
def memoryRoundsMatchSpecUptoRow : OpenClaim := { program := "ytidddoldkedicaa", sum := "8ac824ac703a5943d1ffe73fcac37057f2dc7988cea46a08d4027b064b074e29", func := "perigee/perigeelaw3.MemoryRoundsMatchSpec", spec := "memoryRoundsMatchSpec", apart := false, narrowed := true }
def MemoryRoundsMatchSpecUptoSaid : Prop := memoryRoundsMatchSpecUptoRow.holds Try.pinned (OpenSpec.upto memoryRoundsMatchSpecSpec)

/-- 'perigeelaw3.MemoryLostMatchesSpec', WHERE WHAT IT READS IS OF BULK AT MOST 1048576: true; the input reads as it did. -/
def memoryLostMatchesSpecUptoRow : OpenClaim := { program := "ytidddoldkedicaa", sum := "8ac824ac703a5943d1ffe73fcac37057f2dc7988cea46a08d4027b064b074e29", func := "perigee/perigeelaw3.MemoryLostMatchesSpec", spec := "memoryLostMatchesSpec", apart := false, narrowed := true }
def MemoryLostMatchesSpecUptoSaid : Prop := memoryLostMatchesSpecUptoRow.holds Try.pinned (OpenSpec.upto memoryLostMatchesSpecSpec)

/-- 'perigeelaw3.MemoryScrubbedInTimeKeepsAll', WHERE WHAT IT READS IS OF BULK AT MOST 1048576: true; the input reads as it did. -/
def memoryScrubbedInTimeKeepsAllUptoRow : OpenClaim := { program := "ytidddoldkedicaa", sum := "8ac824ac703a5943d1ffe73fcac37057f2dc7988cea46a08d4027b064b074e29", func := "perigee/perigeelaw3.MemoryScrubbedInTimeKeepsAll", spec := "memoryScrubbedInTimeKeepsAll", apart := false, narrowed := true }
def MemoryScrubbedInTimeKeepsAllUptoSaid : Prop := memoryScrubbedInTimeKeepsAllUptoRow.holds Try.pinned (OpenSpec.upto memoryScrubbedInTimeKeepsAllSpec)

/-- 'perigeelaw3.MemorySlowestMatchesSpec', WHERE WHAT IT READS IS OF BULK AT MOST 1048576: true; the input reads as it did. -/
def memorySlowestMatchesSpecUptoRow : OpenClaim := { program := "ytidddoldkedicaa", sum := "8ac824ac703a5943d1ffe73fcac37057f2dc7988cea46a08d4027b064b074e29", func := "perigee/perigeelaw3.MemorySlowestMatchesSpec", spec := "memorySlowestMatchesSpec", apart := false, narrowed := true }
def MemorySlowestMatchesSpecUptoSaid : Prop := memorySlowestMatchesSpecUptoRow.holds Try.pinned (OpenSpec.upto memorySlowestMatchesSpecSpec)

/-- 'perigeelaw3.MemorySlowestIsSlowEnough', WHERE WHAT IT READS IS OF BULK AT MOST 1048576: true; the input reads as it did. -/
def memorySlowestIsSlowEnoughUptoRow : OpenClaim := { program := "ytidddoldkedicaa", sum := "8ac824ac703a5943d1ffe73fcac37057f2dc7988cea46a08d4027b064b074e29", func := "perigee/perigeelaw3.MemorySlowestIsSlowEnough", spec := "memorySlowestIsSlowEnough", apart := false, narrowed := true }
def MemorySlowestIsSlowEnoughUptoSaid : Prop := memorySlowestIsSlowEnoughUptoRow.holds Try.pinned (OpenSpec.upto memorySlowestIsSlowEnoughSpec)

/-- 'perigeelaw3.MemoryVotedMatchesSpec', WHERE WHAT IT READS IS OF BULK AT MOST 1048576: true; the input reads as it did. -/
def memoryVotedMatchesSpecUptoRow : OpenClaim := { program := "ytidddoldkedicaa", sum := "8ac824ac703a5943d1ffe73fcac37057f2dc7988cea46a08d4027b064b074e29", func := "perigee/perigeelaw3.MemoryVotedMatchesSpec", spec := "memoryVotedMatchesSpec", apart := false, narrowed := true }
def MemoryVotedMatchesSpecUptoSaid : Prop := memoryVotedMatchesSpecUptoRow.holds Try.pinned (OpenSpec.upto memoryVotedMatchesSpecSpec)

/-- 'perigeelaw3.MemoryTwoOutvoteOne', WHERE WHAT IT READS IS OF BULK AT MOST 1048576: true; the input reads as it did. -/
def memoryTwoOutvoteOneUptoRow : OpenClaim := { program := "ytidddoldkedicaa", sum := "8ac824ac703a5943d1ffe73fcac37057f2dc7988cea46a08d4027b064b074e29", func := "perigee/perigeelaw3.MemoryTwoOutvoteOne", spec := "memoryTwoOutvoteOne", apart := false, narrowed := true }
def MemoryTwoOutvoteOneUptoSaid : Prop := memoryTwoOutvoteOneUptoRow.holds Try.pinned (OpenSpec.upto memoryTwoOutvoteOneSpec)

end Rows
end Go.Proofs.Ytidddoldkedicaa
