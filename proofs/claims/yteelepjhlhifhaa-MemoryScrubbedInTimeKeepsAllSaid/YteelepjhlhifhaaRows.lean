/-
  No cell of these rows narrows 'for every input' (looked for: loops, veiled, ifaces, maps, wideKeys, modest, calm, conditions, laid).
  DERIVED. THE GIVEN ROWS OF THIS SEAT. 8 by the template 'for every input the law returns true; each argument reads behind the call as it read before'; 0 by the template 'total and deterministic' (their statements: YteelepjhlhifhaaTotals.lean).
  GIVEN WITH THE SEED: the statements are not yours to turn. If you find one false, say at which input.
  Laid BY PROGRAM, IN A SANDBOX (cutbox-rows.mjs): the forced cells as the released guide's own fill.sh prints them over the translation 4f135942a7127539… (all of the seat's roots in one cut). By AI agents, Wed Nov 11 2026. No macro, syntax, notation, axiom, sorry.
-/
import Derived.Test.YteelepjhlhifhaaChecked
import GoSem.Claim
import GoSem.ClaimJoined
import GoSem.ClaimMapViews
import Derived.JoinedTies
import Derived.KernelRfl
namespace Go.Proofs.Yteelepjhlhifhaa
/- THE CELL 'sum', in the pinned program and in every row, IS THE sha256 OF THE DUMP (.gsa) THAT YteelepjhlhifhaaProg.lean LOADS. Nothing in Lean hashes anything: it is a label: what it is worth is what the hold of that sum in a sandbox is worth. -/
noncomputable def Try.pinned : Pinned := { name := "yteelepjhlhifhaa", sum := "4f135942a7127539d5233f2b765058156f5a13282aa6d6b6f3d3458d0e2fcbc3", checked := Try.checked }
namespace Rows
def none {H : Type} : Left H := { results := [], args := [] }

/-- 'perigeelaw4.FormatsMatchSpec': WHATEVER THE INPUT: true; the input reads as it did. -/
def formatsMatchSpecSpec : ChangeSpec := { name := "formatsMatchSpec", fn := fun _ => fun
  | [d1, d2, d3, d4, d5] => { results := [.lit (.bool true)], args := [d1, d2, d3, d4, d5] }
  | _ => none }
def formatsMatchSpecRow : OpenClaim := { program := "yteelepjhlhifhaa", sum := "4f135942a7127539d5233f2b765058156f5a13282aa6d6b6f3d3458d0e2fcbc3", func := "perigee/perigeelaw4.FormatsMatchSpec", spec := "formatsMatchSpec", inPlace := ["internal/bytealg.MakeNoZero"], apart := false }
def FormatsMatchSpecSaid : Prop := formatsMatchSpecRow.holds Try.pinned (OpenSpec.ofChange formatsMatchSpecSpec)

/-- ITS FALSE NEIGHBOUR: 'it returns false'. Refute it at one input. -/
def formatsMatchSpecWrong : ChangeSpec := { name := "formatsMatchSpec", fn := fun _ => fun
  | [d1, d2, d3, d4, d5] => { results := [.lit (.bool false)], args := [d1, d2, d3, d4, d5] }
  | _ => none }
def FormatsMatchSpecWrongFalsely : Prop := formatsMatchSpecRow.holds Try.pinned (OpenSpec.ofChange formatsMatchSpecWrong)

/-- 'perigeelaw4.PagesMatchSpec': WHATEVER THE INPUT: true; the input reads as it did. -/
def pagesMatchSpecSpec : ChangeSpec := { name := "pagesMatchSpec", fn := fun _ => fun
  | [d1, d2, d3] => { results := [.lit (.bool true)], args := [d1, d2, d3] }
  | _ => none }
def pagesMatchSpecRow : OpenClaim := { program := "yteelepjhlhifhaa", sum := "4f135942a7127539d5233f2b765058156f5a13282aa6d6b6f3d3458d0e2fcbc3", func := "perigee/perigeelaw4.PagesMatchSpec", spec := "pagesMatchSpec", inPlace := ["internal/bytealg.Count", "internal/bytealg.IndexByte", "internal/bytealg.Index"], named := ["internal/bytealg.MaxLen"], apart := false }
def PagesMatchSpecSaid : Prop := pagesMatchSpecRow.holds Try.pinned (OpenSpec.ofChange pagesMatchSpecSpec)

/-- ITS FALSE NEIGHBOUR: 'it returns false'. Refute it at one input. -/
def pagesMatchSpecWrong : ChangeSpec := { name := "pagesMatchSpec", fn := fun _ => fun
  | [d1, d2, d3] => { results := [.lit (.bool false)], args := [d1, d2, d3] }
  | _ => none }
def PagesMatchSpecWrongFalsely : Prop := pagesMatchSpecRow.holds Try.pinned (OpenSpec.ofChange pagesMatchSpecWrong)

/-- 'perigeelaw4.PagesComeBack': WHATEVER THE INPUT: true; the input reads as it did. -/
def pagesComeBackSpec : ChangeSpec := { name := "pagesComeBack", fn := fun _ => fun
  | [d1, d2, d3] => { results := [.lit (.bool true)], args := [d1, d2, d3] }
  | _ => none }
def pagesComeBackRow : OpenClaim := { program := "yteelepjhlhifhaa", sum := "4f135942a7127539d5233f2b765058156f5a13282aa6d6b6f3d3458d0e2fcbc3", func := "perigee/perigeelaw4.PagesComeBack", spec := "pagesComeBack", inPlace := ["internal/bytealg.Count", "internal/bytealg.IndexByte", "internal/bytealg.Index"], named := ["internal/bytealg.MaxLen"], apart := false }
def PagesComeBackSaid : Prop := pagesComeBackRow.holds Try.pinned (OpenSpec.ofChange pagesComeBackSpec)

/-- ITS FALSE NEIGHBOUR: 'it returns false'. Refute it at one input. -/
def pagesComeBackWrong : ChangeSpec := { name := "pagesComeBack", fn := fun _ => fun
  | [d1, d2, d3] => { results := [.lit (.bool false)], args := [d1, d2, d3] }
  | _ => none }
def PagesComeBackWrongFalsely : Prop := pagesComeBackRow.holds Try.pinned (OpenSpec.ofChange pagesComeBackWrong)

/-- 'perigeelaw4.FlipsMatchSpec': WHATEVER THE INPUT: true; the input reads as it did. -/
def flipsMatchSpecSpec : ChangeSpec := { name := "flipsMatchSpec", fn := fun _ => fun
  | [d1, d2] => { results := [.lit (.bool true)], args := [d1, d2] }
  | _ => none }
def flipsMatchSpecRow : OpenClaim := { program := "yteelepjhlhifhaa", sum := "4f135942a7127539d5233f2b765058156f5a13282aa6d6b6f3d3458d0e2fcbc3", func := "perigee/perigeelaw4.FlipsMatchSpec", spec := "flipsMatchSpec", apart := false }
def FlipsMatchSpecSaid : Prop := flipsMatchSpecRow.holds Try.pinned (OpenSpec.ofChange flipsMatchSpecSpec)

/-- ITS FALSE NEIGHBOUR: 'it returns false'. Refute it at one input. -/
def flipsMatchSpecWrong : ChangeSpec := { name := "flipsMatchSpec", fn := fun _ => fun
  | [d1, d2] => { results := [.lit (.bool false)], args := [d1, d2] }
  | _ => none }
def FlipsMatchSpecWrongFalsely : Prop := flipsMatchSpecRow.holds Try.pinned (OpenSpec.ofChange flipsMatchSpecWrong)

/-- 'perigeetop.TopPacketsThroughMemory': WHATEVER THE INPUT: true; the input reads as it did. -/
def topPacketsThroughMemorySpec : ChangeSpec := { name := "topPacketsThroughMemory", fn := fun _ => fun
  | [d1, d2] => { results := [.lit (.bool true)], args := [d1, d2] }
  | _ => none }
def topPacketsThroughMemoryRow : OpenClaim := { program := "yteelepjhlhifhaa", sum := "4f135942a7127539d5233f2b765058156f5a13282aa6d6b6f3d3458d0e2fcbc3", func := "perigee/perigeetop.TopPacketsThroughMemory", spec := "topPacketsThroughMemory", apart := false }
def TopPacketsThroughMemorySaid : Prop := topPacketsThroughMemoryRow.holds Try.pinned (OpenSpec.ofChange topPacketsThroughMemorySpec)

/-- ITS FALSE NEIGHBOUR: 'it returns false'. Refute it at one input. -/
def topPacketsThroughMemoryWrong : ChangeSpec := { name := "topPacketsThroughMemory", fn := fun _ => fun
  | [d1, d2] => { results := [.lit (.bool false)], args := [d1, d2] }
  | _ => none }
def TopPacketsThroughMemoryWrongFalsely : Prop := topPacketsThroughMemoryRow.holds Try.pinned (OpenSpec.ofChange topPacketsThroughMemoryWrong)

/-- 'perigeelaw3.MemoryScrubbedInTimeKeepsAll': WHATEVER THE INPUT: true; the input reads as it did. -/
def memoryScrubbedInTimeKeepsAllSpec : ChangeSpec := { name := "memoryScrubbedInTimeKeepsAll", fn := fun _ => fun
  | [d1, d2, d3] => { results := [.lit (.bool true)], args := [d1, d2, d3] }
  | _ => none }
def memoryScrubbedInTimeKeepsAllRow : OpenClaim := { program := "yteelepjhlhifhaa", sum := "4f135942a7127539d5233f2b765058156f5a13282aa6d6b6f3d3458d0e2fcbc3", func := "perigee/perigeelaw3.MemoryScrubbedInTimeKeepsAll", spec := "memoryScrubbedInTimeKeepsAll", apart := false }
def MemoryScrubbedInTimeKeepsAllSaid : Prop := memoryScrubbedInTimeKeepsAllRow.holds Try.pinned (OpenSpec.ofChange memoryScrubbedInTimeKeepsAllSpec)

/-- ITS FALSE NEIGHBOUR: 'it returns false'. Refute it at one input. -/
def memoryScrubbedInTimeKeepsAllWrong : ChangeSpec := { name := "memoryScrubbedInTimeKeepsAll", fn := fun _ => fun
  | [d1, d2, d3] => { results := [.lit (.bool false)], args := [d1, d2, d3] }
  | _ => none }
def MemoryScrubbedInTimeKeepsAllWrongFalsely : Prop := memoryScrubbedInTimeKeepsAllRow.holds Try.pinned (OpenSpec.ofChange memoryScrubbedInTimeKeepsAllWrong)

/-- 'perigeelaw3.MemorySlowestMatchesSpec': WHATEVER THE INPUT: true; the input reads as it did. -/
def memorySlowestMatchesSpecSpec : ChangeSpec := { name := "memorySlowestMatchesSpec", fn := fun _ => fun
  | [d1, d2, d3, d4, d5] => { results := [.lit (.bool true)], args := [d1, d2, d3, d4, d5] }
  | _ => none }
def memorySlowestMatchesSpecRow : OpenClaim := { program := "yteelepjhlhifhaa", sum := "4f135942a7127539d5233f2b765058156f5a13282aa6d6b6f3d3458d0e2fcbc3", func := "perigee/perigeelaw3.MemorySlowestMatchesSpec", spec := "memorySlowestMatchesSpec", apart := false }
def MemorySlowestMatchesSpecSaid : Prop := memorySlowestMatchesSpecRow.holds Try.pinned (OpenSpec.ofChange memorySlowestMatchesSpecSpec)

/-- ITS FALSE NEIGHBOUR: 'it returns false'. Refute it at one input. -/
def memorySlowestMatchesSpecWrong : ChangeSpec := { name := "memorySlowestMatchesSpec", fn := fun _ => fun
  | [d1, d2, d3, d4, d5] => { results := [.lit (.bool false)], args := [d1, d2, d3, d4, d5] }
  | _ => none }
def MemorySlowestMatchesSpecWrongFalsely : Prop := memorySlowestMatchesSpecRow.holds Try.pinned (OpenSpec.ofChange memorySlowestMatchesSpecWrong)

/-- 'perigeelaw3.MemorySlowestIsSlowEnough': WHATEVER THE INPUT: true; the input reads as it did. -/
def memorySlowestIsSlowEnoughSpec : ChangeSpec := { name := "memorySlowestIsSlowEnough", fn := fun _ => fun
  | [d1, d2, d3, d4, d5] => { results := [.lit (.bool true)], args := [d1, d2, d3, d4, d5] }
  | _ => none }
def memorySlowestIsSlowEnoughRow : OpenClaim := { program := "yteelepjhlhifhaa", sum := "4f135942a7127539d5233f2b765058156f5a13282aa6d6b6f3d3458d0e2fcbc3", func := "perigee/perigeelaw3.MemorySlowestIsSlowEnough", spec := "memorySlowestIsSlowEnough", apart := false }
def MemorySlowestIsSlowEnoughSaid : Prop := memorySlowestIsSlowEnoughRow.holds Try.pinned (OpenSpec.ofChange memorySlowestIsSlowEnoughSpec)

/-- ITS FALSE NEIGHBOUR: 'it returns false'. Refute it at one input. -/
def memorySlowestIsSlowEnoughWrong : ChangeSpec := { name := "memorySlowestIsSlowEnough", fn := fun _ => fun
  | [d1, d2, d3, d4, d5] => { results := [.lit (.bool false)], args := [d1, d2, d3, d4, d5] }
  | _ => none }
def MemorySlowestIsSlowEnoughWrongFalsely : Prop := memorySlowestIsSlowEnoughRow.holds Try.pinned (OpenSpec.ofChange memorySlowestIsSlowEnoughWrong)

/- THE SECOND FORM. 'bulk': how many values and letters a reading holds, each counted each time it is reached (what is shared counts as often as it is met; a slice's spare places count too). A statement '..UptoSaid' is the law's where the arguments, and the package variables that the reading takes, are together of bulk at most 1048576: NARROWER than '..Said'. Prove '..Said' where nothing that the law and all that it calls make is longer than what came in: it says more and counts as full. Else prove '..UptoSaid'. A law counts once. -/
mutual
def uptoBulk {H : Type} : DataW H → Nat
  | .lit (.string bytes) => bytes.length + 1
  | .lit _ => 1
  | .nil => 1
  | .ptr d => uptoBulk d + 1
  | .slice elems spare => uptoBulkAll elems + uptoBulkAll spare + 1
  | .agg parts => uptoBulkAll parts + 1
  | .iface _ d => uptoBulk d + 1
  | .map entries => uptoBulkEntries entries + 1
  | .held _ => 1
def uptoBulkAll {H : Type} : List (DataW H) → Nat
  | [] => 0
  | d :: r => uptoBulk d + uptoBulkAll r
def uptoBulkEntries {H : Type} : List (Lit × DataW H) → Nat
  | [] => 0
  | x :: r => uptoBulkEntry x + uptoBulkEntries r
def uptoBulkEntry {H : Type} : Lit × DataW H → Nat
  | (.string bytes, d) => bytes.length + uptoBulk d + 1
  | (_, d) => uptoBulk d + 1
 end
def uptoSmall : (H : Type) → List (DataW H) → Bool := fun _ ds => decide (uptoBulkAll ds ≤ 1048576)
def OpenSpec.upto (s : _root_.Go.ChangeSpec) : _root_.Go.OpenSpec := { _root_.Go.OpenSpec.ofChange s with cond := some uptoSmall }

/-- 'perigeelaw4.FormatsMatchSpec', WHERE WHAT IT READS IS OF BULK AT MOST 1048576: true; the input reads as it did. -/
def formatsMatchSpecUptoRow : OpenClaim := { program := "yteelepjhlhifhaa", sum := "4f135942a7127539d5233f2b765058156f5a13282aa6d6b6f3d3458d0e2fcbc3", func := "perigee/perigeelaw4.FormatsMatchSpec", spec := "formatsMatchSpec", inPlace := ["internal/bytealg.MakeNoZero"], apart := false, narrowed := true }
def FormatsMatchSpecUptoSaid : Prop := formatsMatchSpecUptoRow.holds Try.pinned (OpenSpec.upto formatsMatchSpecSpec)

/-- 'perigeelaw4.PagesMatchSpec', WHERE WHAT IT READS IS OF BULK AT MOST 1048576: true; the input reads as it did. -/
def pagesMatchSpecUptoRow : OpenClaim := { program := "yteelepjhlhifhaa", sum := "4f135942a7127539d5233f2b765058156f5a13282aa6d6b6f3d3458d0e2fcbc3", func := "perigee/perigeelaw4.PagesMatchSpec", spec := "pagesMatchSpec", inPlace := ["internal/bytealg.Count", "internal/bytealg.IndexByte", "internal/bytealg.Index"], named := ["internal/bytealg.MaxLen"], apart := false, narrowed := true }
def PagesMatchSpecUptoSaid : Prop := pagesMatchSpecUptoRow.holds Try.pinned (OpenSpec.upto pagesMatchSpecSpec)

/-- 'perigeelaw4.PagesComeBack', WHERE WHAT IT READS IS OF BULK AT MOST 1048576: true; the input reads as it did. -/
def pagesComeBackUptoRow : OpenClaim := { program := "yteelepjhlhifhaa", sum := "4f135942a7127539d5233f2b765058156f5a13282aa6d6b6f3d3458d0e2fcbc3", func := "perigee/perigeelaw4.PagesComeBack", spec := "pagesComeBack", inPlace := ["internal/bytealg.Count", "internal/bytealg.IndexByte", "internal/bytealg.Index"], named := ["internal/bytealg.MaxLen"], apart := false, narrowed := true }
def PagesComeBackUptoSaid : Prop := pagesComeBackUptoRow.holds Try.pinned (OpenSpec.upto pagesComeBackSpec)

/-- 'perigeelaw4.FlipsMatchSpec', WHERE WHAT IT READS IS OF BULK AT MOST 1048576: true; the input reads as it did. -/
def flipsMatchSpecUptoRow : OpenClaim := { program := "yteelepjhlhifhaa", sum := "4f135942a7127539d5233f2b765058156f5a13282aa6d6b6f3d3458d0e2fcbc3", func := "perigee/perigeelaw4.FlipsMatchSpec", spec := "flipsMatchSpec", apart := false, narrowed := true }
def FlipsMatchSpecUptoSaid : Prop := flipsMatchSpecUptoRow.holds Try.pinned (OpenSpec.upto flipsMatchSpecSpec)

/-- 'perigeetop.TopPacketsThroughMemory', WHERE WHAT IT READS IS OF BULK AT MOST 1048576: true; the input reads as it did. -/
def topPacketsThroughMemoryUptoRow : OpenClaim := { program := "yteelepjhlhifhaa", sum := "4f135942a7127539d5233f2b765058156f5a13282aa6d6b6f3d3458d0e2fcbc3", func := "perigee/perigeetop.TopPacketsThroughMemory", spec := "topPacketsThroughMemory", apart := false, narrowed := true }
def TopPacketsThroughMemoryUptoSaid : Prop := topPacketsThroughMemoryUptoRow.holds Try.pinned (OpenSpec.upto topPacketsThroughMemorySpec)

/-- 'perigeelaw3.MemoryScrubbedInTimeKeepsAll', WHERE WHAT IT READS IS OF BULK AT MOST 1048576: true; the input reads as it did. -/
def memoryScrubbedInTimeKeepsAllUptoRow : OpenClaim := { program := "yteelepjhlhifhaa", sum := "4f135942a7127539d5233f2b765058156f5a13282aa6d6b6f3d3458d0e2fcbc3", func := "perigee/perigeelaw3.MemoryScrubbedInTimeKeepsAll", spec := "memoryScrubbedInTimeKeepsAll", apart := false, narrowed := true }
def MemoryScrubbedInTimeKeepsAllUptoSaid : Prop := memoryScrubbedInTimeKeepsAllUptoRow.holds Try.pinned (OpenSpec.upto memoryScrubbedInTimeKeepsAllSpec)

/-- 'perigeelaw3.MemorySlowestMatchesSpec', WHERE WHAT IT READS IS OF BULK AT MOST 1048576: true; the input reads as it did. -/
def memorySlowestMatchesSpecUptoRow : OpenClaim := { program := "yteelepjhlhifhaa", sum := "4f135942a7127539d5233f2b765058156f5a13282aa6d6b6f3d3458d0e2fcbc3", func := "perigee/perigeelaw3.MemorySlowestMatchesSpec", spec := "memorySlowestMatchesSpec", apart := false, narrowed := true }
def MemorySlowestMatchesSpecUptoSaid : Prop := memorySlowestMatchesSpecUptoRow.holds Try.pinned (OpenSpec.upto memorySlowestMatchesSpecSpec)

/-- 'perigeelaw3.MemorySlowestIsSlowEnough', WHERE WHAT IT READS IS OF BULK AT MOST 1048576: true; the input reads as it did. -/
def memorySlowestIsSlowEnoughUptoRow : OpenClaim := { program := "yteelepjhlhifhaa", sum := "4f135942a7127539d5233f2b765058156f5a13282aa6d6b6f3d3458d0e2fcbc3", func := "perigee/perigeelaw3.MemorySlowestIsSlowEnough", spec := "memorySlowestIsSlowEnough", apart := false, narrowed := true }
def MemorySlowestIsSlowEnoughUptoSaid : Prop := memorySlowestIsSlowEnoughUptoRow.holds Try.pinned (OpenSpec.upto memorySlowestIsSlowEnoughSpec)

end Rows
end Go.Proofs.Yteelepjhlhifhaa
