/-
  No cell of these rows narrows 'for every input' (looked for: loops, veiled, ifaces, maps, wideKeys, modest, calm, conditions, laid).
  DERIVED. THE GIVEN ROWS OF THIS SEAT. 7 by the template 'for every input the law returns true; each argument reads behind the call as it read before'; 0 by the template 'total and deterministic' (their statements: YtdcnpbdkhcdinaaTotals.lean).
  GIVEN WITH THE SEED: the statements are not yours to turn. If you find one false, say at which input.
  Laid BY PROGRAM, IN A SANDBOX (cutbox-rows.mjs): the forced cells as the released guide's own fill.sh prints them over the translation 846bd1a2e203e31a… (all of the seat's roots in one cut). By AI agents, Wed Nov 11 2026. No macro, syntax, notation, axiom, sorry.
-/
import Derived.Test.YtdcnpbdkhcdinaaChecked
import GoSem.Claim
import GoSem.ClaimJoined
import GoSem.ClaimMapViews
import Derived.JoinedTies
import Derived.KernelRfl
namespace Go.Proofs.Ytdcnpbdkhcdinaa
/- THE CELL 'sum', in the pinned program and in every row, IS THE sha256 OF THE DUMP (.gsa) THAT YtdcnpbdkhcdinaaProg.lean LOADS. Nothing in Lean hashes anything: it is a label: what it is worth is what the hold of that sum in a sandbox is worth. -/
noncomputable def Try.pinned : Pinned := { name := "ytdcnpbdkhcdinaa", sum := "846bd1a2e203e31a9d0bd5d1e694cda529219f16d031250bc828e519ae960bbb", checked := Try.checked }
namespace Rows
def none {H : Type} : Left H := { results := [], args := [] }

/-- 'perigeelaw7.TelemetrySqueezedMatchesSpec': WHATEVER THE INPUT: true; the input reads as it did. -/
def telemetrySqueezedMatchesSpecSpec : ChangeSpec := { name := "telemetrySqueezedMatchesSpec", fn := fun _ => fun
  | [d1, d2] => { results := [.lit (.bool true)], args := [d1, d2] }
  | _ => none }
def telemetrySqueezedMatchesSpecRow : OpenClaim := { program := "ytdcnpbdkhcdinaa", sum := "846bd1a2e203e31a9d0bd5d1e694cda529219f16d031250bc828e519ae960bbb", func := "perigee/perigeelaw7.TelemetrySqueezedMatchesSpec", spec := "telemetrySqueezedMatchesSpec", unfollowed := true, recurses := true, apart := false }
def TelemetrySqueezedMatchesSpecSaid : Prop := telemetrySqueezedMatchesSpecRow.holds Try.pinned (OpenSpec.ofChange telemetrySqueezedMatchesSpecSpec)

/-- ITS FALSE NEIGHBOUR: 'it returns false'. Refute it at one input. -/
def telemetrySqueezedMatchesSpecWrong : ChangeSpec := { name := "telemetrySqueezedMatchesSpec", fn := fun _ => fun
  | [d1, d2] => { results := [.lit (.bool false)], args := [d1, d2] }
  | _ => none }
def TelemetrySqueezedMatchesSpecWrongFalsely : Prop := telemetrySqueezedMatchesSpecRow.holds Try.pinned (OpenSpec.ofChange telemetrySqueezedMatchesSpecWrong)

/-- 'perigeelaw7.TelemetrySqueezedComesBack': WHATEVER THE INPUT: true; the input reads as it did. -/
def telemetrySqueezedComesBackSpec : ChangeSpec := { name := "telemetrySqueezedComesBack", fn := fun _ => fun
  | [d1, d2] => { results := [.lit (.bool true)], args := [d1, d2] }
  | _ => none }
def telemetrySqueezedComesBackRow : OpenClaim := { program := "ytdcnpbdkhcdinaa", sum := "846bd1a2e203e31a9d0bd5d1e694cda529219f16d031250bc828e519ae960bbb", func := "perigee/perigeelaw7.TelemetrySqueezedComesBack", spec := "telemetrySqueezedComesBack", unfollowed := true, recurses := true, apart := false }
def TelemetrySqueezedComesBackSaid : Prop := telemetrySqueezedComesBackRow.holds Try.pinned (OpenSpec.ofChange telemetrySqueezedComesBackSpec)

/-- ITS FALSE NEIGHBOUR: 'it returns false'. Refute it at one input. -/
def telemetrySqueezedComesBackWrong : ChangeSpec := { name := "telemetrySqueezedComesBack", fn := fun _ => fun
  | [d1, d2] => { results := [.lit (.bool false)], args := [d1, d2] }
  | _ => none }
def TelemetrySqueezedComesBackWrongFalsely : Prop := telemetrySqueezedComesBackRow.holds Try.pinned (OpenSpec.ofChange telemetrySqueezedComesBackWrong)

/-- 'perigeelaw7.TelemetryThinnedIsNear': WHATEVER THE INPUT: true; the input reads as it did. -/
def telemetryThinnedIsNearSpec : ChangeSpec := { name := "telemetryThinnedIsNear", fn := fun _ => fun
  | [d1, d2] => { results := [.lit (.bool true)], args := [d1, d2] }
  | _ => none }
def telemetryThinnedIsNearRow : OpenClaim := { program := "ytdcnpbdkhcdinaa", sum := "846bd1a2e203e31a9d0bd5d1e694cda529219f16d031250bc828e519ae960bbb", func := "perigee/perigeelaw7.TelemetryThinnedIsNear", spec := "telemetryThinnedIsNear", apart := false }
def TelemetryThinnedIsNearSaid : Prop := telemetryThinnedIsNearRow.holds Try.pinned (OpenSpec.ofChange telemetryThinnedIsNearSpec)

/-- ITS FALSE NEIGHBOUR: 'it returns false'. Refute it at one input. -/
def telemetryThinnedIsNearWrong : ChangeSpec := { name := "telemetryThinnedIsNear", fn := fun _ => fun
  | [d1, d2] => { results := [.lit (.bool false)], args := [d1, d2] }
  | _ => none }
def TelemetryThinnedIsNearWrongFalsely : Prop := telemetryThinnedIsNearRow.holds Try.pinned (OpenSpec.ofChange telemetryThinnedIsNearWrong)

/-- 'perigeelaw2.MarksMatchSpec': WHATEVER THE INPUT: true; the input reads as it did. -/
def marksMatchSpecSpec : ChangeSpec := { name := "marksMatchSpec", fn := fun _ => fun
  | [d1, d2, d3] => { results := [.lit (.bool true)], args := [d1, d2, d3] }
  | _ => none }
def marksMatchSpecRow : OpenClaim := { program := "ytdcnpbdkhcdinaa", sum := "846bd1a2e203e31a9d0bd5d1e694cda529219f16d031250bc828e519ae960bbb", func := "perigee/perigeelaw2.MarksMatchSpec", spec := "marksMatchSpec", unfollowed := true, recurses := true, named := ["math/bits.divideError", "math/bits.overflowError"], apart := false }
def MarksMatchSpecSaid : Prop := marksMatchSpecRow.holds Try.pinned (OpenSpec.ofChange marksMatchSpecSpec)

/-- ITS FALSE NEIGHBOUR: 'it returns false'. Refute it at one input. -/
def marksMatchSpecWrong : ChangeSpec := { name := "marksMatchSpec", fn := fun _ => fun
  | [d1, d2, d3] => { results := [.lit (.bool false)], args := [d1, d2, d3] }
  | _ => none }
def MarksMatchSpecWrongFalsely : Prop := marksMatchSpecRow.holds Try.pinned (OpenSpec.ofChange marksMatchSpecWrong)

/-- 'perigeelaw2.MarksMergeMatchSpec': WHATEVER THE INPUT: true; the input reads as it did. -/
def marksMergeMatchSpecSpec : ChangeSpec := { name := "marksMergeMatchSpec", fn := fun _ => fun
  | [d1, d2, d3] => { results := [.lit (.bool true)], args := [d1, d2, d3] }
  | _ => none }
def marksMergeMatchSpecRow : OpenClaim := { program := "ytdcnpbdkhcdinaa", sum := "846bd1a2e203e31a9d0bd5d1e694cda529219f16d031250bc828e519ae960bbb", func := "perigee/perigeelaw2.MarksMergeMatchSpec", spec := "marksMergeMatchSpec", unfollowed := true, recurses := true, named := ["math/bits.divideError", "math/bits.overflowError"], apart := false }
def MarksMergeMatchSpecSaid : Prop := marksMergeMatchSpecRow.holds Try.pinned (OpenSpec.ofChange marksMergeMatchSpecSpec)

/-- ITS FALSE NEIGHBOUR: 'it returns false'. Refute it at one input. -/
def marksMergeMatchSpecWrong : ChangeSpec := { name := "marksMergeMatchSpec", fn := fun _ => fun
  | [d1, d2, d3] => { results := [.lit (.bool false)], args := [d1, d2, d3] }
  | _ => none }
def MarksMergeMatchSpecWrongFalsely : Prop := marksMergeMatchSpecRow.holds Try.pinned (OpenSpec.ofChange marksMergeMatchSpecWrong)

/-- 'perigeelaw2.MarksMergeEven': WHATEVER THE INPUT: true; the input reads as it did. -/
def marksMergeEvenSpec : ChangeSpec := { name := "marksMergeEven", fn := fun _ => fun
  | [d1, d2] => { results := [.lit (.bool true)], args := [d1, d2] }
  | _ => none }
def marksMergeEvenRow : OpenClaim := { program := "ytdcnpbdkhcdinaa", sum := "846bd1a2e203e31a9d0bd5d1e694cda529219f16d031250bc828e519ae960bbb", func := "perigee/perigeelaw2.MarksMergeEven", spec := "marksMergeEven", unfollowed := true, recurses := true, apart := false }
def MarksMergeEvenSaid : Prop := marksMergeEvenRow.holds Try.pinned (OpenSpec.ofChange marksMergeEvenSpec)

/-- ITS FALSE NEIGHBOUR: 'it returns false'. Refute it at one input. -/
def marksMergeEvenWrong : ChangeSpec := { name := "marksMergeEven", fn := fun _ => fun
  | [d1, d2] => { results := [.lit (.bool false)], args := [d1, d2] }
  | _ => none }
def MarksMergeEvenWrongFalsely : Prop := marksMergeEvenRow.holds Try.pinned (OpenSpec.ofChange marksMergeEvenWrong)

/-- 'perigeelaw2.MarksThinStayNear': WHATEVER THE INPUT: true; the input reads as it did. -/
def marksThinStayNearSpec : ChangeSpec := { name := "marksThinStayNear", fn := fun _ => fun
  | [d1, d2, d3] => { results := [.lit (.bool true)], args := [d1, d2, d3] }
  | _ => none }
def marksThinStayNearRow : OpenClaim := { program := "ytdcnpbdkhcdinaa", sum := "846bd1a2e203e31a9d0bd5d1e694cda529219f16d031250bc828e519ae960bbb", func := "perigee/perigeelaw2.MarksThinStayNear", spec := "marksThinStayNear", unfollowed := true, recurses := true, named := ["math/bits.divideError", "math/bits.overflowError"], apart := false }
def MarksThinStayNearSaid : Prop := marksThinStayNearRow.holds Try.pinned (OpenSpec.ofChange marksThinStayNearSpec)

/-- ITS FALSE NEIGHBOUR: 'it returns false'. Refute it at one input. -/
def marksThinStayNearWrong : ChangeSpec := { name := "marksThinStayNear", fn := fun _ => fun
  | [d1, d2, d3] => { results := [.lit (.bool false)], args := [d1, d2, d3] }
  | _ => none }
def MarksThinStayNearWrongFalsely : Prop := marksThinStayNearRow.holds Try.pinned (OpenSpec.ofChange marksThinStayNearWrong)

/- THE SECOND FORM. 'bulk': how many values and letters a reading holds, each counted each time it is reached (what is shared counts as often as it is met; a slice's spare places count too). A statement '..UptoSaid' is the law's where the arguments, and the package variables that the reading takes, are together of bulk at most 1048576: NARROWER than '..Said'. Prove '..Said' where nothing that the law and all that it calls make is longer than what came in: it says more and counts as full. Else prove '..UptoSaid'. A law counts once. -/
mutual
def uptoBulk {H : Type} : DataW H → Nat
  | .lit (.string bytes) => bytes.length + 1
  | .lit _ => 1
  | .nil => 1
  | .ptr d => uptoBulk d + 1
  | .slice elems spare => uptoBulkAll elems + uptoBulkAll spare + 1
  | .agg parts => uptoBulkAll parts + 1
  | .iface _ d => uptoBulk d + 1
  | .map entries => uptoBulkEntries entries + 1
  | .held _ => 1
def uptoBulkAll {H : Type} : List (DataW H) → Nat
  | [] => 0
  | d :: r => uptoBulk d + uptoBulkAll r
def uptoBulkEntries {H : Type} : List (Lit × DataW H) → Nat
  | [] => 0
  | x :: r => uptoBulkEntry x + uptoBulkEntries r
def uptoBulkEntry {H : Type} : Lit × DataW H → Nat
  | (.string bytes, d) => bytes.length + uptoBulk d + 1
  | (_, d) => uptoBulk d + 1
 end
def uptoSmall : (H : Type) → List (DataW H) → Bool := fun _ ds => decide (uptoBulkAll ds ≤ 1048576)
def OpenSpec.upto (s : _root_.Go.ChangeSpec) : _root_.Go.OpenSpec := { _root_.Go.OpenSpec.ofChange s with cond := some uptoSmall }

/-- 'perigeelaw7.TelemetrySqueezedMatchesSpec', WHERE WHAT IT READS IS OF BULK AT MOST 1048576: true; the input reads as it did. -/
def telemetrySqueezedMatchesSpecUptoRow : OpenClaim := { program := "ytdcnpbdkhcdinaa", sum := "846bd1a2e203e31a9d0bd5d1e694cda529219f16d031250bc828e519ae960bbb", func := "perigee/perigeelaw7.TelemetrySqueezedMatchesSpec", spec := "telemetrySqueezedMatchesSpec", unfollowed := true, recurses := true, apart := false, narrowed := true }
def TelemetrySqueezedMatchesSpecUptoSaid : Prop := telemetrySqueezedMatchesSpecUptoRow.holds Try.pinned (OpenSpec.upto telemetrySqueezedMatchesSpecSpec)

/-- 'perigeelaw7.TelemetrySqueezedComesBack', WHERE WHAT IT READS IS OF BULK AT MOST 1048576: true; the input reads as it did. -/
def telemetrySqueezedComesBackUptoRow : OpenClaim := { program := "ytdcnpbdkhcdinaa", sum := "846bd1a2e203e31a9d0bd5d1e694cda529219f16d031250bc828e519ae960bbb", func := "perigee/perigeelaw7.TelemetrySqueezedComesBack", spec := "telemetrySqueezedComesBack", unfollowed := true, recurses := true, apart := false, narrowed := true }
def TelemetrySqueezedComesBackUptoSaid : Prop := telemetrySqueezedComesBackUptoRow.holds Try.pinned (OpenSpec.upto telemetrySqueezedComesBackSpec)

/-- 'perigeelaw7.TelemetryThinnedIsNear', WHERE WHAT IT READS IS OF BULK AT MOST 1048576: true; the input reads as it did. -/
def telemetryThinnedIsNearUptoRow : OpenClaim := { program := "ytdcnpbdkhcdinaa", sum := "846bd1a2e203e31a9d0bd5d1e694cda529219f16d031250bc828e519ae960bbb", func := "perigee/perigeelaw7.TelemetryThinnedIsNear", spec := "telemetryThinnedIsNear", apart := false, narrowed := true }
def TelemetryThinnedIsNearUptoSaid : Prop := telemetryThinnedIsNearUptoRow.holds Try.pinned (OpenSpec.upto telemetryThinnedIsNearSpec)

/-- 'perigeelaw2.MarksMatchSpec', WHERE WHAT IT READS IS OF BULK AT MOST 1048576: true; the input reads as it did. -/
def marksMatchSpecUptoRow : OpenClaim := { program := "ytdcnpbdkhcdinaa", sum := "846bd1a2e203e31a9d0bd5d1e694cda529219f16d031250bc828e519ae960bbb", func := "perigee/perigeelaw2.MarksMatchSpec", spec := "marksMatchSpec", unfollowed := true, recurses := true, named := ["math/bits.divideError", "math/bits.overflowError"], apart := false, narrowed := true }
def MarksMatchSpecUptoSaid : Prop := marksMatchSpecUptoRow.holds Try.pinned (OpenSpec.upto marksMatchSpecSpec)

/-- 'perigeelaw2.MarksMergeMatchSpec', WHERE WHAT IT READS IS OF BULK AT MOST 1048576: true; the input reads as it did. -/
def marksMergeMatchSpecUptoRow : OpenClaim := { program := "ytdcnpbdkhcdinaa", sum := "846bd1a2e203e31a9d0bd5d1e694cda529219f16d031250bc828e519ae960bbb", func := "perigee/perigeelaw2.MarksMergeMatchSpec", spec := "marksMergeMatchSpec", unfollowed := true, recurses := true, named := ["math/bits.divideError", "math/bits.overflowError"], apart := false, narrowed := true }
def MarksMergeMatchSpecUptoSaid : Prop := marksMergeMatchSpecUptoRow.holds Try.pinned (OpenSpec.upto marksMergeMatchSpecSpec)

/-- 'perigeelaw2.MarksMergeEven', WHERE WHAT IT READS IS OF BULK AT MOST 1048576: true; the input reads as it did. -/
def marksMergeEvenUptoRow : OpenClaim := { program := "ytdcnpbdkhcdinaa", sum := "846bd1a2e203e31a9d0bd5d1e694cda529219f16d031250bc828e519ae960bbb", func := "perigee/perigeelaw2.MarksMergeEven", spec := "marksMergeEven", unfollowed := true, recurses := true, apart := false, narrowed := true }
def MarksMergeEvenUptoSaid : Prop := marksMergeEvenUptoRow.holds Try.pinned (OpenSpec.upto marksMergeEvenSpec)

/-- 'perigeelaw2.MarksThinStayNear', WHERE WHAT IT READS IS OF BULK AT MOST 1048576: true; the input reads as it did. -/
def marksThinStayNearUptoRow : OpenClaim := { program := "ytdcnpbdkhcdinaa", sum := "846bd1a2e203e31a9d0bd5d1e694cda529219f16d031250bc828e519ae960bbb", func := "perigee/perigeelaw2.MarksThinStayNear", spec := "marksThinStayNear", unfollowed := true, recurses := true, named := ["math/bits.divideError", "math/bits.overflowError"], apart := false, narrowed := true }
def MarksThinStayNearUptoSaid : Prop := marksThinStayNearUptoRow.holds Try.pinned (OpenSpec.upto marksThinStayNearSpec)

end Rows
end Go.Proofs.Ytdcnpbdkhcdinaa
