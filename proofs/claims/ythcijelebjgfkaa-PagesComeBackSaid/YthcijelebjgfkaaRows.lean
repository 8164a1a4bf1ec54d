/-
  No cell of these rows narrows 'for every input' (looked for: loops, veiled, ifaces, maps, wideKeys, modest, calm, conditions, laid).
  DERIVED. THE GIVEN ROWS OF THIS SEAT. 4 by the template 'for every input the law returns true; each argument reads behind the call as it read before'; 0 by the template 'total and deterministic' (their statements: YthcijelebjgfkaaTotals.lean).
  GIVEN WITH THE SEED: the statements are not yours to turn. If you find one false, say at which input.
  Laid BY PROGRAM, IN A SANDBOX (cutbox-rows.mjs): the forced cells as the released guide's own fill.sh prints them over the translation e25f2831c9b83842… (all of the seat's roots in one cut). By AI agents, Wed Nov 11 2026. No macro, syntax, notation, axiom, sorry.
-/
import Derived.Test.YthcijelebjgfkaaChecked
import GoSem.Claim
import GoSem.ClaimJoined
import GoSem.ClaimMapViews
import Derived.JoinedTies
import Derived.KernelRfl
namespace Go.Proofs.Ythcijelebjgfkaa
/- THE CELL 'sum', in the pinned program and in every row, IS THE sha256 OF THE DUMP (.gsa) THAT YthcijelebjgfkaaProg.lean LOADS. Nothing in Lean hashes anything: it is a label: what it is worth is what the hold of that sum in a sandbox is worth. -/
noncomputable def Try.pinned : Pinned := { name := "ythcijelebjgfkaa", sum := "e25f2831c9b83842a981d4bde52dd60bab18fade74d5c322d93d120e8d6b0b3b", checked := Try.checked }
namespace Rows
def none {H : Type} : Left H := { results := [], args := [] }

/-- 'perigeelaw1.PacketSplitMatchesSpec': WHATEVER THE INPUT: true; the input reads as it did. -/
def packetSplitMatchesSpecSpec : ChangeSpec := { name := "packetSplitMatchesSpec", fn := fun _ => fun
  | [d1, d2, d3, d4, d5] => { results := [.lit (.bool true)], args := [d1, d2, d3, d4, d5] }
  | _ => none }
def packetSplitMatchesSpecRow : OpenClaim := { program := "ythcijelebjgfkaa", sum := "e25f2831c9b83842a981d4bde52dd60bab18fade74d5c322d93d120e8d6b0b3b", func := "perigee/perigeelaw1.PacketSplitMatchesSpec", spec := "packetSplitMatchesSpec", apart := false }
def PacketSplitMatchesSpecSaid : Prop := packetSplitMatchesSpecRow.holds Try.pinned (OpenSpec.ofChange packetSplitMatchesSpecSpec)

/-- ITS FALSE NEIGHBOUR: 'it returns false'. Refute it at one input. -/
def packetSplitMatchesSpecWrong : ChangeSpec := { name := "packetSplitMatchesSpec", fn := fun _ => fun
  | [d1, d2, d3, d4, d5] => { results := [.lit (.bool false)], args := [d1, d2, d3, d4, d5] }
  | _ => none }
def PacketSplitMatchesSpecWrongFalsely : Prop := packetSplitMatchesSpecRow.holds Try.pinned (OpenSpec.ofChange packetSplitMatchesSpecWrong)

/-- 'perigeelaw4.FormatsMatchSpec': WHATEVER THE INPUT: true; the input reads as it did. -/
def formatsMatchSpecSpec : ChangeSpec := { name := "formatsMatchSpec", fn := fun _ => fun
  | [d1, d2, d3, d4, d5] => { results := [.lit (.bool true)], args := [d1, d2, d3, d4, d5] }
  | _ => none }
def formatsMatchSpecRow : OpenClaim := { program := "ythcijelebjgfkaa", sum := "e25f2831c9b83842a981d4bde52dd60bab18fade74d5c322d93d120e8d6b0b3b", func := "perigee/perigeelaw4.FormatsMatchSpec", spec := "formatsMatchSpec", inPlace := ["internal/bytealg.MakeNoZero"], apart := false }
def FormatsMatchSpecSaid : Prop := formatsMatchSpecRow.holds Try.pinned (OpenSpec.ofChange formatsMatchSpecSpec)

/-- ITS FALSE NEIGHBOUR: 'it returns false'. Refute it at one input. -/
def formatsMatchSpecWrong : ChangeSpec := { name := "formatsMatchSpec", fn := fun _ => fun
  | [d1, d2, d3, d4, d5] => { results := [.lit (.bool false)], args := [d1, d2, d3, d4, d5] }
  | _ => none }
def FormatsMatchSpecWrongFalsely : Prop := formatsMatchSpecRow.holds Try.pinned (OpenSpec.ofChange formatsMatchSpecWrong)

/-- 'perigeelaw4.PagesMatchSpec': WHATEVER THE INPUT: true; the input reads as it did. -/
def pagesMatchSpecSpec : ChangeSpec := { name := "pagesMatchSpec", fn := fun _ => fun
  | [d1, d2, d3] => { results := [.lit (.bool true)], args := [d1, d2, d3] }
  | _ => none }
def pagesMatchSpecRow : OpenClaim := { program := "ythcijelebjgfkaa", sum := "e25f2831c9b83842a981d4bde52dd60bab18fade74d5c322d93d120e8d6b0b3b", func := "perigee/perigeelaw4.PagesMatchSpec", spec := "pagesMatchSpec", inPlace := ["internal/bytealg.Count", "internal/bytealg.IndexByte", "internal/bytealg.Index"], named := ["internal/bytealg.MaxLen"], apart := false }
def PagesMatchSpecSaid : Prop := pagesMatchSpecRow.holds Try.pinned (OpenSpec.ofChange pagesMatchSpecSpec)

/-- ITS FALSE NEIGHBOUR: 'it returns false'. Refute it at one input. -/
def pagesMatchSpecWrong : ChangeSpec := { name := "pagesMatchSpec", fn := fun _ => fun
  | [d1, d2, d3] => { results := [.lit (.bool false)], args := [d1, d2, d3] }
  | _ => none }
def PagesMatchSpecWrongFalsely : Prop := pagesMatchSpecRow.holds Try.pinned (OpenSpec.ofChange pagesMatchSpecWrong)

/-- 'perigeelaw4.PagesComeBack': WHATEVER THE INPUT: true; the input reads as it did. -/
def pagesComeBackSpec : ChangeSpec := { name := "pagesComeBack", fn := fun _ => fun
  | [d1, d2, d3] => { results := [.lit (.bool true)], args := [d1, d2, d3] }
  | _ => none }
def pagesComeBackRow : OpenClaim := { program := "ythcijelebjgfkaa", sum := "e25f2831c9b83842a981d4bde52dd60bab18fade74d5c322d93d120e8d6b0b3b", func := "perigee/perigeelaw4.PagesComeBack", spec := "pagesComeBack", inPlace := ["internal/bytealg.Count", "internal/bytealg.IndexByte", "internal/bytealg.Index"], named := ["internal/bytealg.MaxLen"], apart := false }
def PagesComeBackSaid : Prop := pagesComeBackRow.holds Try.pinned (OpenSpec.ofChange pagesComeBackSpec)

/-- ITS FALSE NEIGHBOUR: 'it returns false'. Refute it at one input. -/
def pagesComeBackWrong : ChangeSpec := { name := "pagesComeBack", fn := fun _ => fun
  | [d1, d2, d3] => { results := [.lit (.bool false)], args := [d1, d2, d3] }
  | _ => none }
def PagesComeBackWrongFalsely : Prop := pagesComeBackRow.holds Try.pinned (OpenSpec.ofChange pagesComeBackWrong)

/- THE SECOND FORM. 'bulk': how many values and letters a reading holds, each counted each time it is reached (what is shared counts as often as it is met; a slice's spare places count too). A statement '..UptoSaid' is the law's where the arguments, and the package variables that the reading takes, are together of bulk at most 1048576: NARROWER than '..Said'. Prove '..Said' where nothing that the law and all that it calls make is longer than what came in: it says more and counts as full. Else prove '..UptoSaid'. A law counts once. -/
mutual
def uptoBulk {H : Type} : DataW H → Nat
  | .lit (.string bytes) => bytes.length + 1
  | .lit _ => 1
  | .nil => 1
  | .ptr d => uptoBulk d + 1
  | .slice elems spare => uptoBulkAll elems + uptoBulkAll spare + 1
  | .agg parts => uptoBulkAll parts + 1
  | .iface _ d => uptoBulk d + 1
  | .map entries => uptoBulkEntries entries + 1
  | .held _ => 1
def uptoBulkAll {H : Type} : List (DataW H) → Nat
  | [] => 0
  | d :: r => uptoBulk d + uptoBulkAll r
def uptoBulkEntries {H : Type} : List (Lit × DataW H) → Nat
  | [] => 0
  | x :: r => uptoBulkEntry x + uptoBulkEntries r
def uptoBulkEntry {H : Type} : Lit × DataW H → Nat
  | (.string bytes, d) => bytes.length + uptoBulk d + 1
  | (_, d) => uptoBulk d + 1
 end
def uptoSmall : (H : Type) → List (DataW H) → Bool := fun _ ds => decide (uptoBulkAll ds ≤ 1048576)
def OpenSpec.upto (s : _root_.Go.ChangeSpec) : _root_.Go.OpenSpec := { _root_.Go.OpenSpec.ofChange s with cond := some uptoSmall }

/-- 'perigeelaw1.PacketSplitMatchesSpec', WHERE WHAT IT READS IS OF BULK AT MOST 1048576: true; the input reads as it did. -/
def packetSplitMatchesSpecUptoRow : OpenClaim := { program := "ythcijelebjgfkaa", sum := "e25f2831c9b83842a981d4bde52dd60bab18fade74d5c322d93d120e8d6b0b3b", func := "perigee/perigeelaw1.PacketSplitMatchesSpec", spec := "packetSplitMatchesSpec", apart := false, narrowed := true }
def PacketSplitMatchesSpecUptoSaid : Prop := packetSplitMatchesSpecUptoRow.holds Try.pinned (OpenSpec.upto packetSplitMatchesSpecSpec)

/-- 'perigeelaw4.FormatsMatchSpec', WHERE WHAT IT READS IS OF BULK AT MOST 1048576: true; the input reads as it did. -/
def formatsMatchSpecUptoRow : OpenClaim := { program := "ythcijelebjgfkaa", sum := "e25f2831c9b83842a981d4bde52dd60bab18fade74d5c322d93d120e8d6b0b3b", func := "perigee/perigeelaw4.FormatsMatchSpec", spec := "formatsMatchSpec", inPlace := ["internal/bytealg.MakeNoZero"], apart := false, narrowed := true }
def FormatsMatchSpecUptoSaid : Prop := formatsMatchSpecUptoRow.holds Try.pinned (OpenSpec.upto formatsMatchSpecSpec)

/-- 'perigeelaw4.PagesMatchSpec', WHERE WHAT IT READS IS OF BULK AT MOST 1048576: true; the input reads as it did. -/
def pagesMatchSpecUptoRow : OpenClaim := { program := "ythcijelebjgfkaa", sum := "e25f2831c9b83842a981d4bde52dd60bab18fade74d5c322d93d120e8d6b0b3b", func := "perigee/perigeelaw4.PagesMatchSpec", spec := "pagesMatchSpec", inPlace := ["internal/bytealg.Count", "internal/bytealg.IndexByte", "internal/bytealg.Index"], named := ["internal/bytealg.MaxLen"], apart := false, narrowed := true }
def PagesMatchSpecUptoSaid : Prop := pagesMatchSpecUptoRow.holds Try.pinned (OpenSpec.upto pagesMatchSpecSpec)

/-- 'perigeelaw4.PagesComeBack', WHERE WHAT IT READS IS OF BULK AT MOST 1048576: true; the input reads as it did. -/
def pagesComeBackUptoRow : OpenClaim := { program := "ythcijelebjgfkaa", sum := "e25f2831c9b83842a981d4bde52dd60bab18fade74d5c322d93d120e8d6b0b3b", func := "perigee/perigeelaw4.PagesComeBack", spec := "pagesComeBack", inPlace := ["internal/bytealg.Count", "internal/bytealg.IndexByte", "internal/bytealg.Index"], named := ["internal/bytealg.MaxLen"], apart := false, narrowed := true }
def PagesComeBackUptoSaid : Prop := pagesComeBackUptoRow.holds Try.pinned (OpenSpec.upto pagesComeBackSpec)

end Rows
end Go.Proofs.Ythcijelebjgfkaa
