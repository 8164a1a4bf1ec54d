/-
  No cell of these rows narrows 'for every input' (looked for: loops, veiled, ifaces, maps, wideKeys, modest, calm, conditions, laid).
  DERIVED. THE GIVEN ROWS OF THIS SEAT. 5 by the template 'for every input the law returns true; each argument reads behind the call as it read before'; 0 by the template 'total and deterministic' (their statements: YtaajphmjfebbaaaTotals.lean).
  GIVEN WITH THE SEED: the statements are not yours to turn. If you find one false, say at which input.
  Laid BY PROGRAM, IN A SANDBOX (cutbox-rows.mjs): the forced cells as the released guide's own fill.sh prints them over the translation b15a0f88e7045857… (all of the seat's roots in one cut). By AI agents, Wed Nov 11 2026. No macro, syntax, notation, axiom, sorry.
-/
import Derived.Test.YtaajphmjfebbaaaChecked
import GoSem.Claim
import GoSem.ClaimJoined
import GoSem.ClaimMapViews
import Derived.JoinedTies
import Derived.KernelRfl
namespace Go.Proofs.Ytaajphmjfebbaaa
/- THE CELL 'sum', in the pinned program and in every row, IS THE sha256 OF THE DUMP (.gsa) THAT YtaajphmjfebbaaaProg.lean LOADS. Nothing in Lean hashes anything: it is a label: what it is worth is what the hold of that sum in a sandbox is worth. -/
noncomputable def Try.pinned : Pinned := { name := "ytaajphmjfebbaaa", sum := "b15a0f88e7045857116ec09a67fcc6405e7a9a73387e33a93d9da1e9f4436ee1", checked := Try.checked }
namespace Rows
def none {H : Type} : Left H := { results := [], args := [] }

/-- 'perigeelaw1.PacketBytesMatchSpec': WHATEVER THE INPUT: true; the input reads as it did. -/
def packetBytesMatchSpecSpec : ChangeSpec := { name := "packetBytesMatchSpec", fn := fun _ => fun
  | [d] => { results := [.lit (.bool true)], args := [d] }
  | _ => none }
def packetBytesMatchSpecRow : OpenClaim := { program := "ytaajphmjfebbaaa", sum := "b15a0f88e7045857116ec09a67fcc6405e7a9a73387e33a93d9da1e9f4436ee1", func := "perigee/perigeelaw1.PacketBytesMatchSpec", spec := "packetBytesMatchSpec", apart := false }
def PacketBytesMatchSpecSaid : Prop := packetBytesMatchSpecRow.holds Try.pinned (OpenSpec.ofChange packetBytesMatchSpecSpec)

/-- ITS FALSE NEIGHBOUR: 'it returns false'. Refute it at one input. -/
def packetBytesMatchSpecWrong : ChangeSpec := { name := "packetBytesMatchSpec", fn := fun _ => fun
  | [d] => { results := [.lit (.bool false)], args := [d] }
  | _ => none }
def PacketBytesMatchSpecWrongFalsely : Prop := packetBytesMatchSpecRow.holds Try.pinned (OpenSpec.ofChange packetBytesMatchSpecWrong)

/-- 'perigeelaw1.PacketReadMatchesSpec': WHATEVER THE INPUT: true; the input reads as it did. -/
def packetReadMatchesSpecSpec : ChangeSpec := { name := "packetReadMatchesSpec", fn := fun _ => fun
  | [d] => { results := [.lit (.bool true)], args := [d] }
  | _ => none }
def packetReadMatchesSpecRow : OpenClaim := { program := "ytaajphmjfebbaaa", sum := "b15a0f88e7045857116ec09a67fcc6405e7a9a73387e33a93d9da1e9f4436ee1", func := "perigee/perigeelaw1.PacketReadMatchesSpec", spec := "packetReadMatchesSpec", apart := false }
def PacketReadMatchesSpecSaid : Prop := packetReadMatchesSpecRow.holds Try.pinned (OpenSpec.ofChange packetReadMatchesSpecSpec)

/-- ITS FALSE NEIGHBOUR: 'it returns false'. Refute it at one input. -/
def packetReadMatchesSpecWrong : ChangeSpec := { name := "packetReadMatchesSpec", fn := fun _ => fun
  | [d] => { results := [.lit (.bool false)], args := [d] }
  | _ => none }
def PacketReadMatchesSpecWrongFalsely : Prop := packetReadMatchesSpecRow.holds Try.pinned (OpenSpec.ofChange packetReadMatchesSpecWrong)

/-- 'perigeelaw1.PacketComesBack': WHATEVER THE INPUT: true; the input reads as it did. -/
def packetComesBackSpec : ChangeSpec := { name := "packetComesBack", fn := fun _ => fun
  | [d1, d2, d3] => { results := [.lit (.bool true)], args := [d1, d2, d3] }
  | _ => none }
def packetComesBackRow : OpenClaim := { program := "ytaajphmjfebbaaa", sum := "b15a0f88e7045857116ec09a67fcc6405e7a9a73387e33a93d9da1e9f4436ee1", func := "perigee/perigeelaw1.PacketComesBack", spec := "packetComesBack", apart := false }
def PacketComesBackSaid : Prop := packetComesBackRow.holds Try.pinned (OpenSpec.ofChange packetComesBackSpec)

/-- ITS FALSE NEIGHBOUR: 'it returns false'. Refute it at one input. -/
def packetComesBackWrong : ChangeSpec := { name := "packetComesBack", fn := fun _ => fun
  | [d1, d2, d3] => { results := [.lit (.bool false)], args := [d1, d2, d3] }
  | _ => none }
def PacketComesBackWrongFalsely : Prop := packetComesBackRow.holds Try.pinned (OpenSpec.ofChange packetComesBackWrong)

/-- 'perigeelaw2.CodesMatchSpec': WHATEVER THE INPUT: true; the input reads as it did. -/
def codesMatchSpecSpec : ChangeSpec := { name := "codesMatchSpec", fn := fun _ => fun
  | [d1, d2] => { results := [.lit (.bool true)], args := [d1, d2] }
  | _ => none }
def codesMatchSpecRow : OpenClaim := { program := "ytaajphmjfebbaaa", sum := "b15a0f88e7045857116ec09a67fcc6405e7a9a73387e33a93d9da1e9f4436ee1", func := "perigee/perigeelaw2.CodesMatchSpec", spec := "codesMatchSpec", unfollowed := true, recurses := true, apart := false }
def CodesMatchSpecSaid : Prop := codesMatchSpecRow.holds Try.pinned (OpenSpec.ofChange codesMatchSpecSpec)

/-- ITS FALSE NEIGHBOUR: 'it returns false'. Refute it at one input. -/
def codesMatchSpecWrong : ChangeSpec := { name := "codesMatchSpec", fn := fun _ => fun
  | [d1, d2] => { results := [.lit (.bool false)], args := [d1, d2] }
  | _ => none }
def CodesMatchSpecWrongFalsely : Prop := codesMatchSpecRow.holds Try.pinned (OpenSpec.ofChange codesMatchSpecWrong)

/-- 'perigeelaw2.CodesComeBack': WHATEVER THE INPUT: true; the input reads as it did. -/
def codesComeBackSpec : ChangeSpec := { name := "codesComeBack", fn := fun _ => fun
  | [d1, d2, d3] => { results := [.lit (.bool true)], args := [d1, d2, d3] }
  | _ => none }
def codesComeBackRow : OpenClaim := { program := "ytaajphmjfebbaaa", sum := "b15a0f88e7045857116ec09a67fcc6405e7a9a73387e33a93d9da1e9f4436ee1", func := "perigee/perigeelaw2.CodesComeBack", spec := "codesComeBack", inPlace := ["internal/bytealg.Compare"], unfollowed := true, recurses := true, apart := false }
def CodesComeBackSaid : Prop := codesComeBackRow.holds Try.pinned (OpenSpec.ofChange codesComeBackSpec)

/-- ITS FALSE NEIGHBOUR: 'it returns false'. Refute it at one input. -/
def codesComeBackWrong : ChangeSpec := { name := "codesComeBack", fn := fun _ => fun
  | [d1, d2, d3] => { results := [.lit (.bool false)], args := [d1, d2, d3] }
  | _ => none }
def CodesComeBackWrongFalsely : Prop := codesComeBackRow.holds Try.pinned (OpenSpec.ofChange codesComeBackWrong)

/- THE SECOND FORM. 'bulk': how many values and letters a reading holds, each counted each time it is reached (what is shared counts as often as it is met; a slice's spare places count too). A statement '..UptoSaid' is the law's where the arguments, and the package variables that the reading takes, are together of bulk at most 1048576: NARROWER than '..Said'. Prove '..Said' where nothing that the law and all that it calls make is longer than what came in: it says more and counts as full. Else prove '..UptoSaid'. A law counts once. -/
mutual
def uptoBulk {H : Type} : DataW H → Nat
  | .lit (.string bytes) => bytes.length + 1
  | .lit _ => 1
  | .nil => 1
  | .ptr d => uptoBulk d + 1
  | .slice elems spare => uptoBulkAll elems + uptoBulkAll spare + 1
  | .agg parts => uptoBulkAll parts + 1
  | .iface _ d => uptoBulk d + 1
  | .map entries => uptoBulkEntries entries + 1
  | .held _ => 1
def uptoBulkAll {H : Type} : List (DataW H) → Nat
  | [] => 0
  | d :: r => uptoBulk d + uptoBulkAll r
def uptoBulkEntries {H : Type} : List (Lit × DataW H) → Nat
  | [] => 0
  | x :: r => uptoBulkEntry x + uptoBulkEntries r
def uptoBulkEntry {H : Type} : Lit × DataW H → Nat
  | (.string bytes, d) => bytes.length + uptoBulk d + 1
  | (_, d) => uptoBulk d + 1
 end
def uptoSmall : (H : Type) → List (DataW H) → Bool := fun _ ds => decide (uptoBulkAll ds ≤ 1048576)
def OpenSpec.upto (s : _root_.Go.ChangeSpec) : _root_.Go.OpenSpec := { _root_.Go.OpenSpec.ofChange s with cond := some uptoSmall }

/-- 'perigeelaw1.PacketBytesMatchSpec', WHERE WHAT IT READS IS OF BULK AT MOST 1048576: true; the input reads as it did. -/
def packetBytesMatchSpecUptoRow : OpenClaim := { program := "ytaajphmjfebbaaa", sum := "b15a0f88e7045857116ec09a67fcc6405e7a9a73387e33a93d9da1e9f4436ee1", func := "perigee/perigeelaw1.PacketBytesMatchSpec", spec := "packetBytesMatchSpec", apart := false, narrowed := true }
def PacketBytesMatchSpecUptoSaid : Prop := packetBytesMatchSpecUptoRow.holds Try.pinned (OpenSpec.upto packetBytesMatchSpecSpec)

/-- 'perigeelaw1.PacketReadMatchesSpec', WHERE WHAT IT READS IS OF BULK AT MOST 1048576: true; the input reads as it did. -/
def packetReadMatchesSpecUptoRow : OpenClaim := { program := "ytaajphmjfebbaaa", sum := "b15a0f88e7045857116ec09a67fcc6405e7a9a73387e33a93d9da1e9f4436ee1", func := "perigee/perigeelaw1.PacketReadMatchesSpec", spec := "packetReadMatchesSpec", apart := false, narrowed := true }
def PacketReadMatchesSpecUptoSaid : Prop := packetReadMatchesSpecUptoRow.holds Try.pinned (OpenSpec.upto packetReadMatchesSpecSpec)

/-- 'perigeelaw1.PacketComesBack', WHERE WHAT IT READS IS OF BULK AT MOST 1048576: true; the input reads as it did. -/
def packetComesBackUptoRow : OpenClaim := { program := "ytaajphmjfebbaaa", sum := "b15a0f88e7045857116ec09a67fcc6405e7a9a73387e33a93d9da1e9f4436ee1", func := "perigee/perigeelaw1.PacketComesBack", spec := "packetComesBack", apart := false, narrowed := true }
def PacketComesBackUptoSaid : Prop := packetComesBackUptoRow.holds Try.pinned (OpenSpec.upto packetComesBackSpec)

/-- 'perigeelaw2.CodesMatchSpec', WHERE WHAT IT READS IS OF BULK AT MOST 1048576: true; the input reads as it did. -/
def codesMatchSpecUptoRow : OpenClaim := { program := "ytaajphmjfebbaaa", sum := "b15a0f88e7045857116ec09a67fcc6405e7a9a73387e33a93d9da1e9f4436ee1", func := "perigee/perigeelaw2.CodesMatchSpec", spec := "codesMatchSpec", unfollowed := true, recurses := true, apart := false, narrowed := true }
def CodesMatchSpecUptoSaid : Prop := codesMatchSpecUptoRow.holds Try.pinned (OpenSpec.upto codesMatchSpecSpec)

/-- 'perigeelaw2.CodesComeBack', WHERE WHAT IT READS IS OF BULK AT MOST 1048576: true; the input reads as it did. -/
def codesComeBackUptoRow : OpenClaim := { program := "ytaajphmjfebbaaa", sum := "b15a0f88e7045857116ec09a67fcc6405e7a9a73387e33a93d9da1e9f4436ee1", func := "perigee/perigeelaw2.CodesComeBack", spec := "codesComeBack", inPlace := ["internal/bytealg.Compare"], unfollowed := true, recurses := true, apart := false, narrowed := true }
def CodesComeBackUptoSaid : Prop := codesComeBackUptoRow.holds Try.pinned (OpenSpec.upto codesComeBackSpec)

end Rows
end Go.Proofs.Ytaajphmjfebbaaa
