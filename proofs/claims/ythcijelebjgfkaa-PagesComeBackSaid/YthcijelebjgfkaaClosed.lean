/- the closed facts of a row, put together out of its own and the program's. -/
import Derived.Test.YthcijelebjgfkaaFacts
import Derived.JoinedOf
namespace Go.Proofs.Ythcijelebjgfkaa
set_option maxRecDepth 100000 in
theorem closed_all {f : FuncId} {fn : Func} {s : ChangeSpec} {c : OpenClaim} (k0 : (c.wf (OpenSpec.ofChange s)) = true)
    (k3 : (fn.params.all (Try.prog.readableRec ·)) = true)
    (k4 : (namedTie Try.prog c.named s.vars) = true)
    (k5 : ((c.stops == [])) = true)
    (k7 : ((c.knobs == [])) = true)
    (k9 : ((c.inPlace == Try.prog.inPlace f)) = true)
    (k10 : ((c.unfollowed == Try.prog.unfollowed f)) = true)
    (k11 : ((c.recurses == Try.prog.recurses f)) = true)
    (k12 : ((c.named == Try.prog.varsNamed f)) = true)
    (k13 : ((c.maps == (fn.params.toList ++ s.plain.varTypes Try.prog).any (Try.prog.mapsRec ·))) = true)
    (k14 : ((c.ifaces == (fn.params.toList ++ s.plain.varTypes Try.prog).any (Try.prog.ifacesRec ·))) = true)
    (k15 : ((c.mapsOut == Try.prog.mapsAmong fn.resultTypes.toList)) = true)
    (k16 : ((c.loops == (fn.params.toList ++ s.plain.varTypes Try.prog).any (Try.prog.loopsFrom ·))) = true)
    (k17 : ((c.wideKeys == (fn.params.toList ++ s.plain.varTypes Try.prog ++ fn.resultTypes.toList).any (Try.prog.wideKeysFrom ·))) = true)
    (k18 : (s.vars.all (Try.prog.varReadable ·)) = true)
    (k19 : (fn.resultTypes.all (fun t => Try.prog.readableRec t && decide (t < Try.prog.types.size))) = true)
    (k20 : ((c.ifacesOut == fn.resultTypes.toList.any (Try.prog.ifacesRec ·))) = true)
    (k21 : ((c.loopsOut == fn.resultTypes.toList.any (Try.prog.loopsFrom ·))) = true)
    (k22 : ((c.plainKeys == Try.prog.plainKeys)) = true)
    (k23 : (c.shortTexts.isNone) = true)
    (k26 : ((c.lifted == Try.prog.liftsFinal)) = true)
    (k27 : ((Try.prog.make == some c.make)) = true)
    (k28 : ((c.kinds == (if c.domain.isEmpty then [] else fn.params.toList.map fun t => match Try.prog.underlying t with | some (.int k) => some k | _ => none))) = true)
    (k29 : ((c.pinned == c.pinnedBy)) = true)
    (k30 : ((c.veiled == (fn.params.toList ++ s.plain.varTypes Try.prog ++ fn.resultTypes.toList).any (Try.prog.veiledRec ·))) = true)
    (k31 : (c.veiledFits Try.prog fn.params.toList (fn.params.toList ++ s.plain.varTypes Try.prog ++ fn.resultTypes.toList)) = true) :
    joinedFacts Try.prog f fn s c = true :=
  both (both (both (both (both (both (both (both (both (both (both (both (both (both (both (both (both (both (both (both (both (both (both (both (both (both (both (both (both (both (both k0 laidOut) pMaps) k3) k4) k5) pStops) k7) pKnobs) k9) k10) k11) k12) k13) k14) k15) k16) k17) k18) k19) k20) k21) k22) k23) pHeard) pEnter) k26) k27) k28) k29) k30) k31
end Go.Proofs.Ythcijelebjgfkaa
