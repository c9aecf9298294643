/- Joined texts: Join. -/
import Derived.Test.YtcliijfdlcagoaaGreatQHJoinA
import Derived.Test.YtcliijfdlcagoaaGreatQHJoinB
import Derived.Test.YtcliijfdlcagoaaGreatQHJoinC
namespace Go.Proofs.YtcliijfdlcagoaaGreat
set_option linter.unusedVariables false
set_option linter.unusedSimpArgs false
open Go.ChangeShapes Go.WideShapes Go.ChangeAt Go.RowKit
theorem join_gen {P : Program} {f : FuncId} {fn : Func} {s : ChangeSpec} {c : OpenClaim} (hl : c.lifted = false) (hm : c.make = .cut) (e1 : P.mayEnter = true) (e2 : ((false : Bool) == P.liftsFinal) = true) (e3 : (P.make == some .cut) = true) (e4 : laidOutB P = true) (e5 : mapsRowed P = true) (e6 : P.stopsHeard = true)
    (k1 : (c.wf (OpenSpec.ofChange s) && (fn.params.all (P.readableRec ·) && (namedTie P c.named s.vars && ((c.stops == []) && ((P.stops == []) && ((c.knobs == []) && (P.stopKnobs == []))))))) = true)
    (k2 : (c.inPlace == P.inPlace f) = true) (k3 : (c.unfollowed == P.unfollowed f) = true) (k4 : (c.recurses == P.recurses f) = true) (k5 : (c.named == P.varsNamed f) = true)
    (k6 : ((c.maps == (fn.params.toList ++ s.plain.varTypes P).any (P.mapsRec ·)) && ((c.ifaces == (fn.params.toList ++ s.plain.varTypes P).any (P.ifacesRec ·)) && (c.mapsOut == P.mapsAmong fn.resultTypes.toList))) = true)
    (k7 : ((c.loops == (fn.params.toList ++ s.plain.varTypes P).any (P.loopsFrom ·)) && (c.wideKeys == (fn.params.toList ++ s.plain.varTypes P ++ fn.resultTypes.toList).any (P.wideKeysFrom ·))) = true)
    (k8 : (s.vars.all (P.varReadable ·) && (fn.resultTypes.all (fun t => P.readableRec t && decide (t < P.types.size)) && ((c.ifacesOut == fn.resultTypes.toList.any (P.ifacesRec ·)) && ((c.loopsOut == fn.resultTypes.toList.any (P.loopsFrom ·)) && c.shortTexts.isNone)))) = true)
    (k9 : (c.plainKeys == P.plainKeys) = true)
    (k10 : ((c.kinds == (if c.domain.isEmpty then [] else fn.params.toList.map fun t => match P.underlying t with | some (.int k) => some k | _ => none)) && (c.pinned == c.pinnedBy)) = true)
    (k11 : ((c.veiled == (fn.params.toList ++ s.plain.varTypes P ++ fn.resultTypes.toList).any (P.veiledRec ·)) && c.veiledFits P fn.params.toList (fn.params.toList ++ s.plain.varTypes P ++ fn.resultTypes.toList)) = true) :
    joinedFacts P f fn s c = true := by
  simp only [Bool.and_eq_true] at k1 k6 k7 k8 k10 k11
  obtain ⟨a1, a2, a3, a4, a5, a6, a7⟩ := k1
  obtain ⟨b1, b2, b3⟩ := k6
  obtain ⟨c1, c2⟩ := k7
  obtain ⟨d1, d2, d3, d4, d5⟩ := k8
  obtain ⟨g1, g2⟩ := k10
  obtain ⟨h1, h2⟩ := k11
  unfold joinedFacts
  rw [hl, hm, a1, e4, e5, a2, a3, a4, a5, a6, a7, k2, k3, k4, k5, b1, b2, b3, c1, c2, d1, d2, d3, d4, k9, d5, e6, e1, e2, e3, g2, h1, h2]
  simp only [Bool.true_and, Bool.and_true]
  exact g1
theorem join_laid : laidOutB Tryz.prog = true := by kernel_rfl
theorem join_maps : mapsRowed Tryz.prog = true := by kernel_rfl
theorem join_heard : Tryz.prog.stopsHeard = true := by kernel_rfl
theorem join_of {f : FuncId} {fn : Func} {s : ChangeSpec} {c : OpenClaim} (hl : c.lifted = false) (hm : c.make = .cut)
    (k1 : (c.wf (OpenSpec.ofChange s) && (fn.params.all (Tryz.prog.readableRec ·) && (namedTie Tryz.prog c.named s.vars && ((c.stops == []) && ((Tryz.prog.stops == []) && ((c.knobs == []) && (Tryz.prog.stopKnobs == []))))))) = true)
    (k2 : (c.inPlace == Tryz.prog.inPlace f) = true) (k3 : (c.unfollowed == Tryz.prog.unfollowed f) = true) (k4 : (c.recurses == Tryz.prog.recurses f) = true) (k5 : (c.named == Tryz.prog.varsNamed f) = true)
    (k6 : ((c.maps == (fn.params.toList ++ s.plain.varTypes Tryz.prog).any (Tryz.prog.mapsRec ·)) && ((c.ifaces == (fn.params.toList ++ s.plain.varTypes Tryz.prog).any (Tryz.prog.ifacesRec ·)) && (c.mapsOut == Tryz.prog.mapsAmong fn.resultTypes.toList))) = true)
    (k7 : ((c.loops == (fn.params.toList ++ s.plain.varTypes Tryz.prog).any (Tryz.prog.loopsFrom ·)) && (c.wideKeys == (fn.params.toList ++ s.plain.varTypes Tryz.prog ++ fn.resultTypes.toList).any (Tryz.prog.wideKeysFrom ·))) = true)
    (k8 : (s.vars.all (Tryz.prog.varReadable ·) && (fn.resultTypes.all (fun t => Tryz.prog.readableRec t && decide (t < Tryz.prog.types.size)) && ((c.ifacesOut == fn.resultTypes.toList.any (Tryz.prog.ifacesRec ·)) && ((c.loopsOut == fn.resultTypes.toList.any (Tryz.prog.loopsFrom ·)) && c.shortTexts.isNone)))) = true)
    (k9 : (c.plainKeys == Tryz.prog.plainKeys) = true)
    (k10 : ((c.kinds == (if c.domain.isEmpty then [] else fn.params.toList.map fun t => match Tryz.prog.underlying t with | some (.int k) => some k | _ => none)) && (c.pinned == c.pinnedBy)) = true)
    (k11 : ((c.veiled == (fn.params.toList ++ s.plain.varTypes Tryz.prog ++ fn.resultTypes.toList).any (Tryz.prog.veiledRec ·)) && c.veiledFits Tryz.prog fn.params.toList (fn.params.toList ++ s.plain.varTypes Tryz.prog ++ fn.resultTypes.toList)) = true) :
    joinedFacts Tryz.prog f fn s c = true :=
  join_gen hl hm join_enter join_lifts join_make join_laid join_maps join_heard k1 k2 k3 k4 k5 k6 k7 k8 k9 k10 k11
end Go.Proofs.YtcliijfdlcagoaaGreat
