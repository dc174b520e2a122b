import Derived.JoinedOf
import Derived.Test.YtodpkdajbnceoaaGreatDoorPart34
import Derived.Test.YtodpkdajbnceoaaGreatDoorPart35
import Derived.Test.YtodpkdajbnceoaaGreatDoorPart36
import Derived.Test.YtodpkdajbnceoaaGreatDoorPart37
set_option linter.unusedVariables false
set_option linter.unusedSimpArgs false
namespace Go.Proofs.YtodpkdajbnceoaaGreatDoor
open Go

/-! The closed facts of a row, one by one (all at once they want more memory than there is). -/

theorem joined_of {P : Program} {f : FuncId} {fn : Func} {s : ChangeSpec} {c : OpenClaim} (k0 : (c.wf (OpenSpec.ofChange s)) = true) (k1 : (laidOutB P) = true) (k2 : (mapsRowed P) = true) (k3 : (fn.params.all (P.readableRec ·)) = true) (k4 : (namedTie P c.named s.vars) = true) (k5 : (c.stops == []) = true) (k6 : (P.stops == []) = true) (k7 : (c.knobs == []) = true) (k8 : (P.stopKnobs == []) = true) (k9 : (c.inPlace == P.inPlace f) = true) (k10 : (c.unfollowed == P.unfollowed f) = true) (k11 : (c.recurses == P.recurses f) = true) (k12 : (c.named == P.varsNamed f) = true) (k13 : (c.maps == (fn.params.toList ++ s.plain.varTypes P).any (P.mapsRec ·)) = true) (k14 : (c.ifaces == (fn.params.toList ++ s.plain.varTypes P).any (P.ifacesRec ·)) = true) (k15 : (c.mapsOut == P.mapsAmong fn.resultTypes.toList) = true) (k16 : (c.loops == (fn.params.toList ++ s.plain.varTypes P).any (P.loopsFrom ·)) = true) (k17 : (c.wideKeys == (fn.params.toList ++ s.plain.varTypes P ++ fn.resultTypes.toList).any (P.wideKeysFrom ·)) = true) (k18 : (s.vars.all (P.varReadable ·)) = true) (k19 : (fn.resultTypes.all (fun t => P.readableRec t && decide (t < P.types.size))) = true) (k20 : (c.ifacesOut == fn.resultTypes.toList.any (P.ifacesRec ·)) = true) (k21 : (c.loopsOut == fn.resultTypes.toList.any (P.loopsFrom ·)) = true) (k22 : (c.plainKeys == P.plainKeys) = true) (k23 : (c.shortTexts.isNone) = true) (k24 : (P.stopsHeard) = true) (k25 : (P.mayEnter) = true) (k26 : (c.lifted == P.liftsFinal) = true) (k27 : (P.make == some c.make) = true) (k28 : c.domain.isEmpty = true) (k28b : (c.kinds == []) = true) (k29 : (c.pinned == c.pinnedBy) = true) (k30 : (c.veiled == (fn.params.toList ++ s.plain.varTypes P ++ fn.resultTypes.toList).any (P.veiledRec ·)) = true) (k31 : (c.veiledFits P fn.params.toList (fn.params.toList ++ s.plain.varTypes P ++ fn.resultTypes.toList)) = true) : joinedFacts P f fn s c = true := by
  unfold joinedFacts
  simp only [k0, k1, k2, k3, k4, k5, k6, k7, k8, k9, k10, k11, k12, k13, k14, k15, k16, k17, k18, k19, k20, k21, k22, k23, k24, k25, k26, k27, k29, k30, k31, Bool.and_self, Bool.true_and, Bool.and_true]
  rw [if_pos k28]
  exact k28b

end Go.Proofs.YtodpkdajbnceoaaGreatDoor

namespace Go.Proofs.YtodpkdajbnceoaaGreatDoor
open Go

theorem jR_all : joinedFacts Tryz.pinned.checked.prog 3 Tryz.f3 Rows.readsSpec Rows.readsRow = true :=
  joined_of jR_0 jR_1 jR_2 jR_3 jR_4 jR_5 jR_6 jR_7 jR_8 jR_9 jR_10 jR_11 jR_12 jR_13 jR_14 jR_15 jR_16 jR_17 jR_18 jR_19 jR_20 jR_21 jR_22 jR_23 jR_24 jR_25 jR_26 jR_27 jR_28 jR_28b jR_29 jR_30 jR_31

end Go.Proofs.YtodpkdajbnceoaaGreatDoor
