import Derived.Test.YtodpkdajbnceoaaGreatDoorRows
import Derived.JoinedOf
import Derived.Test.YtodpkdajbnceoaaGreatDoorPart66
import Derived.Test.YtodpkdajbnceoaaGreatDoorPart67
import Derived.Test.YtodpkdajbnceoaaGreatDoorPart68
import Derived.Test.YtodpkdajbnceoaaGreatDoorPart69
set_option linter.unusedVariables false
set_option linter.unusedSimpArgs false
namespace Go.Proofs.YtodpkdajbnceoaaGreatDoor
open Go

theorem jL_f : Tryz.pinned.checked.prog.funcNamed Rows.loadsRow.func = some 4 := by kernel_rfl
theorem jL_i : Tryz.f4.isInstance Tryz.pinned.checked.prog Rows.loadsRow.origin Rows.loadsRow.targs := of_decide_eq_true (by kernel_rfl)
theorem jL_w : Tryz.f4.isWrapper Tryz.pinned.checked.prog Rows.loadsRow.wrapper Rows.loadsRow.mainSum := by unfold Func.isWrapper; rw [if_neg (of_decide_eq_false (by kernel_rfl))]; exact ⟨rfl, rfl⟩

end Go.Proofs.YtodpkdajbnceoaaGreatDoor

namespace Go.Proofs.YtodpkdajbnceoaaGreatDoor
open Go

/-! The closed facts of a row, one by one (all at once they want more memory than there is). -/

theorem joined_of {P : Program} {f : FuncId} {fn : Func} {s : ChangeSpec} {c : OpenClaim} (k0 : (c.wf (OpenSpec.ofChange s)) = true) (k1 : (laidOutB P) = true) (k2 : (mapsRowed P) = true) (k3 : (fn.params.all (P.readableRec ·)) = true) (k4 : (namedTie P c.named s.vars) = true) (k5 : (c.stops == []) = true) (k6 : (P.stops == []) = true) (k7 : (c.knobs == []) = true) (k8 : (P.stopKnobs == []) = true) (k9 : (c.inPlace == P.inPlace f) = true) (k10 : (c.unfollowed == P.unfollowed f) = true) (k11 : (c.recurses == P.recurses f) = true) (k12 : (c.named == P.varsNamed f) = true) (k13 : (c.maps == (fn.params.toList ++ s.plain.varTypes P).any (P.mapsRec ·)) = true) (k14 : (c.ifaces == (fn.params.toList ++ s.plain.varTypes P).any (P.ifacesRec ·)) = true) (k15 : (c.mapsOut == P.mapsAmong fn.resultTypes.toList) = true) (k16 : (c.loops == (fn.params.toList ++ s.plain.varTypes P).any (P.loopsFrom ·)) = true) (k17 : (c.wideKeys == (fn.params.toList ++ s.plain.varTypes P ++ fn.resultTypes.toList).any (P.wideKeysFrom ·)) = true) (k18 : (s.vars.all (P.varReadable ·)) = true) (k19 : (fn.resultTypes.all (fun t => P.readableRec t && decide (t < P.types.size))) = true) (k20 : (c.ifacesOut == fn.resultTypes.toList.any (P.ifacesRec ·)) = true) (k21 : (c.loopsOut == fn.resultTypes.toList.any (P.loopsFrom ·)) = true) (k22 : (c.plainKeys == P.plainKeys) = true) (k23 : (c.shortTexts.isNone) = true) (k24 : (P.stopsHeard) = true) (k25 : (P.mayEnter) = true) (k26 : (c.lifted == P.liftsFinal) = true) (k27 : (P.make == some c.make) = true) (k28 : c.domain.isEmpty = true) (k28b : (c.kinds == []) = true) (k29 : (c.pinned == c.pinnedBy) = true) (k30 : (c.veiled == (fn.params.toList ++ s.plain.varTypes P ++ fn.resultTypes.toList).any (P.veiledRec ·)) = true) (k31 : (c.veiledFits P fn.params.toList (fn.params.toList ++ s.plain.varTypes P ++ fn.resultTypes.toList)) = true) : joinedFacts P f fn s c = true := by
  unfold joinedFacts
  simp only [k0, k1, k2, k3, k4, k5, k6, k7, k8, k9, k10, k11, k12, k13, k14, k15, k16, k17, k18, k19, k20, k21, k22, k23, k24, k25, k26, k27, k29, k30, k31, Bool.and_self, Bool.true_and, Bool.and_true]
  rw [if_pos k28]
  exact k28b

end Go.Proofs.YtodpkdajbnceoaaGreatDoor

namespace Go.Proofs.YtodpkdajbnceoaaGreatDoor
open Go

theorem jL_all : joinedFacts Tryz.pinned.checked.prog 4 Tryz.f4 Rows.loadsSpec Rows.loadsRow = true :=
  joined_of jL_0 jL_1 jL_2 jL_3 jL_4 jL_5 jL_6 jL_7 jL_8 jL_9 jL_10 jL_11 jL_12 jL_13 jL_14 jL_15 jL_16 jL_17 jL_18 jL_19 jL_20 jL_21 jL_22 jL_23 jL_24 jL_25 jL_26 jL_27 jL_28 jL_28b jL_29 jL_30 jL_31

end Go.Proofs.YtodpkdajbnceoaaGreatDoor
