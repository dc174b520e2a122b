import Derived.Test.YtodpkdajbnceoaaGreatDoorPart43
import Derived.Test.YtodpkdajbnceoaaGreatDoorPart44
import Derived.Test.YtodpkdajbnceoaaGreatDoorPart45
import Derived.Test.YtodpkdajbnceoaaGreatDoorCards
import Derived.SevenTiedAt
set_option linter.all false
namespace Go.Proofs.YtodpkdajbnceoaaGreatDoor
open Go
theorem jA_f : Tryz.pinned.checked.prog.funcNamed Rows.asksRow.func = some 5 := by kernel_rfl
theorem jA_i : Tryz.f5.isInstance Tryz.pinned.checked.prog Rows.asksRow.origin Rows.asksRow.targs := of_decide_eq_true (by kernel_rfl)
theorem jA_w : Tryz.f5.isWrapper Tryz.pinned.checked.prog Rows.asksRow.wrapper Rows.asksRow.mainSum := by unfold Func.isWrapper; rw [if_neg (of_decide_eq_false (by kernel_rfl))]; exact ⟨rfl, rfl⟩
theorem joined_of {P : Program} {f : FuncId} {fn : Func} {s : ChangeSpec} {c : OpenClaim} (k0 : (c.wf (OpenSpec.ofChange s)) = true) (k1 : (laidOutB P) = true) (k2 : (mapsRowed P) = true) (k3 : (fn.params.all (P.readableRec ·)) = true) (k4 : (namedTie P c.named s.vars) = true) (k5 : (c.stops == []) = true) (k6 : (P.stops == []) = true) (k7 : (c.knobs == []) = true) (k8 : (P.stopKnobs == []) = true) (k9 : (c.inPlace == P.inPlace f) = true) (k10 : (c.unfollowed == P.unfollowed f) = true) (k11 : (c.recurses == P.recurses f) = true) (k12 : (c.named == P.varsNamed f) = true) (k13 : (c.maps == (fn.params.toList ++ s.plain.varTypes P).any (P.mapsRec ·)) = true) (k14 : (c.ifaces == (fn.params.toList ++ s.plain.varTypes P).any (P.ifacesRec ·)) = true) (k15 : (c.mapsOut == P.mapsAmong fn.resultTypes.toList) = true) (k16 : (c.loops == (fn.params.toList ++ s.plain.varTypes P).any (P.loopsFrom ·)) = true) (k17 : (c.wideKeys == (fn.params.toList ++ s.plain.varTypes P ++ fn.resultTypes.toList).any (P.wideKeysFrom ·)) = true) (k18 : (s.vars.all (P.varReadable ·)) = true) (k19 : (fn.resultTypes.all (fun t => P.readableRec t && decide (t < P.types.size))) = true) (k20 : (c.ifacesOut == fn.resultTypes.toList.any (P.ifacesRec ·)) = true) (k21 : (c.loopsOut == fn.resultTypes.toList.any (P.loopsFrom ·)) = true) (k22 : (c.plainKeys == P.plainKeys) = true) (k23 : (c.shortTexts.isNone) = true) (k24 : (P.stopsHeard) = true) (k25 : (P.mayEnter) = true) (k26 : (c.lifted == P.liftsFinal) = true) (k27 : (P.make == some c.make) = true) (k28 : c.domain.isEmpty = true) (k28b : (c.kinds == []) = true) (k29 : (c.pinned == c.pinnedBy) = true) (k30 : (c.veiled == (fn.params.toList ++ s.plain.varTypes P ++ fn.resultTypes.toList).any (P.veiledRec ·)) = true) (k31 : (c.veiledFits P fn.params.toList (fn.params.toList ++ s.plain.varTypes P ++ fn.resultTypes.toList)) = true) : joinedFacts P f fn s c = true := by
  unfold joinedFacts
  simp only [k0, k1, k2, k3, k4, k5, k6, k7, k8, k9, k10, k11, k12, k13, k14, k15, k16, k17, k18, k19, k20, k21, k22, k23, k24, k25, k26, k27, k29, k30, k31, Bool.and_self, Bool.true_and, Bool.and_true]
  rw [if_pos k28]
  exact k28b
theorem jA_all : joinedFacts Tryz.pinned.checked.prog 5 Tryz.f5 Rows.asksSpec Rows.asksRow = true :=
  joined_of jA_0 jA_1 jA_2 jA_3 jA_4 jA_5 jA_6 jA_7 jA_8 jA_9 jA_10 jA_11 jA_12 jA_13 jA_14 jA_15 jA_16 jA_17 jA_18 jA_19 jA_20 jA_21 jA_22 jA_23 jA_24 jA_25 jA_26 jA_27 jA_28 jA_28b jA_29 jA_30 jA_31
theorem jA_t : Rows.asksRow.wfByText (OpenSpec.ofChange Rows.asksSpec) = true := by kernel_rfl
theorem jA_h : (!Rows.asksCard.stood.harness.1 && Rows.asksCard.stood.harness.2.isEmpty && !Rows.asksCard.stood.looks) = false := by kernel_rfl
theorem jA_m : Tryz.pinned.checked.prog.mainIs = some (Rows.asksCard.stood.harness.1, Rows.asksCard.stood.harness.2.toList) := by kernel_rfl
end Go.Proofs.YtodpkdajbnceoaaGreatDoor
