import Derived.Test.YtodpkdajbnceoaaGreatDoorRows
import Derived.JoinedOf
set_option linter.unusedVariables false
set_option linter.unusedSimpArgs false
namespace Go.Proofs.YtodpkdajbnceoaaGreatDoor
open Go

theorem jR_16 : (Rows.readsRow.loops == (Tryz.f3.params.toList ++ Rows.readsSpec.plain.varTypes Tryz.pinned.checked.prog).any (Tryz.pinned.checked.prog.loopsFrom ·)) = true := by kernel_rfl
theorem jR_17 : (Rows.readsRow.wideKeys == (Tryz.f3.params.toList ++ Rows.readsSpec.plain.varTypes Tryz.pinned.checked.prog ++ Tryz.f3.resultTypes.toList).any (Tryz.pinned.checked.prog.wideKeysFrom ·)) = true := by kernel_rfl
theorem jR_18 : (Rows.readsSpec.vars.all (Tryz.pinned.checked.prog.varReadable ·)) = true := by kernel_rfl
theorem jR_19 : (Tryz.f3.resultTypes.all (fun t => Tryz.pinned.checked.prog.readableRec t && decide (t < Tryz.pinned.checked.prog.types.size))) = true := by kernel_rfl
theorem jR_20 : (Rows.readsRow.ifacesOut == Tryz.f3.resultTypes.toList.any (Tryz.pinned.checked.prog.ifacesRec ·)) = true := by kernel_rfl
theorem jR_21 : (Rows.readsRow.loopsOut == Tryz.f3.resultTypes.toList.any (Tryz.pinned.checked.prog.loopsFrom ·)) = true := by kernel_rfl
theorem jR_22 : (Rows.readsRow.plainKeys == Tryz.pinned.checked.prog.plainKeys) = true := by kernel_rfl
theorem jR_23 : (Rows.readsRow.shortTexts.isNone) = true := by kernel_rfl
theorem jR_24 : (Tryz.pinned.checked.prog.stopsHeard) = true := by kernel_rfl
theorem jR_25 : (Tryz.pinned.checked.prog.mayEnter) = true := by kernel_rfl
theorem jR_26 : (Rows.readsRow.lifted == Tryz.pinned.checked.prog.liftsFinal) = true := by kernel_rfl
theorem jR_27 : (Tryz.pinned.checked.prog.make == some Rows.readsRow.make) = true := by kernel_rfl
theorem jR_28 : Rows.readsRow.domain.isEmpty = true := by kernel_rfl
theorem jR_28b : (Rows.readsRow.kinds == []) = true := by kernel_rfl
theorem jR_29 : (Rows.readsRow.pinned == Rows.readsRow.pinnedBy) = true := by kernel_rfl
theorem jR_30 : (Rows.readsRow.veiled == (Tryz.f3.params.toList ++ Rows.readsSpec.plain.varTypes Tryz.pinned.checked.prog ++ Tryz.f3.resultTypes.toList).any (Tryz.pinned.checked.prog.veiledRec ·)) = true := by kernel_rfl
theorem jR_31 : (Rows.readsRow.veiledFits Tryz.pinned.checked.prog Tryz.f3.params.toList (Tryz.f3.params.toList ++ Rows.readsSpec.plain.varTypes Tryz.pinned.checked.prog ++ Tryz.f3.resultTypes.toList)) = true := by kernel_rfl

end Go.Proofs.YtodpkdajbnceoaaGreatDoor
