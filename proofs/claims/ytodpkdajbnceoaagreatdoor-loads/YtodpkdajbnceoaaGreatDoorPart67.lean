import Derived.Test.YtodpkdajbnceoaaGreatDoorRows
import Derived.JoinedOf
set_option linter.unusedVariables false
set_option linter.unusedSimpArgs false
namespace Go.Proofs.YtodpkdajbnceoaaGreatDoor
open Go

theorem jL_16 : (Rows.loadsRow.loops == (Tryz.f4.params.toList ++ Rows.loadsSpec.plain.varTypes Tryz.pinned.checked.prog).any (Tryz.pinned.checked.prog.loopsFrom ·)) = true := by kernel_rfl
theorem jL_17 : (Rows.loadsRow.wideKeys == (Tryz.f4.params.toList ++ Rows.loadsSpec.plain.varTypes Tryz.pinned.checked.prog ++ Tryz.f4.resultTypes.toList).any (Tryz.pinned.checked.prog.wideKeysFrom ·)) = true := by kernel_rfl
theorem jL_18 : (Rows.loadsSpec.vars.all (Tryz.pinned.checked.prog.varReadable ·)) = true := by kernel_rfl
theorem jL_19 : (Tryz.f4.resultTypes.all (fun t => Tryz.pinned.checked.prog.readableRec t && decide (t < Tryz.pinned.checked.prog.types.size))) = true := by kernel_rfl
theorem jL_20 : (Rows.loadsRow.ifacesOut == Tryz.f4.resultTypes.toList.any (Tryz.pinned.checked.prog.ifacesRec ·)) = true := by kernel_rfl
theorem jL_21 : (Rows.loadsRow.loopsOut == Tryz.f4.resultTypes.toList.any (Tryz.pinned.checked.prog.loopsFrom ·)) = true := by kernel_rfl
theorem jL_22 : (Rows.loadsRow.plainKeys == Tryz.pinned.checked.prog.plainKeys) = true := by kernel_rfl
theorem jL_23 : (Rows.loadsRow.shortTexts.isNone) = true := by kernel_rfl
theorem jL_24 : (Tryz.pinned.checked.prog.stopsHeard) = true := by kernel_rfl
theorem jL_25 : (Tryz.pinned.checked.prog.mayEnter) = true := by kernel_rfl
theorem jL_26 : (Rows.loadsRow.lifted == Tryz.pinned.checked.prog.liftsFinal) = true := by kernel_rfl
theorem jL_27 : (Tryz.pinned.checked.prog.make == some Rows.loadsRow.make) = true := by kernel_rfl
theorem jL_28 : Rows.loadsRow.domain.isEmpty = true := by kernel_rfl
theorem jL_28b : (Rows.loadsRow.kinds == []) = true := by kernel_rfl
theorem jL_29 : (Rows.loadsRow.pinned == Rows.loadsRow.pinnedBy) = true := by kernel_rfl
theorem jL_30 : (Rows.loadsRow.veiled == (Tryz.f4.params.toList ++ Rows.loadsSpec.plain.varTypes Tryz.pinned.checked.prog ++ Tryz.f4.resultTypes.toList).any (Tryz.pinned.checked.prog.veiledRec ·)) = true := by kernel_rfl
theorem jL_31 : (Rows.loadsRow.veiledFits Tryz.pinned.checked.prog Tryz.f4.params.toList (Tryz.f4.params.toList ++ Rows.loadsSpec.plain.varTypes Tryz.pinned.checked.prog ++ Tryz.f4.resultTypes.toList)) = true := by kernel_rfl

end Go.Proofs.YtodpkdajbnceoaaGreatDoor
