import Derived.Test.YtodpkdajbnceoaaGreatDoorRows
import Derived.JoinedOf
set_option linter.all false
namespace Go.Proofs.YtodpkdajbnceoaaGreatDoor
open Go
theorem jA_16 : (Rows.asksRow.loops == (Tryz.f5.params.toList ++ Rows.asksSpec.plain.varTypes Tryz.pinned.checked.prog).any (Tryz.pinned.checked.prog.loopsFrom ·)) = true := by kernel_rfl
theorem jA_17 : (Rows.asksRow.wideKeys == (Tryz.f5.params.toList ++ Rows.asksSpec.plain.varTypes Tryz.pinned.checked.prog ++ Tryz.f5.resultTypes.toList).any (Tryz.pinned.checked.prog.wideKeysFrom ·)) = true := by kernel_rfl
theorem jA_18 : (Rows.asksSpec.vars.all (Tryz.pinned.checked.prog.varReadable ·)) = true := by kernel_rfl
theorem jA_19 : (Tryz.f5.resultTypes.all (fun t => Tryz.pinned.checked.prog.readableRec t && decide (t < Tryz.pinned.checked.prog.types.size))) = true := by kernel_rfl
theorem jA_20 : (Rows.asksRow.ifacesOut == Tryz.f5.resultTypes.toList.any (Tryz.pinned.checked.prog.ifacesRec ·)) = true := by kernel_rfl
theorem jA_21 : (Rows.asksRow.loopsOut == Tryz.f5.resultTypes.toList.any (Tryz.pinned.checked.prog.loopsFrom ·)) = true := by kernel_rfl
theorem jA_22 : (Rows.asksRow.plainKeys == Tryz.pinned.checked.prog.plainKeys) = true := by kernel_rfl
theorem jA_23 : (Rows.asksRow.shortTexts.isNone) = true := by kernel_rfl
theorem jA_24 : (Tryz.pinned.checked.prog.stopsHeard) = true := by kernel_rfl
theorem jA_25 : (Tryz.pinned.checked.prog.mayEnter) = true := by kernel_rfl
theorem jA_26 : (Rows.asksRow.lifted == Tryz.pinned.checked.prog.liftsFinal) = true := by kernel_rfl
theorem jA_27 : (Tryz.pinned.checked.prog.make == some Rows.asksRow.make) = true := by kernel_rfl
theorem jA_28 : Rows.asksRow.domain.isEmpty = true := by kernel_rfl
theorem jA_28b : (Rows.asksRow.kinds == []) = true := by kernel_rfl
theorem jA_29 : (Rows.asksRow.pinned == Rows.asksRow.pinnedBy) = true := by kernel_rfl
theorem jA_30 : (Rows.asksRow.veiled == (Tryz.f5.params.toList ++ Rows.asksSpec.plain.varTypes Tryz.pinned.checked.prog ++ Tryz.f5.resultTypes.toList).any (Tryz.pinned.checked.prog.veiledRec ·)) = true := by kernel_rfl
theorem jA_31 : (Rows.asksRow.veiledFits Tryz.pinned.checked.prog Tryz.f5.params.toList (Tryz.f5.params.toList ++ Rows.asksSpec.plain.varTypes Tryz.pinned.checked.prog ++ Tryz.f5.resultTypes.toList)) = true := by kernel_rfl
end Go.Proofs.YtodpkdajbnceoaaGreatDoor
