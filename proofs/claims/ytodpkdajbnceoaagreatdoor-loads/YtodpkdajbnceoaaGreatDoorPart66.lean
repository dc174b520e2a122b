import Derived.Test.YtodpkdajbnceoaaGreatDoorRows
import Derived.JoinedOf
set_option linter.unusedVariables false
set_option linter.unusedSimpArgs false
namespace Go.Proofs.YtodpkdajbnceoaaGreatDoor
open Go

theorem jL_0 : (Rows.loadsRow.wf (OpenSpec.ofChange Rows.loadsSpec)) = true := by kernel_rfl
theorem jL_1 : (laidOutB Tryz.pinned.checked.prog) = true := by kernel_rfl
theorem jL_2 : (mapsRowed Tryz.pinned.checked.prog) = true := by kernel_rfl
theorem jL_3 : (Tryz.f4.params.all (Tryz.pinned.checked.prog.readableRec ·)) = true := by kernel_rfl
theorem jL_4 : (namedTie Tryz.pinned.checked.prog Rows.loadsRow.named Rows.loadsSpec.vars) = true := by kernel_rfl
theorem jL_5 : (Rows.loadsRow.stops == []) = true := by kernel_rfl
theorem jL_6 : (Tryz.pinned.checked.prog.stops == []) = true := by kernel_rfl
theorem jL_7 : (Rows.loadsRow.knobs == []) = true := by kernel_rfl
theorem jL_8 : (Tryz.pinned.checked.prog.stopKnobs == []) = true := by kernel_rfl
theorem jL_13 : (Rows.loadsRow.maps == (Tryz.f4.params.toList ++ Rows.loadsSpec.plain.varTypes Tryz.pinned.checked.prog).any (Tryz.pinned.checked.prog.mapsRec ·)) = true := by kernel_rfl
theorem jL_14 : (Rows.loadsRow.ifaces == (Tryz.f4.params.toList ++ Rows.loadsSpec.plain.varTypes Tryz.pinned.checked.prog).any (Tryz.pinned.checked.prog.ifacesRec ·)) = true := by kernel_rfl
theorem jL_15 : (Rows.loadsRow.mapsOut == Tryz.pinned.checked.prog.mapsAmong Tryz.f4.resultTypes.toList) = true := by kernel_rfl

end Go.Proofs.YtodpkdajbnceoaaGreatDoor
