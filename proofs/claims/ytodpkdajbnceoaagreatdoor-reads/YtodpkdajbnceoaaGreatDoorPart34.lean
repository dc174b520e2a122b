import Derived.Test.YtodpkdajbnceoaaGreatDoorRows
import Derived.JoinedOf
set_option linter.unusedVariables false
set_option linter.unusedSimpArgs false
namespace Go.Proofs.YtodpkdajbnceoaaGreatDoor
open Go

theorem jR_0 : (Rows.readsRow.wf (OpenSpec.ofChange Rows.readsSpec)) = true := by kernel_rfl
theorem jR_1 : (laidOutB Tryz.pinned.checked.prog) = true := by kernel_rfl
theorem jR_2 : (mapsRowed Tryz.pinned.checked.prog) = true := by kernel_rfl
theorem jR_3 : (Tryz.f3.params.all (Tryz.pinned.checked.prog.readableRec ·)) = true := by kernel_rfl
theorem jR_4 : (namedTie Tryz.pinned.checked.prog Rows.readsRow.named Rows.readsSpec.vars) = true := by kernel_rfl
theorem jR_5 : (Rows.readsRow.stops == []) = true := by kernel_rfl
theorem jR_6 : (Tryz.pinned.checked.prog.stops == []) = true := by kernel_rfl
theorem jR_7 : (Rows.readsRow.knobs == []) = true := by kernel_rfl
theorem jR_8 : (Tryz.pinned.checked.prog.stopKnobs == []) = true := by kernel_rfl
theorem jR_13 : (Rows.readsRow.maps == (Tryz.f3.params.toList ++ Rows.readsSpec.plain.varTypes Tryz.pinned.checked.prog).any (Tryz.pinned.checked.prog.mapsRec ·)) = true := by kernel_rfl
theorem jR_14 : (Rows.readsRow.ifaces == (Tryz.f3.params.toList ++ Rows.readsSpec.plain.varTypes Tryz.pinned.checked.prog).any (Tryz.pinned.checked.prog.ifacesRec ·)) = true := by kernel_rfl
theorem jR_15 : (Rows.readsRow.mapsOut == Tryz.pinned.checked.prog.mapsAmong Tryz.f3.resultTypes.toList) = true := by kernel_rfl

end Go.Proofs.YtodpkdajbnceoaaGreatDoor
