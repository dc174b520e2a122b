import Derived.Test.YtodpkdajbnceoaaGreatDoorRows
import Derived.JoinedOf
set_option linter.all false
namespace Go.Proofs.YtodpkdajbnceoaaGreatDoor
open Go
theorem jA_0 : (Rows.asksRow.wf (OpenSpec.ofChange Rows.asksSpec)) = true := by kernel_rfl
theorem jA_1 : (laidOutB Tryz.pinned.checked.prog) = true := by kernel_rfl
theorem jA_2 : (mapsRowed Tryz.pinned.checked.prog) = true := by kernel_rfl
theorem jA_3 : (Tryz.f5.params.all (Tryz.pinned.checked.prog.readableRec ·)) = true := by kernel_rfl
theorem jA_4 : (namedTie Tryz.pinned.checked.prog Rows.asksRow.named Rows.asksSpec.vars) = true := by kernel_rfl
theorem jA_5 : (Rows.asksRow.stops == []) = true := by kernel_rfl
theorem jA_6 : (Tryz.pinned.checked.prog.stops == []) = true := by kernel_rfl
theorem jA_7 : (Rows.asksRow.knobs == []) = true := by kernel_rfl
theorem jA_8 : (Tryz.pinned.checked.prog.stopKnobs == []) = true := by kernel_rfl
theorem jA_13 : (Rows.asksRow.maps == (Tryz.f5.params.toList ++ Rows.asksSpec.plain.varTypes Tryz.pinned.checked.prog).any (Tryz.pinned.checked.prog.mapsRec ·)) = true := by kernel_rfl
theorem jA_14 : (Rows.asksRow.ifaces == (Tryz.f5.params.toList ++ Rows.asksSpec.plain.varTypes Tryz.pinned.checked.prog).any (Tryz.pinned.checked.prog.ifacesRec ·)) = true := by kernel_rfl
theorem jA_15 : (Rows.asksRow.mapsOut == Tryz.pinned.checked.prog.mapsAmong Tryz.f5.resultTypes.toList) = true := by kernel_rfl
end Go.Proofs.YtodpkdajbnceoaaGreatDoor
