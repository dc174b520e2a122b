import Derived.Test.YtodpkdajbnceoaaGreatDoorCards
import Derived.SevenTiedAt
set_option linter.unusedVariables false
set_option linter.unusedSimpArgs false
namespace Go.Proofs.YtodpkdajbnceoaaGreatDoor
open Go

theorem jL_t : Rows.loadsRow.wfByText (OpenSpec.ofChange Rows.loadsSpec) = true := by kernel_rfl
theorem jL_g : false = Rows.loadsRow.goesBy Tryz.pinned.checked.prog := by kernel_rfl
theorem jL_h : (!Rows.loadsCard.stood.harness.1 && Rows.loadsCard.stood.harness.2.isEmpty && !Rows.loadsCard.stood.looks) = false := by kernel_rfl
theorem jL_m : Tryz.pinned.checked.prog.mainIs = some (Rows.loadsCard.stood.harness.1, Rows.loadsCard.stood.harness.2.toList) := by kernel_rfl

end Go.Proofs.YtodpkdajbnceoaaGreatDoor
