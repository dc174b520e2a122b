import Derived.Test.YtodpkdajbnceoaaGreatDoorCards
import Derived.SevenTiedAt
set_option linter.unusedVariables false
set_option linter.unusedSimpArgs false
namespace Go.Proofs.YtodpkdajbnceoaaGreatDoor
open Go

theorem jR_t : Rows.readsRow.wfByText (OpenSpec.ofChange Rows.readsSpec) = true := by kernel_rfl
theorem jR_g : false = Rows.readsRow.goesBy Tryz.pinned.checked.prog := by kernel_rfl
theorem jR_h : (!Rows.readsCard.stood.harness.1 && Rows.readsCard.stood.harness.2.isEmpty && !Rows.readsCard.stood.looks) = false := by kernel_rfl
theorem jR_m : Tryz.pinned.checked.prog.mainIs = some (Rows.readsCard.stood.harness.1, Rows.readsCard.stood.harness.2.toList) := by kernel_rfl

end Go.Proofs.YtodpkdajbnceoaaGreatDoor
