import Derived.Test.YtodpkdajbnceoaaGreatDoorRows
import Derived.LaidByTextLater
import Derived.SevenTiedAt
set_option linter.all false
namespace Go.Proofs.YtodpkdajbnceoaaGreatDoor
open Go
theorem ownUnsafe_no : Tryz.pinned.checked.prog.headLifts.contains "ownunsafe" = false := by kernel_rfl
theorem worded_t : Tryz.prog.worded (varsWordLater true) = true := by kernel_rfl
theorem worded_f : Tryz.prog.worded (varsWordLater !true) = false := by kernel_rfl
theorem worded_r : Tryz.prog.worded rootWordLater = true := by kernel_rfl
theorem varsNamed : (Tryz.prog.funcNamed "gosem.cut.vars").isSome = true := by kernel_rfl
theorem varsDone_t : ∀ os tape, varsDone Tryz.prog 400 (varsId Tryz.prog) os tape = true := fun _ _ => by kernel_rfl
end Go.Proofs.YtodpkdajbnceoaaGreatDoor
