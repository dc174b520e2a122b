import Derived.Test.YtodpkdajbnceoaaGreatDoorRows
import Derived.LaidByTextLater
import Derived.SevenTiedAt
set_option linter.unusedVariables false
set_option linter.unusedSimpArgs false
namespace Go.Proofs.YtodpkdajbnceoaaGreatDoor
open Go

theorem tieL_k : Rows.loadsRow.laid.map (fun x => Tryz.prog.kindOfLater x.1) = ([.data, .handle] : List LaidKind).map some := by kernel_rfl
theorem tieL_n : varsNamedLaterB Tryz.prog (varsId Tryz.prog) Rows.loadsRow.laid = true := by kernel_rfl
theorem tieL_1 : ∀ os tape, (DataW.laidRun Tryz.prog (varsWorld Tryz.prog 400 (varsId Tryz.prog) os tape).memory 8 ((Rows.loadsRow.laid.filter fun x => x.2.handleName?.isNone).map (·.1))).map (·.1) = some (Rows.loadsRow.laid.filter fun x => x.2.handleName?.isNone) := fun _ _ => by kernel_rfl

end Go.Proofs.YtodpkdajbnceoaaGreatDoor
