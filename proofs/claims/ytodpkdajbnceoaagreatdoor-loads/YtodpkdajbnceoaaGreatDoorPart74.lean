import Derived.Test.YtodpkdajbnceoaaGreatDoorPart72
import Derived.Test.YtodpkdajbnceoaaGreatDoorPart73
import Derived.LaidByTextLater
import Derived.SevenTiedAt
set_option linter.unusedVariables false
set_option linter.unusedSimpArgs false
namespace Go.Proofs.YtodpkdajbnceoaaGreatDoor
open Go

theorem tieL_2 : ∀ os tape, (DataW.laidRun Tryz.prog (varsWorld Tryz.prog 400 (varsId Tryz.prog) os tape).memory 8 ((Rows.loadsRow.laid.filter fun x => x.2.handleName?.isNone).map (·.1))).map (fun x => decide x.2.Nodup && laidRowsB Tryz.prog (varsWorld Tryz.prog 400 (varsId Tryz.prog) os tape).memory x.2) = some true := fun _ _ => by kernel_rfl
theorem tieL_3 : ∀ os tape, (Rows.loadsRow.laid.filter fun x => x.2.handleName?.isSome).all (handleAtB Tryz.prog (varsWorld Tryz.prog 400 (varsId Tryz.prog) os tape).memory) = true := fun _ _ => by kernel_rfl

theorem tieL : Tryz.prog.laidByTextLater Rows.loadsRow.laid [.data, .handle] true :=
  Program.laidByTextLater_by_run_h 400 8 worded_t worded_f worded_r tieL_k varsNamed tieL_n varsDone_t tieL_1 tieL_2 tieL_3

theorem loads_row_tied : Rows.loadsRow.laidByTextAt .later Tryz.pinned [.data, .handle] true := OpenClaim.laidByTextAt_later rfl rfl tieL ownUnsafe_no

end Go.Proofs.YtodpkdajbnceoaaGreatDoor
