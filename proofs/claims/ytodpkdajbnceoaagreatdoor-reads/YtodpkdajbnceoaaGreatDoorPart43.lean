import Derived.Test.YtodpkdajbnceoaaGreatDoorPart41
import Derived.Test.YtodpkdajbnceoaaGreatDoorPart42
import Derived.LaidByTextLater
import Derived.SevenTiedAt
set_option linter.unusedVariables false
set_option linter.unusedSimpArgs false
namespace Go.Proofs.YtodpkdajbnceoaaGreatDoor
open Go

theorem tieR_2 : ∀ os tape, (DataW.laidRun Tryz.prog (varsWorld Tryz.prog 400 (varsId Tryz.prog) os tape).memory 8 ((Rows.readsRow.laid.filter fun x => x.2.handleName?.isNone).map (·.1))).map (fun x => decide x.2.Nodup && laidRowsB Tryz.prog (varsWorld Tryz.prog 400 (varsId Tryz.prog) os tape).memory x.2) = some true := fun _ _ => by kernel_rfl
theorem tieR_3 : ∀ os tape, (Rows.readsRow.laid.filter fun x => x.2.handleName?.isSome).all (handleAtB Tryz.prog (varsWorld Tryz.prog 400 (varsId Tryz.prog) os tape).memory) = true := fun _ _ => by kernel_rfl

theorem tieR : Tryz.prog.laidByTextLater Rows.readsRow.laid [.data, .data, .data, .data, .handle] true :=
  Program.laidByTextLater_by_run_h 400 8 worded_t worded_f worded_r tieR_k varsNamed tieR_n varsDone_t tieR_1 tieR_2 tieR_3

theorem reads_row_tied : Rows.readsRow.laidByTextAt .later Tryz.pinned [.data, .data, .data, .data, .handle] true := OpenClaim.laidByTextAt_later rfl rfl tieR ownUnsafe_no

end Go.Proofs.YtodpkdajbnceoaaGreatDoor
