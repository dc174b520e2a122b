import Derived.Test.YtodpkdajbnceoaaGreatDoorPart44
import Derived.Test.YtodpkdajbnceoaaGreatDoorRows
import Derived.LaidLaws
import Derived.LaidMore
import Derived.LaidHandle
set_option linter.unusedVariables false
set_option linter.unusedSimpArgs false
namespace Go.Proofs.YtodpkdajbnceoaaGreatDoor
open Go

theorem doorR_c (os : Os) (args : Array Value) : (Rows.readsRow.laid.filter fun x => x.2.handleName?.isSome && x.2.funcsIn?.isNone).all (handleAtB Tryz.prog ((World.doorLaid Tryz.prog 400 os).forCall (fun _ _ => 0) ⟨#[], args, []⟩).memory) = true := by kernel_rfl
theorem doorR_d (os : Os) (args : Array Value) : funcsRun Tryz.prog ((World.doorLaid Tryz.prog 400 os).forCall (fun _ _ => 0) ⟨#[], args, []⟩).memory 8 ((funcsListed Rows.readsRow.laid).map (·.1)) = some ((funcsListed Rows.readsRow.laid).map (·.2.funcsOut)) := by kernel_rfl

theorem door_met (os : Os) (args : Array Value) : laidMetH Tryz.prog Rows.readsRow.laid ((World.doorLaid Tryz.prog 400 os).forCall (fun _ _ => 0) ⟨#[], args, []⟩).memory :=
  laidMetH_of_parts3 (fuel := 8) (laidMet_of_run' 8 (doorR_a os args) (doorR_b os args)) (doorR_c os args) (doorR_d os args)

end Go.Proofs.YtodpkdajbnceoaaGreatDoor

namespace Go.Proofs.YtodpkdajbnceoaaGreatDoor
open Go

/-! The door's world, with a text as its argument. -/

theorem doorS_a (os : Os) : ((World.doorLaid Tryz.prog 400 os).forCall (fun _ _ => 0) ⟨#[], #[.string ByteArray.empty], []⟩).variablesRefB Tryz.prog = true := by kernel_rfl

end Go.Proofs.YtodpkdajbnceoaaGreatDoor
