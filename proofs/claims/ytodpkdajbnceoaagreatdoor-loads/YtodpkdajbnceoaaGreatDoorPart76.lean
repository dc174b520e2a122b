import Derived.Test.YtodpkdajbnceoaaGreatDoorPart75
import Derived.Test.YtodpkdajbnceoaaGreatDoorRows
import Derived.LaidLaws
import Derived.LaidMore
import Derived.LaidHandle
set_option linter.unusedVariables false
set_option linter.unusedSimpArgs false
namespace Go.Proofs.YtodpkdajbnceoaaGreatDoor
open Go

theorem doorL_c (os : Os) (args : Array Value) : (Rows.loadsRow.laid.filter fun x => x.2.handleName?.isSome && x.2.funcsIn?.isNone).all (handleAtB Tryz.prog ((World.doorLaid Tryz.prog 400 os).forCall (fun _ _ => 0) ⟨#[], args, []⟩).memory) = true := by kernel_rfl
theorem doorL_d (os : Os) (args : Array Value) : funcsRun Tryz.prog ((World.doorLaid Tryz.prog 400 os).forCall (fun _ _ => 0) ⟨#[], args, []⟩).memory 8 ((funcsListed Rows.loadsRow.laid).map (·.1)) = some ((funcsListed Rows.loadsRow.laid).map (·.2.funcsOut)) := by kernel_rfl

theorem doorL_met (os : Os) (args : Array Value) : laidMetH Tryz.prog Rows.loadsRow.laid ((World.doorLaid Tryz.prog 400 os).forCall (fun _ _ => 0) ⟨#[], args, []⟩).memory :=
  laidMetH_of_parts3 (fuel := 8) (laidMet_of_run' 8 (doorL_a os args) (doorL_b os args)) (doorL_c os args) (doorL_d os args)

end Go.Proofs.YtodpkdajbnceoaaGreatDoor

namespace Go.Proofs.YtodpkdajbnceoaaGreatDoor
open Go

/-! The door's world, with a text as its argument. -/

theorem doorS_a (os : Os) : ((World.doorLaid Tryz.prog 400 os).forCall (fun _ _ => 0) ⟨#[], #[.string ByteArray.empty], []⟩).variablesRefB Tryz.prog = true := by kernel_rfl

end Go.Proofs.YtodpkdajbnceoaaGreatDoor
