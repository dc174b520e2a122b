import Derived.Test.YtodpkdajbnceoaaGreatDoorPart51
set_option linter.all false
namespace Go.Proofs.YtodpkdajbnceoaaGreatDoor
open Go
theorem doorA_h (os : Os) (args : Array Value) : (Rows.asksRow.laid.filter fun x => x.2.handleName?.isSome && x.2.funcsIn?.isNone).all (handleAtB Tryz.prog (doorC os args)) = true := by kernel_rfl
theorem doorA_u (os : Os) (args : Array Value) : funcsRun Tryz.prog (doorC os args) 8 ((funcsListed Rows.asksRow.laid).map (·.1)) = some ((funcsListed Rows.asksRow.laid).map (·.2.funcsOut)) := by kernel_rfl
end Go.Proofs.YtodpkdajbnceoaaGreatDoor
