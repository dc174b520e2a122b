import Derived.Test.YtodpkdajbnceoaaGreatDoorRows
import Derived.LaidLaws
import Derived.LaidMore
import Derived.LaidHandle
import Derived.Lay
set_option linter.all false
namespace Go.Proofs.YtodpkdajbnceoaaGreatDoor
open Go
def asksData : List (String × DataW Unit) := Rows.asksRow.laid.filter fun x => x.2.handleName?.isNone
noncomputable def door0 (os : Os) : World := (World.holding Tryz.prog os ⟨#[], #[], []⟩).setCell ⟨0, 0, none⟩ (.iface 313 (.agg #[.pointer (some ⟨10, 90, none⟩)]))
noncomputable def doorA (os : Os) : World := (door0 os).layVars Tryz.prog asksData
noncomputable def doorC (os : Os) (args : Array Value) : World := ((doorA os).forCall (fun _ _ => 0) ⟨#[], args, []⟩).memory
theorem doorA_f (os : Os) : (door0 os).layFits Tryz.prog asksData [] = true := by kernel_rfl
theorem doorA_i (os : Os) : (door0 os).layIfaces Tryz.prog asksData (doorA os) = true := by kernel_rfl
end Go.Proofs.YtodpkdajbnceoaaGreatDoor
