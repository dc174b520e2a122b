import Derived.Test.YtodpkdajbnceoaaGreatDoorRows
import Derived.JoinedOf
set_option linter.all false
namespace Go.Proofs.YtodpkdajbnceoaaGreatDoor
open Go
theorem jA_9 : (Rows.asksRow.inPlace == Tryz.pinned.checked.prog.inPlace 5) = true := by kernel_rfl
theorem jA_10 : (Rows.asksRow.unfollowed == Tryz.pinned.checked.prog.unfollowed 5) = true := by kernel_rfl
theorem jA_11 : (Rows.asksRow.recurses == Tryz.pinned.checked.prog.recurses 5) = true := by kernel_rfl
theorem jA_12 : (Rows.asksRow.named == Tryz.pinned.checked.prog.varsNamed 5) = true := by kernel_rfl
end Go.Proofs.YtodpkdajbnceoaaGreatDoor
