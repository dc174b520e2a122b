import Derived.Test.YtodpkdajbnceoaaGreatDoorRows
import Derived.JoinedOf
set_option linter.unusedVariables false
set_option linter.unusedSimpArgs false
namespace Go.Proofs.YtodpkdajbnceoaaGreatDoor
open Go

theorem jR_f : Tryz.pinned.checked.prog.funcNamed Rows.readsRow.func = some 3 := by kernel_rfl
theorem jR_i : Tryz.f3.isInstance Tryz.pinned.checked.prog Rows.readsRow.origin Rows.readsRow.targs := of_decide_eq_true (by kernel_rfl)
theorem jR_w : Tryz.f3.isWrapper Tryz.pinned.checked.prog Rows.readsRow.wrapper Rows.readsRow.mainSum := by unfold Func.isWrapper; rw [if_neg (of_decide_eq_false (by kernel_rfl))]; exact ⟨rfl, rfl⟩

end Go.Proofs.YtodpkdajbnceoaaGreatDoor
