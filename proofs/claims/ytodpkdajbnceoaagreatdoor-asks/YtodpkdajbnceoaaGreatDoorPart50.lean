import Derived.Test.YtodpkdajbnceoaaGreatDoorPart48
import Derived.Test.YtodpkdajbnceoaaGreatDoorPart49
set_option linter.all false
namespace Go.Proofs.YtodpkdajbnceoaaGreatDoor
open Go
theorem tieA_2 : ∀ os tape, (DataW.laidRun Tryz.prog (varsWorld Tryz.prog 400 (varsId Tryz.prog) os tape).memory 8 ((asksLaid.filter fun x => x.2.handleName?.isNone).map (·.1))).map (fun x => decide x.2.Nodup && laidRowsB Tryz.prog (varsWorld Tryz.prog 400 (varsId Tryz.prog) os tape).memory x.2) = some true := fun _ _ => by kernel_rfl
theorem tieA_3 : ∀ os tape, (asksLaid.filter fun x => x.2.handleName?.isSome).all (handleAtB Tryz.prog (varsWorld Tryz.prog 400 (varsId Tryz.prog) os tape).memory) = true := fun _ _ => by kernel_rfl
theorem tieA : Tryz.prog.laidByTextLater asksLaid asksKinds true :=
  Program.laidByTextLater_by_run_h 400 8 worded_t worded_f worded_r tieA_k varsNamed tieA_n varsDone_t tieA_1 tieA_2 tieA_3
theorem pinA_1 : Tryz.pinned.checked.prog.pinnedFits "unicode/utf8.first" = true := by kernel_rfl
theorem pinA_2 : Pinned.datum "unicode/utf8.first" = some Rows.laid_unicode_utf8_first := by kernel_rfl
theorem fitsA : Tryz.pinned.checked.prog.listedFits Rows.asksRow.laid = true := by
  unfold Program.listedFits
  rw [ownUnsafe_no]
  kernel_rfl
theorem asks_row_tied : Rows.asksRow.laidByTextAt .later Tryz.pinned [.data, .handle, .data, .data, .data, .sentinel, .sentinel, .pinned, .data] true :=
  OpenClaim.laidByTextAt_pinned rfl rfl tieA rfl rfl rfl rfl (fun y hy e => by
    simp only [Rows.asksRow, List.zip_cons_cons, List.zip_nil_right, List.mem_cons, List.mem_nil_iff, or_false] at hy
    rcases hy with rfl | rfl | rfl | rfl | rfl | rfl | rfl | rfl | rfl
    · cases e
    · cases e
    · cases e
    · cases e
    · cases e
    · cases e
    · cases e
    · exact ⟨pinA_1, pinA_2⟩
    · cases e) fitsA
end Go.Proofs.YtodpkdajbnceoaaGreatDoor
