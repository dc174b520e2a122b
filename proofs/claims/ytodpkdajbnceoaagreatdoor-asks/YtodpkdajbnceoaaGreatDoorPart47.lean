import Derived.Test.YtodpkdajbnceoaaGreatDoorPart46
set_option linter.all false
set_option maxRecDepth 100000
namespace Go.Proofs.YtodpkdajbnceoaaGreatDoor
open Go
theorem goes_none {P : Program} (h : P.funcs.any Func.goes = false) (f : FuncId) : P.goes f = false := by
  have h1 : ∀ g : Nat, (P.funcs[g]?).any Func.goes = false := fun g => by
    cases q : P.funcs[g]? with
    | none => rfl
    | some x =>
      obtain ⟨hl, e⟩ := Array.getElem?_eq_some_iff.1 q
      have := Array.any_eq_false.1 h g hl
      rw [e] at this
      simpa using this
  unfold Program.goes
  rw [h, Bool.and_false, Bool.or_false]
  simp [h1]
theorem goes_no : Tryz.pinned.checked.prog.funcs.any Func.goes = false := by kernel_rfl
theorem jA_g : false = Rows.asksRow.goesBy Tryz.pinned.checked.prog := by
  have h1 : Tryz.pinned.checked.prog.goesFrom Rows.asksRow.func = false := by
    unfold Program.goesFrom
    rw [jA_f, Option.any_some]
    exact goes_none goes_no _
  have h2 : Rows.asksRow.start = .entering := rfl
  unfold OpenClaim.goesBy Program.goesAt
  rw [h1, h2]; rfl
end Go.Proofs.YtodpkdajbnceoaaGreatDoor
