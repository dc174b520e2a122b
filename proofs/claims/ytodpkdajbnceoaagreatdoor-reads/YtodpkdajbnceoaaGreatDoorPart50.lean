import Derived.Test.YtodpkdajbnceoaaGreatDoorPart48
import Derived.Test.YtodpkdajbnceoaaGreatDoorPart49
import Derived.Test.YtodpkdajbnceoaaGreatDoorPart43
import Derived.Test.YtodpkdajbnceoaaGreatDoorPart40
import Derived.Test.YtodpkdajbnceoaaGreatDoorPart33
set_option linter.unusedVariables false
set_option linter.unusedSimpArgs false
namespace Go.Proofs.YtodpkdajbnceoaaGreatDoor
open Go.ChangeShapes Go.WideShapes Go.ChangeAt Go.RowKit
open Go.ChangeMaps (open_string shut_string)

theorem reads_card (hForm : FormsOk) : Rows.ReadsCardSaid :=
  Claim7.holds_tied_plain_at .later [] _ _ Rows.readsCard.stood.harness Rows.readsCard.stood.looks (reads_said hForm) (fun _ h => by cases h) jR_t (fun _ h => by cases h) reads_row_tied rfl ⟨rfl, rfl⟩ jR_m jR_h reads_plain jR_g

end Go.Proofs.YtodpkdajbnceoaaGreatDoor

namespace Go.Proofs.YtodpkdajbnceoaaGreatDoor

theorem reads_holds : Rows.ReadsSaid := reads_said form_ok

theorem reads_card_holds : Rows.ReadsCardSaid := reads_card form_ok

#print axioms reads_card_holds

end Go.Proofs.YtodpkdajbnceoaaGreatDoor
