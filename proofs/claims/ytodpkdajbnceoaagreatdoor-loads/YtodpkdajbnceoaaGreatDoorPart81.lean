import Derived.Test.YtodpkdajbnceoaaGreatDoorPart79
import Derived.Test.YtodpkdajbnceoaaGreatDoorPart80
import Derived.Test.YtodpkdajbnceoaaGreatDoorPart74
import Derived.Test.YtodpkdajbnceoaaGreatDoorPart71
set_option linter.unusedVariables false
set_option linter.unusedSimpArgs false
namespace Go.Proofs.YtodpkdajbnceoaaGreatDoor
open Go.ChangeShapes Go.WideShapes Go.ChangeAt Go.RowKit
open Go.ChangeMaps (open_string shut_string)

theorem loads_card_holds : Rows.LoadsCardSaid :=
  Claim7.holds_tied_plain_at .later [] _ _ Rows.loadsCard.stood.harness Rows.loadsCard.stood.looks loads_holds (fun _ h => by cases h) jL_t (fun _ h => by cases h) loads_row_tied rfl ⟨rfl, rfl⟩ jL_m jL_h loads_plain jL_g

#print axioms loads_card_holds

end Go.Proofs.YtodpkdajbnceoaaGreatDoor
