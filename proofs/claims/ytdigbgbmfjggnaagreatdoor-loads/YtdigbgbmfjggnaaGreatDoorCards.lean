/-
  DERIVED. GIVEN WITH THE SEED: THE CARDS: each row of YtdigbgbmfjggnaaGreatDoorRows.lean that lists a variable, with what it lists TIED to the program's text (the seventh form; the later family's looks); each row that meets fmt, with fmt's text TOLD by the authors' own Lean function (tested against real Go, not proved from fmt's source: count such statements apart). THE CARD IS WHAT COUNTS. Prove the row's statement (the work); the ties are given (YtdigbgbmfjggnaaGreatDoorTie.lean); close each card by the builder's one call (the guide's Derived/Test/ToyasCard.lean, 'card_holds'). Laid BY PROGRAM, IN A SANDBOX (cutbox-door.mjs). By AI agents, Wed Nov 11 2026. No macro, syntax, notation, axiom, sorry.
-/
import Derived.Test.YtdigbgbmfjggnaaGreatDoorRows
import GoSem.ClaimSeven
namespace Go.Proofs.YtdigbgbmfjggnaaGreatDoor
namespace Rows

/-- THE TIED CARD OF 'hornlaw.Reads'. -/
def readsCard : Claim7 := { stood := { row := readsRow, standIns := [], harness := (true, "83c1115cc30ac34c7d0ad7c85ef636569795238069f12b83b0653b4ba4bed462"), looks := true }, kinds := [], alts := [], laidByText := true, laidKinds := [.data, .data, .data, .handle, .data], laidTests := true, laidLooks := .later }
def ReadsCardSaid : Prop := Claim7.holds Tryz.pinned (.plain (OpenSpec.ofChange readsSpec)) readsCard

/-- THE TIED CARD OF 'hornlaw.Loads'. -/
def loadsCard : Claim7 := { stood := { row := loadsRow, standIns := [], harness := (true, "83c1115cc30ac34c7d0ad7c85ef636569795238069f12b83b0653b4ba4bed462"), looks := true }, kinds := [], alts := [], laidByText := true, laidKinds := [.handle, .data], laidTests := true, laidLooks := .later }
def LoadsCardSaid : Prop := Claim7.holds Tryz.pinned (.plain (OpenSpec.ofChange loadsSpec)) loadsCard

/-- THE TIED CARD OF 'hornlaw.Answers'. -/
def answersCard : Claim7 := { stood := { row := answersRow, standIns := [], harness := (true, "83c1115cc30ac34c7d0ad7c85ef636569795238069f12b83b0653b4ba4bed462"), looks := true }, kinds := [], alts := [], laidByText := true, laidKinds := [.handle, .data], laidTests := true, laidLooks := .later }
def AnswersCardSaid : Prop := Claim7.holds Tryz.pinned (.plain (OpenSpec.ofChange answersSpec)) answersCard

/-- THE TIED CARD OF 'hornlaw.Codes'. -/
def codesCard : Claim7 := { stood := { row := codesRow, standIns := [], harness := (true, "83c1115cc30ac34c7d0ad7c85ef636569795238069f12b83b0653b4ba4bed462"), looks := true }, kinds := [], alts := [], laidByText := true, laidKinds := [.handle, .data], laidTests := true, laidLooks := .later }
def CodesCardSaid : Prop := Claim7.holds Tryz.pinned (.plain (OpenSpec.ofChange codesSpec)) codesCard

/-- THE TIED CARD OF 'hornlaw.Both'. -/
def bothCard : Claim7 := { stood := { row := bothRow, standIns := [], harness := (true, "83c1115cc30ac34c7d0ad7c85ef636569795238069f12b83b0653b4ba4bed462"), looks := true }, kinds := [], alts := [], laidByText := true, laidKinds := [.handle, .data], laidTests := true, laidLooks := .later }
def BothCardSaid : Prop := Claim7.holds Tryz.pinned (.plain (OpenSpec.ofChange bothSpec)) bothCard

/-- THE TIED CARD OF 'hornlaw.Own'. -/
def ownCard : Claim7 := { stood := { row := ownRow, standIns := [], harness := (true, "83c1115cc30ac34c7d0ad7c85ef636569795238069f12b83b0653b4ba4bed462"), looks := true }, kinds := [], alts := [], laidByText := true, laidKinds := [.handle, .data], laidTests := true, laidLooks := .later }
def OwnCardSaid : Prop := Claim7.holds Tryz.pinned (.plain (OpenSpec.ofChange ownSpec)) ownCard

/-- THE SECOND FORM's CARD OF 'hornlaw.Reads'. -/
def readsUptoCard : Claim7 := { stood := { row := readsUptoRow, standIns := [], harness := (true, "83c1115cc30ac34c7d0ad7c85ef636569795238069f12b83b0653b4ba4bed462"), looks := true }, kinds := [], alts := [], laidByText := true, laidKinds := [.data, .data, .data, .handle, .data], laidTests := true, laidLooks := .later }
def ReadsUptoCardSaid : Prop := Claim7.holds Tryz.pinned (.plain (OpenSpec.upto readsSpec)) readsUptoCard

/-- THE SECOND FORM's CARD OF 'hornlaw.Loads'. -/
def loadsUptoCard : Claim7 := { stood := { row := loadsUptoRow, standIns := [], harness := (true, "83c1115cc30ac34c7d0ad7c85ef636569795238069f12b83b0653b4ba4bed462"), looks := true }, kinds := [], alts := [], laidByText := true, laidKinds := [.handle, .data], laidTests := true, laidLooks := .later }
def LoadsUptoCardSaid : Prop := Claim7.holds Tryz.pinned (.plain (OpenSpec.upto loadsSpec)) loadsUptoCard

/-- THE SECOND FORM's CARD OF 'hornlaw.Answers'. -/
def answersUptoCard : Claim7 := { stood := { row := answersUptoRow, standIns := [], harness := (true, "83c1115cc30ac34c7d0ad7c85ef636569795238069f12b83b0653b4ba4bed462"), looks := true }, kinds := [], alts := [], laidByText := true, laidKinds := [.handle, .data], laidTests := true, laidLooks := .later }
def AnswersUptoCardSaid : Prop := Claim7.holds Tryz.pinned (.plain (OpenSpec.upto answersSpec)) answersUptoCard

/-- THE SECOND FORM's CARD OF 'hornlaw.Codes'. -/
def codesUptoCard : Claim7 := { stood := { row := codesUptoRow, standIns := [], harness := (true, "83c1115cc30ac34c7d0ad7c85ef636569795238069f12b83b0653b4ba4bed462"), looks := true }, kinds := [], alts := [], laidByText := true, laidKinds := [.handle, .data], laidTests := true, laidLooks := .later }
def CodesUptoCardSaid : Prop := Claim7.holds Tryz.pinned (.plain (OpenSpec.upto codesSpec)) codesUptoCard

/-- THE SECOND FORM's CARD OF 'hornlaw.Both'. -/
def bothUptoCard : Claim7 := { stood := { row := bothUptoRow, standIns := [], harness := (true, "83c1115cc30ac34c7d0ad7c85ef636569795238069f12b83b0653b4ba4bed462"), looks := true }, kinds := [], alts := [], laidByText := true, laidKinds := [.handle, .data], laidTests := true, laidLooks := .later }
def BothUptoCardSaid : Prop := Claim7.holds Tryz.pinned (.plain (OpenSpec.upto bothSpec)) bothUptoCard

/-- THE SECOND FORM's CARD OF 'hornlaw.Own'. -/
def ownUptoCard : Claim7 := { stood := { row := ownUptoRow, standIns := [], harness := (true, "83c1115cc30ac34c7d0ad7c85ef636569795238069f12b83b0653b4ba4bed462"), looks := true }, kinds := [], alts := [], laidByText := true, laidKinds := [.handle, .data], laidTests := true, laidLooks := .later }
def OwnUptoCardSaid : Prop := Claim7.holds Tryz.pinned (.plain (OpenSpec.upto ownSpec)) ownUptoCard
end Rows
end Go.Proofs.YtdigbgbmfjggnaaGreatDoor
