/-
  DERIVED. GIVEN WITH THE SEED: THE CARDS: each row of YtemijkfgnedlnaaDoorRows.lean that lists a variable, with what it lists TIED to the program's text (the seventh form; the later family's looks); each row that meets fmt, with fmt's text TOLD by the authors' own Lean function (tested against real Go, not proved from fmt's source: count such statements apart). THE CARD IS WHAT COUNTS. Prove the row's statement (the work); the ties are given (YtemijkfgnedlnaaDoorTie.lean); close each card by the builder's one call (the guide's Derived/Test/ToyasCard.lean, 'card_holds'). Laid BY PROGRAM, IN A SANDBOX (cutbox-door.mjs). By AI agents, Wed Nov 11 2026. No macro, syntax, notation, axiom, sorry.
-/
import Derived.Test.YtemijkfgnedlnaaDoorRows
import GoSem.ClaimSeven
namespace Go.Proofs.YtemijkfgnedlnaaDoor
namespace Rows

/-- THE TIED CARD OF 'proofmarklaw05.ClauseUnits'. -/
def clauseUnitsCard : Claim7 := { stood := { row := clauseUnitsRow, standIns := [], harness := (true, "3488f1b0f589fff21c0d05796001c014eef6b5f522ed623b15b53c69536a69e9"), looks := false }, kinds := [], alts := [], laidByText := true, laidKinds := [.data, .data, .data], laidTests := true, laidLooks := .later }
def ClauseUnitsCardSaid : Prop := Claim7.holds Tryd.pinned (.plain (OpenSpec.ofChange clauseUnitsSpec)) clauseUnitsCard

/-- THE TIED CARD OF 'proofmarklaw05.ClauseModels'. -/
def clauseModelsCard : Claim7 := { stood := { row := clauseModelsRow, standIns := [], harness := (true, "3488f1b0f589fff21c0d05796001c014eef6b5f522ed623b15b53c69536a69e9"), looks := false }, kinds := [], alts := [], laidByText := true, laidKinds := [.data, .data, .data], laidTests := true, laidLooks := .later }
def ClauseModelsCardSaid : Prop := Claim7.holds Tryd.pinned (.plain (OpenSpec.ofChange clauseModelsSpec)) clauseModelsCard

/-- THE TIED CARD OF 'proofmarklaw05.ClauseOrder'. -/
def clauseOrderCard : Claim7 := { stood := { row := clauseOrderRow, standIns := [], harness := (true, "3488f1b0f589fff21c0d05796001c014eef6b5f522ed623b15b53c69536a69e9"), looks := false }, kinds := [], alts := [], laidByText := true, laidKinds := [.data, .data, .data], laidTests := true, laidLooks := .later }
def ClauseOrderCardSaid : Prop := Claim7.holds Tryd.pinned (.plain (OpenSpec.ofChange clauseOrderSpec)) clauseOrderCard

/-- THE SECOND FORM's CARD OF 'proofmarklaw05.ClauseUnits'. -/
def clauseUnitsUptoCard : Claim7 := { stood := { row := clauseUnitsUptoRow, standIns := [], harness := (true, "3488f1b0f589fff21c0d05796001c014eef6b5f522ed623b15b53c69536a69e9"), looks := false }, kinds := [], alts := [], laidByText := true, laidKinds := [.data, .data, .data], laidTests := true, laidLooks := .later }
def ClauseUnitsUptoCardSaid : Prop := Claim7.holds Tryd.pinned (.plain (OpenSpec.upto clauseUnitsSpec)) clauseUnitsUptoCard

/-- THE SECOND FORM's CARD OF 'proofmarklaw05.ClauseModels'. -/
def clauseModelsUptoCard : Claim7 := { stood := { row := clauseModelsUptoRow, standIns := [], harness := (true, "3488f1b0f589fff21c0d05796001c014eef6b5f522ed623b15b53c69536a69e9"), looks := false }, kinds := [], alts := [], laidByText := true, laidKinds := [.data, .data, .data], laidTests := true, laidLooks := .later }
def ClauseModelsUptoCardSaid : Prop := Claim7.holds Tryd.pinned (.plain (OpenSpec.upto clauseModelsSpec)) clauseModelsUptoCard

/-- THE SECOND FORM's CARD OF 'proofmarklaw05.ClauseOrder'. -/
def clauseOrderUptoCard : Claim7 := { stood := { row := clauseOrderUptoRow, standIns := [], harness := (true, "3488f1b0f589fff21c0d05796001c014eef6b5f522ed623b15b53c69536a69e9"), looks := false }, kinds := [], alts := [], laidByText := true, laidKinds := [.data, .data, .data], laidTests := true, laidLooks := .later }
def ClauseOrderUptoCardSaid : Prop := Claim7.holds Tryd.pinned (.plain (OpenSpec.upto clauseOrderSpec)) clauseOrderUptoCard
end Rows
end Go.Proofs.YtemijkfgnedlnaaDoor
