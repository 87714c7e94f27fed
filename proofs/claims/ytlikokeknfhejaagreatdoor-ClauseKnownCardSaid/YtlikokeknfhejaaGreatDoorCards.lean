/-
  DERIVED. GIVEN WITH THE SEED: THE CARDS: each row of YtlikokeknfhejaaGreatDoorRows.lean that lists a variable, with what it lists TIED to the program's text (the seventh form; the later family's looks); each row that meets fmt, with fmt's text TOLD by the authors' own Lean function (tested against real Go, not proved from fmt's source: count such statements apart). THE CARD IS WHAT COUNTS. Prove the row's statement (the work); the ties are given (YtlikokeknfhejaaGreatDoorTie.lean); close each card by the builder's one call (the guide's Derived/Test/ToyasCard.lean, 'card_holds'). Laid BY PROGRAM, IN A SANDBOX (cutbox-door.mjs). By AI agents, Wed Nov 11 2026. No macro, syntax, notation, axiom, sorry.
-/
import Derived.Test.YtlikokeknfhejaaGreatDoorRows
import GoSem.ClaimSeven
namespace Go.Proofs.YtlikokeknfhejaaGreatDoor
namespace Rows

/-- THE TIED CARD OF 'proofmarklaw05.ClauseKnown'. -/
def clauseKnownCard : Claim7 := { stood := { row := clauseKnownRow, standIns := [], harness := (true, "311fa657804c409c06c046c61738cde6950384bc0cfcf53a9bee3a86d6cc2185"), looks := true }, kinds := [], alts := [], laidByText := true, laidKinds := [.data, .data, .data, .data, .sentinel, .sentinel, .listed, .data, .pinned], laidTests := true, laidLooks := .later }
def ClauseKnownCardSaid : Prop := Claim7.holds Tryz.pinned (.plain (OpenSpec.ofChange clauseKnownSpec)) clauseKnownCard

/-- THE TIED CARD OF 'proofmarklaw06.BlastModel'. -/
def blastModelCard : Claim7 := { stood := { row := blastModelRow, standIns := [], harness := (true, "311fa657804c409c06c046c61738cde6950384bc0cfcf53a9bee3a86d6cc2185"), looks := true }, kinds := [], alts := [], laidByText := true, laidKinds := [.data, .data, .data, .data], laidTests := true, laidLooks := .later }
def BlastModelCardSaid : Prop := Claim7.holds Tryz.pinned (.plain (OpenSpec.ofChange blastModelSpec)) blastModelCard

/-- THE TIED CARD OF 'proofmarklaw06.BlastKnown'. -/
def blastKnownCard : Claim7 := { stood := { row := blastKnownRow, standIns := [], harness := (true, "311fa657804c409c06c046c61738cde6950384bc0cfcf53a9bee3a86d6cc2185"), looks := true }, kinds := [], alts := [], laidByText := true, laidKinds := [.data, .data, .data, .data], laidTests := true, laidLooks := .later }
def BlastKnownCardSaid : Prop := Claim7.holds Tryz.pinned (.plain (OpenSpec.ofChange blastKnownSpec)) blastKnownCard

/-- THE SECOND FORM's CARD OF 'proofmarklaw05.ClauseKnown'. -/
def clauseKnownUptoCard : Claim7 := { stood := { row := clauseKnownUptoRow, standIns := [], harness := (true, "311fa657804c409c06c046c61738cde6950384bc0cfcf53a9bee3a86d6cc2185"), looks := true }, kinds := [], alts := [], laidByText := true, laidKinds := [.data, .data, .data, .data, .sentinel, .sentinel, .listed, .data, .pinned], laidTests := true, laidLooks := .later }
def ClauseKnownUptoCardSaid : Prop := Claim7.holds Tryz.pinned (.plain (OpenSpec.upto clauseKnownSpec)) clauseKnownUptoCard

/-- THE SECOND FORM's CARD OF 'proofmarklaw06.BlastModel'. -/
def blastModelUptoCard : Claim7 := { stood := { row := blastModelUptoRow, standIns := [], harness := (true, "311fa657804c409c06c046c61738cde6950384bc0cfcf53a9bee3a86d6cc2185"), looks := true }, kinds := [], alts := [], laidByText := true, laidKinds := [.data, .data, .data, .data], laidTests := true, laidLooks := .later }
def BlastModelUptoCardSaid : Prop := Claim7.holds Tryz.pinned (.plain (OpenSpec.upto blastModelSpec)) blastModelUptoCard

/-- THE SECOND FORM's CARD OF 'proofmarklaw06.BlastKnown'. -/
def blastKnownUptoCard : Claim7 := { stood := { row := blastKnownUptoRow, standIns := [], harness := (true, "311fa657804c409c06c046c61738cde6950384bc0cfcf53a9bee3a86d6cc2185"), looks := true }, kinds := [], alts := [], laidByText := true, laidKinds := [.data, .data, .data, .data], laidTests := true, laidLooks := .later }
def BlastKnownUptoCardSaid : Prop := Claim7.holds Tryz.pinned (.plain (OpenSpec.upto blastKnownSpec)) blastKnownUptoCard
end Rows
end Go.Proofs.YtlikokeknfhejaaGreatDoor
