/-
  DERIVED. GIVEN WITH THE SEED: THE CARDS: each row of YtgckgagnodkhjaaRRRRDoorRows.lean that lists a variable, with what it lists TIED to the program's text (the seventh form; the later family's looks); each row that meets fmt, with fmt's text TOLD by the authors' own Lean function (tested against real Go, not proved from fmt's source: count such statements apart). THE CARD IS WHAT COUNTS. Prove the row's statement (the work); the ties are given (YtgckgagnodkhjaaRRRRDoorTie.lean); close each card by the builder's one call (the guide's Derived/Test/ToyasCard.lean, 'card_holds'). Laid BY PROGRAM, IN A SANDBOX (cutbox-door.mjs). By AI agents, Wed Nov 11 2026. No macro, syntax, notation, axiom, sorry.
-/
import Derived.Test.YtgckgagnodkhjaaRRRRDoorRows
import GoSem.ClaimSeven
namespace Go.Proofs.YtgckgagnodkhjaaRRRRDoor
namespace Rows

/-- THE TIED CARD OF 'bowerlaw17.AnswerTells'. -/
def answerTellsCard : Claim7 := { stood := { row := answerTellsRow, standIns := [], harness := (true, "1c18adac29c5138a9d0807efb2a4cc4c399bf9403aeedf1906a30e198e756e7c"), looks := false }, kinds := [], alts := [], laidByText := true, laidKinds := [.data], laidTests := true, laidLooks := .later }
def AnswerTellsCardSaid : Prop := Claim7.holds Tryd.pinned (.plain (OpenSpec.ofChange answerTellsSpec)) answerTellsCard

/-- THE TIED CARD OF 'bowerlaw17.AnswerWrites'. -/
def answerWritesCard : Claim7 := { stood := { row := answerWritesRow, standIns := [], harness := (true, "1c18adac29c5138a9d0807efb2a4cc4c399bf9403aeedf1906a30e198e756e7c"), looks := false }, kinds := [], alts := [], laidByText := true, laidKinds := [.data], laidTests := true, laidLooks := .later }
def AnswerWritesCardSaid : Prop := Claim7.holds Tryd.pinned (.plain (OpenSpec.ofChange answerWritesSpec)) answerWritesCard

/-- THE SECOND FORM's CARD OF 'bowerlaw17.AnswerTells'. -/
def answerTellsUptoCard : Claim7 := { stood := { row := answerTellsUptoRow, standIns := [], harness := (true, "1c18adac29c5138a9d0807efb2a4cc4c399bf9403aeedf1906a30e198e756e7c"), looks := false }, kinds := [], alts := [], laidByText := true, laidKinds := [.data], laidTests := true, laidLooks := .later }
def AnswerTellsUptoCardSaid : Prop := Claim7.holds Tryd.pinned (.plain (OpenSpec.upto answerTellsSpec)) answerTellsUptoCard

/-- THE SECOND FORM's CARD OF 'bowerlaw17.AnswerWrites'. -/
def answerWritesUptoCard : Claim7 := { stood := { row := answerWritesUptoRow, standIns := [], harness := (true, "1c18adac29c5138a9d0807efb2a4cc4c399bf9403aeedf1906a30e198e756e7c"), looks := false }, kinds := [], alts := [], laidByText := true, laidKinds := [.data], laidTests := true, laidLooks := .later }
def AnswerWritesUptoCardSaid : Prop := Claim7.holds Tryd.pinned (.plain (OpenSpec.upto answerWritesSpec)) answerWritesUptoCard
end Rows
end Go.Proofs.YtgckgagnodkhjaaRRRRDoor
