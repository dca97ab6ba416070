/-
  DERIVED. GIVEN WITH THE SEED: THE CARDS: each row of YtmkglaghnjnooaaDoorRows.lean that lists a variable, with what it lists TIED to the program's text (the seventh form; the later family's looks); each row that meets fmt, with fmt's text TOLD by the authors' own Lean function (tested against real Go, not proved from fmt's source: count such statements apart). THE CARD IS WHAT COUNTS. Prove the row's statement (the work); the ties are given (YtmkglaghnjnooaaDoorTie.lean); close each card by the builder's one call (the guide's Derived/Test/ToyasCard.lean, 'card_holds'). Laid BY PROGRAM, IN A SANDBOX (cutbox-door.mjs). By AI agents, Wed Nov 11 2026. No macro, syntax, notation, axiom, sorry.
-/
import Derived.Test.YtmkglaghnjnooaaDoorRows
import GoSem.ClaimSeven
namespace Go.Proofs.YtmkglaghnjnooaaDoor
namespace Rows

/-- THE TIED CARD OF 'bowerlaw16.OpTells'. -/
def opTellsCard : Claim7 := { stood := { row := opTellsRow, standIns := [], harness := (true, "b79c0cccd54b5ff5b0f6edb5210e8834d97af93105f657a6723ed8cbdca83651"), looks := false }, kinds := [], alts := [], laidByText := true, laidKinds := [.data], laidTests := true, laidLooks := .later }
def OpTellsCardSaid : Prop := Claim7.holds Tryd.pinned (.plain (OpenSpec.ofChange opTellsSpec)) opTellsCard

/-- THE TIED CARD OF 'bowerlaw16.OpWrites'. -/
def opWritesCard : Claim7 := { stood := { row := opWritesRow, standIns := [], harness := (true, "b79c0cccd54b5ff5b0f6edb5210e8834d97af93105f657a6723ed8cbdca83651"), looks := false }, kinds := [], alts := [], laidByText := true, laidKinds := [.data], laidTests := true, laidLooks := .later }
def OpWritesCardSaid : Prop := Claim7.holds Tryd.pinned (.plain (OpenSpec.ofChange opWritesSpec)) opWritesCard

/-- THE TIED CARD OF 'bowerlaw16.OpReads'. -/
def opReadsCard : Claim7 := { stood := { row := opReadsRow, standIns := [], harness := (true, "b79c0cccd54b5ff5b0f6edb5210e8834d97af93105f657a6723ed8cbdca83651"), looks := false }, kinds := [], alts := [], laidByText := true, laidKinds := [.data], laidTests := true, laidLooks := .later }
def OpReadsCardSaid : Prop := Claim7.holds Tryd.pinned (.plain (OpenSpec.ofChange opReadsSpec)) opReadsCard

/-- THE SECOND FORM's CARD OF 'bowerlaw16.OpTells'. -/
def opTellsUptoCard : Claim7 := { stood := { row := opTellsUptoRow, standIns := [], harness := (true, "b79c0cccd54b5ff5b0f6edb5210e8834d97af93105f657a6723ed8cbdca83651"), looks := false }, kinds := [], alts := [], laidByText := true, laidKinds := [.data], laidTests := true, laidLooks := .later }
def OpTellsUptoCardSaid : Prop := Claim7.holds Tryd.pinned (.plain (OpenSpec.upto opTellsSpec)) opTellsUptoCard

/-- THE SECOND FORM's CARD OF 'bowerlaw16.OpWrites'. -/
def opWritesUptoCard : Claim7 := { stood := { row := opWritesUptoRow, standIns := [], harness := (true, "b79c0cccd54b5ff5b0f6edb5210e8834d97af93105f657a6723ed8cbdca83651"), looks := false }, kinds := [], alts := [], laidByText := true, laidKinds := [.data], laidTests := true, laidLooks := .later }
def OpWritesUptoCardSaid : Prop := Claim7.holds Tryd.pinned (.plain (OpenSpec.upto opWritesSpec)) opWritesUptoCard

/-- THE SECOND FORM's CARD OF 'bowerlaw16.OpReads'. -/
def opReadsUptoCard : Claim7 := { stood := { row := opReadsUptoRow, standIns := [], harness := (true, "b79c0cccd54b5ff5b0f6edb5210e8834d97af93105f657a6723ed8cbdca83651"), looks := false }, kinds := [], alts := [], laidByText := true, laidKinds := [.data], laidTests := true, laidLooks := .later }
def OpReadsUptoCardSaid : Prop := Claim7.holds Tryd.pinned (.plain (OpenSpec.upto opReadsSpec)) opReadsUptoCard
end Rows
end Go.Proofs.YtmkglaghnjnooaaDoor
