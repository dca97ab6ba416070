/-
  DERIVED. GIVEN WITH THE SEED: THE CARDS: each row of YtbghemndcndhpaaDoorRows.lean that lists a variable, with what it lists TIED to the program's text (the seventh form; the later family's looks); each row that meets fmt, with fmt's text TOLD by the authors' own Lean function (tested against real Go, not proved from fmt's source: count such statements apart). THE CARD IS WHAT COUNTS. Prove the row's statement (the work); the ties are given (YtbghemndcndhpaaDoorTie.lean); close each card by the builder's one call (the guide's Derived/Test/ToyasCard.lean, 'card_holds'). Laid BY PROGRAM, IN A SANDBOX (cutbox-door.mjs). By AI agents, Wed Nov 11 2026. No macro, syntax, notation, axiom, sorry.
-/
import Derived.Test.YtbghemndcndhpaaDoorRows
import GoSem.ClaimSeven
namespace Go.Proofs.YtbghemndcndhpaaDoor
namespace Rows

/-- THE TIED CARD OF 'bowerlaw05.BoxTells'. -/
def boxTellsCard : Claim7 := { stood := { row := boxTellsRow, standIns := [], harness := (true, "74a801b36c14d7121fb57110c74c6d24ec0eb04d3a893ea969de2ed2813510b1"), looks := true }, kinds := [], alts := [], laidByText := true, laidKinds := [.data, .data, .data], laidTests := true, laidLooks := .later }
def BoxTellsCardSaid : Prop := Claim7.holds Tryd.pinned (.plain (OpenSpec.ofChange boxTellsSpec)) boxTellsCard

/-- THE TIED CARD OF 'bowerlaw05.BoxSame'. -/
def boxSameCard : Claim7 := { stood := { row := boxSameRow, standIns := [], harness := (true, "74a801b36c14d7121fb57110c74c6d24ec0eb04d3a893ea969de2ed2813510b1"), looks := true }, kinds := [], alts := [], laidByText := true, laidKinds := [.data, .data, .data], laidTests := true, laidLooks := .later }
def BoxSameCardSaid : Prop := Claim7.holds Tryd.pinned (.plain (OpenSpec.ofChange boxSameSpec)) boxSameCard

/-- THE TIED CARD OF 'bowerlaw05.BoxApart'. -/
def boxApartCard : Claim7 := { stood := { row := boxApartRow, standIns := [], harness := (true, "74a801b36c14d7121fb57110c74c6d24ec0eb04d3a893ea969de2ed2813510b1"), looks := true }, kinds := [], alts := [], laidByText := true, laidKinds := [.data, .data, .data], laidTests := true, laidLooks := .later }
def BoxApartCardSaid : Prop := Claim7.holds Tryd.pinned (.plain (OpenSpec.ofChange boxApartSpec)) boxApartCard

/-- THE SECOND FORM's CARD OF 'bowerlaw05.BoxTells'. -/
def boxTellsUptoCard : Claim7 := { stood := { row := boxTellsUptoRow, standIns := [], harness := (true, "74a801b36c14d7121fb57110c74c6d24ec0eb04d3a893ea969de2ed2813510b1"), looks := true }, kinds := [], alts := [], laidByText := true, laidKinds := [.data, .data, .data], laidTests := true, laidLooks := .later }
def BoxTellsUptoCardSaid : Prop := Claim7.holds Tryd.pinned (.plain (OpenSpec.upto boxTellsSpec)) boxTellsUptoCard

/-- THE SECOND FORM's CARD OF 'bowerlaw05.BoxSame'. -/
def boxSameUptoCard : Claim7 := { stood := { row := boxSameUptoRow, standIns := [], harness := (true, "74a801b36c14d7121fb57110c74c6d24ec0eb04d3a893ea969de2ed2813510b1"), looks := true }, kinds := [], alts := [], laidByText := true, laidKinds := [.data, .data, .data], laidTests := true, laidLooks := .later }
def BoxSameUptoCardSaid : Prop := Claim7.holds Tryd.pinned (.plain (OpenSpec.upto boxSameSpec)) boxSameUptoCard

/-- THE SECOND FORM's CARD OF 'bowerlaw05.BoxApart'. -/
def boxApartUptoCard : Claim7 := { stood := { row := boxApartUptoRow, standIns := [], harness := (true, "74a801b36c14d7121fb57110c74c6d24ec0eb04d3a893ea969de2ed2813510b1"), looks := true }, kinds := [], alts := [], laidByText := true, laidKinds := [.data, .data, .data], laidTests := true, laidLooks := .later }
def BoxApartUptoCardSaid : Prop := Claim7.holds Tryd.pinned (.plain (OpenSpec.upto boxApartSpec)) boxApartUptoCard
end Rows
end Go.Proofs.YtbghemndcndhpaaDoor
