/-
  No cell of these rows narrows 'for every input' (looked for: loops, veiled, ifaces, maps, wideKeys, modest, calm, conditions, laid).
  DERIVED. THE GIVEN ROWS OF THIS SEAT. 3 by the template 'for every input the law returns true; each argument reads behind the call as it read before'; 0 by the template 'total and deterministic' (their statements: YtdbklklmpnlinaaGreatTotals.lean).
  GIVEN WITH THE SEED: the statements are not yours to turn. If you find one false, say at which input.
  Laid BY PROGRAM, IN A SANDBOX (cutbox-rows.mjs): the forced cells as the released guide's own fill.sh prints them over the translation aaef943ffe30f3fc… (all of the seat's roots in one cut). By AI agents, Wed Nov 11 2026. No macro, syntax, notation, axiom, sorry.
-/
import Derived.Test.YtdbklklmpnlinaaGreatChecked
import GoSem.Claim
import GoSem.ClaimJoined
import GoSem.ClaimMapViews
import Derived.JoinedTies
import Derived.KernelRfl
namespace Go.Proofs.YtdbklklmpnlinaaGreat
/- THE CELL 'sum', in the pinned program and in every row, IS THE sha256 OF THE DUMP (.gsa) THAT YtdbklklmpnlinaaGreatProg.lean LOADS. Nothing in Lean hashes anything: it is a label: what it is worth is what the hold of that sum in a sandbox is worth. -/
noncomputable def Tryz.pinned : Pinned := { name := "ytdbklklmpnlinaagreat", sum := "aaef943ffe30f3fc92ecb3668066b4014a15a75e9f635bb8cbeaea57da9f5ae0", checked := Tryz.checked }
namespace Rows
def none {H : Type} : Left H := { results := [], args := [] }

/-- 'bowerlaw19.FindWhole': WHATEVER THE INPUT: true; the input reads as it did. -/
def findWholeSpec : ChangeSpec := { name := "findWhole", fn := fun _ => fun
  | [d1, d2, d3] => { results := [.lit (.bool true)], args := [d1, d2, d3] }
  | _ => none }
def findWholeRow : OpenClaim := { program := "ytdbklklmpnlinaagreat", sum := "aaef943ffe30f3fc92ecb3668066b4014a15a75e9f635bb8cbeaea57da9f5ae0", func := "bower/bowerlaw19.FindWhole", spec := "findWhole", unfollowed := true, recurses := true, apart := false }
def FindWholeSaid : Prop := findWholeRow.holds Tryz.pinned (OpenSpec.ofChange findWholeSpec)

/-- ITS FALSE NEIGHBOUR: 'it returns false'. Refute it at one input. -/
def findWholeWrong : ChangeSpec := { name := "findWhole", fn := fun _ => fun
  | [d1, d2, d3] => { results := [.lit (.bool false)], args := [d1, d2, d3] }
  | _ => none }
def FindWholeWrongFalsely : Prop := findWholeRow.holds Tryz.pinned (OpenSpec.ofChange findWholeWrong)

/-- 'bowerlaw22.GrowInserts': WHATEVER THE INPUT: true; the input reads as it did. -/
def growInsertsSpec : ChangeSpec := { name := "growInserts", fn := fun _ => fun
  | [d] => { results := [.lit (.bool true)], args := [d] }
  | _ => none }
def growInsertsRow : OpenClaim := { program := "ytdbklklmpnlinaagreat", sum := "aaef943ffe30f3fc92ecb3668066b4014a15a75e9f635bb8cbeaea57da9f5ae0", func := "bower/bowerlaw22.GrowInserts", spec := "growInserts", unfollowed := true, recurses := true, apart := false }
def GrowInsertsSaid : Prop := growInsertsRow.holds Tryz.pinned (OpenSpec.ofChange growInsertsSpec)

/-- ITS FALSE NEIGHBOUR: 'it returns false'. Refute it at one input. -/
def growInsertsWrong : ChangeSpec := { name := "growInserts", fn := fun _ => fun
  | [d] => { results := [.lit (.bool false)], args := [d] }
  | _ => none }
def GrowInsertsWrongFalsely : Prop := growInsertsRow.holds Tryz.pinned (OpenSpec.ofChange growInsertsWrong)

/-- 'bowerlaw22.GrowLacks': WHATEVER THE INPUT: true; the input reads as it did. -/
def growLacksSpec : ChangeSpec := { name := "growLacks", fn := fun _ => fun
  | [d] => { results := [.lit (.bool true)], args := [d] }
  | _ => none }
def growLacksRow : OpenClaim := { program := "ytdbklklmpnlinaagreat", sum := "aaef943ffe30f3fc92ecb3668066b4014a15a75e9f635bb8cbeaea57da9f5ae0", func := "bower/bowerlaw22.GrowLacks", spec := "growLacks", unfollowed := true, recurses := true, apart := false }
def GrowLacksSaid : Prop := growLacksRow.holds Tryz.pinned (OpenSpec.ofChange growLacksSpec)

/-- ITS FALSE NEIGHBOUR: 'it returns false'. Refute it at one input. -/
def growLacksWrong : ChangeSpec := { name := "growLacks", fn := fun _ => fun
  | [d] => { results := [.lit (.bool false)], args := [d] }
  | _ => none }
def GrowLacksWrongFalsely : Prop := growLacksRow.holds Tryz.pinned (OpenSpec.ofChange growLacksWrong)

/- THE SECOND FORM. 'bulk': how many values and letters a reading holds, each counted each time it is reached (what is shared counts as often as it is met; a slice's spare places count too). A statement '..UptoSaid' is the law's where the arguments, and the package variables that the reading takes, are together of bulk at most 1048576: NARROWER than '..Said'. Prove '..Said' where nothing that the law and all that it calls make is longer than what came in: it says more and counts as full. Else prove '..UptoSaid'. A law counts once. -/
mutual
def uptoBulk {H : Type} : DataW H → Nat
  | .lit (.string bytes) => bytes.length + 1
  | .lit _ => 1
  | .nil => 1
  | .ptr d => uptoBulk d + 1
  | .slice elems spare => uptoBulkAll elems + uptoBulkAll spare + 1
  | .agg parts => uptoBulkAll parts + 1
  | .iface _ d => uptoBulk d + 1
  | .map entries => uptoBulkEntries entries + 1
  | .held _ => 1
def uptoBulkAll {H : Type} : List (DataW H) → Nat
  | [] => 0
  | d :: r => uptoBulk d + uptoBulkAll r
def uptoBulkEntries {H : Type} : List (Lit × DataW H) → Nat
  | [] => 0
  | x :: r => uptoBulkEntry x + uptoBulkEntries r
def uptoBulkEntry {H : Type} : Lit × DataW H → Nat
  | (.string bytes, d) => bytes.length + uptoBulk d + 1
  | (_, d) => uptoBulk d + 1
 end
def uptoSmall : (H : Type) → List (DataW H) → Bool := fun _ ds => decide (uptoBulkAll ds ≤ 1048576)
def OpenSpec.upto (s : _root_.Go.ChangeSpec) : _root_.Go.OpenSpec := { _root_.Go.OpenSpec.ofChange s with cond := some uptoSmall }

/-- 'bowerlaw19.FindWhole', WHERE WHAT IT READS IS OF BULK AT MOST 1048576: true; the input reads as it did. -/
def findWholeUptoRow : OpenClaim := { program := "ytdbklklmpnlinaagreat", sum := "aaef943ffe30f3fc92ecb3668066b4014a15a75e9f635bb8cbeaea57da9f5ae0", func := "bower/bowerlaw19.FindWhole", spec := "findWhole", unfollowed := true, recurses := true, apart := false, narrowed := true }
def FindWholeUptoSaid : Prop := findWholeUptoRow.holds Tryz.pinned (OpenSpec.upto findWholeSpec)

/-- 'bowerlaw22.GrowInserts', WHERE WHAT IT READS IS OF BULK AT MOST 1048576: true; the input reads as it did. -/
def growInsertsUptoRow : OpenClaim := { program := "ytdbklklmpnlinaagreat", sum := "aaef943ffe30f3fc92ecb3668066b4014a15a75e9f635bb8cbeaea57da9f5ae0", func := "bower/bowerlaw22.GrowInserts", spec := "growInserts", unfollowed := true, recurses := true, apart := false, narrowed := true }
def GrowInsertsUptoSaid : Prop := growInsertsUptoRow.holds Tryz.pinned (OpenSpec.upto growInsertsSpec)

/-- 'bowerlaw22.GrowLacks', WHERE WHAT IT READS IS OF BULK AT MOST 1048576: true; the input reads as it did. -/
def growLacksUptoRow : OpenClaim := { program := "ytdbklklmpnlinaagreat", sum := "aaef943ffe30f3fc92ecb3668066b4014a15a75e9f635bb8cbeaea57da9f5ae0", func := "bower/bowerlaw22.GrowLacks", spec := "growLacks", unfollowed := true, recurses := true, apart := false, narrowed := true }
def GrowLacksUptoSaid : Prop := growLacksUptoRow.holds Tryz.pinned (OpenSpec.upto growLacksSpec)

end Rows
end Go.Proofs.YtdbklklmpnlinaaGreat
