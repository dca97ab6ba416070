/-
  No cell of these rows narrows 'for every input' (looked for: loops, veiled, ifaces, maps, wideKeys, modest, calm, conditions, laid).
  DERIVED. THE GIVEN ROWS OF THIS SEAT. 6 by the template 'for every input the law returns true; each argument reads behind the call as it read before'; 0 by the template 'total and deterministic' (their statements: YtnlghdkgejimpaaTotals.lean).
  GIVEN WITH THE SEED: the statements are not yours to turn. If you find one false, say at which input.
  Laid BY PROGRAM, IN A SANDBOX (cutbox-rows.mjs): the forced cells as the released guide's own fill.sh prints them over the translation 200b820cbe080c69… (all of the seat's roots in one cut). By AI agents, Wed Nov 11 2026. No macro, syntax, notation, axiom, sorry.
-/
import Derived.Test.YtnlghdkgejimpaaChecked
import GoSem.Claim
import GoSem.ClaimJoined
import GoSem.ClaimMapViews
import Derived.JoinedTies
import Derived.KernelRfl
namespace Go.Proofs.Ytnlghdkgejimpaa
/- THE CELL 'sum', in the pinned program and in every row, IS THE sha256 OF THE DUMP (.gsa) THAT YtnlghdkgejimpaaProg.lean LOADS. Nothing in Lean hashes anything: it is a label: what it is worth is what the hold of that sum in a sandbox is worth. -/
noncomputable def Try.pinned : Pinned := { name := "ytnlghdkgejimpaa", sum := "200b820cbe080c69b9966783b68c31f9b79b7d0489eae964dafd3011c03d39ea", checked := Try.checked }
namespace Rows
def none {H : Type} : Left H := { results := [], args := [] }

/-- 'bowerlaw11.LeafsTurn': WHATEVER THE INPUT: true; the input reads as it did. -/
def leafsTurnSpec : ChangeSpec := { name := "leafsTurn", fn := fun _ => fun
  | [d1, d2, d3, d4] => { results := [.lit (.bool true)], args := [d1, d2, d3, d4] }
  | _ => none }
def leafsTurnRow : OpenClaim := { program := "ytnlghdkgejimpaa", sum := "200b820cbe080c69b9966783b68c31f9b79b7d0489eae964dafd3011c03d39ea", func := "bower/bowerlaw11.LeafsTurn", spec := "leafsTurn", unfollowed := true, recurses := true, apart := false }
def LeafsTurnSaid : Prop := leafsTurnRow.holds Try.pinned (OpenSpec.ofChange leafsTurnSpec)

/-- ITS FALSE NEIGHBOUR: 'it returns false'. Refute it at one input. -/
def leafsTurnWrong : ChangeSpec := { name := "leafsTurn", fn := fun _ => fun
  | [d1, d2, d3, d4] => { results := [.lit (.bool false)], args := [d1, d2, d3, d4] }
  | _ => none }
def LeafsTurnWrongFalsely : Prop := leafsTurnRow.holds Try.pinned (OpenSpec.ofChange leafsTurnWrong)

/-- 'bowerlaw11.LeafsTell': WHATEVER THE INPUT: true; the input reads as it did. -/
def leafsTellSpec : ChangeSpec := { name := "leafsTell", fn := fun _ => fun
  | [d1, d2, d3, d4] => { results := [.lit (.bool true)], args := [d1, d2, d3, d4] }
  | _ => none }
def leafsTellRow : OpenClaim := { program := "ytnlghdkgejimpaa", sum := "200b820cbe080c69b9966783b68c31f9b79b7d0489eae964dafd3011c03d39ea", func := "bower/bowerlaw11.LeafsTell", spec := "leafsTell", unfollowed := true, recurses := true, apart := false }
def LeafsTellSaid : Prop := leafsTellRow.holds Try.pinned (OpenSpec.ofChange leafsTellSpec)

/-- ITS FALSE NEIGHBOUR: 'it returns false'. Refute it at one input. -/
def leafsTellWrong : ChangeSpec := { name := "leafsTell", fn := fun _ => fun
  | [d1, d2, d3, d4] => { results := [.lit (.bool false)], args := [d1, d2, d3, d4] }
  | _ => none }
def LeafsTellWrongFalsely : Prop := leafsTellRow.holds Try.pinned (OpenSpec.ofChange leafsTellWrong)

/-- 'bowerlaw11.LeafsBack': WHATEVER THE INPUT: true; the input reads as it did. -/
def leafsBackSpec : ChangeSpec := { name := "leafsBack", fn := fun _ => fun
  | [d1, d2, d3, d4] => { results := [.lit (.bool true)], args := [d1, d2, d3, d4] }
  | _ => none }
def leafsBackRow : OpenClaim := { program := "ytnlghdkgejimpaa", sum := "200b820cbe080c69b9966783b68c31f9b79b7d0489eae964dafd3011c03d39ea", func := "bower/bowerlaw11.LeafsBack", spec := "leafsBack", unfollowed := true, recurses := true, apart := false }
def LeafsBackSaid : Prop := leafsBackRow.holds Try.pinned (OpenSpec.ofChange leafsBackSpec)

/-- ITS FALSE NEIGHBOUR: 'it returns false'. Refute it at one input. -/
def leafsBackWrong : ChangeSpec := { name := "leafsBack", fn := fun _ => fun
  | [d1, d2, d3, d4] => { results := [.lit (.bool false)], args := [d1, d2, d3, d4] }
  | _ => none }
def LeafsBackWrongFalsely : Prop := leafsBackRow.holds Try.pinned (OpenSpec.ofChange leafsBackWrong)

/-- 'bowerlaw12.InnerTurns': WHATEVER THE INPUT: true; the input reads as it did. -/
def innerTurnsSpec : ChangeSpec := { name := "innerTurns", fn := fun _ => fun
  | [d1, d2, d3, d4, d5] => { results := [.lit (.bool true)], args := [d1, d2, d3, d4, d5] }
  | _ => none }
def innerTurnsRow : OpenClaim := { program := "ytnlghdkgejimpaa", sum := "200b820cbe080c69b9966783b68c31f9b79b7d0489eae964dafd3011c03d39ea", func := "bower/bowerlaw12.InnerTurns", spec := "innerTurns", unfollowed := true, recurses := true, apart := false }
def InnerTurnsSaid : Prop := innerTurnsRow.holds Try.pinned (OpenSpec.ofChange innerTurnsSpec)

/-- ITS FALSE NEIGHBOUR: 'it returns false'. Refute it at one input. -/
def innerTurnsWrong : ChangeSpec := { name := "innerTurns", fn := fun _ => fun
  | [d1, d2, d3, d4, d5] => { results := [.lit (.bool false)], args := [d1, d2, d3, d4, d5] }
  | _ => none }
def InnerTurnsWrongFalsely : Prop := innerTurnsRow.holds Try.pinned (OpenSpec.ofChange innerTurnsWrong)

/-- 'bowerlaw12.InnerOver': WHATEVER THE INPUT: true; the input reads as it did. -/
def innerOverSpec : ChangeSpec := { name := "innerOver", fn := fun _ => fun
  | [d1, d2, d3, d4] => { results := [.lit (.bool true)], args := [d1, d2, d3, d4] }
  | _ => none }
def innerOverRow : OpenClaim := { program := "ytnlghdkgejimpaa", sum := "200b820cbe080c69b9966783b68c31f9b79b7d0489eae964dafd3011c03d39ea", func := "bower/bowerlaw12.InnerOver", spec := "innerOver", unfollowed := true, recurses := true, apart := false }
def InnerOverSaid : Prop := innerOverRow.holds Try.pinned (OpenSpec.ofChange innerOverSpec)

/-- ITS FALSE NEIGHBOUR: 'it returns false'. Refute it at one input. -/
def innerOverWrong : ChangeSpec := { name := "innerOver", fn := fun _ => fun
  | [d1, d2, d3, d4] => { results := [.lit (.bool false)], args := [d1, d2, d3, d4] }
  | _ => none }
def InnerOverWrongFalsely : Prop := innerOverRow.holds Try.pinned (OpenSpec.ofChange innerOverWrong)

/-- 'bowerlaw12.InnerBack': WHATEVER THE INPUT: true; the input reads as it did. -/
def innerBackSpec : ChangeSpec := { name := "innerBack", fn := fun _ => fun
  | [d1, d2, d3, d4, d5] => { results := [.lit (.bool true)], args := [d1, d2, d3, d4, d5] }
  | _ => none }
def innerBackRow : OpenClaim := { program := "ytnlghdkgejimpaa", sum := "200b820cbe080c69b9966783b68c31f9b79b7d0489eae964dafd3011c03d39ea", func := "bower/bowerlaw12.InnerBack", spec := "innerBack", unfollowed := true, recurses := true, apart := false }
def InnerBackSaid : Prop := innerBackRow.holds Try.pinned (OpenSpec.ofChange innerBackSpec)

/-- ITS FALSE NEIGHBOUR: 'it returns false'. Refute it at one input. -/
def innerBackWrong : ChangeSpec := { name := "innerBack", fn := fun _ => fun
  | [d1, d2, d3, d4, d5] => { results := [.lit (.bool false)], args := [d1, d2, d3, d4, d5] }
  | _ => none }
def InnerBackWrongFalsely : Prop := innerBackRow.holds Try.pinned (OpenSpec.ofChange innerBackWrong)

/- THE SECOND FORM. 'bulk': how many values and letters a reading holds, each counted each time it is reached (what is shared counts as often as it is met; a slice's spare places count too). A statement '..UptoSaid' is the law's where the arguments, and the package variables that the reading takes, are together of bulk at most 1048576: NARROWER than '..Said'. Prove '..Said' where nothing that the law and all that it calls make is longer than what came in: it says more and counts as full. Else prove '..UptoSaid'. A law counts once. -/
mutual
def uptoBulk {H : Type} : DataW H → Nat
  | .lit (.string bytes) => bytes.length + 1
  | .lit _ => 1
  | .nil => 1
  | .ptr d => uptoBulk d + 1
  | .slice elems spare => uptoBulkAll elems + uptoBulkAll spare + 1
  | .agg parts => uptoBulkAll parts + 1
  | .iface _ d => uptoBulk d + 1
  | .map entries => uptoBulkEntries entries + 1
  | .held _ => 1
def uptoBulkAll {H : Type} : List (DataW H) → Nat
  | [] => 0
  | d :: r => uptoBulk d + uptoBulkAll r
def uptoBulkEntries {H : Type} : List (Lit × DataW H) → Nat
  | [] => 0
  | x :: r => uptoBulkEntry x + uptoBulkEntries r
def uptoBulkEntry {H : Type} : Lit × DataW H → Nat
  | (.string bytes, d) => bytes.length + uptoBulk d + 1
  | (_, d) => uptoBulk d + 1
 end
def uptoSmall : (H : Type) → List (DataW H) → Bool := fun _ ds => decide (uptoBulkAll ds ≤ 1048576)
def OpenSpec.upto (s : _root_.Go.ChangeSpec) : _root_.Go.OpenSpec := { _root_.Go.OpenSpec.ofChange s with cond := some uptoSmall }

/-- 'bowerlaw11.LeafsTurn', WHERE WHAT IT READS IS OF BULK AT MOST 1048576: true; the input reads as it did. -/
def leafsTurnUptoRow : OpenClaim := { program := "ytnlghdkgejimpaa", sum := "200b820cbe080c69b9966783b68c31f9b79b7d0489eae964dafd3011c03d39ea", func := "bower/bowerlaw11.LeafsTurn", spec := "leafsTurn", unfollowed := true, recurses := true, apart := false, narrowed := true }
def LeafsTurnUptoSaid : Prop := leafsTurnUptoRow.holds Try.pinned (OpenSpec.upto leafsTurnSpec)

/-- 'bowerlaw11.LeafsTell', WHERE WHAT IT READS IS OF BULK AT MOST 1048576: true; the input reads as it did. -/
def leafsTellUptoRow : OpenClaim := { program := "ytnlghdkgejimpaa", sum := "200b820cbe080c69b9966783b68c31f9b79b7d0489eae964dafd3011c03d39ea", func := "bower/bowerlaw11.LeafsTell", spec := "leafsTell", unfollowed := true, recurses := true, apart := false, narrowed := true }
def LeafsTellUptoSaid : Prop := leafsTellUptoRow.holds Try.pinned (OpenSpec.upto leafsTellSpec)

/-- 'bowerlaw11.LeafsBack', WHERE WHAT IT READS IS OF BULK AT MOST 1048576: true; the input reads as it did. -/
def leafsBackUptoRow : OpenClaim := { program := "ytnlghdkgejimpaa", sum := "200b820cbe080c69b9966783b68c31f9b79b7d0489eae964dafd3011c03d39ea", func := "bower/bowerlaw11.LeafsBack", spec := "leafsBack", unfollowed := true, recurses := true, apart := false, narrowed := true }
def LeafsBackUptoSaid : Prop := leafsBackUptoRow.holds Try.pinned (OpenSpec.upto leafsBackSpec)

/-- 'bowerlaw12.InnerTurns', WHERE WHAT IT READS IS OF BULK AT MOST 1048576: true; the input reads as it did. -/
def innerTurnsUptoRow : OpenClaim := { program := "ytnlghdkgejimpaa", sum := "200b820cbe080c69b9966783b68c31f9b79b7d0489eae964dafd3011c03d39ea", func := "bower/bowerlaw12.InnerTurns", spec := "innerTurns", unfollowed := true, recurses := true, apart := false, narrowed := true }
def InnerTurnsUptoSaid : Prop := innerTurnsUptoRow.holds Try.pinned (OpenSpec.upto innerTurnsSpec)

/-- 'bowerlaw12.InnerOver', WHERE WHAT IT READS IS OF BULK AT MOST 1048576: true; the input reads as it did. -/
def innerOverUptoRow : OpenClaim := { program := "ytnlghdkgejimpaa", sum := "200b820cbe080c69b9966783b68c31f9b79b7d0489eae964dafd3011c03d39ea", func := "bower/bowerlaw12.InnerOver", spec := "innerOver", unfollowed := true, recurses := true, apart := false, narrowed := true }
def InnerOverUptoSaid : Prop := innerOverUptoRow.holds Try.pinned (OpenSpec.upto innerOverSpec)

/-- 'bowerlaw12.InnerBack', WHERE WHAT IT READS IS OF BULK AT MOST 1048576: true; the input reads as it did. -/
def innerBackUptoRow : OpenClaim := { program := "ytnlghdkgejimpaa", sum := "200b820cbe080c69b9966783b68c31f9b79b7d0489eae964dafd3011c03d39ea", func := "bower/bowerlaw12.InnerBack", spec := "innerBack", unfollowed := true, recurses := true, apart := false, narrowed := true }
def InnerBackUptoSaid : Prop := innerBackUptoRow.holds Try.pinned (OpenSpec.upto innerBackSpec)

end Rows
end Go.Proofs.Ytnlghdkgejimpaa
