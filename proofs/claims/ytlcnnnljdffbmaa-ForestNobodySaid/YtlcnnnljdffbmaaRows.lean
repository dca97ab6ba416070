/-
  No cell of these rows narrows 'for every input' (looked for: loops, veiled, ifaces, maps, wideKeys, modest, calm, conditions, laid).
  DERIVED. THE GIVEN ROWS OF THIS SEAT. 4 by the template 'for every input the law returns true; each argument reads behind the call as it read before'; 0 by the template 'total and deterministic' (their statements: YtlcnnnljdffbmaaTotals.lean).
  GIVEN WITH THE SEED: the statements are not yours to turn. If you find one false, say at which input.
  Laid BY PROGRAM, IN A SANDBOX (cutbox-rows.mjs): the forced cells as the released guide's own fill.sh prints them over the translation 01cd9e6d0a74743f… (all of the seat's roots in one cut). By AI agents, Wed Nov 11 2026. No macro, syntax, notation, axiom, sorry.
-/
import Derived.Test.YtlcnnnljdffbmaaChecked
import GoSem.Claim
import GoSem.ClaimJoined
import GoSem.ClaimMapViews
import Derived.JoinedTies
import Derived.KernelRfl
namespace Go.Proofs.Ytlcnnnljdffbmaa
/- THE CELL 'sum', in the pinned program and in every row, IS THE sha256 OF THE DUMP (.gsa) THAT YtlcnnnljdffbmaaProg.lean LOADS. Nothing in Lean hashes anything: it is a label: what it is worth is what the hold of that sum in a sandbox is worth. -/
noncomputable def Try.pinned : Pinned := { name := "ytlcnnnljdffbmaa", sum := "01cd9e6d0a74743f40700b0dfff20e58b0583b889d12933af6a99bcac22f13e0", checked := Try.checked }
namespace Rows
def none {H : Type} : Left H := { results := [], args := [] }

/-- 'bowerlaw13.HalveWhole': WHATEVER THE INPUT: true; the input reads as it did. -/
def halveWholeSpec : ChangeSpec := { name := "halveWhole", fn := fun _ => fun
  | [d1, d2, d3, d4] => { results := [.lit (.bool true)], args := [d1, d2, d3, d4] }
  | _ => none }
def halveWholeRow : OpenClaim := { program := "ytlcnnnljdffbmaa", sum := "01cd9e6d0a74743f40700b0dfff20e58b0583b889d12933af6a99bcac22f13e0", func := "bower/bowerlaw13.HalveWhole", spec := "halveWhole", unfollowed := true, recurses := true, apart := false }
def HalveWholeSaid : Prop := halveWholeRow.holds Try.pinned (OpenSpec.ofChange halveWholeSpec)

/-- ITS FALSE NEIGHBOUR: 'it returns false'. Refute it at one input. -/
def halveWholeWrong : ChangeSpec := { name := "halveWhole", fn := fun _ => fun
  | [d1, d2, d3, d4] => { results := [.lit (.bool false)], args := [d1, d2, d3, d4] }
  | _ => none }
def HalveWholeWrongFalsely : Prop := halveWholeRow.holds Try.pinned (OpenSpec.ofChange halveWholeWrong)

/-- 'bowerlaw14.ForestPlays': WHATEVER THE INPUT: true; the input reads as it did. -/
def forestPlaysSpec : ChangeSpec := { name := "forestPlays", fn := fun _ => fun
  | [d] => { results := [.lit (.bool true)], args := [d] }
  | _ => none }
def forestPlaysRow : OpenClaim := { program := "ytlcnnnljdffbmaa", sum := "01cd9e6d0a74743f40700b0dfff20e58b0583b889d12933af6a99bcac22f13e0", func := "bower/bowerlaw14.ForestPlays", spec := "forestPlays", unfollowed := true, recurses := true, apart := false }
def ForestPlaysSaid : Prop := forestPlaysRow.holds Try.pinned (OpenSpec.ofChange forestPlaysSpec)

/-- ITS FALSE NEIGHBOUR: 'it returns false'. Refute it at one input. -/
def forestPlaysWrong : ChangeSpec := { name := "forestPlays", fn := fun _ => fun
  | [d] => { results := [.lit (.bool false)], args := [d] }
  | _ => none }
def ForestPlaysWrongFalsely : Prop := forestPlaysRow.holds Try.pinned (OpenSpec.ofChange forestPlaysWrong)

/-- 'bowerlaw14.ForestNobody': WHATEVER THE INPUT: true; the input reads as it did. -/
def forestNobodySpec : ChangeSpec := { name := "forestNobody", fn := fun _ => fun
  | [d1, d2] => { results := [.lit (.bool true)], args := [d1, d2] }
  | _ => none }
def forestNobodyRow : OpenClaim := { program := "ytlcnnnljdffbmaa", sum := "01cd9e6d0a74743f40700b0dfff20e58b0583b889d12933af6a99bcac22f13e0", func := "bower/bowerlaw14.ForestNobody", spec := "forestNobody", unfollowed := true, recurses := true, apart := false }
def ForestNobodySaid : Prop := forestNobodyRow.holds Try.pinned (OpenSpec.ofChange forestNobodySpec)

/-- ITS FALSE NEIGHBOUR: 'it returns false'. Refute it at one input. -/
def forestNobodyWrong : ChangeSpec := { name := "forestNobody", fn := fun _ => fun
  | [d1, d2] => { results := [.lit (.bool false)], args := [d1, d2] }
  | _ => none }
def ForestNobodyWrongFalsely : Prop := forestNobodyRow.holds Try.pinned (OpenSpec.ofChange forestNobodyWrong)

/-- 'bowerlaw15.WholeAgrees': WHATEVER THE INPUT: true; the input reads as it did. -/
def wholeAgreesSpec : ChangeSpec := { name := "wholeAgrees", fn := fun _ => fun
  | [d1, d2, d3] => { results := [.lit (.bool true)], args := [d1, d2, d3] }
  | _ => none }
def wholeAgreesRow : OpenClaim := { program := "ytlcnnnljdffbmaa", sum := "01cd9e6d0a74743f40700b0dfff20e58b0583b889d12933af6a99bcac22f13e0", func := "bower/bowerlaw15.WholeAgrees", spec := "wholeAgrees", unfollowed := true, recurses := true, apart := false }
def WholeAgreesSaid : Prop := wholeAgreesRow.holds Try.pinned (OpenSpec.ofChange wholeAgreesSpec)

/-- ITS FALSE NEIGHBOUR: 'it returns false'. Refute it at one input. -/
def wholeAgreesWrong : ChangeSpec := { name := "wholeAgrees", fn := fun _ => fun
  | [d1, d2, d3] => { results := [.lit (.bool false)], args := [d1, d2, d3] }
  | _ => none }
def WholeAgreesWrongFalsely : Prop := wholeAgreesRow.holds Try.pinned (OpenSpec.ofChange wholeAgreesWrong)

/- THE SECOND FORM. 'bulk': how many values and letters a reading holds, each counted each time it is reached (what is shared counts as often as it is met; a slice's spare places count too). A statement '..UptoSaid' is the law's where the arguments, and the package variables that the reading takes, are together of bulk at most 1048576: NARROWER than '..Said'. Prove '..Said' where nothing that the law and all that it calls make is longer than what came in: it says more and counts as full. Else prove '..UptoSaid'. A law counts once. -/
mutual
def uptoBulk {H : Type} : DataW H → Nat
  | .lit (.string bytes) => bytes.length + 1
  | .lit _ => 1
  | .nil => 1
  | .ptr d => uptoBulk d + 1
  | .slice elems spare => uptoBulkAll elems + uptoBulkAll spare + 1
  | .agg parts => uptoBulkAll parts + 1
  | .iface _ d => uptoBulk d + 1
  | .map entries => uptoBulkEntries entries + 1
  | .held _ => 1
def uptoBulkAll {H : Type} : List (DataW H) → Nat
  | [] => 0
  | d :: r => uptoBulk d + uptoBulkAll r
def uptoBulkEntries {H : Type} : List (Lit × DataW H) → Nat
  | [] => 0
  | x :: r => uptoBulkEntry x + uptoBulkEntries r
def uptoBulkEntry {H : Type} : Lit × DataW H → Nat
  | (.string bytes, d) => bytes.length + uptoBulk d + 1
  | (_, d) => uptoBulk d + 1
 end
def uptoSmall : (H : Type) → List (DataW H) → Bool := fun _ ds => decide (uptoBulkAll ds ≤ 1048576)
def OpenSpec.upto (s : _root_.Go.ChangeSpec) : _root_.Go.OpenSpec := { _root_.Go.OpenSpec.ofChange s with cond := some uptoSmall }

/-- 'bowerlaw13.HalveWhole', WHERE WHAT IT READS IS OF BULK AT MOST 1048576: true; the input reads as it did. -/
def halveWholeUptoRow : OpenClaim := { program := "ytlcnnnljdffbmaa", sum := "01cd9e6d0a74743f40700b0dfff20e58b0583b889d12933af6a99bcac22f13e0", func := "bower/bowerlaw13.HalveWhole", spec := "halveWhole", unfollowed := true, recurses := true, apart := false, narrowed := true }
def HalveWholeUptoSaid : Prop := halveWholeUptoRow.holds Try.pinned (OpenSpec.upto halveWholeSpec)

/-- 'bowerlaw14.ForestPlays', WHERE WHAT IT READS IS OF BULK AT MOST 1048576: true; the input reads as it did. -/
def forestPlaysUptoRow : OpenClaim := { program := "ytlcnnnljdffbmaa", sum := "01cd9e6d0a74743f40700b0dfff20e58b0583b889d12933af6a99bcac22f13e0", func := "bower/bowerlaw14.ForestPlays", spec := "forestPlays", unfollowed := true, recurses := true, apart := false, narrowed := true }
def ForestPlaysUptoSaid : Prop := forestPlaysUptoRow.holds Try.pinned (OpenSpec.upto forestPlaysSpec)

/-- 'bowerlaw14.ForestNobody', WHERE WHAT IT READS IS OF BULK AT MOST 1048576: true; the input reads as it did. -/
def forestNobodyUptoRow : OpenClaim := { program := "ytlcnnnljdffbmaa", sum := "01cd9e6d0a74743f40700b0dfff20e58b0583b889d12933af6a99bcac22f13e0", func := "bower/bowerlaw14.ForestNobody", spec := "forestNobody", unfollowed := true, recurses := true, apart := false, narrowed := true }
def ForestNobodyUptoSaid : Prop := forestNobodyUptoRow.holds Try.pinned (OpenSpec.upto forestNobodySpec)

/-- 'bowerlaw15.WholeAgrees', WHERE WHAT IT READS IS OF BULK AT MOST 1048576: true; the input reads as it did. -/
def wholeAgreesUptoRow : OpenClaim := { program := "ytlcnnnljdffbmaa", sum := "01cd9e6d0a74743f40700b0dfff20e58b0583b889d12933af6a99bcac22f13e0", func := "bower/bowerlaw15.WholeAgrees", spec := "wholeAgrees", unfollowed := true, recurses := true, apart := false, narrowed := true }
def WholeAgreesUptoSaid : Prop := wholeAgreesUptoRow.holds Try.pinned (OpenSpec.upto wholeAgreesSpec)

end Rows
end Go.Proofs.Ytlcnnnljdffbmaa
