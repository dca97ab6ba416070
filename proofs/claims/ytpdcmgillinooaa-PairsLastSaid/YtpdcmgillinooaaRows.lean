/-
  No cell of these rows narrows 'for every input' (looked for: loops, veiled, ifaces, maps, wideKeys, modest, calm, conditions, laid).
  DERIVED. THE GIVEN ROWS OF THIS SEAT. 3 by the template 'for every input the law returns true; each argument reads behind the call as it read before'; 0 by the template 'total and deterministic' (their statements: YtpdcmgillinooaaTotals.lean).
  GIVEN WITH THE SEED: the statements are not yours to turn. If you find one false, say at which input.
  Laid BY PROGRAM, IN A SANDBOX (cutbox-rows.mjs): the forced cells as the released guide's own fill.sh prints them over the translation 2dee80b49ba084ee… (all of the seat's roots in one cut). By AI agents, Wed Nov 11 2026. No macro, syntax, notation, axiom, sorry.
-/
import Derived.Test.YtpdcmgillinooaaChecked
import GoSem.Claim
import GoSem.ClaimJoined
import GoSem.ClaimMapViews
import Derived.JoinedTies
import Derived.KernelRfl
namespace Go.Proofs.Ytpdcmgillinooaa
/- THE CELL 'sum', in the pinned program and in every row, IS THE sha256 OF THE DUMP (.gsa) THAT YtpdcmgillinooaaProg.lean LOADS. Nothing in Lean hashes anything: it is a label: what it is worth is what the hold of that sum in a sandbox is worth. -/
noncomputable def Try.pinned : Pinned := { name := "ytpdcmgillinooaa", sum := "2dee80b49ba084ee66878ca486279e48d2096b3526ac6762f72f394c6fe2c911", checked := Try.checked }
namespace Rows
def none {H : Type} : Left H := { results := [], args := [] }

/-- 'bowerlaw06.PairsPlay': WHATEVER THE INPUT: true; the input reads as it did. -/
def pairsPlaySpec : ChangeSpec := { name := "pairsPlay", fn := fun _ => fun
  | [d] => { results := [.lit (.bool true)], args := [d] }
  | _ => none }
def pairsPlayRow : OpenClaim := { program := "ytpdcmgillinooaa", sum := "2dee80b49ba084ee66878ca486279e48d2096b3526ac6762f72f394c6fe2c911", func := "bower/bowerlaw06.PairsPlay", spec := "pairsPlay", unfollowed := true, recurses := true, apart := false }
def PairsPlaySaid : Prop := pairsPlayRow.holds Try.pinned (OpenSpec.ofChange pairsPlaySpec)

/-- ITS FALSE NEIGHBOUR: 'it returns false'. Refute it at one input. -/
def pairsPlayWrong : ChangeSpec := { name := "pairsPlay", fn := fun _ => fun
  | [d] => { results := [.lit (.bool false)], args := [d] }
  | _ => none }
def PairsPlayWrongFalsely : Prop := pairsPlayRow.holds Try.pinned (OpenSpec.ofChange pairsPlayWrong)

/-- 'bowerlaw06.PairsLast': WHATEVER THE INPUT: true; the input reads as it did. -/
def pairsLastSpec : ChangeSpec := { name := "pairsLast", fn := fun _ => fun
  | [d] => { results := [.lit (.bool true)], args := [d] }
  | _ => none }
def pairsLastRow : OpenClaim := { program := "ytpdcmgillinooaa", sum := "2dee80b49ba084ee66878ca486279e48d2096b3526ac6762f72f394c6fe2c911", func := "bower/bowerlaw06.PairsLast", spec := "pairsLast", unfollowed := true, recurses := true, apart := false }
def PairsLastSaid : Prop := pairsLastRow.holds Try.pinned (OpenSpec.ofChange pairsLastSpec)

/-- ITS FALSE NEIGHBOUR: 'it returns false'. Refute it at one input. -/
def pairsLastWrong : ChangeSpec := { name := "pairsLast", fn := fun _ => fun
  | [d] => { results := [.lit (.bool false)], args := [d] }
  | _ => none }
def PairsLastWrongFalsely : Prop := pairsLastRow.holds Try.pinned (OpenSpec.ofChange pairsLastWrong)

/-- 'bowerlaw06.PairsApart': WHATEVER THE INPUT: true; the input reads as it did. -/
def pairsApartSpec : ChangeSpec := { name := "pairsApart", fn := fun _ => fun
  | [d1, d2] => { results := [.lit (.bool true)], args := [d1, d2] }
  | _ => none }
def pairsApartRow : OpenClaim := { program := "ytpdcmgillinooaa", sum := "2dee80b49ba084ee66878ca486279e48d2096b3526ac6762f72f394c6fe2c911", func := "bower/bowerlaw06.PairsApart", spec := "pairsApart", unfollowed := true, recurses := true, apart := false }
def PairsApartSaid : Prop := pairsApartRow.holds Try.pinned (OpenSpec.ofChange pairsApartSpec)

/-- ITS FALSE NEIGHBOUR: 'it returns false'. Refute it at one input. -/
def pairsApartWrong : ChangeSpec := { name := "pairsApart", fn := fun _ => fun
  | [d1, d2] => { results := [.lit (.bool false)], args := [d1, d2] }
  | _ => none }
def PairsApartWrongFalsely : Prop := pairsApartRow.holds Try.pinned (OpenSpec.ofChange pairsApartWrong)

/- THE SECOND FORM. 'bulk': how many values and letters a reading holds, each counted each time it is reached (what is shared counts as often as it is met; a slice's spare places count too). A statement '..UptoSaid' is the law's where the arguments, and the package variables that the reading takes, are together of bulk at most 1048576: NARROWER than '..Said'. Prove '..Said' where nothing that the law and all that it calls make is longer than what came in: it says more and counts as full. Else prove '..UptoSaid'. A law counts once. -/
mutual
def uptoBulk {H : Type} : DataW H → Nat
  | .lit (.string bytes) => bytes.length + 1
  | .lit _ => 1
  | .nil => 1
  | .ptr d => uptoBulk d + 1
  | .slice elems spare => uptoBulkAll elems + uptoBulkAll spare + 1
  | .agg parts => uptoBulkAll parts + 1
  | .iface _ d => uptoBulk d + 1
  | .map entries => uptoBulkEntries entries + 1
  | .held _ => 1
def uptoBulkAll {H : Type} : List (DataW H) → Nat
  | [] => 0
  | d :: r => uptoBulk d + uptoBulkAll r
def uptoBulkEntries {H : Type} : List (Lit × DataW H) → Nat
  | [] => 0
  | x :: r => uptoBulkEntry x + uptoBulkEntries r
def uptoBulkEntry {H : Type} : Lit × DataW H → Nat
  | (.string bytes, d) => bytes.length + uptoBulk d + 1
  | (_, d) => uptoBulk d + 1
 end
def uptoSmall : (H : Type) → List (DataW H) → Bool := fun _ ds => decide (uptoBulkAll ds ≤ 1048576)
def OpenSpec.upto (s : _root_.Go.ChangeSpec) : _root_.Go.OpenSpec := { _root_.Go.OpenSpec.ofChange s with cond := some uptoSmall }

/-- 'bowerlaw06.PairsPlay', WHERE WHAT IT READS IS OF BULK AT MOST 1048576: true; the input reads as it did. -/
def pairsPlayUptoRow : OpenClaim := { program := "ytpdcmgillinooaa", sum := "2dee80b49ba084ee66878ca486279e48d2096b3526ac6762f72f394c6fe2c911", func := "bower/bowerlaw06.PairsPlay", spec := "pairsPlay", unfollowed := true, recurses := true, apart := false, narrowed := true }
def PairsPlayUptoSaid : Prop := pairsPlayUptoRow.holds Try.pinned (OpenSpec.upto pairsPlaySpec)

/-- 'bowerlaw06.PairsLast', WHERE WHAT IT READS IS OF BULK AT MOST 1048576: true; the input reads as it did. -/
def pairsLastUptoRow : OpenClaim := { program := "ytpdcmgillinooaa", sum := "2dee80b49ba084ee66878ca486279e48d2096b3526ac6762f72f394c6fe2c911", func := "bower/bowerlaw06.PairsLast", spec := "pairsLast", unfollowed := true, recurses := true, apart := false, narrowed := true }
def PairsLastUptoSaid : Prop := pairsLastUptoRow.holds Try.pinned (OpenSpec.upto pairsLastSpec)

/-- 'bowerlaw06.PairsApart', WHERE WHAT IT READS IS OF BULK AT MOST 1048576: true; the input reads as it did. -/
def pairsApartUptoRow : OpenClaim := { program := "ytpdcmgillinooaa", sum := "2dee80b49ba084ee66878ca486279e48d2096b3526ac6762f72f394c6fe2c911", func := "bower/bowerlaw06.PairsApart", spec := "pairsApart", unfollowed := true, recurses := true, apart := false, narrowed := true }
def PairsApartUptoSaid : Prop := pairsApartUptoRow.holds Try.pinned (OpenSpec.upto pairsApartSpec)

end Rows
end Go.Proofs.Ytpdcmgillinooaa
