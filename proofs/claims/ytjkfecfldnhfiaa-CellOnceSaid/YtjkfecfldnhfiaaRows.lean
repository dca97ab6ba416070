/-
  No cell of these rows narrows 'for every input' (looked for: loops, veiled, ifaces, maps, wideKeys, modest, calm, conditions, laid).
  DERIVED. THE GIVEN ROWS OF THIS SEAT. 5 by the template 'for every input the law returns true; each argument reads behind the call as it read before'; 0 by the template 'total and deterministic' (their statements: YtjkfecfldnhfiaaTotals.lean).
  GIVEN WITH THE SEED: the statements are not yours to turn. If you find one false, say at which input.
  Laid BY PROGRAM, IN A SANDBOX (cutbox-rows.mjs): the forced cells as the released guide's own fill.sh prints them over the translation 408037650a1e3c52… (all of the seat's roots in one cut). By AI agents, Wed Nov 11 2026. No macro, syntax, notation, axiom, sorry.
-/
import Derived.Test.YtjkfecfldnhfiaaChecked
import GoSem.Claim
import GoSem.ClaimJoined
import GoSem.ClaimMapViews
import Derived.JoinedTies
import Derived.KernelRfl
namespace Go.Proofs.Ytjkfecfldnhfiaa
/- THE CELL 'sum', in the pinned program and in every row, IS THE sha256 OF THE DUMP (.gsa) THAT YtjkfecfldnhfiaaProg.lean LOADS. Nothing in Lean hashes anything: it is a label: what it is worth is what the hold of that sum in a sandbox is worth. -/
noncomputable def Try.pinned : Pinned := { name := "ytjkfecfldnhfiaa", sum := "408037650a1e3c52beebf486fe26d3857d88567084c36d06c1789b8958ecbe45", checked := Try.checked }
namespace Rows
def none {H : Type} : Left H := { results := [], args := [] }

/-- 'bowerlaw07.RefPacks': WHATEVER THE INPUT: true; the input reads as it did. -/
def refPacksSpec : ChangeSpec := { name := "refPacks", fn := fun _ => fun
  | [d1, d2, d3] => { results := [.lit (.bool true)], args := [d1, d2, d3] }
  | _ => none }
def refPacksRow : OpenClaim := { program := "ytjkfecfldnhfiaa", sum := "408037650a1e3c52beebf486fe26d3857d88567084c36d06c1789b8958ecbe45", func := "bower/bowerlaw07.RefPacks", spec := "refPacks", unfollowed := true, recurses := true, apart := false }
def RefPacksSaid : Prop := refPacksRow.holds Try.pinned (OpenSpec.ofChange refPacksSpec)

/-- ITS FALSE NEIGHBOUR: 'it returns false'. Refute it at one input. -/
def refPacksWrong : ChangeSpec := { name := "refPacks", fn := fun _ => fun
  | [d1, d2, d3] => { results := [.lit (.bool false)], args := [d1, d2, d3] }
  | _ => none }
def RefPacksWrongFalsely : Prop := refPacksRow.holds Try.pinned (OpenSpec.ofChange refPacksWrong)

/-- 'bowerlaw07.RefGates': WHATEVER THE INPUT: true; the input reads as it did. -/
def refGatesSpec : ChangeSpec := { name := "refGates", fn := fun _ => fun
  | [d1, d2] => { results := [.lit (.bool true)], args := [d1, d2] }
  | _ => none }
def refGatesRow : OpenClaim := { program := "ytjkfecfldnhfiaa", sum := "408037650a1e3c52beebf486fe26d3857d88567084c36d06c1789b8958ecbe45", func := "bower/bowerlaw07.RefGates", spec := "refGates", unfollowed := true, recurses := true, apart := false }
def RefGatesSaid : Prop := refGatesRow.holds Try.pinned (OpenSpec.ofChange refGatesSpec)

/-- ITS FALSE NEIGHBOUR: 'it returns false'. Refute it at one input. -/
def refGatesWrong : ChangeSpec := { name := "refGates", fn := fun _ => fun
  | [d1, d2] => { results := [.lit (.bool false)], args := [d1, d2] }
  | _ => none }
def RefGatesWrongFalsely : Prop := refGatesRow.holds Try.pinned (OpenSpec.ofChange refGatesWrong)

/-- 'bowerlaw07.RefOnce': WHATEVER THE INPUT: true; the input reads as it did. -/
def refOnceSpec : ChangeSpec := { name := "refOnce", fn := fun _ => fun
  | [d1, d2, d3, d4] => { results := [.lit (.bool true)], args := [d1, d2, d3, d4] }
  | _ => none }
def refOnceRow : OpenClaim := { program := "ytjkfecfldnhfiaa", sum := "408037650a1e3c52beebf486fe26d3857d88567084c36d06c1789b8958ecbe45", func := "bower/bowerlaw07.RefOnce", spec := "refOnce", unfollowed := true, recurses := true, apart := false }
def RefOnceSaid : Prop := refOnceRow.holds Try.pinned (OpenSpec.ofChange refOnceSpec)

/-- ITS FALSE NEIGHBOUR: 'it returns false'. Refute it at one input. -/
def refOnceWrong : ChangeSpec := { name := "refOnce", fn := fun _ => fun
  | [d1, d2, d3, d4] => { results := [.lit (.bool false)], args := [d1, d2, d3, d4] }
  | _ => none }
def RefOnceWrongFalsely : Prop := refOnceRow.holds Try.pinned (OpenSpec.ofChange refOnceWrong)

/-- 'bowerlaw08.CellPlays': WHATEVER THE INPUT: true; the input reads as it did. -/
def cellPlaysSpec : ChangeSpec := { name := "cellPlays", fn := fun _ => fun
  | [d1, d2] => { results := [.lit (.bool true)], args := [d1, d2] }
  | _ => none }
def cellPlaysRow : OpenClaim := { program := "ytjkfecfldnhfiaa", sum := "408037650a1e3c52beebf486fe26d3857d88567084c36d06c1789b8958ecbe45", func := "bower/bowerlaw08.CellPlays", spec := "cellPlays", apart := false }
def CellPlaysSaid : Prop := cellPlaysRow.holds Try.pinned (OpenSpec.ofChange cellPlaysSpec)

/-- ITS FALSE NEIGHBOUR: 'it returns false'. Refute it at one input. -/
def cellPlaysWrong : ChangeSpec := { name := "cellPlays", fn := fun _ => fun
  | [d1, d2] => { results := [.lit (.bool false)], args := [d1, d2] }
  | _ => none }
def CellPlaysWrongFalsely : Prop := cellPlaysRow.holds Try.pinned (OpenSpec.ofChange cellPlaysWrong)

/-- 'bowerlaw08.CellOnce': WHATEVER THE INPUT: true; the input reads as it did. -/
def cellOnceSpec : ChangeSpec := { name := "cellOnce", fn := fun _ => fun
  | [d1, d2] => { results := [.lit (.bool true)], args := [d1, d2] }
  | _ => none }
def cellOnceRow : OpenClaim := { program := "ytjkfecfldnhfiaa", sum := "408037650a1e3c52beebf486fe26d3857d88567084c36d06c1789b8958ecbe45", func := "bower/bowerlaw08.CellOnce", spec := "cellOnce", apart := false }
def CellOnceSaid : Prop := cellOnceRow.holds Try.pinned (OpenSpec.ofChange cellOnceSpec)

/-- ITS FALSE NEIGHBOUR: 'it returns false'. Refute it at one input. -/
def cellOnceWrong : ChangeSpec := { name := "cellOnce", fn := fun _ => fun
  | [d1, d2] => { results := [.lit (.bool false)], args := [d1, d2] }
  | _ => none }
def CellOnceWrongFalsely : Prop := cellOnceRow.holds Try.pinned (OpenSpec.ofChange cellOnceWrong)

/- THE SECOND FORM. 'bulk': how many values and letters a reading holds, each counted each time it is reached (what is shared counts as often as it is met; a slice's spare places count too). A statement '..UptoSaid' is the law's where the arguments, and the package variables that the reading takes, are together of bulk at most 1048576: NARROWER than '..Said'. Prove '..Said' where nothing that the law and all that it calls make is longer than what came in: it says more and counts as full. Else prove '..UptoSaid'. A law counts once. -/
mutual
def uptoBulk {H : Type} : DataW H → Nat
  | .lit (.string bytes) => bytes.length + 1
  | .lit _ => 1
  | .nil => 1
  | .ptr d => uptoBulk d + 1
  | .slice elems spare => uptoBulkAll elems + uptoBulkAll spare + 1
  | .agg parts => uptoBulkAll parts + 1
  | .iface _ d => uptoBulk d + 1
  | .map entries => uptoBulkEntries entries + 1
  | .held _ => 1
def uptoBulkAll {H : Type} : List (DataW H) → Nat
  | [] => 0
  | d :: r => uptoBulk d + uptoBulkAll r
def uptoBulkEntries {H : Type} : List (Lit × DataW H) → Nat
  | [] => 0
  | x :: r => uptoBulkEntry x + uptoBulkEntries r
def uptoBulkEntry {H : Type} : Lit × DataW H → Nat
  | (.string bytes, d) => bytes.length + uptoBulk d + 1
  | (_, d) => uptoBulk d + 1
 end
def uptoSmall : (H : Type) → List (DataW H) → Bool := fun _ ds => decide (uptoBulkAll ds ≤ 1048576)
def OpenSpec.upto (s : _root_.Go.ChangeSpec) : _root_.Go.OpenSpec := { _root_.Go.OpenSpec.ofChange s with cond := some uptoSmall }

/-- 'bowerlaw07.RefPacks', WHERE WHAT IT READS IS OF BULK AT MOST 1048576: true; the input reads as it did. -/
def refPacksUptoRow : OpenClaim := { program := "ytjkfecfldnhfiaa", sum := "408037650a1e3c52beebf486fe26d3857d88567084c36d06c1789b8958ecbe45", func := "bower/bowerlaw07.RefPacks", spec := "refPacks", unfollowed := true, recurses := true, apart := false, narrowed := true }
def RefPacksUptoSaid : Prop := refPacksUptoRow.holds Try.pinned (OpenSpec.upto refPacksSpec)

/-- 'bowerlaw07.RefGates', WHERE WHAT IT READS IS OF BULK AT MOST 1048576: true; the input reads as it did. -/
def refGatesUptoRow : OpenClaim := { program := "ytjkfecfldnhfiaa", sum := "408037650a1e3c52beebf486fe26d3857d88567084c36d06c1789b8958ecbe45", func := "bower/bowerlaw07.RefGates", spec := "refGates", unfollowed := true, recurses := true, apart := false, narrowed := true }
def RefGatesUptoSaid : Prop := refGatesUptoRow.holds Try.pinned (OpenSpec.upto refGatesSpec)

/-- 'bowerlaw07.RefOnce', WHERE WHAT IT READS IS OF BULK AT MOST 1048576: true; the input reads as it did. -/
def refOnceUptoRow : OpenClaim := { program := "ytjkfecfldnhfiaa", sum := "408037650a1e3c52beebf486fe26d3857d88567084c36d06c1789b8958ecbe45", func := "bower/bowerlaw07.RefOnce", spec := "refOnce", unfollowed := true, recurses := true, apart := false, narrowed := true }
def RefOnceUptoSaid : Prop := refOnceUptoRow.holds Try.pinned (OpenSpec.upto refOnceSpec)

/-- 'bowerlaw08.CellPlays', WHERE WHAT IT READS IS OF BULK AT MOST 1048576: true; the input reads as it did. -/
def cellPlaysUptoRow : OpenClaim := { program := "ytjkfecfldnhfiaa", sum := "408037650a1e3c52beebf486fe26d3857d88567084c36d06c1789b8958ecbe45", func := "bower/bowerlaw08.CellPlays", spec := "cellPlays", apart := false, narrowed := true }
def CellPlaysUptoSaid : Prop := cellPlaysUptoRow.holds Try.pinned (OpenSpec.upto cellPlaysSpec)

/-- 'bowerlaw08.CellOnce', WHERE WHAT IT READS IS OF BULK AT MOST 1048576: true; the input reads as it did. -/
def cellOnceUptoRow : OpenClaim := { program := "ytjkfecfldnhfiaa", sum := "408037650a1e3c52beebf486fe26d3857d88567084c36d06c1789b8958ecbe45", func := "bower/bowerlaw08.CellOnce", spec := "cellOnce", apart := false, narrowed := true }
def CellOnceUptoSaid : Prop := cellOnceUptoRow.holds Try.pinned (OpenSpec.upto cellOnceSpec)

end Rows
end Go.Proofs.Ytjkfecfldnhfiaa
