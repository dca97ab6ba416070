/-
  NARROWER THAN 'FOR EVERY INPUT', by the rows' own cells (each row's printed sentence says how): OpTells: laid · OpWrites: laid · OpReads: laid.
  DERIVED. THE GIVEN ROWS OF THIS SEAT. 3 by the template 'for every input the law returns true; each argument reads behind the call as it read before'; 0 by the template 'total and deterministic' (their statements: YtmkglaghnjnooaaDoorTotals.lean).
  GIVEN WITH THE SEED: the statements are not yours to turn. If you find one false, say at which input.
  Laid BY PROGRAM, IN A SANDBOX (cutbox-rows.mjs): the forced cells as the released guide's own fill.sh prints them over the translation 024bfb5b36b26ec2… (all of the seat's roots in one cut). By AI agents, Wed Nov 11 2026. No macro, syntax, notation, axiom, sorry.
-/
import Derived.Test.YtmkglaghnjnooaaDoorChecked
import GoSem.Claim
import GoSem.ClaimJoined
import GoSem.ClaimMapViews
import Derived.JoinedTies
import Derived.KernelRfl
namespace Go.Proofs.YtmkglaghnjnooaaDoor
/- THE CELL 'sum', in the pinned program and in every row, IS THE sha256 OF THE DUMP (.gsa) THAT YtmkglaghnjnooaaDoorProg.lean LOADS. Nothing in Lean hashes anything: it is a label: what it is worth is what the hold of that sum in a sandbox is worth. -/
noncomputable def Tryd.pinned : Pinned := { name := "ytmkglaghnjnooaadoor", sum := "024bfb5b36b26ec2886ebbd20b0d21c93d36e70fec3cb2151a2a7f82e80f1cf4", checked := Tryd.checked }
namespace Rows
def none {H : Type} : Left H := { results := [], args := [] }

/- WHAT THE LISTED PACKAGE-LEVEL VARIABLES READ AS WHEN THE CALL BEGINS. Each datum BY PROGRAM (the guide's laid-datum.mjs) off the statement by which the dump's own 'gosem.cut.vars' lays the variable. In a bare row this is a premise. The card (YtmkglaghnjnooaaDoorCards.lean) ties it to the program's text. -/
def laid_bower_op_names {H : Type} : DataW H := .agg [.lit (.string []), .lit (.string [103, 101, 116]), .lit (.string [105, 110, 115, 101, 114, 116]), .lit (.string [112, 117, 116]), .lit (.string [100, 101, 108, 101, 116, 101]), .lit (.string [100, 114, 111, 112]), .lit (.string [109, 105, 110]), .lit (.string [109, 97, 120]), .lit (.string [110, 101, 120, 116]), .lit (.string [112, 114, 101, 118]), .lit (.string [115, 99, 97, 110])]

/-- 'bowerlaw16.OpTells': WHATEVER THE INPUT: true; the input reads as it did. -/
def opTellsSpec : ChangeSpec := { name := "opTells", fn := fun _ => fun
  | [d] => { results := [.lit (.bool true)], args := [d] }
  | _ => none }
def opTellsRow : OpenClaim := { program := "ytmkglaghnjnooaadoor", sum := "024bfb5b36b26ec2886ebbd20b0d21c93d36e70fec3cb2151a2a7f82e80f1cf4", func := "bower/bowerlaw16.OpTells", spec := "opTells", named := ["bower/op.names"], apart := false, laid := [("bower/op.names", laid_bower_op_names)] }
def OpTellsSaid : Prop := opTellsRow.holds Tryd.pinned (OpenSpec.ofChange opTellsSpec)

/-- ITS FALSE NEIGHBOUR: 'it returns false'. Refute it at one input. -/
def opTellsWrong : ChangeSpec := { name := "opTells", fn := fun _ => fun
  | [d] => { results := [.lit (.bool false)], args := [d] }
  | _ => none }
def OpTellsWrongFalsely : Prop := opTellsRow.holds Tryd.pinned (OpenSpec.ofChange opTellsWrong)

/-- 'bowerlaw16.OpWrites': WHATEVER THE INPUT: true; the input reads as it did. -/
def opWritesSpec : ChangeSpec := { name := "opWrites", fn := fun _ => fun
  | [d] => { results := [.lit (.bool true)], args := [d] }
  | _ => none }
def opWritesRow : OpenClaim := { program := "ytmkglaghnjnooaadoor", sum := "024bfb5b36b26ec2886ebbd20b0d21c93d36e70fec3cb2151a2a7f82e80f1cf4", func := "bower/bowerlaw16.OpWrites", spec := "opWrites", unfollowed := true, recurses := true, named := ["bower/op.names"], apart := false, laid := [("bower/op.names", laid_bower_op_names)] }
def OpWritesSaid : Prop := opWritesRow.holds Tryd.pinned (OpenSpec.ofChange opWritesSpec)

/-- ITS FALSE NEIGHBOUR: 'it returns false'. Refute it at one input. -/
def opWritesWrong : ChangeSpec := { name := "opWrites", fn := fun _ => fun
  | [d] => { results := [.lit (.bool false)], args := [d] }
  | _ => none }
def OpWritesWrongFalsely : Prop := opWritesRow.holds Tryd.pinned (OpenSpec.ofChange opWritesWrong)

/-- 'bowerlaw16.OpReads': WHATEVER THE INPUT: true; the input reads as it did. -/
def opReadsSpec : ChangeSpec := { name := "opReads", fn := fun _ => fun
  | [d] => { results := [.lit (.bool true)], args := [d] }
  | _ => none }
def opReadsRow : OpenClaim := { program := "ytmkglaghnjnooaadoor", sum := "024bfb5b36b26ec2886ebbd20b0d21c93d36e70fec3cb2151a2a7f82e80f1cf4", func := "bower/bowerlaw16.OpReads", spec := "opReads", unfollowed := true, recurses := true, named := ["bower/op.names"], apart := false, laid := [("bower/op.names", laid_bower_op_names)] }
def OpReadsSaid : Prop := opReadsRow.holds Tryd.pinned (OpenSpec.ofChange opReadsSpec)

/-- ITS FALSE NEIGHBOUR: 'it returns false'. Refute it at one input. -/
def opReadsWrong : ChangeSpec := { name := "opReads", fn := fun _ => fun
  | [d] => { results := [.lit (.bool false)], args := [d] }
  | _ => none }
def OpReadsWrongFalsely : Prop := opReadsRow.holds Tryd.pinned (OpenSpec.ofChange opReadsWrong)

/- THE SECOND FORM. 'bulk': how many values and letters a reading holds, each counted each time it is reached (what is shared counts as often as it is met; a slice's spare places count too). A statement '..UptoSaid' is the law's where the arguments, and the package variables that the reading takes, are together of bulk at most 1048576: NARROWER than '..Said'. Prove '..Said' where nothing that the law and all that it calls make is longer than what came in: it says more and counts as full. Else prove '..UptoSaid'. A law counts once. -/
mutual
def uptoBulk {H : Type} : DataW H → Nat
  | .lit (.string bytes) => bytes.length + 1
  | .lit _ => 1
  | .nil => 1
  | .ptr d => uptoBulk d + 1
  | .slice elems spare => uptoBulkAll elems + uptoBulkAll spare + 1
  | .agg parts => uptoBulkAll parts + 1
  | .iface _ d => uptoBulk d + 1
  | .map entries => uptoBulkEntries entries + 1
  | .held _ => 1
def uptoBulkAll {H : Type} : List (DataW H) → Nat
  | [] => 0
  | d :: r => uptoBulk d + uptoBulkAll r
def uptoBulkEntries {H : Type} : List (Lit × DataW H) → Nat
  | [] => 0
  | x :: r => uptoBulkEntry x + uptoBulkEntries r
def uptoBulkEntry {H : Type} : Lit × DataW H → Nat
  | (.string bytes, d) => bytes.length + uptoBulk d + 1
  | (_, d) => uptoBulk d + 1
 end
def uptoSmall : (H : Type) → List (DataW H) → Bool := fun _ ds => decide (uptoBulkAll ds ≤ 1048576)
def OpenSpec.upto (s : _root_.Go.ChangeSpec) : _root_.Go.OpenSpec := { _root_.Go.OpenSpec.ofChange s with cond := some uptoSmall }

/-- 'bowerlaw16.OpTells', WHERE WHAT IT READS IS OF BULK AT MOST 1048576: true; the input reads as it did. -/
def opTellsUptoRow : OpenClaim := { program := "ytmkglaghnjnooaadoor", sum := "024bfb5b36b26ec2886ebbd20b0d21c93d36e70fec3cb2151a2a7f82e80f1cf4", func := "bower/bowerlaw16.OpTells", spec := "opTells", named := ["bower/op.names"], apart := false, laid := [("bower/op.names", laid_bower_op_names)], narrowed := true }
def OpTellsUptoSaid : Prop := opTellsUptoRow.holds Tryd.pinned (OpenSpec.upto opTellsSpec)

/-- 'bowerlaw16.OpWrites', WHERE WHAT IT READS IS OF BULK AT MOST 1048576: true; the input reads as it did. -/
def opWritesUptoRow : OpenClaim := { program := "ytmkglaghnjnooaadoor", sum := "024bfb5b36b26ec2886ebbd20b0d21c93d36e70fec3cb2151a2a7f82e80f1cf4", func := "bower/bowerlaw16.OpWrites", spec := "opWrites", unfollowed := true, recurses := true, named := ["bower/op.names"], apart := false, laid := [("bower/op.names", laid_bower_op_names)], narrowed := true }
def OpWritesUptoSaid : Prop := opWritesUptoRow.holds Tryd.pinned (OpenSpec.upto opWritesSpec)

/-- 'bowerlaw16.OpReads', WHERE WHAT IT READS IS OF BULK AT MOST 1048576: true; the input reads as it did. -/
def opReadsUptoRow : OpenClaim := { program := "ytmkglaghnjnooaadoor", sum := "024bfb5b36b26ec2886ebbd20b0d21c93d36e70fec3cb2151a2a7f82e80f1cf4", func := "bower/bowerlaw16.OpReads", spec := "opReads", unfollowed := true, recurses := true, named := ["bower/op.names"], apart := false, laid := [("bower/op.names", laid_bower_op_names)], narrowed := true }
def OpReadsUptoSaid : Prop := opReadsUptoRow.holds Tryd.pinned (OpenSpec.upto opReadsSpec)

end Rows
end Go.Proofs.YtmkglaghnjnooaaDoor
