/-
  NARROWER THAN 'FOR EVERY INPUT', by the rows' own cells (each row's printed sentence says how): AnswerTells: laid · AnswerWrites: laid.
  DERIVED. THE GIVEN ROWS OF THIS SEAT. 2 by the template 'for every input the law returns true; each argument reads behind the call as it read before'; 0 by the template 'total and deterministic' (their statements: YtgckgagnodkhjaaRRRRDoorTotals.lean).
  GIVEN WITH THE SEED: the statements are not yours to turn. If you find one false, say at which input.
  Laid BY PROGRAM, IN A SANDBOX (cutbox-rows.mjs): the forced cells as the released guide's own fill.sh prints them over the translation 3ee5b999d2ea4589… (all of the seat's roots in one cut). By AI agents, Wed Nov 11 2026. No macro, syntax, notation, axiom, sorry.
-/
import Derived.Test.YtgckgagnodkhjaaRRRRDoorChecked
import GoSem.Claim
import GoSem.ClaimJoined
import GoSem.ClaimMapViews
import Derived.JoinedTies
import Derived.KernelRfl
namespace Go.Proofs.YtgckgagnodkhjaaRRRRDoor
/- THE CELL 'sum', in the pinned program and in every row, IS THE sha256 OF THE DUMP (.gsa) THAT YtgckgagnodkhjaaRRRRDoorProg.lean LOADS. Nothing in Lean hashes anything: it is a label: what it is worth is what the hold of that sum in a sandbox is worth. -/
noncomputable def Tryd.pinned : Pinned := { name := "ytgckgagnodkhjaarrrrdoor", sum := "3ee5b999d2ea4589c42c40e02bcdff2b899007cec8a8d2055011d309f5bb1618", checked := Tryd.checked }
namespace Rows
def none {H : Type} : Left H := { results := [], args := [] }

/- WHAT THE LISTED PACKAGE-LEVEL VARIABLES READ AS WHEN THE CALL BEGINS. Each datum BY PROGRAM (the guide's laid-datum.mjs) off the statement by which the dump's own 'gosem.cut.vars' lays the variable. In a bare row this is a premise. The card (YtgckgagnodkhjaaRRRRDoorCards.lean) ties it to the program's text. -/
def laid_bower_answer_names {H : Type} : DataW H := .agg [.lit (.string []), .lit (.string [100, 111, 110, 101]), .lit (.string [110, 111, 110, 101]), .lit (.string [116, 104, 101, 114, 101]), .lit (.string [111, 116, 104, 101, 114]), .lit (.string [98, 97, 100]), .lit (.string [115, 104, 111, 114, 116])]

/-- 'bowerlaw17.AnswerTells': WHATEVER THE INPUT: true; the input reads as it did. -/
def answerTellsSpec : ChangeSpec := { name := "answerTells", fn := fun _ => fun
  | [d1, d2, d3] => { results := [.lit (.bool true)], args := [d1, d2, d3] }
  | _ => none }
def answerTellsRow : OpenClaim := { program := "ytgckgagnodkhjaarrrrdoor", sum := "3ee5b999d2ea4589c42c40e02bcdff2b899007cec8a8d2055011d309f5bb1618", func := "bower/bowerlaw17.AnswerTells", spec := "answerTells", unfollowed := true, recurses := true, named := ["bower/answer.names"], apart := false, laid := [("bower/answer.names", laid_bower_answer_names)] }
def AnswerTellsSaid : Prop := answerTellsRow.holds Tryd.pinned (OpenSpec.ofChange answerTellsSpec)

/-- ITS FALSE NEIGHBOUR: 'it returns false'. Refute it at one input. -/
def answerTellsWrong : ChangeSpec := { name := "answerTells", fn := fun _ => fun
  | [d1, d2, d3] => { results := [.lit (.bool false)], args := [d1, d2, d3] }
  | _ => none }
def AnswerTellsWrongFalsely : Prop := answerTellsRow.holds Tryd.pinned (OpenSpec.ofChange answerTellsWrong)

/-- 'bowerlaw17.AnswerWrites': WHATEVER THE INPUT: true; the input reads as it did. -/
def answerWritesSpec : ChangeSpec := { name := "answerWrites", fn := fun _ => fun
  | [d] => { results := [.lit (.bool true)], args := [d] }
  | _ => none }
def answerWritesRow : OpenClaim := { program := "ytgckgagnodkhjaarrrrdoor", sum := "3ee5b999d2ea4589c42c40e02bcdff2b899007cec8a8d2055011d309f5bb1618", func := "bower/bowerlaw17.AnswerWrites", spec := "answerWrites", unfollowed := true, recurses := true, named := ["bower/answer.names"], apart := false, laid := [("bower/answer.names", laid_bower_answer_names)] }
def AnswerWritesSaid : Prop := answerWritesRow.holds Tryd.pinned (OpenSpec.ofChange answerWritesSpec)

/-- ITS FALSE NEIGHBOUR: 'it returns false'. Refute it at one input. -/
def answerWritesWrong : ChangeSpec := { name := "answerWrites", fn := fun _ => fun
  | [d] => { results := [.lit (.bool false)], args := [d] }
  | _ => none }
def AnswerWritesWrongFalsely : Prop := answerWritesRow.holds Tryd.pinned (OpenSpec.ofChange answerWritesWrong)

/- THE SECOND FORM. 'bulk': how many values and letters a reading holds, each counted each time it is reached (what is shared counts as often as it is met; a slice's spare places count too). A statement '..UptoSaid' is the law's where the arguments, and the package variables that the reading takes, are together of bulk at most 1048576: NARROWER than '..Said'. Prove '..Said' where nothing that the law and all that it calls make is longer than what came in: it says more and counts as full. Else prove '..UptoSaid'. A law counts once. -/
mutual
def uptoBulk {H : Type} : DataW H → Nat
  | .lit (.string bytes) => bytes.length + 1
  | .lit _ => 1
  | .nil => 1
  | .ptr d => uptoBulk d + 1
  | .slice elems spare => uptoBulkAll elems + uptoBulkAll spare + 1
  | .agg parts => uptoBulkAll parts + 1
  | .iface _ d => uptoBulk d + 1
  | .map entries => uptoBulkEntries entries + 1
  | .held _ => 1
def uptoBulkAll {H : Type} : List (DataW H) → Nat
  | [] => 0
  | d :: r => uptoBulk d + uptoBulkAll r
def uptoBulkEntries {H : Type} : List (Lit × DataW H) → Nat
  | [] => 0
  | x :: r => uptoBulkEntry x + uptoBulkEntries r
def uptoBulkEntry {H : Type} : Lit × DataW H → Nat
  | (.string bytes, d) => bytes.length + uptoBulk d + 1
  | (_, d) => uptoBulk d + 1
 end
def uptoSmall : (H : Type) → List (DataW H) → Bool := fun _ ds => decide (uptoBulkAll ds ≤ 1048576)
def OpenSpec.upto (s : _root_.Go.ChangeSpec) : _root_.Go.OpenSpec := { _root_.Go.OpenSpec.ofChange s with cond := some uptoSmall }

/-- 'bowerlaw17.AnswerTells', WHERE WHAT IT READS IS OF BULK AT MOST 1048576: true; the input reads as it did. -/
def answerTellsUptoRow : OpenClaim := { program := "ytgckgagnodkhjaarrrrdoor", sum := "3ee5b999d2ea4589c42c40e02bcdff2b899007cec8a8d2055011d309f5bb1618", func := "bower/bowerlaw17.AnswerTells", spec := "answerTells", unfollowed := true, recurses := true, named := ["bower/answer.names"], apart := false, laid := [("bower/answer.names", laid_bower_answer_names)], narrowed := true }
def AnswerTellsUptoSaid : Prop := answerTellsUptoRow.holds Tryd.pinned (OpenSpec.upto answerTellsSpec)

/-- 'bowerlaw17.AnswerWrites', WHERE WHAT IT READS IS OF BULK AT MOST 1048576: true; the input reads as it did. -/
def answerWritesUptoRow : OpenClaim := { program := "ytgckgagnodkhjaarrrrdoor", sum := "3ee5b999d2ea4589c42c40e02bcdff2b899007cec8a8d2055011d309f5bb1618", func := "bower/bowerlaw17.AnswerWrites", spec := "answerWrites", unfollowed := true, recurses := true, named := ["bower/answer.names"], apart := false, laid := [("bower/answer.names", laid_bower_answer_names)], narrowed := true }
def AnswerWritesUptoSaid : Prop := answerWritesUptoRow.holds Tryd.pinned (OpenSpec.upto answerWritesSpec)

end Rows
end Go.Proofs.YtgckgagnodkhjaaRRRRDoor
