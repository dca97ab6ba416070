/-
  No cell of these rows narrows 'for every input' (looked for: loops, veiled, ifaces, maps, wideKeys, modest, calm, conditions, laid).
  DERIVED. THE GIVEN ROWS OF THIS SEAT. 12 by the template 'for every input the law returns true; each argument reads behind the call as it read before'; 0 by the template 'total and deterministic' (their statements: YtajheohdhiojcaaTotals.lean).
  GIVEN WITH THE SEED: the statements are not yours to turn. If you find one false, say at which input.
  Laid BY PROGRAM, IN A SANDBOX (cutbox-rows.mjs): the forced cells as the released guide's own fill.sh prints them over the translation 0d2b9eaa576dc9b4… (all of the seat's roots in one cut). By AI agents, Wed Nov 11 2026. No macro, syntax, notation, axiom, sorry.
-/
import Derived.Test.YtajheohdhiojcaaChecked
import GoSem.Claim
import GoSem.ClaimJoined
import GoSem.ClaimMapViews
import Derived.JoinedTies
import Derived.KernelRfl
namespace Go.Proofs.Ytajheohdhiojcaa
/- THE CELL 'sum', in the pinned program and in every row, IS THE sha256 OF THE DUMP (.gsa) THAT YtajheohdhiojcaaProg.lean LOADS. Nothing in Lean hashes anything: it is a label: what it is worth is what the hold of that sum in a sandbox is worth. -/
noncomputable def Try.pinned : Pinned := { name := "ytajheohdhiojcaa", sum := "0d2b9eaa576dc9b4d18aa22d4e115cdb3c7449b5d1ebbe939a2815ddfa0c382b", checked := Try.checked }
namespace Rows
def none {H : Type} : Left H := { results := [], args := [] }

/-- 'bowerlaw01.SipWrites': WHATEVER THE INPUT: true; the input reads as it did. -/
def sipWritesSpec : ChangeSpec := { name := "sipWrites", fn := fun _ => fun
  | [d] => { results := [.lit (.bool true)], args := [d] }
  | _ => none }
def sipWritesRow : OpenClaim := { program := "ytajheohdhiojcaa", sum := "0d2b9eaa576dc9b4d18aa22d4e115cdb3c7449b5d1ebbe939a2815ddfa0c382b", func := "bower/bowerlaw01.SipWrites", spec := "sipWrites", unfollowed := true, recurses := true, apart := false }
def SipWritesSaid : Prop := sipWritesRow.holds Try.pinned (OpenSpec.ofChange sipWritesSpec)

/-- ITS FALSE NEIGHBOUR: 'it returns false'. Refute it at one input. -/
def sipWritesWrong : ChangeSpec := { name := "sipWrites", fn := fun _ => fun
  | [d] => { results := [.lit (.bool false)], args := [d] }
  | _ => none }
def SipWritesWrongFalsely : Prop := sipWritesRow.holds Try.pinned (OpenSpec.ofChange sipWritesWrong)

/-- 'bowerlaw01.SipBack': WHATEVER THE INPUT: true; the input reads as it did. -/
def sipBackSpec : ChangeSpec := { name := "sipBack", fn := fun _ => fun
  | [d] => { results := [.lit (.bool true)], args := [d] }
  | _ => none }
def sipBackRow : OpenClaim := { program := "ytajheohdhiojcaa", sum := "0d2b9eaa576dc9b4d18aa22d4e115cdb3c7449b5d1ebbe939a2815ddfa0c382b", func := "bower/bowerlaw01.SipBack", spec := "sipBack", unfollowed := true, recurses := true, apart := false }
def SipBackSaid : Prop := sipBackRow.holds Try.pinned (OpenSpec.ofChange sipBackSpec)

/-- ITS FALSE NEIGHBOUR: 'it returns false'. Refute it at one input. -/
def sipBackWrong : ChangeSpec := { name := "sipBack", fn := fun _ => fun
  | [d] => { results := [.lit (.bool false)], args := [d] }
  | _ => none }
def SipBackWrongFalsely : Prop := sipBackRow.holds Try.pinned (OpenSpec.ofChange sipBackWrong)

/-- 'bowerlaw01.SipOnce': WHATEVER THE INPUT: true; the input reads as it did. -/
def sipOnceSpec : ChangeSpec := { name := "sipOnce", fn := fun _ => fun
  | [d1, d2] => { results := [.lit (.bool true)], args := [d1, d2] }
  | _ => none }
def sipOnceRow : OpenClaim := { program := "ytajheohdhiojcaa", sum := "0d2b9eaa576dc9b4d18aa22d4e115cdb3c7449b5d1ebbe939a2815ddfa0c382b", func := "bower/bowerlaw01.SipOnce", spec := "sipOnce", unfollowed := true, recurses := true, apart := false }
def SipOnceSaid : Prop := sipOnceRow.holds Try.pinned (OpenSpec.ofChange sipOnceSpec)

/-- ITS FALSE NEIGHBOUR: 'it returns false'. Refute it at one input. -/
def sipOnceWrong : ChangeSpec := { name := "sipOnce", fn := fun _ => fun
  | [d1, d2] => { results := [.lit (.bool false)], args := [d1, d2] }
  | _ => none }
def SipOnceWrongFalsely : Prop := sipOnceRow.holds Try.pinned (OpenSpec.ofChange sipOnceWrong)

/-- 'bowerlaw01.SipNobody': WHATEVER THE INPUT: true; the input reads as it did. -/
def sipNobodySpec : ChangeSpec := { name := "sipNobody", fn := fun _ => fun
  | [d] => { results := [.lit (.bool true)], args := [d] }
  | _ => none }
def sipNobodyRow : OpenClaim := { program := "ytajheohdhiojcaa", sum := "0d2b9eaa576dc9b4d18aa22d4e115cdb3c7449b5d1ebbe939a2815ddfa0c382b", func := "bower/bowerlaw01.SipNobody", spec := "sipNobody", unfollowed := true, recurses := true, apart := false }
def SipNobodySaid : Prop := sipNobodyRow.holds Try.pinned (OpenSpec.ofChange sipNobodySpec)

/-- ITS FALSE NEIGHBOUR: 'it returns false'. Refute it at one input. -/
def sipNobodyWrong : ChangeSpec := { name := "sipNobody", fn := fun _ => fun
  | [d] => { results := [.lit (.bool false)], args := [d] }
  | _ => none }
def SipNobodyWrongFalsely : Prop := sipNobodyRow.holds Try.pinned (OpenSpec.ofChange sipNobodyWrong)

/-- 'bowerlaw02.QuotePuts': WHATEVER THE INPUT: true; the input reads as it did. -/
def quotePutsSpec : ChangeSpec := { name := "quotePuts", fn := fun _ => fun
  | [d] => { results := [.lit (.bool true)], args := [d] }
  | _ => none }
def quotePutsRow : OpenClaim := { program := "ytajheohdhiojcaa", sum := "0d2b9eaa576dc9b4d18aa22d4e115cdb3c7449b5d1ebbe939a2815ddfa0c382b", func := "bower/bowerlaw02.QuotePuts", spec := "quotePuts", inPlace := ["internal/bytealg.IndexByteString"], apart := false }
def QuotePutsSaid : Prop := quotePutsRow.holds Try.pinned (OpenSpec.ofChange quotePutsSpec)

/-- ITS FALSE NEIGHBOUR: 'it returns false'. Refute it at one input. -/
def quotePutsWrong : ChangeSpec := { name := "quotePuts", fn := fun _ => fun
  | [d] => { results := [.lit (.bool false)], args := [d] }
  | _ => none }
def QuotePutsWrongFalsely : Prop := quotePutsRow.holds Try.pinned (OpenSpec.ofChange quotePutsWrong)

/-- 'bowerlaw02.QuoteGets': WHATEVER THE INPUT: true; the input reads as it did. -/
def quoteGetsSpec : ChangeSpec := { name := "quoteGets", fn := fun _ => fun
  | [d] => { results := [.lit (.bool true)], args := [d] }
  | _ => none }
def quoteGetsRow : OpenClaim := { program := "ytajheohdhiojcaa", sum := "0d2b9eaa576dc9b4d18aa22d4e115cdb3c7449b5d1ebbe939a2815ddfa0c382b", func := "bower/bowerlaw02.QuoteGets", spec := "quoteGets", inPlace := ["internal/bytealg.IndexByteString"], apart := false }
def QuoteGetsSaid : Prop := quoteGetsRow.holds Try.pinned (OpenSpec.ofChange quoteGetsSpec)

/-- ITS FALSE NEIGHBOUR: 'it returns false'. Refute it at one input. -/
def quoteGetsWrong : ChangeSpec := { name := "quoteGets", fn := fun _ => fun
  | [d] => { results := [.lit (.bool false)], args := [d] }
  | _ => none }
def QuoteGetsWrongFalsely : Prop := quoteGetsRow.holds Try.pinned (OpenSpec.ofChange quoteGetsWrong)

/-- 'bowerlaw02.QuoteCounts': WHATEVER THE INPUT: true; the input reads as it did. -/
def quoteCountsSpec : ChangeSpec := { name := "quoteCounts", fn := fun _ => fun
  | [d1, d2] => { results := [.lit (.bool true)], args := [d1, d2] }
  | _ => none }
def quoteCountsRow : OpenClaim := { program := "ytajheohdhiojcaa", sum := "0d2b9eaa576dc9b4d18aa22d4e115cdb3c7449b5d1ebbe939a2815ddfa0c382b", func := "bower/bowerlaw02.QuoteCounts", spec := "quoteCounts", inPlace := ["internal/bytealg.IndexByteString"], apart := false }
def QuoteCountsSaid : Prop := quoteCountsRow.holds Try.pinned (OpenSpec.ofChange quoteCountsSpec)

/-- ITS FALSE NEIGHBOUR: 'it returns false'. Refute it at one input. -/
def quoteCountsWrong : ChangeSpec := { name := "quoteCounts", fn := fun _ => fun
  | [d1, d2] => { results := [.lit (.bool false)], args := [d1, d2] }
  | _ => none }
def QuoteCountsWrongFalsely : Prop := quoteCountsRow.holds Try.pinned (OpenSpec.ofChange quoteCountsWrong)

/-- 'bowerlaw02.QuoteShows': WHATEVER THE INPUT: true; the input reads as it did. -/
def quoteShowsSpec : ChangeSpec := { name := "quoteShows", fn := fun _ => fun
  | [d1, d2] => { results := [.lit (.bool true)], args := [d1, d2] }
  | _ => none }
def quoteShowsRow : OpenClaim := { program := "ytajheohdhiojcaa", sum := "0d2b9eaa576dc9b4d18aa22d4e115cdb3c7449b5d1ebbe939a2815ddfa0c382b", func := "bower/bowerlaw02.QuoteShows", spec := "quoteShows", inPlace := ["internal/bytealg.IndexByteString"], apart := false }
def QuoteShowsSaid : Prop := quoteShowsRow.holds Try.pinned (OpenSpec.ofChange quoteShowsSpec)

/-- ITS FALSE NEIGHBOUR: 'it returns false'. Refute it at one input. -/
def quoteShowsWrong : ChangeSpec := { name := "quoteShows", fn := fun _ => fun
  | [d1, d2] => { results := [.lit (.bool false)], args := [d1, d2] }
  | _ => none }
def QuoteShowsWrongFalsely : Prop := quoteShowsRow.holds Try.pinned (OpenSpec.ofChange quoteShowsWrong)

/-- 'bowerlaw03.KeyCompares': WHATEVER THE INPUT: true; the input reads as it did. -/
def keyComparesSpec : ChangeSpec := { name := "keyCompares", fn := fun _ => fun
  | [d1, d2] => { results := [.lit (.bool true)], args := [d1, d2] }
  | _ => none }
def keyComparesRow : OpenClaim := { program := "ytajheohdhiojcaa", sum := "0d2b9eaa576dc9b4d18aa22d4e115cdb3c7449b5d1ebbe939a2815ddfa0c382b", func := "bower/bowerlaw03.KeyCompares", spec := "keyCompares", unfollowed := true, recurses := true, apart := false }
def KeyComparesSaid : Prop := keyComparesRow.holds Try.pinned (OpenSpec.ofChange keyComparesSpec)

/-- ITS FALSE NEIGHBOUR: 'it returns false'. Refute it at one input. -/
def keyComparesWrong : ChangeSpec := { name := "keyCompares", fn := fun _ => fun
  | [d1, d2] => { results := [.lit (.bool false)], args := [d1, d2] }
  | _ => none }
def KeyComparesWrongFalsely : Prop := keyComparesRow.holds Try.pinned (OpenSpec.ofChange keyComparesWrong)

/-- 'bowerlaw03.KeyOrders': WHATEVER THE INPUT: true; the input reads as it did. -/
def keyOrdersSpec : ChangeSpec := { name := "keyOrders", fn := fun _ => fun
  | [d1, d2, d3] => { results := [.lit (.bool true)], args := [d1, d2, d3] }
  | _ => none }
def keyOrdersRow : OpenClaim := { program := "ytajheohdhiojcaa", sum := "0d2b9eaa576dc9b4d18aa22d4e115cdb3c7449b5d1ebbe939a2815ddfa0c382b", func := "bower/bowerlaw03.KeyOrders", spec := "keyOrders", unfollowed := true, recurses := true, apart := false }
def KeyOrdersSaid : Prop := keyOrdersRow.holds Try.pinned (OpenSpec.ofChange keyOrdersSpec)

/-- ITS FALSE NEIGHBOUR: 'it returns false'. Refute it at one input. -/
def keyOrdersWrong : ChangeSpec := { name := "keyOrders", fn := fun _ => fun
  | [d1, d2, d3] => { results := [.lit (.bool false)], args := [d1, d2, d3] }
  | _ => none }
def KeyOrdersWrongFalsely : Prop := keyOrdersRow.holds Try.pinned (OpenSpec.ofChange keyOrdersWrong)

/-- 'bowerlaw03.KeyParts': WHATEVER THE INPUT: true; the input reads as it did. -/
def keyPartsSpec : ChangeSpec := { name := "keyParts", fn := fun _ => fun
  | [d1, d2, d3] => { results := [.lit (.bool true)], args := [d1, d2, d3] }
  | _ => none }
def keyPartsRow : OpenClaim := { program := "ytajheohdhiojcaa", sum := "0d2b9eaa576dc9b4d18aa22d4e115cdb3c7449b5d1ebbe939a2815ddfa0c382b", func := "bower/bowerlaw03.KeyParts", spec := "keyParts", unfollowed := true, recurses := true, apart := false }
def KeyPartsSaid : Prop := keyPartsRow.holds Try.pinned (OpenSpec.ofChange keyPartsSpec)

/-- ITS FALSE NEIGHBOUR: 'it returns false'. Refute it at one input. -/
def keyPartsWrong : ChangeSpec := { name := "keyParts", fn := fun _ => fun
  | [d1, d2, d3] => { results := [.lit (.bool false)], args := [d1, d2, d3] }
  | _ => none }
def KeyPartsWrongFalsely : Prop := keyPartsRow.holds Try.pinned (OpenSpec.ofChange keyPartsWrong)

/-- 'bowerlaw03.KeyLies': WHATEVER THE INPUT: true; the input reads as it did. -/
def keyLiesSpec : ChangeSpec := { name := "keyLies", fn := fun _ => fun
  | [d1, d2, d3, d4, d5] => { results := [.lit (.bool true)], args := [d1, d2, d3, d4, d5] }
  | _ => none }
def keyLiesRow : OpenClaim := { program := "ytajheohdhiojcaa", sum := "0d2b9eaa576dc9b4d18aa22d4e115cdb3c7449b5d1ebbe939a2815ddfa0c382b", func := "bower/bowerlaw03.KeyLies", spec := "keyLies", unfollowed := true, recurses := true, apart := false }
def KeyLiesSaid : Prop := keyLiesRow.holds Try.pinned (OpenSpec.ofChange keyLiesSpec)

/-- ITS FALSE NEIGHBOUR: 'it returns false'. Refute it at one input. -/
def keyLiesWrong : ChangeSpec := { name := "keyLies", fn := fun _ => fun
  | [d1, d2, d3, d4, d5] => { results := [.lit (.bool false)], args := [d1, d2, d3, d4, d5] }
  | _ => none }
def KeyLiesWrongFalsely : Prop := keyLiesRow.holds Try.pinned (OpenSpec.ofChange keyLiesWrong)

/- THE SECOND FORM. 'bulk': how many values and letters a reading holds, each counted each time it is reached (what is shared counts as often as it is met; a slice's spare places count too). A statement '..UptoSaid' is the law's where the arguments, and the package variables that the reading takes, are together of bulk at most 1048576: NARROWER than '..Said'. Prove '..Said' where nothing that the law and all that it calls make is longer than what came in: it says more and counts as full. Else prove '..UptoSaid'. A law counts once. -/
mutual
def uptoBulk {H : Type} : DataW H → Nat
  | .lit (.string bytes) => bytes.length + 1
  | .lit _ => 1
  | .nil => 1
  | .ptr d => uptoBulk d + 1
  | .slice elems spare => uptoBulkAll elems + uptoBulkAll spare + 1
  | .agg parts => uptoBulkAll parts + 1
  | .iface _ d => uptoBulk d + 1
  | .map entries => uptoBulkEntries entries + 1
  | .held _ => 1
def uptoBulkAll {H : Type} : List (DataW H) → Nat
  | [] => 0
  | d :: r => uptoBulk d + uptoBulkAll r
def uptoBulkEntries {H : Type} : List (Lit × DataW H) → Nat
  | [] => 0
  | x :: r => uptoBulkEntry x + uptoBulkEntries r
def uptoBulkEntry {H : Type} : Lit × DataW H → Nat
  | (.string bytes, d) => bytes.length + uptoBulk d + 1
  | (_, d) => uptoBulk d + 1
 end
def uptoSmall : (H : Type) → List (DataW H) → Bool := fun _ ds => decide (uptoBulkAll ds ≤ 1048576)
def OpenSpec.upto (s : _root_.Go.ChangeSpec) : _root_.Go.OpenSpec := { _root_.Go.OpenSpec.ofChange s with cond := some uptoSmall }

/-- 'bowerlaw01.SipWrites', WHERE WHAT IT READS IS OF BULK AT MOST 1048576: true; the input reads as it did. -/
def sipWritesUptoRow : OpenClaim := { program := "ytajheohdhiojcaa", sum := "0d2b9eaa576dc9b4d18aa22d4e115cdb3c7449b5d1ebbe939a2815ddfa0c382b", func := "bower/bowerlaw01.SipWrites", spec := "sipWrites", unfollowed := true, recurses := true, apart := false, narrowed := true }
def SipWritesUptoSaid : Prop := sipWritesUptoRow.holds Try.pinned (OpenSpec.upto sipWritesSpec)

/-- 'bowerlaw01.SipBack', WHERE WHAT IT READS IS OF BULK AT MOST 1048576: true; the input reads as it did. -/
def sipBackUptoRow : OpenClaim := { program := "ytajheohdhiojcaa", sum := "0d2b9eaa576dc9b4d18aa22d4e115cdb3c7449b5d1ebbe939a2815ddfa0c382b", func := "bower/bowerlaw01.SipBack", spec := "sipBack", unfollowed := true, recurses := true, apart := false, narrowed := true }
def SipBackUptoSaid : Prop := sipBackUptoRow.holds Try.pinned (OpenSpec.upto sipBackSpec)

/-- 'bowerlaw01.SipOnce', WHERE WHAT IT READS IS OF BULK AT MOST 1048576: true; the input reads as it did. -/
def sipOnceUptoRow : OpenClaim := { program := "ytajheohdhiojcaa", sum := "0d2b9eaa576dc9b4d18aa22d4e115cdb3c7449b5d1ebbe939a2815ddfa0c382b", func := "bower/bowerlaw01.SipOnce", spec := "sipOnce", unfollowed := true, recurses := true, apart := false, narrowed := true }
def SipOnceUptoSaid : Prop := sipOnceUptoRow.holds Try.pinned (OpenSpec.upto sipOnceSpec)

/-- 'bowerlaw01.SipNobody', WHERE WHAT IT READS IS OF BULK AT MOST 1048576: true; the input reads as it did. -/
def sipNobodyUptoRow : OpenClaim := { program := "ytajheohdhiojcaa", sum := "0d2b9eaa576dc9b4d18aa22d4e115cdb3c7449b5d1ebbe939a2815ddfa0c382b", func := "bower/bowerlaw01.SipNobody", spec := "sipNobody", unfollowed := true, recurses := true, apart := false, narrowed := true }
def SipNobodyUptoSaid : Prop := sipNobodyUptoRow.holds Try.pinned (OpenSpec.upto sipNobodySpec)

/-- 'bowerlaw02.QuotePuts', WHERE WHAT IT READS IS OF BULK AT MOST 1048576: true; the input reads as it did. -/
def quotePutsUptoRow : OpenClaim := { program := "ytajheohdhiojcaa", sum := "0d2b9eaa576dc9b4d18aa22d4e115cdb3c7449b5d1ebbe939a2815ddfa0c382b", func := "bower/bowerlaw02.QuotePuts", spec := "quotePuts", inPlace := ["internal/bytealg.IndexByteString"], apart := false, narrowed := true }
def QuotePutsUptoSaid : Prop := quotePutsUptoRow.holds Try.pinned (OpenSpec.upto quotePutsSpec)

/-- 'bowerlaw02.QuoteGets', WHERE WHAT IT READS IS OF BULK AT MOST 1048576: true; the input reads as it did. -/
def quoteGetsUptoRow : OpenClaim := { program := "ytajheohdhiojcaa", sum := "0d2b9eaa576dc9b4d18aa22d4e115cdb3c7449b5d1ebbe939a2815ddfa0c382b", func := "bower/bowerlaw02.QuoteGets", spec := "quoteGets", inPlace := ["internal/bytealg.IndexByteString"], apart := false, narrowed := true }
def QuoteGetsUptoSaid : Prop := quoteGetsUptoRow.holds Try.pinned (OpenSpec.upto quoteGetsSpec)

/-- 'bowerlaw02.QuoteCounts', WHERE WHAT IT READS IS OF BULK AT MOST 1048576: true; the input reads as it did. -/
def quoteCountsUptoRow : OpenClaim := { program := "ytajheohdhiojcaa", sum := "0d2b9eaa576dc9b4d18aa22d4e115cdb3c7449b5d1ebbe939a2815ddfa0c382b", func := "bower/bowerlaw02.QuoteCounts", spec := "quoteCounts", inPlace := ["internal/bytealg.IndexByteString"], apart := false, narrowed := true }
def QuoteCountsUptoSaid : Prop := quoteCountsUptoRow.holds Try.pinned (OpenSpec.upto quoteCountsSpec)

/-- 'bowerlaw02.QuoteShows', WHERE WHAT IT READS IS OF BULK AT MOST 1048576: true; the input reads as it did. -/
def quoteShowsUptoRow : OpenClaim := { program := "ytajheohdhiojcaa", sum := "0d2b9eaa576dc9b4d18aa22d4e115cdb3c7449b5d1ebbe939a2815ddfa0c382b", func := "bower/bowerlaw02.QuoteShows", spec := "quoteShows", inPlace := ["internal/bytealg.IndexByteString"], apart := false, narrowed := true }
def QuoteShowsUptoSaid : Prop := quoteShowsUptoRow.holds Try.pinned (OpenSpec.upto quoteShowsSpec)

/-- 'bowerlaw03.KeyCompares', WHERE WHAT IT READS IS OF BULK AT MOST 1048576: true; the input reads as it did. -/
def keyComparesUptoRow : OpenClaim := { program := "ytajheohdhiojcaa", sum := "0d2b9eaa576dc9b4d18aa22d4e115cdb3c7449b5d1ebbe939a2815ddfa0c382b", func := "bower/bowerlaw03.KeyCompares", spec := "keyCompares", unfollowed := true, recurses := true, apart := false, narrowed := true }
def KeyComparesUptoSaid : Prop := keyComparesUptoRow.holds Try.pinned (OpenSpec.upto keyComparesSpec)

/-- 'bowerlaw03.KeyOrders', WHERE WHAT IT READS IS OF BULK AT MOST 1048576: true; the input reads as it did. -/
def keyOrdersUptoRow : OpenClaim := { program := "ytajheohdhiojcaa", sum := "0d2b9eaa576dc9b4d18aa22d4e115cdb3c7449b5d1ebbe939a2815ddfa0c382b", func := "bower/bowerlaw03.KeyOrders", spec := "keyOrders", unfollowed := true, recurses := true, apart := false, narrowed := true }
def KeyOrdersUptoSaid : Prop := keyOrdersUptoRow.holds Try.pinned (OpenSpec.upto keyOrdersSpec)

/-- 'bowerlaw03.KeyParts', WHERE WHAT IT READS IS OF BULK AT MOST 1048576: true; the input reads as it did. -/
def keyPartsUptoRow : OpenClaim := { program := "ytajheohdhiojcaa", sum := "0d2b9eaa576dc9b4d18aa22d4e115cdb3c7449b5d1ebbe939a2815ddfa0c382b", func := "bower/bowerlaw03.KeyParts", spec := "keyParts", unfollowed := true, recurses := true, apart := false, narrowed := true }
def KeyPartsUptoSaid : Prop := keyPartsUptoRow.holds Try.pinned (OpenSpec.upto keyPartsSpec)

/-- 'bowerlaw03.KeyLies', WHERE WHAT IT READS IS OF BULK AT MOST 1048576: true; the input reads as it did. -/
def keyLiesUptoRow : OpenClaim := { program := "ytajheohdhiojcaa", sum := "0d2b9eaa576dc9b4d18aa22d4e115cdb3c7449b5d1ebbe939a2815ddfa0c382b", func := "bower/bowerlaw03.KeyLies", spec := "keyLies", unfollowed := true, recurses := true, apart := false, narrowed := true }
def KeyLiesUptoSaid : Prop := keyLiesUptoRow.holds Try.pinned (OpenSpec.upto keyLiesSpec)

end Rows
end Go.Proofs.Ytajheohdhiojcaa
