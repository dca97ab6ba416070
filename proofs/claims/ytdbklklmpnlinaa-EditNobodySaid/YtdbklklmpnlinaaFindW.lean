/- sort.Search with Find's closure, and Find, at a row of texts that need not rise: a place in the row, and whether the key is there. Conditions: at most 2^38 texts, each of at most 2^47 bytes. -/
import Derived.Test.YtdbklklmpnlinaaFind2
namespace Go.Proofs.Ytdbklklmpnlinaa
open Go.RowKit

def FoundIn (w w' : World) (e : Ending) (n : Nat) : Prop := ∃ at_, e = .returned (.int .i64 (at_ : Nat)) ∧ at_ ≤ n ∧ Drew w w'
def FindIn (w w' : World) (e : Ending) (xs : List ByteArray) (k : ByteArray) : Prop :=
  ∃ (at_ : Nat) (there : Bool), e = .returned (.tuple #[.int .i64 at_, .bool there]) ∧ at_ ≤ xs.length ∧ (there = true ↔ at_ < xs.length ∧ nth xs at_ = k) ∧ Below w.heap.size w w'

end Go.Proofs.Ytdbklklmpnlinaa
