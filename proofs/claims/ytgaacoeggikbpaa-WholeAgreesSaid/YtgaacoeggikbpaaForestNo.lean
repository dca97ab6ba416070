/- A view that is nil, or that no call made: what each call tells. No condition. -/
import Derived.Test.YtgaacoeggikbpaaBoxKit
import Derived.Lib.Hide
import Derived.Deep.RegionHeldLaw
import Derived.Deep.DeepCutAuto
import Derived.Maps.OwnSet
import Derived.WalkSpells
import Derived.Laws.IdiomRangeMap
namespace Go.Proofs.Ytgaacoeggikbpaa
open Go.RowKit Go.Maps

def knownZ : Array Value := #[.int .i64 0, .int .u64 0, .int .u64 0, .int .i64 0, .string ⟨#[]⟩, .string ⟨#[]⟩, .bool false, .int .i64 0, .slice none 0 0, .slice none 0 0, .slice none 0 0]
theorem keyedC : Keyed Try.prog 3 := int_keyed Try.underlying3
theorem zeroKn (w : World) : (zeroValue 40).run Try.prog w = .ok (.agg #[.int .i64 0, .int .u64 0, .int .u64 0, .int .i64 0, .string ⟨#[]⟩, .string ⟨#[]⟩, .bool false, .int .i64 0, .slice none 0 0, .slice none 0 0, .slice none 0 0]) w := by kernel_rfl

end Go.Proofs.Ytgaacoeggikbpaa
