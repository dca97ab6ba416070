/- inner's small calls: isInner, the document's Inner, isLater, frameOf, mayBe and its closure. Condition: sizes that fit. -/
import Derived.Test.YtlcnnnljdffbmaaNods
import Derived.Test.YtlcnnnljdffbmaaNodeSameOps
import Derived.Test.YtlcnnnljdffbmaaNodeCloneAt
import Derived.Deep.DeepCutAuto
namespace Go.Proofs.Ytlcnnnljdffbmaa
open Go.RowKit

def Nod.Inner (n : Nod) : Prop := 0 < n.lv ∧ n.Sound 64

end Go.Proofs.Ytlcnnnljdffbmaa
