/- The law InnerOver, walked: a node over two others is the document's, or there is none. No condition. -/
import Derived.Test.YtjojfkddgdpnlaaInnerLives
import Derived.Test.YtjojfkddgdpnlaaNodeRSame
namespace Go.Proofs.Ytjojfkddgdpnlaa
open Go.RowKit

theorem rsame_eq12 (n : Nod) (ak av ac ak2 av2 ac2 : Option Addr) (ck cv cc ck2 cv2 cc2 : Nat) (w : World) (hN : NdAt w ak av ac n.ks.length ck n.vs.length cv n.cs.length cc n.ks n.vs n.cs) (hM : NdAt w ak2 av2 ac2 n.ks.length ck2 n.vs.length cv2 n.cs.length cc2 n.ks n.vs n.cs) :
    Calls Try.prog 21 #[.agg #[.int .i64 n.lv, .string n.lo, .string n.hi, .bool n.la, .int .i64 n.nx, .slice ak n.ks.length ck, .slice av n.vs.length cv, .slice ac n.cs.length cc], .agg #[.int .i64 n.lv, .string n.lo, .string n.hi, .bool n.la, .int .i64 n.nx, .slice ak2 n.ks.length ck2, .slice av2 n.vs.length cv2, .slice ac2 n.cs.length cc2]] w fun e w' => e = .returned (.bool true) ∧ Below w.heap.size w w' :=
  rnsame_of n.lv n.nx n.lo n.hi n.la ak av ac n.ks.length ck n.vs.length cv n.cs.length cc n.lv n.nx n.lo n.hi n.la ak2 av2 ac2 n.ks.length ck2 n.vs.length cv2 n.cs.length cc2 n.ks n.vs n.cs n.ks n.vs n.cs true w hN hM ⟨fun _ => ⟨rfl, rfl, rfl, rfl, rfl, rfl, rfl, rfl⟩, fun _ => rfl⟩

end Go.Proofs.Ytjojfkddgdpnlaa
