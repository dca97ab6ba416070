/- node.frameOf, Same; bowerref10.Same: whether two nodes have the same. Nothing that was there has turned. -/
import Derived.Test.YtgaacoeggikbpaaNodeEq
import Derived.Test.YtgaacoeggikbpaaLater
namespace Go.Proofs.Ytgaacoeggikbpaa
open Go.RowKit

/-- Both have the same. -/
structure SameP (lv nx : Int) (lo hi : ByteArray) (la : Bool) (ks : List ByteArray) (vs : List Nat) (cs : List Int) (lv2 nx2 : Int) (lo2 hi2 : ByteArray) (la2 : Bool) (ks2 : List ByteArray) (vs2 : List Nat) (cs2 : List Int) : Prop where
  lv : lv = lv2
  lo : lo = lo2
  hi : hi = hi2
  la : la = la2
  nx : nx = nx2
  ks : ks = ks2
  vs : vs = vs2
  cs : cs = cs2

/-- Two boxes. -/
theorem boxes2 (w : World) (c1 c2 : Array Value) : NB ((w.alloc (.cells c1 38)).alloc (.cells c2 38)) w.heap.size c1 ∧ NB ((w.alloc (.cells c1 38)).alloc (.cells c2 38)) (w.heap.size + 1) c2 ∧ Below w.heap.size w ((w.alloc (.cells c1 38)).alloc (.cells c2 38)) := by
  have e : (w.alloc (.cells c1 38)).heap.size = w.heap.size + 1 := World.size_alloc _ _
  refine ⟨(NB.new w c1).below (boxed_below _ _), ?_, (boxed_below w _).alloc (by omega) _⟩
  have := NB.new (w.alloc (.cells c1 38)) c2
  rw [e] at this
  exact this

end Go.Proofs.Ytgaacoeggikbpaa
