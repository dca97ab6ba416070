/- A box of any struct: what lies in it. No condition. -/
import Derived.Test.YtgaacoeggikbpaaNodeBase
namespace Go.Proofs.Ytgaacoeggikbpaa
open Go.RowKit

/-- A struct's box. -/
def BX (V : World) (A : Nat) (t : TypeId) (cs : Array Value) : Prop := V.heap[A]? = some (.cells cs t (0, 0))
theorem BX.below {V V' : World} {A : Nat} {t : TypeId} {cs : Array Value} (h : BX V A t cs) (hb : Below V.heap.size V V') : BX V' A t cs := (hb.block A (lt_of_block h)).trans h
theorem BX.new (V : World) (t : TypeId) (cs : Array Value) : BX (V.alloc (.cells cs t)) V.heap.size t cs := heap_alloc_new V _
theorem BX.cell {V : World} {A : Nat} {t : TypeId} {cs : Array Value} (h : BX V A t cs) (i : Nat) {v : Value} (hv : cs[i]? = some v) : V.cell? ⟨A, i, none⟩ = some v := by
  unfold BX at h
  simp [World.cell?, h, hv]
theorem BX.frozen {V : World} {A : Nat} {t : TypeId} {cs : Array Value} (h : BX V A t cs) (i : Nat) : V.frozen? ⟨A, i, none⟩ = false := by
  unfold BX at h
  simp [World.frozen?, h]
theorem bx2 (w : World) (t1 t2 : TypeId) (c1 c2 : Array Value) : ∃ W, W = (w.alloc (.cells c1 t1)).alloc (.cells c2 t2) ∧ BX W w.heap.size t1 c1 ∧ BX W (w.heap.size + 1) t2 c2 ∧ Below w.heap.size w W := by
  refine ⟨_, rfl, ?_, ?_, ((Below.refl _ _).alloc (Nat.le_refl _) _).alloc (by rw [World.size_alloc]; omega) _⟩
  · exact (BX.new w t1 c1).below ((Below.refl _ _).alloc (Nat.le_refl _) _)
  · have h := BX.new (w.alloc (.cells c1 t1)) t2 c2
    rw [World.size_alloc] at h
    exact h

end Go.Proofs.Ytgaacoeggikbpaa
