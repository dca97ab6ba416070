/- key's Inside, Beneath, Check, and the document's Inside, on any texts of at most 2^47 bytes: what they answer; nothing that was there has turned. -/
import Derived.Test.YtkdjcikilabehaaKeyLess
import Derived.WalkSmall
namespace Go.Proofs.Ytkdjcikilabehaa
open Go.RowKit

/-- In the range. -/
def insideB (low high : List UInt8) (last : Bool) (k : List UInt8) : Bool := !lss k low && (last || lss k high)

def beneathB (low high : List UInt8) (last : Bool) (k : List UInt8) : Bool := lss low k && (last || !lss high k)

theorem Drew.below {w w' : World} (h : Drew w w') (B : Nat) : Below B w w' := by
  obtain ⟨q, rfl⟩ := h
  exact below_drewN (Below.refl _ _) _

theorem Drew.cell {w w' : World} (h : Drew w w') (p : Addr) : w'.cell? p = w.cell? p := by
  obtain ⟨q, rfl⟩ := h
  rfl

theorem Drew.size {w w' : World} (h : Drew w w') : w'.heap.size = w.heap.size := by
  obtain ⟨q, rfl⟩ := h
  rfl

theorem cmp3_less (a b : List UInt8) : decide (cmp3 a b < 0) = lss a b := by
  rw [Bool.eq_iff_iff, decide_eq_true_eq, cmp3_neg]

theorem boxed_cell (w : World) (v : Value) (t : TypeId) : (w.alloc (.cells #[v] t)).cell? ⟨w.heap.size, 0, none⟩ = some v := by
  rw [World.cell?_alloc_at _ _ _ _ (by simp)]
  rfl

theorem boxed_below (w : World) (o : Obj) : Below w.heap.size w (w.alloc o) := (Below.refl _ _).alloc (Nat.le_refl _) _

end Go.Proofs.Ytkdjcikilabehaa
