/- node.copied, Clone: a node that has the same, in new memory. Condition: rows of at most 2^38 elements. -/
import Derived.Test.YtgaacoeggikbpaaNodeSameOps
import Derived.Test.YtgaacoeggikbpaaPartStr
import Derived.Test.YtgaacoeggikbpaaPartU64
import Derived.Test.YtgaacoeggikbpaaPartInt
import Derived.Deep.RegionWith
namespace Go.Proofs.Ytgaacoeggikbpaa
open Go.RowKit

/-- A row in new memory, or none. -/
def NewRow (w w' : World) (t : TypeId) (v : Value) (xs : List Value) : Prop :=
  (∃ g, v = .slice (some ⟨g, 0, none⟩) xs.length xs.length ∧ w.heap.size ≤ g ∧ Whole w' t g xs) ∨ (v = .slice none 0 0 ∧ xs = [])
theorem NewRow.keep {w w' w2 : World} {t : TypeId} {v : Value} {xs : List Value} (h : NewRow w w' t v xs) (hb : Below w'.heap.size w' w2) : NewRow w w2 t v xs := by
  rcases h with ⟨g, h1, h2, h3⟩ | h
  · exact Or.inl ⟨g, h1, h2, h3.keep hb⟩
  · exact Or.inr h
theorem NewRow.back {w0 w w' : World} {t : TypeId} {v : Value} {xs : List Value} (h : NewRow w w' t v xs) (hb : w0.heap.size ≤ w.heap.size) : NewRow w0 w' t v xs := by
  rcases h with ⟨g, h1, h2, h3⟩ | h
  · exact Or.inl ⟨g, h1, by omega, h3⟩
  · exact Or.inr h
theorem NewRow.rd {w w' : World} {t : TypeId} {v : Value} {xs : List Value} (h : NewRow w w' t v xs) (hl : xs.length ≤ 9223372036854775807) : Rd w' v xs := by
  rcases h with ⟨g, rfl, h2, h3⟩ | ⟨rfl, rfl⟩
  · exact h3.rd hl
  · exact Rd.nil _
theorem NewRow.open {w w' : World} {t : TypeId} {v : Value} {xs : List Value} (h : NewRow w w' t v xs) : ∃ ao, v = .slice ao xs.length xs.length := by
  rcases h with ⟨g, rfl, _⟩ | ⟨rfl, rfl⟩
  · exact ⟨_, rfl⟩
  · exact ⟨none, rfl⟩

def CopyGives (w w' : World) (e : Ending) (t : TypeId) (xs : List Value) : Prop := ∃ v, e = .returned v ∧ NewRow w w' t v xs ∧ Below w.heap.size w w'

theorem take_whole {α : Type} (xs : List α) : (xs.take (min (xs.length : Int) xs.length).toNat).drop (max (0 : Int) 0).toNat = xs := by
  rw [show (min (xs.length : Int) xs.length).toNat = xs.length by omega, show (max (0 : Int) 0).toNat = 0 by omega, List.take_length, List.drop_zero]

end Go.Proofs.Ytgaacoeggikbpaa
