/- slices.Equal at texts, words and numbers; bowerref04.Same: whether two rows are the same. Nothing that was there has turned. -/
import Derived.Test.YtgaacoeggikbpaaNodeCheck2
namespace Go.Proofs.Ytgaacoeggikbpaa
open Go.RowKit

theorem rows_ne {α : Type} {xs ys : List α} (d : α) (i : Nat) (h : xs.getD i d ≠ ys.getD i d) : xs ≠ ys := fun e => h (by rw [e])
theorem rows_eq {α : Type} {xs ys : List α} (d : α) (hl : xs.length = ys.length) (h : ∀ i, i < xs.length → xs.getD i d = ys.getD i d) : xs = ys := by
  apply List.ext_getElem hl
  intro i h1 h2
  have := h i h1
  rw [List.getD_eq_getElem?_getD, List.getD_eq_getElem?_getD, List.getElem?_eq_getElem h1, List.getElem?_eq_getElem h2] at this
  exact this

end Go.Proofs.Ytgaacoeggikbpaa
