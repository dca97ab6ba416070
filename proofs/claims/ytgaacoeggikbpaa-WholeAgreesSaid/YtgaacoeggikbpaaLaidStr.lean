/- sorted.laid at string: rows one behind the other, in a new row; nothing that was there has turned. Condition: at most 2^40 elements all together. -/
import Derived.Test.YtgaacoeggikbpaaRowFacts
namespace Go.Proofs.Ytgaacoeggikbpaa
open Go.RowKit

/-- The elements of the first rows. -/
def flatStr (rows : List (Value × List Value)) (k : Nat) : List Value := (rows.take k).flatMap (·.2)

theorem flatStr_succ (rows : List (Value × List Value)) (k : Nat) (h : k < rows.length) : flatStr rows (k + 1) = flatStr rows k ++ rows[k].2 := by
  unfold flatStr
  rw [List.take_succ_eq_append_getElem h, List.flatMap_append]
  simp

theorem flatStr_len (rows : List (Value × List Value)) (k : Nat) : (flatStr rows k).length ≤ (rows.flatMap (·.2)).length := by
  unfold flatStr
  conv => rhs; rw [← List.take_append_drop k rows, List.flatMap_append, List.length_append]
  omega

theorem flatStr_all (rows : List (Value × List Value)) (k : Nat) (h : rows.length ≤ k) : flatStr rows k = rows.flatMap (·.2) := by
  unfold flatStr
  rw [List.take_of_length_le h]

def LaidStr (w w' : World) (e : Ending) (xs : List Value) : Prop := ∃ v, e = .returned v ∧ Made w w' 9 v xs

theorem infoStr : (Try.prog.info? 9).map (fun i => (i.zero, i.size, i.bytes)) = some (some (.string ⟨#[]⟩), 1, 16) := by kernel_rfl
theorem sizeStr : (Try.prog.info? 9).map (·.size) = some 1 := by kernel_rfl

theorem cells_oneStr (n : Nat) : (madeCells (Value.cells (.string ⟨#[]⟩)) (n * 1)).toList.length = n := by
  simp [madeCells]

end Go.Proofs.Ytgaacoeggikbpaa
