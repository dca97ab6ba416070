/- sorted.laid at int: rows one behind the other, in a new row; nothing that was there has turned. Condition: at most 2^40 elements all together. -/
import Derived.Test.YtgaacoeggikbpaaRowFacts
namespace Go.Proofs.Ytgaacoeggikbpaa
open Go.RowKit

/-- The elements of the first rows. -/
def flatInt (rows : List (Value × List Value)) (k : Nat) : List Value := (rows.take k).flatMap (·.2)

theorem flatInt_succ (rows : List (Value × List Value)) (k : Nat) (h : k < rows.length) : flatInt rows (k + 1) = flatInt rows k ++ rows[k].2 := by
  unfold flatInt
  rw [List.take_succ_eq_append_getElem h, List.flatMap_append]
  simp

theorem flatInt_len (rows : List (Value × List Value)) (k : Nat) : (flatInt rows k).length ≤ (rows.flatMap (·.2)).length := by
  unfold flatInt
  conv => rhs; rw [← List.take_append_drop k rows, List.flatMap_append, List.length_append]
  omega

theorem flatInt_all (rows : List (Value × List Value)) (k : Nat) (h : rows.length ≤ k) : flatInt rows k = rows.flatMap (·.2) := by
  unfold flatInt
  rw [List.take_of_length_le h]

def LaidInt (w w' : World) (e : Ending) (xs : List Value) : Prop := ∃ v, e = .returned v ∧ Made w w' 3 v xs

theorem infoInt : (Try.prog.info? 3).map (fun i => (i.zero, i.size, i.bytes)) = some (some (.int .i64 0), 1, 8) := by kernel_rfl
theorem sizeInt : (Try.prog.info? 3).map (·.size) = some 1 := by kernel_rfl

theorem cells_oneInt (n : Nat) : (madeCells (Value.cells (.int .i64 0)) (n * 1)).toList.length = n := by
  simp [madeCells]

end Go.Proofs.Ytgaacoeggikbpaa
