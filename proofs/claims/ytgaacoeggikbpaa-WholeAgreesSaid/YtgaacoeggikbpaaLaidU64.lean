/- sorted.laid at uint64: rows one behind the other, in a new row; nothing that was there has turned. Condition: at most 2^40 elements all together. -/
import Derived.Test.YtgaacoeggikbpaaRowFacts
namespace Go.Proofs.Ytgaacoeggikbpaa
open Go.RowKit

/-- The elements of the first rows. -/
def flatU64 (rows : List (Value × List Value)) (k : Nat) : List Value := (rows.take k).flatMap (·.2)

theorem flatU64_succ (rows : List (Value × List Value)) (k : Nat) (h : k < rows.length) : flatU64 rows (k + 1) = flatU64 rows k ++ rows[k].2 := by
  unfold flatU64
  rw [List.take_succ_eq_append_getElem h, List.flatMap_append]
  simp

theorem flatU64_len (rows : List (Value × List Value)) (k : Nat) : (flatU64 rows k).length ≤ (rows.flatMap (·.2)).length := by
  unfold flatU64
  conv => rhs; rw [← List.take_append_drop k rows, List.flatMap_append, List.length_append]
  omega

theorem flatU64_all (rows : List (Value × List Value)) (k : Nat) (h : rows.length ≤ k) : flatU64 rows k = rows.flatMap (·.2) := by
  unfold flatU64
  rw [List.take_of_length_le h]

def LaidU64 (w w' : World) (e : Ending) (xs : List Value) : Prop := ∃ v, e = .returned v ∧ Made w w' 30 v xs

theorem infoU64 : (Try.prog.info? 30).map (fun i => (i.zero, i.size, i.bytes)) = some (some (.int .u64 0), 1, 8) := by kernel_rfl
theorem sizeU64 : (Try.prog.info? 30).map (·.size) = some 1 := by kernel_rfl

theorem cells_oneU64 (n : Nat) : (madeCells (Value.cells (.int .u64 0)) (n * 1)).toList.length = n := by
  simp [madeCells]

end Go.Proofs.Ytgaacoeggikbpaa
