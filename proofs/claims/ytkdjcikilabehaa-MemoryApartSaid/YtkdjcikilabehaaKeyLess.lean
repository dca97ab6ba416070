/- bowerref03.Less on any texts: what it answers, by lists of bytes; nothing is written. Conditions: texts of at most 2^47 bytes. -/
import Derived.Test.YtkdjcikilabehaaKeyWalk
namespace Go.Proofs.Ytkdjcikilabehaa
open Go.RowKit

theorem Drew.one {w a : World} {q : Nat} (h : Drew w a) : Drew w (a.drewN q) := h.trans ⟨q, rfl⟩

/-- Less, where the texts part at n. -/
theorem less_parted (a b : ByteArray) (n : Nat) (hn : cpl a.data.toList b.data.toList = n) (h1 : n < a.size) (h2 : n < b.size) : lss a.data.toList b.data.toList = decide (a[n].toNat < b[n].toNat) := by
  rw [lss_at, hn, size_list, size_list]
  have e1 : ¬ n = a.size := by omega
  have e2 : ¬ n = b.size := by omega
  have g1 : (a.data.toList[n]?.getD 0) = a[n] := by rw [List.getElem?_eq_getElem (by simpa using h1)]; simp; rfl
  have g2 : (b.data.toList[n]?.getD 0) = b[n] := by rw [List.getElem?_eq_getElem (by simpa using h2)]; simp; rfl
  rw [g1, g2]
  simp [e1, e2]

theorem less_end (a b : ByteArray) (h : cpl a.data.toList b.data.toList = b.size) : lss a.data.toList b.data.toList = false := by
  rw [lss_at, h, size_list]; simp

theorem less_begin (a b : ByteArray) (h : cpl a.data.toList b.data.toList = a.size) (h2 : a.size < b.size) : lss a.data.toList b.data.toList = true := by
  have e : ¬ a.size = b.size := by omega
  rw [lss_at, h, size_list, size_list]; simp [e]

end Go.Proofs.Ytkdjcikilabehaa
