/- key.Shared and key.Compare on any texts that are not longer than 2^47: how far two are alike, and which is less; nothing is written. -/
import Derived.Test.YtkdjcikilabehaaRows
import Derived.Test.YtkdjcikilabehaaKeyMath
import Derived.WalkKit
import Derived.OneCell
import Derived.Lib.Hide
import Derived.Outline
import Derived.Deep.QuietTactic
import Derived.BigQuiet
import Derived.StringKeys
namespace Go.Proofs.Ytkdjcikilabehaa
open Go.RowKit

/-- Nothing but how many answers were drawn has turned. -/
def Drew (w w' : World) : Prop := ∃ q, w' = w.drewN q

theorem Drew.refl (w : World) : Drew w w := ⟨0, rfl⟩
theorem Drew.trans {a b c : World} (h : Drew a b) (k : Drew b c) : Drew a c := by
  obtain ⟨p, rfl⟩ := h
  obtain ⟨q, rfl⟩ := k
  exact ⟨p + q, World.drewN_drewN _ _ _⟩

theorem ret_i {a b : Int} (h : a = b) : Ending.returned (.int .i64 a) = .returned (.int .i64 b) := by rw [h]
theorem ret_b {a b : Bool} (h : a = b) : Ending.returned (.bool a) = .returned (.bool b) := by rw [h]

/-- -1, 0, 1. -/
def cmpI (x y : Int) : Int := if x < y then -1 else if y < x then 1 else 0

theorem size_list (a : ByteArray) : a.data.toList.length = a.size := by simp

/-- Compare's way where one begins the other. -/
theorem cmp_len (a b : ByteArray) (h : ¬ (cpl a.data.toList b.data.toList < a.size ∧ cpl a.data.toList b.data.toList < b.size)) : cmp3 a.data.toList b.data.toList = cmpI a.size b.size := by
  have hl := cpl_le a.data.toList b.data.toList
  rw [size_list, size_list] at hl
  rw [cmp3_len _ _ (by rw [size_list, size_list]; omega), size_list, size_list]
  unfold cmpI
  simp only [Int.ofNat_lt]

theorem cmp_byte (a b : ByteArray) (n : Nat) (hn : cpl a.data.toList b.data.toList = n) (h1 : n < a.size) (h2 : n < b.size) : cmp3 a.data.toList b.data.toList = cmpI (a[n].toNat : Int) (b[n].toNat : Int) := by
  subst hn
  have hne := cpl_at a.data.toList b.data.toList (by simpa using h1) (by simpa using h2)
  rw [cmp3_byte _ _ (by simpa using h1) (by simpa using h2)]
  unfold cmpI
  have e1 : a[cpl a.data.toList b.data.toList] = a.data.toList[cpl a.data.toList b.data.toList]'(by simpa using h1) := by simp; rfl
  have e2 : b[cpl a.data.toList b.data.toList] = b.data.toList[cpl a.data.toList b.data.toList]'(by simpa using h2) := by simp; rfl
  rw [e1, e2]
  have hne2 : (a.data.toList[cpl a.data.toList b.data.toList]'(by simpa using h1)).toNat ≠ (b.data.toList[cpl a.data.toList b.data.toList]'(by simpa using h2)).toNat := fun e => hne (UInt8.toNat_inj.1 e)
  simp only [Int.ofNat_lt]
  split
  · rfl
  · rw [if_pos (by omega)]

end Go.Proofs.Ytkdjcikilabehaa
