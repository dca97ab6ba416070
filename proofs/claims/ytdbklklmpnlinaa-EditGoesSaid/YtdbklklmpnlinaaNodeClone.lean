/- node.copied, Clone: a node that has the same, in new memory. Condition: rows of at most 2^38 elements. -/
import Derived.Test.YtdbklklmpnlinaaNodeSameOps
import Derived.Test.YtdbklklmpnlinaaPartStr
import Derived.Test.YtdbklklmpnlinaaPartU64
import Derived.Test.YtdbklklmpnlinaaPartInt
import Derived.Deep.RegionWith
namespace Go.Proofs.Ytdbklklmpnlinaa
open Go.RowKit

/-- A row in new memory, or none. -/
def NewRow (w w' : World) (t : TypeId) (v : Value) (xs : List Value) : Prop :=
  (∃ g, v = .slice (some ⟨g, 0, none⟩) xs.length xs.length ∧ w.heap.size ≤ g ∧ Whole w' t g xs) ∨ (v = .slice none 0 0 ∧ xs = [])
theorem NewRow.keep {w w' w2 : World} {t : TypeId} {v : Value} {xs : List Value} (h : NewRow w w' t v xs) (hb : Below w'.heap.size w' w2) : NewRow w w2 t v xs := by
  rcases h with ⟨g, h1, h2, h3⟩ | h
  · exact Or.inl ⟨g, h1, h2, h3.keep hb⟩
  · exact Or.inr h
theorem NewRow.back {w0 w w' : World} {t : TypeId} {v : Value} {xs : List Value} (h : NewRow w w' t v xs) (hb : w0.heap.size ≤ w.heap.size) : NewRow w0 w' t v xs := by
  rcases h with ⟨g, h1, h2, h3⟩ | h
  · exact Or.inl ⟨g, h1, by omega, h3⟩
  · exact Or.inr h
theorem NewRow.rd {w w' : World} {t : TypeId} {v : Value} {xs : List Value} (h : NewRow w w' t v xs) (hl : xs.length ≤ 9223372036854775807) : Rd w' v xs := by
  rcases h with ⟨g, rfl, h2, h3⟩ | ⟨rfl, rfl⟩
  · exact h3.rd hl
  · exact Rd.nil _
theorem NewRow.open {w w' : World} {t : TypeId} {v : Value} {xs : List Value} (h : NewRow w w' t v xs) : ∃ ao, v = .slice ao xs.length xs.length := by
  rcases h with ⟨g, rfl, _⟩ | ⟨rfl, rfl⟩
  · exact ⟨_, rfl⟩
  · exact ⟨none, rfl⟩

def CopyGives (w w' : World) (e : Ending) (t : TypeId) (xs : List Value) : Prop := ∃ v, e = .returned v ∧ NewRow w w' t v xs ∧ Below w.heap.size w w'

theorem take_whole {α : Type} (xs : List α) : (xs.take (min (xs.length : Int) xs.length).toNat).drop (max (0 : Int) 0).toNat = xs := by
  rw [show (min (xs.length : Int) xs.length).toNat = xs.length by omega, show (max (0 : Int) 0).toNat = 0 by omega, List.take_length, List.drop_zero]

theorem copyStr_any (ao : Option Addr) (n c : Nat) (xs : List Value) (w : World) (hr : Rd w (.slice ao n c) xs) (ho : ∀ u ∈ xs, u.oneCell' = true) (hn : n ≤ 274877906944) :
    Calls Try.prog 78 #[.slice ao n c] w fun e w' => CopyGives w w' e 9 xs := by
  have hl := hr.len
  have HP := partStr_any (.slice ao n c) 0 n xs w hr ho (by omega)
  rw [← hl.1, take_whole] at HP
  have HPP := Lib.hid HP
  have hl3 := hl.2.2
  have HL := Lib.hid hl.1
  rw [hl.1] at HPP
  clear HP hl hr ho
  go_enter Try.func78, Try.ntmps78
  go_wp2_with fail
  refine HPP.out.mono ?_
  rintro e w1 ⟨v, rfl, hm⟩
  have HM := Lib.hid hm
  clear hm
  go_wp2
  go_ret
  rcases HM.out with hm | ⟨rfl, h2, rfl⟩
  · obtain ⟨g, h1, h2, h3, h4⟩ := hm
    exact ⟨_, rfl, Or.inl ⟨g, h1, h2, h3⟩, h4⟩
  · exact ⟨_, rfl, Or.inr ⟨rfl, h2⟩, Below.refl _ _⟩
theorem copyU64_any (ao : Option Addr) (n c : Nat) (xs : List Value) (w : World) (hr : Rd w (.slice ao n c) xs) (ho : ∀ u ∈ xs, u.oneCell' = true) (hn : n ≤ 274877906944) :
    Calls Try.prog 79 #[.slice ao n c] w fun e w' => CopyGives w w' e 30 xs := by
  have hl := hr.len
  have HP := partU64_any (.slice ao n c) 0 n xs w hr ho (by omega)
  rw [← hl.1, take_whole] at HP
  have HPP := Lib.hid HP
  have hl3 := hl.2.2
  have HL := Lib.hid hl.1
  rw [hl.1] at HPP
  clear HP hl hr ho
  go_enter Try.func79, Try.ntmps79
  go_wp2_with fail
  refine HPP.out.mono ?_
  rintro e w1 ⟨v, rfl, hm⟩
  have HM := Lib.hid hm
  clear hm
  go_wp2
  go_ret
  rcases HM.out with hm | ⟨rfl, h2, rfl⟩
  · obtain ⟨g, h1, h2, h3, h4⟩ := hm
    exact ⟨_, rfl, Or.inl ⟨g, h1, h2, h3⟩, h4⟩
  · exact ⟨_, rfl, Or.inr ⟨rfl, h2⟩, Below.refl _ _⟩
theorem copyInt_any (ao : Option Addr) (n c : Nat) (xs : List Value) (w : World) (hr : Rd w (.slice ao n c) xs) (ho : ∀ u ∈ xs, u.oneCell' = true) (hn : n ≤ 274877906944) :
    Calls Try.prog 80 #[.slice ao n c] w fun e w' => CopyGives w w' e 3 xs := by
  have hl := hr.len
  have HP := partInt_any (.slice ao n c) 0 n xs w hr ho (by omega)
  rw [← hl.1, take_whole] at HP
  have HPP := Lib.hid HP
  have hl3 := hl.2.2
  have HL := Lib.hid hl.1
  rw [hl.1] at HPP
  clear HP hl hr ho
  go_enter Try.func80, Try.ntmps80
  go_wp2_with fail
  refine HPP.out.mono ?_
  rintro e w1 ⟨v, rfl, hm⟩
  have HM := Lib.hid hm
  clear hm
  go_wp2
  go_ret
  rcases HM.out with hm | ⟨rfl, h2, rfl⟩
  · obtain ⟨g, h1, h2, h3, h4⟩ := hm
    exact ⟨_, rfl, Or.inl ⟨g, h1, h2, h3⟩, h4⟩
  · exact ⟨_, rfl, Or.inr ⟨rfl, h2⟩, Below.refl _ _⟩
end Go.Proofs.Ytdbklklmpnlinaa
