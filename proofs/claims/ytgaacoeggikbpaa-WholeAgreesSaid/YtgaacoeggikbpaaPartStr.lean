/- sorted.Part at string: what it answers, in new memory; nothing that was there has turned. Condition: rows of at most 2^38 elements. -/
import Derived.Test.YtgaacoeggikbpaaLaidStr
import Derived.IntWalk
import Derived.Outline
namespace Go.Proofs.Ytgaacoeggikbpaa
open Go.RowKit

/-- Made of a world in which more lies. -/
theorem Made.backStr {w W w' : World} {v : Value} {xs : List Value} (h : Made W w' 9 v xs) (hb : Below w.heap.size w W) : Made w w' 9 v xs := by
  obtain ⟨g, h1, h2, h3, h4⟩ := h
  exact ⟨g, h1, Nat.le_trans hb.size h2, h3, hb.trans (h4.mono hb.size)⟩

/-- A part: from lo on, up to hi. -/
def MadePartStr (w w' : World) (e : Ending) (ys : List Value) : Prop := ∃ v, e = .returned v ∧ Made w w' 9 v ys

/-- What Part tells: a new row, or nothing. -/
def PartGivesStr (w w' : World) (e : Ending) (ys : List Value) : Prop := ∃ v, e = .returned v ∧ (Made w w' 9 v ys ∨ (v = .slice none 0 0 ∧ ys = [] ∧ w' = w))

end Go.Proofs.Ytgaacoeggikbpaa
