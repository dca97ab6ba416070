/- A region that draws its order, whose own operations only read, and whose callees leave all that was there (they may make memory): one walk of the text's order, over the class of worlds that came of one. No program's function. -/
import Derived.Test.YtkdjcikilabehaaRows
import Derived.WalkKit
import Derived.WalkSmall
import Derived.Deep.QuietTactic
import Derived.BigQuiet
namespace Go.Proofs.Ytkdjcikilabehaa
open Go.RowKit

/-- A world that came of w1: all that was there is there. -/
structure Later (w1 : World) where
  w : World
  h : Below w1.heap.size w1 w

instance (w1 : World) : Inhabited (Later w1) := ⟨⟨w1, Below.refl _ _⟩⟩

theorem wp_region_later {P : Program} {id : Nat} {Q : Exit → Act → World → Prop} {a : Act} {w1 : World} {l : List Oper} (hm : P.follows .mixedOrders = true) (hB : Region.lexB .any l.toArray = true)
    (h : wpQuiet P l.toArray (fun w' => ∃ p : Later w1, w' = p.w) (fun a' => ∀ w', (∃ p : Later w1, w' = p.w) → Q .normal a' w') l a) : (Code.region id l.toArray true).wp P Q a w1 :=
  wp_region_quiet (C := fun w' => ∃ p : Later w1, w' = p.w) hm hB ⟨⟨w1.drew, (Below.refl _ _).drew⟩, rfl⟩ (by simpa using h)

/-- A callee's contract, met in a world of the class. -/
theorem later_of {P : Program} {f : FuncId} {args : Array Value} {w1 : World} {p : Later w1} {v : Value}
    (h : Calls P f args p.w fun e w' => e = .returned v ∧ Below p.w.heap.size p.w w') : Calls P f args p.w fun e w'' => e = .returned v ∧ ∃ q : Later w1, w'' = q.w :=
  h.mono fun _ _ ⟨he, hb⟩ => ⟨he, ⟨⟨_, p.h.trans (hb.mono p.h.size)⟩, rfl⟩⟩
end Go.Proofs.Ytkdjcikilabehaa
