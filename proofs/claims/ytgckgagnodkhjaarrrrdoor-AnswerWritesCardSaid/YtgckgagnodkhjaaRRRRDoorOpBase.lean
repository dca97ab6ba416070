/- Boxes of any struct; op.isKey, isEnd, isLimit, kept, used; bowerref16.Uses, uses; bowerref10.Key. Condition: texts that fit. -/
import Derived.Test.YtgckgagnodkhjaaRRRRDoorKeyRest
import Derived.Test.YtgckgagnodkhjaaRRRRDoorKeyRef
import Derived.Lib.Hide
import Derived.Deep.RegionHeldLaw
import Derived.Deep.DeepCutAuto
namespace Go.Proofs.YtgckgagnodkhjaaRRRRDoor
open Go.RowKit

/-- A struct's box. -/
def BX (V : World) (A : Nat) (t : TypeId) (cs : Array Value) : Prop := V.heap[A]? = some (.cells cs t (0, 0))
theorem BX.below {V V' : World} {A : Nat} {t : TypeId} {cs : Array Value} (h : BX V A t cs) (hb : Below V.heap.size V V') : BX V' A t cs := (hb.block A (lt_of_block h)).trans h
theorem BX.new (V : World) (t : TypeId) (cs : Array Value) : BX (V.alloc (.cells cs t)) V.heap.size t cs := heap_alloc_new V _
theorem BX.cell {V : World} {A : Nat} {t : TypeId} {cs : Array Value} (h : BX V A t cs) (i : Nat) {v : Value} (hv : cs[i]? = some v) : V.cell? ⟨A, i, none⟩ = some v := by
  unfold BX at h
  simp [World.cell?, h, hv]
theorem BX.frozen {V : World} {A : Nat} {t : TypeId} {cs : Array Value} (h : BX V A t cs) (i : Nat) : V.frozen? ⟨A, i, none⟩ = false := by
  unfold BX at h
  simp [World.frozen?, h]
theorem bx2 (w : World) (t1 t2 : TypeId) (c1 c2 : Array Value) : ∃ W, W = (w.alloc (.cells c1 t1)).alloc (.cells c2 t2) ∧ BX W w.heap.size t1 c1 ∧ BX W (w.heap.size + 1) t2 c2 ∧ Below w.heap.size w W := by
  refine ⟨_, rfl, ?_, ?_, ((Below.refl _ _).alloc (Nat.le_refl _) _).alloc (by rw [World.size_alloc]; omega) _⟩
  · exact (BX.new w t1 c1).below ((Below.refl _ _).alloc (Nat.le_refl _) _)
  · have h := BX.new (w.alloc (.cells c1 t1)) t2 c2
    rw [World.size_alloc] at h
    exact h

def opKeyB (k : ByteArray) : Bool := decide (1 ≤ k.size ∧ k.size ≤ 64)
def limB (n : Int) : Bool := decide (0 ≤ n ∧ n ≤ 4096)
def usI (k : Int) : Bool := decide (1 ≤ k ∧ k ≤ 10)
def usK (k : Int) : Bool := decide ((1 ≤ k ∧ k ≤ 5) ∨ (8 ≤ k ∧ k ≤ 10))
def usV (k : Int) : Bool := decide (k = 2 ∨ k = 3 ∨ k = 5)
def usT (k : Int) : Bool := decide (k = 10)
/-- Which parts an operation uses, as letters. -/
def usS (k : Int) : ByteArray := if k = 1 ∨ k = 4 ∨ k = 8 ∨ k = 9 then ⟨#[107]⟩ else if k = 2 ∨ k = 3 ∨ k = 5 then ⟨#[107, 118]⟩ else if k = 6 ∨ k = 7 then ⟨#[45]⟩ else if k = 10 then ⟨#[107, 116, 108]⟩ else ⟨#[]⟩

theorem kinds (k : Int) : k = 1 ∨ k = 2 ∨ k = 3 ∨ k = 4 ∨ k = 5 ∨ k = 6 ∨ k = 7 ∨ k = 8 ∨ k = 9 ∨ k = 10 ∨ (k < 1 ∨ 10 < k) := by omega

/-- A range's end: a key that is not less than where the range begins. -/
def endB (tx key : ByteArray) : Bool := opKeyB tx && !(lss tx.data.toList key.data.toList)
def partsV (k : Int) : Array Value := #[.bool (usI k), .bool (usK k), .bool (usV k), .bool (usT k), .bool (usT k)]
end Go.Proofs.YtgckgagnodkhjaaRRRRDoor
