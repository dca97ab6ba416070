/- op.Plain, bowerref16.Plain; op.Name, bowerref16.Name. Conditions: texts that fit; for op.Name the table of names. -/
import Derived.Test.YtgckgagnodkhjaaRRRRDoorOpSound
namespace Go.Proofs.YtgckgagnodkhjaaRRRRDoor
open Go.RowKit

/-- An operation with what it uses alone. -/
def opPlainV (k : Int) (key tx : ByteArray) (v : Nat) (lim : Int) : Array Value := #[.int .i64 (if usI k = true then k else 0), .string (if usK k = true then key else ⟨#[]⟩), .string (if usT k = true then tx else ⟨#[]⟩), .int .u64 (if usV k = true then (v : Int) else 0), .int .i64 (if usT k = true then lim else 0)]

theorem heap_drew {W : World} {A : Nat} {x : Option Obj} (h : W.heap[A]? = x) : W.drew.heap[A]? = x := h
theorem heap_far {V : World} {A g i : Nat} {u : Value} {x : Option Obj} (hne : A ≠ g) (h : V.heap[A]? = x) : (V.setCell ⟨g, i, none⟩ u).heap[A]? = x := (Below.heap_setCell V ⟨g, i, none⟩ u A hne).trans h

theorem us_none {k : Int} (h : usI k = false) : usK k = false ∧ usT k = false ∧ usV k = false := by
  unfold usI at h
  rw [decide_eq_false_iff_not] at h
  unfold usK usT usV
  exact ⟨by rw [decide_eq_false_iff_not]; omega, by rw [decide_eq_false_iff_not]; omega, by rw [decide_eq_false_iff_not]; omega⟩

/-- A kind's name. -/
def opNameS (k : Int) : ByteArray := if k = 1 then ⟨#[103, 101, 116]⟩ else if k = 2 then ⟨#[105, 110, 115, 101, 114, 116]⟩ else if k = 3 then ⟨#[112, 117, 116]⟩ else if k = 4 then ⟨#[100, 101, 108, 101, 116, 101]⟩ else if k = 5 then ⟨#[100, 114, 111, 112]⟩ else if k = 6 then ⟨#[109, 105, 110]⟩ else if k = 7 then ⟨#[109, 97, 120]⟩ else if k = 8 then ⟨#[110, 101, 120, 116]⟩ else if k = 9 then ⟨#[112, 114, 101, 118]⟩ else if k = 10 then ⟨#[115, 99, 97, 110]⟩ else ⟨#[]⟩
/-- The table of names, in its place. -/
def NamesAt (w : World) : Prop := (w.cell? ⟨0, 0, none⟩ = some (.string ⟨#[]⟩) ∧ w.cell? ⟨0, 1, none⟩ = some (.string ⟨#[103, 101, 116]⟩) ∧ w.cell? ⟨0, 2, none⟩ = some (.string ⟨#[105, 110, 115, 101, 114, 116]⟩) ∧ w.cell? ⟨0, 3, none⟩ = some (.string ⟨#[112, 117, 116]⟩) ∧ w.cell? ⟨0, 4, none⟩ = some (.string ⟨#[100, 101, 108, 101, 116, 101]⟩) ∧ w.cell? ⟨0, 5, none⟩ = some (.string ⟨#[100, 114, 111, 112]⟩) ∧ w.cell? ⟨0, 6, none⟩ = some (.string ⟨#[109, 105, 110]⟩) ∧ w.cell? ⟨0, 7, none⟩ = some (.string ⟨#[109, 97, 120]⟩) ∧ w.cell? ⟨0, 8, none⟩ = some (.string ⟨#[110, 101, 120, 116]⟩) ∧ w.cell? ⟨0, 9, none⟩ = some (.string ⟨#[112, 114, 101, 118]⟩) ∧ w.cell? ⟨0, 10, none⟩ = some (.string ⟨#[115, 99, 97, 110]⟩)) ∧ 0 < w.heap.size
theorem NamesAt.below {w w' : World} (h : NamesAt w) (hb : Below w.heap.size w w') : NamesAt w' := by
  have e : ∀ i : Nat, w'.cell? ⟨0, i, none⟩ = w.cell? ⟨0, i, none⟩ := fun i => World.cell?_of_block (w := w) (hb.block 0 h.2)
  have hs := hb.size
  obtain ⟨⟨h0, h1, h2, h3, h4, h5, h6, h7, h8, h9, h10⟩, hp⟩ := h
  exact ⟨⟨(e 0).trans h0, (e 1).trans h1, (e 2).trans h2, (e 3).trans h3, (e 4).trans h4, (e 5).trans h5, (e 6).trans h6, (e 7).trans h7, (e 8).trans h8, (e 9).trans h9, (e 10).trans h10⟩, by omega⟩

end Go.Proofs.YtgckgagnodkhjaaRRRRDoor
