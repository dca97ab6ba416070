/- The law's own lives: the chapter's example. Condition: the table of names. -/
import Derived.Test.YtgckgagnodkhjaaRRRRDoorOpList
namespace Go.Proofs.YtgckgagnodkhjaaRRRRDoor
open Go.RowKit

theorem pen_new (w : World) : Pen (w.alloc (.cells #[.slice none 0 0] 38)) w.heap.size w.heap.size [] :=
  ⟨_, heap_alloc_new _ _, World.ownsRow_nil _ _ _ _, by simp [Value.ownBlock], Nat.le_refl _⟩
theorem conv_own {w : World} {B : Nat} {v : Value} {l : List UInt8} (h : w.ownsRow B 5 1 v l.length (Lib.byteCells l)) : (convert 36 9 v).run Tryd.prog w = .ok (.string ⟨l.toArray⟩) w := by
  rcases h.2 with ⟨rfl, hn⟩ | ⟨g, cap, cur, rfl, _⟩
  · have : l = [] := List.eq_nil_of_length_eq_zero hn
    subst this
    have := run_convert_bytes_string (P := Tryd.prog) w 36 9 5 none 0 0 Tryd.underlying36 Tryd.underlying5 Tryd.underlying9
    rw [this]
    rfl
  · refine run_convert_bytes_back (P := Tryd.prog) w 36 9 5 ⟨g, 0, none⟩ cap l Tryd.underlying36 Tryd.underlying5 Tryd.underlying9 (fun j hj => ?_)
    exact h.cells (g := g) rfl j _ (by simp [Lib.byteCells, hj])
theorem Eye.keep {w w' : World} {eb : Nat} {bs : List UInt8} {f : Int} (h : Eye w eb bs f) (hb : Below w.heap.size w w') : Eye w' eb bs f := by
  obtain ⟨v, h1, ao, c, h2, h3, h4, h5⟩ := h
  refine ⟨v, by rw [hb.block eb (lt_of_block h1)]; exact h1, ao, c, h2, h3, h4, fun hne => ?_⟩
  obtain ⟨g, o, e, hg, hc⟩ := h5 hne
  exact ⟨g, o, e, hg, fun j hj => (hb.cell (p := ⟨g, o + j, none⟩) (World.block_lt_of_cell? w _ (hc j hj))).trans (hc j hj)⟩

theorem livesX_ok : (∀ i, i < 2 → (livesX i).ok) ∧ (∀ i, i < 2 → (livesX i).short) := by
  constructor
  · intro i _
    unfold livesX
    split
    · exact ⟨by show 7 < _; omega, by show 1 ≤ _; omega, by show 0 ≤ _; omega⟩
    · exact ⟨by show 0 < _; omega, by show 1 ≤ _; omega, by show 1 ≤ _; omega⟩
  · intro i _
    unfold livesX
    split
    · exact ⟨by show 1 ≤ 200; omega, by show 0 ≤ 200; omega⟩
    · exact ⟨by show 1 ≤ 200; omega, by show 1 ≤ 200; omega⟩

end Go.Proofs.YtgckgagnodkhjaaRRRRDoor
