/- Facts for regions that make boxes in any order: blocks that stay, the form of a box's value, old cells behind a call. No walk. -/
import Derived.Test.YtbghemndcndhpaaDoorBoxCutL
namespace Go.Proofs.YtbghemndcndhpaaDoor
open Go.RowKit

/-- The blocks from lo on, below hi, are as they were. -/
def Mid (lo hi : Nat) (w w' : World) : Prop := ∀ k, lo ≤ k → k < hi → w'.heap[k]? = w.heap[k]?
theorem Mid.refl (lo hi : Nat) (w : World) : Mid lo hi w w := fun _ _ _ => rfl
theorem Mid.alloc {lo hi : Nat} {w w' : World} {o : Obj} (h : Mid lo hi w w') (hs : hi ≤ w'.heap.size) : Mid lo hi w (w'.alloc o) := fun k h1 h2 => (Below.heap_alloc _ _ _ (by omega)).trans (h k h1 h2)
theorem Mid.set {lo hi : Nat} {w w' : World} {a : Addr} {v : Value} (h : Mid lo hi w w') (hs : a.block < lo ∨ hi ≤ a.block) : Mid lo hi w (w'.setCell a v) := fun k h1 h2 => (heap_set_other (by omega)).trans (h k h1 h2)
theorem Mid.below {lo hi : Nat} {w w' w2 : World} (h : Mid lo hi w w') (hs : hi ≤ w'.heap.size) (hb : Below w'.heap.size w' w2) : Mid lo hi w w2 := fun k h1 h2 => (hb.block k (by omega)).trans (h k h1 h2)

theorem box_form2 (b : Bx) : Hid (∀ (S : Nat → Prop) (w : World) (u : Value), BoxIs S w b u → u = .nilIface) ∨ Hid (∀ (S : Nat → Prop) (w : World) (u : Value), BoxIs S w b u → ∃ t z, u = .iface t z) := by
  cases b with
  | nothing => exact Or.inl (Lib.hid (fun S w u h => by rw [BoxIs] at h; exact h))
  | truth _ => exact Or.inr (Lib.hid (fun S w u h => by rw [BoxIs] at h; exact ⟨_, _, h⟩))
  | number _ => exact Or.inr (Lib.hid (fun S w u h => by rw [BoxIs] at h; exact ⟨_, _, h⟩))
  | text _ => exact Or.inr (Lib.hid (fun S w u h => by rw [BoxIs] at h; exact ⟨_, _, h⟩))
  | list l => exact Or.inr (Lib.hid (fun S w u h => by rw [BoxIs] at h; obtain ⟨_, h, _⟩ := h; exact ⟨_, _, h⟩))

theorem bcell {W w1 : World} (hb : Below W.heap.size W w1) : (∀ b o, b < W.heap.size → w1.cell? ⟨b, o, none⟩ = W.cell? ⟨b, o, none⟩) ∧ (∀ b o, b < W.heap.size → w1.frozen? ⟨b, o, none⟩ = W.frozen? ⟨b, o, none⟩) :=
  ⟨fun b o h => hb.cell (p := ⟨b, o, none⟩) h, fun b o h => hb.frozen (p := ⟨b, o, none⟩) h⟩
end Go.Proofs.YtbghemndcndhpaaDoor
