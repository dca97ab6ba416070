/- sort.Search with the closures of Find and Floor, and Find, Floor, Below, at a row of texts that rises: the places that they tell; nothing that was there has turned. Conditions: at most 2^38 texts, each of at most 2^47 bytes. -/
import Derived.Test.YtkdjcikilabehaaRowFacts
import Derived.Test.YtkdjcikilabehaaKeyLess
import Derived.Deep.LoopGhost
namespace Go.Proofs.Ytkdjcikilabehaa
open Go.RowKit

/-- Each text is less than the next one. -/
def Rises (xs : List ByteArray) : Prop := ∀ i (h : i + 1 < xs.length), lss xs[i].data.toList xs[i + 1].data.toList = true

theorem Rises.lt {xs : List ByteArray} (h : Rises xs) (i j : Nat) (hij : i < j) (hj : j < xs.length) : lss xs[i].data.toList xs[j].data.toList = true := by
  induction j with
  | zero => omega
  | succ j ih =>
    by_cases e : i = j
    · subst e; exact h i hj
    · exact lss_trans _ _ _ (ih (by omega) (by omega)) (h j hj)

/-- Places from lo on say yes, those ahead of it no. -/
def Edge (n lo : Nat) (p : Nat → Bool) : Prop := lo ≤ n ∧ (∀ i, i < lo → p i = false) ∧ (∀ i, lo ≤ i → i < n → p i = true)

theorem Edge.one {n a b : Nat} {p : Nat → Bool} (h : Edge n a p) (k : Edge n b p) : a = b := by
  rcases Nat.lt_trichotomy a b with g | g | g
  · have h1 := k.2.1 a g
    have h2 := h.2.2 a (Nat.le_refl _) (by have := k.1; omega)
    rw [h1] at h2; cases h2
  · exact g
  · have h1 := h.2.1 b g
    have h2 := k.2.2 b (Nat.le_refl _) (by have := h.1; omega)
    rw [h1] at h2; cases h2

def Found (w w' : World) (e : Ending) (n : Nat) (p : Nat → Bool) : Prop := ∃ at_, e = .returned (.int .i64 (at_ : Nat)) ∧ Edge n at_ p ∧ Drew w w'

theorem Drew.below0 {w w' : World} (h : Drew w w') (B : Nat) : Below B w w' := by
  obtain ⟨q, rfl⟩ := h
  exact below_drewN (Below.refl _ _) _

theorem Drew.cell0 {w w' : World} (h : Drew w w') (p : Addr) : w'.cell? p = w.cell? p := by
  obtain ⟨q, rfl⟩ := h
  rfl

/-- The closures' boxes, and the text that is looked at. -/
structure Boxes (W : World) (b1 b2 : Nat) (v : Value) (k : ByteArray) (xs : List ByteArray) : Prop where
  row : W.cell? ⟨b1, 0, none⟩ = some v
  key : W.cell? ⟨b2, 0, none⟩ = some (.string k)
  rd : Rd W v (xs.map Value.string)
  ks : k.size ≤ 140737488355328
  xs : ∀ x ∈ xs, x.size ≤ 140737488355328

theorem Boxes.drew {W W' : World} {b1 b2 : Nat} {v : Value} {k : ByteArray} {xs : List ByteArray} (h : Boxes W b1 b2 v k xs) (hd : Drew W W') : Boxes W' b1 b2 v k xs :=
  ⟨by rw [hd.cell0]; exact h.row, by rw [hd.cell0]; exact h.key, h.rd.keep (hd.below0 _), h.ks, h.xs⟩

theorem cmp3_ge (a b : List UInt8) : decide (0 ≤ cmp3 a b) = !lss a b := by
  have := cmp3_neg a b
  cases h : lss a b with
  | true => rw [h] at this; have : cmp3 a b < 0 := by rw [this]
            simp; omega
  | false => rw [h] at this; have : ¬ cmp3 a b < 0 := by rw [this]; simp
             simp; omega

theorem cmp3_gt (a b : List UInt8) : decide (0 < cmp3 a b) = lss b a := by
  have := cmp3_pos a b
  cases h : lss b a with
  | true => rw [h] at this; have : 0 < cmp3 a b := by rw [this]
            simp; omega
  | false => rw [h] at this; have : ¬ 0 < cmp3 a b := by rw [this]; simp
             simp; omega

end Go.Proofs.Ytkdjcikilabehaa
