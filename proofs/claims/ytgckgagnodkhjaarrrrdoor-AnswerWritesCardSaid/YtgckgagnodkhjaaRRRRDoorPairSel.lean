/- bowerref06.Next and Prev on rows of pairs: the best pair of those that are meant. Conditions: at most 2^38 pairs, texts of at most 2^47 bytes. -/
import Derived.Test.YtgckgagnodkhjaaRRRRDoorPairRef
import Derived.WalkSmall
namespace Go.Proofs.YtgckgagnodkhjaaRRRRDoor
open Go.RowKit

/-- The best pair of those that are meant. -/
def beats (bt : ByteArray → ByteArray → Bool) (p : ByteArray × Int) : Option (ByteArray × Int) → Bool
  | none => true
  | some b => bt p.1 b.1
def selStep (c : ByteArray → Bool) (bt : ByteArray → ByteArray → Bool) (best : Option (ByteArray × Int)) (p : ByteArray × Int) : Option (ByteArray × Int) :=
  if c p.1 && beats bt p best then some p else best
def selP (c : ByteArray → Bool) (bt : ByteArray → ByteArray → Bool) (ps : List (ByteArray × Int)) : Option (ByteArray × Int) := ps.foldl (selStep c bt) none

theorem selP_step (c : ByteArray → Bool) (bt : ByteArray → ByteArray → Bool) (ps : List (ByteArray × Int)) (i : Nat) (hi : i < ps.length) : selP c bt (ps.take (i + 1)) = selStep c bt (selP c bt (ps.take i)) (ntp ps i) := by
  unfold selP
  rw [List.take_succ_eq_append_getElem hi, List.foldl_append, ntp_eq hi]
  rfl

theorem selStep_some (c : ByteArray → Bool) (bt : ByteArray → ByteArray → Bool) (best : Option (ByteArray × Int)) (p b : ByteArray × Int) (h : selStep c bt best p = some b) : best = some b ∨ (p = b ∧ c b.1 = true) := by
  unfold selStep at h
  by_cases hc : (c p.1 && beats bt p best) = true
  · rw [if_pos hc] at h
    injection h with h
    subst h
    simp only [Bool.and_eq_true] at hc
    exact Or.inr ⟨rfl, hc.1⟩
  · rw [if_neg hc] at h
    exact Or.inl h

theorem selP_mem (c : ByteArray → Bool) (bt : ByteArray → ByteArray → Bool) (ps : List (ByteArray × Int)) : ∀ b, selP c bt ps = some b → b ∈ ps ∧ c b.1 = true := by
  unfold selP
  suffices h : ∀ (best : Option (ByteArray × Int)) b, ps.foldl (selStep c bt) best = some b → (best = some b) ∨ (b ∈ ps ∧ c b.1 = true) by
    intro b hb
    rcases h none b hb with h | h
    · cases h
    · exact h
  induction ps with
  | nil => intro best b h; exact Or.inl h
  | cons p ps ih =>
    intro best b h
    rw [List.foldl_cons] at h
    rcases ih _ _ h with h1 | h1
    · rcases selStep_some c bt best p b h1 with h2 | ⟨rfl, h2⟩
      · exact Or.inl h2
      · exact Or.inr ⟨List.mem_cons_self, h2⟩
    · exact Or.inr ⟨List.mem_cons_of_mem _ h1.1, h1.2⟩

/-- What stands in 'ok' and 'best'. -/
def Sel (c : ByteArray → Bool) (bt : ByteArray → ByteArray → Bool) (ps : List (ByteArray × Int)) (b : Bool) (p : ByteArray × Int) : Prop :=
  (b = false ∧ p = (⟨#[]⟩, 0) ∧ selP c bt ps = none) ∨ (b = true ∧ selP c bt ps = some p)

/-- A pair in a block of its own. -/
def Two (w : World) (g : Nat) (p : ByteArray × Int) : Prop := w.heap[g]? = some (.cells #[.string p.1, .int .u64 p.2] 32 (0, 0))

theorem Two.c0 {w : World} {g : Nat} {p : ByteArray × Int} (h : Two w g p) : w.cell? ⟨g, 0, none⟩ = some (.string p.1) := by unfold Two at h; simp [World.cell?, h]
theorem Two.c1 {w : World} {g : Nat} {p : ByteArray × Int} (h : Two w g p) : w.cell? ⟨g, 1, none⟩ = some (.int .u64 p.2) := by unfold Two at h; simp [World.cell?, h]
theorem Two.f {w : World} {g i : Nat} {p : ByteArray × Int} (h : Two w g p) : w.frozen? ⟨g, i, none⟩ = false := by unfold Two at h; simp [World.frozen?, h]
theorem Two.drew {w w' : World} {g : Nat} {p : ByteArray × Int} (h : Two w g p) (hd : Drew w w') : Two w' g p := by obtain ⟨q, rfl⟩ := hd; exact h
theorem Two.set {w : World} {g : Nat} {p q : ByteArray × Int} (h : Two w g p) : Two ((w.setCell ⟨g, 0, none⟩ (.string q.1)).setCell ⟨g, 1, none⟩ (.int .u64 q.2)) g q := by
  unfold Two at *
  have h1 : (w.setCell ⟨g, 0, none⟩ (.string q.1)).heap[g]? = some (.cells #[.string q.1, .int .u64 p.2] 32 (0, 0)) := by
    have hlt := lt_of_block h
    have h' : w.heap[g] = .cells #[.string p.1, .int .u64 p.2] 32 (0, 0) := by simpa [Array.getElem?_eq_getElem hlt] using h
    show (w.heap.modify g _)[g]? = _
    rw [Array.getElem?_eq_getElem (by simpa using hlt), Array.getElem_modify_self, h']
    rfl
  generalize w.setCell ⟨g, 0, none⟩ (.string q.1) = w1 at *
  have hlt := lt_of_block h1
  have h' : w1.heap[g] = .cells #[.string q.1, .int .u64 p.2] 32 (0, 0) := by simpa [Array.getElem?_eq_getElem hlt] using h1
  show (w1.heap.modify g _)[g]? = _
  rw [Array.getElem?_eq_getElem (by simpa using hlt), Array.getElem_modify_self, h']
  rfl
theorem Two.far {w : World} {g g' : Nat} {p : ByteArray × Int} {i : Nat} {u : Value} (h : Two w g p) (hne : g ≠ g') : Two (w.setCell ⟨g', i, none⟩ u) g p := by
  unfold Two at *
  rw [Below.heap_setCell _ _ _ _ hne]
  exact h

theorem drew_below {w w' : World} (h : Drew w w') (B : Nat) : Below B w w' := by
  obtain ⟨q, rfl⟩ := h
  exact below_drewN (Below.refl _ _) _

/-- What is told: the best one, or the zero pair. -/
def SelGives (w w' : World) (e : Ending) (r : Option (ByteArray × Int)) : Prop :=
  ∃ (b : Bool) (p : ByteArray × Int), e = .returned (.tuple #[.agg #[.string p.1, .int .u64 p.2], .bool b]) ∧ ((b = false ∧ p = (⟨#[]⟩, 0) ∧ r = none) ∨ (b = true ∧ r = some p)) ∧ Below w.heap.size w w'

def nextC  (k : ByteArray) : ByteArray → Bool := fun x => lss k.data.toList x.data.toList
def nextB : ByteArray → ByteArray → Bool := fun x b => lss x.data.toList b.data.toList

end Go.Proofs.YtgckgagnodkhjaaRRRRDoor
