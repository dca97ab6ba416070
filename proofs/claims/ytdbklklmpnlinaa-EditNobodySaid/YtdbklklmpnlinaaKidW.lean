/- node.Kid, node.KidBelow of any node: a kid of it, or none; of an inner one whose keys rise the document's. Conditions: sizes that fit. -/
import Derived.Test.YtdbklklmpnlinaaFindW
import Derived.Test.YtdbklklmpnlinaaNodeKids
namespace Go.Proofs.Ytdbklklmpnlinaa
open Go.RowKit

def FloorIn (w w' : World) (e : Ending) (xs : List ByteArray) : Prop := ∃ at_ : Nat, e = .returned (.int .i64 ((at_ : Int) - 1)) ∧ at_ ≤ xs.length ∧ Below w.heap.size w w'
/-- The last place of which it holds. -/
def lastI (p : Nat → Bool) : Nat → Option Nat
  | 0 => none
  | n + 1 => if p n = true then some n else lastI p n
theorem lastI_none {p : Nat → Bool} {n : Nat} (h : ∀ i, i < n → p i = false) : lastI p n = none := by
  induction n with
  | zero => rfl
  | succ n ih =>
    unfold lastI
    rw [if_neg (by rw [h n (by omega)]; simp)]
    exact ih (fun i hi => h i (by omega))
theorem lastI_some {p : Nat → Bool} {n a : Nat} (ha : a < n) (hp : p a = true) (h : ∀ i, a < i → i < n → p i = false) : lastI p n = some a := by
  induction n with
  | zero => omega
  | succ n ih =>
    unfold lastI
    by_cases e : a = n
    · subst e
      rw [if_pos hp]
    · rw [if_neg (by rw [h n (by omega) (by omega)]; simp)]
      exact ih (by omega) (fun i h1 h2 => h i h1 (by omega))
theorem lastI_edge {q : Nat → Bool} {n a : Nat} (h : Edge n a q) : lastI (fun i => !q i) n = if a = 0 then none else some (a - 1) := by
  by_cases ha : a = 0
  · rw [if_pos ha]
    exact lastI_none (fun i hi => by rw [h.2.2 i (by omega) hi]; rfl)
  · rw [if_neg ha]
    exact lastI_some (by have := h.1; omega) (by rw [h.2.1 (a - 1) (by omega)]; rfl) (fun i h1 h2 => by rw [h.2.2 i (by omega) h2]; rfl)
/-- Is it for a text (below it) that a key stands where the kid may be? -/
def kidP (below : Bool) (ks : List ByteArray) (k : ByteArray) (i : Nat) : Bool := if below then !pFind ks k i else !pFloor ks k i
/-- The kid for a text, or below it: the document's. -/
def kidF (below : Bool) (ks : List ByteArray) (cs : List Int) (k : ByteArray) : Option Int := (lastI (kidP below ks k) (min ks.length cs.length)).map (ni cs)
/-- What Kid tells: a kid, or none; as the document says, of an inner node as it should be. -/
def KidSays (w w' : World) (e : Ending) (lv : Int) (ks : List ByteArray) (cs : List Int) (k : ByteArray) (below : Bool) : Prop :=
  ∃ (x : Int) (b : Bool), e = .returned (.tuple #[.int .i64 x, .bool b]) ∧ (b = true → ∃ j, j < cs.length ∧ x = ni cs j) ∧ (lv ≠ 0 → cs.length = ks.length → Rises ks → kidF below ks cs k = if b then some x else none) ∧ Below w.heap.size w w'
theorem kid_says {lv : Int} {ks : List ByteArray} {cs : List Int} {k : ByteArray} {below : Bool} {q : Nat → Bool} {a : Nat} {x : Int} {b : Bool} (hq : ∀ i, kidP below ks k i = !q i) (hE : Rises ks → Edge ks.length a q)
    (h1 : b = true → ∃ j : Nat, j < cs.length ∧ (a : Int) - 1 = j ∧ x = ni cs j) (h2 : b = false → lv = 0 ∨ (a : Int) - 1 < 0 ∨ (cs.length : Int) ≤ (a : Int) - 1) (h0 : lv ≠ 0) (hl : cs.length = ks.length) (hr : Rises ks) : kidF below ks cs k = if b then some x else none := by
  have hE' := hE hr
  have e1 : kidP below ks k = fun i => !q i := funext hq
  unfold kidF
  rw [e1, hl, Nat.min_self, lastI_edge hE']
  cases b with
  | true =>
    obtain ⟨j, hj, ha, hx⟩ := h1 rfl
    rw [if_neg (by omega), if_pos rfl, hx, show a - 1 = j by omega]
    rfl
  | false =>
    have := h2 rfl
    have := hE'.1
    rw [if_pos (by omega), if_neg (by simp)]
    rfl

end Go.Proofs.Ytdbklklmpnlinaa
