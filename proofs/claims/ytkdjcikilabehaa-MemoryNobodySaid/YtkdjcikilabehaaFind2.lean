/- sorted.Find, Floor, Below, Rising and bowerref04.Rising, Has on rows of texts: what they tell; nothing that was there has turned. Conditions: at most 2^38 texts, each of at most 2^47 bytes; of Find, Floor and Below: the row rises. -/
import Derived.Test.YtkdjcikilabehaaFind
import Derived.IntWalk
namespace Go.Proofs.Ytkdjcikilabehaa
open Go.RowKit

/-- The text at a place. -/
def nth (xs : List ByteArray) (i : Nat) : ByteArray := xs.getD i ⟨#[]⟩

theorem nth_eq {xs : List ByteArray} {i : Nat} (h : i < xs.length) : nth xs i = xs[i] := by
  unfold nth
  rw [List.getD_eq_getElem?_getD, List.getElem?_eq_getElem h]; rfl

theorem text_ne {a b : ByteArray} (h : a ≠ b) : (a.toList == b.toList) = false := by
  rw [beq_eq_false_iff_ne, ByteArray.toList_eq, ByteArray.toList_eq]
  intro e
  apply h
  apply ByteArray.ext
  apply Array.ext'
  exact e
theorem text_eq {a b : ByteArray} (h : a = b) : (a.toList == b.toList) = true := by rw [h]; simp
theorem text_of {a b : ByteArray} (h : a.data.toList = b.data.toList) : a = b := by
  apply ByteArray.ext
  apply Array.ext'
  exact h

/-- The cell at a place of a row of texts. -/
theorem Rd.text {w : World} {ao : Option Addr} {n c : Nat} {xs : List ByteArray} (h : Rd w (.slice ao n c) (xs.map Value.string)) (i : Nat) (hi : i < n) :
    ∃ g o, ao = some ⟨g, o, none⟩ ∧ w.cell? ⟨g, o + i, none⟩ = some (.string (nth xs i)) ∧ i < xs.length ∧ ∀ j, j < n → w.cell? ⟨g, o + j, none⟩ = some (.string (nth xs j)) := by
  have hl := h.len
  rw [List.length_map] at hl
  obtain ⟨ao', c', h1, h2, h3, h4⟩ := h
  injection h1 with e1 e2 e3
  subst e1
  obtain ⟨g, o, e, hc⟩ := h4 (by intro h; have := congrArg List.length h; simp at this; subst this; simp at hl; omega)
  have all : ∀ j, j < n → w.cell? ⟨g, o + j, none⟩ = some (.string (nth xs j)) := fun j hj => by
    have hj2 : j < xs.length := by omega
    have := hc j (by simpa using hj2)
    rw [this, nth_eq hj2]
    simp
  exact ⟨g, o, e, all i hi, by omega, all⟩

theorem Rd.texts {w : World} {ao : Option Addr} {n c : Nat} {xs : List ByteArray} (h : Rd w (.slice ao n c) (xs.map Value.string)) : xs.length = n := by
  have hl := h.len
  rw [List.length_map] at hl
  exact hl.1

def pFind (xs : List ByteArray) (k : ByteArray) (i : Nat) : Bool := !lss (nth xs i).data.toList k.data.toList
def pFloor (xs : List ByteArray) (k : ByteArray) (i : Nat) : Bool := lss k.data.toList (nth xs i).data.toList

def FindDone (w w' : World) (e : Ending) (xs : List ByteArray) (k : ByteArray) : Prop :=
  ∃ (at_ : Nat) (is : Bool), e = .returned (.tuple #[.int .i64 (at_ : Nat), .bool is]) ∧ Edge xs.length at_ (pFind xs k) ∧ (is = true ↔ at_ < xs.length ∧ nth xs at_ = k) ∧ Below w.heap.size w w'

theorem rises_find {xs : List ByteArray} (h : Rises xs) (k : ByteArray) : ∀ a b, a ≤ b → b < xs.length → pFind xs k a = true → pFind xs k b = true := by
  intro a b hab hb ha
  unfold pFind at *
  rw [nth_eq hb]
  rw [nth_eq (by omega)] at ha
  by_cases e : a = b
  · subst e; exact ha
  · have h1 := h.lt a b (by omega) hb
    have h2 : lss xs[a].data.toList k.data.toList = false := by simpa using ha
    by_cases g : lss xs[b].data.toList k.data.toList = true
    · have := lss_trans _ _ _ h1 g
      rw [h2] at this; cases this
    · simpa using g

theorem rises_floor {xs : List ByteArray} (h : Rises xs) (k : ByteArray) : ∀ a b, a ≤ b → b < xs.length → pFloor xs k a = true → pFloor xs k b = true := by
  intro a b hab hb ha
  unfold pFloor at *
  rw [nth_eq hb]
  rw [nth_eq (by omega)] at ha
  by_cases e : a = b
  · subst e; exact ha
  · exact lss_trans _ _ _ ha (h.lt a b (by omega) hb)

theorem cell_of_heap {w : World} {b o : Nat} {cs : Array Value} {t : TypeId} {z : Nat × Nat} (h : w.heap[b]? = some (.cells cs t z)) : w.cell? ⟨b, o, none⟩ = cs[o]? := by simp [World.cell?, h]

/-- The boxes of Find and Floor. -/
theorem boxes_new (w : World) (v : Value) (k : ByteArray) (xs : List ByteArray) (t1 t2 : TypeId) (hr : Rd w v (xs.map Value.string)) (hk : k.size ≤ 140737488355328) (hx : ∀ x ∈ xs, x.size ≤ 140737488355328) :
    Boxes ((w.alloc (.cells #[v] t1)).alloc (.cells #[.string k] t2)) w.heap.size (w.heap.size + 1) v k xs := by
  have hs : (w.alloc (.cells #[v] t1)).heap.size = w.heap.size + 1 := by simp
  refine ⟨?_, ?_, hr.keep (((Below.refl _ _).alloc (Nat.le_refl _) _).alloc (by simp) _), hk, hx⟩
  · have : ((w.alloc (.cells #[v] t1)).alloc (.cells #[.string k] t2)).heap[w.heap.size]? = some (.cells #[v] t1 (0, 0)) := by
      rw [Below.heap_alloc _ _ _ (by omega)]
      exact heap_alloc_new _ _
    rw [cell_of_heap this]
    rfl
  · have : ((w.alloc (.cells #[v] t1)).alloc (.cells #[.string k] t2)).heap[w.heap.size + 1]? = some (.cells #[.string k] t2 (0, 0)) := by
      rw [← hs]
      exact heap_alloc_new _ _
    rw [cell_of_heap this]
    rfl

theorem boxes_below (w : World) (o1 o2 : Obj) : Below w.heap.size w ((w.alloc o1).alloc o2) := ((Below.refl _ _).alloc (Nat.le_refl _) _).alloc (by simp) _

def FloorDone (w w' : World) (e : Ending) (xs : List ByteArray) (k : ByteArray) : Prop :=
  ∃ (at_ : Nat), e = .returned (.int .i64 ((at_ : Int) - 1)) ∧ Edge xs.length at_ (pFloor xs k) ∧ Below w.heap.size w w'

def BelowDone (w w' : World) (e : Ending) (xs : List ByteArray) (k : ByteArray) : Prop :=
  ∃ (at_ : Nat), e = .returned (.int .i64 ((at_ : Int) - 1)) ∧ Edge xs.length at_ (pFind xs k) ∧ Below w.heap.size w w'

/-- Does each text stand ahead of a greater one, up to a place? -/
theorem rises_up {xs : List ByteArray} {k : Nat} (h : ∀ i, i + 1 < k → lss (nth xs i).data.toList (nth xs (i + 1)).data.toList = true) (hk : xs.length ≤ k) : Rises xs := by
  intro i hi
  have := h i (by omega)
  rw [nth_eq (by omega), nth_eq hi] at this
  exact this

end Go.Proofs.Ytkdjcikilabehaa
