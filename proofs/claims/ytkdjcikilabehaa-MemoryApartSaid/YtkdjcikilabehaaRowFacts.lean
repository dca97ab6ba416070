/- Facts on worlds for rows of one-cell elements: a slice value that reads as a list, its parts, a new row that was made. No walk. -/
import Derived.Test.YtkdjcikilabehaaRows
import Derived.WalkKit
import Derived.OneCell
import Derived.Lib.Hide
import Derived.OwnWalk
import Derived.ArgAppend
import Derived.Laws.CopyOwn
import Derived.WalkSmall
namespace Go.Proofs.Ytkdjcikilabehaa
open Go.RowKit

/-- A slice value that reads as the list xs; an element has one cell. -/
def Rd (w : World) (v : Value) (xs : List Value) : Prop :=
  ∃ ao c, v = .slice ao xs.length c ∧ xs.length ≤ c ∧ c ≤ 9223372036854775807 ∧ (xs ≠ [] → ∃ g o, ao = some ⟨g, o, none⟩ ∧ ∀ j (h : j < xs.length), w.cell? ⟨g, o + j, none⟩ = some xs[j])

theorem Rd.nil (w : World) : Rd w (.slice none 0 0) [] := ⟨none, 0, rfl, Nat.le_refl _, by omega, fun h => absurd rfl h⟩

theorem Rd.keep {w w' : World} {v : Value} {xs : List Value} (h : Rd w v xs) (hb : Below w.heap.size w w') : Rd w' v xs := by
  obtain ⟨ao, c, h1, h2, h3, h4⟩ := h
  refine ⟨ao, c, h1, h2, h3, fun hne => ?_⟩
  obtain ⟨g, o, e, hc⟩ := h4 hne
  refine ⟨g, o, e, fun j hj => ?_⟩
  have hlt : g < w.heap.size := World.block_lt_of_cell? w _ (hc j hj)
  rw [hb.cell (p := ⟨g, o + j, none⟩) hlt]
  exact hc j hj

/-- Its cells, and its value opened. -/
theorem Rd.take {w : World} {ao : Option Addr} {n c : Nat} {xs : List Value} (h : Rd w (.slice ao n c) xs) (k : Nat) (hk : k ≤ n) : Rd w (.slice ao k c) (xs.take k) := by
  obtain ⟨ao', c', h1, h2, h3, h4⟩ := h
  injection h1 with e1 e2 e3
  subst e1 e3
  have hl : (xs.take k).length = k := by rw [List.length_take]; omega
  refine ⟨ao, c, by rw [hl], by omega, h3, fun hne => ?_⟩
  have hne2 : xs ≠ [] := by intro e; rw [e] at hne; simp at hne
  obtain ⟨g, o, e, hc⟩ := h4 hne2
  refine ⟨g, o, e, fun j hj => ?_⟩
  rw [List.getElem_take]
  exact hc j (by omega)

theorem Rd.drop {w : World} {ao : Option Addr} {n c : Nat} {xs : List Value} (h : Rd w (.slice ao n c) xs) (k : Nat) (hk : k ≤ n) (ao2 : Option Addr) (h2 : k < n → ao2 = ao.map fun x => x.add k) : Rd w (.slice ao2 (n - k) (c - k)) (xs.drop k) := by
  obtain ⟨ao', c', h1, h2', h3, h4⟩ := h
  injection h1 with e1 e2 e3
  subst e1 e3
  have hl : (xs.drop k).length = n - k := by rw [List.length_drop]; omega
  refine ⟨ao2, c - k, by rw [hl], by omega, by omega, fun hne => ?_⟩
  have hlt : k < n := by
    have := List.length_pos_iff.2 hne
    omega
  have hne2 : xs ≠ [] := by intro e; rw [e] at hne; simp at hne
  obtain ⟨g, o, e, hc⟩ := h4 hne2
  have hadd : (⟨g, o, none⟩ : Addr).add k = ⟨g, o + k, none⟩ := by
    by_cases h : k = 0
    · subst h; simp [Addr.add]
    · simp [Addr.add, h]
  refine ⟨g, o + k, by rw [h2 hlt, e, Option.map_some, hadd], fun j hj => ?_⟩
  have := hc (k + j) (by omega)
  rw [Nat.add_assoc, this, List.getElem_drop]

theorem Rd.len {w : World} {ao : Option Addr} {n c : Nat} {xs : List Value} (h : Rd w (.slice ao n c) xs) : xs.length = n ∧ n ≤ c ∧ c ≤ 9223372036854775807 := by
  obtain ⟨ao', c', h1, h2, h3, h4⟩ := h
  injection h1 with e1 e2 e3
  omega

theorem Rd.open {w : World} {v : Value} {xs : List Value} (h : Rd w v xs) : ∃ ao c, v = .slice ao xs.length c := by
  obtain ⟨ao, c, h1, _⟩ := h
  exact ⟨ao, c, h1⟩

/-- The cells behind its address, as a copy asks for them. -/
theorem Rd.src {w : World} {ao : Option Addr} {n c : Nat} {xs : List Value} (h : Rd w (.slice ao n c) xs) (hp : 0 < xs.length) : ∃ ad, ao = some ad ∧ ∀ j v, xs[j]? = some v → w.cell? (ad.add j) = some v := by
  obtain ⟨ao', c', h1, h2, h3, h4⟩ := h
  injection h1 with e1 e2 e3
  subst e1
  obtain ⟨g, o, e, hc⟩ := h4 (by intro e; rw [e] at hp; simp at hp)
  refine ⟨_, e, fun j v hv => ?_⟩
  obtain ⟨hj, rfl⟩ := List.getElem?_eq_some_iff.1 hv
  have hadd : (⟨g, o, none⟩ : Addr).add j = ⟨g, o + j, none⟩ := by
    by_cases h : j = 0
    · subst h; simp [Addr.add]
    · simp [Addr.add, h]
  rw [hadd]
  exact hc j hj

/-- A row that lies whole in a block of its own. -/
def Whole (w : World) (e : TypeId) (g : Nat) (xs : List Value) : Prop := w.heap[g]? = some (.cells xs.toArray e (0, 0))

theorem Whole.cell {w : World} {e : TypeId} {g : Nat} {xs : List Value} (h : Whole w e g xs) (j : Nat) : w.cell? ⟨g, j, none⟩ = xs[j]? := by
  unfold Whole at h
  simp [World.cell?, h]

theorem Whole.rd {w : World} {e : TypeId} {g : Nat} {xs : List Value} (h : Whole w e g xs) (hl : xs.length ≤ 9223372036854775807) : Rd w (.slice (some ⟨g, 0, none⟩) xs.length xs.length) xs := by
  refine ⟨_, _, rfl, Nat.le_refl _, hl, fun _ => ⟨g, 0, rfl, fun j hj => ?_⟩⟩
  rw [Nat.zero_add, h.cell, List.getElem?_eq_getElem hj]

theorem Whole.keep {w w' : World} {e : TypeId} {g : Nat} {xs : List Value} (h : Whole w e g xs) (hb : Below w.heap.size w w') : Whole w' e g xs := by
  unfold Whole at *
  rw [hb.block g (lt_of_block h)]
  exact h

/-- A new row that reads as xs, and nothing that was there has turned. -/
def Made (w w' : World) (e : TypeId) (v : Value) (xs : List Value) : Prop :=
  ∃ g, v = .slice (some ⟨g, 0, none⟩) xs.length xs.length ∧ w.heap.size ≤ g ∧ Whole w' e g xs ∧ Below w.heap.size w w'

theorem Made.rd {w w' : World} {e : TypeId} {v : Value} {xs : List Value} (h : Made w w' e v xs) (hl : xs.length ≤ 9223372036854775807) : Rd w' v xs := by
  obtain ⟨g, rfl, _, h2, _⟩ := h
  exact h2.rd hl

theorem Made.below {w w' : World} {e : TypeId} {v : Value} {xs : List Value} (h : Made w w' e v xs) : Below w.heap.size w w' := by
  obtain ⟨g, _, _, _, h⟩ := h
  exact h

/-- What make lays is a row whole. -/
theorem whole_of_owns {w : World} {base n : Nat} {e : TypeId} {g : Nat} {xs : List Value} (h : w.ownsRow base e 1 (.slice (some ⟨g, 0, none⟩) n n) n xs) : Whole w e g xs ∧ xs.length = n := by
  obtain ⟨h1, h2⟩ := h
  rcases h2 with ⟨h3, _⟩ | ⟨g', cap, cur, h3, h4, h5, h6, h7, h8, h9⟩
  · cases h3
  · injection h3 with e1 e2 e3
    injection e1 with e1
    injection e1 with e1 _ _
    subst e1 e3
    refine ⟨?_, by omega⟩
    unfold Whole
    rw [h5]
    have : xs.toArray = cur := by
      rw [← h9, Nat.mul_one]
      have : cur.toList.take n = cur.toList := List.take_of_length_le (by simp; omega)
      rw [this]
    rw [this]

theorem rd_of_owns {w : World} {base n : Nat} {e : TypeId} {v : Value} {xs : List Value} (h : w.ownsRow base e 1 v n xs) : Rd w v xs := by
  obtain ⟨h1, h2⟩ := h
  rcases h2 with ⟨rfl, rfl⟩ | ⟨g, cap, cur, rfl, h4, h5, h6, h7, h8, h9⟩
  · have : xs = [] := List.eq_nil_of_length_eq_zero (by omega)
    subst this
    exact Rd.nil w
  · have hx : xs.length = n := by omega
    unfold maxLen at h7
    refine ⟨_, cap, by rw [hx], by omega, h7, fun _ => ⟨g, 0, rfl, fun j hj => ?_⟩⟩
    rw [Nat.zero_add]
    have hj2 : j < cur.toList.length := by simp; omega
    have : xs[j] = cur.toList[j] := by
      have : xs[j]? = (cur.toList.take (n * 1))[j]? := by rw [h9]
      rw [List.getElem?_eq_getElem hj, List.getElem?_take_of_lt (by omega), List.getElem?_eq_getElem hj2] at this
      simpa using this
    simp only [World.cell?, h5]
    rw [this]
    simp

theorem splice_next {α : Type} (X Y Z : List α) : splice (X ++ Z) X.length Y = (X ++ Y) ++ Z.drop Y.length := by
  unfold splice
  rw [List.take_append_of_le_length (Nat.le_refl _), List.take_of_length_le (Nat.le_refl _), List.drop_append]
  simp [List.append_assoc]

theorem one_alloc (w : World) (o : Obj) : (w.alloc o).heap[w.heap.size]? = some o ∧ Below w.heap.size w (w.alloc o) :=
  ⟨heap_alloc_new _ _, (Below.refl _ _).alloc (Nat.le_refl _) _⟩

theorem two_alloc (w : World) (o1 o2 : Obj) : ((w.alloc o1).alloc o2).drew.heap[w.heap.size]? = some o1 ∧ ((w.alloc o1).alloc o2).drew.heap[w.heap.size + 1]? = some o2 ∧ Below w.heap.size w ((w.alloc o1).alloc o2).drew := by
  have hs : (w.alloc o1).heap.size = w.heap.size + 1 := by simp
  refine ⟨?_, ?_, (((Below.refl _ _).alloc (Nat.le_refl _) _).alloc (by simp) _).drew⟩
  · show ((w.alloc o1).alloc o2).heap[w.heap.size]? = _
    rw [Below.heap_alloc _ _ _ (by omega)]
    exact heap_alloc_new _ _
  · show ((w.alloc o1).alloc o2).heap[w.heap.size + 1]? = _
    rw [← hs]
    exact heap_alloc_new _ _

theorem drew_heap (w : World) : w.drew.heap = w.heap := rfl
end Go.Proofs.Ytkdjcikilabehaa
