/- node's small calls: isKey, isCell, Covers, Beneath, kidAt, every, areKids; slices.Index and Contains; the document's Key and Cell. Condition: texts of at most 2^47 bytes. -/
import Derived.Test.YtkdjcikilabehaaFind2
import Derived.Test.YtkdjcikilabehaaNodeKey
import Derived.Deep.RegionHeldLaw
namespace Go.Proofs.Ytkdjcikilabehaa
open Go.RowKit

section
variable {α : Type} {w : World} {ao : Option Addr} {n c : Nat} {f : α → Value} {xs : List α}
theorem rd_len (h : Rd w (.slice ao n c) (xs.map f)) : xs.length = n ∧ n ≤ c ∧ c ≤ 9223372036854775807 := by
  have := h.len
  rw [List.length_map] at this
  exact this
theorem rd_at (h : Rd w (.slice ao n c) (xs.map f)) (d : α) (i : Nat) (hi : i < n) : ∃ g o, ao = some ⟨g, o, none⟩ ∧ ∀ j, j < n → w.cell? ⟨g, o + j, none⟩ = some (f (xs.getD j d)) := by
  have hl := rd_len h
  obtain ⟨ao', c', h1, h2, h3, h4⟩ := h
  injection h1 with e1 e2 e3
  subst e1
  obtain ⟨g, o, e, hc⟩ := h4 (by intro e; have := congrArg List.length e; simp at this; subst this; simp at hl; omega)
  refine ⟨g, o, e, fun j hj => ?_⟩
  have h6 := hc j (by rw [List.length_map]; omega)
  rw [h6, List.getElem_map, List.getD_eq_getElem?_getD, List.getElem?_eq_getElem (by omega)]; rfl
end
def ni (zs : List Int) (i : Nat) : Int := zs.getD i 0
def nu (us : List Nat) (i : Nat) : Nat := us.getD i 0
theorem ni_eq {zs : List Int} {i : Nat} (h : i < zs.length) : ni zs i = zs[i] := by
  unfold ni; rw [List.getD_eq_getElem?_getD, List.getElem?_eq_getElem h]; rfl
theorem nu_eq {us : List Nat} {i : Nat} (h : i < us.length) : nu us i = us[i] := by
  unfold nu; rw [List.getD_eq_getElem?_getD, List.getElem?_eq_getElem h]; rfl
def uv (n : Nat) : Value := .int .u64 (n : Nat)

/-- A node's box. -/
def NB (V : World) (A : Nat) (cs : Array Value) : Prop := V.heap[A]? = some (.cells cs 33 (0, 0))
section
variable {V V' : World} {A : Nat} (lv nx : Int) (lo hi : ByteArray) (la : Bool) (ak av ac : Option Addr) (nk ck nv cv nc cc : Nat)
theorem NB.below {cs : Array Value} (h : NB V A cs) (hb : Below V.heap.size V V') : NB V' A cs := (hb.block A (lt_of_block h)).trans h
theorem NB.new (V : World) (cs : Array Value) : NB (V.alloc (.cells cs 33)) V.heap.size cs := heap_alloc_new V _
theorem NB.cells (h : NB V A #[.int .i64 lv, .string lo, .string hi, .bool la, .int .i64 nx, .slice ak nk ck, .slice av nv cv, .slice ac nc cc]) : (V.cell? ⟨A, 0, none⟩ = some (.int .i64 lv) ∧ V.cell? ⟨A, 1, none⟩ = some (.string lo) ∧ V.cell? ⟨A, 2, none⟩ = some (.string hi) ∧ V.cell? ⟨A, 3, none⟩ = some (.bool la) ∧ V.cell? ⟨A, 4, none⟩ = some (.int .i64 nx) ∧ V.cell? ⟨A, 5, none⟩ = some (.slice ak nk ck) ∧ V.cell? ⟨A, 6, none⟩ = some (.slice av nv cv) ∧ V.cell? ⟨A, 7, none⟩ = some (.slice ac nc cc)) :=
  ⟨cell_of_heap h, cell_of_heap h, cell_of_heap h, cell_of_heap h, cell_of_heap h, cell_of_heap h, cell_of_heap h, cell_of_heap h⟩
end

/-- A node's rows. -/
structure NdAt (w : World) (ak av ac : Option Addr) (nk ck nv cv nc cc : Nat) (ks : List ByteArray) (vs : List Nat) (cs : List Int) : Prop where
  k : Rd w (.slice ak nk ck) (ks.map Value.string)
  v : Rd w (.slice av nv cv) (vs.map uv)
  c : Rd w (.slice ac nc cc) (cs.map (Value.int .i64))
theorem NdAt.keep {w w' : World} {ak av ac : Option Addr} {nk ck nv cv nc cc : Nat} {ks : List ByteArray} {vs : List Nat} {cs : List Int} (h : NdAt w ak av ac nk ck nv cv nc cc ks vs cs) (hb : Below w.heap.size w w') : NdAt w' ak av ac nk ck nv cv nc cc ks vs cs :=
  ⟨h.k.keep hb, h.v.keep hb, h.c.keep hb⟩

def keyB (k : ByteArray) : Bool := decide (1 ≤ k.size ∧ k.size ≤ 64)
def cellB (c : Int) : Bool := decide (0 ≤ c ∧ c < 8192)
theorem keyB_iff (k : ByteArray) : keyB k = true ↔ 1 ≤ k.size ∧ k.size ≤ 64 := by unfold keyB; rw [decide_eq_true_iff]
theorem cellB_iff (c : Int) : cellB c = true ↔ 0 ≤ c ∧ c < 8192 := by unfold cellB; rw [decide_eq_true_iff]
theorem bool_no {b : Bool} {p : Prop} (h : b = true ↔ p) (hn : ¬ p) : b = false := by
  cases b with
  | false => rfl
  | true => exact absurd (h.1 rfl) hn

/-- every, of keys. -/
def EveryGives (w w' : World) (e : Ending) (p : Prop) : Prop := ∃ r : Bool, e = .returned (.bool r) ∧ (r = true ↔ p) ∧ Below w.heap.size w w'
end Go.Proofs.Ytkdjcikilabehaa
