/- leafs.isLeaf, the document's Leaf; a node with a key more, and without it, as plain functions. Condition: sizes that fit. -/
import Derived.Test.YtlcnnnljdffbmaaNods
import Derived.Test.YtlcnnnljdffbmaaFindW
namespace Go.Proofs.Ytlcnnnljdffbmaa
open Go.RowKit

def Nod.Leaf (n : Nod) : Prop := n.lv = 0 ∧ n.Sound 64

/-- Where a key is, or would be. -/
def placeF (ks : List ByteArray) (k : ByteArray) : Nat := ks.findIdx fun x => !lss x.data.toList k.data.toList
theorem edge_place {ks : List ByteArray} (h : Rises ks) (k : ByteArray) : Edge ks.length (placeF ks k) (pFind ks k) := by
  have hle : placeF ks k ≤ ks.length := List.findIdx_le_length
  refine ⟨hle, fun i hi => ?_, fun i h1 h2 => ?_⟩
  · have := List.not_of_lt_findIdx hi
    unfold pFind
    rw [nth_eq (by omega)]
    simpa using this
  · have h3 : placeF ks k < ks.length := by omega
    have h4 := List.findIdx_getElem (xs := ks) (p := fun (x : ByteArray) => !lss x.data.toList k.data.toList) (w := h3)
    refine rises_find h k (placeF ks k) i h1 h2 ?_
    unfold pFind
    rw [nth_eq h3]
    exact h4

def thereF (ks : List ByteArray) (k : ByteArray) : Prop := placeF ks k < ks.length ∧ nth ks (placeF ks k) = k
instance (ks : List ByteArray) (k : ByteArray) : Decidable (thereF ks k) := by unfold thereF; infer_instance
def insF {α : Type} (xs : List α) (a : Nat) (x : α) : List α := xs.take a ++ x :: xs.drop a
def cutF {α : Type} (xs : List α) (a : Nat) : List α := xs.take a ++ xs.drop (a + 1)
def Nod.with (n : Nod) (k : ByteArray) (v : Nat) : Nod :=
  if thereF n.ks k then { n with vs := n.vs.set (placeF n.ks k) v } else { n with ks := insF n.ks (placeF n.ks k) k, vs := insF n.vs (placeF n.ks k) v }
def Nod.without (n : Nod) (k : ByteArray) : Nod := { n with ks := cutF n.ks (placeF n.ks k), vs := cutF n.vs (placeF n.ks k) }
theorem insF_len {α : Type} {xs : List α} {a : Nat} (h : a ≤ xs.length) (x : α) : (insF xs a x).length = xs.length + 1 := by
  unfold insF; rw [List.length_append, List.length_cons, List.length_take, List.length_drop]; omega
theorem cutF_len {α : Type} {xs : List α} {a : Nat} (h : a < xs.length) : (cutF xs a).length = xs.length - 1 := by
  unfold cutF; rw [List.length_append, List.length_take, List.length_drop]; omega
theorem insF_map {α β : Type} (f : α → β) (xs : List α) (a : Nat) (x : α) : (insF xs a x).map f = (xs.map f).take a ++ f x :: (xs.map f).drop a := by
  unfold insF; simp [List.map_take, List.map_drop]
theorem cutF_map {α β : Type} (f : α → β) (xs : List α) (a : Nat) : (cutF xs a).map f = (xs.map f).take a ++ (xs.map f).drop (a + 1) := by
  unfold cutF; simp [List.map_take, List.map_drop]
end Go.Proofs.Ytlcnnnljdffbmaa
