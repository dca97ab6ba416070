/- leafs.isLeaf, the document's Leaf; a node with a key more, and without it, as plain functions. Condition: sizes that fit. -/
import Derived.Test.YtnlghdkgejimpaaNods
import Derived.Test.YtnlghdkgejimpaaFindW
namespace Go.Proofs.Ytnlghdkgejimpaa
open Go.RowKit

def Nod.Leaf (n : Nod) : Prop := n.lv = 0 ∧ n.Sound 64

set_option maxHeartbeats 1000000 in
theorem isLeaf_of (lv nx : Int) (lo hi : ByteArray) (la : Bool) (ak av ac : Option Addr) (nk ck nv cv nc cc : Nat) (ks : List ByteArray) (vs : List Nat) (cs : List Int) (b : Bool) (w : World) (hN : NdAt w ak av ac nk ck nv cv nc cc ks vs cs) (hf : Fit lo hi ks nk nv nc) (hb : b = true ↔ lv = 0 ∧ SoundP lv nx lo hi la nk nv nc ks cs 64) :
    Calls Try.prog 46 #[.agg #[.int .i64 lv, .string lo, .string hi, .bool la, .int .i64 nx, .slice ak nk ck, .slice av nv cv, .slice ac nc cc]] w fun e w' => e = .returned (.bool b) ∧ Below w.heap.size w w' := by
  have HB := Lib.hid (boxed_below w (.cells #[.int .i64 lv, .string lo, .string hi, .bool la, .int .i64 nx, .slice ak nk ck, .slice av nv cv, .slice ac nc cc] 26))
  have HNB := Lib.hid (NB.new w #[.int .i64 lv, .string lo, .string hi, .bool la, .int .i64 nx, .slice ak nk ck, .slice av nv cv, .slice ac nc cc])
  obtain ⟨q0, q1, q2, q3, q4, q5, q6, q7⟩ := HNB.out.cells
  by_cases h0 : lv = 0
  · subst h0
    have HC := Lib.hid (fun W (h : Below w.heap.size w W) => check_of 0 nx lo hi la ak av ac nk ck nv cv nc cc ks vs cs 64 b W (hN.keep h) hf ⟨fun h => ⟨by omega, (hb.1 h).2⟩, fun h => hb.2 ⟨rfl, h.2⟩⟩)
    clear hN hf hb
    go_enter Try.func46, Try.ntmps46
    go_wp2_with fail
    refine (HC.out _ HB.out).mono ?_
    rintro e w2 ⟨c, rfl, hc, _, hb2⟩
    have HB2 := Lib.hid (HB.out.trans (hb2.mono HB.out.size))
    clear hb2
    go_wp2
    go_ret
    exact ⟨rfl, HB2.out⟩
  · have h1 : b = false := bool_no hb (fun h => h0 h.1)
    subst h1
    clear hN hf hb
    go_enter Try.func46, Try.ntmps46
    go_wp2
    go_ret
    exact ⟨rfl, HB.out⟩
set_option maxHeartbeats 1000000 in
theorem rleaf_of (lv nx : Int) (lo hi : ByteArray) (la : Bool) (ak av ac : Option Addr) (nk ck nv cv nc cc : Nat) (ks : List ByteArray) (vs : List Nat) (cs : List Int) (b : Bool) (w : World) (hN : NdAt w ak av ac nk ck nv cv nc cc ks vs cs) (hf : Fit lo hi ks nk nv nc) (hb : b = true ↔ lv = 0 ∧ SoundP lv nx lo hi la nk nv nc ks cs 64) :
    Calls Try.prog 21 #[.agg #[.int .i64 lv, .string lo, .string hi, .bool la, .int .i64 nx, .slice ak nk ck, .slice av nv cv, .slice ac nc cc]] w fun e w' => e = .returned (.bool b) ∧ Below w.heap.size w w' := by
  have HB := Lib.hid (boxed_below w (.cells #[.int .i64 lv, .string lo, .string hi, .bool la, .int .i64 nx, .slice ak nk ck, .slice av nv cv, .slice ac nc cc] 26))
  have HNB := Lib.hid (NB.new w #[.int .i64 lv, .string lo, .string hi, .bool la, .int .i64 nx, .slice ak nk ck, .slice av nv cv, .slice ac nc cc])
  obtain ⟨q0, q1, q2, q3, q4, q5, q6, q7⟩ := HNB.out.cells
  by_cases h0 : lv = 0
  · subst h0
    have HC := Lib.hid (fun W (h : Below w.heap.size w W) => rsound_of 0 nx lo hi la ak av ac nk ck nv cv nc cc ks vs cs 64 b W (hN.keep h) hf ⟨fun h => (hb.1 h).2, fun h => hb.2 ⟨rfl, h⟩⟩)
    clear hN hf hb
    go_enter Try.func21, Try.ntmps21
    go_wp2_with fail
    refine (HC.out _ HB.out).mono ?_
    rintro e w2 ⟨rfl, hb2⟩
    have HB2 := Lib.hid (HB.out.trans (hb2.mono HB.out.size))
    clear hb2
    go_wp2
    go_ret
    exact ⟨rfl, HB2.out⟩
  · have h1 : b = false := bool_no hb (fun h => h0 h.1)
    subst h1
    clear hN hf hb
    go_enter Try.func21, Try.ntmps21
    go_wp2
    go_ret
    exact ⟨rfl, HB.out⟩

/-- Where a key is, or would be. -/
def placeF (ks : List ByteArray) (k : ByteArray) : Nat := ks.findIdx fun x => !lss x.data.toList k.data.toList
theorem edge_place {ks : List ByteArray} (h : Rises ks) (k : ByteArray) : Edge ks.length (placeF ks k) (pFind ks k) := by
  have hle : placeF ks k ≤ ks.length := List.findIdx_le_length
  refine ⟨hle, fun i hi => ?_, fun i h1 h2 => ?_⟩
  · have := List.not_of_lt_findIdx hi
    unfold pFind
    rw [nth_eq (by omega)]
    simpa using this
  · have h3 : placeF ks k < ks.length := by omega
    have h4 := List.findIdx_getElem (xs := ks) (p := fun (x : ByteArray) => !lss x.data.toList k.data.toList) (w := h3)
    refine rises_find h k (placeF ks k) i h1 h2 ?_
    unfold pFind
    rw [nth_eq h3]
    exact h4

def thereF (ks : List ByteArray) (k : ByteArray) : Prop := placeF ks k < ks.length ∧ nth ks (placeF ks k) = k
instance (ks : List ByteArray) (k : ByteArray) : Decidable (thereF ks k) := by unfold thereF; infer_instance
def insF {α : Type} (xs : List α) (a : Nat) (x : α) : List α := xs.take a ++ x :: xs.drop a
def cutF {α : Type} (xs : List α) (a : Nat) : List α := xs.take a ++ xs.drop (a + 1)
def Nod.with (n : Nod) (k : ByteArray) (v : Nat) : Nod :=
  if thereF n.ks k then { n with vs := n.vs.set (placeF n.ks k) v } else { n with ks := insF n.ks (placeF n.ks k) k, vs := insF n.vs (placeF n.ks k) v }
def Nod.without (n : Nod) (k : ByteArray) : Nod := { n with ks := cutF n.ks (placeF n.ks k), vs := cutF n.vs (placeF n.ks k) }
theorem insF_len {α : Type} {xs : List α} {a : Nat} (h : a ≤ xs.length) (x : α) : (insF xs a x).length = xs.length + 1 := by
  unfold insF; rw [List.length_append, List.length_cons, List.length_take, List.length_drop]; omega
theorem cutF_len {α : Type} {xs : List α} {a : Nat} (h : a < xs.length) : (cutF xs a).length = xs.length - 1 := by
  unfold cutF; rw [List.length_append, List.length_take, List.length_drop]; omega
theorem insF_map {α β : Type} (f : α → β) (xs : List α) (a : Nat) (x : α) : (insF xs a x).map f = (xs.map f).take a ++ f x :: (xs.map f).drop a := by
  unfold insF; simp [List.map_take, List.map_drop]
theorem cutF_map {α β : Type} (f : α → β) (xs : List α) (a : Nat) : (cutF xs a).map f = (xs.map f).take a ++ (xs.map f).drop (a + 1) := by
  unfold cutF; simp [List.map_take, List.map_drop]
end Go.Proofs.Ytnlghdkgejimpaa
