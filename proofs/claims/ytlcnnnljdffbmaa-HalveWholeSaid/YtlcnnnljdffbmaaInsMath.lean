/- Plain facts on rows with one more, or one less, and where a new key stands. No program. -/
import Derived.Test.YtlcnnnljdffbmaaLeafIs
namespace Go.Proofs.Ytlcnnnljdffbmaa
open Go.RowKit

section
variable {α : Type} {xs : List α} {a : Nat} (x d : α)
theorem insF_lt {i : Nat} (h : i < a) (ha : a ≤ xs.length) : (insF xs a x).getD i d = xs.getD i d := by
  unfold insF
  rw [List.getD_eq_getElem?_getD, List.getElem?_append_left (by rw [List.length_take]; omega), List.getElem?_take, if_pos h, List.getD_eq_getElem?_getD]
theorem insF_eq (ha : a ≤ xs.length) : (insF xs a x).getD a d = x := by
  unfold insF
  rw [List.getD_eq_getElem?_getD, List.getElem?_append_right (by rw [List.length_take]; omega), List.length_take, show a - min a xs.length = 0 by omega]
  rfl
theorem insF_gt {i : Nat} (h : a < i) (ha : a ≤ xs.length) : (insF xs a x).getD i d = xs.getD (i - 1) d := by
  unfold insF
  rw [List.getD_eq_getElem?_getD, List.getElem?_append_right (by rw [List.length_take]; omega), List.length_take, show i - min a xs.length = (i - 1 - a) + 1 by omega, List.getElem?_cons_succ, List.getElem?_drop, List.getD_eq_getElem?_getD, show a + (i - 1 - a) = i - 1 by omega]
theorem cutF_lt {i : Nat} (h : i < a) (ha : a < xs.length) : (cutF xs a).getD i d = xs.getD i d := by
  unfold cutF
  rw [List.getD_eq_getElem?_getD, List.getElem?_append_left (by rw [List.length_take]; omega), List.getElem?_take, if_pos h, List.getD_eq_getElem?_getD]
theorem cutF_ge {i : Nat} (h : a ≤ i) (ha : a < xs.length) : (cutF xs a).getD i d = xs.getD (i + 1) d := by
  unfold cutF
  rw [List.getD_eq_getElem?_getD, List.getElem?_append_right (by rw [List.length_take]; omega), List.length_take, List.getElem?_drop, List.getD_eq_getElem?_getD, show a + 1 + (i - min a xs.length) = i + 1 by omega]
theorem cut_ins (ha : a ≤ xs.length) : cutF (insF xs a x) a = xs := by
  unfold cutF insF
  rw [List.take_append_of_le_length (by rw [List.length_take]; omega), List.take_take, Nat.min_self, List.drop_append, List.length_take, List.drop_of_length_le (by rw [List.length_take]; omega), show a + 1 - min a xs.length = 1 by omega, List.nil_append, List.drop_succ_cons, List.drop_zero, List.take_append_drop]
end

theorem rises_nth {xs : List ByteArray} (h : Rises xs) {i j : Nat} (hij : i < j) (hj : j < xs.length) : lss (nth xs i).data.toList (nth xs j).data.toList = true := by
  rw [nth_eq (by omega), nth_eq hj]
  exact h.lt i j hij hj
theorem rises_cut {xs : List ByteArray} (h : Rises xs) {a : Nat} (ha : a < xs.length) : Rises (cutF xs a) := by
  refine rises_up (k := xs.length - 1) (fun i hi => ?_) (by rw [cutF_len ha]; omega)
  unfold nth
  by_cases h1 : i + 1 < a
  · rw [cutF_lt _ h1 ha, cutF_lt _ (by omega) ha]
    exact rises_nth h (by omega) (by omega)
  · rw [cutF_ge (i := i + 1) _ (by omega) ha]
    by_cases h2 : i < a
    · rw [cutF_lt _ h2 ha]
      exact rises_nth h (by omega) (by omega)
    · rw [cutF_ge _ (by omega) ha]
      exact rises_nth h (by omega) (by omega)
/-- Where a new key stands. -/
structure NewAt (xs : List ByteArray) (a : Nat) (k : ByteArray) : Prop where
  le : a ≤ xs.length
  low : ∀ i, i < a → lss (nth xs i).data.toList k.data.toList = true
  high : ∀ i, a ≤ i → i < xs.length → lss k.data.toList (nth xs i).data.toList = true
theorem newAt_of {xs : List ByteArray} (h : Rises xs) {k : ByteArray} (hn : ¬ thereF xs k) : NewAt xs (placeF xs k) k := by
  have he := edge_place h k
  refine ⟨he.1, fun i hi => ?_, fun i h1 h2 => ?_⟩
  · have := he.2.1 i hi
    unfold pFind at this
    simpa using this
  · have h3 := he.2.2 i h1 h2
    unfold pFind at h3
    have h4 : lss (nth xs i).data.toList k.data.toList = false := by simpa using h3
    cases h5 : lss k.data.toList (nth xs i).data.toList with
    | true => rfl
    | false =>
      have he2 : nth xs i = k := text_of (lss_total _ _ h4 h5)
      exfalso
      by_cases h6 : placeF xs k = i
      · exact hn ⟨by omega, by rw [h6]; exact he2⟩
      · have h7 := rises_nth h (show placeF xs k < i by omega) h2
        have h8 := he.2.2 (placeF xs k) (Nat.le_refl _) (by omega)
        unfold pFind at h8
        rw [he2] at h7
        rw [h7] at h8
        cases h8
theorem newAt_ins {xs : List ByteArray} {a : Nat} {k : ByteArray} (h : NewAt xs a k) : placeF xs k = a ∧ ¬ thereF xs k := by
  have h1 : placeF xs k = a := by
    have hle : placeF xs k ≤ xs.length := List.findIdx_le_length
    rcases Nat.lt_trichotomy (placeF xs k) a with g | g | g
    · have h2 := List.findIdx_getElem (xs := xs) (p := fun (x : ByteArray) => !lss x.data.toList k.data.toList) (w := by have := h.le; exact Nat.lt_of_lt_of_le g this)
      have h3 := h.low (placeF xs k) g
      rw [nth_eq (by have := h.le; omega)] at h3
      unfold placeF at h3
      rw [h3] at h2
      cases h2
    · exact g
    · have h2 := List.not_of_lt_findIdx g
      have h3 := h.high a (Nat.le_refl _) (by omega)
      rw [nth_eq (by omega)] at h3
      have h4 := lss_asymm _ _ h3
      rw [h4] at h2
      simp at h2
  refine ⟨h1, fun ht => ?_⟩
  unfold thereF at ht
  rw [h1] at ht
  have := h.high a (Nat.le_refl _) ht.1
  rw [ht.2, lss_irrefl] at this
  cases this
theorem rises_ins {xs : List ByteArray} (h : Rises xs) {k : ByteArray} {a : Nat} (hn : NewAt xs a k) : Rises (insF xs a k) := by
  have ha := hn.le
  refine rises_up (k := xs.length + 1) (fun i hi => ?_) (by rw [insF_len ha]; omega)
  unfold nth
  by_cases h1 : i + 1 < a
  · rw [insF_lt _ _ h1 ha, insF_lt _ _ (by omega) ha]
    exact rises_nth h (by omega) (by omega)
  · by_cases h2 : i + 1 = a
    · rw [h2, insF_eq _ _ ha, insF_lt _ _ (by omega) ha]
      exact hn.low i (by omega)
    · by_cases h3 : i = a
      · rw [h3, insF_eq _ _ ha, insF_gt _ _ (by omega) ha]
        exact hn.high a (Nat.le_refl _) (by omega)
      · rw [insF_gt _ _ (by omega) ha, insF_gt _ _ (by omega) ha]
        exact rises_nth h (by omega) (by omega)
theorem there_ins {xs : List ByteArray} {k : ByteArray} {a : Nat} (hn : NewAt xs a k) : placeF (insF xs a k) k = a ∧ thereF (insF xs a k) k := by
  have ha := hn.le
  have h0 : nth (insF xs a k) a = k := insF_eq _ _ ha
  have h1 : placeF (insF xs a k) k = a := by
    rcases Nat.lt_trichotomy (placeF (insF xs a k) k) a with g | g | g
    · have h2 := List.findIdx_getElem (xs := insF xs a k) (p := fun (x : ByteArray) => !lss x.data.toList k.data.toList) (w := by rw [insF_len ha]; exact Nat.lt_of_lt_of_le g (by omega))
      have h3 := hn.low (placeF (insF xs a k) k) g
      rw [show nth xs (placeF (insF xs a k) k) = nth (insF xs a k) (placeF (insF xs a k) k) from (insF_lt k _ g ha).symm, nth_eq (by rw [insF_len ha]; omega)] at h3
      unfold placeF at h3
      rw [h3] at h2
      cases h2
    · exact g
    · have h2 := List.not_of_lt_findIdx g
      rw [← nth_eq, h0, lss_irrefl] at h2
      simp at h2
  refine ⟨h1, ?_⟩
  unfold thereF
  rw [h1, insF_len ha]
  exact ⟨by omega, h0⟩

/-- All keys of a row with one more. -/
theorem all_ins {xs : List ByteArray} {k : ByteArray} {a : Nat} (ha : a ≤ xs.length) {p : ByteArray → Prop} (hk : p k) (hx : ∀ i, i < xs.length → p (nth xs i)) : ∀ i, i < xs.length + 1 → p (nth (insF xs a k) i) := by
  intro i hi
  unfold nth
  rcases Nat.lt_trichotomy i a with h | h | h
  · rw [insF_lt _ _ h ha]; exact hx i (by omega)
  · subst h; rw [insF_eq _ _ ha]; exact hk
  · rw [insF_gt _ _ h ha]; exact hx (i - 1) (by omega)
theorem all_cut {xs : List ByteArray} {a : Nat} (ha : a < xs.length) {p : ByteArray → Prop} (hx : ∀ i, i < xs.length → p (nth xs i)) : ∀ i, i < xs.length - 1 → p (nth (cutF xs a) i) := by
  intro i hi
  unfold nth
  by_cases h : i < a
  · rw [cutF_lt _ h ha]; exact hx i (by omega)
  · rw [cutF_ge _ (by omega) ha]; exact hx (i + 1) (by omega)
theorem Nod.Sound.mono {n : Nod} {f g : Int} (h : n.Sound f) (hfg : f ≤ g) : n.Sound g := ⟨h.level, h.range, ⟨Int.le_trans h.keys.many hfg, h.keys.rise, h.keys.inn⟩, h.entries⟩
end Go.Proofs.Ytlcnnnljdffbmaa
