/- Plain facts on rows with one more, or one less, and on leaves: what is sound stays so. No program. -/
import Derived.Test.YtnlghdkgejimpaaLeafFind
namespace Go.Proofs.Ytnlghdkgejimpaa
open Go.RowKit

section
variable {α : Type} {xs : List α} {a : Nat} (x d : α)
theorem insF_lt {i : Nat} (h : i < a) (ha : a ≤ xs.length) : (insF xs a x).getD i d = xs.getD i d := by
  unfold insF
  rw [List.getD_eq_getElem?_getD, List.getElem?_append_left (by rw [List.length_take]; omega), List.getElem?_take, if_pos h, List.getD_eq_getElem?_getD]
theorem insF_eq (ha : a ≤ xs.length) : (insF xs a x).getD a d = x := by
  unfold insF
  rw [List.getD_eq_getElem?_getD, List.getElem?_append_right (by rw [List.length_take]; omega), List.length_take, show a - min a xs.length = 0 by omega]
  rfl
theorem insF_gt {i : Nat} (h : a < i) (ha : a ≤ xs.length) : (insF xs a x).getD i d = xs.getD (i - 1) d := by
  unfold insF
  rw [List.getD_eq_getElem?_getD, List.getElem?_append_right (by rw [List.length_take]; omega), List.length_take, show i - min a xs.length = (i - 1 - a) + 1 by omega, List.getElem?_cons_succ, List.getElem?_drop, List.getD_eq_getElem?_getD, show a + (i - 1 - a) = i - 1 by omega]
theorem cutF_lt {i : Nat} (h : i < a) (ha : a < xs.length) : (cutF xs a).getD i d = xs.getD i d := by
  unfold cutF
  rw [List.getD_eq_getElem?_getD, List.getElem?_append_left (by rw [List.length_take]; omega), List.getElem?_take, if_pos h, List.getD_eq_getElem?_getD]
theorem cutF_ge {i : Nat} (h : a ≤ i) (ha : a < xs.length) : (cutF xs a).getD i d = xs.getD (i + 1) d := by
  unfold cutF
  rw [List.getD_eq_getElem?_getD, List.getElem?_append_right (by rw [List.length_take]; omega), List.length_take, List.getElem?_drop, List.getD_eq_getElem?_getD, show a + 1 + (i - min a xs.length) = i + 1 by omega]
theorem cut_ins (ha : a ≤ xs.length) : cutF (insF xs a x) a = xs := by
  unfold cutF insF
  rw [List.take_append_of_le_length (by rw [List.length_take]; omega), List.take_take, Nat.min_self, List.drop_append, List.length_take, List.drop_of_length_le (by rw [List.length_take]; omega), show a + 1 - min a xs.length = 1 by omega, List.nil_append, List.drop_succ_cons, List.drop_zero, List.take_append_drop]
end

theorem rises_nth {xs : List ByteArray} (h : Rises xs) {i j : Nat} (hij : i < j) (hj : j < xs.length) : lss (nth xs i).data.toList (nth xs j).data.toList = true := by
  rw [nth_eq (by omega), nth_eq hj]
  exact h.lt i j hij hj
theorem rises_cut {xs : List ByteArray} (h : Rises xs) {a : Nat} (ha : a < xs.length) : Rises (cutF xs a) := by
  refine rises_up (k := xs.length - 1) (fun i hi => ?_) (by rw [cutF_len ha]; omega)
  unfold nth
  by_cases h1 : i + 1 < a
  · rw [cutF_lt _ h1 ha, cutF_lt _ (by omega) ha]
    exact rises_nth h (by omega) (by omega)
  · rw [cutF_ge (i := i + 1) _ (by omega) ha]
    by_cases h2 : i < a
    · rw [cutF_lt _ h2 ha]
      exact rises_nth h (by omega) (by omega)
    · rw [cutF_ge _ (by omega) ha]
      exact rises_nth h (by omega) (by omega)
/-- Where a new key stands. -/
structure NewAt (xs : List ByteArray) (a : Nat) (k : ByteArray) : Prop where
  le : a ≤ xs.length
  low : ∀ i, i < a → lss (nth xs i).data.toList k.data.toList = true
  high : ∀ i, a ≤ i → i < xs.length → lss k.data.toList (nth xs i).data.toList = true
theorem newAt_of {xs : List ByteArray} (h : Rises xs) {k : ByteArray} (hn : ¬ thereF xs k) : NewAt xs (placeF xs k) k := by
  have he := edge_place h k
  refine ⟨he.1, fun i hi => ?_, fun i h1 h2 => ?_⟩
  · have := he.2.1 i hi
    unfold pFind at this
    simpa using this
  · have h3 := he.2.2 i h1 h2
    unfold pFind at h3
    have h4 : lss (nth xs i).data.toList k.data.toList = false := by simpa using h3
    cases h5 : lss k.data.toList (nth xs i).data.toList with
    | true => rfl
    | false =>
      have he2 : nth xs i = k := text_of (lss_total _ _ h4 h5)
      exfalso
      by_cases h6 : placeF xs k = i
      · exact hn ⟨by omega, by rw [h6]; exact he2⟩
      · have h7 := rises_nth h (show placeF xs k < i by omega) h2
        have h8 := he.2.2 (placeF xs k) (Nat.le_refl _) (by omega)
        unfold pFind at h8
        rw [he2] at h7
        rw [h7] at h8
        cases h8
theorem newAt_ins {xs : List ByteArray} {a : Nat} {k : ByteArray} (h : NewAt xs a k) : placeF xs k = a ∧ ¬ thereF xs k := by
  have h1 : placeF xs k = a := by
    have hle : placeF xs k ≤ xs.length := List.findIdx_le_length
    rcases Nat.lt_trichotomy (placeF xs k) a with g | g | g
    · have h2 := List.findIdx_getElem (xs := xs) (p := fun (x : ByteArray) => !lss x.data.toList k.data.toList) (w := by have := h.le; exact Nat.lt_of_lt_of_le g this)
      have h3 := h.low (placeF xs k) g
      rw [nth_eq (by have := h.le; omega)] at h3
      unfold placeF at h3
      rw [h3] at h2
      cases h2
    · exact g
    · have h2 := List.not_of_lt_findIdx g
      have h3 := h.high a (Nat.le_refl _) (by omega)
      rw [nth_eq (by omega)] at h3
      have h4 := lss_asymm _ _ h3
      rw [h4] at h2
      simp at h2
  refine ⟨h1, fun ht => ?_⟩
  unfold thereF at ht
  rw [h1] at ht
  have := h.high a (Nat.le_refl _) ht.1
  rw [ht.2, lss_irrefl] at this
  cases this
theorem rises_ins {xs : List ByteArray} (h : Rises xs) {k : ByteArray} {a : Nat} (hn : NewAt xs a k) : Rises (insF xs a k) := by
  have ha := hn.le
  refine rises_up (k := xs.length + 1) (fun i hi => ?_) (by rw [insF_len ha]; omega)
  unfold nth
  by_cases h1 : i + 1 < a
  · rw [insF_lt _ _ h1 ha, insF_lt _ _ (by omega) ha]
    exact rises_nth h (by omega) (by omega)
  · by_cases h2 : i + 1 = a
    · rw [h2, insF_eq _ _ ha, insF_lt _ _ (by omega) ha]
      exact hn.low i (by omega)
    · by_cases h3 : i = a
      · rw [h3, insF_eq _ _ ha, insF_gt _ _ (by omega) ha]
        exact hn.high a (Nat.le_refl _) (by omega)
      · rw [insF_gt _ _ (by omega) ha, insF_gt _ _ (by omega) ha]
        exact rises_nth h (by omega) (by omega)
theorem there_ins {xs : List ByteArray} {k : ByteArray} {a : Nat} (hn : NewAt xs a k) : placeF (insF xs a k) k = a ∧ thereF (insF xs a k) k := by
  have ha := hn.le
  have h0 : nth (insF xs a k) a = k := insF_eq _ _ ha
  have h1 : placeF (insF xs a k) k = a := by
    rcases Nat.lt_trichotomy (placeF (insF xs a k) k) a with g | g | g
    · have h2 := List.findIdx_getElem (xs := insF xs a k) (p := fun (x : ByteArray) => !lss x.data.toList k.data.toList) (w := by rw [insF_len ha]; exact Nat.lt_of_lt_of_le g (by omega))
      have h3 := hn.low (placeF (insF xs a k) k) g
      rw [show nth xs (placeF (insF xs a k) k) = nth (insF xs a k) (placeF (insF xs a k) k) from (insF_lt k _ g ha).symm, nth_eq (by rw [insF_len ha]; omega)] at h3
      unfold placeF at h3
      rw [h3] at h2
      cases h2
    · exact g
    · have h2 := List.not_of_lt_findIdx g
      rw [← nth_eq, h0, lss_irrefl] at h2
      simp at h2
  refine ⟨h1, ?_⟩
  unfold thereF
  rw [h1, insF_len ha]
  exact ⟨by omega, h0⟩

/-- All keys of a row with one more. -/
theorem all_ins {xs : List ByteArray} {k : ByteArray} {a : Nat} (ha : a ≤ xs.length) {p : ByteArray → Prop} (hk : p k) (hx : ∀ i, i < xs.length → p (nth xs i)) : ∀ i, i < xs.length + 1 → p (nth (insF xs a k) i) := by
  intro i hi
  unfold nth
  rcases Nat.lt_trichotomy i a with h | h | h
  · rw [insF_lt _ _ h ha]; exact hx i (by omega)
  · subst h; rw [insF_eq _ _ ha]; exact hk
  · rw [insF_gt _ _ h ha]; exact hx (i - 1) (by omega)
theorem all_cut {xs : List ByteArray} {a : Nat} (ha : a < xs.length) {p : ByteArray → Prop} (hx : ∀ i, i < xs.length → p (nth xs i)) : ∀ i, i < xs.length - 1 → p (nth (cutF xs a) i) := by
  intro i hi
  unfold nth
  by_cases h : i < a
  · rw [cutF_lt _ h ha]; exact hx i (by omega)
  · rw [cutF_ge _ (by omega) ha]; exact hx (i + 1) (by omega)

theorem Nod.with_sound {n : Nod} {k : ByteArray} {v : Nat} {fan f2 : Int} (h0 : n.lv = 0) (h : n.Sound f2) (hk : keyB k = true) (hi : insideB n.lo.data.toList n.hi.data.toList n.la k.data.toList = true) (hl : ((n.with k v).ks.length : Int) ≤ fan) : (n.with k v).Sound fan := by
  obtain ⟨e1, e2, e3⟩ := h.entries.leaf h0
  unfold Nod.with at *
  by_cases ht : thereF n.ks k
  · rw [if_pos ht] at *
    exact ⟨h.level, h.range, ⟨hl, h.keys.rise, h.keys.inn⟩, ⟨fun _ => ⟨by rw [List.length_set]; exact e1, e2, e3⟩, fun g => absurd h0 g⟩⟩
  · rw [if_neg ht] at *
    have hn := newAt_of h.keys.rise ht
    have hl2 := insF_len hn.le k
    refine ⟨h.level, h.range, ⟨hl, rises_ins h.keys.rise hn, fun i hi2 => ?_⟩, ⟨fun _ => ⟨?_, e2, fun i hi2 => ?_⟩, fun g => absurd h0 g⟩⟩
    · rw [hl2] at hi2
      exact all_ins hn.le (p := fun x => insideB n.lo.data.toList n.hi.data.toList n.la x.data.toList = true) hi h.keys.inn i hi2
    · rw [hl2, insF_len (by rw [e1]; exact hn.le), e1]
    · rw [hl2] at hi2
      exact all_ins hn.le (p := fun x => keyB x = true) hk e3 i hi2
theorem Nod.sound_with {n : Nod} {k : ByteArray} {v : Nat} {fan f2 : Int} (h0 : n.lv = 0) (h : n.Sound f2) (hw : (n.with k v).Sound fan) : keyB k = true ∧ insideB n.lo.data.toList n.hi.data.toList n.la k.data.toList = true ∧ ((n.with k v).ks.length : Int) ≤ fan := by
  obtain ⟨e1, e2, e3⟩ := h.entries.leaf h0
  refine ⟨?_, ?_, hw.keys.many⟩
  all_goals
    unfold Nod.with at hw
    by_cases ht : thereF n.ks k
  · have := e3 _ ht.1
    rw [ht.2] at this
    exact this
  · rw [if_neg ht] at hw
    have hn := newAt_of h.keys.rise ht
    have h3 := (hw.entries.leaf h0).2.2 (placeF n.ks k) (by show _ < (insF _ _ _).length; rw [insF_len hn.le]; have := hn.le; omega)
    rw [show nth (insF n.ks (placeF n.ks k) k) (placeF n.ks k) = k from insF_eq _ _ hn.le] at h3
    exact h3
  · have := h.keys.inn _ ht.1
    rw [ht.2] at this
    exact this
  · rw [if_neg ht] at hw
    have hn := newAt_of h.keys.rise ht
    have h3 := hw.keys.inn (placeF n.ks k) (by show _ < (insF _ _ _).length; rw [insF_len hn.le]; have := hn.le; omega)
    rw [show nth (insF n.ks (placeF n.ks k) k) (placeF n.ks k) = k from insF_eq _ _ hn.le] at h3
    exact h3
theorem Nod.without_sound {n : Nod} {k : ByteArray} {fan : Int} (h0 : n.lv = 0) (h : n.Sound fan) (ht : thereF n.ks k) : (n.without k).Sound fan := by
  obtain ⟨e1, e2, e3⟩ := h.entries.leaf h0
  have hl := cutF_len ht.1
  have hm := h.keys.many
  refine ⟨h.level, h.range, ⟨?_, rises_cut h.keys.rise ht.1, fun i hi2 => ?_⟩, ⟨fun _ => ⟨?_, e2, fun i hi2 => ?_⟩, fun g => absurd h0 g⟩⟩
  · show ((cutF _ _).length : Int) ≤ fan
    rw [hl]; omega
  · have hi3 : i < (cutF n.ks (placeF n.ks k)).length := hi2
    rw [hl] at hi3
    exact all_cut ht.1 (p := fun x => insideB n.lo.data.toList n.hi.data.toList n.la x.data.toList = true) h.keys.inn i hi3
  · show (cutF _ _).length = (cutF _ _).length
    rw [hl, cutF_len (by rw [e1]; exact ht.1), e1]
  · have hi3 : i < (cutF n.ks (placeF n.ks k)).length := hi2
    rw [hl] at hi3
    exact all_cut ht.1 (p := fun x => keyB x = true) e3 i hi3
theorem Nod.Sound.mono {n : Nod} {f g : Int} (h : n.Sound f) (hfg : f ≤ g) : n.Sound g := ⟨h.level, h.range, ⟨Int.le_trans h.keys.many hfg, h.keys.rise, h.keys.inn⟩, h.entries⟩

/-- With, taken back. -/
structure Nod.BackP (n : Nod) (k : ByteArray) (v : Nat) (fan : Int) : Prop where
  leaf : (n.with k v).Leaf
  there : thereF (n.with k v).ks k
  get : getF (n.with k v).ks (n.with k v).vs k = v
  sound : ((n.with k v).without k).Sound fan
  same : ¬ thereF n.ks k → (n.with k v).without k = n
  len : thereF n.ks k → ((n.with k v).without k).ks.length + 1 = n.ks.length
  vlen : (n.with k v).vs.length = (n.with k v).ks.length
theorem Nod.back_of {n : Nod} {k : ByteArray} {v : Nat} {fan : Int} (hf : fan ≤ 64) (h0 : n.lv = 0) (h : n.Sound fan) (hw : (n.with k v).Sound fan) : n.BackP k v fan := by
  have h0w : (n.with k v).lv = 0 := by unfold Nod.with; by_cases ht : thereF n.ks k <;> simp [ht, h0]
  have key : placeF (n.with k v).ks k = placeF n.ks k ∧ thereF (n.with k v).ks k ∧ getF (n.with k v).ks (n.with k v).vs k = v := by
    obtain ⟨e1, e2, e3⟩ := h.entries.leaf h0
    by_cases ht : thereF n.ks k
    · have e : n.with k v = { n with vs := n.vs.set (placeF n.ks k) v } := by unfold Nod.with; rw [if_pos ht]
      rw [e]
      refine ⟨rfl, ht, ?_⟩
      unfold getF
      rw [if_pos ht]
      show nu (n.vs.set _ v) _ = v
      have := ht.1
      rw [nu_eq (by rw [List.length_set, e1]; exact this), List.getElem_set_self]
    · have hn := newAt_of h.keys.rise ht
      have e : n.with k v = { n with ks := insF n.ks (placeF n.ks k) k, vs := insF n.vs (placeF n.ks k) v } := by unfold Nod.with; rw [if_neg ht]
      rw [e]
      have hp := there_ins hn
      refine ⟨hp.1, hp.2, ?_⟩
      unfold getF
      rw [if_pos hp.2, hp.1]
      exact insF_eq _ _ (by rw [e1]; exact hn.le)
  refine ⟨⟨h0w, hw.mono hf⟩, key.2.1, key.2.2, Nod.without_sound h0w hw key.2.1, fun ht => ?_, fun ht => ?_, (hw.entries.leaf h0w).1⟩
  · have hn := newAt_of h.keys.rise ht
    obtain ⟨e1, e2, e3⟩ := h.entries.leaf h0
    unfold Nod.without
    rw [key.1]
    unfold Nod.with
    rw [if_neg ht]
    simp only
    rw [cut_ins _ hn.le, cut_ins _ (by rw [e1]; exact hn.le)]
  · unfold Nod.without
    rw [key.1]
    unfold Nod.with
    rw [if_pos ht]
    show (cutF n.ks _).length + 1 = _
    rw [cutF_len ht.1]
    have := ht.1
    omega
end Go.Proofs.Ytnlghdkgejimpaa
