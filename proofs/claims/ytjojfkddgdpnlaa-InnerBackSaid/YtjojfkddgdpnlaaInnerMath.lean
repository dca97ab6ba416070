/- Plain facts on inner nodes: what the document asks of Post, Drop and Turn, and what they make; what is taken back. No program. -/
import Derived.Test.YtjojfkddgdpnlaaInnerRefs
import Derived.Test.YtjojfkddgdpnlaaInnerPlaces
import Derived.Test.YtjojfkddgdpnlaaInnerDrop
namespace Go.Proofs.Ytjojfkddgdpnlaa
open Go.RowKit

section
variable {xs : List Int} {a : Nat} {z : Int}
theorem kids_ins (h : KidsP xs.length xs) (ha : a ≤ xs.length) (hz : cellB z = true) (hn : ∀ i, i < xs.length → ni xs i ≠ z) : KidsP (xs.length + 1) (insF xs a z) := by
  have e1 : ∀ i, i < a → ni (insF xs a z) i = ni xs i := fun i hi => insF_lt z 0 hi ha
  have e2 : ni (insF xs a z) a = z := insF_eq z 0 ha
  have e3 : ∀ i, a < i → ni (insF xs a z) i = ni xs (i - 1) := fun i hi => insF_gt z 0 hi ha
  intro i hi
  rcases Nat.lt_trichotomy i a with h1 | h1 | h1
  · rw [e1 i h1]
    refine ⟨(h i (by omega)).1, fun j hj => ?_⟩
    rw [e1 j (by omega)]
    exact (h i (by omega)).2 j hj
  · subst h1
    rw [e2]
    refine ⟨hz, fun j hj => ?_⟩
    rw [e1 j hj]
    exact hn j (by omega)
  · rw [e3 i h1]
    refine ⟨(h (i - 1) (by omega)).1, fun j hj => ?_⟩
    rcases Nat.lt_trichotomy j a with h2 | h2 | h2
    · rw [e1 j h2]; exact (h (i - 1) (by omega)).2 j (by omega)
    · subst h2; rw [e2]; exact fun e => hn (i - 1) (by omega) e.symm
    · rw [e3 j h2]; exact (h (i - 1) (by omega)).2 (j - 1) (by omega)
theorem kids_cut (h : KidsP xs.length xs) (ha : a < xs.length) : KidsP (xs.length - 1) (cutF xs a) := by
  have e1 : ∀ i, i < a → ni (cutF xs a) i = ni xs i := fun i hi => cutF_lt 0 hi ha
  have e2 : ∀ i, a ≤ i → ni (cutF xs a) i = ni xs (i + 1) := fun i hi => cutF_ge 0 hi ha
  intro i hi
  by_cases h1 : i < a
  · rw [e1 i h1]
    refine ⟨(h i (by omega)).1, fun j hj => ?_⟩
    rw [e1 j (by omega)]
    exact (h i (by omega)).2 j hj
  · rw [e2 i (by omega)]
    refine ⟨(h (i + 1) (by omega)).1, fun j hj => ?_⟩
    by_cases h2 : j < a
    · rw [e1 j h2]; exact (h (i + 1) (by omega)).2 j (by omega)
    · rw [e2 j (by omega)]; exact (h (i + 1) (by omega)).2 (j + 1) (by omega)
theorem kids_new (h : KidsP (xs.length + 1) (insF xs a z)) (ha : a ≤ xs.length) : cellB z = true ∧ ∀ i, i < xs.length → ni xs i ≠ z := by
  have e1 : ∀ i, i < a → ni (insF xs a z) i = ni xs i := fun i hi => insF_lt z 0 hi ha
  have e2 : ni (insF xs a z) a = z := insF_eq z 0 ha
  have e3 : ∀ i, a < i → ni (insF xs a z) i = ni xs (i - 1) := fun i hi => insF_gt z 0 hi ha
  have h0 := h a (by omega)
  rw [e2] at h0
  refine ⟨h0.1, fun i hi => ?_⟩
  by_cases h1 : i < a
  · have := h0.2 i h1
    rw [e1 i h1] at this
    exact this
  · have := (h (i + 1) (by omega)).2 a (by omega)
    rw [e2, e3 (i + 1) (by omega), Nat.add_sub_cancel] at this
    exact fun e => this e.symm
end
theorem inside_lo {lo hi k : List UInt8} {la : Bool} (h : insideB lo hi la k = true) : lss k lo = false := by
  unfold insideB at h
  cases h2 : lss k lo with
  | false => rfl
  | true => rw [h2] at h; cases h

/-- A new key of a sound inner node stands behind its first one. -/
theorem Nod.new_pos {n : Nod} {low : ByteArray} {f : Int} (hl : n.lv ≠ 0) (h : n.Sound f) (hi : insideB n.lo.data.toList n.hi.data.toList n.la low.data.toList = true) {a : Nat} (hn : NewAt n.ks a low) : 0 < a := by
  obtain ⟨h1, h2, h3, h4, _⟩ := h.entries.inner hl
  refine Nat.pos_of_ne_zero (fun e => ?_)
  subst e
  have := hn.high 0 (Nat.le_refl _) (by omega)
  rw [h4, inside_lo hi] at this
  cases this
theorem Nod.post_sound {n : Nod} {low : ByteArray} {kid fan f2 : Int} (hl : n.lv ≠ 0) (h : n.Sound f2) (h1 : keyB low = true) (h2 : cellB kid = true) (h3 : (n.ks.length : Int) < fan) (h4 : insideB n.lo.data.toList n.hi.data.toList n.la low.data.toList = true) (h5 : ∀ i, i < n.ks.length → nth n.ks i ≠ low ∧ ni n.cs i ≠ kid) : (n.post low kid).Sound fan := by
  obtain ⟨e1, e2, e3, e4, e5, e6⟩ := h.entries.inner hl
  have hn := newAt_less h.keys.rise (fun i hi => (h5 i hi).1)
  have hp := n.new_pos hl h h4 hn
  have hlk := insF_len hn.le low
  have hlc : (insF n.cs (placeF n.ks low) kid).length = n.ks.length + 1 := by rw [insF_len (by rw [e1]; exact hn.le), e1]
  refine ⟨h.level, h.range, ⟨?_, rises_ins h.keys.rise hn, fun i hi => ?_⟩, ⟨fun g => absurd g hl, fun _ => ⟨?_, ?_, rfl, ?_, fun i hi1 hi2 => ?_, ?_⟩⟩⟩
  · show ((insF n.ks (placeF n.ks low) low).length : Int) ≤ fan
    rw [hlk]; omega
  · have hi' : i < (insF n.ks (placeF n.ks low) low).length := hi
    rw [hlk] at hi'
    exact all_ins hn.le (p := fun x => insideB n.lo.data.toList n.hi.data.toList n.la x.data.toList = true) h4 h.keys.inn i hi'
  · show (insF n.cs (placeF n.ks low) kid).length = (insF n.ks (placeF n.ks low) low).length
    rw [hlk, hlc]
  · show (insF n.cs (placeF n.ks low) kid).length ≠ 0
    rw [hlc]; omega
  · show nth (insF n.ks (placeF n.ks low) low) 0 = n.lo
    rw [← e4]
    exact insF_lt low ⟨#[]⟩ hp hn.le
  · have hi' : i < (insF n.ks (placeF n.ks low) low).length := hi2
    rw [hlk] at hi'
    show keyB (nth (insF n.ks (placeF n.ks low) low) i) = true
    rcases Nat.lt_trichotomy i (placeF n.ks low) with g | g | g
    · rw [show nth (insF n.ks (placeF n.ks low) low) i = nth n.ks i from insF_lt low ⟨#[]⟩ g hn.le]; exact e5 i hi1 (by have := hn.le; omega)
    · subst g; rw [show nth (insF n.ks (placeF n.ks low) low) (placeF n.ks low) = low from insF_eq low ⟨#[]⟩ hn.le]; exact h1
    · rw [show nth (insF n.ks (placeF n.ks low) low) i = nth n.ks (i - 1) from insF_gt low ⟨#[]⟩ g hn.le]; exact e5 (i - 1) (by omega) (by omega)
  · show KidsP (insF n.cs (placeF n.ks low) kid).length (insF n.cs (placeF n.ks low) kid)
    rw [hlc, ← e1]
    exact kids_ins e6 (by rw [e1]; exact hn.le) h2 (fun i hi => (h5 i (by omega)).2)
theorem Nod.sound_post {n : Nod} {low : ByteArray} {kid fan f2 : Int} (hl : n.lv ≠ 0) (h : n.Sound f2) (hp : (n.post low kid).Sound fan) : keyB low = true ∧ cellB kid = true ∧ (n.ks.length : Int) < fan ∧ insideB n.lo.data.toList n.hi.data.toList n.la low.data.toList = true ∧ ∀ i, i < n.ks.length → nth n.ks i ≠ low ∧ ni n.cs i ≠ kid := by
  obtain ⟨e1, e2, e3, e4, e5, e6⟩ := h.entries.inner hl
  have hle : placeF n.ks low ≤ n.ks.length := (edge_place h.keys.rise low).1
  have hlk := insF_len hle low
  have hlc : (insF n.cs (placeF n.ks low) kid).length = n.ks.length + 1 := by rw [insF_len (by rw [e1]; exact hle), e1]
  obtain ⟨d1, d2, d3, d4, d5, d6⟩ := hp.entries.inner hl
  have hr : Rises (insF n.ks (placeF n.ks low) low) := hp.keys.rise
  have h0 : nth (insF n.ks (placeF n.ks low) low) (placeF n.ks low) = low := insF_eq low ⟨#[]⟩ hle
  have hm : ((insF n.ks (placeF n.ks low) low).length : Int) ≤ fan := hp.keys.many
  rw [hlk] at hm
  have hk : KidsP (insF n.cs (placeF n.ks low) kid).length (insF n.cs (placeF n.ks low) kid) := d6
  rw [hlc, ← e1] at hk
  obtain ⟨k1, k2⟩ := kids_new hk (by rw [e1]; exact hle)
  have hne : ∀ i, i < n.ks.length → nth n.ks i ≠ low := by
    intro i hi e
    by_cases g : i < placeF n.ks low
    · have h1 := rises_nth hr g (by rw [hlk]; omega)
      rw [h0, show nth (insF n.ks (placeF n.ks low) low) i = nth n.ks i from insF_lt low ⟨#[]⟩ g hle, e, lss_irrefl] at h1
      cases h1
    · have h1 := rises_nth hr (show placeF n.ks low < i + 1 by omega) (by rw [hlk]; omega)
      rw [h0, show nth (insF n.ks (placeF n.ks low) low) (i + 1) = nth n.ks i from insF_gt low ⟨#[]⟩ (by omega) hle, e, lss_irrefl] at h1
      cases h1
  have hin : insideB n.lo.data.toList n.hi.data.toList n.la low.data.toList = true := by
    have := hp.keys.inn (placeF n.ks low) (by show _ < (insF _ _ _).length; rw [hlk]; omega)
    rw [show nth (n.post low kid).ks (placeF n.ks low) = low from h0] at this
    exact this
  have hpos := n.new_pos hl h hin (newAt_less h.keys.rise hne)
  refine ⟨?_, k1, by omega, hin, fun i hi => ⟨hne i hi, k2 i (by omega)⟩⟩
  have := d5 (placeF n.ks low) hpos (by show _ < (insF _ _ _).length; rw [hlk]; omega)
  rw [show nth (n.post low kid).ks (placeF n.ks low) = low from h0] at this
  exact this
theorem Nod.post_iff (n : Nod) (low : ByteArray) (kid fan : Int) : n.PostP low kid fan ↔ n.PostD low kid fan := by
  constructor
  · rintro ⟨h1, h2, h3⟩
    obtain ⟨a, b, c, d, e⟩ := Nod.sound_post (by have := h1.1; omega) h1.2 h3
    exact ⟨h1, a, b, h2, c, d, e⟩
  · intro h
    exact ⟨h.inner, h.fans, Nod.post_sound (by have := h.inner.1; omega) h.inner.2 h.key h.cell h.room h.inn h.new⟩

theorem Nod.drop_sound {n : Nod} {fan : Int} {a : Nat} (hl : n.lv ≠ 0) (h : n.Sound fan) (h0 : 0 < a) (ha : a < n.ks.length) : (n.drop a).Sound fan := by
  obtain ⟨e1, e2, e3, e4, e5, e6⟩ := h.entries.inner hl
  have hlk := cutF_len ha
  have hlc : (cutF n.cs a).length = n.ks.length - 1 := by rw [cutF_len (by omega), e1]
  have hm := h.keys.many
  refine ⟨h.level, h.range, ⟨?_, rises_cut h.keys.rise ha, fun i hi => ?_⟩, ⟨fun g => absurd g hl, fun _ => ⟨?_, ?_, rfl, ?_, fun i hi1 hi2 => ?_, ?_⟩⟩⟩
  · show ((cutF n.ks a).length : Int) ≤ fan
    rw [hlk]; omega
  · have hi' : i < (cutF n.ks a).length := hi
    rw [hlk] at hi'
    exact all_cut ha (p := fun x => insideB n.lo.data.toList n.hi.data.toList n.la x.data.toList = true) h.keys.inn i hi'
  · show (cutF n.cs a).length = (cutF n.ks a).length
    rw [hlk, hlc]
  · show (cutF n.cs a).length ≠ 0
    rw [hlc]; omega
  · show nth (cutF n.ks a) 0 = n.lo
    rw [← e4]
    exact cutF_lt (⟨#[]⟩ : ByteArray) h0 ha
  · have hi' : i < (cutF n.ks a).length := hi2
    rw [hlk] at hi'
    show keyB (nth (cutF n.ks a) i) = true
    by_cases g : i < a
    · rw [show nth (cutF n.ks a) i = nth n.ks i from cutF_lt (⟨#[]⟩ : ByteArray) g ha]; exact e5 i hi1 (by omega)
    · rw [show nth (cutF n.ks a) i = nth n.ks (i + 1) from cutF_ge (⟨#[]⟩ : ByteArray) (by omega) ha]; exact e5 (i + 1) (by omega) (by omega)
  · show KidsP (cutF n.cs a).length (cutF n.cs a)
    rw [hlc, ← e1]
    exact kids_cut (by rw [e1] at e6 ⊢; exact e6) (by omega)
theorem Nod.drop_iff (n : Nod) (at_ : Int) : n.DropP at_ ↔ n.Inner ∧ (0 < at_ ∧ at_ < n.ks.length) := by
  constructor
  · rintro ⟨h1, h2, _⟩; exact ⟨h1, h2⟩
  · rintro ⟨h1, h2⟩
    exact ⟨h1, h2, Nod.drop_sound (by have := h1.1; omega) h1.2 (by omega) (by omega)⟩
theorem Nod.vs_nil {n : Nod} {f : Int} (hl : n.lv ≠ 0) (h : n.Sound f) : n.vs = [] := List.eq_nil_of_length_eq_zero (h.entries.inner hl).2.2.1
/-- What was posted, and dropped. -/
theorem Nod.post_drop {n : Nod} {low : ByteArray} {kid f : Int} (hl : n.lv ≠ 0) (h : n.Sound f) (hc : placeF n.ks low ≤ n.ks.length) : (n.post low kid).drop (placeF n.ks low) = n := by
  have hv := n.vs_nil hl h
  obtain ⟨e1, _⟩ := h.entries.inner hl
  obtain ⟨lv, nx, lo, hi, la, ks, vs, cs⟩ := n
  simp only at hv e1 hc
  subst hv
  unfold Nod.post Nod.drop
  simp only
  rw [cut_ins _ hc, cut_ins _ (by omega)]
theorem Nod.turn_back {n : Nod} {low : ByteArray} {f : Int} {a : Nat} (hl : n.lv ≠ 0) (h : n.Sound f) (ha : a < n.ks.length) : (n.turn a low).turn a (nth n.ks a) = n := by
  have hv := n.vs_nil hl h
  obtain ⟨lv, nx, lo, hi, la, ks, vs, cs⟩ := n
  simp only at hv ha
  subst hv
  unfold Nod.turn
  simp only
  rw [List.set_set, nth_eq ha, List.set_getElem_self]
/-- The place of a kid that was posted. -/
theorem first_ins {n : Nod} {low : ByteArray} {kid f : Int} (hl : n.lv ≠ 0) (h : n.Sound f) (hc : placeF n.ks low ≤ n.ks.length) (hn : ∀ i, i < n.ks.length → ni n.cs i ≠ kid) : FirstAt (insF n.cs (placeF n.ks low) kid).length (insF n.cs (placeF n.ks low) kid) kid (placeF n.ks low) := by
  obtain ⟨e1, _⟩ := h.entries.inner hl
  refine Or.inl ⟨_, rfl, by rw [insF_len (by omega)]; omega, insF_eq kid 0 (by omega), fun j hj => ?_⟩
  rw [show ni (insF n.cs (placeF n.ks low) kid) j = ni n.cs j from insF_lt kid 0 hj (by omega)]
  exact hn j (by omega)
end Go.Proofs.Ytjojfkddgdpnlaa
