/- Plain facts for the law HalveWhole: the parts of a sound node are sound neighbours, and are merged to what it was; a new entry of an inner node is found again in the part that covers it. No program. -/
import Derived.Test.YtlcnnnljdffbmaaHalveJoin2
import Derived.Test.YtlcnnnljdffbmaaInsMath
namespace Go.Proofs.Ytlcnnnljdffbmaa
open Go.RowKit

theorem hw_nth_take {xs : List ByteArray} {h i : Nat} (hi : i < h) : nth (xs.take h) i = nth xs i := by
  unfold nth; rw [List.getD_eq_getElem?_getD, List.getElem?_take_of_lt hi, List.getD_eq_getElem?_getD]
theorem hw_nth_drop {xs : List ByteArray} {h i : Nat} : nth (xs.drop h) i = nth xs (h + i) := by
  unfold nth; rw [List.getD_eq_getElem?_getD, List.getElem?_drop, List.getD_eq_getElem?_getD]
theorem hw_ni_take {xs : List Int} {h i : Nat} (hi : i < h) : ni (xs.take h) i = ni xs i := by
  unfold ni; rw [List.getD_eq_getElem?_getD, List.getElem?_take_of_lt hi, List.getD_eq_getElem?_getD]
theorem hw_ni_drop {xs : List Int} {h i : Nat} : ni (xs.drop h) i = ni xs (h + i) := by
  unfold ni; rw [List.getD_eq_getElem?_getD, List.getElem?_drop, List.getD_eq_getElem?_getD]
theorem hw_rises {xs : List ByteArray} (h : ∀ i, i + 1 < xs.length → lss (nth xs i).data.toList (nth xs (i + 1)).data.toList = true) : Rises xs := by
  intro i hi
  have := h i hi
  rw [nth_eq (by omega), nth_eq hi] at this
  exact this
/-- The border of two texts of which the first is less: behind the first, not behind the second. -/
theorem brdL_lies (lv : Int) {a b : ByteArray} (h : lss a.data.toList b.data.toList = true) :
    lss a.data.toList (brdL lv a b).data.toList = true ∧ lss b.data.toList (brdL lv a b).data.toList = false ∧ (keyB b = true → keyB (brdL lv a b) = true) ∧ (brdL lv a b).size ≤ b.size := by
  unfold brdL
  by_cases hl : 0 < lv
  · rw [if_pos hl]
    exact ⟨h, lss_irrefl _, fun hk => hk, Nat.le_refl _⟩
  · rw [if_neg hl]
    have h1 := lss_parting _ _ h
    unfold parting at h1
    have h2 := lss_take b.data.toList (cpl a.data.toList b.data.toList + 1)
    have hx : (brd a b).data.toList = b.data.toList.take (cpl a.data.toList b.data.toList + 1) := ext_list b _
    have hs : (brd a b).size ≤ b.size := ext_size b _
    rw [hx]
    refine ⟨h1, h2, fun hk => ?_, hs⟩
    have hk2 := (keyB_iff b).1 hk
    have hc := cpl_lt_of_lss _ _ h
    have hlen : (brd a b).data.toList.length = cpl a.data.toList b.data.toList + 1 := by rw [hx, List.length_take]; omega
    have hsz : (brd a b).data.toList.length = (brd a b).size := by simp
    exact (keyB_iff _).2 (by omega)
theorem hw_ge {n : Nod} {f : Int} (h : n.Sound f) {i j : Nat} (hij : i ≤ j) (hj : j < n.ks.length) : lss (nth n.ks j).data.toList (nth n.ks i).data.toList = false := by
  by_cases e : i = j
  · subst e; exact lss_irrefl _
  · exact lss_asymm _ _ (rises_nth h.keys.rise (by omega) hj)
/-- The border between the halves of a sound node. -/
theorem hw_border {n : Nod} {f : Int} (h : n.Sound f) (h2 : 2 ≤ n.ks.length) :
    let B := brdL n.lv (nth n.ks (hlf n.ks.length - 1)) (nth n.ks (hlf n.ks.length))
    keyB B = true ∧ lss n.lo.data.toList B.data.toList = true ∧ (∀ i, i < hlf n.ks.length → lss (nth n.ks i).data.toList B.data.toList = true) ∧ (∀ i, hlf n.ks.length ≤ i → i < n.ks.length → lss (nth n.ks i).data.toList B.data.toList = false) := by
  intro B
  have hh : hlf n.ks.length < n.ks.length ∧ 1 ≤ hlf n.ks.length := by unfold hlf; omega
  have hlt := rises_nth h.keys.rise (show hlf n.ks.length - 1 < hlf n.ks.length by omega) hh.1
  obtain ⟨b1, b2, b3, _⟩ := brdL_lies n.lv hlt
  have hkey : keyB (nth n.ks (hlf n.ks.length)) = true := by
    by_cases h0 : n.lv = 0
    · exact (h.entries.leaf h0).2.2 _ hh.1
    · exact (h.entries.inner h0).2.2.2.2.1 _ (by omega) hh.1
  have hi : ∀ i, i < hlf n.ks.length → lss (nth n.ks i).data.toList B.data.toList = true := fun i hi =>
    lss_le_lt _ _ _ (hw_ge h (show i ≤ hlf n.ks.length - 1 by omega) (by omega)) b1
  refine ⟨b3 hkey, ?_, hi, fun i h1 h2 => ?_⟩
  · have h0 := h.keys.inn 0 (by omega)
    rw [inside_parts] at h0
    exact lss_le_lt _ _ _ h0.1 (hi 0 (by omega))
  · cases e : lss (nth n.ks i).data.toList B.data.toList with
    | false => rfl
    | true =>
      have := lss_le_lt _ _ _ (hw_ge h h1 h2) e
      rw [b2] at this; cases this
theorem hw_left {n : Nod} {f cell : Int} (h : n.Sound f) (h2 : 2 ≤ n.ks.length) (hm : n.ks.length ≤ 128) (hc : cellB cell = true) : (n.left cell).Sound 64 := by
  obtain ⟨b1, b2, b3, b4⟩ := hw_border h h2
  have hh : hlf n.ks.length < n.ks.length ∧ 1 ≤ hlf n.ks.length ∧ hlf n.ks.length ≤ 64 := by unfold hlf; omega
  have hlk : (n.ks.take (hlf n.ks.length)).length = hlf n.ks.length := by rw [List.length_take]; omega
  refine ⟨h.level, ⟨h.range.low, (fun e => by cases (show false = true from e)), fun _ => ⟨b1, b2, hc⟩⟩, ⟨?_, ?_, fun i hi => ?_⟩, ⟨fun h0 => ?_, fun h0 => ?_⟩⟩
  · show ((n.ks.take (hlf n.ks.length)).length : Int) ≤ 64
    rw [hlk]; omega
  · show Rises (n.ks.take (hlf n.ks.length))
    refine hw_rises (fun i hi => ?_)
    rw [hlk] at hi
    rw [hw_nth_take (by omega), hw_nth_take hi]
    exact rises_nth h.keys.rise (by omega) (by omega)
  · have hi' : i < (n.ks.take (hlf n.ks.length)).length := hi
    rw [hlk] at hi'
    show insideB n.lo.data.toList (brdL n.lv (nth n.ks (hlf n.ks.length - 1)) (nth n.ks (hlf n.ks.length))).data.toList false (nth (n.ks.take (hlf n.ks.length)) i).data.toList = true
    rw [hw_nth_take hi', inside_parts]
    have h0 := h.keys.inn i (by omega)
    rw [inside_parts] at h0
    exact ⟨h0.1, Or.inr (b3 i hi')⟩
  · obtain ⟨e1, e2, e3⟩ := h.entries.leaf h0
    refine ⟨?_, ?_, fun i hi => ?_⟩
    · show (n.vs.take (hlf n.vs.length)).length = (n.ks.take (hlf n.ks.length)).length
      rw [List.length_take, List.length_take, e1]
    · show (n.cs.take (hlf n.cs.length)).length = 0
      rw [List.length_take, e2]; omega
    · have hi' : i < (n.ks.take (hlf n.ks.length)).length := hi
      rw [hlk] at hi'
      show keyB (nth (n.ks.take (hlf n.ks.length)) i) = true
      rw [hw_nth_take hi']
      exact e3 i (by omega)
  · obtain ⟨e1, e2, e3, e4, e5, e6⟩ := h.entries.inner h0
    refine ⟨?_, ?_, ?_, ?_, fun i hi0 hi => ?_, ?_⟩
    · show (n.cs.take (hlf n.cs.length)).length = (n.ks.take (hlf n.ks.length)).length
      rw [List.length_take, List.length_take, e1]
    · show (n.cs.take (hlf n.cs.length)).length ≠ 0
      rw [List.length_take, e1]; omega
    · show (n.vs.take (hlf n.vs.length)).length = 0
      rw [List.length_take, e3]; omega
    · show nth (n.ks.take (hlf n.ks.length)) 0 = n.lo
      rw [hw_nth_take (by omega), e4]
    · have hi' : i < (n.ks.take (hlf n.ks.length)).length := hi
      rw [hlk] at hi'
      show keyB (nth (n.ks.take (hlf n.ks.length)) i) = true
      rw [hw_nth_take hi']
      exact e5 i hi0 (by omega)
    · intro i hi
      have hi' : i < (n.cs.take (hlf n.cs.length)).length := hi
      rw [List.length_take] at hi'
      show cellB (ni (n.cs.take (hlf n.cs.length)) i) = true ∧ ∀ j, j < i → ni (n.cs.take (hlf n.cs.length)) j ≠ ni (n.cs.take (hlf n.cs.length)) i
      rw [hw_ni_take (by omega)]
      refine ⟨(e6 i (by omega)).1, fun j hj => ?_⟩
      rw [hw_ni_take (by omega)]
      exact (e6 i (by omega)).2 j hj
theorem hw_right {n : Nod} {f : Int} (h : n.Sound f) (h2 : 2 ≤ n.ks.length) (hm : n.ks.length ≤ 128) : n.right.Sound 64 := by
  obtain ⟨b1, b2, b3, b4⟩ := hw_border h h2
  have hh : hlf n.ks.length < n.ks.length ∧ 1 ≤ hlf n.ks.length ∧ n.ks.length - hlf n.ks.length ≤ 64 := by unfold hlf; omega
  have hlk : (n.ks.drop (hlf n.ks.length)).length = n.ks.length - hlf n.ks.length := List.length_drop
  refine ⟨h.level, ⟨?_, h.range.last, fun e => ?_⟩, ⟨?_, ?_, fun i hi => ?_⟩, ⟨fun h0 => ?_, fun h0 => ?_⟩⟩
  · exact ((keyB_iff _).1 b1).2
  · obtain ⟨r1, r2, r3⟩ := h.range.more e
    refine ⟨r1, ?_, r3⟩
    have h0 := h.keys.inn (hlf n.ks.length) hh.1
    have e' : n.la = false := e
    rw [inside_parts, e'] at h0
    have h1 : lss (nth n.ks (hlf n.ks.length)).data.toList n.hi.data.toList = true := by
      rcases h0.2 with g | g
      · cases g
      · exact g
    exact lss_le_lt _ _ _ (b4 _ (Nat.le_refl _) hh.1) h1
  · show ((n.ks.drop (hlf n.ks.length)).length : Int) ≤ 64
    rw [hlk]; omega
  · show Rises (n.ks.drop (hlf n.ks.length))
    refine hw_rises (fun i hi => ?_)
    rw [hlk] at hi
    rw [hw_nth_drop, hw_nth_drop]
    exact rises_nth h.keys.rise (by omega) (by omega)
  · have hi' : i < (n.ks.drop (hlf n.ks.length)).length := hi
    rw [hlk] at hi'
    show insideB (brdL n.lv (nth n.ks (hlf n.ks.length - 1)) (nth n.ks (hlf n.ks.length))).data.toList n.hi.data.toList n.la (nth (n.ks.drop (hlf n.ks.length)) i).data.toList = true
    rw [hw_nth_drop, inside_parts]
    have h0 := h.keys.inn (hlf n.ks.length + i) (by omega)
    rw [inside_parts] at h0
    exact ⟨b4 _ (by omega) (by omega), h0.2⟩
  · obtain ⟨e1, e2, e3⟩ := h.entries.leaf h0
    refine ⟨?_, ?_, fun i hi => ?_⟩
    · show (n.vs.drop (hlf n.vs.length)).length = (n.ks.drop (hlf n.ks.length)).length
      rw [List.length_drop, List.length_drop, e1]
    · show (n.cs.drop (hlf n.cs.length)).length = 0
      rw [List.length_drop, e2]; omega
    · have hi' : i < (n.ks.drop (hlf n.ks.length)).length := hi
      rw [hlk] at hi'
      show keyB (nth (n.ks.drop (hlf n.ks.length)) i) = true
      rw [hw_nth_drop]
      exact e3 _ (by omega)
  · obtain ⟨e1, e2, e3, e4, e5, e6⟩ := h.entries.inner h0
    have h0' : n.lv ≠ 0 := h0
    have hpos : 0 < n.lv := by have := h.level; omega
    refine ⟨?_, ?_, ?_, ?_, fun i hi0 hi => ?_, ?_⟩
    · show (n.cs.drop (hlf n.cs.length)).length = (n.ks.drop (hlf n.ks.length)).length
      rw [List.length_drop, List.length_drop, e1]
    · show (n.cs.drop (hlf n.cs.length)).length ≠ 0
      rw [List.length_drop, e1]; omega
    · show (n.vs.drop (hlf n.vs.length)).length = 0
      rw [List.length_drop, e3]; omega
    · show nth (n.ks.drop (hlf n.ks.length)) 0 = brdL n.lv (nth n.ks (hlf n.ks.length - 1)) (nth n.ks (hlf n.ks.length))
      rw [hw_nth_drop, Nat.add_zero]
      unfold brdL
      rw [if_pos hpos]
    · have hi' : i < (n.ks.drop (hlf n.ks.length)).length := hi
      rw [hlk] at hi'
      show keyB (nth (n.ks.drop (hlf n.ks.length)) i) = true
      rw [hw_nth_drop]
      exact e5 _ (by omega) (by omega)
    · intro i hi
      have hi' : i < (n.cs.drop (hlf n.cs.length)).length := hi
      rw [List.length_drop] at hi'
      show cellB (ni (n.cs.drop (hlf n.cs.length)) i) = true ∧ ∀ j, j < i → ni (n.cs.drop (hlf n.cs.length)) j ≠ ni (n.cs.drop (hlf n.cs.length)) i
      rw [hw_ni_drop]
      refine ⟨(e6 _ (by omega)).1, fun j hj => ?_⟩
      rw [hw_ni_drop]
      exact (e6 _ (by omega)).2 _ (by omega)
theorem hw_nb {n : Nod} {f cell : Int} (h : n.Sound f) (h2 : 2 ≤ n.ks.length) (hm : n.ks.length ≤ 128) (hc : cellB cell = true) : (n.left cell).NbP n.right := by
  refine ⟨hw_left h h2 hm hc, hw_right h h2 hm, rfl, rfl, rfl, fun i hi => ?_⟩
  rintro ⟨j, hj, he⟩
  have hi' : i < (n.cs.drop (hlf n.cs.length)).length := hi
  have hj' : j < (n.cs.take (hlf n.cs.length)).length := hj
  rw [List.length_drop] at hi'
  rw [List.length_take] at hj'
  have he' : ni (n.cs.take (hlf n.cs.length)) j = ni (n.cs.drop (hlf n.cs.length)) i := he
  rw [hw_ni_take (by omega), hw_ni_drop] at he'
  by_cases h0 : n.lv = 0
  · have := (h.entries.leaf h0).2.1
    omega
  · exact ((h.entries.inner h0).2.2.2.2.2 (hlf n.cs.length + i) (by omega)).2 j (by omega) he'
theorem hw_both (n : Nod) (cell : Int) : (n.left cell).both n.right = n := by
  unfold Nod.both Nod.left Nod.right
  simp only [List.take_append_drop]
theorem hw_lens {n : Nod} (cell : Int) : (n.left cell).ks.length = hlf n.ks.length ∧ n.right.ks.length = n.ks.length - hlf n.ks.length := by
  refine ⟨?_, ?_⟩
  · show (n.ks.take (hlf n.ks.length)).length = hlf n.ks.length
    rw [List.length_take]; have := hlf_le n.ks.length; omega
  · show (n.ks.drop (hlf n.ks.length)).length = n.ks.length - hlf n.ks.length
    rw [List.length_drop]
theorem hw_merge {n : Nod} {cell : Int} (h : n.SplitP cell) : (n.left cell).MergeP n.right 64 :=
  ⟨hw_nb h.1 h.2.1 (by have := h.1.keys.many; omega) h.2.2, by omega, by rw [hw_both]; exact h.1⟩
theorem hw_even {n : Nod} {cell : Int} (h : n.SplitP cell) : (n.left cell).EvenP n.right := by
  refine ⟨hw_nb h.1 h.2.1 (by have := h.1.keys.many; omega) h.2.2, ?_⟩
  obtain ⟨e1, e2⟩ := hw_lens (n := n) cell
  rw [e1, e2]
  have := h.2.1
  have := hlf_le n.ks.length
  omega

/-- A new entry, in an inner node. -/
theorem hw_less {xs : List ByteArray} (h : Rises xs) {k : ByteArray} (hn : ¬ thereF xs k) : ∀ i, i < xs.length → nth xs i ≠ k := by
  intro i hi e
  have hw := newAt_of h hn
  by_cases g : i < placeF xs k
  · have := hw.low i g; rw [e, lss_irrefl] at this; cases this
  · have := hw.high i (by omega) hi; rw [e, lss_irrefl] at this; cases this
theorem hw_kids_ins {xs : List Int} {a : Nat} {z : Int} (h : KidsP xs.length xs) (ha : a ≤ xs.length) (hz : cellB z = true) (hn : ∀ i, i < xs.length → ni xs i ≠ z) : KidsP (xs.length + 1) (insF xs a z) := by
  have e1 : ∀ i, i < a → ni (insF xs a z) i = ni xs i := fun i hi => insF_lt z 0 hi ha
  have e2 : ni (insF xs a z) a = z := insF_eq z 0 ha
  have e3 : ∀ i, a < i → ni (insF xs a z) i = ni xs (i - 1) := fun i hi => insF_gt z 0 hi ha
  intro i hi
  rcases Nat.lt_trichotomy i a with g | g | g
  · rw [e1 i g]
    refine ⟨(h i (by omega)).1, fun j hj => ?_⟩
    rw [e1 j (by omega)]
    exact (h i (by omega)).2 j hj
  · subst g
    rw [e2]
    refine ⟨hz, fun j hj => ?_⟩
    rw [e1 j hj]
    exact hn j (by omega)
  · rw [e3 i g]
    refine ⟨(h _ (by omega)).1, fun j hj => ?_⟩
    rcases Nat.lt_trichotomy j a with g2 | g2 | g2
    · rw [e1 j g2]; exact (h _ (by omega)).2 j (by omega)
    · subst g2; rw [e2]; exact fun e => hn (i - 1) (by omega) e.symm
    · rw [e3 j g2]; exact (h _ (by omega)).2 _ (by omega)
theorem hw_insLen {α : Type} {xs : List α} {a : Nat} (ha : a ≤ xs.length) (x : α) : (insF xs a x).length = xs.length + 1 := by
  unfold insF
  rw [List.length_append, List.length_cons, List.length_take, List.length_drop]; omega
theorem hw_post {n : Nod} {low : ByteArray} {kid cell : Int} (h : n.BurstP low kid cell) : (n.post low kid).Sound 65 ∧ (n.post low kid).ks.length = n.ks.length + 1 ∧ 2 ≤ (n.post low kid).ks.length ∧ placeF n.ks low ≤ n.ks.length := by
  obtain ⟨⟨hl, hs⟩, hc, hm⟩ := h
  have hl' : n.lv ≠ 0 := by omega
  obtain ⟨e1, e2, e3, e4, e5, e6⟩ := hs.entries.inner hl'
  have hn := newAt_of hs.keys.rise hm.new
  have hne := hw_less hs.keys.rise hm.new
  have hp : 0 < placeF n.ks low := by
    refine Nat.pos_of_ne_zero (fun e => ?_)
    have h1 := hn.high 0 (by omega) (by omega)
    have h2 := hm.inn
    rw [inside_parts, ← e4, h1] at h2
    cases h2.1
  have hlk := hw_insLen hn.le low
  have hlc : (insF n.cs (placeF n.ks low) kid).length = n.ks.length + 1 := by rw [hw_insLen (by rw [e1]; exact hn.le), e1]
  have hmany := hs.keys.many
  refine ⟨⟨hs.level, hs.range, ⟨?_, rises_ins hs.keys.rise hn, fun i hi => ?_⟩, ⟨fun g => absurd g hl', fun _ => ⟨?_, ?_, rfl, ?_, fun i hi1 hi2 => ?_, ?_⟩⟩⟩, hlk, ?_, hn.le⟩
  · show ((insF n.ks (placeF n.ks low) low).length : Int) ≤ 65
    rw [hlk]; omega
  · have hi' : i < (insF n.ks (placeF n.ks low) low).length := hi
    rw [hlk] at hi'
    exact all_ins hn.le (p := fun x => insideB n.lo.data.toList n.hi.data.toList n.la x.data.toList = true) hm.inn hs.keys.inn i hi'
  · show (insF n.cs (placeF n.ks low) kid).length = (insF n.ks (placeF n.ks low) low).length
    rw [hlk, hlc]
  · show (insF n.cs (placeF n.ks low) kid).length ≠ 0
    rw [hlc]; omega
  · show nth (insF n.ks (placeF n.ks low) low) 0 = n.lo
    rw [← e4]
    exact insF_lt low ⟨#[]⟩ hp hn.le
  · have hi' : i < (insF n.ks (placeF n.ks low) low).length := hi2
    rw [hlk] at hi'
    show keyB (nth (insF n.ks (placeF n.ks low) low) i) = true
    rcases Nat.lt_trichotomy i (placeF n.ks low) with g | g | g
    · rw [show nth (insF n.ks (placeF n.ks low) low) i = nth n.ks i from insF_lt low ⟨#[]⟩ g hn.le]; exact e5 i hi1 (by have := hn.le; omega)
    · subst g; rw [show nth (insF n.ks (placeF n.ks low) low) (placeF n.ks low) = low from insF_eq low ⟨#[]⟩ hn.le]; exact hm.key
    · rw [show nth (insF n.ks (placeF n.ks low) low) i = nth n.ks (i - 1) from insF_gt low ⟨#[]⟩ g hn.le]; exact e5 (i - 1) (by omega) (by omega)
  · show KidsP (insF n.cs (placeF n.ks low) kid).length (insF n.cs (placeF n.ks low) kid)
    rw [hlc, ← e1]
    exact hw_kids_ins e6 (by rw [e1]; exact hn.le) hm.cell (fun i hi => hm.kid i hi)
  · show 2 ≤ (insF n.ks (placeF n.ks low) low).length
    rw [hlk]; omega
/-- Where a key that stands in a rising row is found. -/
theorem hw_floor {xs : List ByteArray} (h : Rises xs) {p : Nat} (hp : p < xs.length) {k : ByteArray} (hk : nth xs p = k) : ∀ a, Edge xs.length a (pFloor xs k) → a = p + 1 := by
  intro a ha
  rcases Nat.lt_trichotomy a (p + 1) with g | g | g
  · have h1 := ha.2.2 p (by omega) hp
    unfold pFloor at h1
    rw [hk, lss_irrefl] at h1; cases h1
  · exact g
  · have h1 := ha.2.1 (p + 1) g
    have h2 := ha.1
    unfold pFloor at h1
    rw [← hk, rises_nth h (show p < p + 1 by omega) (by omega)] at h1; cases h1
/-- The new entry stands in the part that covers its key. -/
theorem hw_kid_left {n : Nod} {low : ByteArray} {kid cell : Int} (h : n.BurstP low kid cell) (hc : insideB ((n.post low kid).left cell).lo.data.toList ((n.post low kid).left cell).hi.data.toList ((n.post low kid).left cell).la low.data.toList = true) :
    ∃ p, p < ((n.post low kid).left cell).cs.length ∧ ni ((n.post low kid).left cell).cs p = kid ∧ ∀ a, Edge ((n.post low kid).left cell).ks.length a (pFloor ((n.post low kid).left cell).ks low) → a = p + 1 := by
  obtain ⟨hs, hlk, h2, hle⟩ := hw_post h
  have hl : n.lv ≠ 0 := by have := h.1.1; omega
  have hm : (n.post low kid).ks.length ≤ 128 := by have := hs.keys.many; omega
  have hls := hw_left hs h2 hm h.2.1
  obtain ⟨b1, b2, b3, b4⟩ := hw_border hs h2
  have hcs := (hs.entries.inner hl).1
  have hk : nth (n.post low kid).ks (placeF n.ks low) = low := insF_eq low ⟨#[]⟩ hle
  have hz : ni (n.post low kid).cs (placeF n.ks low) = kid := insF_eq kid 0 (by rw [(h.1.2.entries.inner hl).1]; exact hle)
  have hp : placeF n.ks low < hlf (n.post low kid).ks.length := by
    rcases Nat.lt_or_ge (placeF n.ks low) (hlf (n.post low kid).ks.length) with g | g
    · exact g
    · exfalso
      have h3 := b4 _ g (by omega)
      rw [hk] at h3
      rw [inside_parts] at hc
      rcases hc.2 with e | e
      · cases (show false = true from e)
      · rw [show ((n.post low kid).left cell).hi = brdL (n.post low kid).lv (nth (n.post low kid).ks (hlf (n.post low kid).ks.length - 1)) (nth (n.post low kid).ks (hlf (n.post low kid).ks.length)) from rfl, h3] at e
        cases e
  have hh := hlf_le (n.post low kid).ks.length
  have hlen : ((n.post low kid).left cell).ks.length = hlf (n.post low kid).ks.length := (hw_lens cell).1
  refine ⟨placeF n.ks low, ?_, ?_, hw_floor hls.keys.rise (by omega) ?_⟩
  · show placeF n.ks low < ((n.post low kid).cs.take (hlf (n.post low kid).cs.length)).length
    rw [List.length_take, hcs]; omega
  · show ni ((n.post low kid).cs.take (hlf (n.post low kid).cs.length)) (placeF n.ks low) = kid
    rw [hw_ni_take (by rw [hcs]; exact hp)]; exact hz
  · show nth ((n.post low kid).ks.take (hlf (n.post low kid).ks.length)) (placeF n.ks low) = low
    rw [hw_nth_take hp]; exact hk
theorem hw_kid_right {n : Nod} {low : ByteArray} {kid cell : Int} (h : n.BurstP low kid cell) (hc : insideB (n.post low kid).right.lo.data.toList (n.post low kid).right.hi.data.toList (n.post low kid).right.la low.data.toList = true) :
    ∃ p, p < (n.post low kid).right.cs.length ∧ ni (n.post low kid).right.cs p = kid ∧ ∀ a, Edge (n.post low kid).right.ks.length a (pFloor (n.post low kid).right.ks low) → a = p + 1 := by
  obtain ⟨hs, hlk, h2, hle⟩ := hw_post h
  have hl : n.lv ≠ 0 := by have := h.1.1; omega
  have hm : (n.post low kid).ks.length ≤ 128 := by have := hs.keys.many; omega
  have hrs := hw_right hs h2 hm
  obtain ⟨b1, b2, b3, b4⟩ := hw_border hs h2
  have hcs := (hs.entries.inner hl).1
  have hk : nth (n.post low kid).ks (placeF n.ks low) = low := insF_eq low ⟨#[]⟩ hle
  have hz : ni (n.post low kid).cs (placeF n.ks low) = kid := insF_eq kid 0 (by rw [(h.1.2.entries.inner hl).1]; exact hle)
  have hp : hlf (n.post low kid).ks.length ≤ placeF n.ks low := by
    rcases Nat.lt_or_ge (placeF n.ks low) (hlf (n.post low kid).ks.length) with g | g
    · exfalso
      have h3 := b3 _ g
      rw [hk] at h3
      rw [inside_parts] at hc
      rw [show (n.post low kid).right.lo = brdL (n.post low kid).lv (nth (n.post low kid).ks (hlf (n.post low kid).ks.length - 1)) (nth (n.post low kid).ks (hlf (n.post low kid).ks.length)) from rfl, h3] at hc
      cases hc.1
    · exact g
  have hlen : (n.post low kid).right.ks.length = (n.post low kid).ks.length - hlf (n.post low kid).ks.length := (hw_lens cell).2
  refine ⟨placeF n.ks low - hlf (n.post low kid).ks.length, ?_, ?_, hw_floor hrs.keys.rise (by omega) ?_⟩
  · show placeF n.ks low - hlf (n.post low kid).ks.length < ((n.post low kid).cs.drop (hlf (n.post low kid).cs.length)).length
    rw [List.length_drop, hcs]; omega
  · show ni ((n.post low kid).cs.drop (hlf (n.post low kid).cs.length)) (placeF n.ks low - hlf (n.post low kid).ks.length) = kid
    rw [hw_ni_drop, hcs, Nat.add_sub_cancel' hp]; exact hz
  · show nth ((n.post low kid).ks.drop (hlf (n.post low kid).ks.length)) (placeF n.ks low - hlf (n.post low kid).ks.length) = low
    rw [hw_nth_drop, Nat.add_sub_cancel' hp]; exact hk
end Go.Proofs.Ytlcnnnljdffbmaa
