/- A view that a call made: Cells. Condition: a map of at most 2^38 cells. -/
import Derived.Test.YtefmnfplipdnmaaCellsM
import Derived.Test.YtefmnfplipdnmaaShelf
import Derived.Maps.RangeWalk
import Derived.Sort.OwnSortedInts
namespace Go.Proofs.Ytefmnfplipdnmaa
open Go.RowKit Go.Maps Go.Sort

/-- The numbers that a range has met so far. -/
def CollI (D0 : DataW Value) (left : Lit → Bool) (xs : List Int) : Prop := xs.Nodup ∧ ∀ x, x ∈ xs ↔ (has D0 (.int .i64 x) = true ∧ left (.int .i64 x) = false)
theorem CollI.start (D0 : DataW Value) : CollI D0 (has D0) [] := ⟨List.nodup_nil, fun x => by cases has D0 (.int .i64 x) <;> simp⟩
theorem CollI.step {D0 : DataW Value} {left : Lit → Bool} {xs : List Int} {x : Int} (h : CollI D0 left xs) (hlk : left (.int .i64 x) = true) (hhas : has D0 (.int .i64 x) = true) : CollI D0 (fun z => left z && !z.sameKey (.int .i64 x)) (xs ++ [x]) := by
  refine ⟨?_, fun y => ?_⟩
  · rw [List.nodup_append]
    refine ⟨h.1, by simp, fun a ha b hb e => ?_⟩
    rw [List.mem_singleton] at hb
    rw [e, hb] at ha
    have := ((h.2 x).1 ha).2
    rw [hlk] at this
    cases this
  · rw [List.mem_append, List.mem_singleton, h.2 y]
    by_cases e : y = x
    · subst e
      simp [hhas, Lit.sameKey]
    · have e2 : (Lit.int .i64 y).sameKey (.int .i64 x) = false := by simp [Lit.sameKey, e]
      simp [e, e2]
theorem size_le {P : Program} {t : TypeId} {H : Type} {R : Value → Option (DataW H × List MemPlace)} {w : World} {b n : Nat} {D : DataW H} (h : w.ownsMap P t R b n D) : Maps.size D ≤ n := by
  obtain ⟨es, c, e, f, hs, rfl⟩ := h
  simpa [Maps.size, length_sorted] using hs
theorem Rel.has_iff {w : World} {B : Nat} {D : DataW Value} {ks : List Kn} (h : Rel w B D ks) (x : Int) : has D (.int .i64 x) = true ↔ (kfind ks x).isSome = true := by
  cases hk : kfind ks x with
  | none => rw [h.miss x hk]; simp
  | some k => rw [(h.hit x k hk).1]; simp
theorem ranges_apart {P : Program} {t t2 : TypeId} {H : Type} {R : Value → Option (DataW H × List MemPlace)} {w : World} {b r n B k n2 : Nat} {D : DataW H} {left : Lit → Bool} {cnt : Nat} {v : Value} {xs : List Value} (h : w.ranges P t R b r n D left cnt) (ho : w.ownsRow B t2 k v n2 xs) : some b ≠ v.ownBlock ∧ some r ≠ v.ownBlock := by
  obtain ⟨es, clock, since, seen, c0, hb, _, _, _, hr, _⟩ := h
  constructor
  · intro e
    obtain ⟨_, cs, hg⟩ := fv_block ho e.symm
    rw [hb] at hg
    cases hg
  · intro e
    obtain ⟨_, cs, hg⟩ := fv_block ho e.symm
    rw [hr] at hg
    cases hg
theorem fvInfoInt : (Try.prog.info? 3).map (fun i => (i.zero, i.size, i.bytes)) = some (some (.int .i64 0), 1, 8) := by kernel_rfl
theorem msort_perm (xs : List Int) : (xs.mergeSort fun x y => decide (x ≤ y)).Perm xs := List.mergeSort_perm _ _
theorem msort_rise (xs : List Int) : (xs.mergeSort fun x y => decide (x ≤ y)).Pairwise (· ≤ ·) := by
  have h := List.pairwise_mergeSort (le := fun x y : Int => decide (x ≤ y)) (fun a b c h1 h2 => by simp only [decide_eq_true_eq] at *; omega) (fun a b => by simp only [Bool.or_eq_true, decide_eq_true_eq]; omega) xs
  exact List.Pairwise.imp (fun h => by simpa using h) h
/-- A row that rises, of just these numbers. -/
def RowOf (w : World) (B : Nat) (v : Value) (ks : List Kn) : Prop := ∃ (g c : Nat) (xs : List Int), v = .slice (some ⟨g, 0, none⟩) xs.length c ∧ w.ownsRow B 3 1 v xs.length (xs.map (Value.int .i64)) ∧ xs.Pairwise (· ≤ ·) ∧ xs.Nodup ∧ ∀ x, x ∈ xs ↔ (kfind ks x).isSome = true

section
variable {B A b N : Nat} {sv : Value} {ks : List Kn} {ss : List (Int × Int)} {k m : Int}
set_option maxHeartbeats 8000000 in
set_option maxRecDepth 100000 in
theorem rising_fv (w : World) (h : FV w B A b sv N ks ss k m) (hN : N ≤ 274877906944) :
    Calls Try.prog 70 #[.map (some b)] w fun e w' => (∃ v, e = .returned v ∧ RowOf w' w.heap.size v ks) ∧ Below w.heap.size w w' := by
  obtain ⟨D, hD, hR⟩ := h.map
  have hblt : b < w.heap.size := h.lt.2.1
  obtain ⟨i0, hi, hz0, hz1, hz2⟩ := info_parts fvInfoInt
  have hsz := size_le hD
  have hlen := fun ty => hD.len (t := 84) Try.underlying84 ty
  obtain ⟨z, hz⟩ : ∃ z : Nat, z = Maps.size D := ⟨_, rfl⟩
  rw [← hz] at hsz hlen
  obtain ⟨w1, hmk, hown0, hg0⟩ := run_make_own (P := Try.prog) (w := w) w.heap.size 35 3 i0 (.int .i64 0) 1 Try.underlying35 hi hz0 hz1 .i64 .i64 z (by rw [hz2]; omega) (by unfold maxLen; omega) (Nat.le_refl _)
  have hb1 : Below w.heap.size w w1 := (Below.refl _ w).grown hg0 (Nat.le_refl _) (by simp)
  have hD1 : w1.ownsMap Try.prog 3 knR b N D := hD.kept hg0 (by simp)
  have HD1 := Lib.hid hD1
  have HO := Lib.hid hown0
  have HB1 := Lib.hid hb1
  have HI := Lib.hid (show _ ∧ _ ∧ _ ∧ _ from ⟨hi, hz0, hz1, hz2⟩)
  have HHAS := Lib.hid hR.has_iff
  have HZ := Lib.hid (show z = Maps.size D ∧ z ≤ N from ⟨hz, hsz⟩)
  have HBL := Lib.hid hblt
  have HSORT := Lib.hid (fun g c xs W hH hlt hs => Try.slices_Sort_int g 0 c xs W hH hlt hs)
  clear h hD hR hblt hi hz0 hz1 hz2 hsz hz hown0 hg0 hb1 hD1
  go_enter Try.func70, Try.ntmps70
  go_wp2_with (at_range; refine wpList_range_own _ rfl _ 84 rfl 3 39 keyedC Try.underlying84 knR b N D rfl HD1.out ?_)
  intro w0 hrg0 hg0 hs0
  try go_frame
  have HRG := Lib.hid hrg0
  have HG0 := Lib.hid hg0
  obtain ⟨R, hR⟩ : ∃ R, R = w1.heap.size := ⟨_, rfl⟩
  rw [← hR] at HRG ⊢
  have HRB := Lib.hid (show w.heap.size ≤ R by rw [hR]; exact HB1.out.size)
  clear hrg0 hg0 hs0 hR hmk hlen
  have HB0 := Lib.hid (HB1.out.trans (((Below.refl _ w1).grown HG0.out (Nat.le_refl _) (by simp)).mono HB1.out.size))
  go_wp2
  go_loopw [3] (fun v wr => Hid (∃ (left : Lit → Bool) (cnt : Nat) (xs : List Int), wr.ranges Try.prog 3 knR b R N D left cnt ∧ wr.ownsRow w.heap.size 3 1 v xs.length (xs.map (Value.int .i64)) ∧ v ≠ .slice none 0 0 ∧ CollI D left xs ∧ Below w.heap.size w wr ∧ xs.length + cnt ≤ N)) (fun _ wr => wr.rangeLeft b R)
  case atStart => exact Lib.hid ⟨_, _, [], HRG.out, HO.out.kept HG0.out (by simp [Value.ownBlock]), by simp, CollI.start D, HB0.out, by have := HZ.out; simp; omega⟩
  case round =>
    obtain ⟨left, cnt, xs, hrg, hown, hne, hC, hb, hcnt⟩ := hrel.out
    have HOWN := Lib.hid hown
    have HREL := Lib.hid (show _ ∧ _ ∧ _ ∧ _ ∧ _ from ⟨hrg, hne, hC, hb, hcnt⟩)
    clear hown hrg hne hC hb hcnt hrel
    go_wp2_with (at_next; refine wpList_next_ranges _ rfl _ rfl 3 keyedC knR (Value.int .i64) (fun v => v) (fun key kl hk => by obtain ⟨x, hx, _⟩ := Maps.keyOf_int_inv Try.underlying3 hk; exact ⟨x, hx⟩) (fun v _ _ => ⟨v, rfl⟩) b R N D _ _ rfl HREL.out.1 ?_ ?_)
    · intro hc0 hl0
      obtain ⟨hrg, hne, hC, hb, hcnt⟩ := HREL.out
      rcases HOWN.out.2 with ⟨e, _⟩ | ⟨g, cap, cur, rfl, hbg, hg, hl1, hl2, hl3, hl4⟩
      · exact absurd e hne
      have hxs : ∀ x, x ∈ xs ↔ (kfind ks x).isSome = true := fun x => ((hC.2 x).trans ⟨fun h => h.1, fun h => ⟨h, hl0 _⟩⟩).trans (HHAS.out x)
      have HQ := Lib.hid (HSORT.out g cap xs wr (holds_of_blockI hg (by simpa using hl4)) (lt_of_block hg) (by omega))
      have HX := Lib.hid (show _ ∧ _ ∧ _ ∧ _ ∧ _ ∧ _ ∧ _ ∧ _ from ⟨hxs, hC.1, hb, hbg, hg, hl1, hl2, hl3⟩)
      have hln : (xs.mergeSort fun x y => decide (x ≤ y)).length = xs.length := (msort_perm xs).length_eq
      have HLN := Lib.hid hln
      clear hrg hne hC hb hcnt hbg hg hl1 hl2 hl3 hl4 hxs hln hl0 hc0 HREL HOWN
      go_wp2_with fail
      refine HQ.out.mono ?_
      rintro e w9 ⟨rfl, n, os, hw9⟩
      have HW9 := Lib.hid hw9
      clear hw9
      go_wp2
      go_ret
      obtain ⟨hxs, hnd, hb, hbg, hg, hl1, hl2, hl3⟩ := HX.out
      refine ⟨⟨.slice (some ⟨g, 0, none⟩) xs.length cap, rfl, g, cap, xs.mergeSort fun x y => decide (x ≤ y), by rw [HLN.out], ?_, msort_rise xs, (msort_perm xs).nodup_iff.2 hnd, fun x => (msort_perm xs).mem_iff.trans (hxs x)⟩, ?_⟩
      · rw [HW9.out, HLN.out]
        exact ownsRow_sortedI HLN.out hbg hg hl1 hl2 hl3
      · rw [HW9.out]
        exact hb.grown (grownBy_sortedI _) hb.size (fun j hj => by injection hj with hj; omega)
    · intro x c kl y yp w2 cnt2 hkey hlk hv hat hrg2 hlt2 hg2 hs2 hen
      obtain ⟨x', ex, rfl, hwx⟩ := Maps.keyOf_int_inv Try.underlying3 hkey
      injection ex with _ ex
      subst ex
      obtain ⟨hrg, hne, hC, hb, hcnt⟩ := HREL.out
      have hap := ranges_apart hrg HOWN.out
      have ho2 := (HOWN.out.kept hg2 (Or.inr (Ne.symm hap.2))).alloc (.cells #[.int .i64 x] 3)
      have hnews := World.news_of_block (cs := #[.int .i64 x]) (heap_alloc_new w2 (.cells #[.int .i64 x] 3))
      have hone : ∀ u ∈ [Value.int .i64 x], u.oneCell' = true := fun u hu => by rw [List.mem_singleton.1 hu]; rfl
      have hb2 : Below w.heap.size w w2 := hb.grown hg2 hb.size (fun j hj => by
        injection hj with hj
        have := HRB.out
        omega)
      have HX := Lib.hid (show _ ∧ _ ∧ _ ∧ _ ∧ _ ∧ _ ∧ _ ∧ _ from ⟨ho2, hnews, hone, hb2, hrg2.alloc (.cells #[.int .i64 x] 3), hne, hC.step hlk (has_true_of_atKey hat), hrg⟩)
      have hle : xs.length + 1 ≤ N := by omega
      have hle2 : xs.length + 1 + cnt2 ≤ N := by omega
      clear hrg hne hC hb hcnt hap ho2 hnews hone hb2 hrg2 hg2 hs2 hkey hlk hv hat hwx
      obtain ⟨n9, hn9⟩ : ∃ n9, n9 = xs.length := ⟨_, rfl⟩
      rw [← hn9] at HX hle hle2
      have HN9 := Lib.hid hn9
      clear hn9 HOWN
      go_wp2_with ((with_reducible show wpList _ _ _ (⟨some 17, _, _, _, _, _⟩ :: _) _ _); refine wpList_append_own (o := ⟨some 17, _, _, _, _, _⟩) _ rfl _ _ 35 rfl w.heap.size 3 i0 (.int .i64 0) 1 8 Try.underlying35 HI.out.1 HI.out.2.1 HI.out.2.2.1 HI.out.2.2.2 rfl (by decide) _ _ _ rfl HX.out.1 ⟨w2.heap.size, 0, none⟩ 1 1 [.int .i64 x] rfl rfl HX.out.2.1 HX.out.2.2.1 (by unfold maxLen; omega) (by omega) (by rw [World.size_alloc]; have := HX.out.2.2.2.1.size; omega) ?_)
      intro v3 w3 hown3 hgrow3 hnil3
      have hap3 := ranges_apart HX.out.2.2.2.2.1 HX.out.1
      have hrg3 := HX.out.2.2.2.2.1.kept hgrow3 hap3.1 hap3.2
      have HR := Lib.hid (show _ ∧ _ ∧ _ ∧ _ from ⟨hrg3, hown3, hnil3, hgrow3⟩)
      clear hap3 hrg3 hown3 hnil3 hgrow3 hen
      go_wp2
      go_roundw
      case rel =>
        refine Lib.hid ⟨_, cnt2, xs ++ [x], HR.out.1, ?_, ?_, HX.out.2.2.2.2.2.2.1, ?_, ?_⟩
        · rw [List.length_append, List.length_singleton, List.map_append, ← HN9.out]
          exact HR.out.2.1
        · intro e
          exact HR.out.2.2.1 e
        · have hb2 := HX.out.2.2.2.1
          exact (hb2.trans (((Below.refl _ _).alloc (Nat.le_refl _) _).mono hb2.size)).grown HR.out.2.2.2 (by rw [World.size_alloc]; have := hb2.size; omega) (fun j hj => (fv_block HX.out.1 hj).1)
        · rw [List.length_append, List.length_singleton, ← HN9.out]
          exact hle2
      case measure =>
        rw [HR.out.1.left_eq, HX.out.2.2.2.2.2.2.2.left_eq]
        omega
set_option maxHeartbeats 4000000 in
set_option maxRecDepth 100000 in
theorem cells_fv (w : World) (h : FV w B A b sv N ks ss k m) (hN : N ≤ 274877906944) (hk : KsOk ks) :
    Calls Try.prog 48 #[.pointer (some ⟨A, 0, none⟩)] w fun e w' => (∃ g c, e = .returned (.slice (some ⟨g, 0, none⟩) (cellsOf ks).length c) ∧ w'.ownsRow w.heap.size 3 1 (.slice (some ⟨g, 0, none⟩) (cellsOf ks).length c) (cellsOf ks).length ((cellsOf ks).map (Value.int .i64))) ∧ Below w.heap.size w w' := by
  have HK := Lib.hid (known_fv w h)
  have HR := Lib.hid (rising_fv w h hN)
  clear h
  go_enter Try.func48, Try.ntmps48
  go_wp2_with fail
  refine HK.out.mono ?_
  rintro e w3 ⟨rfl, h3⟩
  rw [← h3]
  clear h3
  go_wp2_with fail
  refine HR.out.mono ?_
  rintro e w4 ⟨⟨v, rfl, g, c, xs, rfl, ho, hs, hn, hm⟩, hb⟩
  obtain rfl := cells_eq hk hs hn hm
  have HO := Lib.hid ho
  have HB := Lib.hid hb
  clear ho hs hn hm hb
  go_wp2
  go_ret
  exact ⟨⟨g, c, rfl, HO.out⟩, HB.out⟩
end
end Go.Proofs.Ytefmnfplipdnmaa
