/- (*sip.Pen).Int, Truth, Text, Len, Bytes at a pen that is not nil, and sip.fold. Conditions: as for Num. -/
import Derived.Test.YtajheohdhiojcaaPenNum
import Derived.Lib.Zigzag
namespace Go.Proofs.Ytajheohdhiojcaa
open Go.RowKit

theorem info_parts5 : ∃ i0, Try.prog.info? 5 = some i0 ∧ i0.zero = some (Value.int .u8 0) ∧ i0.size = 1 ∧ i0.bytes = 1 := by
  obtain ⟨i0, hi, hz0, hz1, hz2⟩ := info_parts Try.info5
  exact ⟨i0, hi, hz0, hz1, hz2⟩

set_option maxHeartbeats 400000 in
theorem fold_any (x : Int) (w : World) (h0 : -9223372036854775808 ≤ x) (h1 : x ≤ 9223372036854775807) :
    Calls Try.prog 74 #[.int .i64 x] w fun e w' => e = .returned (.int .u64 (Lib.zigzag x : Nat)) ∧ w = w' := by
  by_cases hn : x < 0
  · have hz := Lib.zigzag_neg h0 hn
    go_enter Try.func74, Try.ntmps74
    go_wp2
    go_ret
    exact ⟨rfl, rfl⟩
  · have hz := Lib.zigzag_nonneg (x := x) (by omega)
    go_enter Try.func74, Try.ntmps74
    go_wp2
    go_ret
    exact ⟨rfl, rfl⟩

set_option maxHeartbeats 400000 in
theorem penLen_any (B pb : Nat) (l : List UInt8) (w : World) (hpen : Pen w B pb l) :
    Calls Try.prog 18 #[.pointer (some ⟨pb, 0, none⟩)] w fun e w' => e = .returned (.int .i64 l.length) ∧ w = w' := by
  obtain ⟨v, h1, h2, h3, h4⟩ := hpen
  obtain ⟨ao, c, rfl⟩ := own_slice h2
  have k0 := cell_of_one h1
  clear h1 h2 h3 h4
  go_enter Try.func18, Try.ntmps18
  go_wp2
  go_ret
  exact ⟨rfl, rfl⟩

theorem penRow_alloc {w : World} {pb : Nat} (h : pb < w.heap.size) (o : Obj) : penRow (w.alloc o) pb = penRow w pb := by unfold penRow; rw [World.cell?_alloc_past _ _ _ h]

theorem num_one (B pb x : Nat) (l : List UInt8) (w : World) (hx : x < 18446744073709551616) (hl : l.length ≤ 35184372088832) (hpen : Pen w B pb l) (hB : B ≤ w.heap.size) (g : Nat) (hg : g = w.heap.size) :
    Calls Try.prog 27 #[.pointer (some ⟨pb, 0, none⟩), .slice (some ⟨g, 0, none⟩) 1 1] (w.alloc (.cells #[.int .u64 x] 28)) fun e w' => e = .returned (.tuple #[]) ∧ DigitsDone w w' B pb (l ++ Lib.uvarint x) := by
  subst hg
  have hlt := hpen.lt
  refine (penNum_any B pb w.heap.size 1 1 [x] l _ (by simpa using hx) rfl (by omega) hl (hpen.alloc _) (by simp; omega) (by omega) ?_ ?_).mono ?_
  · rw [penRow_alloc hlt]
    intro e
    have := (hpen.row _ e.symm).2.1
    omega
  · intro j hj
    match j, hj with
    | 0, _ => exact (World.cell?_alloc_new _ _ _ _).trans (by simp)
  · rintro e w' ⟨rfl, hd⟩
    refine ⟨rfl, by simpa [nums] using hd.1, ((Wr.refl _ _).alloc hlt _).trans hd.2⟩

def zigs (xs : List Int) : List Nat := xs.map Lib.zigzag

theorem take_snoc_int (xs : List Int) (k : Nat) (hk : k < xs.length) : xs.take (k + 1) = xs.take k ++ [xs.getD k 0] := by
  rw [List.take_add_one, List.getD_eq_getElem?_getD, List.getElem?_eq_getElem hk]; rfl

theorem getD_range (xs : List Int) (h : ∀ x ∈ xs, -9223372036854775808 ≤ x ∧ x ≤ 9223372036854775807) (k : Nat) : -9223372036854775808 ≤ xs.getD k 0 ∧ xs.getD k 0 ≤ 9223372036854775807 := by
  by_cases hk : k < xs.length
  · rw [List.getD_eq_getElem?_getD, List.getElem?_eq_getElem hk]; exact h _ (List.getElem_mem hk)
  · rw [List.getD_eq_getElem?_getD, List.getElem?_eq_none (by omega)]; simp

set_option maxHeartbeats 1600000 in
set_option maxRecDepth 100000 in
theorem penInt_any (B pb g len cap : Nat) (xs : List Int) (l : List UInt8) (w : World) (hx : ∀ x ∈ xs, -9223372036854775808 ≤ x ∧ x ≤ 9223372036854775807) (hlen : xs.length = len) (h100 : len ≤ 100) (hl : l.length ≤ 17592186044416) (hpen : Pen w B pb l) (hB : B ≤ w.heap.size)
    (hg1 : g ≠ pb) (hg2 : some g ≠ penRow w pb) (hc : ∀ j, j < len → w.cell? ⟨g, j, none⟩ = some (.int .i64 (xs.getD j 0))) :
    Calls Try.prog 53 #[.pointer (some ⟨pb, 0, none⟩), .slice (some ⟨g, 0, none⟩) len cap] w fun e w' => e = .returned (.tuple #[]) ∧ DigitsDone w w' B pb (l ++ nums (zigs xs)) := by
  have hmine := Lib.hid hlen
  clear hlen
  go_enter Try.func53, Try.ntmps53
  go_wp2
  go_loopw [8] (fun vj wr => ∃ j : Nat, vj = .int .i64 j ∧ j ≤ len ∧ DigitsDone w wr B pb (l ++ nums (zigs (xs.take j)))) (fun vj _ => len - (intOf vj).toNat)
  case atStart => exact ⟨0, rfl, Nat.zero_le _, by simpa [nums, zigs] using hpen, Wr.refl _ _⟩
  case round =>
    obtain ⟨j, rfl, hj, hpr, hwr⟩ := hrel
    have hBw : B ≤ wr.heap.size := Nat.le_trans hB hwr.size
    by_cases hlt : j < len
    · have hgs : g < w.heap.size := World.block_lt_of_cell? w _ (hc j hlt)
      have hcell : wr.cell? ⟨g, j, none⟩ = some (.int .i64 (xs.getD j 0)) := (hwr.cell hgs hg1 hg2).trans (hc j hlt)
      obtain ⟨hx0, hx1⟩ := getD_range xs hx j
      have hsn : nums (zigs (xs.take (j + 1))) = nums (zigs (xs.take j)) ++ Lib.uvarint (Lib.zigzag (xs.getD j 0)) := by
        rw [take_snoc_int xs j (by rw [hmine.out]; exact hlt)]
        unfold zigs
        rw [List.map_append]
        exact nums_snoc _ _
      have hnl : (nums (zigs (xs.take j))).length ≤ 1000 := by
        have := nums_length (zigs (xs.take j)) (fun x hx' => by
          obtain ⟨y, hy, rfl⟩ := List.mem_map.1 hx'
          have := hx y (List.mem_of_mem_take hy)
          exact Lib.zigzag_lt this.1 this.2)
        have h2 := List.length_take_le j xs
        have h3 : (zigs (xs.take j)).length = (xs.take j).length := List.length_map _
        omega
      have HS := Lib.hid hsn
      clear hsn
      generalize xs.getD j 0 = x at *
      have hz := Lib.zigzag_lt hx0 hx1
      go_wp2_with fail
      refine (fold_any x _ hx0 hx1).mono ?_
      rintro e w' ⟨rfl, rfl⟩
      go_wp2_with fail
      refine (num_one B pb (Lib.zigzag x) _ _ hz (by simp; omega) hpr hBw _ rfl).mono ?_
      rintro e w' ⟨rfl, hd⟩
      go_wp2
      go_roundw
      case rel =>
        refine ⟨j + 1, by go_num, by omega, ?_⟩
        rw [HS.out, ← List.append_assoc]
        exact ⟨hd.1, hwr.trans hd.2⟩
      case measure => simp [intOf]; omega
    · have hjl : j = len := by omega
      subst hjl
      go_wp2
      go_end0
      refine ⟨rfl, ?_⟩
      have : xs.take j = xs := by rw [← hmine.out, List.take_length]
      rw [this] at hpr
      exact ⟨hpr, hwr⟩

set_option maxHeartbeats 1600000 in
set_option maxRecDepth 100000 in
/-- One truth. -/
theorem penTruth_one (B pb g : Nat) (b : Bool) (l : List UInt8) (w : World) (hl : l.length ≤ 17592186044416) (hpen : Pen w B pb l) (hB : B ≤ w.heap.size)
    (hc : w.cell? ⟨g, 0, none⟩ = some (.bool b)) :
    Calls Try.prog 56 #[.pointer (some ⟨pb, 0, none⟩), .slice (some ⟨g, 0, none⟩) 1 1] w fun e w' => e = .returned (.tuple #[]) ∧ DigitsDone w w' B pb (l ++ Lib.uvarint (if b then 1 else 0)) := by
  cases b
  all_goals
    go_enter Try.func56, Try.ntmps56
    go_wp2
    refine wp_loop_rounds 2 ?_
    rw [rounds_succ]
    go_wp2_with fail
  · refine (num_one B pb 0 _ _ (by omega) (by omega) hpen hB _ rfl).mono ?_
    rintro e w' ⟨rfl, hd⟩
    go_wp2
    rw [rounds_succ]
    go_wp2
    go_end0
    exact ⟨rfl, hd⟩
  · refine (num_one B pb 1 _ _ (by omega) (by omega) hpen hB _ rfl).mono ?_
    rintro e w' ⟨rfl, hd⟩
    go_wp2
    rw [rounds_succ]
    go_wp2
    go_end0
    exact ⟨rfl, hd⟩

theorem int_one (B pb : Nat) (x : Int) (l : List UInt8) (w : World) (h0 : -9223372036854775808 ≤ x) (h1 : x ≤ 9223372036854775807) (hl : l.length ≤ 17592186044416) (hpen : Pen w B pb l) (hB : B ≤ w.heap.size) (g : Nat) (hg : g = w.heap.size) :
    Calls Try.prog 53 #[.pointer (some ⟨pb, 0, none⟩), .slice (some ⟨g, 0, none⟩) 1 1] (w.alloc (.cells #[.int .i64 x] 3)) fun e w' => e = .returned (.tuple #[]) ∧ DigitsDone w w' B pb (l ++ Lib.uvarint (Lib.zigzag x)) := by
  subst hg
  have hlt := hpen.lt
  refine (penInt_any B pb w.heap.size 1 1 [x] l _ (by simpa using ⟨h0, h1⟩) rfl (by omega) hl (hpen.alloc _) (by simp; omega) (by omega) ?_ ?_).mono ?_
  · rw [penRow_alloc hlt]
    intro e
    have := (hpen.row _ e.symm).2.1
    omega
  · intro j hj
    match j, hj with
    | 0, _ => exact (World.cell?_alloc_new _ _ _ _).trans (by simp)
  · rintro e w' ⟨rfl, hd⟩
    refine ⟨rfl, by simpa [nums, zigs] using hd.1, ((Wr.refl _ _).alloc hlt _).trans hd.2⟩

theorem truth_one (B pb : Nat) (b : Bool) (l : List UInt8) (w : World) (hl : l.length ≤ 17592186044416) (hpen : Pen w B pb l) (hB : B ≤ w.heap.size) (g : Nat) (hg : g = w.heap.size) :
    Calls Try.prog 56 #[.pointer (some ⟨pb, 0, none⟩), .slice (some ⟨g, 0, none⟩) 1 1] (w.alloc (.cells #[.bool b] 4)) fun e w' => e = .returned (.tuple #[]) ∧ DigitsDone w w' B pb (l ++ Lib.uvarint (if b then 1 else 0)) := by
  subst hg
  have hlt := hpen.lt
  refine (penTruth_one B pb w.heap.size b l _ hl (hpen.alloc _) (by simp; omega) ((World.cell?_alloc_new _ _ _ _).trans (by simp))).mono ?_
  rintro e w' ⟨rfl, hd⟩
  exact ⟨rfl, hd.1, ((Wr.refl _ _).alloc hlt _).trans hd.2⟩
end Go.Proofs.Ytajheohdhiojcaa
