/- (*sip.Pen).Num, at a pen that is not nil: all numbers of the list, one behind the other. Conditions: numbers below 2^64; fewer than 2^45 bytes written, and at most 100 numbers; the list lies in no block of the pen's. -/
import Derived.Test.YtgckgagnodkhjaaRRRRDoorPenDigits
namespace Go.Proofs.YtgckgagnodkhjaaRRRRDoor
open Go.RowKit

theorem nums_snoc (a : List Nat) (x : Nat) : nums (a ++ [x]) = nums a ++ Lib.uvarint x := by rw [nums_append]; simp [nums]

theorem take_snoc_nat (xs : List Nat) (k : Nat) (hk : k < xs.length) : xs.take (k + 1) = xs.take k ++ [xs.getD k 0] := by
  rw [List.take_add_one, List.getD_eq_getElem?_getD, List.getElem?_eq_getElem hk]; rfl

theorem getD_lt (xs : List Nat) (h : ∀ x ∈ xs, x < 18446744073709551616) (k : Nat) : xs.getD k 0 < 18446744073709551616 := by
  by_cases hk : k < xs.length
  · rw [List.getD_eq_getElem?_getD, List.getElem?_eq_getElem hk]; exact h _ (List.getElem_mem hk)
  · rw [List.getD_eq_getElem?_getD, List.getElem?_eq_none (by omega)]; simp

set_option maxHeartbeats 1600000 in
set_option maxRecDepth 100000 in
theorem penNum_any (B pb g len cap : Nat) (xs : List Nat) (l : List UInt8) (w : World) (hx : ∀ x ∈ xs, x < 18446744073709551616) (hlen : xs.length = len) (h100 : len ≤ 100) (hl : l.length ≤ 35184372088832) (hpen : Pen w B pb l) (hB : B ≤ w.heap.size)
    (hg1 : g ≠ pb) (hg2 : some g ≠ penRow w pb) (hc : ∀ j, j < len → w.cell? ⟨g, j, none⟩ = some (.int .u64 (xs.getD j 0 : Nat))) :
    Calls Tryd.prog 25 #[.pointer (some ⟨pb, 0, none⟩), .slice (some ⟨g, 0, none⟩) len cap] w fun e w' => e = .returned (.tuple #[]) ∧ DigitsDone w w' B pb (l ++ nums xs) := by
  have hmine := Lib.hid hlen
  clear hlen
  go_enter Tryd.func25, Tryd.ntmps25
  go_wp2
  go_loopw [10] (fun vj wr => ∃ j : Nat, vj = .int .i64 j ∧ j ≤ len ∧ DigitsDone w wr B pb (l ++ nums (xs.take j))) (fun vj _ => len - (intOf vj).toNat)
  case atStart => exact ⟨0, rfl, Nat.zero_le _, by simpa [nums] using hpen, Wr.refl _ _⟩
  case round =>
    obtain ⟨j, rfl, hj, hpr, hwr⟩ := hrel
    have hBw : B ≤ wr.heap.size := Nat.le_trans hB hwr.size
    by_cases hlt : j < len
    · have hgs : g < w.heap.size := World.block_lt_of_cell? w _ (hc j hlt)
      have hcell : wr.cell? ⟨g, j, none⟩ = some (.int .u64 (xs.getD j 0 : Nat)) := (hwr.cell hgs hg1 hg2).trans (hc j hlt)
      have hxj : xs.getD j 0 < 18446744073709551616 := getD_lt xs hx j
      have hsn : nums (xs.take (j + 1)) = nums (xs.take j) ++ Lib.uvarint (xs.getD j 0) := by
        rw [take_snoc_nat xs j (by rw [hmine.out]; exact hlt), nums_snoc]
      have hnl : (nums (xs.take j)).length ≤ 1000 := by
        have := nums_length (xs.take j) (fun x hx' => hx x (List.mem_of_mem_take hx'))
        have h2 := List.length_take_le j xs
        omega
      have HS := Lib.hid hsn
      clear hsn
      generalize xs.getD j 0 = x at *
      go_wp2_with fail
      refine (digits_any B pb x _ _ hxj (by simp; omega) hpr hBw).mono ?_
      rintro e w' ⟨rfl, hd⟩
      go_wp2
      go_roundw
      case rel =>
        refine ⟨j + 1, by go_num, by omega, ?_⟩
        rw [HS.out, ← List.append_assoc]
        exact ⟨hd.1, hwr.trans hd.2⟩
      case measure => simp [intOf]; omega
    · have hjl : j = len := by omega
      subst hjl
      go_wp2
      go_end0
      refine ⟨rfl, ?_⟩
      have : xs.take j = xs := by rw [← hmine.out, List.take_length]
      rw [this] at hpr
      exact ⟨hpr, hwr⟩
end Go.Proofs.YtgckgagnodkhjaaRRRRDoor
