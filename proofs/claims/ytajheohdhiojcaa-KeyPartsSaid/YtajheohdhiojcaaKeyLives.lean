/- bowerlaw03.light on a row of its own, and lives: the chapter's examples are answered true. -/
import Derived.Test.YtajheohdhiojcaaKeyRest
import Derived.LoopTactic
namespace Go.Proofs.Ytajheohdhiojcaa
open Go.RowKit

/-- Are all texts short? -/
def lightB (xs : List ByteArray) : Bool := xs.all fun s => decide (s.size ≤ 300)

theorem lightB_no (xs : List ByteArray) (i : Nat) (hi : i < xs.length) (h : 300 < xs[i].size) : lightB xs = false := by
  unfold lightB
  rw [List.all_eq_false]
  exact ⟨xs[i], List.getElem_mem hi, by simp; omega⟩

theorem lightB_yes (xs : List ByteArray) (h : ∀ i (hi : i < xs.length), xs[i].size ≤ 300) : lightB xs = true := by
  unfold lightB
  rw [List.all_eq_true]
  intro s hs
  obtain ⟨i, hi, rfl⟩ := List.getElem_of_mem hs
  simpa using h i hi

theorem lightB_size {xs : List ByteArray} (h : lightB xs = true) : ∀ s ∈ xs, s.size ≤ 300 := by
  unfold lightB at h
  rw [List.all_eq_true] at h
  intro s hs
  simpa using h s hs

set_option maxHeartbeats 1000000 in
theorem light_any (g : Nat) (xs : List ByteArray) (n : Nat) (hn : n = xs.length) (w : World) (hx : xs.length ≤ 1000) (hc : ∀ i (hi : i < xs.length), w.cell? ⟨g, i, none⟩ = some (.string xs[i])) :
    Calls Try.prog 40 #[.slice (some ⟨g, 0, none⟩) n n] w fun e w' => e = .returned (.bool (lightB xs)) ∧ w' = w := by
  have HL := Lib.hid hn
  have HC := Lib.hid hc
  have hnb : n ≤ 1000 := by omega
  have HN := Lib.hid (lightB_no xs)
  have HY := Lib.hid (lightB_yes xs)
  generalize lightB xs = r at *
  clear hc hn hx
  go_enter Try.func40, Try.ntmps40
  go_wp2
  go_loop [7] (fun i => ∃ k : Nat, i = .int .i64 k ∧ k ≤ n ∧ Hid (∀ i (hi : i < k) (h2 : i < xs.length), xs[i].size ≤ 300)) (fun i => n - (intOf i).toNat)
  case atStart => exact ⟨0, rfl, Nat.zero_le _, Lib.hid (fun i hi => absurd hi (Nat.not_lt_zero _))⟩
  case round =>
    obtain ⟨k, rfl, hk, hall⟩ := hrel
    by_cases hlt : k < n
    · have hln := HL.out
      have hck := HC.out k (by omega)
      have hkx : k < xs.length := by omega
      have hcz : 300 < xs[k].size → r = false := fun h => HN.out k hkx h
      have hnext : xs[k].size ≤ 300 → ∀ i (hi : i < k + 1) (h2 : i < xs.length), xs[i].size ≤ 300 := fun h i hi h2 => by
        by_cases e : i = k
        · subst e; exact h
        · exact hall.out i (by omega) h2
      generalize xs[k] = s at *
      clear hln hkx
      have HZ := Lib.hid hcz
      have HX := Lib.hid hnext
      clear hcz hnext
      by_cases hs : 300 < s.size
      · have gs : (300 : Int) < s.size := by omega
        go_wp2
        go_ret
        exact ⟨ret_b (HZ.out hs).symm, rfl⟩
      · have gs : (s.size : Int) ≤ 300 := by omega
        go_wp2
        go_round
        case rel => exact ⟨k + 1, by go_num, by omega, Lib.hid (HX.out (by omega))⟩
        case measure => simp [intOf]; omega
    · have hr := HY.out (fun i hi => hall.out i (by have := HL.out; omega) hi)
      have HR := Lib.hid hr
      clear hr
      go_wp2
      go_ret
      exact ⟨ret_b HR.out.symm, rfl⟩

set_option maxHeartbeats 1000000 in
theorem lives03 (w : World) : Calls Try.prog 41 #[] w fun e w' => e = .returned (.bool true) ∧ Below w.heap.size w w' := by
  have H1 := fun W => Lib.hid (parting_yes ⟨#[97, 98, 99]⟩ ⟨#[97, 98, 120, 121]⟩ W (by decide) (by decide) (by decide +kernel))
  have H2 := fun W => Lib.hid (parting_yes ⟨#[97]⟩ ⟨#[97, 98]⟩ W (by decide) (by decide) (by decide +kernel))
  have H3 := fun W => Lib.hid (after_any ⟨#[97]⟩ W (by decide))
  have H4 := fun W => Lib.hid (check_any ⟨#[97]⟩ W)
  have H5 := fun W => Lib.hid (inside_any ⟨#[97]⟩ ⟨#[99]⟩ false ⟨#[98]⟩ W (by decide) (by decide) (by decide))
  rw [show ByteArray.extract ⟨#[97, 98, 120, 121]⟩ 0 (cpl (ByteArray.mk #[97, 98, 99]).data.toList (ByteArray.mk #[97, 98, 120, 121]).data.toList + 1) = ⟨#[97, 98, 120]⟩ by decide +kernel] at H1
  rw [show ByteArray.extract ⟨#[97, 98]⟩ 0 (cpl (ByteArray.mk #[97]).data.toList (ByteArray.mk #[97, 98]).data.toList + 1) = ⟨#[97, 98]⟩ by decide +kernel] at H2
  rw [show (ByteArray.mk #[97] ++ ByteArray.mk #[0]) = ⟨#[97, 0]⟩ by decide +kernel] at H3
  rw [show (if (ByteArray.mk #[97]).size = 0 ∨ 64 < (ByteArray.mk #[97]).size then (2 : Int) else 0) = 0 by decide] at H4
  rw [show insideB (ByteArray.mk #[97]).data.toList (ByteArray.mk #[99]).data.toList false (ByteArray.mk #[98]).data.toList = true by decide +kernel] at H5
  go_enter Try.func41, Try.ntmps41
  go_wp2_with fail
  refine (H1 _).out.mono ?_
  rintro e w1 ⟨rfl, hb1⟩
  go_wp2_with fail
  refine (H2 _).out.mono ?_
  rintro e w2 ⟨rfl, hb2⟩
  have b2 := hb1.trans (hb2.mono hb1.size)
  clear hb1 hb2
  go_wp2_with fail
  refine (H3 _).out.mono ?_
  rintro e w3 ⟨rfl, rfl⟩
  go_wp2_with fail
  refine (H4 _).out.mono ?_
  rintro e w3 ⟨rfl, rfl⟩
  go_wp2_with fail
  refine (H5 _).out.mono ?_
  rintro e w5 ⟨rfl, hb5⟩
  go_wp2
  go_ret
  exact ⟨rfl, b2.trans (hb5.mono b2.size)⟩
end Go.Proofs.Ytajheohdhiojcaa
