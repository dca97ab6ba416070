/- bowerlaw04.light, bowerref04.Has on any row of texts, and lives: the chapter's example is answered true. -/
import Derived.Test.YtajheohdhiojcabFind2
namespace Go.Proofs.Ytajheohdhiojcab
open Go.RowKit

/-- Is a row short? -/
def lightR (xs : List ByteArray) (k : ByteArray) : Bool := xs.all (fun s => decide (s.size ≤ 100)) && (decide (xs.length ≤ 100) && decide (k.size ≤ 100))

theorem lightR_text (xs : List ByteArray) (k : ByteArray) (i : Nat) (hi : i < xs.length) (h : 100 < (nth xs i).size) : lightR xs k = false := by
  rw [nth_eq hi] at h
  unfold lightR
  have : xs.all (fun s => decide (s.size ≤ 100)) = false := by
    rw [List.all_eq_false]
    exact ⟨xs[i], List.getElem_mem hi, by simp; omega⟩
  rw [this]; rfl

theorem lightR_rest (xs : List ByteArray) (k : ByteArray) (h : ∀ i, i < xs.length → (nth xs i).size ≤ 100) : lightR xs k = (decide (xs.length ≤ 100) && decide (k.size ≤ 100)) := by
  unfold lightR
  have : xs.all (fun s => decide (s.size ≤ 100)) = true := by
    rw [List.all_eq_true]
    intro s hs
    obtain ⟨i, hi, rfl⟩ := List.getElem_of_mem hs
    have := h i hi
    rw [nth_eq hi] at this
    simpa using this
  rw [this]; rfl

theorem lightR_size {xs : List ByteArray} {k : ByteArray} (h : lightR xs k = true) : (∀ x ∈ xs, x.size ≤ 100) ∧ xs.length ≤ 100 ∧ k.size ≤ 100 := by
  unfold lightR at h
  simp only [Bool.and_eq_true, decide_eq_true_eq, List.all_eq_true] at h
  exact h

set_option maxHeartbeats 1000000 in
theorem lightR_any (v : Value) (k : ByteArray) (xs : List ByteArray) (w : World) (hr : Rd w v (xs.map Value.string)) :
    Calls Try.prog 12 #[v, .string k] w fun e w' => e = .returned (.bool (lightR xs k)) ∧ w' = w := by
  obtain ⟨ao, c, hv⟩ := hr.open
  rw [List.length_map] at hv
  subst hv
  have HR := Lib.hid hr
  have hlb := hr.len
  rw [List.length_map] at hlb
  have hnb := hlb.2.1
  have hnb2 := hlb.2.2
  clear hlb hr
  have HT := Lib.hid (lightR_text xs k)
  have HE := Lib.hid (lightR_rest xs k)
  obtain ⟨n, hL⟩ : ∃ n, n = xs.length := ⟨_, rfl⟩
  rw [← hL] at HR hnb HT HE ⊢
  have HLen := Lib.hid hL
  clear hL
  generalize lightR xs k = r at *
  go_enter Try.func12, Try.ntmps12
  go_wp2
  go_loop [9] (fun s => ∃ i : Nat, s = .int .i64 i ∧ i ≤ n ∧ Hid (∀ j, j < i → (nth xs j).size ≤ 100)) (fun s => n - (intOf s).toNat)
  case atStart => exact ⟨0, rfl, Nat.zero_le _, Lib.hid (fun i hi => absurd hi (Nat.not_lt_zero _))⟩
  case round =>
    obtain ⟨i, rfl, hi, hall⟩ := hrel
    by_cases hlt : i < n
    · obtain ⟨g, o, rfl, hc, _, hcs⟩ := HR.out.text i hlt
      clear hcs
      have ht := HT.out i hlt
      have hnext : (nth xs i).size ≤ 100 → ∀ j, j < i + 1 → (nth xs j).size ≤ 100 := fun h j hj => by
        by_cases e : j = i
        · subst e; exact h
        · exact hall.out j (by omega)
      have HT1 := Lib.hid ht
      have HN := Lib.hid hnext
      clear ht hnext
      generalize nth xs i = s at *
      by_cases hs : 100 < s.size
      · have gs : (100 : Int) < s.size := by omega
        go_wp2
        go_ret
        exact ⟨ret_b (HT1.out hs).symm, rfl⟩
      · have gs : (s.size : Int) ≤ 100 := by omega
        go_wp2
        go_round
        case rel => exact ⟨i + 1, by go_num, by omega, Lib.hid (HN.out (by omega))⟩
        case measure => simp [intOf]; omega
    · have hr := HE.out (fun j hj => hall.out j (by omega))
      have HRR := Lib.hid hr
      clear hr
      by_cases h1 : n ≤ 100
      · have d1 : (n : Int) ≤ 100 := by omega
        by_cases h2 : k.size ≤ 100
        · have d2 : (k.size : Int) ≤ 100 := by omega
          go_wp2
          go_ret
          exact ⟨ret_b (by rw [HRR.out]; simp [h1, h2]; try omega), rfl⟩
        · have d2 : (100 : Int) < k.size := by omega
          go_wp2
          go_ret
          exact ⟨ret_b (by rw [HRR.out]; simp [h1, h2]; try omega), rfl⟩
      · have d1 : (100 : Int) < n := by omega
        go_wp2
        go_ret
        exact ⟨ret_b (by rw [HRR.out]; simp [h1]), rfl⟩

set_option maxHeartbeats 1000000 in
/-- bowerref04.Has: is a text there? -/
theorem rhas_any (v : Value) (k : ByteArray) (xs : List ByteArray) (r : Bool) (w : World) (hr : Rd w v (xs.map Value.string)) (hu : r = true ↔ k ∈ xs) :
    Calls Try.prog 16 #[v, .string k] w fun e w' => e = .returned (.bool r) ∧ w' = w := by
  obtain ⟨ao, c, hv⟩ := hr.open
  rw [List.length_map] at hv
  subst hv
  have HR := Lib.hid hr
  have hlb := hr.len
  rw [List.length_map] at hlb
  have hnb := hlb.2.1
  have hnb2 := hlb.2.2
  have HU := Lib.hid hu
  clear hlb hr hu
  obtain ⟨n, hL⟩ : ∃ n, n = xs.length := ⟨_, rfl⟩
  rw [← hL] at HR hnb ⊢
  have HLen := Lib.hid hL
  clear hL
  go_enter Try.func16, Try.ntmps16
  go_wp2
  go_loop [5] (fun s => ∃ i : Nat, s = .int .i64 i ∧ i ≤ n ∧ Hid (∀ j, j < i → nth xs j ≠ k)) (fun s => n - (intOf s).toNat)
  case atStart => exact ⟨0, rfl, Nat.zero_le _, Lib.hid (fun i hi => absurd hi (Nat.not_lt_zero _))⟩
  case round =>
    obtain ⟨i, rfl, hi, hall⟩ := hrel
    by_cases hlt : i < n
    · obtain ⟨g, o, rfl, hc, hix, hcs⟩ := HR.out.text i hlt
      clear hcs
      by_cases he : nth xs i = k
      · have hq := text_eq he
        have hres : r = true := HU.out.2 (by rw [← he, nth_eq hix]; exact List.getElem_mem hix)
        have HRR := Lib.hid hres
        clear he hres hix
        generalize nth xs i = s at *
        go_wp2
        go_ret
        exact ⟨ret_b HRR.out.symm, rfl⟩
      · have hq := text_ne he
        have hnext : ∀ j, j < i + 1 → nth xs j ≠ k := fun j hj => by
          by_cases e : j = i
          · subst e; exact he
          · exact hall.out j (by omega)
        have HN := Lib.hid hnext
        clear he hnext hix
        generalize nth xs i = s at *
        go_wp2
        go_round
        case rel => exact ⟨i + 1, by go_num, by omega, HN⟩
        case measure => simp [intOf]; omega
    · have hres : r = false := by
        cases hr : r with
        | false => rfl
        | true =>
          have := HU.out.1 hr
          obtain ⟨j, hj, e⟩ := List.getElem_of_mem this
          exact absurd (by rw [nth_eq hj]; exact e) (hall.out j (by have := HLen.out; omega))
      have HRR := Lib.hid hres
      clear hres
      go_wp2
      go_ret
      exact ⟨ret_b HRR.out.symm, rfl⟩

def acRow : List ByteArray := [⟨#[97]⟩, ⟨#[99]⟩]

theorem ac_rises : Rises acRow := by
  intro i hi
  have : i = 0 := by simp [acRow] at hi; omega
  subst this
  show lss (ByteArray.mk #[97]).data.toList (ByteArray.mk #[99]).data.toList = true
  decide +kernel

theorem edge_find (k : ByteArray) (at_ n : Nat) (h : Edge acRow.length at_ (pFind acRow k)) (hn : n ≤ 2) (h1 : ∀ i, i < n → pFind acRow k i = false) (h2 : ∀ i, n ≤ i → i < 2 → pFind acRow k i = true) : at_ = n := h.one ⟨hn, h1, h2⟩

theorem find_b (at_ : Nat) (h : Edge acRow.length at_ (pFind acRow ⟨#[98]⟩)) : at_ = 1 :=
  edge_find _ at_ 1 h (by decide) (fun i hi => by have : i = 0 := by omega
                                                  subst this; decide +kernel) (fun i h1 h2 => by have : i = 1 := by omega
                                                                                                 subst this; decide +kernel)
theorem find_c (at_ : Nat) (h : Edge acRow.length at_ (pFind acRow ⟨#[99]⟩)) : at_ = 1 :=
  edge_find _ at_ 1 h (by decide) (fun i hi => by have : i = 0 := by omega
                                                  subst this; decide +kernel) (fun i h1 h2 => by have : i = 1 := by omega
                                                                                                 subst this; decide +kernel)
theorem floor_b (at_ : Nat) (h : Edge acRow.length at_ (pFloor acRow ⟨#[98]⟩)) : at_ = 1 :=
  h.one ⟨by decide, fun i hi => by have : i = 0 := by omega
                                   subst this; decide +kernel, fun i h1 h2 => by have : i = 1 := by simp [acRow] at h2; omega
                                                                                 subst this; decide +kernel⟩

set_option maxHeartbeats 2000000 in
theorem lives04 (w : World) : Calls Try.prog 6 #[] w fun e w' => e = .returned (.bool true) ∧ Below w.heap.size w w' := by
  have hb0 := (one_alloc w (.cells #[.string ⟨#[97]⟩, .string ⟨#[99]⟩] 9)).2
  have hrd : Rd (w.alloc (.cells #[.string ⟨#[97]⟩, .string ⟨#[99]⟩] 9)) (.slice (some ⟨w.heap.size, 0, none⟩) 2 2) (acRow.map Value.string) :=
    (show Whole (w.alloc (.cells #[.string ⟨#[97]⟩, .string ⟨#[99]⟩] 9)) 9 w.heap.size (acRow.map Value.string) from heap_alloc_new _ _).rd (by decide)
  have hx : ∀ x ∈ acRow, x.size ≤ 140737488355328 := by
    intro x hx
    simp [acRow] at hx
    rcases hx with rfl | rfl <;> decide
  have H1 := Lib.hid (fun W (h : Rd W (.slice (some ⟨w.heap.size, 0, none⟩) 2 2) (acRow.map Value.string)) => find_any _ ⟨#[98]⟩ acRow W h (by decide) hx (by decide) ac_rises)
  have H2 := Lib.hid (fun W (h : Rd W (.slice (some ⟨w.heap.size, 0, none⟩) 2 2) (acRow.map Value.string)) => find_any _ ⟨#[99]⟩ acRow W h (by decide) hx (by decide) ac_rises)
  have H3 := Lib.hid (fun W (h : Rd W (.slice (some ⟨w.heap.size, 0, none⟩) 2 2) (acRow.map Value.string)) => floor_any _ ⟨#[98]⟩ acRow W h (by decide) hx (by decide) ac_rises)
  have H4 := Lib.hid (fun W (h : Rd W (.slice (some ⟨w.heap.size, 0, none⟩) 2 2) (acRow.map Value.string)) => below_any _ ⟨#[99]⟩ acRow W h (by decide) hx (by decide) ac_rises)
  have H5 := Lib.hid (fun W (h : Rd W (.slice (some ⟨w.heap.size, 0, none⟩) 2 2) (acRow.map Value.string)) => rising_any _ acRow true W h hx (by decide) ⟨fun _ => ac_rises, fun _ => rfl⟩)
  have HB := Lib.hid hb0
  have HR := Lib.hid hrd
  clear hb0 hrd hx
  go_enter Try.func6, Try.ntmps6
  go_wp2_with fail
  refine (H1.out _ HR.out).mono ?_
  rintro e w1 ⟨at1, is1, rfl, hE1, hi1, hb1⟩
  obtain rfl := find_b at1 hE1
  have hf1 : is1 = false := by
    cases h : is1 with
    | false => rfl
    | true => have := (hi1.1 h).2; rw [show nth acRow 1 = ⟨#[99]⟩ from rfl] at this; exact absurd this (by decide +kernel)
  subst hf1
  have R1 := Lib.hid (HR.out.keep hb1)
  have B1 := Lib.hid (HB.out.trans (hb1.mono HB.out.size))
  clear hE1 hi1 hb1
  go_wp2_with fail
  refine (H2.out _ R1.out).mono ?_
  rintro e w2 ⟨at2, is2, rfl, hE2, hi2, hb2⟩
  obtain rfl := find_c at2 hE2
  have hf2 : is2 = true := hi2.2 ⟨by decide, rfl⟩
  subst hf2
  have R2 := Lib.hid (R1.out.keep hb2)
  have B2 := Lib.hid (B1.out.trans (hb2.mono B1.out.size))
  clear hE2 hi2 hb2
  go_wp2_with fail
  refine (H3.out _ R2.out).mono ?_
  rintro e w3 ⟨at3, rfl, hE3, hb3⟩
  obtain rfl := floor_b at3 hE3
  have R3 := Lib.hid (R2.out.keep hb3)
  have B3 := Lib.hid (B2.out.trans (hb3.mono B2.out.size))
  clear hE3 hb3
  go_wp2_with fail
  refine (H4.out _ R3.out).mono ?_
  rintro e w4 ⟨at4, rfl, hE4, hb4⟩
  obtain rfl := find_c at4 hE4
  have R4 := Lib.hid (R3.out.keep hb4)
  have B4 := Lib.hid (B3.out.trans (hb4.mono B3.out.size))
  clear hE4 hb4
  go_wp2_with fail
  refine (H5.out _ R4.out).mono ?_
  rintro e w5 ⟨rfl, hd5⟩
  go_wp2
  go_ret
  exact ⟨rfl, B4.out.trans (hd5.below0 _)⟩
end Go.Proofs.Ytajheohdhiojcab
