/- The laws KeyCompares and KeyOrders, walked: each returns true, for any texts; nothing that was there has turned. -/
import Derived.Test.YtajheohdhiojcaaKeyLives
namespace Go.Proofs.Ytajheohdhiojcaa
open Go.RowKit

theorem bytes_ne {a b : ByteArray} (h : a ≠ b) : (a.toList == b.toList) = false := by
  rw [beq_eq_false_iff_ne, ByteArray.toList_eq, ByteArray.toList_eq]
  intro e
  apply h
  apply ByteArray.ext
  apply Array.ext'
  exact e
theorem bytes_eq {a b : ByteArray} (h : a = b) : (a.toList == b.toList) = true := by rw [h]; simp
theorem bytes_of {a b : ByteArray} (h : a.data.toList = b.data.toList) : a = b := by
  apply ByteArray.ext
  apply Array.ext'
  exact h

theorem row_cell (w : World) (vs : Array Value) (t : TypeId) (i : Nat) : (w.alloc (.cells vs t)).cell? ⟨w.heap.size, i, none⟩ = vs[i]? := by
  rw [World.cell?_alloc_at _ _ _ _ (by simp)]

/-- light at a row that was just laid. -/
theorem light_row (w : World) (xs : List ByteArray) (t : TypeId) (n : Nat) (hn : n = xs.length) (h : xs.length ≤ 1000) :
    Calls Try.prog 40 #[.slice (some ⟨w.heap.size, 0, none⟩) n n] (w.alloc (.cells (xs.map Value.string).toArray t)) fun e w' => e = .returned (.bool (lightB xs)) ∧ w' = w.alloc (.cells (xs.map Value.string).toArray t) :=
  light_any w.heap.size xs n hn _ h fun i hi => by
    rw [row_cell]
    simp [hi]

/-- One of the two begins both. -/
theorem shared_begin (a b : ByteArray) : ((a.extract 0 (cpl a.data.toList b.data.toList)).toList == (b.extract 0 (cpl a.data.toList b.data.toList)).toList) = true := by
  apply bytes_eq
  apply bytes_of
  have := cpl_take a.data.toList b.data.toList
  simpa [ByteArray.data_extract, Array.toList_extract, List.extract_eq_take_drop] using this

set_option maxHeartbeats 2000000 in
set_option maxRecDepth 100000 in
theorem keyCompares_any (a b : ByteArray) (w : World) :
    Calls Try.prog 11 #[.string a, .string b] w fun e w' => e = .returned (.bool true) ∧ Below w.heap.size w w' := by
  have HV := fun W => Lib.hid (lives03 W)
  have HT := light_row w [a, b] 9 2 rfl (by simp)
  simp only [List.map_cons, List.map_nil] at HT
  cases hlt : lightB [a, b] with
  | false =>
    rw [hlt] at HT
    have HT2 := Lib.hid HT
    clear HT hlt
    go_enter Try.func11, Try.ntmps11
    go_wp2_with fail
    refine HT2.out.mono ?_
    rintro e w1 ⟨rfl, rfl⟩
    go_wp2_with fail
    refine (HV _).out.mono ?_
    rintro e w2 ⟨rfl, hb⟩
    go_wp2
    go_ret
    exact ⟨rfl, (boxed_below _ _).trans (hb.mono (by simp))⟩
  | true =>
    have hz := lightB_size hlt
    have ha : a.size ≤ 300 := hz a (by simp)
    have hb : b.size ≤ 300 := hz b (by simp)
    rw [hlt] at HT
    have HT2 := Lib.hid HT
    clear HT hlt hz
    have HS := fun W => Lib.hid (shared_any a b W (by omega) (by omega))
    have HC := fun W => Lib.hid (compare_any a b W (by omega) (by omega))
    have HR := fun W => Lib.hid (rcompare_any a b W (by omega) (by omega))
    have HK := fun W => Lib.hid (check_any a W)
    have hcl := cpl_le a.data.toList b.data.toList
    rw [size_list, size_list] at hcl
    have hcut := shared_begin a b
    have hat := fun n (hn : cpl a.data.toList b.data.toList = n) (h1 : n < a.size) (h2 : n < b.size) => cpl_at a.data.toList b.data.toList (by rw [hn]; simpa using h1) (by rw [hn]; simpa using h2)
    have hat2 : ∀ (n : Nat), cpl a.data.toList b.data.toList = n → (h1 : n < a.size) → (h2 : n < b.size) → a[n].toNat ≠ b[n].toNat := by
      intro n hn h1 h2 he
      apply hat n hn h1 h2
      subst hn
      have := UInt8.toNat_inj.1 he
      simpa using (show a.data[cpl a.data.toList b.data.toList] = b.data[cpl a.data.toList b.data.toList] from this)
    clear hat
    generalize hn : cpl a.data.toList b.data.toList = n at *
    generalize cmp3 a.data.toList b.data.toList = c at *
    have hca := hcl.1
    have hcb := hcl.2
    have hcc : ((c : Int) == c) = true := by simp
    have hat3 := Lib.hid (hat2 n rfl)
    clear hat2 hcl hn
    have hcut2 : ((a.extract 0 n).toList != (b.extract 0 n).toList) = false := by rw [bne, hcut]; rfl
    -- the three ways of Check
    have hk : ((if a.size = 0 ∨ 64 < a.size then (2 : Int) else 0) = 2 ∧ ((a.size : Int) == 0) = true ∧ (a.size : Int) ≤ 0) ∨ ((if a.size = 0 ∨ 64 < a.size then (2 : Int) else 0) = 0 ∧ ((a.size : Int) == 0) = false ∧ (0 : Int) < a.size ∧ (a.size : Int) ≤ 64) ∨ ((if a.size = 0 ∨ 64 < a.size then (2 : Int) else 0) = 2 ∧ ((a.size : Int) == 0) = false ∧ (64 : Int) < a.size) := by
      by_cases h0 : a.size = 0
      · exact Or.inl ⟨by rw [if_pos (Or.inl h0)], by rw [h0]; rfl, by omega⟩
      · by_cases h1 : 64 < a.size
        · exact Or.inr (Or.inr ⟨by rw [if_pos (Or.inr h1)], by rw [beq_eq_false_iff_ne]; omega, by omega⟩)
        · exact Or.inr (Or.inl ⟨by rw [if_neg (by omega)], by rw [beq_eq_false_iff_ne]; omega, by omega, by omega⟩)
    have hparts : (∃ (h1 : n < a.size) (h2 : n < b.size), (n : Int) < a.size ∧ (n : Int) < b.size ∧ ((a[n].toNat : Int) == (b[n].toNat : Int)) = false) ∨ (n < a.size ∧ (n : Int) < a.size ∧ decide (n < b.size) = false) ∨ decide (n < a.size) = false := by
      by_cases h1 : n < a.size
      · by_cases h2 : n < b.size
        · exact Or.inl ⟨h1, h2, by omega, by omega, by rw [beq_eq_false_iff_ne]; have := hat3.out h1 h2; omega⟩
        · exact Or.inr (Or.inl ⟨h1, by omega, by rw [decide_eq_false_iff_not]; omega⟩)
      · exact Or.inr (Or.inr (by rw [decide_eq_false_iff_not]; omega))
    generalize (if a.size = 0 ∨ 64 < a.size then (2 : Int) else 0) = r at *
    rcases hk with ⟨rfl, e0, k1⟩ | ⟨rfl, e0, k1, k2⟩ | ⟨rfl, e0, k1⟩
    all_goals
      rcases hparts with ⟨h1, h2, g1, g2, g3⟩ | ⟨h1, g1, g2⟩ | g1
      all_goals first | (exfalso; omega) | skip
      all_goals
        have d0 : decide ((n : Int) < 0) = false := by rw [decide_eq_false_iff_not]; omega
        have d1 : decide (a.size < n) = false := by rw [decide_eq_false_iff_not]; omega
        have d2 : decide (b.size < n) = false := by rw [decide_eq_false_iff_not]; omega
        go_enter Try.func11, Try.ntmps11
        go_wp2_with fail
        refine HT2.out.mono ?_
        rintro e w1 ⟨rfl, rfl⟩
        go_wp2_with fail
        refine (HS _).out.mono ?_
        rintro e w1 ⟨rfl, hd1⟩
        go_wp2_with fail
        go_quiet (fail)
        go_wp2_with fail
        refine (HC _).out.mono ?_
        rintro e w2 ⟨rfl, hd2⟩
        go_wp2_with fail
        refine (HR _).out.mono ?_
        rintro e w3 ⟨rfl, hd3⟩
        go_wp2_with fail
        refine (HK _).out.mono ?_
        rintro e w3 ⟨rfl, rfl⟩
        go_wp2_with fail
        refine (HK _).out.mono ?_
        rintro e w3 ⟨rfl, rfl⟩
        go_wp2_with fail
        refine (HV _).out.mono ?_
        rintro e w4 ⟨rfl, hb4⟩
        go_wp2
        go_ret
        have hd := ((hd1.trans ⟨_, rfl⟩).trans hd2).trans hd3
        have hB := (boxed_below w (.cells #[.string a, .string b] 9)).trans (hd.below _)
        exact ⟨ret_b (by first | rfl | (simp; omega)), hB.trans (hb4.mono hB.size)⟩
end Go.Proofs.Ytajheohdhiojcaa
