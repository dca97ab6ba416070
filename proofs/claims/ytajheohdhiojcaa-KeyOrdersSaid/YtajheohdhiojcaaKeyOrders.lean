/- The law KeyOrders, walked: it returns true, for any three texts; nothing that was there has turned. -/
import Derived.Test.YtajheohdhiojcaaKeyLaws
namespace Go.Proofs.Ytajheohdhiojcaa
open Go.RowKit

/-- What of three texts' orders there may be. -/
theorem orders (a b c : ByteArray) :
    (cmp3 a.data.toList b.data.toList = 1 ∧ cmp3 b.data.toList a.data.toList = -1 ∧ (a.toList == b.toList) = false) ∨
    (cmp3 a.data.toList b.data.toList = -1 ∧ cmp3 b.data.toList a.data.toList = 1 ∧ (a.toList == b.toList) = false ∧ cmp3 b.data.toList c.data.toList = 1) ∨
    (cmp3 a.data.toList b.data.toList = 0 ∧ cmp3 b.data.toList a.data.toList = 0 ∧ (a.toList == b.toList) = true ∧ cmp3 b.data.toList c.data.toList = 1) ∨
    (cmp3 a.data.toList b.data.toList = -1 ∧ cmp3 b.data.toList a.data.toList = 1 ∧ (a.toList == b.toList) = false ∧ cmp3 b.data.toList c.data.toList = -1 ∧ cmp3 a.data.toList c.data.toList = -1) ∨
    (cmp3 a.data.toList b.data.toList = -1 ∧ cmp3 b.data.toList a.data.toList = 1 ∧ (a.toList == b.toList) = false ∧ cmp3 b.data.toList c.data.toList = 0 ∧ cmp3 a.data.toList c.data.toList = -1) ∨
    (cmp3 a.data.toList b.data.toList = 0 ∧ cmp3 b.data.toList a.data.toList = 0 ∧ (a.toList == b.toList) = true ∧ cmp3 b.data.toList c.data.toList = -1 ∧ cmp3 a.data.toList c.data.toList = -1) ∨
    (cmp3 a.data.toList b.data.toList = 0 ∧ cmp3 b.data.toList a.data.toList = 0 ∧ (a.toList == b.toList) = true ∧ cmp3 b.data.toList c.data.toList = 0 ∧ cmp3 a.data.toList c.data.toList = 0) := by
  have hs := cmp3_swap b.data.toList a.data.toList
  by_cases hab : a = b
  · subst hab
    have h0 : cmp3 a.data.toList a.data.toList = 0 := by rw [cmp3_zero]
    have he := bytes_eq (a := a) rfl
    rcases cmp3_cases a.data.toList c.data.toList with h | h | h
    · exact Or.inr (Or.inr (Or.inr (Or.inr (Or.inr (Or.inl ⟨h0, h0, he, h, h⟩)))))
    · exact Or.inr (Or.inr (Or.inr (Or.inr (Or.inr (Or.inr ⟨h0, h0, he, h, h⟩)))))
    · exact Or.inr (Or.inr (Or.inl ⟨h0, h0, he, h⟩))
  · have he := bytes_ne hab
    have hz : cmp3 a.data.toList b.data.toList ≠ 0 := by
      intro h
      rw [cmp3_zero] at h
      exact hab (bytes_of h)
    rcases cmp3_cases a.data.toList b.data.toList with h | h | h
    · have hl : lss a.data.toList b.data.toList = true := by rw [← cmp3_neg]; omega
      rcases cmp3_cases b.data.toList c.data.toList with k | k | k
      · have kl : lss b.data.toList c.data.toList = true := by rw [← cmp3_neg]; omega
        exact Or.inr (Or.inr (Or.inr (Or.inl ⟨h, by omega, he, k, by simp [cmp3, lss_trans _ _ _ hl kl]⟩)))
      · have kl := k
        rw [cmp3_zero] at kl
        exact Or.inr (Or.inr (Or.inr (Or.inr (Or.inl ⟨h, by omega, he, k, by rw [← kl]; exact h⟩))))
      · exact Or.inr (Or.inl ⟨h, by omega, he, k⟩)
    · exact absurd h hz
    · exact Or.inl ⟨h, by omega, he⟩

set_option maxHeartbeats 2000000 in
set_option maxRecDepth 100000 in
theorem keyOrders_any (a b c : ByteArray) (w : World) :
    Calls Try.prog 12 #[.string a, .string b, .string c] w fun e w' => e = .returned (.bool true) ∧ Below w.heap.size w w' := by
  have HV := fun W => Lib.hid (lives03 W)
  have HT := light_row w [a, b, c] 9 3 rfl (by simp)
  simp only [List.map_cons, List.map_nil] at HT
  cases hlt : lightB [a, b, c] with
  | false =>
    rw [hlt] at HT
    have HT2 := Lib.hid HT
    clear HT hlt
    go_enter Try.func12, Try.ntmps12
    go_wp2_with fail
    refine HT2.out.mono ?_
    rintro e w1 ⟨rfl, rfl⟩
    go_wp2_with fail
    refine (HV _).out.mono ?_
    rintro e w2 ⟨rfl, hb⟩
    go_wp2
    go_ret
    exact ⟨rfl, (boxed_below _ _).trans (hb.mono (by simp))⟩
  | true =>
    have hz := lightB_size hlt
    have ha : a.size ≤ 300 := hz a (by simp)
    have hb : b.size ≤ 300 := hz b (by simp)
    have hc : c.size ≤ 300 := hz c (by simp)
    rw [hlt] at HT
    have HT2 := Lib.hid HT
    clear HT hlt hz
    have H1 := fun W => Lib.hid (compare_any a b W (by omega) (by omega))
    have H2 := fun W => Lib.hid (compare_any b c W (by omega) (by omega))
    have H3 := fun W => Lib.hid (compare_any a c W (by omega) (by omega))
    have H4 := fun W => Lib.hid (compare_any b a W (by omega) (by omega))
    have ho := orders a b c
    generalize cmp3 a.data.toList b.data.toList = X at *
    generalize cmp3 b.data.toList c.data.toList = Y at *
    generalize cmp3 a.data.toList c.data.toList = Z at *
    generalize cmp3 b.data.toList a.data.toList = V at *
    rcases ho with ⟨rfl, rfl, he⟩ | ⟨rfl, rfl, he, rfl⟩ | ⟨rfl, rfl, he, rfl⟩ | ⟨rfl, rfl, he, rfl, rfl⟩ | ⟨rfl, rfl, he, rfl, rfl⟩ | ⟨rfl, rfl, he, rfl, rfl⟩ | ⟨rfl, rfl, he, rfl, rfl⟩
    all_goals
      go_enter Try.func12, Try.ntmps12
      go_wp2_with fail
      refine HT2.out.mono ?_
      rintro e w1 ⟨rfl, rfl⟩
      go_wp2_with fail
      refine (H1 _).out.mono ?_
      rintro e w1 ⟨rfl, hd1⟩
      go_wp2_with fail
      refine (H2 _).out.mono ?_
      rintro e w2 ⟨rfl, hd2⟩
      go_wp2_with fail
      refine (H3 _).out.mono ?_
      rintro e w3 ⟨rfl, hd3⟩
      go_wp2_with fail
      refine (H4 _).out.mono ?_
      rintro e w4 ⟨rfl, hd4⟩
      have hd := ((hd1.trans hd2).trans hd3).trans hd4
      clear hd1 hd2 hd3 hd4
      go_wp2_with fail
      refine (HV _).out.mono ?_
      rintro e w5 ⟨rfl, hb5⟩
      go_wp2
      go_ret
      have hB := (boxed_below w (.cells #[.string a, .string b, .string c] 9)).trans (hd.below _)
      exact ⟨rfl, hB.trans (hb5.mono hB.size)⟩
end Go.Proofs.Ytajheohdhiojcaa
