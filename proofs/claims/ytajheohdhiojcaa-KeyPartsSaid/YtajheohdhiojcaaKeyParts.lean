/- The law KeyParts, walked: it returns true, for any three texts; nothing that was there has turned. -/
import Derived.Test.YtajheohdhiojcaaKeyLaws
namespace Go.Proofs.Ytajheohdhiojcaa
open Go.RowKit

theorem ext_list (b : ByteArray) (k : Nat) : (b.extract 0 k).data.toList = b.data.toList.take k := by
  simp [ByteArray.data_extract, Array.toList_extract, List.extract_eq_take_drop]

theorem ext_size (b : ByteArray) (k : Nat) : (b.extract 0 k).size ≤ b.size := by
  simp [ByteArray.size_extract]; omega

theorem rparting_no (a b : ByteArray) (w : World) (ha : a.size ≤ 140737488355328) (hb : b.size ≤ 140737488355328) (h : lss a.data.toList b.data.toList = false) :
    Calls Try.prog 47 #[.string a, .string b] w fun e w' => e = .returned (.tuple #[.string ⟨#[]⟩, .bool false]) ∧ Drew w w' := by
  have H1 := fun W => less_any a b W ha hb
  rw [h] at H1
  have H2 := Lib.hid H1
  clear H1 h
  go_enter Try.func47, Try.ntmps47
  go_wp2
  go_loopw [6] (fun i wr => ∃ k : Nat, i = .int .i64 k ∧ k ≤ b.size ∧ Drew w wr) (fun i _ => b.size - (intOf i).toNat)
  case atStart => exact ⟨0, rfl, Nat.zero_le _, Drew.refl w⟩
  case round =>
    obtain ⟨k, rfl, hk, hd⟩ := hrel
    go_wp2_with fail
    refine (H2.out _).mono ?_
    rintro e w1 ⟨rfl, hd1⟩
    go_wp2
    go_ret2
    exact ⟨rfl, hd.trans hd1⟩

set_option maxHeartbeats 1000000 in
theorem rparting_yes (a b : ByteArray) (w : World) (ha : a.size ≤ 140737488355328) (hb : b.size ≤ 140737488355328) (h : lss a.data.toList b.data.toList = true) :
    Calls Try.prog 47 #[.string a, .string b] w fun e w' => e = .returned (.tuple #[.string (b.extract 0 (cpl a.data.toList b.data.toList + 1)), .bool true]) ∧ Drew w w' := by
  have H1 := fun W => less_any a b W ha hb
  have hlt := cpl_lt_of_lss _ _ h
  rw [size_list] at hlt
  have H3 : ∀ k, k ≤ cpl a.data.toList b.data.toList → ∀ W, Calls Try.prog 72 #[.string a, .string (b.extract 0 k)] W fun e w' => e = .returned (.bool false) ∧ Drew W w' := fun k hk W => by
    have := less_any a (b.extract 0 k) W ha (Nat.le_trans (ext_size b k) hb)
    rw [ext_list, lss_take_alike _ _ _ hk] at this
    exact this
  have H4 : ∀ W, Calls Try.prog 72 #[.string a, .string (b.extract 0 (cpl a.data.toList b.data.toList + 1))] W fun e w' => e = .returned (.bool true) ∧ Drew W w' := fun W => by
    have := less_any a (b.extract 0 (cpl a.data.toList b.data.toList + 1)) W ha (Nat.le_trans (ext_size b _) hb)
    rw [ext_list] at this
    have h2 := lss_parting _ _ h
    unfold parting at h2
    rw [h2] at this
    exact this
  rw [h] at H1
  have G1 := Lib.hid H1
  have G3 := Lib.hid H3
  have G4 := Lib.hid H4
  clear H1 H3 H4 h
  generalize cpl a.data.toList b.data.toList = n at *
  go_enter Try.func47, Try.ntmps47
  go_wp2
  go_loopw [6] (fun i wr => ∃ k : Nat, i = .int .i64 k ∧ k ≤ n + 1 ∧ Drew w wr) (fun i _ => b.size - (intOf i).toNat)
  case atStart => exact ⟨0, rfl, Nat.zero_le _, Drew.refl w⟩
  case round =>
    obtain ⟨k, rfl, hk, hd⟩ := hrel
    have hkb : k ≤ b.size := by omega
    by_cases hkn : k ≤ n
    · have G := Lib.hid (G3.out k hkn)
      go_wp2_with fail
      refine (G1.out _).mono ?_
      rintro e w1 ⟨rfl, hd1⟩
      go_wp2_with fail
      refine (G.out _).mono ?_
      rintro e w2 ⟨rfl, hd2⟩
      go_wp2
      go_roundw
      case rel => exact ⟨k + 1, by go_num, by omega, (hd.trans hd1).trans hd2⟩
      case measure => simp [intOf]; omega
    · obtain rfl : k = n + 1 := by omega
      go_wp2_with fail
      refine (G1.out _).mono ?_
      rintro e w1 ⟨rfl, hd1⟩
      go_wp2_with fail
      refine (G4.out _).mono ?_
      rintro e w2 ⟨rfl, hd2⟩
      go_wp2
      go_ret2
      exact ⟨rfl, (hd.trans hd1).trans hd2⟩

/-- How any text lies to two that are parted, and to what parts them. -/
theorem parts (a b c : List UInt8) (h : lss a b = true) :
    ((0 < cmp3 c a ∧ cmp3 c b < 0) ∨ (0 < cmp3 c a ∧ 0 ≤ cmp3 c b ∧ 0 ≤ cmp3 c (b.take (cpl a b + 1))) ∨ (cmp3 c a ≤ 0 ∧ cmp3 c (b.take (cpl a b + 1)) < 0 ∧ cmp3 c b < 0)) := by
  have hp := lss_parting a b h
  unfold parting at hp
  have hle := lss_take b (cpl a b + 1)
  generalize b.take (cpl a b + 1) = s at *
  have e1 := cmp3_pos c a
  have e2 := cmp3_neg c b
  have e3 := cmp3_neg c s
  by_cases h1 : 0 < cmp3 c a
  · by_cases h2 : cmp3 c b < 0
    · exact Or.inl ⟨h1, h2⟩
    · refine Or.inr (Or.inl ⟨h1, by omega, ?_⟩)
      by_cases h3 : cmp3 c s < 0
      · rw [e3] at h3
        rw [e2] at h2
        exact absurd (lss_lt_le c s b h3 hle) h2
      · omega
  · have h1' : ¬ lss a c = true := by rw [← e1]; exact h1
    have h3 : lss c s = true := lss_le_lt c a s (by simpa using h1') hp
    have h4 : lss c b = true := lss_lt_le c s b h3 hle
    rw [← e3] at h3
    rw [← e2] at h4
    exact Or.inr (Or.inr ⟨by omega, h3, h4⟩)

set_option maxHeartbeats 2000000 in
set_option maxRecDepth 100000 in
theorem keyParts_any (a b c : ByteArray) (w : World) :
    Calls Try.prog 13 #[.string a, .string b, .string c] w fun e w' => e = .returned (.bool true) ∧ Below w.heap.size w w' := by
  have HV := fun W => Lib.hid (lives03 W)
  have HT := light_row w [a, b, c] 9 3 rfl (by simp)
  simp only [List.map_cons, List.map_nil] at HT
  cases hlt : lightB [a, b, c] with
  | false =>
    rw [hlt] at HT
    have HT2 := Lib.hid HT
    clear HT hlt
    go_enter Try.func13, Try.ntmps13
    go_wp2_with fail
    refine HT2.out.mono ?_
    rintro e w1 ⟨rfl, rfl⟩
    go_wp2_with fail
    refine (HV _).out.mono ?_
    rintro e w2 ⟨rfl, hb⟩
    go_wp2
    go_ret
    exact ⟨rfl, (boxed_below _ _).trans (hb.mono (by simp))⟩
  | true =>
    have hz := lightB_size hlt
    have ha : a.size ≤ 300 := hz a (by simp)
    have hb : b.size ≤ 300 := hz b (by simp)
    have hc : c.size ≤ 300 := hz c (by simp)
    rw [hlt] at HT
    have HT2 := Lib.hid HT
    clear HT hlt hz
    cases hab : lss a.data.toList b.data.toList with
    | false =>
      have H1 := fun W => Lib.hid (parting_no a b W (by omega) (by omega) hab)
      have H2 := fun W => Lib.hid (rparting_no a b W (by omega) (by omega) hab)
      have H3 := fun W => Lib.hid (compare_any a b W (by omega) (by omega))
      have hx : 0 ≤ cmp3 a.data.toList b.data.toList := by
        have := cmp3_neg a.data.toList b.data.toList
        rw [hab] at this
        by_cases h : cmp3 a.data.toList b.data.toList < 0
        · rw [this] at h; cases h
        · omega
      generalize cmp3 a.data.toList b.data.toList = X at *
      clear hab
      go_enter Try.func13, Try.ntmps13
      go_wp2_with fail
      refine HT2.out.mono ?_
      rintro e w1 ⟨rfl, rfl⟩
      go_wp2_with fail
      refine (H1 _).out.mono ?_
      rintro e w1 ⟨rfl, hb1⟩
      have b1 := (boxed_below w (.cells #[.string a, .string b, .string c] 9)).trans (hb1.mono (by simp))
      clear hb1
      go_wp2_with fail
      refine (H2 _).out.mono ?_
      rintro e w2 ⟨rfl, hd2⟩
      go_wp2_with fail
      refine (H3 _).out.mono ?_
      rintro e w3 ⟨rfl, hd3⟩
      have b3 := b1.trans ((hd2.trans hd3).below _)
      clear b1 hd2 hd3
      go_wp2_with fail
      refine (HV _).out.mono ?_
      rintro e w5 ⟨rfl, hb5⟩
      go_wp2
      go_ret
      exact ⟨rfl, b3.trans (hb5.mono b3.size)⟩
    | true =>
      have H1 := fun W => Lib.hid (parting_yes a b W (by omega) (by omega) hab)
      have H2 := fun W => Lib.hid (rparting_yes a b W (by omega) (by omega) hab)
      have hS := ext_size b (cpl a.data.toList b.data.toList + 1)
      have H3 := fun W => Lib.hid (compare_any c a W (by omega) (by omega))
      have H4 := fun W => Lib.hid (compare_any c (b.extract 0 (cpl a.data.toList b.data.toList + 1)) W (by omega) (by omega))
      have H5 := fun W => Lib.hid (compare_any c b W (by omega) (by omega))
      have hp := parts a.data.toList b.data.toList c.data.toList hab
      rw [← ext_list] at hp
      generalize b.extract 0 (cpl a.data.toList b.data.toList + 1) = S at *
      generalize cmp3 c.data.toList a.data.toList = X at *
      generalize cmp3 c.data.toList S.data.toList = Y at *
      generalize cmp3 c.data.toList b.data.toList = Z at *
      have hSS : (S.toList != S.toList) = false := by simp
      clear hab hS
      rcases hp with ⟨h1, h2⟩ | ⟨h1, h2, h3⟩ | ⟨h1, h2, h3⟩
      · go_enter Try.func13, Try.ntmps13
        go_wp2_with fail
        refine HT2.out.mono ?_
        rintro e w1 ⟨rfl, rfl⟩
        go_wp2_with fail
        refine (H1 _).out.mono ?_
        rintro e w1 ⟨rfl, hb1⟩
        have b1 := (boxed_below w (.cells #[.string a, .string b, .string c] 9)).trans (hb1.mono (by simp))
        clear hb1
        go_wp2_with fail
        refine (H2 _).out.mono ?_
        rintro e w2 ⟨rfl, hd2⟩
        go_wp2_with fail
        refine (H3 _).out.mono ?_
        rintro e w3 ⟨rfl, hd3⟩
        go_wp2_with fail
        refine (H5 _).out.mono ?_
        rintro e w4 ⟨rfl, hd4⟩
        have b4 := b1.trans (((hd2.trans hd3).trans hd4).below _)
        clear b1 hd2 hd3 hd4
        go_wp2_with fail
        refine (HV _).out.mono ?_
        rintro e w5 ⟨rfl, hb5⟩
        go_wp2
        go_ret
        exact ⟨rfl, b4.trans (hb5.mono b4.size)⟩
      · go_enter Try.func13, Try.ntmps13
        go_wp2_with fail
        refine HT2.out.mono ?_
        rintro e w1 ⟨rfl, rfl⟩
        go_wp2_with fail
        refine (H1 _).out.mono ?_
        rintro e w1 ⟨rfl, hb1⟩
        have b1 := (boxed_below w (.cells #[.string a, .string b, .string c] 9)).trans (hb1.mono (by simp))
        clear hb1
        go_wp2_with fail
        refine (H2 _).out.mono ?_
        rintro e w2 ⟨rfl, hd2⟩
        go_wp2_with fail
        refine (H3 _).out.mono ?_
        rintro e w3 ⟨rfl, hd3⟩
        go_wp2_with fail
        refine (H5 _).out.mono ?_
        rintro e w4 ⟨rfl, hd4⟩
        go_wp2_with fail
        refine (H4 _).out.mono ?_
        rintro e w6 ⟨rfl, hd6⟩
        have b4 := b1.trans ((((hd2.trans hd3).trans hd4).trans hd6).below _)
        clear b1 hd2 hd3 hd4 hd6
        go_wp2_with fail
        refine (HV _).out.mono ?_
        rintro e w5 ⟨rfl, hb5⟩
        go_wp2
        go_ret
        exact ⟨rfl, b4.trans (hb5.mono b4.size)⟩
      · go_enter Try.func13, Try.ntmps13
        go_wp2_with fail
        refine HT2.out.mono ?_
        rintro e w1 ⟨rfl, rfl⟩
        go_wp2_with fail
        refine (H1 _).out.mono ?_
        rintro e w1 ⟨rfl, hb1⟩
        have b1 := (boxed_below w (.cells #[.string a, .string b, .string c] 9)).trans (hb1.mono (by simp))
        clear hb1
        go_wp2_with fail
        refine (H2 _).out.mono ?_
        rintro e w2 ⟨rfl, hd2⟩
        go_wp2_with fail
        refine (H3 _).out.mono ?_
        rintro e w3 ⟨rfl, hd3⟩
        go_wp2_with fail
        refine (H4 _).out.mono ?_
        rintro e w6 ⟨rfl, hd6⟩
        go_wp2_with fail
        refine (H5 _).out.mono ?_
        rintro e w4 ⟨rfl, hd4⟩
        have b4 := b1.trans ((((hd2.trans hd3).trans hd6).trans hd4).below _)
        clear b1 hd2 hd3 hd4 hd6
        go_wp2_with fail
        refine (HV _).out.mono ?_
        rintro e w5 ⟨rfl, hb5⟩
        go_wp2
        go_ret
        exact ⟨rfl, b4.trans (hb5.mono b4.size)⟩
end Go.Proofs.Ytajheohdhiojcaa
