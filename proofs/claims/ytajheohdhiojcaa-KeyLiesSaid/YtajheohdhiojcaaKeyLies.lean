/- The law KeyLies, walked: it returns true, for any range and any two texts; nothing that was there has turned. -/
import Derived.Test.YtajheohdhiojcaaKeyLaws
namespace Go.Proofs.Ytajheohdhiojcaa
open Go.RowKit

theorem after_list (k : ByteArray) : (k ++ ⟨#[0]⟩).data.toList = k.data.toList ++ [0] := by simp

theorem after_lies (k x : List UInt8) : cmp3 k (k ++ [0]) < 0 ∧ ((0 < cmp3 x k ∧ 0 ≤ cmp3 x (k ++ [0])) ∨ (cmp3 x k ≤ 0 ∧ cmp3 x (k ++ [0]) < 0)) := by
  refine ⟨by rw [cmp3_neg]; exact lss_append k 0 [], ?_⟩
  have e1 := cmp3_pos x k
  have e2 := cmp3_neg x (k ++ [0])
  have h := lss_after k x
  cases hk : lss k x with
  | true =>
    rw [hk] at h e1
    have h2 : lss x (k ++ [0]) = false := by simpa using h
    rw [h2] at e2
    left
    refine ⟨by rw [e1], ?_⟩
    by_cases g : cmp3 x (k ++ [0]) < 0
    · rw [e2] at g; cases g
    · omega
  | false =>
    rw [hk] at h e1
    have h2 : lss x (k ++ [0]) = true := by simpa using h
    right
    refine ⟨?_, by rw [e2]; exact h2⟩
    by_cases g : 0 < cmp3 x k
    · rw [e1] at g; cases g
    · omega

set_option maxHeartbeats 4000000 in
set_option maxRecDepth 100000 in
theorem keyLies_any (lo hi : ByteArray) (last : Bool) (k x : ByteArray) (w : World) :
    Calls Try.prog 14 #[.string lo, .string hi, .bool last, .string k, .string x] w fun e w' => e = .returned (.bool true) ∧ Below w.heap.size w w' := by
  have HV := fun W => Lib.hid (lives03 W)
  have HT := light_row w [lo, hi, k, x] 9 4 rfl (by simp)
  simp only [List.map_cons, List.map_nil] at HT
  cases hlt : lightB [lo, hi, k, x] with
  | false =>
    rw [hlt] at HT
    have HT2 := Lib.hid HT
    clear HT hlt
    go_enter Try.func14, Try.ntmps14
    go_wp2_with fail
    refine HT2.out.mono ?_
    rintro e w1 ⟨rfl, rfl⟩
    go_wp2_with fail
    refine (HV _).out.mono ?_
    rintro e w2 ⟨rfl, hb⟩
    go_wp2
    go_ret
    exact ⟨rfl, (boxed_below _ _).trans (hb.mono (by simp))⟩
  | true =>
    have hz := lightB_size hlt
    have hl : lo.size ≤ 300 := hz lo (by simp)
    have hh : hi.size ≤ 300 := hz hi (by simp)
    have hk : k.size ≤ 300 := hz k (by simp)
    have hx : x.size ≤ 300 := hz x (by simp)
    rw [hlt] at HT
    have HT2 := Lib.hid HT
    clear HT hlt hz
    have I1 := fun W => Lib.hid (inside_any lo hi last k W (by omega) (by omega) (by omega))
    have I2 := fun W => Lib.hid (rinside_any lo hi last k W (by omega) (by omega) (by omega))
    have B1 := fun W => Lib.hid (beneath_any lo hi last k W (by omega) (by omega) (by omega))
    have B2 := fun W => Lib.hid (rbeneath_any lo hi last k W (by omega) (by omega) (by omega))
    have A1 := fun W => Lib.hid (after_any k W (by omega))
    have hs : (k ++ ⟨#[0]⟩ : ByteArray).size ≤ 301 := by
      rw [ByteArray.size_append]
      show k.size + 1 ≤ 301
      omega
    have C1 := fun W => Lib.hid (compare_any k (k ++ ⟨#[0]⟩) W (by omega) (by omega))
    have C2 := fun W => Lib.hid (compare_any x k W (by omega) (by omega))
    have C3 := fun W => Lib.hid (compare_any x (k ++ ⟨#[0]⟩) W (by omega) (by omega))
    have hp := after_lies k.data.toList x.data.toList
    rw [← after_list] at hp
    generalize (k ++ ⟨#[0]⟩ : ByteArray) = S at *
    generalize cmp3 k.data.toList S.data.toList = X at *
    generalize cmp3 x.data.toList k.data.toList = Y at *
    generalize cmp3 x.data.toList S.data.toList = Z at *
    generalize insideB lo.data.toList hi.data.toList last k.data.toList = u at *
    generalize beneathB lo.data.toList hi.data.toList last k.data.toList = v at *
    obtain ⟨hX, hp⟩ := hp
    clear hs
    rcases hp with ⟨h1, h2⟩ | ⟨h1, h2⟩
    all_goals
      cases u
      all_goals
        cases v
        all_goals
          go_enter Try.func14, Try.ntmps14
          go_wp2_with fail
          refine HT2.out.mono ?_
          rintro e w1 ⟨rfl, rfl⟩
          go_wp2_with fail
          refine (I1 _).out.mono ?_
          rintro e w1 ⟨rfl, hb1⟩
          have b1 := (boxed_below w (.cells #[.string lo, .string hi, .string k, .string x] 9)).trans (hb1.mono (by simp))
          clear hb1
          go_wp2_with fail
          refine (I2 _).out.mono ?_
          rintro e w2 ⟨rfl, hd2⟩
          have b2 := b1.trans (hd2.below _)
          clear b1 hd2
          go_wp2_with fail
          refine (B1 _).out.mono ?_
          rintro e w3 ⟨rfl, hb3⟩
          have b3 := b2.trans (hb3.mono b2.size)
          clear b2 hb3
          go_wp2_with fail
          refine (B2 _).out.mono ?_
          rintro e w4 ⟨rfl, hd4⟩
          have b4 := b3.trans (hd4.below _)
          clear b3 hd4
          go_wp2_with fail
          refine (A1 _).out.mono ?_
          rintro e w5 ⟨rfl, rfl⟩
          go_wp2_with fail
          refine (C1 _).out.mono ?_
          rintro e w5 ⟨rfl, hd5⟩
          go_wp2_with fail
          refine (C2 _).out.mono ?_
          rintro e w6 ⟨rfl, hd6⟩
          go_wp2_with fail
          refine (A1 _).out.mono ?_
          rintro e w7 ⟨rfl, rfl⟩
          go_wp2_with fail
          refine (C3 _).out.mono ?_
          rintro e w7 ⟨rfl, hd7⟩
          have b7 := b4.trans (((hd5.trans hd6).trans hd7).below _)
          clear b4 hd5 hd6 hd7
          go_wp2_with fail
          refine (HV _).out.mono ?_
          rintro e w8 ⟨rfl, hb8⟩
          go_wp2
          go_ret
          exact ⟨rfl, b7.trans (hb8.mono b7.size)⟩
end Go.Proofs.Ytajheohdhiojcaa
