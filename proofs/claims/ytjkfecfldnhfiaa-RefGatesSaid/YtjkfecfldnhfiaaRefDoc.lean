/- The document's own Pack, Open, Use, State, May, Shut, Gated (bowerref07). No condition but that words are words. -/
import Derived.Test.YtjkfecfldnhfiaaRefMath
import Derived.WalkKit
import Derived.WalkSmall
import Derived.OneCell
import Derived.Outline
import Derived.Lib.Hide
namespace Go.Proofs.Ytjkfecfldnhfiaa
open Go.RowKit

theorem ret_val {a b : Value} (h : a = b) : Ending.returned a = .returned b := by rw [h]

set_option maxHeartbeats 1000000 in
theorem dopen_any (w : Nat) (hw : w < 18446744073709551616) (W : World) :
    Calls Try.prog 9 #[.int .u64 w] W fun e W' => e = .returned (.tuple #[.int .i64 (openP w : Nat), .int .u64 (openG w : Nat), .bool (openOk w)]) ∧ W = W' := by
  have d3 : (w : Int) / 16384 = (w / 16384 : Nat) := by omega
  have d4 : (w : Int) % 16384 = (w % 16384 : Nat) := by omega
  have hP : openP w = if openOk w = true then w % 16384 - 1 else 0 := rfl
  have hG : openG w = if openOk w = true then w / 16384 else 0 := rfl
  have hO := openOk_iff w
  have hlo : w % 16384 < 16384 := Nat.mod_lt _ (by omega)
  have hhi : w / 16384 < 1125899906842624 := by omega
  generalize w % 16384 = lo at *
  generalize w / 16384 = hi at *
  by_cases h : 1 ≤ lo ∧ lo ≤ 8192 ∧ 1 ≤ hi ∧ hi ≤ 4294967295
  · have ho := hO.2 h
    rw [if_pos ho] at hP hG
    have HP := Lib.hid hP
    have HG := Lib.hid hG
    have HO := Lib.hid ho
    obtain ⟨h1, h2, h3, h4⟩ := h
    have g1 : ¬ (lo : Int) < 1 := by omega
    have g2 : ¬ (8192 : Int) < lo := by omega
    have g3 : ¬ (hi : Int) < 1 := by omega
    have g4 : ¬ (4294967295 : Int) < hi := by omega
    clear hP hG hO ho
    go_enter Try.func9, Try.ntmps9
    go_wp2
    go_ret3
    exact ⟨by rw [HP.out, HG.out, HO.out, show ((lo - 1 : Nat) : Int) = (lo : Int) - 1 by omega]; rfl, rfl⟩
  · have ho : openOk w = false := by
      cases e : openOk w with
      | false => rfl
      | true => exact absurd (hO.1 e) h
    rw [ho] at hP hG
    have HP : Hid (openP w = 0) := Lib.hid (by rw [hP]; rfl)
    have HG : Hid (openG w = 0) := Lib.hid (by rw [hG]; rfl)
    have HO := Lib.hid ho
    have hc : (lo : Int) < 1 ∨ (¬ (lo : Int) < 1 ∧ (8192 : Int) < lo) ∨ (¬ (lo : Int) < 1 ∧ ¬ (8192 : Int) < lo ∧ (hi : Int) < 1) ∨ (¬ (lo : Int) < 1 ∧ ¬ (8192 : Int) < lo ∧ ¬ (hi : Int) < 1 ∧ (4294967295 : Int) < hi) := by omega
    clear hP hG hO ho h
    rcases hc with g1 | ⟨g1, g2⟩ | ⟨g1, g2, g3⟩ | ⟨g1, g2, g3, g4⟩
    all_goals
      go_enter Try.func9, Try.ntmps9
      go_wp2
      go_ret3
      exact ⟨by rw [HP.out, HG.out, HO.out]; rfl, rfl⟩

set_option maxHeartbeats 1000000 in
theorem dstate_any (w : Nat) (hw : w < 18446744073709551616) (W : World) :
    Calls Try.prog 11 #[.int .u64 w] W fun e W' => e = .returned (.tuple #[.int .i64 (stateS w : Nat), .int .u64 (stateG w : Nat), .bool (stateOk w)]) ∧ W = W' := by
  have d3 : (w : Int) / 4 = (w / 4 : Nat) := by omega
  have d4 : (w : Int) % 4 = (w % 4 : Nat) := by omega
  have hS : stateS w = if stateOk w = true then w % 4 else 0 := rfl
  have hG : stateG w = if stateOk w = true then w / 4 else 0 := rfl
  have hO := stateOk_iff w
  have hlo : w % 4 < 4 := Nat.mod_lt _ (by omega)
  have hhi : w / 4 < 4611686018427387904 := by omega
  generalize w % 4 = lo at *
  generalize w / 4 = hi at *
  by_cases h : lo ≤ 2 ∧ hi ≤ 4294967295
  · have ho := hO.2 h
    rw [if_pos ho] at hS hG
    have HS := Lib.hid hS
    have HG := Lib.hid hG
    have HO := Lib.hid ho
    have g1 : ¬ (2 : Int) < lo := by omega
    have g2 : ¬ (4294967295 : Int) < hi := by omega
    clear hS hG hO ho h
    go_enter Try.func11, Try.ntmps11
    go_wp2
    go_ret3
    exact ⟨by rw [HS.out, HG.out, HO.out]; rfl, rfl⟩
  · have ho : stateOk w = false := by
      cases e : stateOk w with
      | false => rfl
      | true => exact absurd (hO.1 e) h
    rw [ho] at hS hG
    have HS : Hid (stateS w = 0) := Lib.hid (by rw [hS]; rfl)
    have HG : Hid (stateG w = 0) := Lib.hid (by rw [hG]; rfl)
    have HO := Lib.hid ho
    have hc : (2 : Int) < lo ∨ (¬ (2 : Int) < lo ∧ (4294967295 : Int) < hi) := by omega
    clear hS hG hO ho h
    rcases hc with g1 | ⟨g1, g2⟩
    all_goals
      go_enter Try.func11, Try.ntmps11
      go_wp2
      go_ret3
      exact ⟨by rw [HS.out, HG.out, HO.out]; rfl, rfl⟩

set_option maxHeartbeats 1000000 in
theorem dpack_any (p : Int) (g : Nat) (hp : -9223372036854775808 ≤ p ∧ p ≤ 9223372036854775807) (hg : g < 18446744073709551616) (W : World) :
    Calls Try.prog 13 #[.int .i64 p, .int .u64 g] W fun e W' => e = .returned (.int .u64 (packW p g : Nat)) ∧ W = W' := by
  by_cases h : 0 ≤ p ∧ p < 8192 ∧ 1 ≤ g ∧ g ≤ 4294967295
  · have HP : Hid (((packW p g : Nat) : Int) = (g : Int) * 16384 + p + 1) := Lib.hid (by unfold packW; rw [if_pos h]; omega)
    obtain ⟨h1, h2, h3, h4⟩ := h
    have g3 : ¬ (g : Int) < 1 := by omega
    have g4 : ¬ (4294967295 : Int) < g := by omega
    have g5 : (g : Int) * 16384 ≤ 70368744161280 := by omega
    clear hp hg
    go_enter Try.func13, Try.ntmps13
    go_wp2
    go_ret
    exact ⟨by rw [HP.out]; rfl, rfl⟩
  · have HP : Hid (((packW p g : Nat) : Int) = 0) := Lib.hid (by unfold packW; rw [if_neg h]; rfl)
    have hc : p < 0 ∨ (¬ p < 0 ∧ 8192 ≤ p) ∨ (¬ p < 0 ∧ ¬ 8192 ≤ p ∧ (g : Int) < 1) ∨ (¬ p < 0 ∧ ¬ 8192 ≤ p ∧ ¬ (g : Int) < 1 ∧ (4294967295 : Int) < g) := by omega
    clear h hp hg
    rcases hc with g1 | ⟨g1, g2⟩ | ⟨g1, g2, g3⟩ | ⟨g1, g2, g3, g4⟩
    all_goals
      go_enter Try.func13, Try.ntmps13
      go_wp2
      go_ret
      exact ⟨by rw [HP.out]; rfl, rfl⟩

set_option maxHeartbeats 1000000 in
theorem duse_any (p : Int) (g : Nat) (hp : -9223372036854775808 ≤ p ∧ p ≤ 9223372036854775807) (hg : g < 18446744073709551616) (W : World) :
    Calls Try.prog 15 #[.int .i64 p, .int .u64 g] W fun e W' => e = .returned (.int .u64 (useW p g : Nat)) ∧ W = W' := by
  by_cases h : 0 ≤ p ∧ p ≤ 2 ∧ g ≤ 4294967295
  · have HP : Hid (((useW p g : Nat) : Int) = (g : Int) * 4 + p) := Lib.hid (by unfold useW; rw [if_pos h]; omega)
    obtain ⟨h1, h2, h4⟩ := h
    have g4 : ¬ (4294967295 : Int) < g := by omega
    have g5 : (g : Int) * 4 ≤ 70368744161280 := by omega
    clear hp hg
    go_enter Try.func15, Try.ntmps15
    go_wp2
    go_ret
    exact ⟨by rw [HP.out]; rfl, rfl⟩
  · have HP : Hid (((useW p g : Nat) : Int) = 18446744073709551615) := Lib.hid (by unfold useW; rw [if_neg h]; rfl)
    have hc : p < 0 ∨ (¬ p < 0 ∧ 2 < p) ∨ (¬ p < 0 ∧ ¬ 2 < p ∧ (4294967295 : Int) < g) := by omega
    clear h hp hg
    rcases hc with g1 | ⟨g1, g2⟩ | ⟨g1, g2, g3⟩
    all_goals
      go_enter Try.func15, Try.ntmps15
      go_wp2
      go_ret
      exact ⟨by rw [HP.out]; rfl, rfl⟩

theorem bool_not {b : Bool} {p : Prop} (h : b = true ↔ p) (hn : ¬ p) : b = false := by
  cases b with
  | false => rfl
  | true => exact absurd (h.1 rfl) hn

/-- Which way a gate goes. -/
theorem may_ways (s t : Int) (w : Nat) :
    (t < 0 ∧ mayG s t w = false) ∨ (¬ t < 0 ∧ 15 < t ∧ mayG s t w = false) ∨
    ((¬ t < 0 ∧ ¬ 15 < t) ∧ ((s == 0) = true ∧ ((t == 0) = true ∧ ((w : Int) == 0) = true ∧ mayG s t w = true ∨ (t == 0) = false ∧ mayG s t w = false ∨ (t == 0) = true ∧ ((w : Int) == 0) = false ∧ mayG s t w = false) ∨
      (s == 0) = false ∧ ((s == 1) = true ∨ (s == 1) = false ∧ (s == 3) = true) ∧ (((w : Int) == 0) = true ∧ mayG s t w = true ∨ ((w : Int) == 0) = false ∧ mayG s t w = false) ∨
      (s == 0) = false ∧ (s == 1) = false ∧ (s == 3) = false ∧ ((s == 2) = true ∧ mayG s t w = openOk w ∨ (s == 2) = false ∧ mayG s t w = false))) := by
  have hm := mayG_iff s t w
  by_cases ht : t < 0
  · exact Or.inl ⟨ht, bool_not hm (by omega)⟩
  by_cases ht2 : 15 < t
  · exact Or.inr (Or.inl ⟨ht, ht2, bool_not hm (by omega)⟩)
  refine Or.inr (Or.inr ⟨⟨ht, ht2⟩, ?_⟩)
  by_cases h0 : s = 0
  · refine Or.inl ⟨by simpa using h0, ?_⟩
    by_cases h1 : t = 0
    · by_cases h2 : w = 0
      · exact Or.inl ⟨by simpa using h1, by simpa using h2, hm.2 ⟨by omega, Or.inl ⟨h0, h1, h2⟩⟩⟩
      · exact Or.inr (Or.inr ⟨by simpa using h1, by simpa using h2, bool_not hm (by omega)⟩)
    · exact Or.inr (Or.inl ⟨by simpa using h1, bool_not hm (by omega)⟩)
  by_cases h13 : s = 1 ∨ s = 3
  · refine Or.inr (Or.inl ⟨by simpa using h0, ?_, ?_⟩)
    · rcases h13 with h | h
      · exact Or.inl (by simpa using h)
      · exact Or.inr ⟨by simp; omega, by simpa using h⟩
    · by_cases h2 : w = 0
      · exact Or.inl ⟨by simpa using h2, hm.2 ⟨by omega, Or.inr (Or.inl ⟨h13, h2⟩)⟩⟩
      · exact Or.inr ⟨by simpa using h2, bool_not hm (by omega)⟩
  refine Or.inr (Or.inr ⟨by simpa using h0, by simp; omega, by simp; omega, ?_⟩)
  by_cases h2 : s = 2
  · refine Or.inl ⟨by simpa using h2, ?_⟩
    rw [Bool.eq_iff_iff, hm]
    constructor
    · rintro ⟨_, h | h | h⟩
      · omega
      · omega
      · exact h.2
    · intro h
      exact ⟨by omega, Or.inr (Or.inr ⟨h2, h⟩)⟩
  · exact Or.inr ⟨by simpa using h2, bool_not hm (by omega)⟩

theorem gate_below (w : World) (o : Obj) : Below w.heap.size w (w.alloc o) := (Below.refl _ _).alloc (Nat.le_refl _) _

set_option maxHeartbeats 2000000 in
theorem dmay_any (s t : Int) (w : Nat) (hw : w < 18446744073709551616) (W : World) :
    Calls Try.prog 34 #[.agg #[.int .i64 s, .int .i64 t, .int .u64 w]] W fun e W' => e = .returned (.bool (mayG s t w)) ∧ Below W.heap.size W W' := by
  have HB := Lib.hid (gate_below W (.cells #[.int .i64 s, .int .i64 t, .int .u64 w] 29))
  have HC := Lib.hid (fun W => dopen_any w hw W)
  have hways := may_ways s t w
  clear hw
  generalize mayG s t w = m at *
  generalize openP w = op at *
  generalize openG w = og at *
  generalize openOk w = ok at *
  rcases hways with ⟨h1, rfl⟩ | ⟨h1, h2, rfl⟩ | ⟨⟨h1, h2⟩, h⟩
  · go_enter Try.func34, Try.ntmps34
    go_wp2
    go_ret
    exact ⟨rfl, HB.out⟩
  · go_enter Try.func34, Try.ntmps34
    go_wp2
    go_ret
    exact ⟨rfl, HB.out⟩
  · rcases h with ⟨h3, ⟨a1, a2, rfl⟩ | ⟨a1, rfl⟩ | ⟨a1, a2, rfl⟩⟩ | ⟨h3, h4 | ⟨h4, h5⟩, ⟨a1, rfl⟩ | ⟨a1, rfl⟩⟩ | ⟨h3, h4, h5, ⟨a1, rfl⟩ | ⟨a1, rfl⟩⟩
    all_goals
      go_enter Try.func34, Try.ntmps34
      go_wp2_with fail
      refine (HC.out _).mono ?_
      rintro e w1 ⟨rfl, rfl⟩
      go_wp2
      go_ret
      exact ⟨rfl, HB.out⟩
end Go.Proofs.Ytjkfecfldnhfiaa
