/- ref's Open, Pack, Use, and the document's own (RefDoc, RefPart, RefOwn) over MemCell. No condition but that words are words. -/
import Derived.Test.YtkdjcikilabehaaMemCell
import Derived.Test.YtkdjcikilabehaaRefMath
import Derived.WalkKit
import Derived.WalkSmall
import Derived.OneCell
import Derived.Outline
import Derived.Lib.Hide
import Derived.Laws.Bits64b
import Derived.Deep.QuietTactic
import Derived.BigQuiet
namespace Go.Proofs.Ytkdjcikilabehaa
open Go.RowKit

theorem ret_val {a b : Value} (h : a = b) : Ending.returned a = .returned b := by rw [h]

set_option maxHeartbeats 1000000 in
theorem dopen_any (w : Nat) (hw : w < 18446744073709551616) (W : World) :
    Calls Try.prog 48 #[.int .u64 w] W fun e W' => e = .returned (.tuple #[.int .i64 (openP w : Nat), .int .u64 (openG w : Nat), .bool (openOk w)]) ∧ W = W' := by
  have d3 : (w : Int) / 16384 = (w / 16384 : Nat) := by omega
  have d4 : (w : Int) % 16384 = (w % 16384 : Nat) := by omega
  have hP : openP w = if openOk w = true then w % 16384 - 1 else 0 := rfl
  have hG : openG w = if openOk w = true then w / 16384 else 0 := rfl
  have hO := openOk_iff w
  have hlo : w % 16384 < 16384 := Nat.mod_lt _ (by omega)
  have hhi : w / 16384 < 1125899906842624 := by omega
  generalize w % 16384 = lo at *
  generalize w / 16384 = hi at *
  by_cases h : 1 ≤ lo ∧ lo ≤ 8192 ∧ 1 ≤ hi ∧ hi ≤ 4294967295
  · have ho := hO.2 h
    rw [if_pos ho] at hP hG
    have HP := Lib.hid hP
    have HG := Lib.hid hG
    have HO := Lib.hid ho
    obtain ⟨h1, h2, h3, h4⟩ := h
    have g1 : ¬ (lo : Int) < 1 := by omega
    have g2 : ¬ (8192 : Int) < lo := by omega
    have g3 : ¬ (hi : Int) < 1 := by omega
    have g4 : ¬ (4294967295 : Int) < hi := by omega
    clear hP hG hO ho
    go_enter Try.func48, Try.ntmps48
    go_wp2
    go_ret3
    exact ⟨by rw [HP.out, HG.out, HO.out, show ((lo - 1 : Nat) : Int) = (lo : Int) - 1 by omega]; rfl, rfl⟩
  · have ho : openOk w = false := by
      cases e : openOk w with
      | false => rfl
      | true => exact absurd (hO.1 e) h
    rw [ho] at hP hG
    have HP : Hid (openP w = 0) := Lib.hid (by rw [hP]; rfl)
    have HG : Hid (openG w = 0) := Lib.hid (by rw [hG]; rfl)
    have HO := Lib.hid ho
    have hc : (lo : Int) < 1 ∨ (¬ (lo : Int) < 1 ∧ (8192 : Int) < lo) ∨ (¬ (lo : Int) < 1 ∧ ¬ (8192 : Int) < lo ∧ (hi : Int) < 1) ∨ (¬ (lo : Int) < 1 ∧ ¬ (8192 : Int) < lo ∧ ¬ (hi : Int) < 1 ∧ (4294967295 : Int) < hi) := by omega
    clear hP hG hO ho h
    rcases hc with g1 | ⟨g1, g2⟩ | ⟨g1, g2, g3⟩ | ⟨g1, g2, g3, g4⟩
    all_goals
      go_enter Try.func48, Try.ntmps48
      go_wp2
      go_ret3
      exact ⟨by rw [HP.out, HG.out, HO.out]; rfl, rfl⟩

set_option maxHeartbeats 1000000 in
theorem dpack_any (p : Int) (g : Nat) (hp : -9223372036854775808 ≤ p ∧ p ≤ 9223372036854775807) (hg : g < 18446744073709551616) (W : World) :
    Calls Try.prog 40 #[.int .i64 p, .int .u64 g] W fun e W' => e = .returned (.int .u64 (packW p g : Nat)) ∧ W = W' := by
  by_cases h : 0 ≤ p ∧ p < 8192 ∧ 1 ≤ g ∧ g ≤ 4294967295
  · have HP : Hid (((packW p g : Nat) : Int) = (g : Int) * 16384 + p + 1) := Lib.hid (by unfold packW; rw [if_pos h]; omega)
    obtain ⟨h1, h2, h3, h4⟩ := h
    have g3 : ¬ (g : Int) < 1 := by omega
    have g4 : ¬ (4294967295 : Int) < g := by omega
    have g5 : (g : Int) * 16384 ≤ 70368744161280 := by omega
    clear hp hg
    go_enter Try.func40, Try.ntmps40
    go_wp2
    go_ret
    exact ⟨by rw [HP.out]; rfl, rfl⟩
  · have HP : Hid (((packW p g : Nat) : Int) = 0) := Lib.hid (by unfold packW; rw [if_neg h]; rfl)
    have hc : p < 0 ∨ (¬ p < 0 ∧ 8192 ≤ p) ∨ (¬ p < 0 ∧ ¬ 8192 ≤ p ∧ (g : Int) < 1) ∨ (¬ p < 0 ∧ ¬ 8192 ≤ p ∧ ¬ (g : Int) < 1 ∧ (4294967295 : Int) < g) := by omega
    clear h hp hg
    rcases hc with g1 | ⟨g1, g2⟩ | ⟨g1, g2, g3⟩ | ⟨g1, g2, g3, g4⟩
    all_goals
      go_enter Try.func40, Try.ntmps40
      go_wp2
      go_ret
      exact ⟨by rw [HP.out]; rfl, rfl⟩

set_option maxHeartbeats 1000000 in
theorem duse_any (p : Int) (g : Nat) (hp : -9223372036854775808 ≤ p ∧ p ≤ 9223372036854775807) (hg : g < 18446744073709551616) (W : World) :
    Calls Try.prog 39 #[.int .i64 p, .int .u64 g] W fun e W' => e = .returned (.int .u64 (useW p g : Nat)) ∧ W = W' := by
  by_cases h : 0 ≤ p ∧ p ≤ 2 ∧ g ≤ 4294967295
  · have HP : Hid (((useW p g : Nat) : Int) = (g : Int) * 4 + p) := Lib.hid (by unfold useW; rw [if_pos h]; omega)
    obtain ⟨h1, h2, h4⟩ := h
    have g4 : ¬ (4294967295 : Int) < g := by omega
    have g5 : (g : Int) * 4 ≤ 70368744161280 := by omega
    clear hp hg
    go_enter Try.func39, Try.ntmps39
    go_wp2
    go_ret
    exact ⟨by rw [HP.out]; rfl, rfl⟩
  · have HP : Hid (((useW p g : Nat) : Int) = 18446744073709551615) := Lib.hid (by unfold useW; rw [if_neg h]; rfl)
    have hc : p < 0 ∨ (¬ p < 0 ∧ 2 < p) ∨ (¬ p < 0 ∧ ¬ 2 < p ∧ (4294967295 : Int) < g) := by omega
    clear h hp hg
    rcases hc with g1 | ⟨g1, g2⟩ | ⟨g1, g2, g3⟩
    all_goals
      go_enter Try.func39, Try.ntmps39
      go_wp2
      go_ret
      exact ⟨by rw [HP.out]; rfl, rfl⟩


/-- Which way a gate goes. -/
theorem may_ways (s t : Int) (w : Nat) :
    (t < 0 ∧ mayG s t w = false) ∨ (¬ t < 0 ∧ 15 < t ∧ mayG s t w = false) ∨
    ((¬ t < 0 ∧ ¬ 15 < t) ∧ ((s == 0) = true ∧ ((t == 0) = true ∧ ((w : Int) == 0) = true ∧ mayG s t w = true ∨ (t == 0) = false ∧ mayG s t w = false ∨ (t == 0) = true ∧ ((w : Int) == 0) = false ∧ mayG s t w = false) ∨
      (s == 0) = false ∧ ((s == 1) = true ∨ (s == 1) = false ∧ (s == 3) = true) ∧ (((w : Int) == 0) = true ∧ mayG s t w = true ∨ ((w : Int) == 0) = false ∧ mayG s t w = false) ∨
      (s == 0) = false ∧ (s == 1) = false ∧ (s == 3) = false ∧ ((s == 2) = true ∧ mayG s t w = openOk w ∨ (s == 2) = false ∧ mayG s t w = false))) := by
  have hm := mayG_iff s t w
  by_cases ht : t < 0
  · exact Or.inl ⟨ht, bool_not hm (by omega)⟩
  by_cases ht2 : 15 < t
  · exact Or.inr (Or.inl ⟨ht, ht2, bool_not hm (by omega)⟩)
  refine Or.inr (Or.inr ⟨⟨ht, ht2⟩, ?_⟩)
  by_cases h0 : s = 0
  · refine Or.inl ⟨by simpa using h0, ?_⟩
    by_cases h1 : t = 0
    · by_cases h2 : w = 0
      · exact Or.inl ⟨by simpa using h1, by simpa using h2, hm.2 ⟨by omega, Or.inl ⟨h0, h1, h2⟩⟩⟩
      · exact Or.inr (Or.inr ⟨by simpa using h1, by simpa using h2, bool_not hm (by omega)⟩)
    · exact Or.inr (Or.inl ⟨by simpa using h1, bool_not hm (by omega)⟩)
  by_cases h13 : s = 1 ∨ s = 3
  · refine Or.inr (Or.inl ⟨by simpa using h0, ?_, ?_⟩)
    · rcases h13 with h | h
      · exact Or.inl (by simpa using h)
      · exact Or.inr ⟨by simp; omega, by simpa using h⟩
    · by_cases h2 : w = 0
      · exact Or.inl ⟨by simpa using h2, hm.2 ⟨by omega, Or.inr (Or.inl ⟨h13, h2⟩)⟩⟩
      · exact Or.inr ⟨by simpa using h2, bool_not hm (by omega)⟩
  refine Or.inr (Or.inr ⟨by simpa using h0, by simp; omega, by simp; omega, ?_⟩)
  by_cases h2 : s = 2
  · refine Or.inl ⟨by simpa using h2, ?_⟩
    rw [Bool.eq_iff_iff, hm]
    constructor
    · rintro ⟨_, h | h | h⟩
      · omega
      · omega
      · exact h.2
    · intro h
      exact ⟨by omega, Or.inr (Or.inr ⟨h2, h⟩)⟩
  · exact Or.inr ⟨by simpa using h2, bool_not hm (by omega)⟩

theorem gate_below (w : World) (o : Obj) : Below w.heap.size w (w.alloc o) := (Below.refl _ _).alloc (Nat.le_refl _) _

theorem mask_u64 (k a : Nat) (ha : a < 18446744073709551616) (hk : 2 ^ k - 1 < 18446744073709551616) : bits .and .u64 (a : Int) ((2 ^ k - 1 : Nat) : Int) = ((a % 2 ^ k : Nat) : Int) := by
  rw [bits_and_u64_nat a _ ha hk, Nat.and_two_pow_sub_one_eq_mod]
theorem or_u64 (k a b : Nat) (hb : b < 2 ^ k) (h : 2 ^ k * a < 18446744073709551616) (hb2 : b < 18446744073709551616) : bits .or .u64 ((2 ^ k * a : Nat) : Int) (b : Int) = ((2 ^ k * a + b : Nat) : Int) := by
  rw [bits_or_u64_nat _ _ h hb2, Nat.two_pow_add_eq_or_of_lt hb]

theorem ret_u64 {a b : Int} (h : a = b) : Ending.returned (.int .u64 a) = .returned (.int .u64 b) := by rw [h]

section
variable (w : Nat) (hw : w < 18446744073709551616) (W : World)
include hw
theorem part0_14 : Calls Try.prog 81 #[.int .u64 w, .int .i64 0, .int .i64 14] W fun e W' => e = .returned (.int .u64 (w % 16384 : Nat)) ∧ ∃ n, W' = W.drewN n := by
  have H := Lib.hid (mask_u64 14 w hw (by decide))
  go_enter Try.func81, Try.ntmps81
  go_wp2
  go_quiet (fail)
  go_wp2
  go_ret
  exact ⟨ret_u64 H.out, _, rfl⟩
theorem part14_64 : Calls Try.prog 81 #[.int .u64 w, .int .i64 14, .int .i64 64] W fun e W' => e = .returned (.int .u64 (w / 16384 : Nat)) ∧ ∃ n, W' = W.drewN n := by
  have H := Lib.hid ((mask_u64 50 (w / 16384) (by omega) (by decide)).trans (by rw [Nat.mod_eq_of_lt (by omega)] : _ = ((w / 16384 : Nat) : Int)))
  go_enter Try.func81, Try.ntmps81
  go_wp2
  go_quiet (fail)
  go_wp2
  go_ret
  exact ⟨ret_u64 H.out, _, rfl⟩
theorem part0_2 : Calls Try.prog 81 #[.int .u64 w, .int .i64 0, .int .i64 2] W fun e W' => e = .returned (.int .u64 (w % 4 : Nat)) ∧ ∃ n, W' = W.drewN n := by
  have H := Lib.hid (mask_u64 2 w hw (by decide))
  go_enter Try.func81, Try.ntmps81
  go_wp2
  go_quiet (fail)
  go_wp2
  go_ret
  exact ⟨ret_u64 H.out, _, rfl⟩
theorem part2_64 : Calls Try.prog 81 #[.int .u64 w, .int .i64 2, .int .i64 64] W fun e W' => e = .returned (.int .u64 (w / 4 : Nat)) ∧ ∃ n, W' = W.drewN n := by
  have H := Lib.hid ((mask_u64 62 (w / 4) (by omega) (by decide)).trans (by rw [Nat.mod_eq_of_lt (by omega)] : _ = ((w / 4 : Nat) : Int)))
  go_enter Try.func81, Try.ntmps81
  go_wp2
  go_quiet (fail)
  go_wp2
  go_ret
  exact ⟨ret_u64 H.out, _, rfl⟩
theorem part62_64 : Calls Try.prog 81 #[.int .u64 w, .int .i64 62, .int .i64 64] W fun e W' => e = .returned (.int .u64 (w / 4611686018427387904 : Nat)) ∧ ∃ n, W' = W.drewN n := by
  have H := Lib.hid ((mask_u64 2 (w / 4611686018427387904) (by omega) (by decide)).trans (by rw [Nat.mod_eq_of_lt (by omega)] : _ = ((w / 4611686018427387904 : Nat) : Int)))
  go_enter Try.func81, Try.ntmps81
  go_wp2
  go_quiet (fail)
  go_wp2
  go_ret
  exact ⟨ret_u64 H.out, _, rfl⟩
theorem part56_62 : Calls Try.prog 81 #[.int .u64 w, .int .i64 56, .int .i64 62] W fun e W' => e = .returned (.int .u64 (w % 4611686018427387904 / 72057594037927936 : Nat)) ∧ ∃ n, W' = W.drewN n := by
  have H := Lib.hid ((mask_u64 6 (w / 72057594037927936) (by omega) (by decide)).trans (by congr 1; omega : _ = ((w % 4611686018427387904 / 72057594037927936 : Nat) : Int)))
  go_enter Try.func81, Try.ntmps81
  go_wp2
  go_quiet (fail)
  go_wp2
  go_ret
  exact ⟨ret_u64 H.out, _, rfl⟩
theorem part0_56 : Calls Try.prog 81 #[.int .u64 w, .int .i64 0, .int .i64 56] W fun e W' => e = .returned (.int .u64 (w % 72057594037927936 : Nat)) ∧ ∃ n, W' = W.drewN n := by
  have H := Lib.hid (mask_u64 56 w hw (by decide))
  go_enter Try.func81, Try.ntmps81
  go_wp2
  go_quiet (fail)
  go_wp2
  go_ret
  exact ⟨ret_u64 H.out, _, rfl⟩
end

def isRefB (p : Int) (g : Nat) : Bool := decide (0 ≤ p ∧ p < 8192 ∧ 1 ≤ g ∧ g ≤ 4294967295)
theorem isRefB_iff (p : Int) (g : Nat) : isRefB p g = true ↔ (0 ≤ p ∧ p < 8192 ∧ 1 ≤ g ∧ g ≤ 4294967295) := by
  unfold isRefB; rw [decide_eq_true_iff]
def isUseB (p : Int) (g : Nat) : Bool := decide (0 ≤ p ∧ p ≤ 2 ∧ g ≤ 4294967295)
theorem isUseB_iff (p : Int) (g : Nat) : isUseB p g = true ↔ (0 ≤ p ∧ p ≤ 2 ∧ g ≤ 4294967295) := by
  unfold isUseB; rw [decide_eq_true_iff]

theorem isRef_any (p : Int) (g : Nat) (W : World) :
    Calls Try.prog 74 #[.int .i64 p, .int .u64 g] W fun e W' => e = .returned (.bool (isRefB p g)) ∧ W = W' := by
  have hi := isRefB_iff p g
  by_cases h : 0 ≤ p ∧ p < 8192 ∧ 1 ≤ g ∧ g ≤ 4294967295
  · have HR := Lib.hid (hi.2 h)
    obtain ⟨h1, h2, h3, h4⟩ := h
    have g3 : (1 : Int) ≤ (g : Int) := by omega
    have g4 : (g : Int) ≤ 4294967295 := by omega
    clear hi h3 h4
    go_enter Try.func74, Try.ntmps74
    go_wp2
    go_ret
    exact ⟨by rw [HR.out]; rfl, rfl⟩
  · have HR := Lib.hid (bool_not hi h)
    have hc : (¬ 0 ≤ p) ∨ (0 ≤ p ∧ ¬ p < 8192) ∨ (0 ≤ p ∧ p < 8192 ∧ ¬ (1 : Int) ≤ g) ∨ (0 ≤ p ∧ p < 8192 ∧ (1 : Int) ≤ g ∧ ¬ (g : Int) ≤ 4294967295) := by omega
    clear h hi
    rcases hc with g1 | ⟨g1, g2⟩ | ⟨g1, g2, g3⟩ | ⟨g1, g2, g3, g4⟩
    all_goals
      go_enter Try.func74, Try.ntmps74
      go_wp2
      go_ret
      exact ⟨by rw [HR.out]; rfl, rfl⟩

theorem isUse_any (p : Int) (g : Nat) (W : World) :
    Calls Try.prog 73 #[.int .i64 p, .int .u64 g] W fun e W' => e = .returned (.bool (isUseB p g)) ∧ W = W' := by
  have hi := isUseB_iff p g
  by_cases h : 0 ≤ p ∧ p ≤ 2 ∧ g ≤ 4294967295
  · have HR := Lib.hid (hi.2 h)
    obtain ⟨h1, h2, h4⟩ := h
    have g4 : (g : Int) ≤ 4294967295 := by omega
    clear hi h4
    go_enter Try.func73, Try.ntmps73
    go_wp2
    go_ret
    exact ⟨by rw [HR.out]; rfl, rfl⟩
  · have HR := Lib.hid (bool_not hi h)
    have hc : (¬ 0 ≤ p) ∨ (0 ≤ p ∧ ¬ p ≤ 2) ∨ (0 ≤ p ∧ p ≤ 2 ∧ ¬ (g : Int) ≤ 4294967295) := by omega
    clear h hi
    rcases hc with g1 | ⟨g1, g2⟩ | ⟨g1, g2, g3⟩
    all_goals
      go_enter Try.func73, Try.ntmps73
      go_wp2
      go_ret
      exact ⟨by rw [HR.out]; rfl, rfl⟩

theorem drewN_below (W : World) (n : Nat) : Below W.heap.size W (W.drewN n) := ⟨rfl, rfl, rfl, Nat.le_refl _, fun _ _ => rfl⟩

set_option maxHeartbeats 1000000 in
theorem open_any (w : Nat) (hw : w < 18446744073709551616) (W : World) :
    Calls Try.prog 76 #[.int .u64 w] W fun e W' => e = .returned (.tuple #[.int .i64 (openP w : Nat), .int .u64 (openG w : Nat), .bool (openOk w)]) ∧ Below W.heap.size W W' := by
  have H1 := Lib.hid (part0_14 w hw)
  have H2 := Lib.hid (part14_64 w hw)
  have hP : openP w = if openOk w = true then w % 16384 - 1 else 0 := rfl
  have hG : openG w = if openOk w = true then w / 16384 else 0 := rfl
  have hO := openOk_iff w
  have hlo : w % 16384 < 16384 := Nat.mod_lt _ (by omega)
  have hhi : w / 16384 < 1125899906842624 := by omega
  generalize w % 16384 = lo at *
  generalize w / 16384 = hi at *
  have hR := isRef_any ((lo : Int) - 1) hi
  have he : isRefB ((lo : Int) - 1) hi = openOk w := by
    rw [Bool.eq_iff_iff, hO, isRefB_iff]; omega
  rw [he] at hR
  have HR := Lib.hid hR
  clear hR he
  cases ho : openOk w with
  | true =>
    have hl := hO.1 ho
    rw [ho] at HR
    rw [if_pos ho] at hP hG
    have HP : Hid (((openP w : Nat) : Int) = (lo : Int) - 1) := Lib.hid (by omega)
    have HG := Lib.hid hG
    clear hP hG hO ho hl
    go_enter Try.func76, Try.ntmps76
    go_wp2_with fail
    refine (H1.out _).mono ?_
    rintro e w1 ⟨rfl, n1, hn1⟩
    subst hn1
    go_wp2_with fail
    refine (H2.out _).mono ?_
    rintro e w1 ⟨rfl, n2, hn2⟩
    subst hn2
    go_wp2_with fail
    refine (HR.out _).mono ?_
    rintro e w1 ⟨rfl, rfl⟩
    go_wp2
    go_ret3
    exact ⟨by rw [HP.out, HG.out]; rfl, (drewN_below W _)⟩
  | false =>
    rw [ho] at HR
    rw [ho] at hP hG
    have HP : Hid (openP w = 0) := Lib.hid (by rw [hP]; rfl)
    have HG : Hid (openG w = 0) := Lib.hid (by rw [hG]; rfl)
    clear hP hG hO ho
    go_enter Try.func76, Try.ntmps76
    go_wp2_with fail
    refine (H1.out _).mono ?_
    rintro e w1 ⟨rfl, n1, hn1⟩
    subst hn1
    go_wp2_with fail
    refine (H2.out _).mono ?_
    rintro e w1 ⟨rfl, n2, hn2⟩
    subst hn2
    go_wp2_with fail
    refine (HR.out _).mono ?_
    rintro e w1 ⟨rfl, rfl⟩
    go_wp2
    go_ret3
    exact ⟨by rw [HP.out, HG.out]; rfl, (drewN_below W _)⟩


set_option maxHeartbeats 1000000 in
theorem pack_any (p : Int) (g : Nat) (hp : -9223372036854775808 ≤ p ∧ p ≤ 9223372036854775807) (hg : g < 18446744073709551616) (W : World) :
    Calls Try.prog 55 #[.int .i64 p, .int .u64 g] W fun e W' => e = .returned (.int .u64 (packW p g : Nat)) ∧ Below W.heap.size W W' := by
  have hR := isRef_any p g
  have hi := isRefB_iff p g
  have hP : packW p g = if 0 ≤ p ∧ p < 8192 ∧ 1 ≤ g ∧ g ≤ 4294967295 then g * 16384 + p.toNat + 1 else 0 := rfl
  by_cases h : 0 ≤ p ∧ p < 8192 ∧ 1 ≤ g ∧ g ≤ 4294967295
  · rw [hi.2 h] at hR
    have HR := Lib.hid hR
    rw [if_pos h] at hP
    obtain ⟨h1, h2, h3, h4⟩ := h
    have ho := or_u64 14 g (p.toNat + 1) (by omega) (by omega) (by omega)
    have ho' : bits .or .u64 ((g : Int) * 16384) (p + 1) = ((packW p g : Nat) : Int) := by
      rw [show (g : Int) * 16384 = ((2 ^ 14 * g : Nat) : Int) by omega, show p + 1 = ((p.toNat + 1 : Nat) : Int) by omega, ho, hP]; omega
    have HO := Lib.hid ho'
    have g5 : (g : Int) * 16384 ≤ 70368744161280 := by omega
    clear hi hR hP ho ho' hp hg
    go_enter Try.func55, Try.ntmps55
    go_wp2_with fail
    refine (HR.out _).mono ?_
    rintro e w1 ⟨rfl, rfl⟩
    go_wp2
    go_ret
    exact ⟨ret_u64 HO.out, Below.refl _ _⟩
  · rw [bool_not hi h] at hR
    have HR := Lib.hid hR
    rw [if_neg h] at hP
    have HP := Lib.hid hP
    clear hi hR hP hp hg h
    go_enter Try.func55, Try.ntmps55
    go_wp2_with fail
    refine (HR.out _).mono ?_
    rintro e w1 ⟨rfl, rfl⟩
    go_wp2
    go_ret
    exact ⟨by rw [HP.out]; rfl, Below.refl _ _⟩

set_option maxHeartbeats 1000000 in
theorem use_any (p : Int) (g : Nat) (hp : -9223372036854775808 ≤ p ∧ p ≤ 9223372036854775807) (hg : g < 18446744073709551616) (W : World) :
    Calls Try.prog 54 #[.int .i64 p, .int .u64 g] W fun e W' => e = .returned (.int .u64 (useW p g : Nat)) ∧ Below W.heap.size W W' := by
  have hR := isUse_any p g
  have hi := isUseB_iff p g
  have hP : useW p g = if 0 ≤ p ∧ p ≤ 2 ∧ g ≤ 4294967295 then g * 4 + p.toNat else 18446744073709551615 := rfl
  by_cases h : 0 ≤ p ∧ p ≤ 2 ∧ g ≤ 4294967295
  · rw [hi.2 h] at hR
    have HR := Lib.hid hR
    rw [if_pos h] at hP
    obtain ⟨h1, h2, h4⟩ := h
    have ho := or_u64 2 g p.toNat (by omega) (by omega) (by omega)
    have ho' : bits .or .u64 ((g : Int) * 4) p = ((useW p g : Nat) : Int) := by
      refine Eq.trans ?_ (ho.trans (by rw [hP]; omega))
      rw [show (g : Int) * 4 = ((2 ^ 2 * g : Nat) : Int) by omega, show ((p.toNat : Nat) : Int) = p by omega]
    have HO := Lib.hid ho'
    have g5 : (g : Int) * 4 ≤ 70368744161280 := by omega
    clear hi hR hP ho ho' hp hg
    go_enter Try.func54, Try.ntmps54
    go_wp2_with fail
    refine (HR.out _).mono ?_
    rintro e w1 ⟨rfl, rfl⟩
    go_wp2
    go_ret
    exact ⟨ret_u64 HO.out, Below.refl _ _⟩
  · rw [bool_not hi h] at hR
    have HR := Lib.hid hR
    rw [if_neg h] at hP
    have HP := Lib.hid hP
    clear hi hR hP hp hg h
    go_enter Try.func54, Try.ntmps54
    go_wp2_with fail
    refine (HR.out _).mono ?_
    rintro e w1 ⟨rfl, rfl⟩
    go_wp2
    go_ret
    exact ⟨by rw [HP.out]; rfl, Below.refl _ _⟩

/-- Two new blocks, draws between them, and a call that leaves both. -/
theorem two_gates (W : World) (n : Nat) (z g : Array Value) (tz tg : TypeId) (w1 : World) (h : Below (((W.alloc (.cells z tz)).drewN n).alloc (.cells g tg)).heap.size (((W.alloc (.cells z tz)).drewN n).alloc (.cells g tg)) w1) :
    Below W.heap.size W w1 ∧ w1.heap[W.heap.size]? = some (.cells z tz (0, 0)) ∧ w1.heap[W.heap.size + 1]? = some (.cells g tg (0, 0)) := by
  have e1 : ((W.alloc (.cells z tz)).drewN n).heap.size = W.heap.size + 1 := World.size_alloc _ _
  have z0 : (((W.alloc (.cells z tz)).drewN n).alloc (.cells g tg)).heap[W.heap.size]? = some (.cells z tz (0, 0)) := by
    rw [Below.heap_alloc _ _ _ (by rw [e1]; omega)]
    exact heap_alloc_new W _
  have z1 : (((W.alloc (.cells z tz)).drewN n).alloc (.cells g tg)).heap[W.heap.size + 1]? = some (.cells g tg (0, 0)) := by
    have := heap_alloc_new ((W.alloc (.cells z tz)).drewN n) (.cells g tg)
    rw [e1] at this
    exact this
  have hb0 : Below W.heap.size W ((W.alloc (.cells z tz)).drewN n) := (gate_below W _).trans ((drewN_below _ n).mono (by simp))
  have hb : Below W.heap.size W (((W.alloc (.cells z tz)).drewN n).alloc (.cells g tg)) := hb0.alloc (by rw [e1]; omega) _
  exact ⟨hb.trans (h.mono hb.size), (h.block _ (lt_of_block z0)).trans z0, (h.block _ (lt_of_block z1)).trans z1⟩

end Go.Proofs.Ytkdjcikilabehaa
