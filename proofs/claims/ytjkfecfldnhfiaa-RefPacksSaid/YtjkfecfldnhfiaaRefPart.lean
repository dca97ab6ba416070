/- ref's own part, isRef, isUse, Open. No condition but that words are words. -/
import Derived.Test.YtjkfecfldnhfiaaRefDoc2
import Derived.Laws.Bits64b
import Derived.Deep.QuietTactic
import Derived.BigQuiet
namespace Go.Proofs.Ytjkfecfldnhfiaa
open Go.RowKit

theorem mask_u64 (k a : Nat) (ha : a < 18446744073709551616) (hk : 2 ^ k - 1 < 18446744073709551616) : bits .and .u64 (a : Int) ((2 ^ k - 1 : Nat) : Int) = ((a % 2 ^ k : Nat) : Int) := by
  rw [bits_and_u64_nat a _ ha hk, Nat.and_two_pow_sub_one_eq_mod]
theorem or_u64 (k a b : Nat) (hb : b < 2 ^ k) (h : 2 ^ k * a < 18446744073709551616) (hb2 : b < 18446744073709551616) : bits .or .u64 ((2 ^ k * a : Nat) : Int) (b : Int) = ((2 ^ k * a + b : Nat) : Int) := by
  rw [bits_or_u64_nat _ _ h hb2, Nat.two_pow_add_eq_or_of_lt hb]

theorem ret_u64 {a b : Int} (h : a = b) : Ending.returned (.int .u64 a) = .returned (.int .u64 b) := by rw [h]

section
variable (w : Nat) (hw : w < 18446744073709551616) (W : World)
include hw
theorem part0_14 : Calls Try.prog 30 #[.int .u64 w, .int .i64 0, .int .i64 14] W fun e W' => e = .returned (.int .u64 (w % 16384 : Nat)) ∧ ∃ n, W' = W.drewN n := by
  have H := Lib.hid (mask_u64 14 w hw (by decide))
  go_enter Try.func30, Try.ntmps30
  go_wp2
  go_quiet (fail)
  go_wp2
  go_ret
  exact ⟨ret_u64 H.out, _, rfl⟩
theorem part14_64 : Calls Try.prog 30 #[.int .u64 w, .int .i64 14, .int .i64 64] W fun e W' => e = .returned (.int .u64 (w / 16384 : Nat)) ∧ ∃ n, W' = W.drewN n := by
  have H := Lib.hid ((mask_u64 50 (w / 16384) (by omega) (by decide)).trans (by rw [Nat.mod_eq_of_lt (by omega)] : _ = ((w / 16384 : Nat) : Int)))
  go_enter Try.func30, Try.ntmps30
  go_wp2
  go_quiet (fail)
  go_wp2
  go_ret
  exact ⟨ret_u64 H.out, _, rfl⟩
theorem part0_2 : Calls Try.prog 30 #[.int .u64 w, .int .i64 0, .int .i64 2] W fun e W' => e = .returned (.int .u64 (w % 4 : Nat)) ∧ ∃ n, W' = W.drewN n := by
  have H := Lib.hid (mask_u64 2 w hw (by decide))
  go_enter Try.func30, Try.ntmps30
  go_wp2
  go_quiet (fail)
  go_wp2
  go_ret
  exact ⟨ret_u64 H.out, _, rfl⟩
theorem part2_64 : Calls Try.prog 30 #[.int .u64 w, .int .i64 2, .int .i64 64] W fun e W' => e = .returned (.int .u64 (w / 4 : Nat)) ∧ ∃ n, W' = W.drewN n := by
  have H := Lib.hid ((mask_u64 62 (w / 4) (by omega) (by decide)).trans (by rw [Nat.mod_eq_of_lt (by omega)] : _ = ((w / 4 : Nat) : Int)))
  go_enter Try.func30, Try.ntmps30
  go_wp2
  go_quiet (fail)
  go_wp2
  go_ret
  exact ⟨ret_u64 H.out, _, rfl⟩
theorem part62_64 : Calls Try.prog 30 #[.int .u64 w, .int .i64 62, .int .i64 64] W fun e W' => e = .returned (.int .u64 (w / 4611686018427387904 : Nat)) ∧ ∃ n, W' = W.drewN n := by
  have H := Lib.hid ((mask_u64 2 (w / 4611686018427387904) (by omega) (by decide)).trans (by rw [Nat.mod_eq_of_lt (by omega)] : _ = ((w / 4611686018427387904 : Nat) : Int)))
  go_enter Try.func30, Try.ntmps30
  go_wp2
  go_quiet (fail)
  go_wp2
  go_ret
  exact ⟨ret_u64 H.out, _, rfl⟩
theorem part56_62 : Calls Try.prog 30 #[.int .u64 w, .int .i64 56, .int .i64 62] W fun e W' => e = .returned (.int .u64 (w % 4611686018427387904 / 72057594037927936 : Nat)) ∧ ∃ n, W' = W.drewN n := by
  have H := Lib.hid ((mask_u64 6 (w / 72057594037927936) (by omega) (by decide)).trans (by congr 1; omega : _ = ((w % 4611686018427387904 / 72057594037927936 : Nat) : Int)))
  go_enter Try.func30, Try.ntmps30
  go_wp2
  go_quiet (fail)
  go_wp2
  go_ret
  exact ⟨ret_u64 H.out, _, rfl⟩
theorem part0_56 : Calls Try.prog 30 #[.int .u64 w, .int .i64 0, .int .i64 56] W fun e W' => e = .returned (.int .u64 (w % 72057594037927936 : Nat)) ∧ ∃ n, W' = W.drewN n := by
  have H := Lib.hid (mask_u64 56 w hw (by decide))
  go_enter Try.func30, Try.ntmps30
  go_wp2
  go_quiet (fail)
  go_wp2
  go_ret
  exact ⟨ret_u64 H.out, _, rfl⟩
end

def isRefB (p : Int) (g : Nat) : Bool := decide (0 ≤ p ∧ p < 8192 ∧ 1 ≤ g ∧ g ≤ 4294967295)
theorem isRefB_iff (p : Int) (g : Nat) : isRefB p g = true ↔ (0 ≤ p ∧ p < 8192 ∧ 1 ≤ g ∧ g ≤ 4294967295) := by
  unfold isRefB; rw [decide_eq_true_iff]
def isUseB (p : Int) (g : Nat) : Bool := decide (0 ≤ p ∧ p ≤ 2 ∧ g ≤ 4294967295)
theorem isUseB_iff (p : Int) (g : Nat) : isUseB p g = true ↔ (0 ≤ p ∧ p ≤ 2 ∧ g ≤ 4294967295) := by
  unfold isUseB; rw [decide_eq_true_iff]

theorem isRef_any (p : Int) (g : Nat) (W : World) :
    Calls Try.prog 31 #[.int .i64 p, .int .u64 g] W fun e W' => e = .returned (.bool (isRefB p g)) ∧ W = W' := by
  have hi := isRefB_iff p g
  by_cases h : 0 ≤ p ∧ p < 8192 ∧ 1 ≤ g ∧ g ≤ 4294967295
  · have HR := Lib.hid (hi.2 h)
    obtain ⟨h1, h2, h3, h4⟩ := h
    have g3 : (1 : Int) ≤ (g : Int) := by omega
    have g4 : (g : Int) ≤ 4294967295 := by omega
    clear hi h3 h4
    go_enter Try.func31, Try.ntmps31
    go_wp2
    go_ret
    exact ⟨by rw [HR.out]; rfl, rfl⟩
  · have HR := Lib.hid (bool_not hi h)
    have hc : (¬ 0 ≤ p) ∨ (0 ≤ p ∧ ¬ p < 8192) ∨ (0 ≤ p ∧ p < 8192 ∧ ¬ (1 : Int) ≤ g) ∨ (0 ≤ p ∧ p < 8192 ∧ (1 : Int) ≤ g ∧ ¬ (g : Int) ≤ 4294967295) := by omega
    clear h hi
    rcases hc with g1 | ⟨g1, g2⟩ | ⟨g1, g2, g3⟩ | ⟨g1, g2, g3, g4⟩
    all_goals
      go_enter Try.func31, Try.ntmps31
      go_wp2
      go_ret
      exact ⟨by rw [HR.out]; rfl, rfl⟩

theorem isUse_any (p : Int) (g : Nat) (W : World) :
    Calls Try.prog 32 #[.int .i64 p, .int .u64 g] W fun e W' => e = .returned (.bool (isUseB p g)) ∧ W = W' := by
  have hi := isUseB_iff p g
  by_cases h : 0 ≤ p ∧ p ≤ 2 ∧ g ≤ 4294967295
  · have HR := Lib.hid (hi.2 h)
    obtain ⟨h1, h2, h4⟩ := h
    have g4 : (g : Int) ≤ 4294967295 := by omega
    clear hi h4
    go_enter Try.func32, Try.ntmps32
    go_wp2
    go_ret
    exact ⟨by rw [HR.out]; rfl, rfl⟩
  · have HR := Lib.hid (bool_not hi h)
    have hc : (¬ 0 ≤ p) ∨ (0 ≤ p ∧ ¬ p ≤ 2) ∨ (0 ≤ p ∧ p ≤ 2 ∧ ¬ (g : Int) ≤ 4294967295) := by omega
    clear h hi
    rcases hc with g1 | ⟨g1, g2⟩ | ⟨g1, g2, g3⟩
    all_goals
      go_enter Try.func32, Try.ntmps32
      go_wp2
      go_ret
      exact ⟨by rw [HR.out]; rfl, rfl⟩

theorem drewN_below (W : World) (n : Nat) : Below W.heap.size W (W.drewN n) := ⟨rfl, rfl, rfl, Nat.le_refl _, fun _ _ => rfl⟩

set_option maxHeartbeats 1000000 in
theorem open_any (w : Nat) (hw : w < 18446744073709551616) (W : World) :
    Calls Try.prog 8 #[.int .u64 w] W fun e W' => e = .returned (.tuple #[.int .i64 (openP w : Nat), .int .u64 (openG w : Nat), .bool (openOk w)]) ∧ Below W.heap.size W W' := by
  have H1 := Lib.hid (part0_14 w hw)
  have H2 := Lib.hid (part14_64 w hw)
  have hP : openP w = if openOk w = true then w % 16384 - 1 else 0 := rfl
  have hG : openG w = if openOk w = true then w / 16384 else 0 := rfl
  have hO := openOk_iff w
  have hlo : w % 16384 < 16384 := Nat.mod_lt _ (by omega)
  have hhi : w / 16384 < 1125899906842624 := by omega
  generalize w % 16384 = lo at *
  generalize w / 16384 = hi at *
  have hR := isRef_any ((lo : Int) - 1) hi
  have he : isRefB ((lo : Int) - 1) hi = openOk w := by
    rw [Bool.eq_iff_iff, hO, isRefB_iff]; omega
  rw [he] at hR
  have HR := Lib.hid hR
  clear hR he
  cases ho : openOk w with
  | true =>
    have hl := hO.1 ho
    rw [ho] at HR
    rw [if_pos ho] at hP hG
    have HP : Hid (((openP w : Nat) : Int) = (lo : Int) - 1) := Lib.hid (by omega)
    have HG := Lib.hid hG
    clear hP hG hO ho hl
    go_enter Try.func8, Try.ntmps8
    go_wp2_with fail
    refine (H1.out _).mono ?_
    rintro e w1 ⟨rfl, n1, hn1⟩
    subst hn1
    go_wp2_with fail
    refine (H2.out _).mono ?_
    rintro e w1 ⟨rfl, n2, hn2⟩
    subst hn2
    go_wp2_with fail
    refine (HR.out _).mono ?_
    rintro e w1 ⟨rfl, rfl⟩
    go_wp2
    go_ret3
    exact ⟨by rw [HP.out, HG.out]; rfl, (drewN_below W _)⟩
  | false =>
    rw [ho] at HR
    rw [ho] at hP hG
    have HP : Hid (openP w = 0) := Lib.hid (by rw [hP]; rfl)
    have HG : Hid (openG w = 0) := Lib.hid (by rw [hG]; rfl)
    clear hP hG hO ho
    go_enter Try.func8, Try.ntmps8
    go_wp2_with fail
    refine (H1.out _).mono ?_
    rintro e w1 ⟨rfl, n1, hn1⟩
    subst hn1
    go_wp2_with fail
    refine (H2.out _).mono ?_
    rintro e w1 ⟨rfl, n2, hn2⟩
    subst hn2
    go_wp2_with fail
    refine (HR.out _).mono ?_
    rintro e w1 ⟨rfl, rfl⟩
    go_wp2
    go_ret3
    exact ⟨by rw [HP.out, HG.out]; rfl, (drewN_below W _)⟩
end Go.Proofs.Ytjkfecfldnhfiaa
