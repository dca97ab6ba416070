/- Plain facts on numbers and bytes for the laws of sip: how many digits to the base 128 a number has by its bits. No program, no world. Conditions: numbers below 2^64 where said. -/
import Derived.Lib.VarintMem
import Derived.Lib.Varint
import Derived.Lib.BitFns
namespace Go.Proofs.YtgckgagnodkhjaaRRRRDoor

theorem or1_div2 (x : Nat) : (x ||| 1) / 2 = x / 2 := by
  apply Nat.eq_of_testBit_eq
  intro i
  rw [Nat.testBit_div_two, Nat.testBit_div_two, Nat.testBit_or]
  have : Nat.testBit 1 (i + 1) = false := by
    rw [show (1 : Nat) = 2 ^ 0 from rfl, Nat.testBit_two_pow]
    simp
  rw [this, Bool.or_false]

theorem or1_ne (x : Nat) : (x ||| 1) ≠ 0 := by
  intro h
  have := congrArg (fun n => Nat.testBit n 0) h
  simp at this

theorem bitLen_or1 (x : Nat) (h0 : x ≠ 0) (h : x < 2 ^ 64) : Lib.bitLen (x ||| 1) = Lib.bitLen x := by
  have h1 : (x ||| 1) < 2 ^ 64 := Nat.or_lt_two_pow h (by decide)
  rw [Lib.bitLen_half _ (or1_ne x) h1, or1_div2, ← Lib.bitLen_half x h0 h]

theorem small_bits : ∀ n : Fin 128, (Lib.bitLen (n.val ||| 1) - 1) / 7 = 0 := by decide +kernel

/-- How many digits there are behind the first: by the bits. -/
theorem digits_bits (x : Nat) (h : x < 2 ^ 64) : (Lib.bitLen (x ||| 1) - 1) / 7 + 1 = (Lib.uvarint x).length := by
  induction x using Nat.strongRecOn with
  | _ x ih =>
    by_cases hx : x < 128
    · rw [Lib.uvarint_small hx, small_bits ⟨x, hx⟩]; rfl
    · rw [Lib.uvarint_big (by omega), List.length_cons, ← ih (x / 128) (by omega) (by omega)]
      rw [bitLen_or1 x (by omega) h, bitLen_or1 (x / 128) (by omega) (by omega)]
      rw [Lib.bitLen_shift 7 x (by omega) h]
      have hp : 1 ≤ Lib.bitLen (x / 2 ^ 7) := by
        rw [Lib.bitLen_half _ (by omega) (by omega)]; omega
      show (7 + Lib.bitLen (x / 2 ^ 7) - 1) / 7 + 1 = (Lib.bitLen (x / 2 ^ 7) - 1) / 7 + 1 + 1
      omega

theorem bitLen_pos1 (x : Nat) (h : x < 2 ^ 64) : 1 ≤ Lib.bitLen (x ||| 1) ∧ Lib.bitLen (x ||| 1) ≤ 64 := by
  have h1 : (x ||| 1) < 2 ^ 64 := Nat.or_lt_two_pow h (by decide)
  exact ⟨by rw [Lib.bitLen_half _ (or1_ne x) h1]; omega, Lib.bitLen_le _ _ (by decide) h1⟩

theorem uvarint_one_iff (y : Nat) : (Lib.uvarint y).length = 1 ↔ y < 128 := by
  by_cases h : y < 128
  · rw [Lib.uvarint_small h]; simp [h]
  · rw [Lib.uvarint_big (by omega), List.length_cons]
    have := Lib.uvarint_pos (y / 128)
    constructor
    · intro e; omega
    · intro e; omega

/-- All bytes of a list of numbers, one behind the other. -/
def nums : List Nat → List UInt8
  | [] => []
  | x :: r => Lib.uvarint x ++ nums r

theorem nums_append : ∀ (a b : List Nat), nums (a ++ b) = nums a ++ nums b
  | [], b => rfl
  | x :: r, b => by simp [nums, nums_append r b]

theorem nums_length : ∀ (a : List Nat), (∀ x ∈ a, x < 18446744073709551616) → (nums a).length ≤ 10 * a.length
  | [], _ => by simp [nums]
  | x :: r, h => by
    have h1 := Lib.uvarint_length64 (h x (by simp))
    have h2 := nums_length r (fun y hy => h y (by simp [hy]))
    simp only [nums, List.length_append, List.length_cons]
    omega

end Go.Proofs.YtgckgagnodkhjaaRRRRDoor
