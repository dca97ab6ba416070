/- Plain facts on numbers' bytes: what is written is read as it was, and what is read is just what was written. No program, no world. -/
import Derived.Test.YtgckgagnodkhjaaRRRRDoorEyeGather
import Derived.Lib.Zigzag
import Derived.Lib.VarintDec
namespace Go.Proofs.YtgckgagnodkhjaaRRRRDoor

theorem gat_big (i n : Nat) (b : UInt8) (r : List UInt8) (hi : i < 9) (hb : 128 ≤ b.toNat) : gat (9 - i) i n (b :: r) = gat (9 - (i + 1)) (i + 1) (n + (b.toNat - 128) * 128 ^ i) r := by
  rw [gat_step i n b r hi, if_neg (by omega)]

theorem pow9 : (128 : Nat) ^ 9 = 9223372036854775808 := by decide

/-- Reading a number's bytes. -/
theorem gat_uvarint (i : Nat) (hi : i ≤ 9) : ∀ (n y : Nat) (rest : List UInt8), (0 < i → y ≠ 0) → y * 128 ^ i < 18446744073709551616 → gat (9 - i) i n (Lib.uvarint y ++ rest) = (n + y * 128 ^ i, 0, rest) := by
  intro n y rest h0 hy
  by_cases h9 : i = 9
  · subst h9
    rw [pow9] at hy ⊢
    have : y = 1 := by have := h0 (by omega); omega
    subst this
    rw [Lib.uvarint_small (by omega)]
    show gat 0 9 n ([(1 : Nat).toUInt8] ++ rest) = _
    simp [gat]
  · by_cases hs : y < 128
    · rw [Lib.uvarint_small hs]
      have e : (y.toUInt8).toNat = y := by simp; omega
      show gat (9 - i) i n (y.toUInt8 :: rest) = _
      rw [gat_step i n _ _ (by omega), e, if_pos hs, if_neg (by omega)]
    · rw [Lib.uvarint_big (by omega)]
      have e : ((y % 128 + 128).toUInt8).toNat = y % 128 + 128 := by simp; omega
      show gat (9 - i) i n ((y % 128 + 128).toUInt8 :: (Lib.uvarint (y / 128) ++ rest)) = _
      have hp : y / 128 * 128 ^ (i + 1) ≤ y * 128 ^ i := by
        rw [Nat.pow_succ, Nat.mul_comm (128 ^ i), ← Nat.mul_assoc]
        exact Nat.mul_le_mul_right _ (Nat.div_mul_le_self y 128)
      rw [gat_big i n _ _ (by omega) (by omega), e, gat_uvarint (i + 1) (by omega) _ _ _ (fun _ => by omega) (by omega)]
      congr 1
      rw [Nat.add_sub_cancel, Nat.pow_succ, Nat.mul_comm (128 ^ i) 128, ← Nat.mul_assoc, Nat.add_assoc, ← Nat.add_mul]
      congr 2
      omega
termination_by 9 - i

theorem rnum_uvarint (most x : Nat) (rest : List UInt8) (hx : x < 18446744073709551616) (hm : x ≤ most) : rnum most (Lib.uvarint x ++ rest) = (x, 0, rest) := by
  have h := gat_uvarint 0 (by omega) 0 x rest (fun h => absurd h (Nat.lt_irrefl _)) (by simpa using hx)
  unfold rnum
  rw [show gat 9 0 0 (Lib.uvarint x ++ rest) = (x, 0, rest) by simpa using h]
  simp
  omega

/-- What was read is just what is written so. -/
theorem gat_back (i : Nat) (hi : i ≤ 9) : ∀ (n m : Nat) (bs rest : List UInt8), gat (9 - i) i n bs = (m, 0, rest) → ∃ y, m = n + y * 128 ^ i ∧ bs = Lib.uvarint y ++ rest ∧ (0 < i → y ≠ 0) ∧ y < 2 * 128 ^ (9 - i) := by
  intro n m bs rest h
  match bs with
  | [] => rw [gat_end] at h; simp at h
  | b :: r =>
    by_cases h9 : i = 9
    · subst h9
      simp only [Nat.sub_self, gat] at h
      split at h
      · rename_i hb
        simp only [Prod.mk.injEq, true_and] at h
        refine ⟨1, by rw [pow9]; omega, ?_, fun _ => by omega, by simp⟩
        rw [Lib.uvarint_small (by omega), ← h.2]
        show b :: r = (1 : Nat).toUInt8 :: r
        congr 1
        exact UInt8.toNat_inj.1 (by simpa using hb)
      · simp at h
    · have hlt := b.toNat_lt
      have hpos : 0 < 128 ^ (9 - (i + 1)) := Nat.pow_pos (by omega)
      have hpe : 128 ^ (9 - i) = 128 * 128 ^ (9 - (i + 1)) := by rw [show 9 - i = (9 - (i + 1)) + 1 by omega, Nat.pow_succ, Nat.mul_comm]
      rw [gat_step i n b r (by omega)] at h
      by_cases hb : b.toNat < 128
      · rw [if_pos hb] at h
        split at h
        · simp at h
        · rename_i h0
          simp only [Prod.mk.injEq, true_and] at h
          refine ⟨b.toNat, h.1.symm, ?_, fun h1 e => h0 ⟨e, h1⟩, by rw [hpe]; omega⟩
          rw [Lib.uvarint_small hb, ← h.2]
          simp
      · rw [if_neg hb] at h
        obtain ⟨y, e1, e2, e3, e4⟩ := gat_back (i + 1) (by omega) _ _ _ _ h
        have hy := e3 (by omega)
        refine ⟨(b.toNat - 128) + 128 * y, ?_, ?_, fun _ => by omega, ?_⟩
        · rw [e1, Nat.pow_succ, Nat.mul_comm (128 ^ i) 128, ← Nat.mul_assoc, Nat.add_assoc, ← Nat.add_mul]
          congr 2
          omega
        · rw [Lib.uvarint_big (by omega), e2]
          have g1 : ((b.toNat - 128 + 128 * y) % 128 + 128) = b.toNat := by omega
          have g2 : (b.toNat - 128 + 128 * y) / 128 = y := by omega
          rw [g1, g2]
          simp
        · rw [hpe]
          have h2 : (2 * 128 ^ (9 - (i + 1))) ≥ y + 1 := e4
          have : 128 * (y + 1) ≤ 128 * (2 * 128 ^ (9 - (i + 1))) := Nat.mul_le_mul_left _ h2
          omega
termination_by 9 - i

theorem rnum_back (most n : Nat) (bs rest : List UInt8) (h : rnum most bs = (n, 0, rest)) : bs = Lib.uvarint n ++ rest ∧ n < 18446744073709551616 ∧ n ≤ most := by
  unfold rnum at h
  simp only at h
  split at h
  · simp at h
  · rename_i h1
    split at h
    · rename_i h2
      simp only [Prod.mk.injEq, true_and] at h
      have hg : gat (9 - 0) 0 0 bs = (n, 0, rest) := by
        rw [← h.1, ← h.2, ← h2]
      obtain ⟨y, e1, e2, _, e4⟩ := gat_back 0 (by omega) 0 n bs rest hg
      have hy : y = n := by simp at e1; exact e1.symm
      subst hy
      have hp : (2 : Nat) * 128 ^ (9 - 0) = 18446744073709551616 := by decide
      rw [hp] at e4
      refine ⟨e2, e4, ?_⟩
      have := h.1
      omega
    · rename_i h2
      simp only [Prod.mk.injEq] at h
      exact absurd h.2.1 h2

theorem rnum_nil (most : Nat) : rnum most [] = (0, 11, []) := by unfold rnum; rw [gat_end]; simp

theorem rnum_fault (most : Nat) (bs : List UInt8) (h : (rnum most bs).2.1 ≠ 0) : (rnum most bs).1 = 0 ∧ (rnum most bs).2.2 = [] := by
  unfold rnum at h ⊢
  simp only at h ⊢
  split
  · exact ⟨rfl, rfl⟩
  · rename_i h1
    rw [if_neg h1] at h
    split
    · rename_i h2; rw [if_pos h2] at h; exact absurd rfl h
    · exact ⟨rfl, rfl⟩

theorem unzig_zig (x : Int) : Lib.unzigzag (Lib.zigzag x) = x := by
  unfold Lib.unzigzag Lib.zigzag
  split <;> split <;> omega
end Go.Proofs.YtgckgagnodkhjaaRRRRDoor
