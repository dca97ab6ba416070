/- bowerlaw26.MemoryApart: no cell is two things. No condition. -/
import Derived.Test.YtkdjcikilabehaaMemLives

namespace Go.Proofs.Ytkdjcikilabehaa
open Go.RowKit

/-- The cells that the law looks at. -/
def apL (A T : Nat) (i k : Int) : List Int := [atM A T 0 i, atM A T 1 i, atM A T 2 i, atM A T 3 i, atM A T 4 i, hazM A T i 0, hazM A T i 1, atM A T 6 0, atM A T 0 k, atM A T 1 k, atM A T 2 k, atM A T 3 k, atM A T 4 k, hazM A T k 0, hazM A T k 1]
theorem apL_len (A T : Nat) (i k : Int) : (apL A T i k).length = 15 := rfl
theorem at_or {A T : Nat} (r : Nat) (i : Int) : (0 ≤ i ∧ i < (manyM A T r : Int) ∧ atM A T r i = (begM A T r : Int) + i) ∨ (¬ (0 ≤ i ∧ i < (manyM A T r : Int)) ∧ atM A T r i = -1) := by
  unfold atM
  split
  · rename_i h; exact Or.inl ⟨h.1, h.2, rfl⟩
  · rename_i h; exact Or.inr ⟨h, rfl⟩
theorem haz_or {A T : Nat} (i k : Int) : ((0 ≤ i ∧ i < (T : Int)) ∧ (0 ≤ k ∧ k < 2) ∧ hazM A T i k = (begM A T 5 : Int) + (i * 2 + k)) ∨ (¬ ((0 ≤ i ∧ i < (T : Int)) ∧ 0 ≤ k ∧ k < 2) ∧ hazM A T i k = -1) := by
  unfold hazM
  split
  · rename_i h; exact Or.inl ⟨h.1, h.2, rfl⟩
  · rename_i h; exact Or.inr ⟨h, rfl⟩
theorem begs (A T : Nat) (h : 1 ≤ A) : begM A T 0 = 0 ∧ begM A T 1 = A ∧ begM A T 2 = 2 * A ∧ begM A T 3 = 2 * A + T ∧ begM A T 4 = 2 * A + 2 * T ∧ begM A T 5 = 2 * A + 3 * T ∧ begM A T 6 = 2 * A + 5 * T ∧ manyM A T 0 = A ∧ manyM A T 1 = A ∧ manyM A T 2 = T ∧ manyM A T 3 = T ∧ manyM A T 4 = T ∧ manyM A T 6 = 1 := by
  simp [begM, manyM]
  omega
/-- What is told of all of them. -/
theorem ap_facts (A T : Nat) (i k : Int) (h : 1 ≤ A) : ∃ v0 v1 v2 v3 v4 v5 v6 v7 v8 v9 va vb vc vd ve : Int, apL A T i k = [v0, v1, v2, v3, v4, v5, v6, v7, v8, v9, va, vb, vc, vd, ve] ∧
    ((0 ≤ i ∧ i < (A : Int) ∧ v0 = ((0 * A : Nat) : Int) + i) ∨ (¬ (0 ≤ i ∧ i < (A : Int)) ∧ v0 = -1)) ∧
    ((0 ≤ i ∧ i < (A : Int) ∧ v1 = ((1 * A : Nat) : Int) + i) ∨ (¬ (0 ≤ i ∧ i < (A : Int)) ∧ v1 = -1)) ∧
    ((0 ≤ i ∧ i < (T : Int) ∧ v2 = ((2 * A + 0 * T : Nat) : Int) + i) ∨ (¬ (0 ≤ i ∧ i < (T : Int)) ∧ v2 = -1)) ∧
    ((0 ≤ i ∧ i < (T : Int) ∧ v3 = ((2 * A + 1 * T : Nat) : Int) + i) ∨ (¬ (0 ≤ i ∧ i < (T : Int)) ∧ v3 = -1)) ∧
    ((0 ≤ i ∧ i < (T : Int) ∧ v4 = ((2 * A + 2 * T : Nat) : Int) + i) ∨ (¬ (0 ≤ i ∧ i < (T : Int)) ∧ v4 = -1)) ∧
    ((0 ≤ i ∧ i < (T : Int) ∧ v5 = ((2 * A + 3 * T : Nat) : Int) + (i * 2 + 0)) ∨ (¬ (0 ≤ i ∧ i < (T : Int)) ∧ v5 = -1)) ∧
    ((0 ≤ i ∧ i < (T : Int) ∧ v6 = ((2 * A + 3 * T : Nat) : Int) + (i * 2 + 1)) ∨ (¬ (0 ≤ i ∧ i < (T : Int)) ∧ v6 = -1)) ∧
    (v7 = ((2 * A + 5 * T : Nat) : Int)) ∧
    ((0 ≤ k ∧ k < (A : Int) ∧ v8 = ((0 * A : Nat) : Int) + k) ∨ (¬ (0 ≤ k ∧ k < (A : Int)) ∧ v8 = -1)) ∧
    ((0 ≤ k ∧ k < (A : Int) ∧ v9 = ((1 * A : Nat) : Int) + k) ∨ (¬ (0 ≤ k ∧ k < (A : Int)) ∧ v9 = -1)) ∧
    ((0 ≤ k ∧ k < (T : Int) ∧ va = ((2 * A + 0 * T : Nat) : Int) + k) ∨ (¬ (0 ≤ k ∧ k < (T : Int)) ∧ va = -1)) ∧
    ((0 ≤ k ∧ k < (T : Int) ∧ vb = ((2 * A + 1 * T : Nat) : Int) + k) ∨ (¬ (0 ≤ k ∧ k < (T : Int)) ∧ vb = -1)) ∧
    ((0 ≤ k ∧ k < (T : Int) ∧ vc = ((2 * A + 2 * T : Nat) : Int) + k) ∨ (¬ (0 ≤ k ∧ k < (T : Int)) ∧ vc = -1)) ∧
    ((0 ≤ k ∧ k < (T : Int) ∧ vd = ((2 * A + 3 * T : Nat) : Int) + (k * 2 + 0)) ∨ (¬ (0 ≤ k ∧ k < (T : Int)) ∧ vd = -1)) ∧
    ((0 ≤ k ∧ k < (T : Int) ∧ ve = ((2 * A + 3 * T : Nat) : Int) + (k * 2 + 1)) ∨ (¬ (0 ≤ k ∧ k < (T : Int)) ∧ ve = -1)) := by
  obtain ⟨b0, b1, b2, b3, b4, b5, b6, m0, m1, m2, m3, m4, m6⟩ := begs A T h
  refine ⟨_, _, _, _, _, _, _, _, _, _, _, _, _, _, _, rfl, ?_, ?_, ?_, ?_, ?_, ?_, ?_, ?_, ?_, ?_, ?_, ?_, ?_, ?_, ?_⟩
  · have := at_or (A := A) (T := T) 0 i
    rw [b0, m0] at this
    omega
  · have := at_or (A := A) (T := T) 1 i
    rw [b1, m1] at this
    omega
  · have := at_or (A := A) (T := T) 2 i
    rw [b2, m2] at this
    omega
  · have := at_or (A := A) (T := T) 3 i
    rw [b3, m3] at this
    omega
  · have := at_or (A := A) (T := T) 4 i
    rw [b4, m4] at this
    omega
  · have := haz_or (A := A) (T := T) i 0
    rw [b5] at this
    omega
  · have := haz_or (A := A) (T := T) i 1
    rw [b5] at this
    omega
  · unfold atM
    rw [m6, b6, if_pos (by omega)]
    omega
  · have := at_or (A := A) (T := T) 0 k
    rw [b0, m0] at this
    omega
  · have := at_or (A := A) (T := T) 1 k
    rw [b1, m1] at this
    omega
  · have := at_or (A := A) (T := T) 2 k
    rw [b2, m2] at this
    omega
  · have := at_or (A := A) (T := T) 3 k
    rw [b3, m3] at this
    omega
  · have := at_or (A := A) (T := T) 4 k
    rw [b4, m4] at this
    omega
  · have := haz_or (A := A) (T := T) k 0
    rw [b5] at this
    omega
  · have := haz_or (A := A) (T := T) k 1
    rw [b5] at this
    omega
theorem ap_in (A T : Nat) (i k : Int) (h : 1 ≤ A) : ∀ v ∈ apL A T i k, -1 ≤ v ∧ v < ((2 * A + 5 * T + 1 : Nat) : Int) := by
  obtain ⟨v0, v1, v2, v3, v4, v5, v6, v7, v8, v9, va, vb, vc, vd, ve, e, h0, h1, h2, h3, h4, h5, h6, h7, h8, h9, ha, hb, hc, hd, he⟩ := ap_facts A T i k h
  rw [e]
  intro v hv
  simp only [List.mem_cons, List.not_mem_nil, or_false] at hv
  rcases hv with rfl | rfl | rfl | rfl | rfl | rfl | rfl | rfl | rfl | rfl | rfl | rfl | rfl | rfl | rfl
  · clear h1 h2 h3 h4 h5 h6 h7 h8 h9 ha hb hc hd he
    omega
  · clear h0 h2 h3 h4 h5 h6 h7 h8 h9 ha hb hc hd he
    omega
  · clear h0 h1 h3 h4 h5 h6 h7 h8 h9 ha hb hc hd he
    omega
  · clear h0 h1 h2 h4 h5 h6 h7 h8 h9 ha hb hc hd he
    omega
  · clear h0 h1 h2 h3 h5 h6 h7 h8 h9 ha hb hc hd he
    omega
  · clear h0 h1 h2 h3 h4 h6 h7 h8 h9 ha hb hc hd he
    omega
  · clear h0 h1 h2 h3 h4 h5 h7 h8 h9 ha hb hc hd he
    omega
  · clear h0 h1 h2 h3 h4 h5 h6 h8 h9 ha hb hc hd he
    omega
  · clear h0 h1 h2 h3 h4 h5 h6 h7 h9 ha hb hc hd he
    omega
  · clear h0 h1 h2 h3 h4 h5 h6 h7 h8 ha hb hc hd he
    omega
  · clear h0 h1 h2 h3 h4 h5 h6 h7 h8 h9 hb hc hd he
    omega
  · clear h0 h1 h2 h3 h4 h5 h6 h7 h8 h9 ha hc hd he
    omega
  · clear h0 h1 h2 h3 h4 h5 h6 h7 h8 h9 ha hb hd he
    omega
  · clear h0 h1 h2 h3 h4 h5 h6 h7 h8 h9 ha hb hc he
    omega
  · clear h0 h1 h2 h3 h4 h5 h6 h7 h8 h9 ha hb hc hd
    omega
set_option maxHeartbeats 4000000 in
theorem ap_same (A T : Nat) (i k : Int) (h : 1 ≤ A) (x y : Nat) (hx : x < 15) (hy : y < x) (hp : 0 ≤ (apL A T i k).getD x 0) : (apL A T i k).getD x 0 = (apL A T i k).getD y 0 ↔ (i = k ∧ x = y + 8) := by
  obtain ⟨v0, v1, v2, v3, v4, v5, v6, v7, v8, v9, va, vb, vc, vd, ve, e, h0, h1, h2, h3, h4, h5, h6, h7, h8, h9, ha, hb, hc, hd, he⟩ := ap_facts A T i k h
  rw [e] at hp ⊢
  obtain rfl | rfl | rfl | rfl | rfl | rfl | rfl | rfl | rfl | rfl | rfl | rfl | rfl | rfl | rfl : x = 0 ∨ x = 1 ∨ x = 2 ∨ x = 3 ∨ x = 4 ∨ x = 5 ∨ x = 6 ∨ x = 7 ∨ x = 8 ∨ x = 9 ∨ x = 10 ∨ x = 11 ∨ x = 12 ∨ x = 13 ∨ x = 14 := by clear h0 h1 h2 h3 h4 h5 h6 h7 h8 h9 ha hb hc hd he; omega
  · -- 0
    omega
  · -- 1
    obtain rfl : y = 0 := by omega
    clear h2 h3 h4 h5 h6 h7 h8 h9 ha hb hc hd he
    simp only [List.getD_cons_zero, List.getD_cons_succ] at hp ⊢
    omega
  · -- 2
    obtain rfl | rfl : y = 0 ∨ y = 1 := by clear h0 h1 h2 h3 h4 h5 h6 h7 h8 h9 ha hb hc hd he; omega
    · clear h1 h3 h4 h5 h6 h7 h8 h9 ha hb hc hd he
      simp only [List.getD_cons_zero, List.getD_cons_succ] at hp ⊢
      omega
    · clear h0 h3 h4 h5 h6 h7 h8 h9 ha hb hc hd he
      simp only [List.getD_cons_zero, List.getD_cons_succ] at hp ⊢
      omega
  · -- 3
    obtain rfl | rfl | rfl : y = 0 ∨ y = 1 ∨ y = 2 := by clear h0 h1 h2 h3 h4 h5 h6 h7 h8 h9 ha hb hc hd he; omega
    · clear h1 h2 h4 h5 h6 h7 h8 h9 ha hb hc hd he
      simp only [List.getD_cons_zero, List.getD_cons_succ] at hp ⊢
      omega
    · clear h0 h2 h4 h5 h6 h7 h8 h9 ha hb hc hd he
      simp only [List.getD_cons_zero, List.getD_cons_succ] at hp ⊢
      omega
    · clear h0 h1 h4 h5 h6 h7 h8 h9 ha hb hc hd he
      simp only [List.getD_cons_zero, List.getD_cons_succ] at hp ⊢
      omega
  · -- 4
    obtain rfl | rfl | rfl | rfl : y = 0 ∨ y = 1 ∨ y = 2 ∨ y = 3 := by clear h0 h1 h2 h3 h4 h5 h6 h7 h8 h9 ha hb hc hd he; omega
    · clear h1 h2 h3 h5 h6 h7 h8 h9 ha hb hc hd he
      simp only [List.getD_cons_zero, List.getD_cons_succ] at hp ⊢
      omega
    · clear h0 h2 h3 h5 h6 h7 h8 h9 ha hb hc hd he
      simp only [List.getD_cons_zero, List.getD_cons_succ] at hp ⊢
      omega
    · clear h0 h1 h3 h5 h6 h7 h8 h9 ha hb hc hd he
      simp only [List.getD_cons_zero, List.getD_cons_succ] at hp ⊢
      omega
    · clear h0 h1 h2 h5 h6 h7 h8 h9 ha hb hc hd he
      simp only [List.getD_cons_zero, List.getD_cons_succ] at hp ⊢
      omega
  · -- 5
    obtain rfl | rfl | rfl | rfl | rfl : y = 0 ∨ y = 1 ∨ y = 2 ∨ y = 3 ∨ y = 4 := by clear h0 h1 h2 h3 h4 h5 h6 h7 h8 h9 ha hb hc hd he; omega
    · clear h1 h2 h3 h4 h6 h7 h8 h9 ha hb hc hd he
      simp only [List.getD_cons_zero, List.getD_cons_succ] at hp ⊢
      omega
    · clear h0 h2 h3 h4 h6 h7 h8 h9 ha hb hc hd he
      simp only [List.getD_cons_zero, List.getD_cons_succ] at hp ⊢
      omega
    · clear h0 h1 h3 h4 h6 h7 h8 h9 ha hb hc hd he
      simp only [List.getD_cons_zero, List.getD_cons_succ] at hp ⊢
      omega
    · clear h0 h1 h2 h4 h6 h7 h8 h9 ha hb hc hd he
      simp only [List.getD_cons_zero, List.getD_cons_succ] at hp ⊢
      omega
    · clear h0 h1 h2 h3 h6 h7 h8 h9 ha hb hc hd he
      simp only [List.getD_cons_zero, List.getD_cons_succ] at hp ⊢
      omega
  · -- 6
    obtain rfl | rfl | rfl | rfl | rfl | rfl : y = 0 ∨ y = 1 ∨ y = 2 ∨ y = 3 ∨ y = 4 ∨ y = 5 := by clear h0 h1 h2 h3 h4 h5 h6 h7 h8 h9 ha hb hc hd he; omega
    · clear h1 h2 h3 h4 h5 h7 h8 h9 ha hb hc hd he
      simp only [List.getD_cons_zero, List.getD_cons_succ] at hp ⊢
      omega
    · clear h0 h2 h3 h4 h5 h7 h8 h9 ha hb hc hd he
      simp only [List.getD_cons_zero, List.getD_cons_succ] at hp ⊢
      omega
    · clear h0 h1 h3 h4 h5 h7 h8 h9 ha hb hc hd he
      simp only [List.getD_cons_zero, List.getD_cons_succ] at hp ⊢
      omega
    · clear h0 h1 h2 h4 h5 h7 h8 h9 ha hb hc hd he
      simp only [List.getD_cons_zero, List.getD_cons_succ] at hp ⊢
      omega
    · clear h0 h1 h2 h3 h5 h7 h8 h9 ha hb hc hd he
      simp only [List.getD_cons_zero, List.getD_cons_succ] at hp ⊢
      omega
    · clear h0 h1 h2 h3 h4 h7 h8 h9 ha hb hc hd he
      simp only [List.getD_cons_zero, List.getD_cons_succ] at hp ⊢
      omega
  · -- 7
    obtain rfl | rfl | rfl | rfl | rfl | rfl | rfl : y = 0 ∨ y = 1 ∨ y = 2 ∨ y = 3 ∨ y = 4 ∨ y = 5 ∨ y = 6 := by clear h0 h1 h2 h3 h4 h5 h6 h7 h8 h9 ha hb hc hd he; omega
    · clear h1 h2 h3 h4 h5 h6 h8 h9 ha hb hc hd he
      simp only [List.getD_cons_zero, List.getD_cons_succ] at hp ⊢
      omega
    · clear h0 h2 h3 h4 h5 h6 h8 h9 ha hb hc hd he
      simp only [List.getD_cons_zero, List.getD_cons_succ] at hp ⊢
      omega
    · clear h0 h1 h3 h4 h5 h6 h8 h9 ha hb hc hd he
      simp only [List.getD_cons_zero, List.getD_cons_succ] at hp ⊢
      omega
    · clear h0 h1 h2 h4 h5 h6 h8 h9 ha hb hc hd he
      simp only [List.getD_cons_zero, List.getD_cons_succ] at hp ⊢
      omega
    · clear h0 h1 h2 h3 h5 h6 h8 h9 ha hb hc hd he
      simp only [List.getD_cons_zero, List.getD_cons_succ] at hp ⊢
      omega
    · clear h0 h1 h2 h3 h4 h6 h8 h9 ha hb hc hd he
      simp only [List.getD_cons_zero, List.getD_cons_succ] at hp ⊢
      omega
    · clear h0 h1 h2 h3 h4 h5 h8 h9 ha hb hc hd he
      simp only [List.getD_cons_zero, List.getD_cons_succ] at hp ⊢
      omega
  · -- 8
    obtain rfl | rfl | rfl | rfl | rfl | rfl | rfl | rfl : y = 0 ∨ y = 1 ∨ y = 2 ∨ y = 3 ∨ y = 4 ∨ y = 5 ∨ y = 6 ∨ y = 7 := by clear h0 h1 h2 h3 h4 h5 h6 h7 h8 h9 ha hb hc hd he; omega
    · clear h1 h2 h3 h4 h5 h6 h7 h9 ha hb hc hd he
      simp only [List.getD_cons_zero, List.getD_cons_succ] at hp ⊢
      refine ⟨fun e => ⟨by omega, by first | trivial | rfl⟩, fun e => ?_⟩
      obtain ⟨e, _⟩ := e
      omega
    · clear h0 h2 h3 h4 h5 h6 h7 h9 ha hb hc hd he
      simp only [List.getD_cons_zero, List.getD_cons_succ] at hp ⊢
      omega
    · clear h0 h1 h3 h4 h5 h6 h7 h9 ha hb hc hd he
      simp only [List.getD_cons_zero, List.getD_cons_succ] at hp ⊢
      omega
    · clear h0 h1 h2 h4 h5 h6 h7 h9 ha hb hc hd he
      simp only [List.getD_cons_zero, List.getD_cons_succ] at hp ⊢
      omega
    · clear h0 h1 h2 h3 h5 h6 h7 h9 ha hb hc hd he
      simp only [List.getD_cons_zero, List.getD_cons_succ] at hp ⊢
      omega
    · clear h0 h1 h2 h3 h4 h6 h7 h9 ha hb hc hd he
      simp only [List.getD_cons_zero, List.getD_cons_succ] at hp ⊢
      omega
    · clear h0 h1 h2 h3 h4 h5 h7 h9 ha hb hc hd he
      simp only [List.getD_cons_zero, List.getD_cons_succ] at hp ⊢
      omega
    · clear h0 h1 h2 h3 h4 h5 h6 h9 ha hb hc hd he
      simp only [List.getD_cons_zero, List.getD_cons_succ] at hp ⊢
      omega
  · -- 9
    obtain rfl | rfl | rfl | rfl | rfl | rfl | rfl | rfl | rfl : y = 0 ∨ y = 1 ∨ y = 2 ∨ y = 3 ∨ y = 4 ∨ y = 5 ∨ y = 6 ∨ y = 7 ∨ y = 8 := by clear h0 h1 h2 h3 h4 h5 h6 h7 h8 h9 ha hb hc hd he; omega
    · clear h1 h2 h3 h4 h5 h6 h7 h8 ha hb hc hd he
      simp only [List.getD_cons_zero, List.getD_cons_succ] at hp ⊢
      omega
    · clear h0 h2 h3 h4 h5 h6 h7 h8 ha hb hc hd he
      simp only [List.getD_cons_zero, List.getD_cons_succ] at hp ⊢
      refine ⟨fun e => ⟨by omega, by first | trivial | rfl⟩, fun e => ?_⟩
      obtain ⟨e, _⟩ := e
      omega
    · clear h0 h1 h3 h4 h5 h6 h7 h8 ha hb hc hd he
      simp only [List.getD_cons_zero, List.getD_cons_succ] at hp ⊢
      omega
    · clear h0 h1 h2 h4 h5 h6 h7 h8 ha hb hc hd he
      simp only [List.getD_cons_zero, List.getD_cons_succ] at hp ⊢
      omega
    · clear h0 h1 h2 h3 h5 h6 h7 h8 ha hb hc hd he
      simp only [List.getD_cons_zero, List.getD_cons_succ] at hp ⊢
      omega
    · clear h0 h1 h2 h3 h4 h6 h7 h8 ha hb hc hd he
      simp only [List.getD_cons_zero, List.getD_cons_succ] at hp ⊢
      omega
    · clear h0 h1 h2 h3 h4 h5 h7 h8 ha hb hc hd he
      simp only [List.getD_cons_zero, List.getD_cons_succ] at hp ⊢
      omega
    · clear h0 h1 h2 h3 h4 h5 h6 h8 ha hb hc hd he
      simp only [List.getD_cons_zero, List.getD_cons_succ] at hp ⊢
      omega
    · clear h0 h1 h2 h3 h4 h5 h6 h7 ha hb hc hd he
      simp only [List.getD_cons_zero, List.getD_cons_succ] at hp ⊢
      omega
  · -- 10
    obtain rfl | rfl | rfl | rfl | rfl | rfl | rfl | rfl | rfl | rfl : y = 0 ∨ y = 1 ∨ y = 2 ∨ y = 3 ∨ y = 4 ∨ y = 5 ∨ y = 6 ∨ y = 7 ∨ y = 8 ∨ y = 9 := by clear h0 h1 h2 h3 h4 h5 h6 h7 h8 h9 ha hb hc hd he; omega
    · clear h1 h2 h3 h4 h5 h6 h7 h8 h9 hb hc hd he
      simp only [List.getD_cons_zero, List.getD_cons_succ] at hp ⊢
      omega
    · clear h0 h2 h3 h4 h5 h6 h7 h8 h9 hb hc hd he
      simp only [List.getD_cons_zero, List.getD_cons_succ] at hp ⊢
      omega
    · clear h0 h1 h3 h4 h5 h6 h7 h8 h9 hb hc hd he
      simp only [List.getD_cons_zero, List.getD_cons_succ] at hp ⊢
      refine ⟨fun e => ⟨by omega, by first | trivial | rfl⟩, fun e => ?_⟩
      obtain ⟨e, _⟩ := e
      omega
    · clear h0 h1 h2 h4 h5 h6 h7 h8 h9 hb hc hd he
      simp only [List.getD_cons_zero, List.getD_cons_succ] at hp ⊢
      omega
    · clear h0 h1 h2 h3 h5 h6 h7 h8 h9 hb hc hd he
      simp only [List.getD_cons_zero, List.getD_cons_succ] at hp ⊢
      omega
    · clear h0 h1 h2 h3 h4 h6 h7 h8 h9 hb hc hd he
      simp only [List.getD_cons_zero, List.getD_cons_succ] at hp ⊢
      omega
    · clear h0 h1 h2 h3 h4 h5 h7 h8 h9 hb hc hd he
      simp only [List.getD_cons_zero, List.getD_cons_succ] at hp ⊢
      omega
    · clear h0 h1 h2 h3 h4 h5 h6 h8 h9 hb hc hd he
      simp only [List.getD_cons_zero, List.getD_cons_succ] at hp ⊢
      omega
    · clear h0 h1 h2 h3 h4 h5 h6 h7 h9 hb hc hd he
      simp only [List.getD_cons_zero, List.getD_cons_succ] at hp ⊢
      omega
    · clear h0 h1 h2 h3 h4 h5 h6 h7 h8 hb hc hd he
      simp only [List.getD_cons_zero, List.getD_cons_succ] at hp ⊢
      omega
  · -- 11
    obtain rfl | rfl | rfl | rfl | rfl | rfl | rfl | rfl | rfl | rfl | rfl : y = 0 ∨ y = 1 ∨ y = 2 ∨ y = 3 ∨ y = 4 ∨ y = 5 ∨ y = 6 ∨ y = 7 ∨ y = 8 ∨ y = 9 ∨ y = 10 := by clear h0 h1 h2 h3 h4 h5 h6 h7 h8 h9 ha hb hc hd he; omega
    · clear h1 h2 h3 h4 h5 h6 h7 h8 h9 ha hc hd he
      simp only [List.getD_cons_zero, List.getD_cons_succ] at hp ⊢
      omega
    · clear h0 h2 h3 h4 h5 h6 h7 h8 h9 ha hc hd he
      simp only [List.getD_cons_zero, List.getD_cons_succ] at hp ⊢
      omega
    · clear h0 h1 h3 h4 h5 h6 h7 h8 h9 ha hc hd he
      simp only [List.getD_cons_zero, List.getD_cons_succ] at hp ⊢
      omega
    · clear h0 h1 h2 h4 h5 h6 h7 h8 h9 ha hc hd he
      simp only [List.getD_cons_zero, List.getD_cons_succ] at hp ⊢
      refine ⟨fun e => ⟨by omega, by first | trivial | rfl⟩, fun e => ?_⟩
      obtain ⟨e, _⟩ := e
      omega
    · clear h0 h1 h2 h3 h5 h6 h7 h8 h9 ha hc hd he
      simp only [List.getD_cons_zero, List.getD_cons_succ] at hp ⊢
      omega
    · clear h0 h1 h2 h3 h4 h6 h7 h8 h9 ha hc hd he
      simp only [List.getD_cons_zero, List.getD_cons_succ] at hp ⊢
      omega
    · clear h0 h1 h2 h3 h4 h5 h7 h8 h9 ha hc hd he
      simp only [List.getD_cons_zero, List.getD_cons_succ] at hp ⊢
      omega
    · clear h0 h1 h2 h3 h4 h5 h6 h8 h9 ha hc hd he
      simp only [List.getD_cons_zero, List.getD_cons_succ] at hp ⊢
      omega
    · clear h0 h1 h2 h3 h4 h5 h6 h7 h9 ha hc hd he
      simp only [List.getD_cons_zero, List.getD_cons_succ] at hp ⊢
      omega
    · clear h0 h1 h2 h3 h4 h5 h6 h7 h8 ha hc hd he
      simp only [List.getD_cons_zero, List.getD_cons_succ] at hp ⊢
      omega
    · clear h0 h1 h2 h3 h4 h5 h6 h7 h8 h9 hc hd he
      simp only [List.getD_cons_zero, List.getD_cons_succ] at hp ⊢
      omega
  · -- 12
    obtain rfl | rfl | rfl | rfl | rfl | rfl | rfl | rfl | rfl | rfl | rfl | rfl : y = 0 ∨ y = 1 ∨ y = 2 ∨ y = 3 ∨ y = 4 ∨ y = 5 ∨ y = 6 ∨ y = 7 ∨ y = 8 ∨ y = 9 ∨ y = 10 ∨ y = 11 := by clear h0 h1 h2 h3 h4 h5 h6 h7 h8 h9 ha hb hc hd he; omega
    · clear h1 h2 h3 h4 h5 h6 h7 h8 h9 ha hb hd he
      simp only [List.getD_cons_zero, List.getD_cons_succ] at hp ⊢
      omega
    · clear h0 h2 h3 h4 h5 h6 h7 h8 h9 ha hb hd he
      simp only [List.getD_cons_zero, List.getD_cons_succ] at hp ⊢
      omega
    · clear h0 h1 h3 h4 h5 h6 h7 h8 h9 ha hb hd he
      simp only [List.getD_cons_zero, List.getD_cons_succ] at hp ⊢
      omega
    · clear h0 h1 h2 h4 h5 h6 h7 h8 h9 ha hb hd he
      simp only [List.getD_cons_zero, List.getD_cons_succ] at hp ⊢
      omega
    · clear h0 h1 h2 h3 h5 h6 h7 h8 h9 ha hb hd he
      simp only [List.getD_cons_zero, List.getD_cons_succ] at hp ⊢
      refine ⟨fun e => ⟨by omega, by first | trivial | rfl⟩, fun e => ?_⟩
      obtain ⟨e, _⟩ := e
      omega
    · clear h0 h1 h2 h3 h4 h6 h7 h8 h9 ha hb hd he
      simp only [List.getD_cons_zero, List.getD_cons_succ] at hp ⊢
      omega
    · clear h0 h1 h2 h3 h4 h5 h7 h8 h9 ha hb hd he
      simp only [List.getD_cons_zero, List.getD_cons_succ] at hp ⊢
      omega
    · clear h0 h1 h2 h3 h4 h5 h6 h8 h9 ha hb hd he
      simp only [List.getD_cons_zero, List.getD_cons_succ] at hp ⊢
      omega
    · clear h0 h1 h2 h3 h4 h5 h6 h7 h9 ha hb hd he
      simp only [List.getD_cons_zero, List.getD_cons_succ] at hp ⊢
      omega
    · clear h0 h1 h2 h3 h4 h5 h6 h7 h8 ha hb hd he
      simp only [List.getD_cons_zero, List.getD_cons_succ] at hp ⊢
      omega
    · clear h0 h1 h2 h3 h4 h5 h6 h7 h8 h9 hb hd he
      simp only [List.getD_cons_zero, List.getD_cons_succ] at hp ⊢
      omega
    · clear h0 h1 h2 h3 h4 h5 h6 h7 h8 h9 ha hd he
      simp only [List.getD_cons_zero, List.getD_cons_succ] at hp ⊢
      omega
  · -- 13
    obtain rfl | rfl | rfl | rfl | rfl | rfl | rfl | rfl | rfl | rfl | rfl | rfl | rfl : y = 0 ∨ y = 1 ∨ y = 2 ∨ y = 3 ∨ y = 4 ∨ y = 5 ∨ y = 6 ∨ y = 7 ∨ y = 8 ∨ y = 9 ∨ y = 10 ∨ y = 11 ∨ y = 12 := by clear h0 h1 h2 h3 h4 h5 h6 h7 h8 h9 ha hb hc hd he; omega
    · clear h1 h2 h3 h4 h5 h6 h7 h8 h9 ha hb hc he
      simp only [List.getD_cons_zero, List.getD_cons_succ] at hp ⊢
      omega
    · clear h0 h2 h3 h4 h5 h6 h7 h8 h9 ha hb hc he
      simp only [List.getD_cons_zero, List.getD_cons_succ] at hp ⊢
      omega
    · clear h0 h1 h3 h4 h5 h6 h7 h8 h9 ha hb hc he
      simp only [List.getD_cons_zero, List.getD_cons_succ] at hp ⊢
      omega
    · clear h0 h1 h2 h4 h5 h6 h7 h8 h9 ha hb hc he
      simp only [List.getD_cons_zero, List.getD_cons_succ] at hp ⊢
      omega
    · clear h0 h1 h2 h3 h5 h6 h7 h8 h9 ha hb hc he
      simp only [List.getD_cons_zero, List.getD_cons_succ] at hp ⊢
      omega
    · clear h0 h1 h2 h3 h4 h6 h7 h8 h9 ha hb hc he
      simp only [List.getD_cons_zero, List.getD_cons_succ] at hp ⊢
      refine ⟨fun e => ⟨by omega, by first | trivial | rfl⟩, fun e => ?_⟩
      obtain ⟨e, _⟩ := e
      omega
    · clear h0 h1 h2 h3 h4 h5 h7 h8 h9 ha hb hc he
      simp only [List.getD_cons_zero, List.getD_cons_succ] at hp ⊢
      omega
    · clear h0 h1 h2 h3 h4 h5 h6 h8 h9 ha hb hc he
      simp only [List.getD_cons_zero, List.getD_cons_succ] at hp ⊢
      omega
    · clear h0 h1 h2 h3 h4 h5 h6 h7 h9 ha hb hc he
      simp only [List.getD_cons_zero, List.getD_cons_succ] at hp ⊢
      omega
    · clear h0 h1 h2 h3 h4 h5 h6 h7 h8 ha hb hc he
      simp only [List.getD_cons_zero, List.getD_cons_succ] at hp ⊢
      omega
    · clear h0 h1 h2 h3 h4 h5 h6 h7 h8 h9 hb hc he
      simp only [List.getD_cons_zero, List.getD_cons_succ] at hp ⊢
      omega
    · clear h0 h1 h2 h3 h4 h5 h6 h7 h8 h9 ha hc he
      simp only [List.getD_cons_zero, List.getD_cons_succ] at hp ⊢
      omega
    · clear h0 h1 h2 h3 h4 h5 h6 h7 h8 h9 ha hb he
      simp only [List.getD_cons_zero, List.getD_cons_succ] at hp ⊢
      omega
  · -- 14
    obtain rfl | rfl | rfl | rfl | rfl | rfl | rfl | rfl | rfl | rfl | rfl | rfl | rfl | rfl : y = 0 ∨ y = 1 ∨ y = 2 ∨ y = 3 ∨ y = 4 ∨ y = 5 ∨ y = 6 ∨ y = 7 ∨ y = 8 ∨ y = 9 ∨ y = 10 ∨ y = 11 ∨ y = 12 ∨ y = 13 := by clear h0 h1 h2 h3 h4 h5 h6 h7 h8 h9 ha hb hc hd he; omega
    · clear h1 h2 h3 h4 h5 h6 h7 h8 h9 ha hb hc hd
      simp only [List.getD_cons_zero, List.getD_cons_succ] at hp ⊢
      omega
    · clear h0 h2 h3 h4 h5 h6 h7 h8 h9 ha hb hc hd
      simp only [List.getD_cons_zero, List.getD_cons_succ] at hp ⊢
      omega
    · clear h0 h1 h3 h4 h5 h6 h7 h8 h9 ha hb hc hd
      simp only [List.getD_cons_zero, List.getD_cons_succ] at hp ⊢
      omega
    · clear h0 h1 h2 h4 h5 h6 h7 h8 h9 ha hb hc hd
      simp only [List.getD_cons_zero, List.getD_cons_succ] at hp ⊢
      omega
    · clear h0 h1 h2 h3 h5 h6 h7 h8 h9 ha hb hc hd
      simp only [List.getD_cons_zero, List.getD_cons_succ] at hp ⊢
      omega
    · clear h0 h1 h2 h3 h4 h6 h7 h8 h9 ha hb hc hd
      simp only [List.getD_cons_zero, List.getD_cons_succ] at hp ⊢
      omega
    · clear h0 h1 h2 h3 h4 h5 h7 h8 h9 ha hb hc hd
      simp only [List.getD_cons_zero, List.getD_cons_succ] at hp ⊢
      refine ⟨fun e => ⟨by omega, by first | trivial | rfl⟩, fun e => ?_⟩
      obtain ⟨e, _⟩ := e
      omega
    · clear h0 h1 h2 h3 h4 h5 h6 h8 h9 ha hb hc hd
      simp only [List.getD_cons_zero, List.getD_cons_succ] at hp ⊢
      omega
    · clear h0 h1 h2 h3 h4 h5 h6 h7 h9 ha hb hc hd
      simp only [List.getD_cons_zero, List.getD_cons_succ] at hp ⊢
      omega
    · clear h0 h1 h2 h3 h4 h5 h6 h7 h8 ha hb hc hd
      simp only [List.getD_cons_zero, List.getD_cons_succ] at hp ⊢
      omega
    · clear h0 h1 h2 h3 h4 h5 h6 h7 h8 h9 hb hc hd
      simp only [List.getD_cons_zero, List.getD_cons_succ] at hp ⊢
      omega
    · clear h0 h1 h2 h3 h4 h5 h6 h7 h8 h9 ha hc hd
      simp only [List.getD_cons_zero, List.getD_cons_succ] at hp ⊢
      omega
    · clear h0 h1 h2 h3 h4 h5 h6 h7 h8 h9 ha hb hd
      simp only [List.getD_cons_zero, List.getD_cons_succ] at hp ⊢
      omega
    · clear h0 h1 h2 h3 h4 h5 h6 h7 h8 h9 ha hb hc
      simp only [List.getD_cons_zero, List.getD_cons_succ] at hp ⊢
      omega
end Go.Proofs.Ytkdjcikilabehaa
