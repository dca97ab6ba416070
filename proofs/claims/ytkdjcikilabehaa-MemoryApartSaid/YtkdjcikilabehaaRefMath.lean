/- Words of references, uses and gates, plain: which word each has, and what a word says. No program, no world. -/
import Derived.Test.YtkdjcikilabehaaRows
namespace Go.Proofs.Ytkdjcikilabehaa

def packW (p : Int) (g : Nat) : Nat := if 0 ≤ p ∧ p < 8192 ∧ 1 ≤ g ∧ g ≤ 4294967295 then g * 16384 + p.toNat + 1 else 0
def openOk (w : Nat) : Bool := decide (1 ≤ w % 16384 ∧ w % 16384 ≤ 8192 ∧ 1 ≤ w / 16384 ∧ w / 16384 ≤ 4294967295)
def openP (w : Nat) : Nat := if openOk w = true then w % 16384 - 1 else 0
def openG (w : Nat) : Nat := if openOk w = true then w / 16384 else 0
def useW (s : Int) (g : Nat) : Nat := if 0 ≤ s ∧ s ≤ 2 ∧ g ≤ 4294967295 then g * 4 + s.toNat else 18446744073709551615
def stateOk (w : Nat) : Bool := decide (w % 4 ≤ 2 ∧ w / 4 ≤ 4294967295)
def stateS (w : Nat) : Nat := if stateOk w = true then w % 4 else 0
def stateG (w : Nat) : Nat := if stateOk w = true then w / 4 else 0
def mayG (s t : Int) (w : Nat) : Bool := decide ((0 ≤ t ∧ t ≤ 15) ∧ ((s = 0 ∧ t = 0 ∧ w = 0) ∨ ((s = 1 ∨ s = 3) ∧ w = 0) ∨ (s = 2 ∧ openOk w = true)))
def shutW (s t : Int) (w : Nat) : Nat := if mayG s t w = true then s.toNat * 4611686018427387904 + t.toNat * 72057594037927936 + w else 18446744073709551615
def gatedOk (w : Nat) : Bool := mayG (w / 4611686018427387904 : Nat) (w % 4611686018427387904 / 72057594037927936 : Nat) (w % 72057594037927936)
def gatedS (w : Nat) : Nat := if gatedOk w = true then w / 4611686018427387904 else 0
def gatedT (w : Nat) : Nat := if gatedOk w = true then w % 4611686018427387904 / 72057594037927936 else 0
def gatedW (w : Nat) : Nat := if gatedOk w = true then w % 72057594037927936 else 0

theorem openOk_iff (w : Nat) : openOk w = true ↔ 1 ≤ w % 16384 ∧ w % 16384 ≤ 8192 ∧ 1 ≤ w / 16384 ∧ w / 16384 ≤ 4294967295 := by
  unfold openOk; rw [decide_eq_true_iff]
theorem stateOk_iff (w : Nat) : stateOk w = true ↔ w % 4 ≤ 2 ∧ w / 4 ≤ 4294967295 := by
  unfold stateOk; rw [decide_eq_true_iff]
theorem mayG_iff (s t : Int) (w : Nat) : mayG s t w = true ↔ (0 ≤ t ∧ t ≤ 15) ∧ ((s = 0 ∧ t = 0 ∧ w = 0) ∨ ((s = 1 ∨ s = 3) ∧ w = 0) ∨ (s = 2 ∧ openOk w = true)) := by
  unfold mayG; rw [decide_eq_true_iff]

theorem open_lt {w : Nat} (h : openOk w = true) : w < 72057594037927936 := by
  rw [openOk_iff] at h; omega

theorem packW_lt (p : Int) (g : Nat) : packW p g < 18446744073709551616 := by
  unfold packW; split <;> omega
theorem useW_lt (s : Int) (g : Nat) : useW s g < 18446744073709551616 := by
  unfold useW; split <;> omega
theorem shutW_lt (s t : Int) (w : Nat) : shutW s t w < 18446744073709551616 := by
  unfold shutW
  by_cases h : mayG s t w = true
  · rw [if_pos h]
    rw [mayG_iff] at h
    obtain ⟨ht, h | h | h⟩ := h
    · omega
    · omega
    · have := open_lt h.2; omega
  · rw [if_neg h]; omega

/-- What was packed is told again. -/
theorem open_pack {p : Int} {g : Nat} (h : packW p g ≠ 0) : openOk (packW p g) = true ∧ (openP (packW p g) : Int) = p ∧ openG (packW p g) = g := by
  unfold packW at *
  by_cases hc : 0 ≤ p ∧ p < 8192 ∧ 1 ≤ g ∧ g ≤ 4294967295
  · rw [if_pos hc] at *
    have h1 : openOk (g * 16384 + p.toNat + 1) = true := by rw [openOk_iff]; omega
    refine ⟨h1, ?_, ?_⟩
    · unfold openP; rw [if_pos h1]; omega
    · unfold openG; rw [if_pos h1]; omega
  · rw [if_neg hc] at h; exact absurd rfl h
theorem pack_open {w : Nat} (h : openOk w = true) : packW (openP w : Nat) (openG w) = w := by
  unfold packW openP openG
  rw [if_pos h, if_pos h]
  rw [openOk_iff] at h
  rw [if_pos (by omega)]
  omega

theorem state_use {s : Int} {g : Nat} (h : useW s g ≠ 18446744073709551615) : stateOk (useW s g) = true ∧ (stateS (useW s g) : Int) = s ∧ stateG (useW s g) = g := by
  unfold useW at *
  by_cases hc : 0 ≤ s ∧ s ≤ 2 ∧ g ≤ 4294967295
  · rw [if_pos hc] at *
    have h1 : stateOk (g * 4 + s.toNat) = true := by rw [stateOk_iff]; omega
    refine ⟨h1, ?_, ?_⟩
    · unfold stateS; rw [if_pos h1]; omega
    · unfold stateG; rw [if_pos h1]; omega
  · rw [if_neg hc] at h; exact absurd rfl h
theorem use_state {w : Nat} (h : stateOk w = true) : useW (stateS w : Nat) (stateG w) = w := by
  unfold useW stateS stateG
  rw [if_pos h, if_pos h]
  rw [stateOk_iff] at h
  rw [if_pos (by omega)]
  omega

theorem may_bounds {s t : Int} {w : Nat} (h : mayG s t w = true) : (0 ≤ s ∧ s ≤ 3) ∧ (0 ≤ t ∧ t ≤ 15) ∧ w < 72057594037927936 := by
  rw [mayG_iff] at h
  obtain ⟨ht, h | h | h⟩ := h
  · omega
  · omega
  · have := open_lt h.2; omega

theorem gated_shut {s t : Int} {w : Nat} (h : shutW s t w ≠ 18446744073709551615) : gatedOk (shutW s t w) = true ∧ (gatedS (shutW s t w) : Int) = s ∧ (gatedT (shutW s t w) : Int) = t ∧ gatedW (shutW s t w) = w := by
  unfold shutW at *
  by_cases hc : mayG s t w = true
  · rw [if_pos hc] at *
    obtain ⟨h1, h2, h3⟩ := may_bounds hc
    have e1 : (((s.toNat * 4611686018427387904 + t.toNat * 72057594037927936 + w) / 4611686018427387904 : Nat) : Int) = s := by omega
    have e2 : (((s.toNat * 4611686018427387904 + t.toNat * 72057594037927936 + w) % 4611686018427387904 / 72057594037927936 : Nat) : Int) = t := by omega
    have e3 : (s.toNat * 4611686018427387904 + t.toNat * 72057594037927936 + w) % 72057594037927936 = w := by omega
    have h4 : gatedOk (s.toNat * 4611686018427387904 + t.toNat * 72057594037927936 + w) = true := by unfold gatedOk; rw [e1, e2, e3]; exact hc
    refine ⟨h4, ?_, ?_, ?_⟩
    · unfold gatedS; rw [if_pos h4]; exact e1
    · unfold gatedT; rw [if_pos h4]; exact e2
    · unfold gatedW; rw [if_pos h4]; exact e3
  · rw [if_neg hc] at h; exact absurd rfl h
theorem shut_gated {w : Nat} (h : gatedOk w = true) : shutW (gatedS w : Nat) (gatedT w : Nat) (gatedW w) = w := by
  unfold shutW gatedS gatedT gatedW
  rw [if_pos h, if_pos h, if_pos h]
  unfold gatedOk at h
  rw [if_pos h]
  omega
end Go.Proofs.Ytkdjcikilabehaa
