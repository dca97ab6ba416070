/- Plain facts on numbers' bytes, as the document reads them: by their number of digits, from the last one on. No program, no world. -/
import Derived.Test.YtmkglaghnjnooaaDoorOpEye
namespace Go.Proofs.YtmkglaghnjnooaaDoor

/-- The number that digits are, the least one first. -/
def hv : List UInt8 → Nat
  | [] => 0
  | b :: r => b.toNat % 128 + 128 * hv r
theorem hv_lt : ∀ (l : List UInt8), hv l < 128 ^ l.length
  | [] => by simp [hv]
  | b :: r => by
    have h := hv_lt r
    have hb : b.toNat % 128 < 128 := Nat.mod_lt _ (by omega)
    simp only [hv, List.length_cons, Nat.pow_succ]
    omega
theorem hv_drop_le : ∀ (l : List UInt8) (i : Nat), hv (l.drop i) ≤ hv l
  | l, 0 => by simp
  | [], i + 1 => by simp
  | b :: r, i + 1 => by
    have h := hv_drop_le r i
    simp only [List.drop_succ_cons, hv]
    omega
theorem hv_step (l : List UInt8) (i : Nat) (h : i < l.length) : hv (l.drop i) = l[i].toNat % 128 + 128 * hv (l.drop (i + 1)) := by
  rw [List.drop_eq_getElem_cons h]
  rfl
theorem hv_snoc : ∀ (l : List UInt8) (b : UInt8), hv (l ++ [b]) = hv l + 128 ^ l.length * (b.toNat % 128)
  | [], b => by simp [hv]
  | a :: r, b => by
    simp only [List.cons_append, hv, hv_snoc r b, List.length_cons, Nat.pow_succ]
    rw [Nat.mul_add, Nat.mul_comm (128 ^ r.length) 128, Nat.mul_assoc]
    omega

/-- What is gathered, by the number of digits that go on. -/
theorem gat_run : ∀ (k i n : Nat) (bs : List UInt8), i + k ≤ 9 → (∀ j (h : j < bs.length), j < k → 128 ≤ bs[j].toNat) → (hk : k < bs.length) → (i + k = 9 ∨ bs[k].toNat < 128) →
    gat (9 - i) i n bs = if (0 < i + k ∧ bs[k].toNat = 0) ∨ (i + k = 9 ∧ 1 < bs[k].toNat) then (0, 10, bs.drop (k + 1)) else (n + hv (bs.take (k + 1)) * 128 ^ i, 0, bs.drop (k + 1))
  | 0, i, n, [], _, _, hk, _ => by simp at hk
  | 0, i, n, b :: r, hi, _, hk, hb => by
    simp only [Nat.add_zero, List.getElem_cons_zero, List.drop_succ_cons, List.drop_zero, List.take_succ_cons, List.take_zero, hv, Nat.mul_zero, Nat.zero_add] at hb ⊢
    by_cases h9 : i = 9
    · subst h9
      show (if b.toNat = 1 then (n + 9223372036854775808, (0 : Int), r) else (0, 10, r)) = _
      by_cases h1 : b.toNat = 1
      · rw [if_pos h1, if_neg (by omega), h1, pow9]
      · rw [if_neg h1, if_pos (by omega)]
    · have hb' : b.toNat < 128 := by omega
      rw [gat_step i n b r (by omega), if_pos hb']
      by_cases h0 : b.toNat = 0 ∧ 0 < i
      · rw [if_pos h0, if_pos (Or.inl ⟨h0.2, h0.1⟩)]
      · rw [if_neg h0, if_neg (by omega), Nat.mod_eq_of_lt hb']
  | k + 1, i, n, [], _, _, hk, _ => by simp at hk
  | k + 1, i, n, b :: r, hi, hall, hk, hb => by
    have hb0 : 128 ≤ b.toNat := hall 0 (by simp) (by omega)
    have hlt := b.toNat_lt
    have hk' : k < r.length := by simpa using hk
    have ih := gat_run k (i + 1) (n + (b.toNat - 128) * 128 ^ i) r (by omega) (fun j h hj => by have := hall (j + 1) (by simpa using h) (by omega); simpa using this) hk' (by simp only [List.getElem_cons_succ] at hb; omega)
    rw [gat_big i n b r (by omega) hb0, ih]
    simp only [List.getElem_cons_succ, List.drop_succ_cons, List.take_succ_cons, hv]
    rw [show i + 1 + k = i + (k + 1) by omega]
    have e : n + (b.toNat - 128) * 128 ^ i + hv (r.take (k + 1)) * 128 ^ (i + 1) = n + (b.toNat % 128 + 128 * hv (r.take (k + 1))) * 128 ^ i := by
      rw [show b.toNat % 128 = b.toNat - 128 by omega, Nat.add_mul, Nat.pow_succ, Nat.add_assoc, Nat.mul_comm (128 ^ i) 128, ← Nat.mul_assoc, Nat.mul_comm (hv (List.take (k + 1) r)) 128]
    rw [e]
theorem gat_short : ∀ (bs : List UInt8) (i n : Nat), i + bs.length ≤ 9 → (∀ j (h : j < bs.length), 128 ≤ bs[j].toNat) → gat (9 - i) i n bs = (0, 11, [])
  | [], i, n, _, _ => gat_end _ _ _
  | b :: r, i, n, hi, hall => by
    have hb0 : 128 ≤ b.toNat := hall 0 (by simp)
    simp only [List.length_cons] at hi
    rw [gat_big i n b r (by omega) hb0]
    exact gat_short r (i + 1) _ (by omega) (fun j h => by have := hall (j + 1) (by simpa using h); simpa using this)

/-- What is read, by the number of digits that go on. -/
theorem rnum_short (m : Nat) (bs : List UInt8) (hl : bs.length ≤ 9) (hall : ∀ j (h : j < bs.length), 128 ≤ bs[j].toNat) : rnum m bs = (0, 11, []) := by
  unfold rnum
  have h := gat_short bs 0 0 (by omega) hall
  rw [Nat.sub_zero] at h
  rw [h]
  simp
theorem rnum_run (m k : Nat) (bs : List UInt8) (hk9 : k ≤ 9) (hall : ∀ j (h : j < bs.length), j < k → 128 ≤ bs[j].toNat) (hk : k < bs.length) (hb : k = 9 ∨ bs[k].toNat < 128) :
    rnum m bs = if (0 < k ∧ bs[k].toNat = 0) ∨ (k = 9 ∧ 1 < bs[k].toNat) ∨ m < hv (bs.take (k + 1)) then (0, 10, []) else (hv (bs.take (k + 1)), 0, bs.drop (k + 1)) := by
  unfold rnum
  have h := gat_run k 0 0 bs (by omega) hall hk (by omega)
  simp only [Nat.sub_zero, Nat.zero_add, Nat.pow_zero, Nat.mul_one] at h
  rw [h]
  by_cases c : (0 < k ∧ bs[k].toNat = 0) ∨ (k = 9 ∧ 1 < bs[k].toNat)
  · have r : (if (0 < k ∧ bs[k].toNat = 0) ∨ (k = 9 ∧ 1 < bs[k].toNat) ∨ m < hv (bs.take (k + 1)) then ((0 : Nat), (10 : Int), ([] : List UInt8)) else (hv (bs.take (k + 1)), 0, bs.drop (k + 1))) = (0, 10, []) := if_pos (by rcases c with c | c; exact Or.inl c; exact Or.inr (Or.inl c))
    rw [r, if_pos c]
    simp
  · rw [if_neg c]
    by_cases d : m < hv (bs.take (k + 1))
    · have r : (if (0 < k ∧ bs[k].toNat = 0) ∨ (k = 9 ∧ 1 < bs[k].toNat) ∨ m < hv (bs.take (k + 1)) then ((0 : Nat), (10 : Int), ([] : List UInt8)) else (hv (bs.take (k + 1)), 0, bs.drop (k + 1))) = (0, 10, []) := if_pos (Or.inr (Or.inr d))
      rw [r]
      simp [d]
    · have r : (if (0 < k ∧ bs[k].toNat = 0) ∨ (k = 9 ∧ 1 < bs[k].toNat) ∨ m < hv (bs.take (k + 1)) then ((0 : Nat), (10 : Int), ([] : List UInt8)) else (hv (bs.take (k + 1)), 0, bs.drop (k + 1))) = (hv (bs.take (k + 1)), 0, bs.drop (k + 1)) := if_neg (fun h => by rcases h with h | h | h; exact c (Or.inl h); exact c (Or.inr h); exact d h)
      rw [r]
      simp [d]
/-- The number fits. -/
theorem hv_fits (k : Nat) (bs : List UInt8) (hk9 : k ≤ 9) (hk : k < bs.length) (hb : k = 9 → bs[k].toNat ≤ 1) : hv (bs.take (k + 1)) < 18446744073709551616 := by
  have hl : (bs.take (k + 1)).length = k + 1 := by rw [List.length_take]; omega
  by_cases h9 : k = 9
  · subst h9
    have e : bs.take (9 + 1) = bs.take 9 ++ [bs[9]] := by
      rw [List.take_add_one, List.getElem?_eq_getElem hk]; rfl
    have h1 := hv_lt (bs.take 9)
    have hl9 : (bs.take 9).length = 9 := by rw [List.length_take]; omega
    rw [hl9, pow9] at h1
    have h2 := hb rfl
    rw [e, hv_snoc, hl9, pow9]
    have h3 : bs[9].toNat % 128 ≤ 1 := by omega
    omega
  · have h1 := hv_lt (bs.take (k + 1))
    rw [hl] at h1
    have h2 : 128 ^ (k + 1) ≤ 128 ^ 9 := Nat.pow_le_pow_right (by omega) (by omega)
    rw [pow9] at h2
    omega

/-- A text, by the number that is read ahead of it. -/
theorem eT_eN (m : Nat) (s : ES) : eT m s = if (eN m s).2.2 = 0 then (if (eN m s).2.1.length < (eN m s).1 then (⟨#[]⟩, ([], 11)) else (⟨((eN m s).2.1.take (eN m s).1).toArray⟩, ((eN m s).2.1.drop (eN m s).1, 0))) else (⟨#[]⟩, ([], (eN m s).2.2)) := by
  obtain ⟨bs, f⟩ := s
  unfold eT eN
  by_cases hf : f = 0
  · subst hf
    simp only [if_true]
    have hr : ∀ M, rnum M bs = if (gat 9 0 0 bs).2.1 = 0 ∧ M < (gat 9 0 0 bs).1 then (0, 10, []) else if (gat 9 0 0 bs).2.1 = 0 then ((gat 9 0 0 bs).1, 0, (gat 9 0 0 bs).2.2) else (0, (gat 9 0 0 bs).2.1, []) := fun M => rfl
    have hlt := rnum_lt 18446744073709551615 bs
    have hgl : (gat 9 0 0 bs).2.1 = 0 → (gat 9 0 0 bs).1 ≤ 18446744073709551615 := fun h => by
      obtain ⟨y, e1, _, _, e4⟩ := gat_back 0 (by omega) 0 (gat 9 0 0 bs).1 bs (gat 9 0 0 bs).2.2 (by
        show gat 9 0 0 bs = _
        rw [← h])
      have : 2 * 128 ^ (9 - 0) = 18446744073709551616 := by decide
      simp only [Nat.zero_add, Nat.pow_zero, Nat.mul_one] at e1
      omega
    generalize gat 9 0 0 bs = g at *
    obtain ⟨n, f, r⟩ := g
    simp only at hr hgl
    by_cases h0 : f = 0
    · have h1 := hgl h0
      have e1 : rnum 18446744073709551615 bs = (n, 0, r) := by rw [hr, if_neg (show ¬ (f = 0 ∧ 18446744073709551615 < n) by omega), if_pos h0]
      rw [e1]
      by_cases h2 : m < n
      · have e2 : rnum m bs = (0, 10, []) := by rw [hr, if_pos ⟨h0, h2⟩]
        rw [e2]
        simp [h2]
      · have e2 : rnum m bs = (n, 0, r) := by rw [hr, if_neg (show ¬ (f = 0 ∧ m < n) by omega), if_pos h0]
        rw [e2]
        simp [h2]
    · have e1 : ∀ M, rnum M bs = (0, f, []) := fun M => by rw [hr, if_neg (fun h => h0 h.1), if_neg h0]
      rw [e1, e1]
      simp [h0]
  · simp only [if_neg hf]
end Go.Proofs.YtmkglaghnjnooaaDoor
