/- Plain facts on the order of lists of bytes, for the laws of key and sorted: how far two are alike, which is less, that the order is one, what parts two. No program, no world. -/
import Derived.Lib.Strings
namespace Go.Proofs.Ytkdjcikilabehaa

/-- How many bytes two lists begin with alike. -/
def cpl : List UInt8 → List UInt8 → Nat
  | x :: xs, y :: ys => if x = y then cpl xs ys + 1 else 0
  | _, _ => 0

/-- By bytes: is the first list less? -/
def lss : List UInt8 → List UInt8 → Bool
  | x :: xs, y :: ys => if x = y then lss xs ys else decide (x.toNat < y.toNat)
  | [], _ :: _ => true
  | _, [] => false

/-- -1, 0, 1. -/
def cmp3 (a b : List UInt8) : Int := if lss a b then -1 else if lss b a then 1 else 0

theorem cpl_le (a b : List UInt8) : cpl a b ≤ a.length ∧ cpl a b ≤ b.length := by
  induction a generalizing b with
  | nil => simp [cpl]
  | cons x xs ih =>
    cases b with
    | nil => simp [cpl]
    | cons y ys =>
      have := ih ys
      simp only [cpl, List.length_cons]
      split <;> omega

theorem cpl_comm (a b : List UInt8) : cpl a b = cpl b a := by
  induction a generalizing b with
  | nil => cases b <;> simp [cpl]
  | cons x xs ih =>
    cases b with
    | nil => simp [cpl]
    | cons y ys =>
      simp only [cpl, ih ys]
      by_cases h : x = y
      · subst h; simp
      · simp [h, Ne.symm h]

theorem cpl_take (a b : List UInt8) : a.take (cpl a b) = b.take (cpl a b) := by
  induction a generalizing b with
  | nil => simp [cpl]
  | cons x xs ih =>
    cases b with
    | nil => simp [cpl]
    | cons y ys =>
      simp only [cpl]
      split
      · rename_i h; subst h; simp [ih ys]
      · simp

theorem cpl_at (a b : List UInt8) (h1 : cpl a b < a.length) (h2 : cpl a b < b.length) : a[cpl a b] ≠ b[cpl a b] := by
  induction a generalizing b with
  | nil => simp at h1
  | cons x xs ih =>
    cases b with
    | nil => simp at h2
    | cons y ys =>
      by_cases h : x = y
      · simp only [cpl, h, if_true, List.length_cons] at h1 h2 ⊢
        simpa using ih ys (by omega) (by omega)
      · simp only [cpl, h, if_false]
        simpa using h

theorem cpl_step (a b : List UInt8) (i : Nat) (hi : i ≤ cpl a b) (h1 : i < a.length) (h2 : i < b.length) (he : a[i] = b[i]) : i + 1 ≤ cpl a b := by
  by_cases h : i = cpl a b
  · subst h
    exact absurd he (cpl_at a b h1 h2)
  · omega

theorem cpl_eq_at (a b : List UInt8) (i : Nat) (hi : i < cpl a b) (h1 : i < a.length) (h2 : i < b.length) : a[i] = b[i] := by
  have h := cpl_take a b
  have h3 : (a.take (cpl a b))[i]? = (b.take (cpl a b))[i]? := by rw [h]
  rw [List.getElem?_take_of_lt hi, List.getElem?_take_of_lt hi, List.getElem?_eq_getElem h1, List.getElem?_eq_getElem h2] at h3
  simpa using h3

theorem cpl_stop (a b : List UInt8) (i : Nat) (hi : i ≤ cpl a b) (h1 : i < a.length) (h2 : i < b.length) (he : a[i] ≠ b[i]) : cpl a b = i := by
  by_cases h : i = cpl a b
  · exact h.symm
  · exact absurd (cpl_eq_at a b i (by omega) h1 h2) he

theorem lss_at (a b : List UInt8) : lss a b = (!decide (cpl a b = b.length) && (decide (cpl a b = a.length) || decide (((a[cpl a b]?.getD 0).toNat) < (b[cpl a b]?.getD 0).toNat))) := by
  induction a generalizing b with
  | nil => cases b <;> simp [lss, cpl]
  | cons x xs ih =>
    cases b with
    | nil => simp [lss, cpl]
    | cons y ys =>
      by_cases h : x = y
      · subst h
        simp only [lss, cpl, if_true, ih ys]
        simp
      · simp [lss, cpl, h]

theorem lss_irrefl (a : List UInt8) : lss a a = false := by
  induction a with
  | nil => rfl
  | cons x xs ih => simp [lss, ih]

theorem lss_asymm (a b : List UInt8) (h : lss a b = true) : lss b a = false := by
  induction a generalizing b with
  | nil => cases b <;> simp [lss] at h ⊢
  | cons x xs ih =>
    cases b with
    | nil => simp [lss] at h
    | cons y ys =>
      by_cases e : x = y
      · subst e
        simp only [lss, if_true] at h ⊢
        exact ih ys h
      · have e2 : ¬ y = x := fun q => e q.symm
        simp only [lss, e, e2, if_false, decide_eq_true_eq, decide_eq_false_iff_not] at h ⊢
        omega

theorem lss_trans (a b c : List UInt8) (h : lss a b = true) (k : lss b c = true) : lss a c = true := by
  induction a generalizing b c with
  | nil =>
    cases b with
    | nil => simp [lss] at h
    | cons y ys => cases c <;> simp [lss] at k ⊢
  | cons x xs ih =>
    cases b with
    | nil => simp [lss] at h
    | cons y ys =>
      cases c with
      | nil => simp [lss] at k
      | cons z zs =>
        simp only [lss] at h k ⊢
        by_cases e1 : x = y
        · subst e1
          simp only [if_true] at h
          by_cases e2 : x = z
          · subst e2
            simp only [if_true] at k ⊢
            exact ih ys zs h k
          · simpa only [e2, if_false] using k
        · simp only [e1, if_false, decide_eq_true_eq] at h
          by_cases e2 : y = z
          · subst e2
            simp only [e1, if_false, decide_eq_true_eq]
            exact h
          · simp only [e2, if_false, decide_eq_true_eq] at k
            have e3 : ¬ x = z := by intro q; subst q; omega
            simp only [e3, if_false, decide_eq_true_eq]
            omega

theorem lss_total (a b : List UInt8) (h : lss a b = false) (k : lss b a = false) : a = b := by
  induction a generalizing b with
  | nil => cases b <;> simp [lss] at h ⊢
  | cons x xs ih =>
    cases b with
    | nil => simp [lss] at k
    | cons y ys =>
      by_cases e : x = y
      · subst e
        simp only [lss, if_true] at h k
        rw [ih ys h k]
      · have e2 : ¬ y = x := fun q => e q.symm
        simp only [lss, e, e2, if_false, decide_eq_false_iff_not] at h k
        exact absurd (UInt8.toNat_inj.1 (show x.toNat = y.toNat by omega)) e

/-- Not greater, then less. -/
theorem lss_le_lt (a b c : List UInt8) (h : lss b a = false) (k : lss b c = true) : lss a c = true := by
  cases e : lss a b with
  | true => exact lss_trans a b c e k
  | false => rw [lss_total a b e h]; exact k

theorem lss_lt_le (a b c : List UInt8) (h : lss a b = true) (k : lss c b = false) : lss a c = true := by
  cases e : lss b c with
  | true => exact lss_trans a b c h e
  | false => rw [lss_total c b k e]; exact h

theorem cmp3_neg (a b : List UInt8) : (cmp3 a b < 0) = (lss a b = true) := by
  unfold cmp3
  split
  · simp_all
  · split <;> simp_all

theorem cmp3_pos (a b : List UInt8) : (0 < cmp3 a b) = (lss b a = true) := by
  unfold cmp3
  split
  · rename_i h; simp [lss_asymm a b h]
  · split <;> simp_all

theorem cmp3_zero (a b : List UInt8) : (cmp3 a b = 0) = (a = b) := by
  unfold cmp3
  apply propext
  constructor
  · intro h
    split at h
    · simp at h
    · split at h
      · simp at h
      · exact lss_total a b (by simp_all) (by simp_all)
  · rintro rfl
    simp [lss_irrefl]

theorem cmp3_swap (a b : List UInt8) : cmp3 a b = - cmp3 b a := by
  unfold cmp3
  cases h : lss a b
  · cases k : lss b a <;> simp
  · simp [lss_asymm a b h]

theorem cmp3_cases (a b : List UInt8) : cmp3 a b = -1 ∨ cmp3 a b = 0 ∨ cmp3 a b = 1 := by
  unfold cmp3
  split
  · exact Or.inl rfl
  · split
    · exact Or.inr (Or.inr rfl)
    · exact Or.inr (Or.inl rfl)

/-- What lies below the first byte that differs, or the end. -/
theorem cmp3_len (a b : List UInt8) (h : cpl a b = a.length ∨ cpl a b = b.length) : cmp3 a b = if a.length < b.length then -1 else if b.length < a.length then 1 else 0 := by
  have hl := cpl_le a b
  have h1 := lss_at a b
  have h2 := lss_at b a
  rw [cpl_comm b a] at h2
  unfold cmp3
  rcases h with h | h
  · by_cases e : a.length = b.length
    · simp [h1, h2, h, e]
    · have : a.length < b.length := by omega
      simp [h1, h, e, this]
  · by_cases e : a.length = b.length
    · simp [h1, h2, h, e]
    · have : b.length < a.length := by omega
      have e2 : ¬ b.length = a.length := by omega
      have e3 : ¬ a.length < b.length := by omega
      simp [h1, h2, h, e2, this, e3]

theorem cmp3_byte (a b : List UInt8) (h1 : cpl a b < a.length) (h2 : cpl a b < b.length) : cmp3 a b = if a[cpl a b].toNat < b[cpl a b].toNat then -1 else 1 := by
  have hne := cpl_at a b h1 h2
  have hne2 : a[cpl a b].toNat ≠ b[cpl a b].toNat := fun e => hne (UInt8.toNat_inj.1 e)
  have k1 := lss_at a b
  have k2 := lss_at b a
  rw [cpl_comm b a] at k2
  unfold cmp3
  have e1 : ¬ cpl a b = a.length := by omega
  have e2 : ¬ cpl a b = b.length := by omega
  rw [k1, k2]
  simp only [e1, e2, decide_false, Bool.not_false, Bool.false_or, Bool.true_and, List.getElem?_eq_getElem h1, List.getElem?_eq_getElem h2, Option.getD_some, decide_eq_true_eq]
  split
  · rfl
  · rw [if_pos (by omega)]

/-- The shortest beginning of the second that is greater than the first. -/
def parting (a b : List UInt8) : List UInt8 := b.take (cpl a b + 1)

theorem lss_append (a : List UInt8) (x : UInt8) (xs : List UInt8) : lss a (a ++ x :: xs) = true := by
  induction a with
  | nil => rfl
  | cons y ys ih => simpa [lss] using ih

/-- A beginning is not greater. -/
theorem lss_take (b : List UInt8) (n : Nat) : lss b (b.take n) = false := by
  induction b generalizing n with
  | nil => cases n <;> rfl
  | cons y ys ih =>
    cases n with
    | zero => rfl
    | succ n => simpa [lss] using ih n

/-- A beginning of the second that is no longer than what is alike is not greater than the first. -/
theorem lss_take_alike (a b : List UInt8) (n : Nat) (h : n ≤ cpl a b) : lss a (b.take n) = false := by
  induction a generalizing b n with
  | nil => cases b <;> simp [cpl] at h <;> subst h <;> rfl
  | cons x xs ih =>
    cases b with
    | nil => simp [lss]
    | cons y ys =>
      cases n with
      | zero => rfl
      | succ n =>
        by_cases e : x = y
        · subst e
          simp only [cpl, if_true] at h
          simpa [lss] using ih ys n (by omega)
        · simp [cpl, e] at h

theorem lss_parting (a b : List UInt8) (h : lss a b = true) : lss a (parting a b) = true := by
  induction a generalizing b with
  | nil => cases b <;> simp [lss, parting, cpl] at h ⊢
  | cons x xs ih =>
    cases b with
    | nil => simp [lss] at h
    | cons y ys =>
      by_cases e : x = y
      · subst e
        simp only [lss, if_true] at h
        simpa [lss, parting, cpl] using ih ys h
      · simpa [lss, parting, cpl, e] using h

theorem cpl_lt_of_lss (a b : List UInt8) (h : lss a b = true) : cpl a b < b.length := by
  have := cpl_le a b
  by_cases e : cpl a b = b.length
  · rw [lss_at] at h
    simp [e] at h
  · omega

/-- Between a text and the one after it lies nothing. -/
theorem lss_after (k x : List UInt8) : lss k x = !(lss x (k ++ [0])) := by
  induction k generalizing x with
  | nil =>
    cases x with
    | nil => rfl
    | cons y ys =>
      by_cases e : y = 0
      · subst e; cases ys <;> simp [lss]
      · simp [lss, e]
  | cons c cs ih =>
    cases x with
    | nil => simp [lss]
    | cons y ys =>
      by_cases e : c = y
      · subst e
        simpa [lss] using ih ys
      · have e2 : ¬ y = c := fun q => e q.symm
        have e3 : c.toNat ≠ y.toNat := fun q => e (UInt8.toNat_inj.1 q)
        simp only [List.cons_append, lss, e, e2, if_false]
        rw [← decide_not]
        apply decide_eq_decide.2
        omega
end Go.Proofs.Ytkdjcikilabehaa
