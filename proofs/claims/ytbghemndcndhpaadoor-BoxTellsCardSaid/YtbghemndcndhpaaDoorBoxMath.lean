/- Plain facts on boxes and items: how deep, how they show, how many, where they are cut; boxes are the same just if they show alike. No program, no world. -/
import Derived.Test.YtbghemndcndhpaaDoorQuoteTxt
import Derived.Lib.ItoaNum
import Derived.Lib.ItoaLen
namespace Go.Proofs.YtbghemndcndhpaaDoor

/-- A box. -/
inductive Bx where
  | nothing : Bx
  | truth (b : Bool) : Bx
  | number (n : Nat) : Bx
  | text (s : ByteArray) : Bx
  | list (l : List Bx) : Bx

theorem Bx.ind {P : Bx → Prop} (h0 : P .nothing) (h1 : ∀ b, P (.truth b)) (h2 : ∀ n, P (.number n)) (h3 : ∀ s, P (.text s)) (h4 : ∀ l, (∀ b ∈ l, P b) → P (.list l)) (b : Bx) : P b :=
  Bx.rec (motive_1 := P) (motive_2 := fun l => ∀ b ∈ l, P b) h0 h1 h2 h3 h4 (by intro b hb; cases hb) (fun b l hb hl c hc => by
    rcases List.mem_cons.1 hc with rfl | hc
    · exact hb
    · exact hl c hc) b

mutual
def deepB : Bx → Nat
  | .list l => maxD l + 1
  | .nothing => 0
  | .truth _ => 0
  | .number _ => 0
  | .text _ => 0
def maxD : List Bx → Nat
  | [] => 0
  | b :: l => max (deepB b) (maxD l)
end

def kindB : Bx → Nat
  | .nothing => 0
  | .truth _ => 1
  | .number _ => 2
  | .text _ => 3
  | .list _ => 4

mutual
def showB : Bx → List UInt8
  | .nothing => [45]
  | .truth b => if b then [121, 101, 115] else [110, 111]
  | .number n => Lib.decDigits n
  | .text s => put s.data.toList
  | .list l => 91 :: (showL true l ++ [93])
def showL : Bool → List Bx → List UInt8
  | _, [] => []
  | f, b :: l => (if f then [] else [32]) ++ showB b ++ showL false l
end

mutual
def countB (k : Int) : Bx → Nat
  | .list l => (if k = 4 then 1 else 0) + countL k l
  | .nothing => if k = 0 then 1 else 0
  | .truth _ => if k = 1 then 1 else 0
  | .number _ => if k = 2 then 1 else 0
  | .text _ => if k = 3 then 1 else 0
def countL (k : Int) : List Bx → Nat
  | [] => 0
  | b :: l => countB k b + countL k l
end

mutual
def cutB : Bx → Bx
  | .list l => if 32 ≤ maxD (cutL l) then .nothing else .list (cutL l)
  | .nothing => .nothing
  | .truth b => .truth b
  | .number n => .number n
  | .text s => .text s
def cutL : List Bx → List Bx
  | [] => []
  | b :: l => cutB b :: cutL l
end

mutual
def wB : Bx → Nat
  | .list l => 1 + wL l
  | .nothing => 1
  | .truth _ => 1
  | .number _ => 1
  | .text s => 1 + s.size
def wL : List Bx → Nat
  | [] => 0
  | b :: l => wB b + wL l
end

mutual
def okB : Bx → Prop
  | .list l => okL l
  | .nothing => True
  | .truth _ => True
  | .number n => n < 18446744073709551616
  | .text _ => True
def okL : List Bx → Prop
  | [] => True
  | b :: l => okB b ∧ okL l
end

theorem cutL_map (l : List Bx) : cutL l = l.map cutB := by
  induction l with
  | nil => rfl
  | cons b l ih => rw [cutL, ih]; rfl
theorem cutL_len (l : List Bx) : (cutL l).length = l.length := by rw [cutL_map, List.length_map]

theorem okL_iff (l : List Bx) : okL l ↔ ∀ b ∈ l, okB b := by
  induction l with
  | nil => simp [okL]
  | cons b l ih => rw [okL, ih]; simp

theorem maxD_le {l : List Bx} {n : Nat} (h : ∀ b ∈ l, deepB b ≤ n) : maxD l ≤ n := by
  induction l with
  | nil => simp [maxD]
  | cons b l ih =>
    rw [maxD]
    have h1 := h b List.mem_cons_self
    have h2 := ih (fun c hc => h c (List.mem_cons_of_mem _ hc))
    omega

theorem deep_cut (b : Bx) : deepB (cutB b) ≤ 32 := by
  cases b with
  | list l =>
    rw [cutB]
    by_cases h : 32 ≤ maxD (cutL l)
    · rw [if_pos h]; simp [deepB]
    · rw [if_neg h, deepB]; omega
  | nothing => simp [cutB, deepB]
  | truth _ => simp [cutB, deepB]
  | number _ => simp [cutB, deepB]
  | text _ => simp [cutB, deepB]

theorem maxD_cut (l : List Bx) : maxD (cutL l) ≤ 32 := by
  refine maxD_le (fun b hb => ?_)
  rw [cutL_map] at hb
  obtain ⟨c, _, rfl⟩ := List.mem_map.1 hb
  exact deep_cut c

theorem ok_cut (b : Bx) : okB b → okB (cutB b) := by
  induction b using Bx.ind with
  | h0 => intro _; simp [cutB, okB]
  | h1 _ => intro _; simp [cutB, okB]
  | h2 n => intro h; simpa [cutB, okB] using h
  | h3 _ => intro _; simp [cutB, okB]
  | h4 l ih =>
    intro h
    rw [okB, okL_iff] at h
    rw [cutB]
    by_cases h2 : 32 ≤ maxD (cutL l)
    · rw [if_pos h2]; simp [okB]
    · rw [if_neg h2, okB, okL_iff]
      intro b hb
      rw [cutL_map] at hb
      obtain ⟨c, hc, rfl⟩ := List.mem_map.1 hb
      exact ih c hc (h c hc)

theorem wB_pos (b : Bx) : 1 ≤ wB b := by cases b <;> simp [wB]

theorem wL_cut {l : List Bx} (h : ∀ b ∈ l, wB (cutB b) ≤ wB b) : wL (cutL l) ≤ wL l := by
  induction l with
  | nil => simp [cutL, wL]
  | cons b l ih =>
    rw [cutL, wL, wL]
    have h1 := h b List.mem_cons_self
    have h2 := ih (fun c hc => h c (List.mem_cons_of_mem _ hc))
    omega

theorem w_cut (b : Bx) : wB (cutB b) ≤ wB b := by
  induction b using Bx.ind with
  | h0 => simp [cutB]
  | h1 _ => simp [cutB]
  | h2 n => simp [cutB]
  | h3 _ => simp [cutB]
  | h4 l ih =>
    rw [cutB]
    by_cases h2 : 32 ≤ maxD (cutL l)
    · rw [if_pos h2]; simp [wB]
    · rw [if_neg h2, wB, wB]
      have := wL_cut ih
      omega

theorem wL_mem {l : List Bx} {b : Bx} (h : b ∈ l) : wB b ≤ wL l := by
  induction l with
  | nil => cases h
  | cons c l ih =>
    rw [wL]
    rcases List.mem_cons.1 h with rfl | h
    · omega
    · have := ih h; omega
theorem wL_len (l : List Bx) : l.length ≤ wL l := by
  induction l with
  | nil => simp
  | cons b l ih => have := wB_pos b; rw [wL, List.length_cons]; omega

theorem showL_len {l : List Bx} (h : ∀ b ∈ l, (showB b).length + 1 ≤ 30 * wB b) : ∀ f, (showL f l).length ≤ 30 * wL l := by
  induction l with
  | nil => intro f; simp [showL]
  | cons b l ih =>
    intro f
    rw [showL, wL, List.length_append, List.length_append]
    have h1 := h b List.mem_cons_self
    have h2 := ih (fun c hc => h c (List.mem_cons_of_mem _ hc)) false
    cases f <;> simp <;> omega

theorem digits_len {n : Nat} (h : n < 18446744073709551616) : (Lib.decDigits n).length ≤ 20 := by
  rw [Lib.decDigits_length]
  exact Lib.nDigits_le20 n h

theorem put_len6 (l : List UInt8) : (put l).length ≤ 6 * l.length + 2 := by
  unfold put
  have := qs_len l
  simp; omega

theorem show_len (b : Bx) : okB b → (showB b).length + 1 ≤ 30 * wB b := by
  induction b using Bx.ind with
  | h0 => intro _; simp [showB, wB]
  | h1 b => intro _; cases b <;> simp [showB, wB]
  | h2 n => intro h; rw [okB] at h; have := digits_len h; simp only [showB, wB]; omega
  | h3 s =>
    intro _
    have := put_len6 s.data.toList
    have e : s.data.toList.length = s.size := len_toList s
    simp only [showB, wB]; omega
  | h4 l ih =>
    intro h
    rw [okB, okL_iff] at h
    have := showL_len (fun b hb => ih b hb (h b hb)) true
    simp only [showB, wB, List.length_cons, List.length_append, List.length_nil]
    omega

/-- What may stand behind a box that is shown. -/
def Tail (r : List UInt8) : Prop := r = [] ∨ (∃ t, r = 32 :: t) ∨ ∃ t, r = 93 :: t

def dgt (x : UInt8) : Prop := 48 ≤ x.toNat ∧ x.toNat ≤ 57

theorem digits_all (n : Nat) : (∀ x ∈ Lib.decDigits n, dgt x) ∧ Lib.decDigits n ≠ [] := by
  by_cases h : n < 10
  · rw [Lib.decDigits_one h]
    refine ⟨fun x hx => ?_, by simp⟩
    have : x = UInt8.ofNat (48 + n) := by simpa using hx
    subst this
    have e : (UInt8.ofNat (48 + n)).toNat = 48 + n := by simp; omega
    unfold dgt
    omega
  · have ih := digits_all (n / 10)
    rw [Lib.decDigits, dif_neg h]
    refine ⟨fun x hx => ?_, by simp⟩
    rcases List.mem_append.1 hx with hx | hx
    · exact ih.1 x hx
    · have : x = UInt8.ofNat (48 + n % 10) := by simpa using hx
      subst this
      have e : (UInt8.ofNat (48 + n % 10)).toNat = 48 + n % 10 := by simp; omega
      unfold dgt
      omega
termination_by n
decreasing_by omega

def val10 (l : List UInt8) : Nat := l.foldl (fun a x => 10 * a + (x.toNat - 48)) 0
theorem val_digits (n : Nat) : val10 (Lib.decDigits n) = n := by
  by_cases h : n < 10
  · rw [Lib.decDigits_one h]
    have e : (UInt8.ofNat (48 + n)).toNat = 48 + n := by simp; omega
    show 10 * 0 + ((UInt8.ofNat (48 + n)).toNat - 48) = n
    rw [e]; omega
  · have ih := val_digits (n / 10)
    rw [Lib.decDigits, dif_neg h]
    unfold val10 at *
    rw [List.foldl_append, ih]
    have e : (UInt8.ofNat (48 + n % 10)).toNat = 48 + n % 10 := by simp; omega
    show 10 * (n / 10) + ((UInt8.ofNat (48 + n % 10)).toNat - 48) = n
    rw [e]; omega
termination_by n
decreasing_by omega

theorem tail_head {r : List UInt8} (h : Tail r) {x : UInt8} {t : List UInt8} (e : r = x :: t) : ¬ dgt x := by
  intro hd
  unfold dgt at hd
  rcases h with h | ⟨u, h⟩ | ⟨u, h⟩
  · rw [h] at e; cases e
  · rw [h] at e; injection e with e _; subst e; simp at hd
  · rw [h] at e; injection e with e _; subst e; simp at hd

theorem span_eq : ∀ (xs ys r r' : List UInt8), (∀ x ∈ xs, dgt x) → (∀ x ∈ ys, dgt x) → Tail r → Tail r' → xs ++ r = ys ++ r' → xs = ys ∧ r = r'
  | [], [], _, _, _, _, _, _, h => ⟨rfl, h⟩
  | [], y :: ys, r, r', _, hy, hr, _, h => absurd (hy y List.mem_cons_self) (tail_head hr h)
  | x :: xs, [], r, r', hx, _, _, hr', h => absurd (hx x List.mem_cons_self) (tail_head hr' h.symm)
  | x :: xs, y :: ys, r, r', hx, hy, hr, hr', h => by
    injection h with h1 h2
    obtain ⟨h3, h4⟩ := span_eq xs ys r r' (fun z hz => hx z (List.mem_cons_of_mem _ hz)) (fun z hz => hy z (List.mem_cons_of_mem _ hz)) hr hr' h2
    exact ⟨by rw [h1, h3], h4⟩

/-- What stands behind the end of a quote that was begun. -/
def endq : List UInt8 → List UInt8
  | [] => []
  | 34 :: t => t
  | [92] => []
  | 92 :: _ :: t => endq t
  | _ :: t => endq t

theorem endq_plain : ∀ (x rest : List UInt8), (∀ b ∈ x, b ≠ 92 ∧ b ≠ 34) → endq (x ++ rest) = endq rest
  | [], rest, _ => rfl
  | b :: x, rest, h => by
    have hb := h b List.mem_cons_self
    have ih := endq_plain x rest (fun c hc => h c (List.mem_cons_of_mem _ hc))
    rw [List.cons_append]
    rw [endq]
    · exact ih
    · exact hb.2
    · intro e _; exact hb.1 e
    · intro c t e _; exact hb.1 e

theorem endq_two (c : UInt8) (t : List UInt8) : endq (92 :: c :: t) = endq t := by rw [endq]

theorem hex_plain (n : Nat) (h : n < 16) : hexd n ≠ 92 ∧ hexd n ≠ 34 := by
  have : ∀ m : Fin 16, hexd m.val ≠ 92 ∧ hexd m.val ≠ 34 := by decide +kernel
  exact this ⟨n, h⟩

theorem endq_x (a b : Nat) (ha : a < 16) (hb : b < 16) (t : List UInt8) : endq ([92, 120, hexd a, hexd b] ++ t) = endq t := by
  show endq (92 :: 120 :: ([hexd a, hexd b] ++ t)) = _
  rw [endq_two, endq_plain]
  intro c hc
  simp at hc
  rcases hc with rfl | rfl
  · exact hex_plain a ha
  · exact hex_plain b hb

theorem endq_u (a b c d : Nat) (ha : a < 16) (hb : b < 16) (hc : c < 16) (hd : d < 16) (t : List UInt8) : endq ([92, 117, hexd a, hexd b, hexd c, hexd d] ++ t) = endq t := by
  show endq (92 :: 117 :: ([hexd a, hexd b, hexd c, hexd d] ++ t)) = _
  rw [endq_two, endq_plain]
  intro e he
  simp at he
  rcases he with rfl | rfl | rfl | rfl
  · exact hex_plain a ha
  · exact hex_plain b hb
  · exact hex_plain c hc
  · exact hex_plain d hd

theorem enc_plain (r : Nat) (h1 : r ≠ 34) (h2 : r ≠ 92) (_h : r ≤ 1114111) : ∀ b ∈ Lib.encodeRune (r : Nat), b ≠ 92 ∧ b ≠ 34 := by
  intro b hb
  unfold Lib.encodeRune at hb
  obtain ⟨x, hx, rfl⟩ := List.mem_map.1 hb
  have hbt := Lib.encodeRuneZ_byte r x hx
  have hn : x ≠ 92 ∧ x ≠ 34 := by
    unfold Lib.encodeRuneZ at hx
    split at hx
    · simp at hx; omega
    · split at hx
      · simp at hx; omega
      · split at hx
        · simp at hx; omega
        · split at hx
          · simp at hx; omega
          · simp at hx; omega
  have e : (x.toNat.toUInt8).toNat = x.toNat := by simp; omega
  constructor
  · intro e2
    have := congrArg UInt8.toNat e2
    rw [e] at this
    simp at this; omega
  · intro e2
    have := congrArg UInt8.toNat e2
    rw [e] at this
    simp at this; omega

theorem endq_q (l t : List UInt8) : endq (q l ++ t) = endq t := by
  unfold q
  have hb := gb_lt l 0
  have hd := dec_lt l
  by_cases h0 : stray l = true
  · rw [if_pos h0]
    exact endq_x _ _ (by omega) (by omega) t
  · rw [if_neg h0]
    by_cases h1 : (dec l).1 = 34 ∨ (dec l).1 = 92
    · rw [if_pos h1]
      exact endq_two _ _
    · rw [if_neg h1]
      by_cases h2 : shows (dec l).1 = true
      · rw [if_pos h2]
        exact endq_plain _ _ (enc_plain _ (by omega) (by omega) hd)
      · rw [if_neg h2]
        by_cases h3 : (dec l).1 < 128
        · rw [if_pos h3]
          exact endq_x _ _ (by omega) (by omega) t
        · rw [if_neg h3]
          exact endq_u _ _ _ _ (by omega) (by omega) (by omega) (by omega) t

theorem endq_qs (l t : List UInt8) : endq (qs l ++ 34 :: t) = t := by
  by_cases h : l = []
  · subst h
    rw [qs_nil]
    show endq (34 :: t) = t
    rw [endq]
  · rw [qs_cons h, List.append_assoc, endq_q]
    exact endq_qs (l.drop (dec l).2) t
termination_by l.length
decreasing_by exact drop_lt l h

theorem put_span {a b r r' : List UInt8} (h : put a ++ r = put b ++ r') : a = b ∧ r = r' := by
  unfold put at h
  simp only [List.cons_append, List.append_assoc, List.nil_append] at h
  injection h with _ h
  have h1 := congrArg endq h
  rw [endq_qs, endq_qs] at h1
  subst h1
  refine ⟨put_inj a b ?_, rfl⟩
  unfold put
  have : qs a = qs b := by
    have h2 : qs a ++ (34 :: r) = qs b ++ (34 :: r) := h
    exact List.append_cancel_right h2
  rw [this]

/-- Of which kind a box is that begins so. -/
def cls (x : UInt8) : Nat := if x = 45 then 0 else if x = 121 ∨ x = 110 then 1 else if x = 34 then 3 else if x = 91 then 4 else 2

theorem cls_dgt {x : UInt8} (h : dgt x) : cls x = 2 ∧ x ≠ 93 ∧ x ≠ 32 := by
  unfold dgt at h
  have e : ∀ c : UInt8, (c.toNat < 48 ∨ 57 < c.toNat) → x ≠ c := fun c hc e => by subst e; omega
  unfold cls
  rw [if_neg (e 45 (by decide)), if_neg (by rintro (h | h); exact e 121 (by decide) h; exact e 110 (by decide) h), if_neg (e 34 (by decide)), if_neg (e 91 (by decide))]
  exact ⟨rfl, e 93 (by decide), e 32 (by decide)⟩

theorem show_head (b : Bx) : ∃ x t, showB b = x :: t ∧ cls x = kindB b ∧ x ≠ 93 ∧ x ≠ 32 := by
  cases b with
  | nothing => exact ⟨45, [], by simp [showB], by decide, by decide, by decide⟩
  | truth b =>
    cases b with
    | true => exact ⟨121, [101, 115], by simp [showB], by decide, by decide, by decide⟩
    | false => exact ⟨110, [111], by simp [showB], by decide, by decide, by decide⟩
  | number n =>
    have h := digits_all n
    cases hd : Lib.decDigits n with
    | nil => exact absurd hd h.2
    | cons x t =>
      have := cls_dgt (h.1 x (by rw [hd]; exact List.mem_cons_self))
      exact ⟨x, t, by rw [showB, hd], this.1, this.2.1, this.2.2⟩
  | text s => exact ⟨34, qs s.data.toList ++ [34], by simp [showB, put], by rfl, by decide, by decide⟩
  | list l => exact ⟨91, showL true l ++ [93], by simp [showB], by rfl, by decide, by decide⟩

theorem tail_show (l : List Bx) (r : List UInt8) : Tail (showL false l ++ 93 :: r) := by
  cases l with
  | nil => exact Or.inr (Or.inr ⟨r, by simp [showL]⟩)
  | cons b l => exact Or.inr (Or.inl ⟨showB b ++ showL false l ++ 93 :: r, by simp [showL]⟩)

def Inj (b : Bx) : Prop := ∀ b' r r', Tail r → Tail r' → showB b ++ r = showB b' ++ r' → b = b' ∧ r = r'

theorem showL_inj : ∀ (l : List Bx), (∀ b ∈ l, Inj b) → ∀ (l' : List Bx) (f : Bool) (r r' : List UInt8), showL f l ++ 93 :: r = showL f l' ++ 93 :: r' → l = l' ∧ r = r'
  | [], _, [], f, r, r', h => by
    simp [showL] at h
    exact ⟨rfl, h⟩
  | [], _, b :: l, f, r, r', h => by
    obtain ⟨x, t, hx, _, h93, _⟩ := show_head b
    cases f with
    | true => simp [showL, hx] at h; exact absurd h.1.symm h93
    | false => simp [showL] at h
  | b :: l, _, [], f, r, r', h => by
    obtain ⟨x, t, hx, _, h93, _⟩ := show_head b
    cases f with
    | true => simp [showL, hx] at h; exact absurd h.1 h93
    | false => simp [showL] at h
  | b :: l, hi, b' :: l', f, r, r', h => by
    have h2 : showB b ++ (showL false l ++ 93 :: r) = showB b' ++ (showL false l' ++ 93 :: r') := by
      cases f with
      | true => simpa [showL] using h
      | false => simpa [showL] using h
    obtain ⟨e1, e2⟩ := hi b List.mem_cons_self b' _ _ (tail_show l r) (tail_show l' r') h2
    obtain ⟨e3, e4⟩ := showL_inj l (fun c hc => hi c (List.mem_cons_of_mem _ hc)) l' false r r' e2
    exact ⟨by rw [e1, e3], e4⟩

theorem text_of_list {s t : ByteArray} (h : s.data.toList = t.data.toList) : s = t := by
  apply ByteArray.ext
  apply Array.ext'
  exact h

theorem show_inj (b : Bx) : Inj b := by
  induction b using Bx.ind with
  | h0 =>
    intro b' r r' _ _ h
    obtain ⟨x, t, hx, hc, _⟩ := show_head b'
    have hk : kindB b' = 0 := by
      rw [hx] at h
      simp [showB] at h
      rw [← hc, ← h.1]; decide
    cases b' <;> simp [kindB] at hk
    simp [showB] at h
    exact ⟨rfl, h⟩
  | h1 b =>
    intro b' r r' _ _ h
    obtain ⟨x, t, hx, hc, _⟩ := show_head b'
    have hk : kindB b' = 1 := by
      rw [hx] at h
      cases b <;> simp [showB] at h <;> rw [← hc, ← h.1] <;> decide
    cases b' <;> simp [kindB] at hk
    rename_i c
    cases b <;> cases c <;> simp [showB] at h ⊢
    · exact h
    · exact h
  | h2 n =>
    intro b' r r' hr hr' h
    obtain ⟨x, t, hx, hc, _⟩ := show_head b'
    obtain ⟨y, u, hy, hcy, _⟩ := show_head (.number n)
    have hk : kindB b' = 2 := by
      rw [hx, hy] at h
      injection h with h _
      rw [← hc, ← h, hcy]; rfl
    cases b' <;> simp [kindB] at hk
    rename_i m
    simp only [showB] at h
    obtain ⟨e1, e2⟩ := span_eq _ _ r r' (digits_all n).1 (digits_all m).1 hr hr' h
    refine ⟨?_, e2⟩
    have := congrArg val10 e1
    rw [val_digits, val_digits] at this
    rw [this]
  | h3 s =>
    intro b' r r' hr hr' h
    obtain ⟨x, t, hx, hc, _⟩ := show_head b'
    have hk : kindB b' = 3 := by
      rw [hx] at h
      simp [showB, put] at h
      rw [← hc, ← h.1]; decide
    cases b' <;> simp [kindB] at hk
    simp only [showB] at h
    obtain ⟨e1, e2⟩ := put_span h
    exact ⟨by rw [text_of_list e1], e2⟩
  | h4 l ih =>
    intro b' r r' hr hr' h
    obtain ⟨x, t, hx, hc, _⟩ := show_head b'
    have hk : kindB b' = 4 := by
      rw [hx] at h
      simp [showB] at h
      rw [← hc, ← h.1]; decide
    cases b' <;> simp [kindB] at hk
    rename_i l'
    simp only [showB, List.cons_append, List.append_assoc] at h
    injection h with _ h
    obtain ⟨e1, e2⟩ := showL_inj l ih l' true r r' h
    exact ⟨by rw [e1], e2⟩

/-- Boxes show alike just if they are the same. -/
theorem show_same (a b : Bx) : showB a = showB b ↔ a = b := by
  refine ⟨fun h => ?_, fun h => by rw [h]⟩
  exact (show_inj a b [] [] (Or.inl rfl) (Or.inl rfl) (by rw [h])).1
end Go.Proofs.YtbghemndcndhpaaDoor
