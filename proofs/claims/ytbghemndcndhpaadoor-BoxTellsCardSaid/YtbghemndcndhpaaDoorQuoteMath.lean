/- Plain facts on quotes, over lists of bytes: the quote of a text as the program and as the document make it, that the two are one, and that it is read back. No program, no world. -/
import Derived.Test.YtbghemndcndhpaaDoorUtfMath
namespace Go.Proofs.YtbghemndcndhpaaDoor

def hexList : List UInt8 := [48, 49, 50, 51, 52, 53, 54, 55, 56, 57, 97, 98, 99, 100, 101, 102]
/-- A digit to the base 16. -/
def hexd (n : Nat) : UInt8 := hexList.getD n 0

def shows (r : Nat) : Bool := (decide (32 ≤ r) && decide (r ≤ 126) && r != 34 && r != 92) || decide (160 ≤ r)

/-- What the head of a list adds to its quote. -/
def q (l : List UInt8) : List UInt8 :=
  if stray l then [92, 120, hexd (gb l 0 / 16), hexd (gb l 0 % 16)]
  else if (dec l).1 = 34 ∨ (dec l).1 = 92 then [92, ((dec l).1).toUInt8]
  else if shows (dec l).1 then Lib.encodeRune ((dec l).1 : Nat)
  else if (dec l).1 < 128 then [92, 120, hexd ((dec l).1 / 16 % 16), hexd ((dec l).1 % 16)]
  else [92, 117, hexd ((dec l).1 / 4096 % 16), hexd ((dec l).1 / 256 % 16), hexd ((dec l).1 / 16 % 16), hexd ((dec l).1 % 16)]

theorem drop_lt (l : List UInt8) (h : l ≠ []) : (l.drop (dec l).2).length < l.length := by
  have := width_le l h
  rw [List.length_drop]
  omega

def qs (l : List UInt8) : List UInt8 := if _h : l = [] then [] else q l ++ qs (l.drop (dec l).2)
termination_by l.length
decreasing_by exact drop_lt l _h

theorem qs_nil : qs [] = [] := by rw [qs]; simp
theorem qs_cons {l : List UInt8} (h : l ≠ []) : qs l = q l ++ qs (l.drop (dec l).2) := by rw [qs]; simp [h]

def put (l : List UInt8) : List UInt8 := 34 :: qs l ++ [34]

/-- The pieces of a text, and which are strays. -/
def pcs (l : List UInt8) : List (List UInt8 × Bool) := if _h : l = [] then [] else (l.take (dec l).2, stray l) :: pcs (l.drop (dec l).2)
termination_by l.length
decreasing_by exact drop_lt l _h

theorem pcs_nil : pcs [] = [] := by rw [pcs]; simp
theorem pcs_cons {l : List UInt8} (h : l ≠ []) : pcs l = (l.take (dec l).2, stray l) :: pcs (l.drop (dec l).2) := by rw [pcs]; simp [h]

/-- A piece's part of the quote, as the document makes it. -/
def rpart (x : List UInt8) (st : Bool) : List UInt8 :=
  if st = true ∨ x.length = 1 ∧ (gb x 0 < 32 ∨ gb x 0 = 127) then [92, 120, hexd (gb x 0 / 16), hexd (gb x 0 % 16)]
  else if x = [34] ∨ x = [92] then 92 :: x
  else if x.length = 2 ∧ gb x 0 = 194 ∧ gb x 1 < 160 then [92, 117, 48, 48, hexd (gb x 1 / 16), hexd (gb x 1 % 16)]
  else x

theorem gb_take {l : List UInt8} {n k : Nat} (h : k < n) : gb (l.take n) k = gb l k := by
  unfold gb
  rw [List.getElem?_take, if_pos h]

theorem rpart_q (l : List UInt8) (h : l ≠ []) : rpart (l.take (dec l).2) (stray l) = q l := by
  obtain ⟨z0, z1, z2, z3, z4, zle⟩ := dec_sz l h
  have hp := sz_pos1 h
  have hst := stray_sz l h
  have hw := width_sz l h
  have hb := gb_lt l 0
  unfold rpart q
  by_cases c0 : sz l = 0
  · rw [hst, hw, c0]
    simp only [decide_true, if_true, true_or]
    rw [gb_take (show 0 < max 0 1 by decide)]
  have hst' : stray l = false := by rw [hst]; simpa using c0
  have henc := enc_dec l h c0
  rw [hst', ← henc]
  have hc : sz l = 1 ∨ sz l = 2 ∨ sz l = 3 ∨ sz l = 4 := by omega
  rcases hc with c | c | c | c
  · obtain ⟨a, e⟩ := z1 c
    rw [e] at henc ⊢
    dsimp only at henc ⊢
    rw [henc, take1 hp]
    have g0 : gb [(gb l 0).toUInt8] 0 = gb l 0 := by unfold gb; simp
    rw [g0]
    by_cases d : gb l 0 < 32 ∨ gb l 0 = 127
    · rw [if_pos (Or.inr ⟨rfl, d⟩), if_neg (by simp), if_neg (by omega), if_neg (by unfold shows; simp; omega), if_pos a]
      rw [show gb l 0 / 16 % 16 = gb l 0 / 16 by omega]
    · rw [if_neg (by simp; omega), if_neg (by simp : ¬ (false = true))]
      by_cases d2 : gb l 0 = 34 ∨ gb l 0 = 92
      · rw [if_pos d2, if_pos]
        rcases d2 with d2 | d2 <;> rw [d2] <;> simp
      · rw [if_neg d2, if_neg, if_neg (by simp), if_pos (by unfold shows; simp; omega)]
        intro e1
        apply d2
        rcases e1 with e1 | e1
        · left
          have := congrArg (fun x => gb x 0) e1
          simp only [g0] at this
          exact this
        · right
          have := congrArg (fun x => gb x 0) e1
          simp only [g0] at this
          exact this
  · obtain ⟨hl, a1, a2, a3, a4, e⟩ := z2 c
    rw [e] at henc ⊢
    dsimp only at henc ⊢
    rw [henc, take2 hl]
    have g0 : gb [(gb l 0).toUInt8, (gb l 1).toUInt8] 0 = gb l 0 := by unfold gb; simp
    have g1 : gb [(gb l 0).toUInt8, (gb l 1).toUInt8] 1 = gb l 1 := by unfold gb; simp
    rw [g0, g1, if_neg (by simp), if_neg (by simp)]
    by_cases d : gb l 0 = 194 ∧ gb l 1 < 160
    · rw [if_pos ⟨rfl, d⟩, if_neg (by simp : ¬ (false = true)), if_neg (by omega), if_neg (by unfold shows; simp; omega), if_neg (by omega)]
      have e1 : gb l 0 % 32 * 64 + gb l 1 % 64 = gb l 1 := by omega
      rw [e1, show gb l 1 / 4096 % 16 = 0 by omega, show gb l 1 / 256 % 16 = 0 by omega, show gb l 1 / 16 % 16 = gb l 1 / 16 by omega]
      rfl
    · rw [if_neg (fun h => d h.2), if_neg (by simp : ¬ (false = true)), if_neg (by omega), if_pos (by unfold shows; simp; omega)]
  · obtain ⟨hl, a1, a2, a3, a4, a5, a6, a7, a8, e⟩ := z3 c
    rw [e] at henc ⊢
    dsimp only at henc ⊢
    rw [henc, take3 hl]
    rw [if_neg (by simp), if_neg (by simp), if_neg (by simp), if_neg (by simp : ¬ (false = true)), if_neg (by omega), if_pos (by unfold shows; simp; omega)]
  · obtain ⟨hl, a1, a2, a3, a4, a5, a6, a7, a8, a9, a10, e⟩ := z4 c
    rw [e] at henc ⊢
    dsimp only at henc ⊢
    rw [henc, take4 hl]
    rw [if_neg (by simp), if_neg (by simp), if_neg (by simp), if_neg (by simp : ¬ (false = true)), if_neg (by omega), if_pos (by unfold shows; simp; omega)]

theorem rparts_qs (l : List UInt8) : (pcs l).flatMap (fun p => rpart p.1 p.2) = qs l := by
  by_cases h : l = []
  · subst h; rw [pcs_nil, qs_nil]; rfl
  · rw [pcs_cons h, qs_cons h, List.flatMap_cons, rpart_q l h, rparts_qs (l.drop (dec l).2)]
termination_by l.length
decreasing_by exact drop_lt l h

/-- The number that so many digits to the base 16 say, behind n. -/
def hexv (b : UInt8) : Option Nat := hexList.findIdx? (· == b)

def unum : Nat → Nat → List UInt8 → Option Nat
  | 0, n, _ => some n
  | _ + 1, _, [] => none
  | d + 1, n, b :: r => match hexv b with
    | none => none
    | some v => unum d (n * 16 + v) r

/-- What the head of a quote's inside stands for, and how long it is. -/
def upart (l : List UInt8) : List UInt8 × Nat :=
  if gb l 0 ≠ 92 then (l.take 1, 1)
  else if l.length < 2 then ([], 0)
  else if gb l 1 = 34 ∨ gb l 1 = 92 then ([(gb l 1).toUInt8], 2)
  else if gb l 1 = 120 then (match unum 2 0 (l.drop 2) with | some n => ([n.toUInt8], 4) | none => ([], 0))
  else if gb l 1 = 117 then (match unum 4 0 (l.drop 2) with | some n => (Lib.encodeRune (n : Nat), 6) | none => ([], 0))
  else ([], 0)

def uall (l : List UInt8) : Option (List UInt8) := if _h : l = [] then some [] else if _h2 : (upart l).2 = 0 then none else (uall (l.drop (upart l).2)).map ((upart l).1 ++ ·)
termination_by l.length
decreasing_by
  have : 0 < l.length := List.length_pos_iff.2 _h
  rw [List.length_drop]; omega

theorem uall_nil : uall [] = some [] := by rw [uall]; simp
theorem uall_cons {l : List UInt8} (h : l ≠ []) (h2 : (upart l).2 ≠ 0) : uall l = (uall (l.drop (upart l).2)).map ((upart l).1 ++ ·) := by rw [uall]; simp [h, h2]
theorem uall_none {l : List UInt8} (h : l ≠ []) (h2 : (upart l).2 = 0) : uall l = none := by rw [uall]; simp [h, h2]

def unquote (l : List UInt8) : Option (List UInt8) :=
  if l.length < 2 ∨ gb l 0 ≠ 34 ∨ gb l (l.length - 1) ≠ 34 then none else uall ((l.drop 1).take (l.length - 2))

def get (l : List UInt8) : List UInt8 × Nat :=
  match unquote l with
  | none => ([], 10)
  | some s => if put s = l then (s, 0) else ([], 10)

theorem hexv_hexd : ∀ n : Fin 16, hexv (hexd n.val) = some n.val := by decide +kernel
theorem hexv_d (n : Nat) (h : n < 16) : hexv (hexd n) = some n := hexv_hexd ⟨n, h⟩

/-- Bytes that are no backslash stand for themselves. -/
theorem uall_plain : ∀ (x rest : List UInt8), (∀ b ∈ x, b ≠ 92) → uall (x ++ rest) = (uall rest).map (x ++ ·)
  | [], rest, _ => by simp
  | b :: x, rest, h => by
    have hb : gb (b :: x ++ rest) 0 ≠ 92 := by
      have h1 := h b (by simp)
      intro e
      apply h1
      have : b.toNat = 92 := by simpa [gb] using e
      exact UInt8.toNat_inj.1 (by simpa using this)
    have hu : upart (b :: x ++ rest) = ([b], 1) := by
      unfold upart
      rw [if_pos hb]
      simp
    rw [uall_cons (by simp) (by rw [hu]; simp), hu]
    have ih := uall_plain x rest (fun c hc => h c (by simp [hc]))
    show (uall ((b :: x ++ rest).drop 1)).map _ = _
    rw [show (b :: x ++ rest).drop 1 = x ++ rest by simp, ih]
    cases uall rest <;> simp

theorem uall_x (n : Nat) (h : n < 256) (rest : List UInt8) : uall ([92, 120, hexd (n / 16), hexd (n % 16)] ++ rest) = (uall rest).map ([n.toUInt8] ++ ·) := by
  have hu : upart ([92, 120, hexd (n / 16), hexd (n % 16)] ++ rest) = ([n.toUInt8], 4) := by
    unfold upart
    have e0 : gb ([92, 120, hexd (n / 16), hexd (n % 16)] ++ rest) 0 = 92 := by simp [gb]
    have e1 : gb ([92, 120, hexd (n / 16), hexd (n % 16)] ++ rest) 1 = 120 := by simp [gb]
    rw [e0, e1, if_neg (by simp), if_neg (by simp), if_neg (by omega), if_pos rfl]
    have : unum 2 0 (([92, 120, hexd (n / 16), hexd (n % 16)] ++ rest).drop 2) = some n := by
      show unum 2 0 (hexd (n / 16) :: hexd (n % 16) :: rest) = some n
      simp only [unum, hexv_d (n / 16) (by omega), hexv_d (n % 16) (by omega)]
      congr 1; omega
    rw [this]
  rw [uall_cons (by simp) (by rw [hu]; simp), hu]
  simp

theorem uall_u (n : Nat) (h : n < 65536) (rest : List UInt8) : uall ([92, 117, hexd (n / 4096 % 16), hexd (n / 256 % 16), hexd (n / 16 % 16), hexd (n % 16)] ++ rest) = (uall rest).map (Lib.encodeRune (n : Nat) ++ ·) := by
  have hu : upart ([92, 117, hexd (n / 4096 % 16), hexd (n / 256 % 16), hexd (n / 16 % 16), hexd (n % 16)] ++ rest) = (Lib.encodeRune (n : Nat), 6) := by
    unfold upart
    have e0 : gb ([92, 117, hexd (n / 4096 % 16), hexd (n / 256 % 16), hexd (n / 16 % 16), hexd (n % 16)] ++ rest) 0 = 92 := by simp [gb]
    have e1 : gb ([92, 117, hexd (n / 4096 % 16), hexd (n / 256 % 16), hexd (n / 16 % 16), hexd (n % 16)] ++ rest) 1 = 117 := by simp [gb]
    rw [e0, e1, if_neg (by simp), if_neg (by simp), if_neg (by omega), if_neg (by omega), if_pos rfl]
    have : unum 4 0 (([92, 117, hexd (n / 4096 % 16), hexd (n / 256 % 16), hexd (n / 16 % 16), hexd (n % 16)] ++ rest).drop 2) = some n := by
      show unum 4 0 (hexd (n / 4096 % 16) :: hexd (n / 256 % 16) :: hexd (n / 16 % 16) :: hexd (n % 16) :: rest) = some n
      simp only [unum, hexv_d (n / 4096 % 16) (by omega), hexv_d (n / 256 % 16) (by omega), hexv_d (n / 16 % 16) (by omega), hexv_d (n % 16) (by omega)]
      congr 1; omega
    rw [this]
  rw [uall_cons (by simp) (by rw [hu]; simp), hu]
  simp

theorem uall_c (c : Nat) (h : c = 34 ∨ c = 92) (rest : List UInt8) : uall ([92, c.toUInt8] ++ rest) = (uall rest).map ([c.toUInt8] ++ ·) := by
  have hu : upart ([92, c.toUInt8] ++ rest) = ([c.toUInt8], 2) := by
    unfold upart
    have e0 : gb ([92, c.toUInt8] ++ rest) 0 = 92 := by simp [gb]
    have e1 : gb ([92, c.toUInt8] ++ rest) 1 = c := by rcases h with h | h <;> subst h <;> simp [gb]
    rw [e0, e1, if_neg (by simp), if_neg (by simp), if_pos h]
  rw [uall_cons (by simp) (by rw [hu]; simp), hu]
  simp

/-- What the head of a text adds to its quote is read as the bytes of that head. -/
theorem uall_q (l rest : List UInt8) (h : l ≠ []) : uall (q l ++ rest) = (uall rest).map (l.take (dec l).2 ++ ·) := by
  obtain ⟨z0, z1, z2, z3, z4, zle⟩ := dec_sz l h
  have hp := sz_pos1 h
  have hst := stray_sz l h
  have hb := gb_lt l 0
  unfold q
  by_cases c0 : sz l = 0
  · have hd := z0 c0
    rw [hst, if_pos (by simpa using c0), uall_x _ hb, hd]
    show _ = (uall rest).map (l.take 1 ++ ·)
    rw [take1 hp]
  have hst' : stray l = false := by rw [hst]; simpa using c0
  have henc := enc_dec l h c0
  rw [hst', if_neg (by simp : ¬ (false = true)), ← henc]
  have hr : (dec l).1 < 128 → Lib.encodeRune ((dec l).1 : Nat) = [((dec l).1).toUInt8] := by
    intro hlt
    unfold Lib.encodeRune
    rw [Lib.encodeRuneZ_one (by omega) (by omega)]
    simp
  by_cases d1 : (dec l).1 = 34 ∨ (dec l).1 = 92
  · rw [if_pos d1, uall_c _ d1, hr (by omega)]
  rw [if_neg d1]
  by_cases d2 : shows (dec l).1 = true
  · rw [if_pos d2]
    refine uall_plain _ _ (fun b hbm e => ?_)
    subst e
    by_cases d3 : (dec l).1 < 128
    · rw [hr d3] at hbm
      simp at hbm
      apply d1
      right
      have := congrArg UInt8.toNat hbm
      simp at this
      omega
    · rw [henc, width_sz l h] at hbm
      have hc : sz l = 1 ∨ sz l = 2 ∨ sz l = 3 ∨ sz l = 4 := by omega
      have key : ∀ k, 128 ≤ gb l k → (92 : UInt8) ≠ (gb l k).toUInt8 := by
        intro k hk e
        have := congrArg UInt8.toNat e
        have hl := gb_lt l k
        simp at this
        omega
      rcases hc with c | c | c | c
      · have := (z1 c).1; rw [(z1 c).2] at d3; exact absurd this d3
      · obtain ⟨hl, a1, a2, a3, a4, _⟩ := z2 c
        rw [c] at hbm
        simp only [show max 2 1 = 2 from rfl, take2 hl, List.mem_cons, List.not_mem_nil, or_false] at hbm
        rcases hbm with e | e
        · exact key 0 (by omega) e
        · exact key 1 (by omega) e
      · obtain ⟨hl, a1, a2, a3, a4, a5, a6, _⟩ := z3 c
        rw [c] at hbm
        simp only [show max 3 1 = 3 from rfl, take3 hl, List.mem_cons, List.not_mem_nil, or_false] at hbm
        rcases hbm with e | e | e
        · exact key 0 (by omega) e
        · exact key 1 (by omega) e
        · exact key 2 (by omega) e
      · obtain ⟨hl, a1, a2, a3, a4, a5, a6, a7, a8, _⟩ := z4 c
        rw [c] at hbm
        simp only [show max 4 1 = 4 from rfl, take4 hl, List.mem_cons, List.not_mem_nil, or_false] at hbm
        rcases hbm with e | e | e | e
        · exact key 0 (by omega) e
        · exact key 1 (by omega) e
        · exact key 2 (by omega) e
        · exact key 3 (by omega) e
  rw [if_neg d2]
  have d2' : (dec l).1 < 160 := by
    by_cases hh : (dec l).1 < 160
    · exact hh
    · exact absurd (by unfold shows; simp; omega) d2
  by_cases d4 : (dec l).1 < 128
  · rw [if_pos d4, show (dec l).1 / 16 % 16 = (dec l).1 / 16 by omega, uall_x _ (by omega), hr d4]
  · rw [if_neg d4, uall_u _ (by omega)]

theorem uall_qs (l : List UInt8) : uall (qs l) = some l := by
  by_cases h : l = []
  · subst h; rw [qs_nil, uall_nil]
  · rw [qs_cons h, uall_q l _ h, uall_qs (l.drop (dec l).2)]
    simp
termination_by l.length
decreasing_by exact drop_lt l h

theorem unquote_put (l : List UInt8) : unquote (put l) = some l := by
  unfold unquote put
  have e0 : gb (34 :: qs l ++ [34]) 0 = 34 := by simp [gb]
  have e1 : gb (34 :: qs l ++ [34]) ((34 :: qs l ++ [34]).length - 1) = 34 := by simp [gb]
  have hno : ¬ ((34 :: qs l ++ [34]).length < 2 ∨ gb (34 :: qs l ++ [34]) 0 ≠ 34 ∨ gb (34 :: qs l ++ [34]) ((34 :: qs l ++ [34]).length - 1) ≠ 34) := by
    rintro (h | h | h)
    · simp at h; omega
    · exact h e0
    · exact h e1
  rw [if_neg hno]
  have : ((34 :: qs l ++ [34]).drop 1).take ((34 :: qs l ++ [34]).length - 2) = qs l := by simp
  rw [this, uall_qs]

theorem get_put (l : List UInt8) : get (put l) = (l, 0) := by
  unfold get
  rw [unquote_put]
  simp

theorem put_inj (a b : List UInt8) (h : put a = put b) : a = b := by
  have h1 := get_put a
  have h2 := get_put b
  rw [h, h2] at h1
  exact (Prod.mk.inj h1).1.symm

theorem get_back (t s : List UInt8) (h : get t = (s, 0)) : put s = t := by
  unfold get at h
  split at h
  · simp at h
  · split at h
    · rename_i hh
      obtain ⟨rfl, _⟩ := Prod.mk.inj h
      exact hh
    · simp at h

theorem get_cases (t : List UInt8) : (get t).2 = 0 ∨ ((get t).1 = [] ∧ (get t).2 = 10) := by
  unfold get
  split
  · simp
  · split <;> simp
end Go.Proofs.YtbghemndcndhpaaDoor
