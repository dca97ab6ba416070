/- Plain facts on UTF-8, over lists of bytes: what the model's own decoding tells at the head of a list, how many bytes the document's rule gives a rune there, and that the two agree. No program, no world. -/
import Derived.Laws.RangeAny
import Derived.Lib.RuneBytes
import Derived.Lib.Strings
namespace Go.Proofs.YtbghemndcndhpaaDoor

/-- A list's byte at k, as a number. -/
def gb (l : List UInt8) (k : Nat) : Nat := (l[k]?.getD 0).toNat

theorem gb_lt (l : List UInt8) (k : Nat) : gb l k < 256 := (l[k]?.getD 0).toNat_lt

/-- The rune at the head of a list, and its width: as the model has it. -/
def dec (l : List UInt8) : Nat × Nat :=
  let cont (k : Nat) : Bool := decide (k < l.length) && gb l k / 64 == 2
  let b0 := gb l 0
  if b0 < 128 then (b0, 1)
  else if b0 / 32 == 6 && cont 1 then
    let c := (b0 % 32) * 64 + gb l 1 % 64
    if c ≥ 128 then (c, 2) else (65533, 1)
  else if b0 / 16 == 14 && cont 1 && cont 2 then
    let c := (b0 % 16) * 4096 + (gb l 1 % 64) * 64 + gb l 2 % 64
    if c ≥ 2048 && Utf8.valid c then (c, 3) else (65533, 1)
  else if b0 / 8 == 30 && cont 1 && cont 2 && cont 3 then
    let c := (b0 % 8) * 262144 + (gb l 1 % 64) * 4096 + (gb l 2 % 64) * 64 + gb l 3 % 64
    if c ≥ 65536 && Utf8.valid c then (c, 4) else (65533, 1)
  else (65533, 1)

theorem get_gb (s : ByteArray) (i k : Nat) : (s.get! (i + k)).toNat = gb (s.data.toList.drop i) k := by
  unfold gb
  rw [List.getElem?_drop]
  show (s.data[i + k]!).toNat = _
  by_cases h : i + k < s.data.size
  · rw [getElem!_pos s.data (i + k) h, List.getElem?_eq_getElem (by simpa using h)]
    rfl
  · rw [getElem!_neg s.data (i + k) h, List.getElem?_eq_none (by simpa using h)]
    rfl

theorem dec_eq (s : ByteArray) (i : Nat) : Utf8.decode s i = dec (s.data.toList.drop i) := by
  have hl : ∀ k, decide (i + k < s.size) = decide (k < (s.data.toList.drop i).length) := by
    intro k
    have : (s.data.toList.drop i).length = s.size - i := by simp
    rw [this]
    congr 1
    apply propext
    constructor <;> intro h <;> omega
  simp only [Utf8.decode, dec, get_gb, hl, Utf8.runeError]

/-- Is the byte at k there, from f to t? -/
def wi (l : List UInt8) (k f t : Nat) : Bool := decide (k < l.length) && decide (f ≤ gb l k) && decide (gb l k ≤ t)

/-- How many bytes the rune at the head has by the document's rule; 0: none begins there. -/
def sz (l : List UInt8) : Nat :=
  let b := gb l 0
  if b < 128 then 1
  else if 194 ≤ b ∧ b ≤ 223 then (if wi l 1 128 191 then 2 else 0)
  else if 224 ≤ b ∧ b ≤ 239 then (if wi l 1 (if b = 224 then 160 else 128) (if b = 237 then 159 else 191) && wi l 2 128 191 then 3 else 0)
  else if 240 ≤ b ∧ b ≤ 244 then (if wi l 1 (if b = 240 then 144 else 128) (if b = 244 then 143 else 191) && wi l 2 128 191 && wi l 3 128 191 then 4 else 0)
  else 0

theorem valid_iff (c : Nat) : Utf8.valid (c : Int) = true ↔ c < 55296 ∨ (57344 ≤ c ∧ c ≤ 1114111) := by
  unfold Utf8.valid
  simp only [Bool.or_eq_true, Bool.and_eq_true, decide_eq_true_eq]
  omega

/-- What decoding tells, by the document's rule. -/
theorem dec_sz (l : List UInt8) (_h : l ≠ []) :
    (sz l = 0 → dec l = (65533, 1)) ∧
    (sz l = 1 → gb l 0 < 128 ∧ dec l = (gb l 0, 1)) ∧
    (sz l = 2 → 1 < l.length ∧ 194 ≤ gb l 0 ∧ gb l 0 ≤ 223 ∧ 128 ≤ gb l 1 ∧ gb l 1 ≤ 191 ∧ dec l = (gb l 0 % 32 * 64 + gb l 1 % 64, 2)) ∧
    (sz l = 3 → 2 < l.length ∧ 224 ≤ gb l 0 ∧ gb l 0 ≤ 239 ∧ 128 ≤ gb l 1 ∧ gb l 1 ≤ 191 ∧ 128 ≤ gb l 2 ∧ gb l 2 ≤ 191 ∧ (gb l 0 = 224 → 160 ≤ gb l 1) ∧ (gb l 0 = 237 → gb l 1 ≤ 159) ∧ dec l = (gb l 0 % 16 * 4096 + gb l 1 % 64 * 64 + gb l 2 % 64, 3)) ∧
    (sz l = 4 → 3 < l.length ∧ 240 ≤ gb l 0 ∧ gb l 0 ≤ 244 ∧ 128 ≤ gb l 1 ∧ gb l 1 ≤ 191 ∧ 128 ≤ gb l 2 ∧ gb l 2 ≤ 191 ∧ 128 ≤ gb l 3 ∧ gb l 3 ≤ 191 ∧ (gb l 0 = 240 → 144 ≤ gb l 1) ∧ (gb l 0 = 244 → gb l 1 ≤ 143) ∧ dec l = (gb l 0 % 8 * 262144 + gb l 1 % 64 * 4096 + gb l 2 % 64 * 64 + gb l 3 % 64, 4)) ∧ sz l ≤ 4 := by
  have h0 := gb_lt l 0
  have h1 := gb_lt l 1
  have h2 := gb_lt l 2
  have h3 := gb_lt l 3
  unfold sz dec wi
  simp only [Bool.and_eq_true, decide_eq_true_eq, beq_iff_eq, valid_iff]
  generalize gb l 0 = b0 at *
  generalize gb l 1 = b1 at *
  generalize gb l 2 = b2 at *
  generalize gb l 3 = b3 at *
  generalize l.length = n at *
  by_cases c0 : b0 < 128
  · simp [c0]
  by_cases c1 : 194 ≤ b0 ∧ b0 ≤ 223
  · by_cases d : (1 < n ∧ 128 ≤ b1) ∧ b1 ≤ 191
    · have e1 : b0 / 32 = 6 ∧ 1 < n ∧ b1 / 64 = 2 := by omega
      have e2 : b0 % 32 * 64 + b1 % 64 ≥ 128 := by omega
      simp only [c0, c1, d, e1, e2, if_true, if_false, and_self]
      simp
    · have e1 : ¬ (b0 / 32 = 6 ∧ 1 < n ∧ b1 / 64 = 2) := by omega
      have e3 : ¬ ((b0 / 16 = 14 ∧ 1 < n ∧ b1 / 64 = 2) ∧ 2 < n ∧ b2 / 64 = 2) := by omega
      have e4 : ¬ (((b0 / 8 = 30 ∧ 1 < n ∧ b1 / 64 = 2) ∧ 2 < n ∧ b2 / 64 = 2) ∧ 3 < n ∧ b3 / 64 = 2) := by omega
      simp only [c0, c1, d, e1, e3, e4, if_true, if_false, and_self]
      simp
  by_cases c2 : 224 ≤ b0 ∧ b0 ≤ 239
  · have e1 : ¬ (b0 / 32 = 6 ∧ 1 < n ∧ b1 / 64 = 2) := by omega
    by_cases d : ((1 < n ∧ (if b0 = 224 then 160 else 128) ≤ b1) ∧ b1 ≤ (if b0 = 237 then 159 else 191)) ∧ (2 < n ∧ 128 ≤ b2) ∧ b2 ≤ 191
    · have d' := d
      have e3 : (b0 / 16 = 14 ∧ 1 < n ∧ b1 / 64 = 2) ∧ 2 < n ∧ b2 / 64 = 2 := by split at d' <;> split at d' <;> omega
      have e5 : b0 % 16 * 4096 + b1 % 64 * 64 + b2 % 64 ≥ 2048 ∧ (b0 % 16 * 4096 + b1 % 64 * 64 + b2 % 64 < 55296 ∨ 57344 ≤ b0 % 16 * 4096 + b1 % 64 * 64 + b2 % 64 ∧ b0 % 16 * 4096 + b1 % 64 * 64 + b2 % 64 ≤ 1114111) := by split at d' <;> split at d' <;> omega
      rw [if_neg c0, if_neg c1, if_pos c2, if_pos d, if_neg c0, if_neg e1, if_pos e3, if_pos e5]
      refine ⟨by omega, by omega, by omega, fun _ => ?_, by omega, by omega⟩
      refine ⟨by omega, by omega, by omega, by omega, by omega, by omega, by omega, fun e => ?_, fun e => ?_, rfl⟩
      · rw [if_pos e] at d'; omega
      · rw [if_pos e] at d'; omega
    · rw [if_neg c0, if_neg c1, if_pos c2, if_neg d, if_neg c0, if_neg e1]
      refine ⟨fun _ => ?_, by omega, by omega, by omega, by omega, by omega⟩
      have e4 : ¬ (((b0 / 8 = 30 ∧ 1 < n ∧ b1 / 64 = 2) ∧ 2 < n ∧ b2 / 64 = 2) ∧ 3 < n ∧ b3 / 64 = 2) := by omega
      by_cases e3 : (b0 / 16 = 14 ∧ 1 < n ∧ b1 / 64 = 2) ∧ 2 < n ∧ b2 / 64 = 2
      · rw [if_pos e3, if_neg]
        intro e5
        apply d
        split <;> split <;> omega
      · rw [if_neg e3, if_neg e4]
  by_cases c3 : 240 ≤ b0 ∧ b0 ≤ 244
  · have e1 : ¬ (b0 / 32 = 6 ∧ 1 < n ∧ b1 / 64 = 2) := by omega
    have e3 : ¬ ((b0 / 16 = 14 ∧ 1 < n ∧ b1 / 64 = 2) ∧ 2 < n ∧ b2 / 64 = 2) := by omega
    by_cases d : (((1 < n ∧ (if b0 = 240 then 144 else 128) ≤ b1) ∧ b1 ≤ (if b0 = 244 then 143 else 191)) ∧ (2 < n ∧ 128 ≤ b2) ∧ b2 ≤ 191) ∧ (3 < n ∧ 128 ≤ b3) ∧ b3 ≤ 191
    · have d' := d
      have e4 : ((b0 / 8 = 30 ∧ 1 < n ∧ b1 / 64 = 2) ∧ 2 < n ∧ b2 / 64 = 2) ∧ 3 < n ∧ b3 / 64 = 2 := by split at d' <;> split at d' <;> omega
      have e5 : b0 % 8 * 262144 + b1 % 64 * 4096 + b2 % 64 * 64 + b3 % 64 ≥ 65536 ∧ (b0 % 8 * 262144 + b1 % 64 * 4096 + b2 % 64 * 64 + b3 % 64 < 55296 ∨ 57344 ≤ b0 % 8 * 262144 + b1 % 64 * 4096 + b2 % 64 * 64 + b3 % 64 ∧ b0 % 8 * 262144 + b1 % 64 * 4096 + b2 % 64 * 64 + b3 % 64 ≤ 1114111) := by split at d' <;> split at d' <;> omega
      rw [if_neg c0, if_neg c1, if_neg c2, if_pos c3, if_pos d, if_neg c0, if_neg e1, if_neg e3, if_pos e4, if_pos e5]
      refine ⟨by omega, by omega, by omega, by omega, fun _ => ?_, by omega⟩
      refine ⟨by omega, by omega, by omega, by omega, by omega, by omega, by omega, by omega, by omega, fun e => ?_, fun e => ?_, rfl⟩
      · rw [if_pos e] at d'; omega
      · rw [if_pos e] at d'; omega
    · rw [if_neg c0, if_neg c1, if_neg c2, if_pos c3, if_neg d, if_neg c0, if_neg e1, if_neg e3]
      refine ⟨fun _ => ?_, by omega, by omega, by omega, by omega, by omega⟩
      by_cases e4 : ((b0 / 8 = 30 ∧ 1 < n ∧ b1 / 64 = 2) ∧ 2 < n ∧ b2 / 64 = 2) ∧ 3 < n ∧ b3 / 64 = 2
      · rw [if_pos e4, if_neg]
        intro e5
        apply d
        split <;> split <;> omega
      · rw [if_neg e4]
  · rw [if_neg c0, if_neg c1, if_neg c2, if_neg c3, if_neg c0]
    refine ⟨fun _ => ?_, by omega, by omega, by omega, by omega, by omega⟩
    have e3 : ¬ ((b0 / 16 = 14 ∧ 1 < n ∧ b1 / 64 = 2) ∧ 2 < n ∧ b2 / 64 = 2) := by omega
    rw [if_neg e3]
    by_cases e1 : b0 / 32 = 6 ∧ 1 < n ∧ b1 / 64 = 2
    · rw [if_pos e1, if_neg (by omega)]
    · rw [if_neg e1]
      by_cases e4 : ((b0 / 8 = 30 ∧ 1 < n ∧ b1 / 64 = 2) ∧ 2 < n ∧ b2 / 64 = 2) ∧ 3 < n ∧ b3 / 64 = 2
      · rw [if_pos e4, if_neg]
        omega
      · rw [if_neg e4]

theorem sz_pos1 {l : List UInt8} (h : l ≠ []) : 0 < l.length := List.length_pos_iff.2 h

theorem take1 {l : List UInt8} (h : 0 < l.length) : l.take 1 = [(gb l 0).toUInt8] := by
  match l, h with
  | a :: r, _ => simp [gb]
theorem take2 {l : List UInt8} (h : 1 < l.length) : l.take 2 = [(gb l 0).toUInt8, (gb l 1).toUInt8] := by
  match l, h with
  | a :: b :: r, _ => simp [gb]
theorem take3 {l : List UInt8} (h : 2 < l.length) : l.take 3 = [(gb l 0).toUInt8, (gb l 1).toUInt8, (gb l 2).toUInt8] := by
  match l, h with
  | a :: b :: c :: r, _ => simp [gb]
theorem take4 {l : List UInt8} (h : 3 < l.length) : l.take 4 = [(gb l 0).toUInt8, (gb l 1).toUInt8, (gb l 2).toUInt8, (gb l 3).toUInt8] := by
  match l, h with
  | a :: b :: c :: d :: r, _ => simp [gb]

/-- Is the head of a list a byte at which no rune begins: as the program asks it. -/
def stray (l : List UInt8) : Bool := (dec l).1 == 65533 && !Lib.hasPrefix l [239, 191, 189]

theorem prefix_gb {l : List UInt8} (h : Lib.hasPrefix l [239, 191, 189] = true) : gb l 0 = 239 ∧ gb l 1 = 191 ∧ gb l 2 = 189 ∧ 2 < l.length := by
  unfold Lib.hasPrefix at h
  rw [List.isPrefixOf_iff_prefix] at h
  obtain ⟨t, rfl⟩ := h
  refine ⟨rfl, rfl, rfl, by simp⟩

theorem gb_prefix {l : List UInt8} (h0 : gb l 0 = 239) (h1 : gb l 1 = 191) (h2 : gb l 2 = 189) (h : 2 < l.length) : Lib.hasPrefix l [239, 191, 189] = true := by
  unfold Lib.hasPrefix
  rw [List.isPrefixOf_iff_prefix]
  have e := take3 h
  rw [h0, h1, h2] at e
  exact ⟨l.drop 3, by have := List.take_append_drop 3 l; rw [e] at this; exact this⟩

theorem stray_sz (l : List UInt8) (h : l ≠ []) : stray l = decide (sz l = 0) := by
  obtain ⟨z0, z1, z2, z3, z4, zle⟩ := dec_sz l h
  have b0 := gb_lt l 0
  have b1 := gb_lt l 1
  have b2 := gb_lt l 2
  have b3 := gb_lt l 3
  unfold stray
  by_cases c0 : sz l = 0
  · rw [z0 c0]
    have : Lib.hasPrefix l [239, 191, 189] = false := by
      cases hp : Lib.hasPrefix l [239, 191, 189] with
      | false => rfl
      | true =>
        obtain ⟨e0, e1, e2, e3⟩ := prefix_gb hp
        have : sz l = 3 := by unfold sz wi; simp [e0, e1, e2]; omega
        omega
    simp [this, c0]
  · have hn : decide (sz l = 0) = false := by simpa using c0
    rw [hn]
    have hc : sz l = 1 ∨ sz l = 2 ∨ sz l = 3 ∨ sz l = 4 := by omega
    rcases hc with c | c | c | c
    · obtain ⟨_, e⟩ := z1 c; rw [e]; simp; omega
    · obtain ⟨_, _, _, _, _, e⟩ := z2 c; rw [e]; simp; omega
    · obtain ⟨hl, a1, a2, a3, a4, a5, a6, a7, a8, e⟩ := z3 c
      rw [e]
      by_cases hv : gb l 0 % 16 * 4096 + gb l 1 % 64 * 64 + gb l 2 % 64 = 65533
      · have := gb_prefix (l := l) (by omega) (by omega) (by omega) hl
        simp [this]
      · simp [hv]
    · obtain ⟨hl, a1, a2, a3, a4, a5, a6, a7, a8, a9, a10, e⟩ := z4 c; rw [e]; simp; omega

theorem width_sz (l : List UInt8) (h : l ≠ []) : (dec l).2 = max (sz l) 1 := by
  obtain ⟨z0, z1, z2, z3, z4, zle⟩ := dec_sz l h
  have hc : sz l = 0 ∨ sz l = 1 ∨ sz l = 2 ∨ sz l = 3 ∨ sz l = 4 := by omega
  rcases hc with c | c | c | c | c
  · rw [z0 c, c]; rfl
  · rw [(z1 c).2, c]; rfl
  · rw [(z2 c).2.2.2.2.2, c]; rfl
  · rw [(z3 c).2.2.2.2.2.2.2.2.2, c]; rfl
  · rw [(z4 c).2.2.2.2.2.2.2.2.2.2.2, c]; rfl

theorem width_le (l : List UInt8) (h : l ≠ []) : 1 ≤ (dec l).2 ∧ (dec l).2 ≤ l.length := by
  rw [width_sz l h]
  obtain ⟨z0, z1, z2, z3, z4, zle⟩ := dec_sz l h
  have hp := sz_pos1 h
  refine ⟨by omega, ?_⟩
  have hc : sz l = 0 ∨ sz l = 1 ∨ sz l = 2 ∨ sz l = 3 ∨ sz l = 4 := by omega
  rcases hc with c | c | c | c | c
  · omega
  · omega
  · have := (z2 c).1; omega
  · have := (z3 c).1; omega
  · have := (z4 c).1; omega

theorem dec_lt (l : List UInt8) : (dec l).1 ≤ 1114111 := by
  have b0 := gb_lt l 0
  by_cases h : l = []
  · subst h; decide
  obtain ⟨z0, z1, z2, z3, z4, zle⟩ := dec_sz l h
  have hc : sz l = 0 ∨ sz l = 1 ∨ sz l = 2 ∨ sz l = 3 ∨ sz l = 4 := by omega
  rcases hc with c | c | c | c | c
  · rw [z0 c]; decide
  · rw [(z1 c).2]; dsimp only; omega
  · rw [(z2 c).2.2.2.2.2]; dsimp only; omega
  · rw [(z3 c).2.2.2.2.2.2.2.2.2]; dsimp only; omega
  · obtain ⟨hl, a1, a2, a3, a4, a5, a6, a7, a8, a9, a10, e⟩ := z4 c; rw [e]; dsimp only; omega

theorem byte_eq {a b : Nat} (h : a = b) : a.toUInt8 = b.toUInt8 := by rw [h]

/-- A rune's bytes are those that it was decoded from. -/
theorem enc_dec (l : List UInt8) (h : l ≠ []) (hs : sz l ≠ 0) : Lib.encodeRune ((dec l).1 : Nat) = l.take (dec l).2 := by
  rw [width_sz l h]
  obtain ⟨z0, z1, z2, z3, z4, zle⟩ := dec_sz l h
  have hp := sz_pos1 h
  have hc : sz l = 1 ∨ sz l = 2 ∨ sz l = 3 ∨ sz l = 4 := by omega
  rcases hc with c | c | c | c
  · obtain ⟨a, e⟩ := z1 c
    rw [e, c]
    show Lib.encodeRune _ = l.take 1
    rw [take1 hp]
    unfold Lib.encodeRune
    rw [Lib.encodeRuneZ_one (by omega) (by dsimp only; omega)]
    simp
  · obtain ⟨hl, a1, a2, a3, a4, e⟩ := z2 c
    rw [e, c]
    show Lib.encodeRune _ = l.take 2
    rw [take2 hl]
    unfold Lib.encodeRune
    rw [Lib.encodeRuneZ_two (by dsimp only; omega) (by dsimp only; omega)]
    simp only [List.map_cons, List.map_nil]
    rw [byte_eq (show ((192 : Int) + ((gb l 0 % 32 * 64 + gb l 1 % 64 : Nat) : Int) / 64).toNat = gb l 0 by omega), byte_eq (show ((128 : Int) + ((gb l 0 % 32 * 64 + gb l 1 % 64 : Nat) : Int) % 64).toNat = gb l 1 by omega)]
  · obtain ⟨hl, a1, a2, a3, a4, a5, a6, a7, a8, e⟩ := z3 c
    rw [e, c]
    show Lib.encodeRune _ = l.take 3
    rw [take3 hl]
    unfold Lib.encodeRune
    rw [Lib.encodeRuneZ_three (by dsimp only; omega)]
    simp only [List.map_cons, List.map_nil]
    generalize hr : gb l 0 % 16 * 4096 + gb l 1 % 64 * 64 + gb l 2 % 64 = r
    rw [byte_eq (show ((224 : Int) + (r : Int) / 4096).toNat = gb l 0 by omega), byte_eq (show ((128 : Int) + (r : Int) / 64 % 64).toNat = gb l 1 by omega), byte_eq (show ((128 : Int) + (r : Int) % 64).toNat = gb l 2 by omega)]
  · obtain ⟨hl, a1, a2, a3, a4, a5, a6, a7, a8, a9, a10, e⟩ := z4 c
    rw [e, c]
    show Lib.encodeRune _ = l.take 4
    rw [take4 hl]
    unfold Lib.encodeRune
    rw [Lib.encodeRuneZ_four (by dsimp only; omega) (by dsimp only; omega)]
    simp only [List.map_cons, List.map_nil]
    generalize hr : gb l 0 % 8 * 262144 + gb l 1 % 64 * 4096 + gb l 2 % 64 * 64 + gb l 3 % 64 = r
    rw [byte_eq (show ((240 : Int) + (r : Int) / 262144).toNat = gb l 0 by omega), byte_eq (show ((128 : Int) + (r : Int) / 4096 % 64).toNat = gb l 1 by omega), byte_eq (show ((128 : Int) + (r : Int) / 64 % 64).toNat = gb l 2 by omega), byte_eq (show ((128 : Int) + (r : Int) % 64).toNat = gb l 3 by omega)]
end Go.Proofs.YtbghemndcndhpaaDoor
