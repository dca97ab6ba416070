/- Plain facts on quotes: a quote has no stray, and no rune in it but such as show themselves. No program, no world. -/
import Derived.Test.YtajheohdhiojcaaQuoteMath
namespace Go.Proofs.Ytajheohdhiojcaa

/-- A rune that may stand in a quote. -/
def okr (r : Nat) : Prop := (32 ≤ r ∧ r ≤ 126) ∨ 160 ≤ r

/-- Bytes that, whatever is behind them, are those of one rune that may stand in a quote. -/
def Okx (x : List UInt8) : Prop := x ≠ [] ∧ ∀ t, sz (x ++ t) ≠ 0 ∧ (dec (x ++ t)).2 = x.length ∧ okr (dec (x ++ t)).1

inductive Fine : List UInt8 → Prop
  | nil : Fine []
  | cons (x rest : List UInt8) : Okx x → Fine rest → Fine (x ++ rest)

theorem Fine.append {a b : List UInt8} (ha : Fine a) (hb : Fine b) : Fine (a ++ b) := by
  induction ha with
  | nil => simpa using hb
  | cons x rest hx _ ih => rw [List.append_assoc]; exact Fine.cons x _ hx ih

theorem okx_byte {b : UInt8} (h0 : 32 ≤ b.toNat) (h1 : b.toNat ≤ 126) : Okx [b] := by
  refine ⟨by simp, fun t => ?_⟩
  have g0 : gb ([b] ++ t) 0 = b.toNat := by unfold gb; simp
  have hs : sz ([b] ++ t) = 1 := by unfold sz; rw [g0, if_pos (by omega)]
  have hd := ((dec_sz ([b] ++ t) (by simp)).2.1 hs).2
  rw [hs, hd, g0]
  exact ⟨by omega, rfl, Or.inl ⟨h0, h1⟩⟩

theorem fine_bytes : ∀ l : List UInt8, (∀ b ∈ l, 32 ≤ b.toNat ∧ b.toNat ≤ 126) → Fine l
  | [], _ => Fine.nil
  | b :: l, h => by
    have hb := h b (by simp)
    exact Fine.cons [b] l (okx_byte hb.1 hb.2) (fine_bytes l fun c hc => h c (by simp [hc]))

theorem hexd_fin : ∀ n : Fin 16, 32 ≤ (hexd n.val).toNat ∧ (hexd n.val).toNat ≤ 126 := by decide +kernel
theorem hexd_ok (n : Nat) (h : n < 16) : 32 ≤ (hexd n).toNat ∧ (hexd n).toNat ≤ 126 := hexd_fin ⟨n, h⟩

theorem u8n (n : Nat) (h : n < 256) : (n.toUInt8).toNat = n := by simp; omega

/-- The bytes of a rune at a list's head are those of the same rune, whatever is behind them. -/
theorem dec_front (l t : List UInt8) (h : l ≠ []) (hs : sz l ≠ 0) : sz (l.take (dec l).2 ++ t) ≠ 0 ∧ dec (l.take (dec l).2 ++ t) = dec l := by
  obtain ⟨z0, z1, z2, z3, z4, zle⟩ := dec_sz l h
  have hp := sz_pos1 h
  have hw := width_sz l h
  have b0 := u8n _ (gb_lt l 0)
  have b1 := u8n _ (gb_lt l 1)
  have b2 := u8n _ (gb_lt l 2)
  have b3 := u8n _ (gb_lt l 3)
  have hc : sz l = 1 ∨ sz l = 2 ∨ sz l = 3 ∨ sz l = 4 := by omega
  rw [hw]
  rcases hc with c | c | c | c
  · obtain ⟨a, e⟩ := z1 c
    rw [e, c]
    show sz (l.take 1 ++ t) ≠ 0 ∧ dec (l.take 1 ++ t) = _
    rw [take1 hp]
    have g0 : gb ([(gb l 0).toUInt8] ++ t) 0 = gb l 0 := b0
    have hz : sz ([(gb l 0).toUInt8] ++ t) = 1 := by unfold sz; rw [g0, if_pos a]
    have hd := ((dec_sz ([(gb l 0).toUInt8] ++ t) (by simp)).2.1 hz).2
    rw [hd, g0, hz]
    exact ⟨by omega, rfl⟩
  · obtain ⟨hl, a1, a2, a3, a4, e⟩ := z2 c
    rw [e, c]
    show sz (l.take 2 ++ t) ≠ 0 ∧ dec (l.take 2 ++ t) = _
    rw [take2 hl]
    have g0 : gb ([(gb l 0).toUInt8, (gb l 1).toUInt8] ++ t) 0 = gb l 0 := b0
    have g1 : gb ([(gb l 0).toUInt8, (gb l 1).toUInt8] ++ t) 1 = gb l 1 := b1
    have hz : sz ([(gb l 0).toUInt8, (gb l 1).toUInt8] ++ t) = 2 := by
      unfold sz wi; rw [g0, g1, if_neg (by omega), if_pos ⟨a1, a2⟩, if_pos (by simp; omega)]
    have hd := ((dec_sz ([(gb l 0).toUInt8, (gb l 1).toUInt8] ++ t) (by simp)).2.2.1 hz).2.2.2.2.2
    rw [hd, g0, g1, hz]
    exact ⟨by omega, rfl⟩
  · obtain ⟨hl, a1, a2, a3, a4, a5, a6, a7, a8, e⟩ := z3 c
    rw [e, c]
    show sz (l.take 3 ++ t) ≠ 0 ∧ dec (l.take 3 ++ t) = _
    rw [take3 hl]
    have g0 : gb ([(gb l 0).toUInt8, (gb l 1).toUInt8, (gb l 2).toUInt8] ++ t) 0 = gb l 0 := b0
    have g1 : gb ([(gb l 0).toUInt8, (gb l 1).toUInt8, (gb l 2).toUInt8] ++ t) 1 = gb l 1 := b1
    have g2 : gb ([(gb l 0).toUInt8, (gb l 1).toUInt8, (gb l 2).toUInt8] ++ t) 2 = gb l 2 := b2
    have hz : sz ([(gb l 0).toUInt8, (gb l 1).toUInt8, (gb l 2).toUInt8] ++ t) = 3 := by
      unfold sz wi; rw [g0, g1, g2, if_neg (by omega), if_neg (by omega), if_pos ⟨a1, a2⟩, if_pos (by simp; split <;> split <;> omega)]
    have hd := ((dec_sz ([(gb l 0).toUInt8, (gb l 1).toUInt8, (gb l 2).toUInt8] ++ t) (by simp)).2.2.2.1 hz).2.2.2.2.2.2.2.2.2
    rw [hd, g0, g1, g2, hz]
    exact ⟨by omega, rfl⟩
  · obtain ⟨hl, a1, a2, a3, a4, a5, a6, a7, a8, a9, a10, e⟩ := z4 c
    rw [e, c]
    show sz (l.take 4 ++ t) ≠ 0 ∧ dec (l.take 4 ++ t) = _
    rw [take4 hl]
    have g0 : gb ([(gb l 0).toUInt8, (gb l 1).toUInt8, (gb l 2).toUInt8, (gb l 3).toUInt8] ++ t) 0 = gb l 0 := b0
    have g1 : gb ([(gb l 0).toUInt8, (gb l 1).toUInt8, (gb l 2).toUInt8, (gb l 3).toUInt8] ++ t) 1 = gb l 1 := b1
    have g2 : gb ([(gb l 0).toUInt8, (gb l 1).toUInt8, (gb l 2).toUInt8, (gb l 3).toUInt8] ++ t) 2 = gb l 2 := b2
    have g3 : gb ([(gb l 0).toUInt8, (gb l 1).toUInt8, (gb l 2).toUInt8, (gb l 3).toUInt8] ++ t) 3 = gb l 3 := b3
    have hz : sz ([(gb l 0).toUInt8, (gb l 1).toUInt8, (gb l 2).toUInt8, (gb l 3).toUInt8] ++ t) = 4 := by
      unfold sz wi; rw [g0, g1, g2, g3, if_neg (by omega), if_neg (by omega), if_neg (by omega), if_pos ⟨a1, a2⟩, if_pos (by simp; split <;> split <;> omega)]
    have hd := ((dec_sz ([(gb l 0).toUInt8, (gb l 1).toUInt8, (gb l 2).toUInt8, (gb l 3).toUInt8] ++ t) (by simp)).2.2.2.2.1 hz).2.2.2.2.2.2.2.2.2.2.2
    rw [hd, g0, g1, g2, g3, hz]
    exact ⟨by omega, rfl⟩

theorem fine_q (l : List UInt8) (h : l ≠ []) : Fine (q l) := by
  have hb := gb_lt l 0
  have hst := stray_sz l h
  have hw := width_le l h
  unfold q
  by_cases c0 : sz l = 0
  · rw [hst, if_pos (by simpa using c0)]
    refine fine_bytes _ fun b hb => ?_
    have h1 := hexd_ok (gb l 0 / 16) (by omega)
    have h2 := hexd_ok (gb l 0 % 16) (by omega)
    simp only [List.mem_cons, List.not_mem_nil, or_false] at hb
    rcases hb with rfl | rfl | rfl | rfl
    · decide
    · decide
    · exact h1
    · exact h2
  have henc := enc_dec l h c0
  rw [hst, if_neg (by simpa using c0)]
  by_cases d1 : (dec l).1 = 34 ∨ (dec l).1 = 92
  · rw [if_pos d1]
    refine fine_bytes _ fun b hb => ?_
    simp only [List.mem_cons, List.not_mem_nil, or_false] at hb
    rcases hb with rfl | rfl
    · decide
    · rcases d1 with d1 | d1 <;> rw [d1] <;> decide
  rw [if_neg d1]
  by_cases d2 : shows (dec l).1 = true
  · rw [if_pos d2, henc]
    have hx : Okx (l.take (dec l).2) := by
      refine ⟨fun e => ?_, fun t => ?_⟩
      · have := congrArg List.length e
        rw [List.length_take, List.length_nil] at this
        omega
      · obtain ⟨e1, e2⟩ := dec_front l t h c0
        rw [e2]
        refine ⟨e1, ?_, ?_⟩
        · rw [List.length_take]; omega
        · unfold shows at d2; unfold okr; simp at d2; omega
    have := Fine.cons _ [] hx Fine.nil
    simpa using this
  rw [if_neg d2]
  have hm : ∀ n, 32 ≤ (hexd (n % 16)).toNat ∧ (hexd (n % 16)).toNat ≤ 126 := fun n => hexd_ok (n % 16) (Nat.mod_lt _ (by decide))
  by_cases d4 : (dec l).1 < 128
  · rw [if_pos d4]
    refine fine_bytes _ fun b hb => ?_
    simp only [List.mem_cons, List.not_mem_nil, or_false] at hb
    rcases hb with rfl | rfl | rfl | rfl
    · decide
    · decide
    · exact hm _
    · exact hm _
  · rw [if_neg d4]
    refine fine_bytes _ fun b hb => ?_
    simp only [List.mem_cons, List.not_mem_nil, or_false] at hb
    rcases hb with rfl | rfl | rfl | rfl | rfl | rfl
    · decide
    · decide
    · exact hm _
    · exact hm _
    · exact hm _
    · exact hm _

theorem fine_qs (l : List UInt8) : Fine (qs l) := by
  by_cases h : l = []
  · subst h; rw [qs_nil]; exact Fine.nil
  · rw [qs_cons h]; exact (fine_q l h).append (fine_qs (l.drop (dec l).2))
termination_by l.length
decreasing_by exact drop_lt l h

theorem fine_put (l : List UInt8) : Fine (put l) := by
  have h34 : Fine [34] := fine_bytes _ fun b hb => by simp at hb; subst hb; decide
  exact Fine.append (a := 34 :: qs l) (Fine.append (a := [34]) h34 (fine_qs l)) h34

/-- At the head of what is fine: a rune that shows itself, no stray, and what is behind it is fine. -/
theorem Fine.head {l : List UInt8} (hf : Fine l) (h : l ≠ []) : okr (dec l).1 ∧ stray l = false ∧ Fine (l.drop (dec l).2) := by
  cases hf with
  | nil => exact absurd rfl h
  | cons x rest hx hr =>
    obtain ⟨e1, e2, e3⟩ := hx.2 rest
    refine ⟨e3, ?_, ?_⟩
    · rw [stray_sz _ h]; simpa using e1
    · rw [e2]; simpa using hr

theorem Fine.noStray {l : List UInt8} (hf : Fine l) : (pcs l).filter (·.2) = [] := by
  by_cases h : l = []
  · subst h; rw [pcs_nil]; rfl
  · obtain ⟨_, h2, h3⟩ := hf.head h
    rw [pcs_cons h, List.filter_cons, if_neg (by simp [h2])]
    exact h3.noStray
termination_by l.length
decreasing_by exact drop_lt l h
end Go.Proofs.Ytajheohdhiojcaa
