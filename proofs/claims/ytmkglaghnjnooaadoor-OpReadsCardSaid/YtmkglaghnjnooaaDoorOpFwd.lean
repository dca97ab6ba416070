/- Plain facts for the law OpReads: what is read of bytes has just these bytes. No walk. -/
import Derived.Test.YtmkglaghnjnooaaDoorOpBack
namespace Go.Proofs.YtmkglaghnjnooaaDoor
open Go.RowKit

theorem eN_ok (m : Nat) (s : ES) (h : (eN m s).2.2 = 0) : s.2 = 0 := by
  unfold eN at h
  by_cases hf : s.2 = 0
  · exact hf
  · rw [if_neg hf] at h; exact h
theorem eT_ok (m : Nat) (s : ES) (h : (eT m s).2.2 = 0) : s.2 = 0 := by
  unfold eT at h
  by_cases hf : s.2 = 0
  · exact hf
  · rw [if_neg hf] at h; exact h
theorem eN_fwd {m : Nat} {s : ES} {y : Nat} {r : List UInt8} (h : eN m s = (y, (r, 0))) : s = (Lib.uvarint y ++ r, 0) ∧ y < 18446744073709551616 := by
  have hs := eN_ok m s (by rw [h])
  obtain ⟨bs, f⟩ := s
  simp only at hs
  subst hs
  unfold eN at h
  simp only [if_true, Prod.mk.injEq] at h
  have hb := rnum_back m y bs r (by rw [← h.1, ← h.2.1, ← h.2.2])
  exact ⟨by rw [hb.1], hb.2.1⟩
theorem eT_fwd {m : Nat} {s : ES} {t : ByteArray} {r : List UInt8} (h : eT m s = (t, (r, 0))) : s = (txtL t ++ r, 0) := by
  have hs := eT_ok m s (by rw [h])
  obtain ⟨bs, f⟩ := s
  simp only at hs
  subst hs
  unfold eT at h
  simp only [if_true] at h
  rcases hq : rnum 18446744073709551615 bs with ⟨n, f, q⟩
  rw [hq] at h
  simp only at h
  by_cases h0 : f = 0
  · subst h0
    have hb := rnum_back _ n bs q hq
    rw [if_pos rfl] at h
    by_cases h1 : m < n
    · rw [if_pos h1] at h; simp at h
    · rw [if_neg h1] at h
      by_cases h2 : q.length < n
      · rw [if_pos h2] at h; simp at h
      · rw [if_neg h2] at h
        simp only [Prod.mk.injEq] at h
        obtain ⟨h3, h4, _⟩ := h
        subst h3
        subst h4
        unfold txtL
        have hl : (q.take n).length = n := by rw [List.length_take]; omega
        rw [show (⟨(q.take n).toArray⟩ : ByteArray).size = n by simp [ByteArray.size]; omega, show (⟨(q.take n).toArray⟩ : ByteArray).data.toList = q.take n by simp, List.append_assoc, List.take_append_drop, hb.1]
  · rw [if_neg h0] at h
    simp only [Prod.mk.injEq] at h
    exact absurd h.2.2 h0

theorem parse_fwd (s : ES) (rest : List UInt8) (hr : (parseF s).2 = (rest, 0)) (hs : (parseF s).1.sound = true) : s = ((parseF s).1.bytes ++ rest, 0) ∧ (parseF s).1.v < 18446744073709551616 := by
  have hv : (parseF s).1.v < 18446744073709551616 := by have := (parseF_fit s).2.2; omega
  refine ⟨?_, hv⟩
  have hb : (parseF s).1.bytes = opBytesU (usK (parseF s).1.k) (usT (parseF s).1.k) (usV (parseF s).1.k) (parseF s).1.k (parseF s).1.key (parseF s).1.tx (parseF s).1.v (parseF s).1.lim := by
    unfold OpV.bytes opBytes
    unfold OpV.sound at hs
    rw [if_pos hs]
  rw [hb]
  clear hb hv hs
  unfold parseF at *
  rcases hq : eN 10 s with ⟨n, s1⟩
  rw [hq] at hr
  simp only at hr ⊢
  have hk : (parseU (usK (n : Int)) (usT (n : Int)) (usV (n : Int)) n s1).1.k = n := rfl
  rw [hk]
  have key : ∀ bk bt bv : Bool, (parseU bk bt bv n s1).2 = (rest, 0) → s1 = (((if bk = true then txtL (parseU bk bt bv n s1).1.key else []) ++ ((if bt = true then txtL (parseU bk bt bv n s1).1.tx else []) ++ ((if bv = true then Lib.uvarint (parseU bk bt bv n s1).1.v else []) ++ (if bt = true then Lib.uvarint (parseU bk bt bv n s1).1.lim.toNat else [])))) ++ rest, 0) := by
    intro bk bt bv h
    unfold parseU at h ⊢
    rcases h1 : (if bk = true then eT 64 s1 else (⟨#[]⟩, s1)) with ⟨t1, q1⟩
    rcases h2 : (if bt = true then eT 64 q1 else (⟨#[]⟩, q1)) with ⟨t2, q2⟩
    rcases h3 : (if bv = true then eN 18446744073709551615 q2 else (0, q2)) with ⟨n3, q3⟩
    rcases h4 : (if bt = true then eN 4096 q3 else (0, q3)) with ⟨n4, q4⟩
    simp only [h1, h2, h3, h4] at h ⊢
    subst h
    have e3 : q3 = ((if bt = true then Lib.uvarint ((n4 : Int)).toNat else []) ++ rest, 0) := by
      cases bt
      · simp at h4
        simp [h4.2]
      · rw [if_pos rfl] at h4
        rw [if_pos rfl, Int.toNat_natCast]
        exact (eN_fwd h4).1
    subst e3
    have e2 : q2 = ((if bv = true then Lib.uvarint n3 else []) ++ ((if bt = true then Lib.uvarint ((n4 : Int)).toNat else []) ++ rest), 0) := by
      cases bv
      · simp at h3
        simp [h3.2]
      · rw [if_pos rfl] at h3
        rw [if_pos rfl]
        exact (eN_fwd h3).1
    subst e2
    have e1 : q1 = ((if bt = true then txtL t2 else []) ++ ((if bv = true then Lib.uvarint n3 else []) ++ ((if bt = true then Lib.uvarint ((n4 : Int)).toNat else []) ++ rest)), 0) := by
      cases bt
      · simp at h2
        simp [h2.2]
      · rw [if_pos rfl] at h2
        rw [if_pos rfl]
        exact eT_fwd h2
    subst e1
    have e0 : s1 = ((if bk = true then txtL t1 else []) ++ ((if bt = true then txtL t2 else []) ++ ((if bv = true then Lib.uvarint n3 else []) ++ ((if bt = true then Lib.uvarint ((n4 : Int)).toNat else []) ++ rest))), 0) := by
      cases bk
      · simp at h1
        simp [h1.2]
      · rw [if_pos rfl] at h1
        rw [if_pos rfl]
        exact eT_fwd h1
    rw [e0]
    simp only [List.append_assoc]
  have e := key _ _ _ hr
  have hs0 : s1.2 = 0 := by rw [e]
  obtain ⟨l1, f1⟩ := s1
  simp only at hs0
  subst hs0
  have hN := (eN_fwd hq).1
  unfold opBytesU
  rw [hN, Int.toNat_natCast, List.append_assoc]
  have e' := congrArg Prod.fst e
  simp only at e'
  rw [← e']

/-- What Read tells, if it tells an operation. -/
theorem read_fwd (s : ES) (h : (readF s).1.2 = true) : (readF s).2.2 = 0 ∧ s = ((readF s).1.1.bytes ++ (readF s).2.1, 0) ∧ (readF s).1.1.v < 18446744073709551616 ∧ (readF s).1.1.key.size ≤ 64 ∧ (readF s).1.1.tx.size ≤ 64 := by
  unfold readF at *
  by_cases hj : (judged (parseF s).1 (parseF s).2).2 = 0
  · rw [if_pos hj] at h ⊢
    simp only at h ⊢
    have hs : (parseF s).1.sound = true := by
      cases hsd : (parseF s).1.sound with
      | true => rfl
      | false =>
        unfold judged at hj
        rw [hsd] at hj
        simp only [Bool.false_eq_true, if_false] at hj
        split at hj
        · exact absurd hj (by decide)
        · rename_i h2; exact absurd hj h2
    have hjj : judged (parseF s).1 (parseF s).2 = (parseF s).2 := by unfold judged; rw [if_pos hs]
    rw [hjj] at hj ⊢
    have hf := parse_fwd s (parseF s).2.1 (by rw [← hj]) hs
    exact ⟨hj, hf.1, hf.2, (parseF_fit s).1, (parseF_fit s).2.1⟩
  · rw [if_neg hj] at h
    simp at h
end Go.Proofs.YtmkglaghnjnooaaDoor
