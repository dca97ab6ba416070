/- Plain facts for the laws OpWrites and OpReads: what is written of a sound operation is read as it, made plain. No walk. -/
import Derived.Test.YtmkglaghnjnooaaDoorOpReadF
import Derived.Test.YtmkglaghnjnooaaDoorOpBytes
namespace Go.Proofs.YtmkglaghnjnooaaDoor
open Go.RowKit

/-- An operation with what it uses alone. -/
def OpV.plain (x : OpV) : OpV := ⟨if usI x.k = true then x.k else 0, if usK x.k = true then x.key else ⟨#[]⟩, if usT x.k = true then x.tx else ⟨#[]⟩, if usV x.k = true then x.v else 0, if usT x.k = true then x.lim else 0⟩
theorem OpV.plain_arr (x : OpV) : x.plain.arr = opPlainV x.k x.key x.tx x.v x.lim := by
  unfold OpV.plain OpV.arr opPlainV
  simp only
  by_cases h : usV x.k = true
  · rw [if_pos h, if_pos h]
  · rw [if_neg h, if_neg h]; rfl
theorem OpV.plain_sound (x : OpV) (h : x.sound = true) : x.plain.sound = true := by
  have hi : usI x.k = true := by
    unfold OpV.sound at h
    have h1 := opSound_kind h
    unfold usI
    rw [decide_eq_true_iff]
    exact h1
  have hkt : usT x.k = true → usK x.k = true := fun h2 => by
    unfold usT at h2
    unfold usK
    rw [decide_eq_true_iff] at h2 ⊢
    omega
  unfold OpV.sound OpV.plain opSoundB at *
  simp only [hi, if_true] at h ⊢
  cases hk : usK x.k
  · cases ht : usT x.k
    · simp
    · exact absurd (hkt ht) (by rw [hk]; exact Bool.noConfusion)
  · cases ht : usT x.k
    · simp only [hk, ht] at h ⊢
      simp at h ⊢
      exact h
    · simp only [hk, ht] at h ⊢
      exact h

theorem eN_uv (m y : Nat) (r : List UInt8) (hm : y ≤ m) (hy : y < 18446744073709551616) : eN m (Lib.uvarint y ++ r, 0) = (y, (r, 0)) := by
  unfold eN
  simp only [if_true]
  rw [rnum_uvarint m y r hy hm]
theorem eT_txt (s : ByteArray) (r : List UInt8) (hs : s.size ≤ 64) : eT 64 (txtL s ++ r, 0) = (s, (r, 0)) := by
  unfold eT txtL
  simp only [if_true]
  rw [List.append_assoc, rnum_uvarint _ s.size _ (by omega) (by omega)]
  have hl : s.data.toList.length = s.size := by simp
  simp only [if_true]
  rw [if_neg (by omega), if_neg (by simp only [List.length_append]; omega)]
  have e1 : (s.data.toList ++ r).take s.size = s.data.toList := by rw [← hl]; simp
  have e2 : (s.data.toList ++ r).drop s.size = r := by rw [← hl]; simp
  rw [e1, e2]

theorem parse_back (x : OpV) (hs : x.sound = true) (hv : x.v < 18446744073709551616) (rest : List UInt8) : parseF (x.bytes ++ rest, 0) = (x.plain, (rest, 0)) := by
  obtain ⟨k, key, tx, v, lim⟩ := x
  have hs' : opSoundB k key tx lim = true := hs
  obtain ⟨⟨hk1, hk2⟩, hky, htx⟩ := opSound_parts hs'
  simp only at hv
  obtain ⟨n, rfl⟩ : ∃ n : Nat, k = n := ⟨k.toNat, by omega⟩
  have hi : usI (n : Int) = true := by unfold usI; rw [decide_eq_true_iff]; omega
  have hb : (⟨(n : Int), key, tx, v, lim⟩ : OpV).bytes = opBytesU (usK (n : Int)) (usT (n : Int)) (usV (n : Int)) (n : Int) key tx v lim := by
    unfold OpV.bytes opBytes
    rw [if_pos hs']
  rw [hb]
  unfold opBytesU OpV.plain parseF
  rw [Int.toNat_natCast, List.append_assoc, eN_uv 10 n _ (by omega) (by omega)]
  simp only [hi, if_true]
  unfold parseU
  cases hbk : usK (n : Int) <;> cases hbt : usT (n : Int) <;> cases hbv : usV (n : Int)
  all_goals
    simp only [if_true, if_false, Bool.false_eq_true, List.nil_append, List.append_nil, List.append_assoc]
  all_goals
    (first | (have h1 := (hky hbk).2) | skip)
    (first | (have h5 := htx hbt; obtain ⟨⟨_, h2⟩, h3, h4⟩ := h5; obtain ⟨m, rfl⟩ : ∃ m : Nat, lim = m := ⟨lim.toNat, by omega⟩) | skip)
    (try simp only [Int.toNat_natCast])
  · rfl
  · rw [eN_uv _ v _ (by omega) hv]; rfl
  · rw [eT_txt tx _ h2]
    simp only
    rw [eN_uv 4096 m _ (by omega) (by omega)]
  · rw [eT_txt tx _ h2]
    simp only
    rw [eN_uv _ v _ (by omega) hv]
    simp only
    rw [eN_uv 4096 m _ (by omega) (by omega)]
  · rw [eT_txt key _ h1]; rfl
  · rw [eT_txt key _ h1]
    simp only
    rw [eN_uv _ v _ (by omega) hv]; rfl
  · rw [eT_txt key _ h1]
    simp only
    rw [eT_txt tx _ h2]
    simp only
    rw [eN_uv 4096 m _ (by omega) (by omega)]
  · rw [eT_txt key _ h1]
    simp only
    rw [eT_txt tx _ h2]
    simp only
    rw [eN_uv _ v _ (by omega) hv]
    simp only
    rw [eN_uv 4096 m _ (by omega) (by omega)]

theorem parse_zero (rest : List UInt8) : parseF (Lib.uvarint 0 ++ rest, 0) = (opZ, (rest, 0)) := by
  unfold parseF
  rw [eN_uv 10 0 _ (by omega) (by omega)]
  rfl

theorem read_sound (x : OpV) (hs : x.sound = true) (hv : x.v < 18446744073709551616) (rest : List UInt8) : readF (x.bytes ++ rest, 0) = ((x.plain, true), (rest, 0)) := by
  unfold readF judged
  rw [parse_back x hs hv rest]
  simp only [x.plain_sound hs, if_true]
theorem read_unsound (x : OpV) (hs : x.sound = false) (rest : List UInt8) : readF (x.bytes ++ rest, 0) = ((opZ, false), ([], 10)) := by
  have hb : x.bytes = Lib.uvarint 0 := by
    unfold OpV.bytes opBytes
    unfold OpV.sound at hs
    rw [hs]
    rfl
  rw [hb]
  unfold readF judged
  rw [parse_zero]
  simp only [show opZ.sound = false by kernel_rfl, Bool.false_eq_true, if_false, if_true]
  rfl

/-- The bytes of the operations from i on, up to n. -/
def opsR (X : Nat → OpV) (n i : Nat) : List UInt8 := ((List.range n).drop i).flatMap fun i => (X i).bytes
theorem opsR_zero (X : Nat → OpV) (n : Nat) : opsR X n 0 = opsB X n := by unfold opsR opsB; rfl
theorem opsR_end (X : Nat → OpV) (n i : Nat) (h : n ≤ i) : opsR X n i = [] := by
  unfold opsR
  rw [List.drop_eq_nil_of_le (by simpa using h)]
  rfl
theorem opsR_step (X : Nat → OpV) (n i : Nat) (h : i < n) : opsR X n i = (X i).bytes ++ opsR X n (i + 1) := by
  unfold opsR
  rw [List.drop_eq_getElem_cons (by simpa using h), List.flatMap_cons]
  simp
end Go.Proofs.YtmkglaghnjnooaaDoor
