/- Plain facts on pairs: what a map has of a key is what it was given last. No program, no world. -/
import Derived.Test.YtpdcmgillinooaaMapLives
namespace Go.Proofs.Ytpdcmgillinooaa
open Go.RowKit

theorem getP_put (ps : List (ByteArray × Int)) (k j : ByteArray) (z : Int) : getP (delP ps k ++ [(k, z)]) j = if j = k then (z, true) else getP ps j := by
  unfold getP delP
  rw [List.find?_append, List.find?_filter]
  by_cases h : j = k
  · subst h
    rw [if_pos rfl]
    have : ps.find? (fun a => decide (decide (a.1 ≠ j) = true ∧ decide (a.1 = j) = true)) = none := by
      rw [List.find?_eq_none]
      intro p _
      simp
    rw [this]
    simp
  · rw [if_neg h]
    have e : (fun a : ByteArray × Int => decide (decide (a.1 ≠ k) = true ∧ decide (a.1 = j) = true)) = fun a => decide (a.1 = j) := by
      funext a
      by_cases h2 : a.1 = j
      · simp [h2, h]
      · simp [h2]
    rw [e]
    have : List.find? (fun p => decide (p.1 = j)) [(k, z)] = none := by
      rw [List.find?_eq_none]
      intro p hp
      have : p = (k, z) := by simpa using hp
      rw [this]
      simpa using fun h3 : k = j => h h3.symm
    rw [this]
    simp

theorem getP_putP (ps : List (ByteArray × Int)) (p : ByteArray × Int) (j : ByteArray) : getP (putP ps p) j = if j = p.1 then (p.2, true) else getP ps j := getP_put ps p.1 j p.2

theorem getP_false {ps : List (ByteArray × Int)} {k : ByteArray} (h : (getP ps k).2 = false) : getP ps k = (0, false) := by
  unfold getP at *
  cases hf : ps.find? (fun p => decide (p.1 = k)) with
  | none => rfl
  | some p => rw [hf] at h; cases h

theorem getP_fold (ps rest : List (ByteArray × Int)) (j : ByteArray) : getP (rest.foldl putP ps) j = if (getP (rest.foldl putP []) j).2 = true then getP (rest.foldl putP []) j else getP ps j := by
  induction rest generalizing ps with
  | nil => simp [getP]
  | cons p rest ih =>
    rw [List.foldl_cons, List.foldl_cons, ih (putP ps p), ih (putP [] p), getP_putP, getP_putP]
    by_cases h1 : (getP (rest.foldl putP []) j).2 = true
    · rw [if_pos h1, if_pos h1, if_pos h1]
    · rw [if_neg h1, if_neg h1]
      by_cases h : j = p.1
      · simp [h]
      · rw [if_neg h, if_neg h]
        simp [getP]

/-- What was given last of those from a place on. -/
theorem foldP_drop {qs : List (ByteArray × Int)} {i : Nat} (hi : i < qs.length) (j : ByteArray) : getP (foldP (qs.drop i)) j = if (getP (foldP (qs.drop (i + 1))) j).2 = true then getP (foldP (qs.drop (i + 1))) j else if j = (ntp qs i).1 then ((ntp qs i).2, true) else (0, false) := by
  rw [List.drop_eq_getElem_cons hi]
  unfold foldP
  rw [List.foldl_cons, getP_fold, getP_putP, ntp_eq hi]
  rfl

/-- A map that was given its pairs from behind, each key once. -/
def Behind (qs : List (ByteArray × Int)) (i : Nat) (pb : List (ByteArray × Int)) : Prop := ∀ j, getP pb j = getP (foldP (qs.drop i)) j

theorem Behind.skip {qs pb : List (ByteArray × Int)} {i : Nat} (h : Behind qs (i + 1) pb) (hi : i < qs.length) (hk : (getP pb (ntp qs i).1).2 = true) : Behind qs i pb := by
  intro j
  rw [foldP_drop hi, ← h j]
  by_cases h1 : (getP pb j).2 = true
  · rw [if_pos h1]
  · rw [if_neg h1]
    have h2 : (getP pb j).2 = false := by simpa using h1
    by_cases h3 : j = (ntp qs i).1
    · rw [h3] at h2; rw [h2] at hk; cases hk
    · rw [if_neg h3]; exact getP_false h2

theorem Behind.put {qs pb : List (ByteArray × Int)} {i : Nat} (h : Behind qs (i + 1) pb) (hi : i < qs.length) (hk : (getP pb (ntp qs i).1).2 = false) : Behind qs i (delP pb (ntp qs i).1 ++ [((ntp qs i).1, (ntp qs i).2)]) := by
  intro j
  rw [foldP_drop hi, ← h j, getP_put]
  by_cases h3 : j = (ntp qs i).1
  · rw [if_pos h3, if_neg (by rw [h3, hk]; simp), if_pos h3]
  · rw [if_neg h3]
    by_cases h1 : (getP pb j).2 = true
    · rw [if_pos h1]
    · rw [if_neg h1, if_neg h3]
      exact getP_false (by simpa using h1)

theorem Kept.mem {ps ss : List (ByteArray × Int)} (h : Kept ps ss) (p : ByteArray × Int) : p ∈ ss ↔ getP ps p.1 = (p.2, true) := by
  refine ⟨fun hp => ?_, fun hp => (h.same _).1 (getP_mem hp)⟩
  obtain ⟨i, hi, rfl⟩ := List.getElem_of_mem hp
  exact h.get_old hi rfl

theorem rise_nodup {ss : List (ByteArray × Int)} (h : RiseP ss) : ss.Nodup := by
  unfold List.Nodup
  refine List.Pairwise.imp (fun {a b} hab e => ?_) h
  rw [e, lss_irrefl] at hab; cases hab

theorem kept_same {ps qs a b : List (ByteArray × Int)} (h : Kept ps a) (k : Kept qs b) (he : ∀ j, getP ps j = getP qs j) : a = b := by
  refine rise_eq h.rise k.rise ((List.perm_ext_iff_of_nodup (rise_nodup h.rise) (rise_nodup k.rise)).2 (fun p => ?_))
  rw [h.mem, k.mem, he]

theorem Behind.one {qs pb a b : List (ByteArray × Int)} (h : Behind qs 0 pb) (ha : Kept pb a) (hb : Kept (foldP qs) b) : a = b :=
  kept_same ha hb (fun j => by rw [h j]; rfl)
end Go.Proofs.Ytpdcmgillinooaa
