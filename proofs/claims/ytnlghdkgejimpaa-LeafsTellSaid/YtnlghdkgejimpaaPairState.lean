/- Plain facts on pairs: a list in any order and a rising one with the same pairs, what Put, Delete and Get make of both. No program, no world. -/
import Derived.Test.YtnlghdkgejimpaaPairAll
namespace Go.Proofs.Ytnlghdkgejimpaa
open Go.RowKit

/-- The document's pairs, in any order, and a map's, rising. -/
structure Kept (ps ss : List (ByteArray × Int)) : Prop where
  rise : RiseP ss
  perm : ps.Perm ss

theorem Kept.same {ps ss : List (ByteArray × Int)} (h : Kept ps ss) : SameS ps ss := fun _ => h.perm.mem_iff
theorem Kept.len {ps ss : List (ByteArray × Int)} (h : Kept ps ss) : ps.length = ss.length := h.perm.length_eq
theorem Kept.nil : Kept [] [] := ⟨List.Pairwise.nil, List.Perm.nil⟩

/-- At at_ is the first one that is not less than k. -/
def Place (ss : List (ByteArray × Int)) (k : ByteArray) (at_ : Nat) : Prop :=
  at_ ≤ ss.length ∧ (∀ i (h : i < ss.length), i < at_ → lss ss[i].1.data.toList k.data.toList = true) ∧ (∀ i (h : i < ss.length), at_ ≤ i → lss ss[i].1.data.toList k.data.toList = false)

theorem bytes_same {a b : ByteArray} (h : a.data.toList = b.data.toList) : a = b := by
  apply ByteArray.ext
  apply Array.ext'
  exact h

theorem Place.above {ss : List (ByteArray × Int)} {k : ByteArray} {at_ : Nat} (h : Place ss k at_) (hr : RiseP ss) (i : Nat) (hi : i < ss.length) (h1 : at_ < i) : lss k.data.toList ss[i].1.data.toList = true := by
  have h2 := h.2.2 at_ (by omega) (Nat.le_refl _)
  have h3 := rise_lt hr at_ i h1 hi
  exact lss_le_lt _ _ _ h2 h3

theorem Place.not_there {ss : List (ByteArray × Int)} {k : ByteArray} {at_ : Nat} (h : Place ss k at_) (hr : RiseP ss) (hn : ∀ (h : at_ < ss.length), ss[at_].1 ≠ k) : (∀ p ∈ ss, p.1 ≠ k) ∧ ∀ i (h : i < ss.length), at_ ≤ i → lss k.data.toList ss[i].1.data.toList = true := by
  have hab : ∀ i (h : i < ss.length), at_ ≤ i → lss k.data.toList ss[i].1.data.toList = true := fun i hi hai => by
    by_cases e : i = at_
    · subst e
      cases g : lss k.data.toList ss[i].1.data.toList with
      | true => rfl
      | false => exact absurd (bytes_same (lss_total _ _ (h.2.2 i hi (Nat.le_refl _)) g)) (hn hi)
    · exact h.above hr i hi (by omega)
  refine ⟨fun p hp e => ?_, hab⟩
  obtain ⟨i, hi, rfl⟩ := List.getElem_of_mem hp
  by_cases g : i < at_
  · have := h.2.1 i hi g
    rw [e, lss_irrefl] at this; cases this
  · have := hab i hi (by omega)
    rw [e, lss_irrefl] at this; cases this

theorem rise_mid {ss : List (ByteArray × Int)} (hr : RiseP ss) (k : ByteArray) (z : Int) (a b : Nat) (h1 : ∀ i (h : i < ss.length), i < a → lss ss[i].1.data.toList k.data.toList = true) (h2 : ∀ i (h : i < ss.length), b ≤ i → lss k.data.toList ss[i].1.data.toList = true) : RiseP (ss.take a ++ (k, z) :: ss.drop b) := by
  have hlow : ∀ x ∈ ss.take a, lss x.1.data.toList k.data.toList = true := by
    intro x hx
    obtain ⟨i, hi, rfl⟩ := List.getElem_of_mem hx
    rw [List.length_take] at hi
    rw [List.getElem_take]
    exact h1 i (by omega) (by omega)
  have hhigh : ∀ x ∈ ss.drop b, lss k.data.toList x.1.data.toList = true := by
    intro x hx
    obtain ⟨i, hi, rfl⟩ := List.getElem_of_mem hx
    rw [List.length_drop] at hi
    rw [List.getElem_drop]
    exact h2 _ (by omega) (by omega)
  unfold RiseP
  rw [List.pairwise_append]
  refine ⟨hr.sublist (List.take_sublist _ _), List.pairwise_cons.2 ⟨hhigh, hr.sublist (List.drop_sublist _ _)⟩, ?_⟩
  intro x hx y hy
  rcases List.mem_cons.1 hy with rfl | hy
  · exact hlow x hx
  · exact lss_trans _ _ _ (hlow x hx) (hhigh y hy)

theorem delP_none {ss : List (ByteArray × Int)} {k : ByteArray} (h : ∀ p ∈ ss, p.1 ≠ k) : delP ss k = ss := by
  unfold delP
  rw [List.filter_eq_self]
  intro p hp
  simpa using h p hp

theorem split_at {ss : List (ByteArray × Int)} (a : Nat) (h : a < ss.length) : ss = ss.take a ++ ss[a] :: ss.drop (a + 1) := by
  conv => lhs; rw [← List.take_append_drop a ss]
  rw [List.drop_eq_getElem_cons h]

theorem delP_there {ss : List (ByteArray × Int)} {k : ByteArray} (hr : RiseP ss) (a : Nat) (h : a < ss.length) (e : ss[a].1 = k) : delP ss k = ss.take a ++ ss.drop (a + 1) := by
  have hs := split_at a h
  have hl : delP (ss.take a) k = ss.take a := delP_none (fun p hp => by
    obtain ⟨i, hi, rfl⟩ := List.getElem_of_mem hp
    rw [List.length_take] at hi
    rw [List.getElem_take]
    intro e2
    have := rise_lt hr i a (by omega) h
    rw [e2, e, lss_irrefl] at this; cases this)
  have hh : delP (ss.drop (a + 1)) k = ss.drop (a + 1) := delP_none (fun p hp => by
    obtain ⟨i, hi, rfl⟩ := List.getElem_of_mem hp
    rw [List.length_drop] at hi
    rw [List.getElem_drop]
    intro e2
    have := rise_lt hr a (a + 1 + i) (by omega) (by omega)
    rw [e2, e, lss_irrefl] at this; cases this)
  have h3 : delP ss k = delP (ss.take a) k ++ delP (ss[a] :: ss.drop (a + 1)) k := by
    conv => lhs; rw [hs]
    unfold delP
    rw [List.filter_append]
  have h4 : delP (ss[a] :: ss.drop (a + 1)) k = delP (ss.drop (a + 1)) k := by
    unfold delP
    rw [List.filter_cons_of_neg (by simp [e])]
  rw [h3, h4, hl, hh]

theorem delP_perm {ps ss : List (ByteArray × Int)} (h : ps.Perm ss) (k : ByteArray) : (delP ps k).Perm (delP ss k) := h.filter _

theorem put_perm {ps ss : List (ByteArray × Int)} {l r : List (ByteArray × Int)} {k : ByteArray} {z : Int} (h : ps.Perm ss) (hd : delP ss k = l ++ r) : (delP ps k ++ [(k, z)]).Perm (l ++ (k, z) :: r) := by
  have h1 := delP_perm h k
  rw [hd] at h1
  refine (List.perm_append_singleton (k, z) (delP ps k)).trans ?_
  exact (List.Perm.cons _ h1).trans List.perm_middle.symm

/-- A key that is not there is put. -/
theorem Kept.put_new {ps ss : List (ByteArray × Int)} (h : Kept ps ss) {k : ByteArray} {at_ : Nat} (hp : Place ss k at_) (hn : ∀ (h : at_ < ss.length), ss[at_].1 ≠ k) (z : Int) : Kept (delP ps k ++ [(k, z)]) (ss.take at_ ++ (k, z) :: ss.drop at_) := by
  have hx := hp.not_there h.rise hn
  exact ⟨rise_mid h.rise k z at_ at_ hp.2.1 hx.2, put_perm h.perm (by rw [delP_none hx.1, List.take_append_drop])⟩

/-- A key that is there is put. -/
theorem Kept.put_old {ps ss : List (ByteArray × Int)} (h : Kept ps ss) {k : ByteArray} {at_ : Nat} (hp : Place ss k at_) (ha : at_ < ss.length) (he : ss[at_].1 = k) (z : Int) : Kept (delP ps k ++ [(k, z)]) (ss.take at_ ++ (k, z) :: ss.drop (at_ + 1)) :=
  ⟨rise_mid h.rise k z at_ (at_ + 1) hp.2.1 (fun i hi hai => hp.above h.rise i hi (by omega)), put_perm h.perm (delP_there h.rise at_ ha he)⟩

/-- A key is taken away. -/
theorem Kept.del_old {ps ss : List (ByteArray × Int)} (h : Kept ps ss) {k : ByteArray} {at_ : Nat} (ha : at_ < ss.length) (he : ss[at_].1 = k) : Kept (delP ps k) (ss.take at_ ++ ss.drop (at_ + 1)) := by
  have hd := delP_there h.rise at_ ha he
  refine ⟨?_, by rw [← hd]; exact delP_perm h.perm k⟩
  rw [← hd]
  exact List.Pairwise.filter _ h.rise

theorem Kept.del_new {ps ss : List (ByteArray × Int)} (h : Kept ps ss) {k : ByteArray} {at_ : Nat} (hp : Place ss k at_) (hn : ∀ (h : at_ < ss.length), ss[at_].1 ≠ k) : Kept (delP ps k) ss := by
  have hx := hp.not_there h.rise hn
  refine ⟨h.rise, ?_⟩
  have := delP_perm h.perm k
  rwa [delP_none hx.1] at this

/-- What Get tells of a kept one. -/
theorem Kept.get_old {ps ss : List (ByteArray × Int)} (h : Kept ps ss) {k : ByteArray} {at_ : Nat} (ha : at_ < ss.length) (he : ss[at_].1 = k) : getP ps k = (ss[at_].2, true) := by
  cases hg : getP ps k with
  | mk z b =>
    cases b with
    | true =>
      have hm := (h.same _).1 (getP_mem hg)
      have := rise_one h.rise hm (List.getElem_mem ha) (by rw [he])
      rw [← this]
    | false =>
      have := getP_none (by rw [hg]) ss[at_] ((h.same _).2 (List.getElem_mem ha))
      exact absurd he this

theorem Kept.get_new {ps ss : List (ByteArray × Int)} (h : Kept ps ss) {k : ByteArray} {at_ : Nat} (hp : Place ss k at_) (hn : ∀ (h : at_ < ss.length), ss[at_].1 ≠ k) : getP ps k = (0, false) := by
  have hx := hp.not_there h.rise hn
  refine getP_no (fun j hj => ?_)
  rw [ntp_eq hj]
  exact hx.1 _ ((h.same _).1 (List.getElem_mem hj))
end Go.Proofs.Ytnlghdkgejimpaa
