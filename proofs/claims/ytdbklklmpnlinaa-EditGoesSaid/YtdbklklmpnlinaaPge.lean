/- What EditGoes asks: cells apart are what a view knows; changes fit; what is told is what is made. No walk. -/
import Derived.Test.YtdbklklmpnlinaaPgb
import Derived.Test.YtdbklklmpnlinaaPg9
import Derived.Test.YtdbklklmpnlinaaPga
import Derived.Test.YtdbklklmpnlinaaPgd
namespace Go.Proofs.Ytdbklklmpnlinaa
open Go.RowKit Go.Maps

/-- What the cell of a spare has. -/
def spK (p : Int × Int) : Kn := ⟨p.1, 0, p.2, .none⟩
/-- What all cells have. -/
def cellsK (ks : List Kn) (ss : List (Int × Int)) : List Kn := ks ++ ss.map spK
theorem apart_add {l : List Kn} {x : Kn} (h : Apart9 l) (hx : ∀ j, j < l.length → (kAt l j).c ≠ x.c) : Apart9 (l ++ [x]) := by
  have hl : ∀ p, p < l.length → kAt (l ++ [x]) p = kAt l p := fun p hp => by
    rw [kAt_eq (by simp; omega), kAt_eq hp, List.getElem_append_left hp]
  have hr : kAt (l ++ [x]) l.length = x := by
    rw [kAt_eq (by simp)]
    simp
  intro p q hp hq he
  rw [List.length_append, List.length_singleton] at hp hq
  by_cases hp2 : p < l.length
  · by_cases hq2 : q < l.length
    · rw [hl p hp2, hl q hq2] at he
      exact h p q hp2 hq2 he
    · obtain rfl : q = l.length := by omega
      rw [hl p hp2, hr] at he
      exact absurd he (hx p hp2)
  · obtain rfl : p = l.length := by omega
    by_cases hq2 : q < l.length
    · rw [hl q hq2, hr] at he
      exact absurd he.symm (hx q hq2)
    · omega
theorem kidx_not {l : List Kn} {c : Int} (h : kidx l c = -1) : ∀ j, j < l.length → (kAt l j).c ≠ c := by
  intro j hj e
  have h2 : ¬ ∀ j, j < l.length → (kAt l j).c ≠ c := fun hh => hh j hj e
  rcases kidx_cases l c with ⟨_, h3⟩ | ⟨i, _, h3, _⟩
  · unfold kfind at h3
    have h4 := List.find?_eq_none.1 h3 (kAt l j) (kAt_mem hj)
    simp [e] at h4
  · omega
theorem kfind_self {l : List Kn} (h : Apart9 l) {p : Nat} (hp : p < l.length) : kfind l (kAt l p).c = some (kAt l p) :=
  (kpos_some hp (fun j hj e => by have := h j p (by omega) hp e; omega) rfl).2
theorem kfind_not {l : List Kn} {c : Int} (h : ∀ j, j < l.length → (kAt l j).c ≠ c) : kfind l c = none := (kpos_none h).2
theorem kfind_at9 {l : List Kn} {c : Int} {y : Kn} (h : kfind l c = some y) : ∃ p, p < l.length ∧ kAt l p = y ∧ y.c = c := by
  unfold kfind at h
  obtain ⟨j, hj, e⟩ := List.getElem_of_mem (List.mem_of_find?_eq_some h)
  exact ⟨j, hj, by rw [kAt_eq hj]; exact e, by simpa using List.find?_some h⟩
theorem kdrop_not {l : List Kn} {c : Int} (h : ∀ j, j < l.length → (kAt l j).c ≠ c) : kdrop l c = l := by
  unfold kdrop
  rw [List.filter_eq_self]
  intro k hk
  obtain ⟨j, hj, rfl⟩ := List.mem_iff_getElem.1 hk
  have := h j hj
  rw [kAt_eq hj] at this
  simpa using this
theorem kAt_take {l : List Kn} {i j : Nat} (hj : j < i) (hi : i ≤ l.length) : kAt (l.take i) j = kAt l j := by
  rw [kAt_eq (by rw [List.length_take]; omega), kAt_eq (by omega), List.getElem_take]
theorem learnAll_apart {ks : List Kn} (hd : Apart9 ks) (hc : ∀ j, j < ks.length → cellB (kAt ks j).c = true) : learnAll ks = ks := by
  have : ∀ i, i ≤ ks.length → learnAll (ks.take i) = ks.take i := by
    intro i
    induction i with
    | zero => exact fun _ => rfl
    | succ i ih =>
      intro hi
      rw [learn_more (by omega), ih (by omega)]
      unfold learnK
      rw [if_pos (hc i (by omega)), kdrop_not (fun j hj e => by
        rw [List.length_take] at hj
        rw [kAt_take (by omega) (by omega)] at e
        have := hd j i (by omega) (by omega) e
        omega), List.take_succ_eq_append_getElem (by omega), kAt_eq (by omega)]
  have h := this ks.length (Nat.le_refl _)
  rwa [List.take_length] at h
theorem cellsK_len (ks : List Kn) (ss : List (Int × Int)) : (cellsK ks ss).length = ks.length + ss.length := by simp [cellsK]
theorem cellsK_l {ks : List Kn} {ss : List (Int × Int)} {p : Nat} (h : p < ks.length) : kAt (cellsK ks ss) p = kAt ks p := by
  unfold cellsK
  rw [kAt_eq (by simp; omega), kAt_eq h, List.getElem_append_left h]
theorem cellsK_r {ks : List Kn} {ss : List (Int × Int)} {i : Nat} (h : i < ss.length) : kAt (cellsK ks ss) (ks.length + i) = spK (nts ss i) := by
  unfold cellsK
  rw [kAt_eq (by simp; omega), List.getElem_append_right (by omega), nts_eq h]
  simp
theorem cellsK_more {ks : List Kn} {ss : List (Int × Int)} {i : Nat} (h : i < ss.length) : cellsK ks (ss.take (i + 1)) = cellsK ks (ss.take i) ++ [spK (nts ss i)] := by
  unfold cellsK
  rw [List.take_succ_eq_append_getElem h, List.map_append, nts_eq h, List.append_assoc]
  rfl
/-- Cells as they must be: of nodes, words that are none's; no two of one cell. -/
structure Good1 (ks : List Kn) (ss : List (Int × Int)) : Prop where
  apart : Apart9 (cellsK ks ss)
  cell : ∀ j, j < ks.length → cellB (kAt ks j).c = true ∧ (kAt ks j).wd ≠ 0
  spare : ∀ j, j < ss.length → cellB (nts ss j).1 = true
section
variable {ks : List Kn} {ss ts : List (Int × Int)} {cs : List Ch}
theorem Good1.apartL (h : Good1 ks ss) : Apart9 ks := fun p q hp hq e => h.apart p q (by rw [cellsK_len]; omega) (by rw [cellsK_len]; omega) (by rw [cellsK_l hp, cellsK_l hq]; exact e)
theorem Good1.out (h : Good1 ks ss) {i : Nat} (hi : i < ss.length) : ∀ j, j < ks.length → (kAt ks j).c ≠ (nts ss i).1 := fun j hj e => by
  have := h.apart j (ks.length + i) (by rw [cellsK_len]; omega) (by rw [cellsK_len]; omega) (by rw [cellsK_l hj, cellsK_r hi]; exact e)
  omega
theorem Good1.apartS (h : Good1 ks ss) {i j : Nat} (hi : i < ss.length) (hj : j < ss.length) (e : (nts ss i).1 = (nts ss j).1) : i = j := by
  have := h.apart (ks.length + i) (ks.length + j) (by rw [cellsK_len]; omega) (by rw [cellsK_len]; omega) (by rw [cellsK_r hi, cellsK_r hj]; exact e)
  omega
theorem Good1.learn (h : Good1 ks ss) : learnAll ks = ks := learnAll_apart h.apartL (fun j hj => (h.cell j hj).1)
theorem nts_take {l : List (Int × Int)} {i j : Nat} (hj : j < i) (hi : i ≤ l.length) : nts (l.take i) j = nts l j := by
  rw [nts_eq (by rw [List.length_take]; omega), nts_eq (by omega), List.getElem_take]
theorem Good1.told (h : Good1 ks ss) : spAll ss = ss := by
  have : ∀ i, i ≤ ss.length → spAll (ss.take i) = ss.take i := by
    intro i
    induction i with
    | zero => exact fun _ => rfl
    | succ i ih =>
      intro hi
      rw [spAll_more (by omega), ih (by omega)]
      unfold spAdd
      rw [if_pos ⟨h.spare i (by omega), hasS_none (fun j hj e => by
        rw [List.length_take] at hj
        rw [nts_take (by omega) (by omega)] at e
        have := h.apartS (i := j) (j := i) (by omega) (by omega) e
        omega)⟩, List.take_succ_eq_append_getElem (by omega), nts_eq (by omega)]
  have h := this ss.length (Nat.le_refl _)
  rwa [List.take_length] at h
theorem cAt_add_l {x : Ch} {i : Nat} (h : i < cs.length) : cAt (cs ++ [x]) i = cAt cs i := by
  rw [cAt_eq (by simp; omega), cAt_eq h, List.getElem_append_left h]
theorem cAt_add_r (cs : List Ch) (x : Ch) : cAt (cs ++ [x]) cs.length = x := by
  rw [cAt_eq (by simp)]
  simp
theorem lastC_add {x : Ch} (c : Int) : ∀ i, i ≤ cs.length → lastC (cs ++ [x]) c i = lastC cs c i
  | 0, _ => rfl
  | i + 1, hi => by
    unfold lastC
    rw [cAt_add_l (by omega), lastC_add c i (by omega)]
/-- Is there something to empty? -/
def MayClear (ks : List Kn) (cs : List Ch) (c : Int) : Prop := (∃ j : Nat, lastC cs c cs.length = j ∧ j < cs.length ∧ (cAt cs j).em = false) ∨ (lastC cs c cs.length = -1 ∧ ∃ y, kfind ks c = some y)
theorem may_of {w : World} {B : Nat} {c k m k' m' : Int} {n : Nod} {kv vv cv : Value} {r : Bool} (h : EAtIs w B cs ks c k m n kv vv cv r k' m') (hr : r = true) : MayClear ks cs c := by
  rcases h with ⟨j, h1, h2, _, h4, _⟩ | ⟨h1, y, _, h⟩
  · refine Or.inl ⟨j, h1, h2, ?_⟩
    rw [hr] at h4
    cases he : (cAt cs j).em with
    | true => rw [he] at h4; cases h4
    | false => rfl
  · rcases h with ⟨_, h2, _⟩ | ⟨h2, _⟩
    · exact Or.inr ⟨h1, _, h2⟩
    · rw [hr] at h2; cases h2
theorem good_add (hg : Good1 ks ss) (hts : ts = ss.take ts.length) (htl : ts.length ≤ ss.length) {x : Ch} {r : Bool} {k m k' m' : Int} {cs' : List Ch} (h : GoodCh (cellsK ks ss) cs) (hx : x.wd = 0) (he : x.em = true → MayClear ks cs x.c) (hc : ChIs ks ts cs k m x r cs' k' m') : GoodCh (cellsK ks ss) cs' ∧ (cs.length ≤ 46 → cs'.length ≤ 46) := by
  rcases hc with ⟨_, _, rfl, _⟩ | ⟨h1, h2, x', hl, rfl⟩
  · exact ⟨h, id⟩
  by_cases hr0 : r = false
  · rw [hr0, if_neg (by decide)]
    exact ⟨h, id⟩
  have hr : r = true := by simpa using hr0
  rw [if_pos hr]
  refine ⟨?_, fun _ => by rw [List.length_append, List.length_singleton]; omega⟩
  have hsame := hl.same
  have hspare : ∀ i, i < ts.length → nts ts i = nts ss i := fun i hi => by
    rw [hts, nts_take hi htl]
  intro i hi
  rw [List.length_append, List.length_singleton] at hi
  by_cases hi2 : i < cs.length
  · obtain ⟨p, hp, hpc, hh⟩ := h i hi2
    refine ⟨p, hp, by rw [cAt_add_l hi2]; exact hpc, ?_⟩
    rw [cAt_add_l hi2, lastC_add _ _ (by omega)]
    rcases hh with hh | ⟨j, q1, q2, q3, q4⟩
    · exact Or.inl hh
    · have hj := lastC_ge cs (cAt cs i).c i
      exact Or.inr ⟨j, q1, q2, by rw [cAt_add_l (by omega)]; exact q3, by rw [cAt_add_l (by omega)]; exact q4⟩
  · obtain rfl : i = cs.length := by omega
    rw [cAt_add_r, lastC_add _ _ (Nat.le_refl _), hsame.1]
    rcases hl with ⟨j, hj, hlast, _, rfl, _⟩ | ⟨hlast, i, hi3, hf, _, rfl, _⟩ | ⟨hlast, hf, ⟨y, hy, _, rfl, _⟩ | ⟨_, h3, _⟩⟩
    · obtain ⟨p, hp, hpc, _⟩ := h j hj
      have hcj : (cAt cs j).c = x.c := by
        rcases lastC_is cs x.c cs.length with ⟨q1, _⟩ | ⟨l, q1, _, q3, _⟩
        · omega
        · obtain rfl : l = j := by omega
          exact q3
      have hem : (cAt cs j).em = false := by
        unfold clearedB at h1
        rw [hlast, if_neg (by omega), Int.toNat_natCast] at h1
        exact h1
      exact ⟨p, hp, hpc.trans hcj, Or.inr ⟨j, hlast, rfl, by rw [cAt_add_l hj]; exact hem, by rw [cAt_add_l hj]⟩⟩
    · have hfc : (nts ts i).1 = x.c := by
        rcases hf with ⟨q1, _⟩ | ⟨l, q1, _, q3, _⟩
        · omega
        · obtain rfl : i = l := by omega
          exact q3
      rw [hspare i hi3] at hfc
      refine ⟨ks.length + i, by rw [cellsK_len]; omega, by rw [cellsK_r (by omega)]; exact hfc, Or.inl ⟨hlast, rfl, ?_, ?_, ?_⟩⟩
      · rw [cellsK_r (by omega)]
        exact hx.symm
      · rw [cellsK_r (by omega), hspare i hi3]
        rfl
      · intro hem
        exfalso
        rcases he hem with ⟨j, q1, _⟩ | ⟨_, y, q2⟩
        · omega
        · rw [kfind_not (fun j hj e => hg.out (i := i) (by omega) j hj (e.trans hfc.symm))] at q2
          cases q2
    · obtain ⟨p, hp, rfl, hyc⟩ := kfind_at9 hy
      refine ⟨p, by rw [cellsK_len]; omega, by rw [cellsK_l hp]; exact hyc, Or.inl ⟨hlast, rfl, ?_, ?_, ?_⟩⟩
      · rw [cellsK_l hp]
      · rw [cellsK_l hp]
      · intro _
        exact (hg.cell p hp).2
    · rw [hr] at h3
      cases h3
/-- What an edit tells of a cell is what the cell has. -/
theorem told_made (hg : Good1 ks ss) {p word : Nat} (hp : p < (cellsK ks ss).length) (hw : 0 < word) {w : World} {B : Nat} {k m k' m' : Int} {n : Nod} {kv vv cv : Value} {r : Bool} (h : EAtIs w B cs ks (kAt (cellsK ks ss) p).c k m n kv vv cv r k' m') :
    (p < ks.length → r = decide ((outAt cs word (kAt (cellsK ks ss) p) cs.length).wd ≠ 0)) ∧ (r = true → (outAt cs word (kAt (cellsK ks ss) p) cs.length).wd ≠ 0 → n = (outAt cs word (kAt (cellsK ks ss) p) cs.length).n) := by
  unfold outAt
  rcases h with ⟨j, h1, h2, rfl, rfl, _⟩ | ⟨h1, y, rfl, h⟩
  · rw [h1, if_neg (by omega), Int.toNat_natCast]
    unfold behF
    cases he : (cAt cs j).em with
    | true => exact ⟨fun _ => by simp, fun h => by simp at h⟩
    | false =>
      refine ⟨fun _ => ?_, fun _ _ => ?_⟩
      · have : ((word + j : Nat) : Int) ≠ 0 := by omega
        simp only [Bool.not_false, Bool.false_eq_true, if_false]
        rw [decide_eq_true this]
      · simp
  · rw [h1, if_pos rfl]
    by_cases hpl : p < ks.length
    · rw [cellsK_l hpl] at h ⊢
      have hs := kfind_self hg.apartL hpl
      rcases h with ⟨hr, h2, _⟩ | ⟨_, h2, _⟩
      · rw [hs] at h2
        injection h2 with h2
        subst h2
        exact ⟨fun _ => by rw [hr, decide_eq_true (hg.cell p hpl).2], fun _ _ => rfl⟩
      · rw [hs] at h2
        cases h2
    · refine ⟨fun h => absurd h hpl, fun hr _ => ?_⟩
      rw [cellsK_len] at hp
      obtain ⟨i, rfl⟩ : ∃ i, p = ks.length + i := ⟨p - ks.length, by omega⟩
      rw [cellsK_r (by omega)] at h
      rcases h with ⟨_, h2, _⟩ | ⟨h2, _⟩
      · rw [show (spK (nts ss i)).c = (nts ss i).1 from rfl, kfind_not (hg.out (by omega))] at h2
        cases h2
      · rw [hr] at h2
        cases h2
end
end Go.Proofs.Ytdbklklmpnlinaa
