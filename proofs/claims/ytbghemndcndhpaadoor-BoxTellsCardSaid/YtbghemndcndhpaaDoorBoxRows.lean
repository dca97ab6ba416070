/- Rows of items of the call's own, as bowerref05.Cut makes them. No walk. -/
import Derived.Test.YtbghemndcndhpaaDoorBoxCut
namespace Go.Proofs.YtbghemndcndhpaaDoor
open Go.RowKit

/-- The parts of an item's value. -/
abbrev Q4 := Int × Int × ByteArray × Value
def q4 (q : Q4) : Value := .agg #[.int .i64 q.1, .int .u64 q.2.1, .string q.2.2.1, q.2.2.2]
def qrow (q : Q4) : List Value := [.int .i64 q.1, .int .u64 q.2.1, .string q.2.2.1, q.2.2.2]
def qcells : List Q4 → List Value
  | [] => []
  | q :: qs => qrow q ++ qcells qs
theorem qcells_len (qs : List Q4) : (qcells qs).length = qs.length * 4 := by
  induction qs with
  | nil => rfl
  | cons q qs ih => rw [qcells, List.length_append, ih, List.length_cons]; simp [qrow]; omega
theorem qcells_app (a b : List Q4) : qcells (a ++ b) = qcells a ++ qcells b := by
  induction a with
  | nil => rfl
  | cons q a ih => rw [List.cons_append, qcells, qcells, ih, List.append_assoc]
theorem qcells_at (qs : List Q4) : ∀ (i : Nat) (hi : i < qs.length) (j : Nat), j < 4 → (qcells qs)[i * 4 + j]? = (qrow qs[i])[j]? := by
  induction qs with
  | nil => intro i hi; simp at hi
  | cons q qs ih =>
    intro i hi j hj
    cases i with
    | zero =>
      rw [qcells, List.getElem?_append_left (by simp [qrow]; omega)]
      simp
    | succ i =>
      rw [qcells, List.getElem?_append_right (by simp [qrow]; omega)]
      have := ih i (by simpa using hi) j hj
      simp only [List.getElem_cons_succ]
      rw [← this]
      congr 1
      simp [qrow]
      omega

theorem SitsL.mk {S : Nat → Prop} {w : World} {b : Nat} : ∀ {l : List Itm} {o : Nat}, (∀ i (hi : i < l.length), ∃ v0 v1 v2 v3, w.cell? ⟨b, o + i * 4, none⟩ = some v0 ∧ w.cell? ⟨b, o + i * 4 + 1, none⟩ = some v1 ∧ w.cell? ⟨b, o + i * 4 + 2, none⟩ = some v2 ∧ w.cell? ⟨b, o + i * 4 + 3, none⟩ = some v3 ∧ Sits S w l[i] (.agg #[v0, v1, v2, v3])) → SitsL S w b o l
  | [], _, _ => by rw [SitsL]; trivial
  | x :: l, o, h => by
    rw [SitsL]
    refine ⟨by have h0 := h 0 (by simp); simpa using h0, SitsL.mk (fun i hi => ?_)⟩
    have := h (i + 1) (by simpa using hi)
    rw [show o + (i + 1) * 4 = o + 4 + i * 4 by omega] at this
    exact this

theorem Sits.form {S : Nat → Prop} {w : World} {y : Itm} {u : Value} (h : Sits S w y u) : ∃ q : Q4, u = q4 q ∧ ∃ ao len c, q.2.2.2 = .slice ao len c := by
  obtain ⟨k, n, s, l⟩ := y
  rw [Sits] at h
  obtain ⟨ao, c, rfl, _⟩ := h
  exact ⟨(k, n, s, .slice ao l.length c), rfl, ao, _, c, rfl⟩

/-- After so many items: the row of what is left of them. -/
def CutRow (S : Nat → Prop) (B : Nat) (wr : World) (so : Value) (l : List Itm) (i : Nat) : Prop :=
  ∃ (ys : List Itm) (qs : List Q4), ys.length = i ∧ qs.length = i ∧ wr.ownsRow B 25 4 so i (qcells qs) ∧ (∀ j (h1 : j < ys.length) (h2 : j < qs.length), Sits (fun k => S k ∨ (B ≤ k ∧ so.ownBlock ≠ some k)) wr ys[j] (q4 qs[j])) ∧
    ∀ j (h : j < l.length) (h1 : j < ys.length), bxI ys[j] = cutB (bxI l[j]) ∧ vI ys[j] ∧ okI ys[j] ∧ wI ys[j] ≤ wI l[j]

theorem crow_keep {S : Nat → Prop} {B : Nat} {w w' : World} {so : Value} {l : List Itm} {i : Nat} (h : CutRow S B w so l i) (hb : Below w.heap.size w w') : CutRow S B w' so l i := by
  obtain ⟨ys, qs, h1, h2, h3, h4, h5⟩ := h
  refine ⟨ys, qs, h1, h2, ⟨h3.1, ?_⟩, fun j g1 g2 => (h4 j g1 g2).below hb, h5⟩
  rcases h3.2 with hn | ⟨g, cap, cur, rfl, hbg, hg, rest⟩
  · exact Or.inl hn
  · exact Or.inr ⟨g, cap, cur, rfl, hbg, by rw [hb.block g (lt_of_block hg)]; exact hg, rest⟩

theorem crow_add {S : Nat → Prop} {B : Nat} {wr w1 w2 : World} {so v2 : Value} {l : List Itm} {i : Nat} {y : Itm} {q : Q4} {ys : List Itm} {qs : List Q4} (h1 : ys.length = i) (h2 : qs.length = i) (h3r : wr.ownsRow B 25 4 so i (qcells qs))
    (h4r : ∀ j (h1 : j < ys.length) (h2 : j < qs.length), Sits (fun k => S k ∨ (B ≤ k ∧ so.ownBlock ≠ some k)) wr ys[j] (q4 qs[j]))
    (h5 : ∀ j (h : j < l.length) (h1 : j < ys.length), bxI ys[j] = cutB (bxI l[j]) ∧ vI ys[j] ∧ okI ys[j] ∧ wI ys[j] ≤ wI l[j])
    (hi : i < l.length) (hS : ∀ k, S k → k < B) (hb1 : Below wr.heap.size wr w1) (hu : Sits (fun k => S k ∨ wr.heap.size ≤ k) w1 y (q4 q))
    (hy : bxI y = cutB (bxI l[i]) ∧ vI y ∧ okI y ∧ wI y ≤ wI l[i])
    (hown : w2.ownsRow B 25 4 v2 (i + 1) (qcells qs ++ qrow q)) (hg : ∀ k, k < w1.heap.size → so.ownBlock ≠ some k → w2.heap[k]? = w1.heap[k]?) (hsep : v2.ownBlock = so.ownBlock ∨ ∃ g, v2.ownBlock = some g ∧ w1.heap.size ≤ g) (hB : B ≤ wr.heap.size) : CutRow S B w2 v2 l (i + 1) := by
  have h4 : ∀ j (h1 : j < ys.length) (h2 : j < qs.length), Sits (fun k => S k ∨ (B ≤ k ∧ so.ownBlock ≠ some k)) w1 ys[j] (q4 qs[j]) := fun j g1 g2 => (h4r j g1 g2).below hb1
  have hlo : ∀ k, so.ownBlock = some k → B ≤ k ∧ k < wr.heap.size := fun k e => h3r.lt k e
  have hne : ∀ k, k < w1.heap.size → so.ownBlock ≠ some k → v2.ownBlock ≠ some k := fun k hk h1 => by
    rcases hsep with e | ⟨g, e, hge⟩
    · rw [e]; exact h1
    · rw [e]
      intro e2
      injection e2 with e2
      omega
  have hSo : ∀ k, S k → so.ownBlock ≠ some k := fun k hk e => by have := (hlo k e).1; have := hS k hk; omega
  refine ⟨ys ++ [y], qs ++ [q], by simp [h1], by simp [h2], ?_, fun j g1 g2 => ?_, fun j g0 g1 => ?_⟩
  · rw [qcells_app]
    simpa [qcells] using hown
  · by_cases hji : j < i
    · rw [List.getElem_append_left (by omega), List.getElem_append_left (by omega)]
      refine Sits.keep (fun k hk hlt => ?_) _ _ (h4 j (by omega) (by omega))
      rcases hk with hk | hk
      · exact ⟨Or.inl hk, hg k hlt (hSo k hk)⟩
      · exact ⟨Or.inr ⟨hk.1, hne k hlt hk.2⟩, hg k hlt hk.2⟩
    · have hje : j = i := by simp [h1] at g1; omega
      subst hje
      have e1 : (ys ++ [y])[j] = y := by
        rw [List.getElem_append_right (by omega)]
        simp [h1]
      have e2 : (qs ++ [q])[j] = q := by
        rw [List.getElem_append_right (by omega)]
        simp [h2]
      rw [e1, e2]
      refine Sits.keep (fun k hk hlt => ?_) _ _ hu
      rcases hk with hk | hk
      · exact ⟨Or.inl hk, hg k hlt (hSo k hk)⟩
      · have h3 : so.ownBlock ≠ some k := fun e => by have := (hlo k e).2; omega
        exact ⟨Or.inr ⟨by omega, hne k hlt h3⟩, hg k hlt h3⟩
  · by_cases hji : j < i
    · rw [List.getElem_append_left (by omega)]
      exact h5 j g0 (by omega)
    · have hje : j = i := by simp [h1] at g1; omega
      subst hje
      have e1 : (ys ++ [y])[j] = y := by
        rw [List.getElem_append_right (by omega)]
        simp [h1]
      rw [e1]
      exact hy

/-- The row told as an item's list. -/
theorem crow_end {S : Nat → Prop} {B : Nat} {w : World} {so : Value} {l : List Itm} (h : CutRow S B w so l l.length) :
    ∃ ys : List Itm, ys.length = l.length ∧ bxIs ys = cutL (bxIs l) ∧ vIs ys ∧ okIs ys ∧ wIs ys ≤ wIs l ∧ Sits (fun k => S k ∨ B ≤ k) w (.mk 4 0 ⟨#[]⟩ ys) (.agg #[.int .i64 4, .int .u64 0, .string ⟨#[]⟩, so]) := by
  obtain ⟨ys, qs, h1, h2, h3, h4, h5⟩ := h
  have hw : ∀ (ys l : List Itm), ys.length = l.length → (∀ j (h : j < l.length) (h1 : j < ys.length), wI ys[j] ≤ wI l[j]) → wIs ys ≤ wIs l := by
    intro ys
    induction ys with
    | nil => intro l _ _; simp [wIs]
    | cons y ys ih =>
      intro l hl hj
      cases l with
      | nil => simp at hl
      | cons x l =>
        rw [wIs, wIs]
        have a := hj 0 (by simp) (by simp)
        have b := ih l (by simpa using hl) (fun j g1 g2 => by have := hj (j + 1) (by simpa using g1) (by simpa using g2); simpa using this)
        simp only [List.getElem_cons_zero] at a
        omega
  refine ⟨ys, h1, ?_, ?_, ?_, hw ys l h1 (fun j g0 g1 => (h5 j g0 g1).2.2.2), ?_⟩
  · rw [cutL_bxIs, bxIs_map]
    refine List.ext_getElem (by simp [h1]) (fun j g1 g2 => ?_)
    simp only [List.getElem_map]
    exact (h5 j (by simpa using g2) (by simpa using g1)).1
  · rw [vIs_iff]
    intro x hx
    obtain ⟨j, hj, rfl⟩ := List.getElem_of_mem hx
    exact (h5 j (by omega) hj).2.1
  · rw [okIs_iff]
    intro x hx
    obtain ⟨j, hj, rfl⟩ := List.getElem_of_mem hx
    exact (h5 j (by omega) hj).2.2.1
  · rw [Sits]
    rcases h3.2 with ⟨rfl, hn⟩ | ⟨g, cap, cur, rfl, hbg, hg, hnc, hcm, _, _⟩
    · have hy0 : ys = [] := List.eq_nil_of_length_eq_zero (by omega)
      subst hy0
      exact ⟨none, 0, rfl, ⟨Nat.le_refl _, by omega⟩, Or.inl rfl⟩
    · unfold maxLen at hcm
      refine ⟨some ⟨g, 0, none⟩, cap, by rw [h1], ⟨by omega, hcm⟩, Or.inr ⟨g, 0, rfl, Or.inr hbg, SitsL.mk (fun j hj => ?_)⟩⟩
      have hjq : j < qs.length := by omega
      have hcl : ∀ t, t < 4 → w.cell? ⟨g, 0 + j * 4 + t, none⟩ = (qrow qs[j])[t]? := fun t ht => by
        have := h3.cellAt (j * 4 + t) (by omega)
        rw [Nat.zero_add, this, qcells_at qs j hjq t ht]
      refine ⟨_, _, _, _, hcl 0 (by omega), hcl 1 (by omega), hcl 2 (by omega), hcl 3 (by omega), ?_⟩
      refine Sits.mono (h4 j hj hjq) (fun k hk _ => ?_)
      rcases hk with hk | hk
      · exact Or.inl hk
      · exact Or.inr hk.1
end Go.Proofs.YtbghemndcndhpaaDoor
