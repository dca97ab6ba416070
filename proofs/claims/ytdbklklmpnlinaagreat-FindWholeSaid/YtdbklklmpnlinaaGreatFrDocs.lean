/- The document's view (bowerref14): Cell, Lack, Find, Forget, Learn, At. Condition: sizes that fit. The document's view (bowerref14): Learn, At. Condition: sizes that fit. -/
import Derived.Test.YtdbklklmpnlinaaGreatKnRow
import Derived.Test.YtdbklklmpnlinaaGreatFvMade
namespace Go.Proofs.YtdbklklmpnlinaaGreat
open Go.RowKit Go.Maps

def kpos (ks : List Kn) (c : Int) : Nat := ks.findIdx (fun k => decide (k.c = c))
def kidx (ks : List Kn) (c : Int) : Int := if kpos ks c < ks.length then (kpos ks c : Int) else -1
theorem kpos_none {ks : List Kn} {c : Int} (h : ∀ j, j < ks.length → (kAt ks j).c ≠ c) : kidx ks c = -1 ∧ kfind ks c = none := by
  have h1 : kpos ks c = ks.length := by
    unfold kpos
    rw [List.findIdx_eq_length]
    intro x hx
    obtain ⟨j, hj, rfl⟩ := List.mem_iff_getElem.1 hx
    have := h j hj
    rw [kAt_eq hj] at this
    simp [this]
  refine ⟨by unfold kidx; rw [h1, if_neg (Nat.lt_irrefl _)], ?_⟩
  unfold kfind
  rw [List.find?_eq_none]
  intro x hx
  obtain ⟨j, hj, rfl⟩ := List.mem_iff_getElem.1 hx
  have := h j hj
  rw [kAt_eq hj] at this
  simp [this]
theorem kpos_some {ks : List Kn} {c : Int} {i : Nat} (hi : i < ks.length) (h : ∀ j, j < i → (kAt ks j).c ≠ c) (he : (kAt ks i).c = c) : kidx ks c = i ∧ kfind ks c = some (kAt ks i) := by
  have h1 : kpos ks c = i := by
    unfold kpos
    rw [List.findIdx_eq hi]
    rw [kAt_eq hi] at he
    refine ⟨by simp [he], fun j hj => ?_⟩
    have := h j hj
    rw [kAt_eq (by omega)] at this
    simp [this]
  refine ⟨by unfold kidx; rw [h1, if_pos hi], ?_⟩
  unfold kfind
  rw [List.find?_eq_some_iff_getElem]
  rw [kAt_eq hi] at he ⊢
  refine ⟨by simp [he], i, hi, rfl, fun j hj => ?_⟩
  have := h j hj
  rw [kAt_eq (by omega)] at this
  simp [this]
theorem kidx_cases (ks : List Kn) (c : Int) : (kidx ks c = -1 ∧ kfind ks c = none) ∨ ∃ i, i < ks.length ∧ kidx ks c = i ∧ kfind ks c = some (kAt ks i) := by
  by_cases h : ∃ i, i < ks.length ∧ (kAt ks i).c = c
  · right
    have : ∀ n, ∀ i, i ≤ n → i < ks.length → (kAt ks i).c = c → ∃ i, i < ks.length ∧ kidx ks c = i ∧ kfind ks c = some (kAt ks i) := by
      intro n
      induction n with
      | zero => intro i h0 hi he; exact ⟨i, hi, kpos_some hi (fun j hj => by omega) he⟩
      | succ n ih =>
        intro i h0 hi he
        by_cases hl : ∃ j, j < i ∧ (kAt ks j).c = c
        · obtain ⟨j, hj, hje⟩ := hl
          exact ih j (by omega) (by omega) hje
        · exact ⟨i, hi, kpos_some hi (fun j hj e => hl ⟨j, hj, e⟩) he⟩
    obtain ⟨i, hi, he⟩ := h
    exact this i i (Nat.le_refl _) hi he
  · exact Or.inl (kpos_none (fun j hj e => h ⟨j, hj, e⟩))

section
variable {P : Value → Value → Value → Kn → Prop}
theorem kdrop_more {ks : List Kn} {i : Nat} (h : i < ks.length) (c : Int) : kdrop (ks.take (i + 1)) c = kdrop (ks.take i) c ++ (if (kAt ks i).c = c then [] else [kAt ks i]) := by
  rw [List.take_succ_eq_append_getElem h, kAt_eq h]
  unfold kdrop
  rw [List.filter_append]
  congr 1
  by_cases e : ks[i].c = c <;> simp [List.filter, e]
theorem kdrop_le (ks : List Kn) (c : Int) : (kdrop ks c).length ≤ ks.length := List.length_filter_le _ _
theorem bx_no {W : World} {g : Nat} {cs : Array Value} {t : TypeId} (h : BX W g t cs) (hne : t ≠ 39) : ∀ cs', W.heap[g]? = some (Obj.cells cs' 39 (0, 0)) → False := fun cs' e => by
  unfold BX at h
  rw [h] at e
  injection e with e
  injection e with _ e _
  exact hne e
end
end Go.Proofs.YtdbklklmpnlinaaGreat

namespace Go.Proofs.YtdbklklmpnlinaaGreat
open Go.RowKit Go.Maps

theorem bx3 (w : World) (t1 t2 t3 : TypeId) (c1 c2 c3 : Array Value) : ∃ W, W = ((w.alloc (.cells c1 t1)).alloc (.cells c2 t2)).alloc (.cells c3 t3) ∧ BX W w.heap.size t1 c1 ∧ BX W (w.heap.size + 1) t2 c2 ∧ BX W (w.heap.size + 2) t3 c3 ∧ Below w.heap.size w W ∧ W.heap.size = w.heap.size + 3 := by
  obtain ⟨W, hW, h1, h2, hb⟩ := bx2 w t1 t2 c1 c2
  have hs : W.heap.size = w.heap.size + 2 := by rw [hW, World.size_alloc, World.size_alloc]
  have hb2 : Below W.heap.size W (W.alloc (.cells c3 t3)) := (Below.refl _ _).alloc (Nat.le_refl _) _
  refine ⟨W.alloc (.cells c3 t3), by rw [hW], h1.below hb2, h2.below hb2, ?_, hb.trans (hb2.mono hb.size), by rw [World.size_alloc, hs]⟩
  have h := BX.new W t3 c3
  rw [hs] at h
  exact h
theorem BX.set {V : World} {A : Nat} {t : TypeId} {cs : Array Value} (h : BX V A t cs) (i : Nat) (u : Value) : BX (V.setCell ⟨A, i, none⟩ u) A t (cs.setIfInBounds i u) := heap_setCell_same V A i cs t u h
theorem BX.far {V : World} {A : Nat} {t : TypeId} {cs : Array Value} (h : BX V A t cs) {p : Addr} (hne : A ≠ p.block) (u : Value) : BX (V.setCell p u) A t cs := (Below.heap_setCell V p u A hne).trans h
theorem lackK_f (k kk : Int) : lackK k true 3 = lackK k false kk := by unfold lackK; split <;> rfl
theorem lackM_f (k m mm : Int) : lackM k m true 0 = lackM k m false mm := by unfold lackM; split <;> rfl

section
variable {P : Value → Value → Value → Kn → Prop}
end

section
variable {P : Value → Value → Value → Kn → Prop}
end
end Go.Proofs.YtdbklklmpnlinaaGreat
