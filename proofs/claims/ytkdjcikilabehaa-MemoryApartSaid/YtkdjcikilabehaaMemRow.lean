/- Rows of structs of many cells: an element is read, another one is put in its place. No walk. -/
import Derived.Test.YtkdjcikilabehaaMemVal
namespace Go.Proofs.Ytkdjcikilabehaa
open Go.RowKit

theorem blk_wrs2 {g : Nat} {t : TypeId} : ∀ (vs : List Value) (W : World) (pre rest : List Value), Blk W g t (pre ++ rest).toArray → vs.length ≤ rest.length → Blk (wrs W g pre.length vs) g t (pre ++ vs ++ rest.drop vs.length).toArray
  | [], W, pre, rest, h, _ => by
    rw [List.append_nil, List.length_nil, List.drop_zero]
    exact h
  | v :: vs, W, pre, [], h, hl => by simp at hl
  | v :: vs, W, pre, r :: rest, h, hl => by
    have h1 := h.set_ pre.length v
    rw [List.setIfInBounds_toArray, show (pre ++ r :: rest).set pre.length v = (pre ++ [v]) ++ rest by
      rw [List.set_append_right _ _ (Nat.le_refl _), Nat.sub_self, List.set_cons_zero, List.append_assoc]; rfl] at h1
    have h2 := blk_wrs2 vs _ (pre ++ [v]) rest h1 (by simpa using hl)
    rw [List.length_append] at h2
    simp only [List.append_assoc, List.cons_append, List.nil_append, List.length_cons, List.length_nil, Nat.zero_add, List.drop_succ_cons] at h2 ⊢
    exact h2
section
variable {α : Type} {f : α → List Value} {k : Nat}
theorem rowc_len (hf : ∀ x, (f x).length = k) (l : List α) : (l.flatMap f).length = l.length * k := by
  induction l with
  | nil => simp
  | cons x l ih => rw [List.flatMap_cons, List.length_append, hf, ih, List.length_cons, Nat.add_mul, Nat.one_mul, Nat.add_comm]
theorem rowc_take (hf : ∀ x, (f x).length = k) (l : List α) (j : Nat) : (l.take j).flatMap f = (l.flatMap f).take (j * k) := by
  induction l generalizing j with
  | nil => simp
  | cons x l ih =>
    cases j with
    | zero => simp
    | succ j =>
      have e1 : (f x).take ((j + 1) * k) = f x := List.take_of_length_le (by rw [hf, Nat.add_mul]; omega)
      have e2 : (j + 1) * k - k = j * k := by rw [Nat.add_mul]; omega
      rw [List.take_succ_cons, List.flatMap_cons, List.flatMap_cons, ih, List.take_append, hf, e1, e2]
theorem rowc_drop (hf : ∀ x, (f x).length = k) (l : List α) (j : Nat) : (l.drop j).flatMap f = (l.flatMap f).drop (j * k) := by
  induction l generalizing j with
  | nil => simp
  | cons x l ih =>
    cases j with
    | zero => simp
    | succ j =>
      have e1 : (f x).drop ((j + 1) * k) = [] := List.drop_of_length_le (by rw [hf, Nat.add_mul]; omega)
      have e2 : (j + 1) * k - k = j * k := by rw [Nat.add_mul]; omega
      rw [List.drop_succ_cons, List.flatMap_cons, ih, List.drop_append, hf, e1, e2, List.nil_append]
theorem rowc_set (hf : ∀ x, (f x).length = k) (l : List α) (j : Nat) (x : α) (hj : j < l.length) : (l.set j x).flatMap f = (l.flatMap f).take (j * k) ++ f x ++ (l.flatMap f).drop ((j + 1) * k) := by
  rw [List.set_eq_take_append_cons_drop, if_pos hj, List.flatMap_append, List.flatMap_cons, rowc_take hf, rowc_drop hf, List.append_assoc]
theorem rowc_get (hf : ∀ x, (f x).length = k) (l : List α) (j i : Nat) (hj : j < l.length) (hi : i < k) : (l.flatMap f)[j * k + i]? = (f l[j])[i]? := by
  have h1 := rowc_drop hf l j
  rw [List.drop_eq_getElem_cons hj, List.flatMap_cons] at h1
  rw [← List.getElem?_drop, ← h1, List.getElem?_append_left (by rw [hf]; exact hi)]
variable {W : World} {g : Nat} {t : TypeId} {l : List α}
theorem rowc_range (hf : ∀ x, (f x).length = k) (h : Blk W g t (l.flatMap f).toArray) (j : Nat) (hj : j < l.length) : W.rangeAt g (j * k) (f l[j]) := fun i v hv => by
  have hi : i < k := by
    have := (List.getElem?_eq_some_iff.1 hv).1
    rwa [hf] at this
  rw [h.cell, List.getElem?_toArray, rowc_get hf l j i hj hi]
  exact hv
theorem rowc_put (hf : ∀ x, (f x).length = k) (h : Blk W g t (l.flatMap f).toArray) (j : Nat) (hj : j < l.length) (x : α) : Blk (wrs W g (j * k) (f x)) g t ((l.set j x).flatMap f).toArray ∧ Keep (fun i => i = g) W (wrs W g (j * k) (f x)) := by
  have hl := rowc_len hf l
  have hjk : j * k + k ≤ l.length * k := by
    have := Nat.mul_le_mul_right k (show j + 1 ≤ l.length from hj)
    rwa [Nat.add_mul, Nat.one_mul] at this
  have hpl : ((l.flatMap f).take (j * k)).length = j * k := by rw [List.length_take, hl]; omega
  rw [← List.take_append_drop (j * k) (l.flatMap f)] at h
  have h2 := blk_wrs2 (f x) W _ _ h (by rw [hf, List.length_drop, hl]; omega)
  rw [hpl, hf, List.drop_drop] at h2
  rw [rowc_set hf l j x hj, show (j + 1) * k = j * k + k by rw [Nat.add_mul, Nat.one_mul]]
  exact ⟨h2, wrs_keep _ _ _⟩
variable {P : Program} {ops : Array Oper} {rest : List Oper} {o : Oper} {a : Act} {w : World} {Q : Exit → Act → World → Prop}
theorem wp_store_row (hf : ∀ x, (f x).length = k) {K : Act → World → Prop} (ty : TypeId) (x y : Operand) (ho : o.op = .store ty x y) (g : Nat) (t : TypeId) (l : List α) (j : Nat) (hj : j < l.length) (z : α) (q : Nat) (hq : q = j * k)
    (hx : a.eval x = .pointer (some ⟨g, q, none⟩)) (hy : a.eval y = .agg (f z).toArray) (hb : Blk w g t (l.flatMap f).toArray) (hi : (P.info? ty).map (·.size) = some k) (h1 : ∀ v ∈ f z, v.oneCell' = true)
    (h : ∀ W, Hid (Blk W g t ((l.set j z).flatMap f).toArray) → Hid (Keep (fun i => i = g) w W) → K (a.put o.dst undef) W) : o.wp P a w K Q := by
  subst hq
  obtain ⟨hF, hK⟩ := rowc_put hf hb j hj z
  refine wp_store_mid ty x y ho g (j * k) (f z).toArray hx hy (fun i hi2 => ?_) (by rw [hi]; simp [hf]) (all_oneCell_toArray h1) ?_
  · have hik : i < k := by simpa [hf] using hi2
    refine ⟨?_, hb.frozen _⟩
    rw [hb.cell, List.getElem?_toArray, rowc_get hf l j i hj hik]
    simp [hf, hik]
  · rw [show (f z).toArray.toList = f z from by simp, ← wrs_eq]
    exact h _ (Lib.hid hF) (Lib.hid hK)
theorem wpList_store_row (hf : ∀ x, (f x).length = k) (hgd : o.guard = none) (ty : TypeId) (x y : Operand) (ho : o.op = .store ty x y) (g : Nat) (t : TypeId) (l : List α) (j : Nat) (hj : j < l.length) (z : α) (q : Nat) (hq : q = j * k)
    (hx : a.eval x = .pointer (some ⟨g, q, none⟩)) (hy : a.eval y = .agg (f z).toArray) (hb : Blk w g t (l.flatMap f).toArray) (hi : (P.info? ty).map (·.size) = some k) (h1 : ∀ v ∈ f z, v.oneCell' = true)
    (h : ∀ W, Hid (Blk W g t ((l.set j z).flatMap f).toArray) → Hid (Keep (fun i => i = g) w W) → wpList P ops Q rest (a.put o.dst undef) W) : wpList P ops Q (o :: rest) a w :=
  wpList_plain hgd fun _ hK => wp_store_row hf ty x y ho g t l j hj z q hq hx hy hb hi h1 (fun W h2 h3 => hK _ _ (h W h2 h3))
theorem step_store_row (hf : ∀ x, (f x).length = k) {K : Act → World → Prop} {E : Prop} (hgd : o.guard = none) (ty : TypeId) (x y : Operand) (ho : o.op = .store ty x y) (g : Nat) (t : TypeId) (l : List α) (j : Nat) (hj : j < l.length) (z : α) (q : Nat) (hq : q = j * k)
    (hx : a.eval x = .pointer (some ⟨g, q, none⟩)) (hy : a.eval y = .agg (f z).toArray) (hb : Blk w g t (l.flatMap f).toArray) (hi : (P.info? ty).map (·.size) = some k) (h1 : ∀ v ∈ f z, v.oneCell' = true)
    (h : ∀ W, Hid (Blk W g t ((l.set j z).flatMap f).toArray) → Hid (Keep (fun i => i = g) w W) → K (a.put o.dst undef) W) : if Region.wanted o (yielded ops a.tmps) = true then Oper.wp P o a w K Q else E := by
  have hw : Region.wanted o (yielded ops a.tmps) = true := by simp [Region.wanted, hgd]
  rw [if_pos hw]
  exact wp_store_row hf ty x y ho g t l j hj z q hq hx hy hb hi h1 h
theorem wpList_load_row_ (hf : ∀ x, (f x).length = k) (hgd : o.guard = none) (ty : TypeId) (x : Operand) (ho : o.op = .load ty x) (g : Nat) (t : TypeId) (l : List α) (j : Nat) (hj : j < l.length) (z : α) (hz : l[j] = z) (q : Nat) (hq : q = j * k) (d : TypeDesc) (hx : a.eval x = .pointer (some ⟨g, q, none⟩))
    (hb : Blk w g t (l.flatMap f).toArray) (hu : P.underlying ty = some d) (hd : d.isRow = true) (hi : (P.info? ty).map (·.size) = some k) (h : wpList P ops Q rest (a.put o.dst (.agg (f z).toArray)) w) : wpList P ops Q (o :: rest) a w := by
  subst hq hz
  exact wpList_load_mid hgd ty x ho g (j * k) hx (f l[j]) d (rowc_range hf hb j hj) hu hd (by rw [hi, hf]) h
end
theorem bl_len (b : Bl) : b.cells.length = 17 := rfl
theorem op_len (o : OpV) : o.cells.length = 5 := rfl
theorem bl_one (b : Bl) : ∀ v ∈ b.cells, v.oneCell' = true := by simp [Bl.cells, Value.oneCell']
theorem op_one (o : OpV) : ∀ v ∈ o.cells, v.oneCell' = true := by simp [OpV.cells, Value.oneCell']
theorem szOp : (Try.prog.info? 43).map (·.size) = some 5 := by kernel_rfl
end Go.Proofs.Ytkdjcikilabehaa
