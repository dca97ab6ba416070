/- Rows of what is known of cells: such as came in, and such as are the call's own; eleven cells an element. No condition. -/
import Derived.Test.YtdbklklmpnlinaaFvMade
import Derived.Deep.AppendLies
namespace Go.Proofs.Ytdbklklmpnlinaa
open Go.RowKit Go.Maps

inductive All2 {α β : Type} (R : α → β → Prop) : List α → List β → Prop
  | nil : All2 R [] []
  | cons {a : α} {b : β} {l : List α} {m : List β} : R a b → All2 R l m → All2 R (a :: l) (b :: m)
theorem All2.append {α β : Type} {R : α → β → Prop} {l l2 : List α} {m m2 : List β} (h : All2 R l m) (h2 : All2 R l2 m2) : All2 R (l ++ l2) (m ++ m2) := by
  induction h with
  | nil => exact h2
  | cons hr _ ih => exact .cons hr ih
/-- The cells of one. -/
def Kn.cells (k : Kn) (kv vv cv : Value) : List Value := [.int .i64 k.c, .int .u64 k.wd, .int .u64 k.vr, .int .i64 k.n.lv, .string k.n.lo, .string k.n.hi, .bool k.n.la, .int .i64 k.n.nx, kv, vv, cv]
/-- Cells that are one's, its rows' values as P says. -/
def KL (P : Value → Value → Value → Kn → Prop) (l : List Value) (kn : Kn) : Prop :=
  ∃ (ak : Option Addr) (nk ck : Nat) (av : Option Addr) (nv cv : Nat) (ac : Option Addr) (nc cc : Nat), l = kn.cells (.slice ak nk ck) (.slice av nv cv) (.slice ac nc cc) ∧ P (.slice ak nk ck) (.slice av nv cv) (.slice ac nc cc) kn
/-- The rows of one read in a world. -/
def PV (w : World) (kv vv cv : Value) (kn : Kn) : Prop := KnV w (kn.val kv vv cv) kn
/-- They are the view's own. -/
def PO (w : World) (B : Nat) (kv vv cv : Value) (kn : Kn) : Prop := KnO w B (kn.val kv vv cv) kn
theorem KL.len {P : Value → Value → Value → Kn → Prop} {l : List Value} {kn : Kn} (h : KL P l kn) : l.length = 11 := by
  obtain ⟨_, _, _, _, _, _, _, _, _, rfl, _⟩ := h
  rfl
theorem KL.ones {P : Value → Value → Value → Kn → Prop} {l : List Value} {kn : Kn} (h : KL P l kn) : ∀ u ∈ l, u.oneCell' = true := by
  obtain ⟨_, _, _, _, _, _, _, _, _, rfl, _⟩ := h
  intro u hu
  simp only [Kn.cells, List.mem_cons, List.not_mem_nil, or_false] at hu
  rcases hu with rfl | rfl | rfl | rfl | rfl | rfl | rfl | rfl | rfl | rfl | rfl <;> rfl
def kAt (ks : List Kn) (j : Nat) : Kn := ks.getD j Kn.zero
theorem kAt_eq {ks : List Kn} {j : Nat} (h : j < ks.length) : kAt ks j = ks[j] := by
  unfold kAt
  rw [List.getD_eq_getElem?_getD, List.getElem?_eq_getElem h]
  rfl

/-- A slice value whose elements are these. -/
def KsAt (P : Value → Value → Value → Kn → Prop) (w : World) (v : Value) (ks : List Kn) : Prop :=
  ∃ (ao : Option Addr) (c : Nat), v = .slice ao ks.length c ∧ ks.length ≤ c ∧ c ≤ 9223372036854775807 ∧ (0 < ks.length → ∃ g o, ao = some ⟨g, o, none⟩ ∧ ∀ j, j < ks.length → ∃ l, KL P l (kAt ks j) ∧ ∀ i, i < 11 → w.cell? ⟨g, o + j * 11 + i, none⟩ = l[i]?)
theorem KsAt.nil (P : Value → Value → Value → Kn → Prop) (w : World) : KsAt P w (.slice none 0 0) [] := ⟨none, 0, rfl, Nat.le_refl _, by omega, fun h => absurd h (by simp)⟩
theorem KsAt.open {P : Value → Value → Value → Kn → Prop} {w : World} {v : Value} {ks : List Kn} (h : KsAt P w v ks) : ∃ ao c, v = .slice ao ks.length c := by
  obtain ⟨ao, c, e, _⟩ := h
  exact ⟨ao, c, e⟩
theorem KsAt.len {P : Value → Value → Value → Kn → Prop} {w : World} {ao : Option Addr} {n c : Nat} {ks : List Kn} (h : KsAt P w (.slice ao n c) ks) : n = ks.length ∧ n ≤ c ∧ c ≤ 9223372036854775807 := by
  obtain ⟨ao', c', e, h1, h2, _⟩ := h
  injection e with e1 e2 e3
  omega
theorem KsAt.keep {P : Value → Value → Value → Kn → Prop} {w w' : World} {v : Value} {ks : List Kn} (h : KsAt P w v ks) (hb : Below w.heap.size w w') : KsAt P w' v ks := by
  obtain ⟨ao, c, e, h1, h2, h3⟩ := h
  refine ⟨ao, c, e, h1, h2, fun hp => ?_⟩
  obtain ⟨g, o, e2, hc⟩ := h3 hp
  refine ⟨g, o, e2, fun j hj => ?_⟩
  obtain ⟨l, hl, hcc⟩ := hc j hj
  refine ⟨l, hl, fun i hi => ?_⟩
  have hlt : g < w.heap.size := by
    obtain ⟨x, hx⟩ : ∃ x, l[i]? = some x := ⟨_, List.getElem?_eq_getElem (by rw [hl.len]; exact hi)⟩
    exact World.block_lt_of_cell? w _ ((hcc i hi).trans hx)
  exact (hb.cell (p := ⟨g, o + j * 11 + i, none⟩) hlt).trans (hcc i hi)
/-- An element's cells. -/
theorem KsAt.get {P : Value → Value → Value → Kn → Prop} {w : World} {ao : Option Addr} {n c : Nat} {ks : List Kn} (h : KsAt P w (.slice ao n c) ks) {j : Nat} (hj : j < n) :
    ∃ (g o : Nat) (ak : Option Addr) (nk ck : Nat) (av : Option Addr) (nv cv : Nat) (ac : Option Addr) (nc cc : Nat), ao = some ⟨g, o, none⟩ ∧ P (.slice ak nk ck) (.slice av nv cv) (.slice ac nc cc) (kAt ks j) ∧
      ∀ V, Below w.heap.size w V → V.cell? ⟨g, o + j * 11, none⟩ = some (.int .i64 (kAt ks j).c) ∧ V.cell? ⟨g, o + j * 11 + 1, none⟩ = some (.int .u64 (kAt ks j).wd) ∧ V.cell? ⟨g, o + j * 11 + 2, none⟩ = some (.int .u64 (kAt ks j).vr) ∧ V.cell? ⟨g, o + j * 11 + 3, none⟩ = some (.int .i64 (kAt ks j).n.lv) ∧ V.cell? ⟨g, o + j * 11 + 4, none⟩ = some (.string (kAt ks j).n.lo) ∧ V.cell? ⟨g, o + j * 11 + 5, none⟩ = some (.string (kAt ks j).n.hi) ∧ V.cell? ⟨g, o + j * 11 + 6, none⟩ = some (.bool (kAt ks j).n.la) ∧ V.cell? ⟨g, o + j * 11 + 7, none⟩ = some (.int .i64 (kAt ks j).n.nx) ∧ V.cell? ⟨g, o + j * 11 + 8, none⟩ = some (.slice ak nk ck) ∧ V.cell? ⟨g, o + j * 11 + 9, none⟩ = some (.slice av nv cv) ∧ V.cell? ⟨g, o + j * 11 + 10, none⟩ = some (.slice ac nc cc) := by
  obtain ⟨ao', c', e, h1, h2, h3⟩ := h
  injection e with e1 e2 e3
  subst e1
  subst e2
  obtain ⟨g, o, e4, hc⟩ := h3 (by omega)
  obtain ⟨l, ⟨ak, nk, ck, av, nv, cv, ac, nc, cc, rfl, hP⟩, hcc⟩ := hc j hj
  refine ⟨g, o, ak, nk, ck, av, nv, cv, ac, nc, cc, e4, hP, fun V hV => ?_⟩
  have hlt : g < w.heap.size := World.block_lt_of_cell? w _ (hcc 0 (by omega))
  have hcv : ∀ i, i < 11 → V.cell? ⟨g, o + j * 11 + i, none⟩ = ((kAt ks j).cells (.slice ak nk ck) (.slice av nv cv) (.slice ac nc cc))[i]? := fun i hi => (hV.cell (p := ⟨g, o + j * 11 + i, none⟩) hlt).trans (hcc i hi)
  exact ⟨hcv 0 (by omega), hcv 1 (by omega), hcv 2 (by omega), hcv 3 (by omega), hcv 4 (by omega), hcv 5 (by omega), hcv 6 (by omega), hcv 7 (by omega), hcv 8 (by omega), hcv 9 (by omega), hcv 10 (by omega)⟩

/-- A row of the call's own. -/
def KsR (P : Value → Value → Value → Kn → Prop) (w : World) (B : Nat) (v : Value) (ks : List Kn) : Prop :=
  ∃ ls : List (List Value), All2 (KL P) ls ks ∧ w.ownsRow B 43 11 v ks.length ls.flatten
theorem KsR.nil (P : Value → Value → Value → Kn → Prop) (w : World) (B : Nat) : KsR P w B (.slice none 0 0) [] := ⟨[], .nil, World.ownsRow_nil _ _ _ _⟩
theorem KsR.open {P : Value → Value → Value → Kn → Prop} {w : World} {B : Nat} {v : Value} {ks : List Kn} (h : KsR P w B v ks) : ∃ ao c, v = .slice ao ks.length c := by
  obtain ⟨ls, _, h⟩ := h
  rcases h.2 with ⟨rfl, hz⟩ | ⟨g, cap, cur, rfl, _⟩
  · exact ⟨none, 0, by rw [hz]⟩
  · exact ⟨_, _, rfl⟩
theorem KsR.keep {P : Value → Value → Value → Kn → Prop} {w w' : World} {B : Nat} {v : Value} {ks : List Kn} (h : KsR P w B v ks) (hb : Below w.heap.size w w') : KsR P w' B v ks := by
  obtain ⟨ls, h1, h2⟩ := h
  exact ⟨ls, h1, fv_stays h2 hb⟩
theorem KsR.base {P : Value → Value → Value → Kn → Prop} {w : World} {B C : Nat} {v : Value} {ks : List Kn} (h : KsR P w B v ks) (hc : C ≤ B) : KsR P w C v ks := by
  obtain ⟨ls, h1, h2⟩ := h
  exact ⟨ls, h1, fv_base h2 hc⟩
theorem KsR.moved {P : Value → Value → Value → Kn → Prop} {S : Nat → Prop} {w w' : World} {B : Nat} {v : Value} {ks : List Kn} (h : KsR P w B v ks) (ht : Turn S w w') (hS : ∀ g cs, S g → w.heap[g]? = some (Obj.cells cs 43 (0, 0)) → False) : KsR P w' B v ks := by
  obtain ⟨ls, h1, h2⟩ := h
  exact ⟨ls, h1, fv_moved h2 (fun g cs hg => ht.block g (lt_of_block hg) (fun e => hS g cs e hg))⟩
theorem KL.mono {P Q : Value → Value → Value → Kn → Prop} {l : List Value} {kn : Kn} (h : KL P l kn) (hPQ : ∀ a b c, P a b c kn → Q a b c kn) : KL Q l kn := by
  obtain ⟨ak, nk, ck, av, nv, cv, ac, nc, cc, e, hP⟩ := h
  exact ⟨ak, nk, ck, av, nv, cv, ac, nc, cc, e, hPQ _ _ _ hP⟩
theorem KsR.mono {P Q : Value → Value → Value → Kn → Prop} {w : World} {B : Nat} {v : Value} {ks : List Kn} (h : KsR P w B v ks) (hPQ : ∀ a b c kn, P a b c kn → Q a b c kn) : KsR Q w B v ks := by
  obtain ⟨ls, h1, h2⟩ := h
  refine ⟨ls, ?_, h2⟩
  clear h2
  induction h1 with
  | nil => exact .nil
  | cons h _ ih => exact .cons (h.mono (fun a b c => hPQ a b c _)) ih
theorem ks_flat {P : Value → Value → Value → Kn → Prop} : ∀ {ls : List (List Value)} {ks : List Kn}, All2 (KL P) ls ks → ls.flatten.length = ks.length * 11 ∧ ls.length = ks.length ∧ (∀ u ∈ ls.flatten, u.oneCell' = true) ∧ ∀ j, j < ks.length → ∃ l, KL P l (kAt ks j) ∧ ∀ i, i < 11 → ls.flatten[j * 11 + i]? = l[i]? := by
  intro ls ks h
  induction h with
  | nil => exact ⟨rfl, rfl, (fun u hu => absurd hu (by simp)), (fun j hj => absurd hj (by simp))⟩
  | @cons l kn ls ks h hr ih =>
    obtain ⟨h1, h2, h3, h4⟩ := ih
    have hl := h.len
    refine ⟨by simp only [List.flatten_cons, List.length_append, List.length_cons, h1, hl]; omega, by simp [h2], fun u hu => ?_, fun j hj => ?_⟩
    · rw [List.flatten_cons] at hu
      rcases List.mem_append.1 hu with hu | hu
      · exact h.ones u hu
      · exact h3 u hu
    · rcases j with _ | j
      · refine ⟨l, h, fun i hi => ?_⟩
        rw [List.flatten_cons, Nat.zero_mul, Nat.zero_add, List.getElem?_append_left (by omega)]
      · obtain ⟨l2, hk, hc⟩ := h4 j (by simp at hj; omega)
        refine ⟨l2, hk, fun i hi => ?_⟩
        rw [List.flatten_cons, List.getElem?_append_right (by omega), hl, show (j + 1) * 11 + i - 11 = j * 11 + i by omega]
        exact hc i hi
theorem KsR.ks {P : Value → Value → Value → Kn → Prop} {w : World} {B : Nat} {v : Value} {ks : List Kn} (h : KsR P w B v ks) : KsAt P w v ks := by
  obtain ⟨ls, h1, h2⟩ := h
  obtain ⟨f1, f2, f3, f4⟩ := ks_flat h1
  rcases h2.2 with ⟨rfl, hz⟩ | ⟨g, cap, cur, rfl, hb, hg, hc1, hc2, hc3, hc4⟩
  · refine ⟨none, 0, by rw [hz], by omega, by omega, fun hp => by omega⟩
  · refine ⟨some ⟨g, 0, none⟩, cap, rfl, hc1, by unfold maxLen at hc2; omega, fun hp => ⟨g, 0, rfl, fun j hj => ?_⟩⟩
    obtain ⟨l, hl, hcc⟩ := f4 j hj
    refine ⟨l, hl, fun i hi => ?_⟩
    rw [← hcc i hi, ← hc4]
    have hlt : j * 11 + i < ks.length * 11 := by omega
    rw [List.getElem?_take_of_lt hlt]
    simp [World.cell?, hg, Nat.zero_add]
theorem KsR.add {P : Value → Value → Value → Kn → Prop} {w : World} {B : Nat} {v : Value} {ks : List Kn} {kn : Kn} {ls : List (List Value)} {l : List Value} (h1 : All2 (KL P) ls ks) (hl : KL P l kn) (h2 : w.ownsRow B 43 11 v (ks.length + 1) (ls.flatten ++ l)) : KsR P w B v (ks ++ [kn]) := by
  refine ⟨ls ++ [l], h1.append (.cons hl .nil), ?_⟩
  rw [List.length_append, List.flatten_append]
  simpa using h2
theorem fvInfoKn : (Try.prog.info? 43).map (fun i => (i.zero, i.size, i.bytes)) = some (some (.agg #[.int .i64 0, .int .u64 0, .int .u64 0, .int .i64 0, .string ⟨#[]⟩, .string ⟨#[]⟩, .bool false, .int .i64 0, .slice none 0 0, .slice none 0 0, .slice none 0 0]), 11, 152) := by kernel_rfl
end Go.Proofs.Ytdbklklmpnlinaa
