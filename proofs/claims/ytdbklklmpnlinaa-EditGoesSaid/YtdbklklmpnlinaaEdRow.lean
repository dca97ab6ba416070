/- Rows of changes: such as came in, and such as are the call's own; fourteen cells an element. No condition. -/
import Derived.Test.YtdbklklmpnlinaaKnRow
import Derived.Test.YtdbklklmpnlinaaNodeCloneAt
namespace Go.Proofs.Ytdbklklmpnlinaa
open Go.RowKit Go.Maps

/-- A change of a cell. -/
structure Ch where
  c : Int
  fr : Int
  wd : Int
  vr : Int
  em : Bool
  li : Bool
  n : Nod
def Ch.zero : Ch := ⟨0, 0, 0, 0, false, false, .none⟩
/-- A row in new memory, from B on, or none. -/
def RowN (w : World) (B : Nat) (t : TypeId) (v : Value) (xs : List Value) : Prop :=
  (∃ g, v = .slice (some ⟨g, 0, none⟩) xs.length xs.length ∧ B ≤ g ∧ Whole w t g xs) ∨ (v = .slice none 0 0 ∧ xs = [])
theorem RowN.of {w w' : World} {t : TypeId} {v : Value} {xs : List Value} (h : NewRow w w' t v xs) : RowN w' w.heap.size t v xs := h
theorem RowN.base {w : World} {B C : Nat} {t : TypeId} {v : Value} {xs : List Value} (h : RowN w B t v xs) (hc : C ≤ B) : RowN w C t v xs := by
  rcases h with ⟨g, h1, h2, h3⟩ | h
  · exact Or.inl ⟨g, h1, by omega, h3⟩
  · exact Or.inr h
theorem RowN.keep {w w' : World} {B : Nat} {t : TypeId} {v : Value} {xs : List Value} (h : RowN w B t v xs) (hb : Below w.heap.size w w') : RowN w' B t v xs := by
  rcases h with ⟨g, h1, h2, h3⟩ | h
  · exact Or.inl ⟨g, h1, h2, h3.keep hb⟩
  · exact Or.inr h
theorem RowN.turn {S : Nat → Prop} {w w' : World} {B : Nat} {t : TypeId} {v : Value} {xs : List Value} (h : RowN w B t v xs) (ht : Turn S w w') (hS : ∀ g cs, S g → w.heap[g]? = some (Obj.cells cs t (0, 0)) → False) : RowN w' B t v xs := by
  rcases h with ⟨g, h1, h2, h3⟩ | h
  · exact Or.inl ⟨g, h1, h2, (ht.block g (lt_of_block h3) (fun e => hS g _ e h3)).trans h3⟩
  · exact Or.inr h
theorem RowN.rd {w : World} {B : Nat} {t : TypeId} {v : Value} {xs : List Value} (h : RowN w B t v xs) (hl : xs.length ≤ 9223372036854775807) : Rd w v xs := by
  rcases h with ⟨g, rfl, h2, h3⟩ | ⟨rfl, rfl⟩
  · exact h3.rd hl
  · exact Rd.nil _
theorem RowN.open {w : World} {B : Nat} {t : TypeId} {v : Value} {xs : List Value} (h : RowN w B t v xs) : ∃ ao, v = .slice ao xs.length xs.length := by
  rcases h with ⟨g, rfl, _⟩ | ⟨rfl, rfl⟩
  · exact ⟨_, rfl⟩
  · exact ⟨none, rfl⟩
/-- A node whose rows are new, from B on; they fit. -/
structure NdO (w : World) (B : Nat) (kv vv cv : Value) (n : Nod) : Prop where
  k : RowN w B 9 kv (n.ks.map Value.string)
  v : RowN w B 30 vv (n.vs.map uv)
  c : RowN w B 3 cv (n.cs.map (Value.int .i64))
  n : n.ks.length ≤ 274877906944 ∧ n.vs.length ≤ 274877906944 ∧ n.cs.length ≤ 274877906944
theorem NdO.keep {w w' : World} {B : Nat} {kv vv cv : Value} {n : Nod} (h : NdO w B kv vv cv n) (hb : Below w.heap.size w w') : NdO w' B kv vv cv n := ⟨h.k.keep hb, h.v.keep hb, h.c.keep hb, h.n⟩
theorem NdO.base {w : World} {B C : Nat} {kv vv cv : Value} {n : Nod} (h : NdO w B kv vv cv n) (hc : C ≤ B) : NdO w C kv vv cv n := ⟨h.k.base hc, h.v.base hc, h.c.base hc, h.n⟩
theorem NdO.turn {S : Nat → Prop} {w w' : World} {B : Nat} {kv vv cv : Value} {n : Nod} (h : NdO w B kv vv cv n) (hS : Off w S) (ht : Turn S w w') : NdO w' B kv vv cv n :=
  ⟨h.k.turn ht (fun g cs e hg => (hS g cs _ e hg).1 rfl), h.v.turn ht (fun g cs e hg => (hS g cs _ e hg).2.1 rfl), h.c.turn ht (fun g cs e hg => (hS g cs _ e hg).2.2 rfl), h.n⟩
theorem NdO.at_ {w : World} {B : Nat} {ak av ac : Option Addr} {nk ck nv cv nc cc : Nat} {n : Nod} (h : NdO w B (.slice ak nk ck) (.slice av nv cv) (.slice ac nc cc) n) : nk = n.ks.length ∧ ck = n.ks.length ∧ nv = n.vs.length ∧ cv = n.vs.length ∧ nc = n.cs.length ∧ cc = n.cs.length ∧ NdAt w ak av ac nk ck nv cv nc cc n.ks n.vs n.cs := by
  obtain ⟨a1, e1⟩ := h.k.open
  obtain ⟨a2, e2⟩ := h.v.open
  obtain ⟨a3, e3⟩ := h.c.open
  rw [List.length_map] at e1 e2 e3
  injection e1 with _ e11 e12
  injection e2 with _ e21 e22
  injection e3 with _ e31 e32
  refine ⟨e11, e12, e21, e22, e31, e32, ⟨h.k.rd ?_, h.v.rd ?_, h.c.rd ?_⟩⟩ <;> (rw [List.length_map]; have := h.n; omega)
theorem NdO.zero (w : World) (B : Nat) : NdO w B (.slice none 0 0) (.slice none 0 0) (.slice none 0 0) .none := ⟨Or.inr ⟨rfl, rfl⟩, Or.inr ⟨rfl, rfl⟩, Or.inr ⟨rfl, rfl⟩, ⟨Nat.zero_le _, Nat.zero_le _, Nat.zero_le _⟩⟩
/-- The rows of a change's node are new, from B on. -/
def PC (w : World) (B : Nat) (kv vv cv : Value) (x : Ch) : Prop := NdO w B kv vv cv x.n
/-- The cells of one. -/
def Ch.cells (k : Ch) (kv vv cv : Value) : List Value := [.int .i64 k.c, .int .i64 k.fr, .int .u64 k.wd, .int .u64 k.vr, .bool k.em, .bool k.li, .int .i64 k.n.lv, .string k.n.lo, .string k.n.hi, .bool k.n.la, .int .i64 k.n.nx, kv, vv, cv]
/-- Cells that are one's, its rows' values as P says. -/
def CL (P : Value → Value → Value → Ch → Prop) (l : List Value) (kn : Ch) : Prop :=
  ∃ (ak : Option Addr) (nk ck : Nat) (av : Option Addr) (nv cv : Nat) (ac : Option Addr) (nc cc : Nat), l = kn.cells (.slice ak nk ck) (.slice av nv cv) (.slice ac nc cc) ∧ P (.slice ak nk ck) (.slice av nv cv) (.slice ac nc cc) kn
theorem CL.len {P : Value → Value → Value → Ch → Prop} {l : List Value} {kn : Ch} (h : CL P l kn) : l.length = 14 := by
  obtain ⟨_, _, _, _, _, _, _, _, _, rfl, _⟩ := h
  rfl
theorem CL.ones {P : Value → Value → Value → Ch → Prop} {l : List Value} {kn : Ch} (h : CL P l kn) : ∀ u ∈ l, u.oneCell' = true := by
  obtain ⟨_, _, _, _, _, _, _, _, _, rfl, _⟩ := h
  intro u hu
  simp only [Ch.cells, List.mem_cons, List.not_mem_nil, or_false] at hu
  rcases hu with rfl | rfl | rfl | rfl | rfl | rfl | rfl | rfl | rfl | rfl | rfl | rfl | rfl | rfl <;> rfl
def cAt (ks : List Ch) (j : Nat) : Ch := ks.getD j Ch.zero
theorem cAt_eq {ks : List Ch} {j : Nat} (h : j < ks.length) : cAt ks j = ks[j] := by
  unfold cAt
  rw [List.getD_eq_getElem?_getD, List.getElem?_eq_getElem h]
  rfl

/-- A slice value whose elements are these. -/
def CsAt (P : Value → Value → Value → Ch → Prop) (w : World) (v : Value) (ks : List Ch) : Prop :=
  ∃ (ao : Option Addr) (c : Nat), v = .slice ao ks.length c ∧ ks.length ≤ c ∧ c ≤ 9223372036854775807 ∧ (0 < ks.length → ∃ g o, ao = some ⟨g, o, none⟩ ∧ ∀ j, j < ks.length → ∃ l, CL P l (cAt ks j) ∧ ∀ i, i < 14 → w.cell? ⟨g, o + j * 14 + i, none⟩ = l[i]?)
theorem CsAt.nil (P : Value → Value → Value → Ch → Prop) (w : World) : CsAt P w (.slice none 0 0) [] := ⟨none, 0, rfl, Nat.le_refl _, by omega, fun h => absurd h (by simp)⟩
theorem CsAt.open {P : Value → Value → Value → Ch → Prop} {w : World} {v : Value} {ks : List Ch} (h : CsAt P w v ks) : ∃ ao c, v = .slice ao ks.length c := by
  obtain ⟨ao, c, e, _⟩ := h
  exact ⟨ao, c, e⟩
theorem CsAt.len {P : Value → Value → Value → Ch → Prop} {w : World} {ao : Option Addr} {n c : Nat} {ks : List Ch} (h : CsAt P w (.slice ao n c) ks) : n = ks.length ∧ n ≤ c ∧ c ≤ 9223372036854775807 := by
  obtain ⟨ao', c', e, h1, h2, _⟩ := h
  injection e with e1 e2 e3
  omega
theorem CsAt.keep {P : Value → Value → Value → Ch → Prop} {w w' : World} {v : Value} {ks : List Ch} (h : CsAt P w v ks) (hb : Below w.heap.size w w') : CsAt P w' v ks := by
  obtain ⟨ao, c, e, h1, h2, h3⟩ := h
  refine ⟨ao, c, e, h1, h2, fun hp => ?_⟩
  obtain ⟨g, o, e2, hc⟩ := h3 hp
  refine ⟨g, o, e2, fun j hj => ?_⟩
  obtain ⟨l, hl, hcc⟩ := hc j hj
  refine ⟨l, hl, fun i hi => ?_⟩
  have hlt : g < w.heap.size := by
    obtain ⟨x, hx⟩ : ∃ x, l[i]? = some x := ⟨_, List.getElem?_eq_getElem (by rw [hl.len]; exact hi)⟩
    exact World.block_lt_of_cell? w _ ((hcc i hi).trans hx)
  exact (hb.cell (p := ⟨g, o + j * 14 + i, none⟩) hlt).trans (hcc i hi)
/-- An element's cells. -/
theorem CsAt.get {P : Value → Value → Value → Ch → Prop} {w : World} {ao : Option Addr} {n c : Nat} {ks : List Ch} (h : CsAt P w (.slice ao n c) ks) {j : Nat} (hj : j < n) :
    ∃ (g o : Nat) (ak : Option Addr) (nk ck : Nat) (av : Option Addr) (nv cv : Nat) (ac : Option Addr) (nc cc : Nat), ao = some ⟨g, o, none⟩ ∧ P (.slice ak nk ck) (.slice av nv cv) (.slice ac nc cc) (cAt ks j) ∧
      ∀ V, Below w.heap.size w V → ∀ i, i < 14 → V.cell? ⟨g, o + j * 14 + i, none⟩ = ((cAt ks j).cells (.slice ak nk ck) (.slice av nv cv) (.slice ac nc cc))[i]? := by
  obtain ⟨ao', c', e, h1, h2, h3⟩ := h
  injection e with e1 e2 e3
  subst e1
  subst e2
  obtain ⟨g, o, e4, hc⟩ := h3 (by omega)
  obtain ⟨l, ⟨ak, nk, ck, av, nv, cv, ac, nc, cc, rfl, hP⟩, hcc⟩ := hc j hj
  refine ⟨g, o, ak, nk, ck, av, nv, cv, ac, nc, cc, e4, hP, fun V hV i hi => ?_⟩
  have hlt : g < w.heap.size := World.block_lt_of_cell? w _ (hcc 0 (by omega))
  exact (hV.cell (p := ⟨g, o + j * 14 + i, none⟩) hlt).trans (hcc i hi)

/-- A row of the call's own. -/
def CsR (P : Value → Value → Value → Ch → Prop) (w : World) (B : Nat) (v : Value) (ks : List Ch) : Prop :=
  ∃ ls : List (List Value), All2 (CL P) ls ks ∧ w.ownsRow B 97 14 v ks.length ls.flatten
theorem CsR.nil (P : Value → Value → Value → Ch → Prop) (w : World) (B : Nat) : CsR P w B (.slice none 0 0) [] := ⟨[], .nil, World.ownsRow_nil _ _ _ _⟩
theorem CsR.open {P : Value → Value → Value → Ch → Prop} {w : World} {B : Nat} {v : Value} {ks : List Ch} (h : CsR P w B v ks) : ∃ ao c, v = .slice ao ks.length c := by
  obtain ⟨ls, _, h⟩ := h
  rcases h.2 with ⟨rfl, hz⟩ | ⟨g, cap, cur, rfl, _⟩
  · exact ⟨none, 0, by rw [hz]⟩
  · exact ⟨_, _, rfl⟩
theorem CsR.keep {P : Value → Value → Value → Ch → Prop} {w w' : World} {B : Nat} {v : Value} {ks : List Ch} (h : CsR P w B v ks) (hb : Below w.heap.size w w') : CsR P w' B v ks := by
  obtain ⟨ls, h1, h2⟩ := h
  exact ⟨ls, h1, fv_stays h2 hb⟩
theorem CsR.base {P : Value → Value → Value → Ch → Prop} {w : World} {B C : Nat} {v : Value} {ks : List Ch} (h : CsR P w B v ks) (hc : C ≤ B) : CsR P w C v ks := by
  obtain ⟨ls, h1, h2⟩ := h
  exact ⟨ls, h1, fv_base h2 hc⟩
theorem CsR.moved {P : Value → Value → Value → Ch → Prop} {S : Nat → Prop} {w w' : World} {B : Nat} {v : Value} {ks : List Ch} (h : CsR P w B v ks) (ht : Turn S w w') (hS : ∀ g cs, S g → w.heap[g]? = some (Obj.cells cs 97 (0, 0)) → False) : CsR P w' B v ks := by
  obtain ⟨ls, h1, h2⟩ := h
  exact ⟨ls, h1, fv_moved h2 (fun g cs hg => ht.block g (lt_of_block hg) (fun e => hS g cs e hg))⟩
theorem CL.mono {P Q : Value → Value → Value → Ch → Prop} {l : List Value} {kn : Ch} (h : CL P l kn) (hPQ : ∀ a b c, P a b c kn → Q a b c kn) : CL Q l kn := by
  obtain ⟨ak, nk, ck, av, nv, cv, ac, nc, cc, e, hP⟩ := h
  exact ⟨ak, nk, ck, av, nv, cv, ac, nc, cc, e, hPQ _ _ _ hP⟩
theorem CsR.mono {P Q : Value → Value → Value → Ch → Prop} {w : World} {B : Nat} {v : Value} {ks : List Ch} (h : CsR P w B v ks) (hPQ : ∀ a b c kn, P a b c kn → Q a b c kn) : CsR Q w B v ks := by
  obtain ⟨ls, h1, h2⟩ := h
  refine ⟨ls, ?_, h2⟩
  clear h2
  induction h1 with
  | nil => exact .nil
  | cons h _ ih => exact .cons (h.mono (fun a b c => hPQ a b c _)) ih
theorem cs_flat {P : Value → Value → Value → Ch → Prop} : ∀ {ls : List (List Value)} {ks : List Ch}, All2 (CL P) ls ks → ls.flatten.length = ks.length * 14 ∧ ls.length = ks.length ∧ (∀ u ∈ ls.flatten, u.oneCell' = true) ∧ ∀ j, j < ks.length → ∃ l, CL P l (cAt ks j) ∧ ∀ i, i < 14 → ls.flatten[j * 14 + i]? = l[i]? := by
  intro ls ks h
  induction h with
  | nil => exact ⟨rfl, rfl, (fun u hu => absurd hu (by simp)), (fun j hj => absurd hj (by simp))⟩
  | @cons l kn ls ks h hr ih =>
    obtain ⟨h1, h2, h3, h4⟩ := ih
    have hl := h.len
    refine ⟨by simp only [List.flatten_cons, List.length_append, List.length_cons, h1, hl]; omega, by simp [h2], fun u hu => ?_, fun j hj => ?_⟩
    · rw [List.flatten_cons] at hu
      rcases List.mem_append.1 hu with hu | hu
      · exact h.ones u hu
      · exact h3 u hu
    · rcases j with _ | j
      · refine ⟨l, h, fun i hi => ?_⟩
        rw [List.flatten_cons, Nat.zero_mul, Nat.zero_add, List.getElem?_append_left (by omega)]
      · obtain ⟨l2, hk, hc⟩ := h4 j (by simp at hj; omega)
        refine ⟨l2, hk, fun i hi => ?_⟩
        rw [List.flatten_cons, List.getElem?_append_right (by omega), hl, show (j + 1) * 14 + i - 14 = j * 14 + i by omega]
        exact hc i hi
theorem CsR.ks {P : Value → Value → Value → Ch → Prop} {w : World} {B : Nat} {v : Value} {ks : List Ch} (h : CsR P w B v ks) : CsAt P w v ks := by
  obtain ⟨ls, h1, h2⟩ := h
  obtain ⟨f1, f2, f3, f4⟩ := cs_flat h1
  rcases h2.2 with ⟨rfl, hz⟩ | ⟨g, cap, cur, rfl, hb, hg, hc1, hc2, hc3, hc4⟩
  · refine ⟨none, 0, by rw [hz], by omega, by omega, fun hp => by omega⟩
  · refine ⟨some ⟨g, 0, none⟩, cap, rfl, hc1, by unfold maxLen at hc2; omega, fun hp => ⟨g, 0, rfl, fun j hj => ?_⟩⟩
    obtain ⟨l, hl, hcc⟩ := f4 j hj
    refine ⟨l, hl, fun i hi => ?_⟩
    rw [← hcc i hi, ← hc4]
    have hlt : j * 14 + i < ks.length * 14 := by omega
    rw [List.getElem?_take_of_lt hlt]
    simp [World.cell?, hg, Nat.zero_add]
theorem CsR.add {P : Value → Value → Value → Ch → Prop} {w : World} {B : Nat} {v : Value} {ks : List Ch} {kn : Ch} {ls : List (List Value)} {l : List Value} (h1 : All2 (CL P) ls ks) (hl : CL P l kn) (h2 : w.ownsRow B 97 14 v (ks.length + 1) (ls.flatten ++ l)) : CsR P w B v (ks ++ [kn]) := by
  refine ⟨ls ++ [l], h1.append (.cons hl .nil), ?_⟩
  rw [List.length_append, List.flatten_append]
  simpa using h2
theorem chInfo : (Try.prog.info? 97).map (fun i => (i.zero, i.size, i.bytes)) = some (some (.agg #[.int .i64 0, .int .i64 0, .int .u64 0, .int .u64 0, .bool false, .bool false, .int .i64 0, .string ⟨#[]⟩, .string ⟨#[]⟩, .bool false, .int .i64 0, .slice none 0 0, .slice none 0 0, .slice none 0 0]), 14, 168) := by kernel_rfl
end Go.Proofs.Ytdbklklmpnlinaa
