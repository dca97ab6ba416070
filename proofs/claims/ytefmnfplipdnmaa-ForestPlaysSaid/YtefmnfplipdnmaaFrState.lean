/- The law ForestPlays: what holds between two acts; the acts. No condition. -/
import Derived.Test.YtefmnfplipdnmaaFvSpare2
import Derived.Test.YtefmnfplipdnmaaFrLives
import Derived.Test.YtefmnfplipdnmaaFrTake
import Derived.Test.YtefmnfplipdnmaaFrCells
namespace Go.Proofs.Ytefmnfplipdnmaa
open Go.RowKit Go.Maps

section
variable {w w' : World} {B A b N : Nat} {sv : Value} {ks : List Kn} {ss : List (Int × Int)} {k m : Int}
theorem FV.noKn (h : FV w B A b sv N ks ss k m) : ∀ g cs, VS A b sv g → w.heap[g]? = some (Obj.cells cs 39 (0, 0)) → False := by
  obtain ⟨D, ⟨es, cl, hb, _⟩, _⟩ := h.map
  intro g cs hS hg
  rcases hS with rfl | rfl | hS
  · have := h.view
    unfold BX at this
    rw [this] at hg
    injection hg with hg
    injection hg with _ hg _
    exact absurd hg (by decide)
  · rw [hb] at hg
    cases hg
  · obtain ⟨_, cs2, h2⟩ := fv_block h.sp hS
    rw [h2] at hg
    injection hg with hg
    injection hg with _ hg _
    exact absurd hg (by decide)
/-- What the document's view has, beside a code's whose blocks are V. -/
structure DP (w0 w : World) (V : Nat → Prop) (G : Nat) (lo : Option Addr) (ln lc : Nat) (po : Option Addr) (pn pc : Nat) (ks : List Kn) (ss : List (Int × Int)) (k m : Int) : Prop where
  box : BX w G 31 #[.slice lo ln lc, .slice po pn pc, .int .i64 k, .int .i64 m]
  row : KsR (PV w0) w w0.heap.size (.slice lo ln lc) ks
  spr : w.ownsRow w0.heap.size 47 2 (.slice po pn pc) pn (spC ss)
  len : pn = ss.length
  off : ∀ g, (Value.slice po pn pc).ownBlock = some g → ¬ V g
  out : ¬ V G
  ge : w0.heap.size ≤ G
theorem fv_moved1 {w w' : World} {B k n : Nat} {t : TypeId} {v : Value} {xs : List Value} (h : w.ownsRow B t k v n xs) (hh : ∀ g, v.ownBlock = some g → w'.heap[g]? = w.heap[g]?) : w'.ownsRow B t k v n xs := by
  refine ⟨h.1, ?_⟩
  rcases h.2 with hn | ⟨g, cap, cur, rfl, hbg, hg, rest⟩
  · exact Or.inl hn
  · exact Or.inr ⟨g, cap, cur, rfl, hbg, by rw [hh g rfl]; exact hg, rest⟩
variable {w0 : World} {V V' : Nat → Prop} {G ln lc pn pc : Nat} {lo po : Option Addr}
theorem DP.turn (h : DP w0 w V G lo ln lc po pn pc ks ss k m) (ht : Turn V w w') (hn : ∀ g cs, V g → w.heap[g]? = some (Obj.cells cs 39 (0, 0)) → False) (hV : ∀ g, g < w.heap.size → V' g → V g) : DP w0 w' V' G lo ln lc po pn pc ks ss k m where
  box := (ht.block G (lt_of_block h.box) h.out).trans h.box
  row := h.row.moved ht hn
  spr := fv_moved1 h.spr (fun g hg => by
    obtain ⟨_, cs, hc⟩ := fv_block h.spr hg
    exact ht.block g (lt_of_block hc) (h.off g hg))
  len := h.len
  off := fun g hg hv => by
    obtain ⟨_, cs, hc⟩ := fv_block h.spr hg
    exact h.off g hg (hV g (lt_of_block hc) hv)
  out := fun hv => h.out (hV G (lt_of_block h.box) hv)
  ge := h.ge
theorem DP.keep (h : DP w0 w V G lo ln lc po pn pc ks ss k m) (hb : Below w.heap.size w w') : DP w0 w' V G lo ln lc po pn pc ks ss k m where
  box := h.box.below hb
  row := h.row.keep hb
  spr := fv_stays h.spr hb
  len := h.len
  off := h.off
  out := h.out
  ge := h.ge
theorem bx_ne {a c : Nat} {t t2 : TypeId} {x y : Array Value} (h1 : BX w a t x) (h2 : BX w c t2 y) (hne : t ≠ t2) : a ≠ c := fun e => by
  subst e
  unfold BX at h1 h2
  rw [h1] at h2
  injection h2 with h2
  injection h2 with _ h2 _
  exact hne h2
theorem DP.renew {k' m' : Int} (h : DP w0 w V G lo ln lc po pn pc ks ss k m) (ht : Turn (fun g => V g ∨ g = G) w w') (hn : ∀ g cs, V g → w.heap[g]? = some (Obj.cells cs 39 (0, 0)) → False) (hbox : BX w' G 31 #[.slice lo ln lc, .slice po pn pc, .int .i64 k', .int .i64 m']) : DP w0 w' V G lo ln lc po pn pc ks ss k' m' where
  box := hbox
  row := h.row.moved ht (fun g cs hS hg => by
    rcases hS with hS | rfl
    · exact hn g cs hS hg
    · exact bx_no h.box (by decide) cs hg)
  spr := fv_moved1 h.spr (fun g hg => by
    obtain ⟨_, cs, hc⟩ := fv_block h.spr hg
    refine ht.block g (lt_of_block hc) (fun e => ?_)
    rcases e with e | e
    · exact h.off g hg e
    · subst e
      have := h.box
      unfold BX at this
      rw [this] at hc
      injection hc with hc
      injection hc with _ hc _
      exact absurd hc (by decide))
  len := h.len
  off := h.off
  out := h.out
  ge := h.ge
theorem FV.box {g : Nat} {t : TypeId} {cs : Array Value} (h : FV w B A b sv N ks ss k m) (ht : Turn (fun j => j = g) w w') (hb : BX w g t cs) (hne : t ≠ 9 ∧ t ≠ 32 ∧ t ≠ 3) (hg : ¬ VS A b sv g) : FV w' B A b sv N ks ss k m :=
  h.turn ht (fun j hj e => by have e' : j = g := e; subst e'; exact hg hj) (fun j cs2 t2 e hj => by
    have e' : j = g := e
    subst e'
    unfold BX at hb
    rw [hb] at hj
    injection hj with hj
    injection hj with _ hj _
    rw [← hj]
    exact hne)
theorem KnO.box {v : Value} {kn : Kn} {g : Nat} {t : TypeId} {cs : Array Value} (h : KnO w B v kn) (ht : Turn (fun j => j = g) w w') (hb : BX w g t cs) (hne : t ≠ 9 ∧ t ≠ 32 ∧ t ≠ 3) : KnO w' B v kn :=
  h.turn (S := fun j => j = g) (fun j cs2 t2 e hj => by
    have e' : j = g := e
    subst e'
    unfold BX at hb
    rw [hb] at hj
    injection hj with hj
    injection hj with _ hj _
    rw [← hj]
    exact hne) ht
/-- A box's four cells, written. -/
def set4 (W : World) (G : Nat) (a b c d : Value) : World := (((W.setCell ⟨G, 0, none⟩ a).setCell ⟨G, 1, none⟩ b).setCell ⟨G, 2, none⟩ c).setCell ⟨G, 3, none⟩ d
theorem set4_turn (W : World) (G : Nat) (a b c d : Value) : Turn (fun g => g = G) W (set4 W G a b c d) :=
  Turn.setCell (S := fun g => g = G) (Turn.setCell (S := fun g => g = G) (Turn.setCell (S := fun g => g = G) (Turn.setCell (S := fun g => g = G) (Turn.refl _ W) (Or.inl rfl) _) (Or.inl rfl) _) (Or.inl rfl) _) (Or.inl rfl) _
theorem view_type {cs : Array Value} {t : TypeId} (h : BX w G 31 cs) {cs2 : Array Value} (hg : w.heap[G]? = some (Obj.cells cs2 t (0, 0))) : t = 31 := by
  unfold BX at h
  rw [h] at hg
  injection hg with hg
  injection hg with _ hg _
  exact hg.symm
theorem DP.put {ks' : List Kn} {ss' : List (Int × Int)} {k' m' : Int} {ln' lc' pn' pc' : Nat} {lo' po' : Option Addr} (h : DP w0 w V G lo ln lc po pn pc ks ss k m) (hr : KsR (PV w0) w w0.heap.size (.slice lo' ln' lc') ks') (hs : w.ownsRow w0.heap.size 47 2 (.slice po' pn' pc') pn' (spC ss')) (hl : pn' = ss'.length) (ho : ∀ g, (Value.slice po' pn' pc').ownBlock = some g → ¬ V g) :
    DP w0 (set4 w G (.slice lo' ln' lc') (.slice po' pn' pc') (.int .i64 k') (.int .i64 m')) V G lo' ln' lc' po' pn' pc' ks' ss' k' m' where
  box := (((h.box.set 0 _).set 1 _).set 2 _).set 3 _
  row := hr.moved (set4_turn _ _ _ _ _ _) (fun g cs e hg => by
    have e' : g = G := e
    subst e'
    exact absurd (view_type h.box hg) (by decide))
  spr := fv_moved hs (fun g cs hg => (set4_turn w G _ _ _ _).block g (lt_of_block hg) (fun e => by
    have e' : g = G := e
    subst e'
    exact absurd (view_type h.box hg) (by decide)))
  len := hl
  off := ho
  out := h.out
  ge := h.ge
theorem FV.put {cs : Array Value} (h : FV w B A b sv N ks ss k m) (hG : BX w G 31 cs) (ho : ¬ VS A b sv G) (x y z u : Value) : FV (set4 w G x y z u) B A b sv N ks ss k m :=
  h.turn (set4_turn w G x y z u) (fun j hj e => by have e' : j = G := e; subst e'; exact ho hj) (fun g cs2 t e hg => by
    have e' : g = G := e
    subst e'
    rw [view_type hG hg]
    decide)
theorem DP.spk (h : DP w0 w V G lo ln lc po pn pc ks ss k m) : SpAt w (.slice po pn pc) ss := sp_at h.spr h.len
theorem DP.nil (h : DP w0 w V G lo ln lc po pn pc ks ss k m) : NilN po pn pc := by
  intro e
  subst e
  rcases h.spr.2 with ⟨e, hz⟩ | ⟨g, cap, cur, e, _⟩
  · injection e with _ e1 e2
    exact ⟨e1, e2⟩
  · cases e
/-- Between two acts. -/
structure ST (w0 : World) (A b G : Nat) (w : World) (i : Nat) : Prop where
  ex : ∃ (so : Option Addr) (sn sc N : Nat) (lo : Option Addr) (ln lc : Nat) (po : Option Addr) (pn pc : Nat) (ks : List Kn) (ss : List (Int × Int)) (k m : Int),
    FV w w0.heap.size A b (.slice so sn sc) N ks ss k m ∧ DP w0 w (VS A b (.slice so sn sc)) G lo ln lc po pn pc ks ss k m ∧ KsOk ks ∧ N ≤ i ∧ ks.length ≤ i ∧ ss.length ≤ i
  below : Below w0.heap.size w0 w
theorem ST.keep {w0 w w' : World} {A b G i : Nat} (h : ST w0 A b G w i) (hb : Below w.heap.size w w') : ST w0 A b G w' i := by
  obtain ⟨so, sn, sc, N, lo, ln, lc, po, pn, pc, ks, ss, k, m, h1, h2, h3⟩ := h.ex
  exact ⟨⟨so, sn, sc, N, lo, ln, lc, po, pn, pc, ks, ss, k, m, h1.keep hb, h2.keep hb, h3⟩, h.below.trans (hb.mono h.below.size)⟩
section
variable {w w0 : World} {A b G i N sn sc ln lc pn pc ln' lc' pn' pc' : Nat} {so lo po lo' po' : Option Addr} {ks ks' : List Kn} {ss ss' : List (Int × Int)} {k m k' m' : Int}
theorem st_same (hf : FV w w0.heap.size A b (.slice so sn sc) N ks ss k m) (hd : DP w0 w (VS A b (.slice so sn sc)) G lo ln lc po pn pc ks ss k m) (hok : KsOk ks) (h1 : N ≤ i ∧ ks.length ≤ i ∧ ss.length ≤ i) (hb : Below w0.heap.size w0 w) : ST w0 A b G w i :=
  ⟨⟨so, sn, sc, N, lo, ln, lc, po, pn, pc, ks, ss, k, m, hf, hd, hok, h1⟩, hb⟩
theorem st_end (hf : FV w w0.heap.size A b (.slice so sn sc) N ks' ss' k' m') (hd : DP w0 w (VS A b (.slice so sn sc)) G lo ln lc po pn pc ks ss k m) (hr : KsR (PV w0) w w0.heap.size (.slice lo' ln' lc') ks') (hs : w.ownsRow w0.heap.size 47 2 (.slice po' pn' pc') pn' (spC ss')) (hl : pn' = ss'.length) (ho : ∀ g, (Value.slice po' pn' pc').ownBlock = some g → ¬ VS A b (.slice so sn sc) g) (hok : KsOk ks') (h1 : N ≤ i ∧ ks'.length ≤ i ∧ ss'.length ≤ i) (hb : Below w0.heap.size w0 w) :
    ST w0 A b G (set4 w G (.slice lo' ln' lc') (.slice po' pn' pc') (.int .i64 k') (.int .i64 m')) i :=
  st_same (hf.put hd.box hd.out _ _ _ _) (hd.put hr hs hl ho) hok h1 (hb.trans ((set4_turn w G _ _ _ _).below (fun j e => by rw [show j = G from e]; exact hd.ge) hb.size))
theorem st_need (hf : FV w w0.heap.size A b (.slice so sn sc) N ks ss 0 0) (hd : DP w0 w (VS A b (.slice so sn sc)) G lo ln lc po pn pc ks ss k m) (hok : KsOk ks) (h1 : N ≤ i ∧ ks.length ≤ i ∧ ss.length ≤ i) (hb : Below w0.heap.size w0 w) :
    ST w0 A b G ((w.setCell ⟨G, 2, none⟩ (.int .i64 0)).setCell ⟨G, 3, none⟩ (.int .i64 0)) i := by
  have ht : Turn (fun g => g = G) w ((w.setCell ⟨G, 2, none⟩ (.int .i64 0)).setCell ⟨G, 3, none⟩ (.int .i64 0)) := Turn.setCell (S := fun g => g = G) (Turn.setCell (S := fun g => g = G) (Turn.refl _ w) (Or.inl rfl) _) (Or.inl rfl) _
  have hne : ∀ g cs t, g = G → w.heap[g]? = some (Obj.cells cs t (0, 0)) → t = 31 := fun g cs t e hg => by
    subst e
    exact view_type hd.box hg
  refine st_same (hf.turn ht (fun j hj e => by have e' : j = G := e; subst e'; exact hd.out hj) (fun g cs2 t e hg => by rw [hne g cs2 t e hg]; decide)) ⟨(hd.box.set 2 _).set 3 _, ?_, ?_, hd.len, hd.off, hd.out, hd.ge⟩ hok h1 (hb.trans (ht.below (fun j e => by rw [show j = G from e]; exact hd.ge) hb.size))
  · exact hd.row.moved ht (fun g cs e hg => absurd (hne g cs _ e hg) (by decide))
  · exact fv_moved hd.spr (fun g cs hg => ht.block g (lt_of_block hg) (fun e => absurd (hne g cs _ e hg) (by decide)))
end
end

theorem bx_set11 {W : World} {g : Nat} {t : TypeId} {z0 z1 z2 z3 z4 z5 z6 z7 z8 z9 z10 : Value} (h : BX W g t #[z0, z1, z2, z3, z4, z5, z6, z7, z8, z9, z10]) (v0 v1 v2 v3 v4 v5 v6 v7 v8 v9 v10 : Value) : BX (((((((((((W.setCell ⟨g, 0, none⟩ v0).setCell ⟨g, 1, none⟩ v1).setCell ⟨g, 2, none⟩ v2).setCell ⟨g, 3, none⟩ v3).setCell ⟨g, 4, none⟩ v4).setCell ⟨g, 5, none⟩ v5).setCell ⟨g, 6, none⟩ v6).setCell ⟨g, 7, none⟩ v7).setCell ⟨g, 8, none⟩ v8).setCell ⟨g, 9, none⟩ v9).setCell ⟨g, 10, none⟩ v10) g t #[v0, v1, v2, v3, v4, v5, v6, v7, v8, v9, v10] := by
  have h0 := h.set 0 v0
  simp only [List.setIfInBounds_toArray, List.set_cons_zero] at h0
  have h1 := h0.set 1 v1
  simp only [List.setIfInBounds_toArray, List.set_cons_zero, List.set_cons_succ] at h1
  have h2 := h1.set 2 v2
  simp only [List.setIfInBounds_toArray, List.set_cons_zero, List.set_cons_succ] at h2
  have h3 := h2.set 3 v3
  simp only [List.setIfInBounds_toArray, List.set_cons_zero, List.set_cons_succ] at h3
  have h4 := h3.set 4 v4
  simp only [List.setIfInBounds_toArray, List.set_cons_zero, List.set_cons_succ] at h4
  have h5 := h4.set 5 v5
  simp only [List.setIfInBounds_toArray, List.set_cons_zero, List.set_cons_succ] at h5
  have h6 := h5.set 6 v6
  simp only [List.setIfInBounds_toArray, List.set_cons_zero, List.set_cons_succ] at h6
  have h7 := h6.set 7 v7
  simp only [List.setIfInBounds_toArray, List.set_cons_zero, List.set_cons_succ] at h7
  have h8 := h7.set 8 v8
  simp only [List.setIfInBounds_toArray, List.set_cons_zero, List.set_cons_succ] at h8
  have h9 := h8.set 9 v9
  simp only [List.setIfInBounds_toArray, List.set_cons_zero, List.set_cons_succ] at h9
  have h10 := h9.set 10 v10
  simp only [List.setIfInBounds_toArray, List.set_cons_zero, List.set_cons_succ] at h10
  exact h10
theorem turn_set11 (W : World) (g : Nat) (v0 v1 v2 v3 v4 v5 v6 v7 v8 v9 v10 : Value) : Turn (fun j => j = g) W (((((((((((W.setCell ⟨g, 0, none⟩ v0).setCell ⟨g, 1, none⟩ v1).setCell ⟨g, 2, none⟩ v2).setCell ⟨g, 3, none⟩ v3).setCell ⟨g, 4, none⟩ v4).setCell ⟨g, 5, none⟩ v5).setCell ⟨g, 6, none⟩ v6).setCell ⟨g, 7, none⟩ v7).setCell ⟨g, 8, none⟩ v8).setCell ⟨g, 9, none⟩ v9).setCell ⟨g, 10, none⟩ v10) :=
  Turn.setCell (S := fun j => j = g) (Turn.setCell (S := fun j => j = g) (Turn.setCell (S := fun j => j = g) (Turn.setCell (S := fun j => j = g) (Turn.setCell (S := fun j => j = g) (Turn.setCell (S := fun j => j = g) (Turn.setCell (S := fun j => j = g) (Turn.setCell (S := fun j => j = g) (Turn.setCell (S := fun j => j = g) (Turn.setCell (S := fun j => j = g) (Turn.setCell (S := fun j => j = g) (Turn.refl _ W) (Or.inl rfl) v0) (Or.inl rfl) v1) (Or.inl rfl) v2) (Or.inl rfl) v3) (Or.inl rfl) v4) (Or.inl rfl) v5) (Or.inl rfl) v6) (Or.inl rfl) v7) (Or.inl rfl) v8) (Or.inl rfl) v9) (Or.inl rfl) v10
theorem wf_le {c : Int} (h : (Lit.int .i64 c).wf = true) : c ≤ 9223372036854775807 := by
  have h2 : IntKind.i64.max = 9223372036854775807 := by decide
  unfold Lit.wf at h
  rw [Bool.and_eq_true, decide_eq_true_iff, decide_eq_true_iff, h2] at h
  omega
/-- An act. -/
structure Ac where
  kd : Int
  n : Int
  kn : Kn
def Ac.zero : Ac := ⟨0, 0, Kn.zero⟩
def acAt (al : List Ac) (j : Nat) : Ac := al.getD j Ac.zero
/-- A row of acts that came in. -/
def AcsAt (w : World) (v : Value) (al : List Ac) : Prop :=
  ∃ (ao : Option Addr) (c : Nat), v = .slice ao al.length c ∧ al.length ≤ c ∧ c ≤ 9223372036854775807 ∧ (0 < al.length → ∃ g o, ao = some ⟨g, o, none⟩ ∧ ∀ j, j < al.length → ∃ l, KL (PV w) l (acAt al j).kn ∧ w.cell? ⟨g, o + j * 13, none⟩ = some (.int .i64 (acAt al j).kd) ∧ w.cell? ⟨g, o + j * 13 + 1, none⟩ = some (.int .i64 (acAt al j).n) ∧ ∀ i, i < 11 → w.cell? ⟨g, o + j * 13 + 2 + i, none⟩ = l[i]?)
theorem AcsAt.get {w : World} {ao : Option Addr} {n c : Nat} {al : List Ac} (h : AcsAt w (.slice ao n c) al) {j : Nat} (hj : j < n) :
    ∃ (g o : Nat) (ak : Option Addr) (nk ck : Nat) (av : Option Addr) (nv cv : Nat) (ac : Option Addr) (nc cc : Nat), ao = some ⟨g, o, none⟩ ∧ PV w (.slice ak nk ck) (.slice av nv cv) (.slice ac nc cc) (acAt al j).kn ∧
      ∀ V, Below w.heap.size w V → V.cell? ⟨g, o + j * 13, none⟩ = some (.int .i64 (acAt al j).kd) ∧ V.cell? ⟨g, o + j * 13 + 1, none⟩ = some (.int .i64 (acAt al j).n) ∧ V.cell? ⟨g, o + j * 13 + 2, none⟩ = some (.int .i64 (acAt al j).kn.c) ∧ V.cell? ⟨g, o + j * 13 + 3, none⟩ = some (.int .u64 (acAt al j).kn.wd) ∧ V.cell? ⟨g, o + j * 13 + 4, none⟩ = some (.int .u64 (acAt al j).kn.vr) ∧ V.cell? ⟨g, o + j * 13 + 5, none⟩ = some (.int .i64 (acAt al j).kn.n.lv) ∧ V.cell? ⟨g, o + j * 13 + 6, none⟩ = some (.string (acAt al j).kn.n.lo) ∧ V.cell? ⟨g, o + j * 13 + 7, none⟩ = some (.string (acAt al j).kn.n.hi) ∧ V.cell? ⟨g, o + j * 13 + 8, none⟩ = some (.bool (acAt al j).kn.n.la) ∧ V.cell? ⟨g, o + j * 13 + 9, none⟩ = some (.int .i64 (acAt al j).kn.n.nx) ∧ V.cell? ⟨g, o + j * 13 + 10, none⟩ = some (.slice ak nk ck) ∧ V.cell? ⟨g, o + j * 13 + 11, none⟩ = some (.slice av nv cv) ∧ V.cell? ⟨g, o + j * 13 + 12, none⟩ = some (.slice ac nc cc) := by
  obtain ⟨ao', c', e, h1, h2, h3⟩ := h
  injection e with e1 e2 e3
  subst e1
  subst e2
  obtain ⟨g, o, e4, hc⟩ := h3 (by omega)
  obtain ⟨l, hl, hk, hn, hcells⟩ := hc j hj
  obtain ⟨ak, nk, ck, av, nv, cv, ac, nc, cc, rfl, hP⟩ := hl
  refine ⟨g, o, ak, nk, ck, av, nv, cv, ac, nc, cc, e4, hP, fun V hb => ?_⟩
  have hlt : g < w.heap.size := World.block_lt_of_cell? w _ hk
  have at_ : ∀ p, V.cell? ⟨g, p, none⟩ = w.cell? ⟨g, p, none⟩ := fun p => hb.cell (p := ⟨g, p, none⟩) hlt
  simp only [at_]
  exact ⟨hk, hn, hcells 0 (by omega), hcells 1 (by omega), hcells 2 (by omega), hcells 3 (by omega), hcells 4 (by omega), hcells 5 (by omega), hcells 6 (by omega), hcells 7 (by omega), hcells 8 (by omega), hcells 9 (by omega), hcells 10 (by omega)⟩
end Go.Proofs.Ytefmnfplipdnmaa
