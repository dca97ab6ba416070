/- The rules of nodes by themselves. Condition: nodes whose sizes fit. A row of flaws of the call's own: a flaw written; its end cleared. No condition. How flaws are compared: by what they say, then by their cells. No condition. slices.SortFunc at flaws: the same ones, in some order. Condition: less than 2^62 of them. slices.Compact at flaws: what is told stands in what was handed in, and is something where that is something. No condition. Flaws, sorted, and each once: of a row of the call's own, a nil one too. Condition: less than 2^62 of them. whole.found: which flaws there are by rules: some just if a rule has some. Condition: few nodes. -/
import Derived.Test.YtgaacoeggikbpaaPq1
import Derived.Test.YtgaacoeggikbpaaPq2
import Derived.Test.YtgaacoeggikbpaaNods
import Derived.Test.YtgaacoeggikbpaaFvMade
import Derived.Lib.SliceRun
import Derived.Laws.OwnMore
import Derived.Test.YtgaacoeggikbpaaBoxKit
import Derived.Test.YtgaacoeggikbpaaShelf
import Derived.Lib.Hide
import Derived.Sort.Grow
import Derived.Deep.DeepCutAuto
import Derived.Test.YtgaacoeggikbpaaWShelf
import Derived.Shelf.SlSortCmp.WholeK
import Derived.Deep.QuietTactic
import Derived.BigQuiet
import Derived.Shelf.SlSortCmp.NoneTotal
import Derived.Laws.EntriesVeiled
import Derived.Deep.RegionHeldLaw
namespace Go.Proofs.Ytgaacoeggikbpaa
open Go.RowKit Go.Maps

def KnA (kn : Kn) (ak av ac : Option Addr) (ck cv cc : Nat) : Array Value := #[.int .i64 kn.c, .int .u64 kn.wd, .int .u64 kn.vr, .int .i64 kn.n.lv, .string kn.n.lo, .string kn.n.hi, .bool kn.n.la, .int .i64 kn.n.nx, .slice ak kn.n.ks.length ck, .slice av kn.n.vs.length cv, .slice ac kn.n.cs.length cc]
theorem kn_open {w : World} {v : Value} {kn : Kn} (h : KnV w v kn) : ∃ (ak av ac : Option Addr) (ck cv cc : Nat), v = .agg #[.int .i64 kn.c, .int .u64 kn.wd, .int .u64 kn.vr, .int .i64 kn.n.lv, .string kn.n.lo, .string kn.n.hi, .bool kn.n.la, .int .i64 kn.n.nx, .slice ak kn.n.ks.length ck, .slice av kn.n.vs.length cv, .slice ac kn.n.cs.length cc] ∧ NdAt w ak av ac kn.n.ks.length ck kn.n.vs.length cv kn.n.cs.length cc kn.n.ks kn.n.vs kn.n.cs := h
/-- How many stand in a cell. -/
def cnt (ks : List Kn) (c : Int) : Nat := ks.countP (fun k => decide (k.c = c))
/-- A node's sizes fit. -/
structure FitN (n : Nod) : Prop where
  fit : Fit n.lo n.hi n.ks n.ks.length n.vs.length n.cs.length
  ks : n.ks.length ≤ 80
  cs : n.cs.length ≤ 80
/-- Is a node sound? -/
noncomputable def soundB (fan : Int) (n : Nod) : Bool := @decide ((4 ≤ fan ∧ fan ≤ 64) ∧ SoundP n.lv n.nx n.lo n.hi n.la n.ks.length n.vs.length n.cs.length n.ks n.cs fan) (Classical.propDecidable _)
theorem soundB_iff (fan : Int) (n : Nod) : soundB fan n = true ↔ (4 ≤ fan ∧ fan ≤ 64) ∧ SoundP n.lv n.nx n.lo n.hi n.la n.ks.length n.vs.length n.cs.length n.ks n.cs fan := by
  unfold soundB
  exact @decide_eq_true_iff _ (Classical.propDecidable _)
theorem wcell_any (c : Int) (w : World) : Calls Try.prog 42 #[.int .i64 c] w fun e w' => e = .returned (.bool (cellB c)) ∧ w = w' := by
  by_cases h1 : 0 ≤ c
  · by_cases h2 : c < 8192
    · rw [show cellB c = true by rw [cellB_iff]; omega]
      go_enter Try.func42, Try.ntmps42
      go_wp2
      go_ret
      exact ⟨rfl, rfl⟩
    · rw [show cellB c = false by unfold cellB; rw [decide_eq_false_iff_not]; omega]
      go_enter Try.func42, Try.ntmps42
      go_wp2
      go_ret
      exact ⟨rfl, rfl⟩
  · rw [show cellB c = false by unfold cellB; rw [decide_eq_false_iff_not]; omega]
    go_enter Try.func42, Try.ntmps42
    go_wp2
    go_ret
    exact ⟨rfl, rfl⟩
set_option maxHeartbeats 4000000 in
set_option maxRecDepth 100000 in
theorem fon1_any (cb b N : Nat) (f : Int → Nat) (kn : Kn) (v : Value) (w : World) (hv : KnV w v kn) (hc : (Lit.int .i64 kn.c).wf = true) (hb : BX w cb 53 #[.map (some b)]) (hm : IM w b N f) :
    Calls Try.prog 41 #[v, .pointer (some ⟨cb, 0, none⟩)] w fun e w' => e = .returned (.bool (cellB kn.c && decide (1 < f kn.c))) ∧ Below w.heap.size w w' := by
  obtain ⟨ak, av, ac, ck, cv, cc, rfl, _⟩ := kn_open hv
  have hx := boxed_below w (.cells (KnA kn ak av ac ck cv cc) 40)
  have n1 := BX.new w 40 (KnA kn ak av ac ck cv cc)
  obtain ⟨W1, hW1⟩ : ∃ W, W = w.alloc (.cells (KnA kn ak av ac ck cv cc) 40) := ⟨_, rfl⟩
  rw [← hW1] at hx n1
  unfold KnA at hW1 n1
  have HCE := Lib.hid (fun W => wcell_any kn.c W)
  have hlook := (hm.keep hx).look hc
  have k0 : W1.cell? ⟨w.heap.size, 0, none⟩ = some (.int .i64 kn.c) := n1.cell 0 rfl
  have m0 : W1.cell? ⟨cb, 0, none⟩ = some (.map (some b)) := (hb.below hx).cell 0 rfl
  have HX := Lib.hid hx
  have HW := Lib.hid hW1
  obtain ⟨z, hz⟩ : ∃ z : Nat, z = f kn.c := ⟨_, rfl⟩
  rw [← hz] at hlook ⊢
  clear hx n1 hW1 hb hm hc hz hv
  cases hcb : cellB kn.c with
  | false =>
    rw [hcb] at HCE
    clear hcb
    go_enter Try.func41, Try.ntmps41
    go_upto_region 1 with fail
    rw [← HW.out]
    clear HW
    go_wp2_with fail
    refine (HCE.out _).mono ?_
    rintro e w4 ⟨rfl, h4⟩
    rw [← h4]
    clear h4
    go_wp2
    go_ret
    exact ⟨rfl, HX.out⟩
  | true =>
    rw [hcb] at HCE
    clear hcb
    by_cases hz1 : 1 < z
    · rw [decide_eq_true hz1]
      have hz2 : (1 : Int) < z := by omega
      go_enter Try.func41, Try.ntmps41
      go_upto_region 1 with fail
      rw [← HW.out]
      clear HW
      go_wp2_with fail
      refine (HCE.out _).mono ?_
      rintro e w4 ⟨rfl, h4⟩
      rw [← h4]
      clear h4
      go_wp2
      go_ret
      exact ⟨rfl, HX.out⟩
    · rw [decide_eq_false hz1]
      have hz2 : decide ((1 : Int) < z) = false := decide_eq_false (by omega)
      go_enter Try.func41, Try.ntmps41
      go_upto_region 1 with fail
      rw [← HW.out]
      clear HW
      go_wp2_with fail
      refine (HCE.out _).mono ?_
      rintro e w4 ⟨rfl, h4⟩
      rw [← h4]
      clear h4
      go_wp2
      go_ret
      exact ⟨rfl, HX.out⟩
set_option maxHeartbeats 4000000 in
set_option maxRecDepth 100000 in
theorem fon2_any (cb : Nat) (fan : Int) (kn : Kn) (v : Value) (w : World) (hv : KnV w v kn) (hf : FitN kn.n) (hb : BX w cb 3 #[.int .i64 fan]) :
    Calls Try.prog 43 #[v, .pointer (some ⟨cb, 0, none⟩)] w fun e w' => e = .returned (.bool (!(cellB kn.c && soundB fan kn.n))) ∧ Below w.heap.size w w' := by
  obtain ⟨ak, av, ac, ck, cv, cc, rfl, hnd⟩ := kn_open hv
  have hx := boxed_below w (.cells (KnA kn ak av ac ck cv cc) 40)
  have n1 := BX.new w 40 (KnA kn ak av ac ck cv cc)
  obtain ⟨W1, hW1⟩ : ∃ W, W = w.alloc (.cells (KnA kn ak av ac ck cv cc) 40) := ⟨_, rfl⟩
  rw [← hW1] at hx n1
  unfold KnA at hW1 n1
  have HCE := Lib.hid (fun W => wcell_any kn.c W)
  obtain ⟨sb, hsb⟩ : ∃ sb, sb = soundB fan kn.n := ⟨_, rfl⟩
  have HCK := Lib.hid (check_of kn.n.lv kn.n.nx kn.n.lo kn.n.hi kn.n.la ak av ac kn.n.ks.length ck kn.n.vs.length cv kn.n.cs.length cc kn.n.ks kn.n.vs kn.n.cs fan sb W1 (hnd.keep hx) hf.fit (by rw [hsb]; exact soundB_iff fan kn.n))
  rw [← hsb]
  have k0 : W1.cell? ⟨w.heap.size, 0, none⟩ = some (.int .i64 kn.c) := n1.cell 0 rfl
  have k3 := n1.cell 3 rfl
  have k4 := n1.cell 4 rfl
  have k5 := n1.cell 5 rfl
  have k6 := n1.cell 6 rfl
  have k7 := n1.cell 7 rfl
  have k8 := n1.cell 8 rfl
  have k9 := n1.cell 9 rfl
  have k10 := n1.cell 10 rfl
  have m0 : W1.cell? ⟨cb, 0, none⟩ = some (.int .i64 fan) := (hb.below hx).cell 0 rfl
  have HX := Lib.hid hx
  have HW := Lib.hid hW1
  clear hx n1 hW1 hb hsb hv hnd hf
  cases hcb : cellB kn.c with
  | false =>
    rw [hcb] at HCE
    clear hcb
    go_enter Try.func43, Try.ntmps43
    go_upto_region 1 with fail
    rw [← HW.out]
    clear HW
    go_wp2_with fail
    refine (HCE.out _).mono ?_
    rintro e w4 ⟨rfl, h4⟩
    rw [← h4]
    clear h4
    go_wp2
    go_ret
    exact ⟨rfl, HX.out⟩
  | true =>
    rw [hcb] at HCE
    clear hcb
    go_enter Try.func43, Try.ntmps43
    go_upto_region 1 with fail
    rw [← HW.out]
    clear HW
    go_wp2_with fail
    refine (HCE.out _).mono ?_
    rintro e w4 ⟨rfl, h4⟩
    rw [← h4]
    clear h4
    go_wp2_with fail
    refine HCK.out.mono ?_
    rintro e w5 ⟨z, rfl, _, hz2, hb5⟩
    have HX5 := Lib.hid (HX.out.trans (hb5.mono HX.out.size))
    clear hb5 k0 k3 k4 k5 k6 k7 k8 k9 k10 m0
    cases sb with
    | true =>
      go_wp2
      go_ret
      exact ⟨rfl, HX5.out⟩
    | false =>
      go_wp2
      go_ret
      exact ⟨rfl, HX5.out⟩
end Go.Proofs.Ytgaacoeggikbpaa

namespace Go.Proofs.Ytgaacoeggikbpaa
open Go.RowKit

/-- Flaws, as cells. -/
def flC : List (Int × Int) → List Value
  | [] => []
  | p :: l => .int .i64 p.1 :: .int .i64 p.2 :: flC l
theorem flC_len : ∀ l : List (Int × Int), (flC l).length = l.length * 2
  | [] => rfl
  | p :: l => by simp only [flC, List.length_cons, flC_len l]; omega
theorem flC_app : ∀ (a b : List (Int × Int)), flC (a ++ b) = flC a ++ flC b
  | [], _ => rfl
  | p :: a, b => by simp only [flC, List.cons_append, flC_app a b]
theorem flC_one : ∀ (l : List (Int × Int)), ∀ u ∈ flC l, u.oneCell' = true
  | [], u, h => by cases h
  | p :: l, u, h => by
    simp only [flC, List.mem_cons] at h
    rcases h with rfl | rfl | h
    · rfl
    · rfl
    · exact flC_one l u h
def nfl (l : List (Int × Int)) (j : Nat) : Int × Int := l.getD j (0, 0)
theorem nfl_eq {l : List (Int × Int)} {j : Nat} (h : j < l.length) : nfl l j = l[j] := by
  unfold nfl
  rw [List.getD_eq_getElem?_getD, List.getElem?_eq_getElem h]
  rfl
theorem nfl_mem {l : List (Int × Int)} {j : Nat} (h : j < l.length) : nfl l j ∈ l := by rw [nfl_eq h]; exact List.getElem_mem h
theorem flC_at : ∀ (l : List (Int × Int)) (j : Nat), j < l.length → (flC l)[j * 2]? = some (.int .i64 (nfl l j).1) ∧ (flC l)[j * 2 + 1]? = some (.int .i64 (nfl l j).2)
  | [], j, h => absurd h (Nat.not_lt_zero j)
  | p :: l, 0, _ => ⟨rfl, rfl⟩
  | p :: l, j + 1, h => by
    obtain ⟨h1, h2⟩ := flC_at l j (by simpa using h)
    rw [show (j + 1) * 2 = j * 2 + 1 + 1 by omega]
    exact ⟨h1, h2⟩
theorem flC_set : ∀ (l : List (Int × Int)) (j : Nat) (p : Int × Int), j < l.length → ((flC l).set (j * 2) (.int .i64 p.1)).set (j * 2 + 1) (.int .i64 p.2) = flC (l.set j p)
  | [], j, _, h => absurd h (Nat.not_lt_zero j)
  | q :: l, 0, p, _ => rfl
  | q :: l, j + 1, p, h => by
    rw [show (j + 1) * 2 = j * 2 + 1 + 1 by omega]
    show .int .i64 q.1 :: .int .i64 q.2 :: ((flC l).set (j * 2) _).set (j * 2 + 1) _ = _
    rw [flC_set l j p (by simpa using h)]
    rfl
theorem flC_take : ∀ (l : List (Int × Int)) (k : Nat), (flC l).take (k * 2) = flC (l.take k)
  | [], k => by simp [flC]
  | q :: l, 0 => by simp [flC]
  | q :: l, k + 1 => by
    rw [show (k + 1) * 2 = k * 2 + 1 + 1 by omega]
    show .int .i64 q.1 :: .int .i64 q.2 :: (flC l).take (k * 2) = _
    rw [flC_take l k]
    rfl
/-- A row of flaws, in block g. -/
def FlR (w : World) (B g n c : Nat) (ls : List (Int × Int)) : Prop := B ≤ g ∧ n = ls.length ∧ n ≤ c ∧ c ≤ maxLen ∧ ∃ cur, w.heap[g]? = some (.cells cur 47 (0, 0)) ∧ cur.size = c * 2 ∧ cur.toList.take (n * 2) = flC ls
theorem FlR.own {w : World} {B g n c : Nat} {ls : List (Int × Int)} (h : FlR w B g n c ls) : w.ownsRow B 47 2 (.slice (some ⟨g, 0, none⟩) n c) n (flC ls) := by
  obtain ⟨h1, h2, h3, h4, cur, h5, h6, h7⟩ := h
  exact ⟨by rw [flC_len, h2], Or.inr ⟨g, c, cur, rfl, h1, h5, h3, h4, h6, h7⟩⟩
theorem FlR.of {w : World} {B g n c : Nat} {ls : List (Int × Int)} (h : w.ownsRow B 47 2 (.slice (some ⟨g, 0, none⟩) n c) n (flC ls)) : FlR w B g n c ls := by
  have hl := h.1
  rw [flC_len] at hl
  rcases h.2 with ⟨e, _⟩ | ⟨g', c', cur, e, h1, h2, h3, h4, h5, h6⟩
  · cases e
  · injection e with e1 _ e3
    injection e1 with e1
    injection e1 with e1
    subst e1 e3
    exact ⟨h1, by omega, h3, h4, cur, h2, h5, h6⟩
theorem FlR.block {w w' : World} {B g n c : Nat} {ls : List (Int × Int)} (h : FlR w B g n c ls) (hb : w'.heap[g]? = w.heap[g]?) : FlR w' B g n c ls := by
  obtain ⟨h1, h2, h3, h4, cur, h5, h6⟩ := h
  exact ⟨h1, h2, h3, h4, cur, hb.trans h5, h6⟩
theorem FlR.lt {w : World} {B g n c : Nat} {ls : List (Int × Int)} (h : FlR w B g n c ls) : g < w.heap.size := by
  obtain ⟨h1, h2, h3, h4, cur, h5, h6⟩ := h
  exact lt_of_block h5
theorem FlR.at_ {w : World} {B g n c : Nat} {ls : List (Int × Int)} (h : FlR w B g n c ls) {j : Nat} (hj : j < n) : w.cell? ⟨g, j * 2, none⟩ = some (.int .i64 (nfl ls j).1) ∧ w.cell? ⟨g, j * 2 + 1, none⟩ = some (.int .i64 (nfl ls j).2) ∧ w.frozen? ⟨g, j * 2, none⟩ = false ∧ w.frozen? ⟨g, j * 2 + 1, none⟩ = false := by
  have h0 := h
  obtain ⟨h1, h2, h3, h4, cur, h5, h6, h7⟩ := h
  obtain ⟨q1, q2⟩ := flC_at ls j (by omega)
  refine ⟨(h0.own.cellAt (j * 2) (by omega)).trans q1, (h0.own.cellAt (j * 2 + 1) (by omega)).trans q2, by simp [World.frozen?, h5], by simp [World.frozen?, h5]⟩
theorem FlR.set {w : World} {B g n c : Nat} {ls : List (Int × Int)} (h : FlR w B g n c ls) {j : Nat} (hj : j < n) (p : Int × Int) : FlR ((w.setCell ⟨g, j * 2, none⟩ (.int .i64 p.1)).setCell ⟨g, j * 2 + 1, none⟩ (.int .i64 p.2)) B g n c (ls.set j p) := by
  obtain ⟨h1, h2, h3, h4, cur, h5, h6, h7⟩ := h
  refine ⟨h1, by rw [List.length_set]; exact h2, h3, h4, _, heap_setCell_same _ g _ _ _ _ (heap_setCell_same w g _ cur _ _ h5), by simp [h6], ?_⟩
  rw [← flC_set ls j p (by omega), ← h7]
  simp [List.take_set]
theorem FlR.set2 {w w0 : World} {B g n c : Nat} {ls : List (Int × Int)} (h : FlR w B g n c ls) (ht : Turn (fun j => j = g) w0 w) {j : Nat} (hj : j < n) (a b : Int) : FlR ((w.setCell ⟨g, j * 2, none⟩ (.int .i64 a)).setCell ⟨g, j * 2 + 1, none⟩ (.int .i64 b)) B g n c (ls.set j (a, b)) ∧ Turn (fun j => j = g) w0 ((w.setCell ⟨g, j * 2, none⟩ (.int .i64 a)).setCell ⟨g, j * 2 + 1, none⟩ (.int .i64 b)) :=
  ⟨h.set hj (a, b), Turn.setCell (S := fun j => j = g) (Turn.setCell (S := fun j => j = g) ht (Or.inl rfl) _) (Or.inl rfl) _⟩
theorem FlR.cut {w : World} {B g n c : Nat} {ls : List (Int × Int)} (h : FlR w B g n c ls) {k : Nat} (hk : k ≤ n) : FlR w B g k c (ls.take k) := by
  obtain ⟨h1, h2, h3, h4, cur, h5, h6, h7⟩ := h
  refine ⟨h1, by rw [List.length_take]; omega, by omega, h4, cur, h5, h6, ?_⟩
  rw [← flC_take, ← h7, List.take_take]
  congr 1
  omega
theorem heap_setCells (b : Nat) : ∀ (vs : List Value) (o : Nat) (w : World) (cur : Array Value) (t : TypeId), w.heap[b]? = some (.cells cur t (0, 0)) → ∃ cur', (w.setCells b o vs).heap[b]? = some (.cells cur' t (0, 0)) ∧ cur'.size = cur.size ∧ cur'.toList.take o = cur.toList.take o
  | [], o, w, cur, t, h => ⟨cur, h, rfl, rfl⟩
  | v :: vs, o, w, cur, t, h => by
    obtain ⟨cur', h1, h2, h3⟩ := heap_setCells b vs (o + 1) (w.setCell ⟨b, o, none⟩ v) _ t (heap_setCell_same w b o cur t v h)
    refine ⟨cur', h1, by simpa using h2, ?_⟩
    have h4 := congrArg (List.take o) h3
    rw [List.take_take, List.take_take] at h4
    have e : min o (o + 1) = o := by omega
    rw [e] at h4
    rw [h4]
    simp only [Array.toList_setIfInBounds, List.take_set]
    exact List.set_eq_of_length_le (List.length_take_le _ _)
theorem turn_setCells (b : Nat) {w0 : World} : ∀ (vs : List Value) (o : Nat) (w : World), Turn (fun j => j = b) w0 w → Turn (fun j => j = b) w0 (w.setCells b o vs)
  | [], _, _, h => h
  | v :: vs, o, _, h => turn_setCells b vs (o + 1) _ (Turn.setCell (S := fun j => j = b) h (Or.inl rfl) v)
theorem FlR.clear {w : World} {B g n c : Nat} {ls : List (Int × Int)} (h : FlR w B g n c ls) {k : Nat} (hk : k ≤ n) (vs : List Value) : FlR (w.setCells g (k * 2) vs) B g k c (ls.take k) := by
  obtain ⟨h1, h2, h3, h4, cur, h5, h6, h7⟩ := h.cut hk
  obtain ⟨cur', q1, q2, q3⟩ := heap_setCells g vs (k * 2) w cur _ h5
  exact ⟨h1, h2, h3, h4, cur', q1, by rw [q2, h6], by rw [q3, h7]⟩
theorem zero_cells (n : Nat) : (Builtin.zeroCells (Value.agg #[.int .i64 0, .int .i64 0]).cells n).toList.length = 2 * n ∧ ∀ u ∈ (Builtin.zeroCells (Value.agg #[.int .i64 0, .int .i64 0]).cells n).toList, u.oneCell' = true := by
  have hs : (Value.agg #[.int .i64 0, .int .i64 0]).cells = #[.int .i64 0, .int .i64 0] := rfl
  rw [hs]
  unfold Builtin.zeroCells
  refine ⟨by simp; omega, fun u hu => ?_⟩
  simp at hu
  obtain ⟨i, hi, e⟩ := hu
  rcases Nat.mod_two_eq_zero_or_one i with h | h <;> simp [h] at e <;> rw [← e] <;> rfl
/-- 'clear' of the end of a row. -/
theorem FlR.run_clear {w : World} {B g n c : Nat} {ls : List (Int × Int)} (h : FlR w B g n c ls) {k : Nat} (hk : k < n) (ty : TypeId) (c' : Nat) :
    ∃ vs, (Builtin.clear_ #[42] ty #[.slice (some ⟨g, k * 2, none⟩) (n - k) c']).run Try.prog w = .ok (.tuple #[]) (w.setCells g (k * 2) vs) := by
  obtain ⟨hz1, hz2⟩ := zero_cells (n - k)
  obtain ⟨h1, h2, h3, h4, cur, h5, h6, h7⟩ := h
  have hst := run_storeCells_cells (P := Try.prog) g (k * 2) (Builtin.zeroCells (Value.agg #[.int .i64 0, .int .i64 0]).cells (n - k)).toList 0 w (fun j hj => by
    rw [hz1] at hj
    simp only [World.cell?, h5]
    simp
    omega) (fun j _ => by simp [World.frozen?, h5]) hz2
  simp only [Nat.add_zero] at hst
  refine ⟨(Builtin.zeroCells (Value.agg #[.int .i64 0, .int .i64 0]).cells (n - k)).toList, ?_⟩
  obtain ⟨m, hm⟩ : ∃ m, n - k = m + 1 := ⟨n - k - 1, by omega⟩
  rw [hm] at hst ⊢
  simp [Builtin.clear_, run_underlying Try.underlying42, hst]
end Go.Proofs.Ytgaacoeggikbpaa

namespace Go.Proofs.Ytgaacoeggikbpaa
open Go.RowKit

theorem or2_any (g c : Nat) (x y : Int) (w : World) (h0 : w.cell? ⟨g, 0, none⟩ = some (.int .i64 x)) (h1 : w.cell? ⟨g, 1, none⟩ = some (.int .i64 y)) :
    Calls Try.prog 71 #[.slice (some ⟨g, 0, none⟩) 2 c] w fun e w' => e = .returned (.int .i64 (if x = 0 then y else x)) ∧ w = w' := by
  by_cases hx : x = 0
  · rw [if_pos hx]
    subst hx
    by_cases hy : y = 0
    · subst hy
      go_enter Try.func71, Try.ntmps71
      go_wp2
      go_loop [8] (fun s => ∃ i : Nat, s = .int .i64 i ∧ i ≤ 2) (fun s => 2 - (intOf s).toNat)
      case atStart => exact ⟨0, rfl, Nat.zero_le _⟩
      case round =>
        obtain ⟨i, rfl, hi⟩ := hrel
        rcases (show i = 0 ∨ i = 1 ∨ i = 2 by omega) with rfl | rfl | rfl
        · go_wp2
          go_round
          case rel => exact ⟨1, by go_num, by omega⟩
          case measure => simp [intOf]
        · go_wp2
          go_round
          case rel => exact ⟨2, by go_num, by omega⟩
          case measure => simp [intOf]
        · go_wp2
          go_ret
          exact ⟨rfl, rfl⟩
    · have hyb : (y != 0) = true := by rw [bne_iff_ne]; exact hy
      go_enter Try.func71, Try.ntmps71
      go_wp2
      go_loop [8] (fun s => ∃ i : Nat, s = .int .i64 i ∧ i ≤ 1) (fun s => 2 - (intOf s).toNat)
      case atStart => exact ⟨0, rfl, Nat.zero_le _⟩
      case round =>
        obtain ⟨i, rfl, hi⟩ := hrel
        rcases (show i = 0 ∨ i = 1 by omega) with rfl | rfl
        · go_wp2
          go_round
          case rel => exact ⟨1, by go_num, by omega⟩
          case measure => simp [intOf]
        · go_wp2
          go_ret
          exact ⟨rfl, rfl⟩
  · rw [if_neg hx]
    have hxb : (x != 0) = true := by rw [bne_iff_ne]; exact hx
    go_enter Try.func71, Try.ntmps71
    go_wp2
    go_loop [8] (fun s => s = .int .i64 0) (fun s => 2 - (intOf s).toNat)
    case atStart => rfl
    case round =>
      subst hrel
      go_wp2
      go_ret
      exact ⟨rfl, rfl⟩

/-- How two flaws stand to each other. -/
def flawCmp (x y : Int × Int) : Int := if Lib.compareInt x.1 y.1 = 0 then Lib.compareInt x.2 y.2 else Lib.compareInt x.1 y.1
def Fl4 (a b : Nat) (x y : Int × Int) (V : World) : Prop := V.cell? ⟨a, 0, none⟩ = some (.int .i64 x.1) ∧ V.cell? ⟨a, 1, none⟩ = some (.int .i64 x.2) ∧ V.cell? ⟨b, 0, none⟩ = some (.int .i64 y.1) ∧ V.cell? ⟨b, 1, none⟩ = some (.int .i64 y.2)
set_option maxHeartbeats 4000000 in
set_option maxRecDepth 100000 in
theorem flawCmp_any (x y : Int × Int) (w : World) : Calls Try.prog 70 #[.agg #[.int .i64 x.1, .int .i64 x.2], .agg #[.int .i64 y.1, .int .i64 y.2]] w fun e w' => e = .returned (.int .i64 (flawCmp x y)) ∧ ∃ q os', w' = Sort.grow (w.drewN q) os' := by
  obtain ⟨W1, hW1, b1, b2, hx⟩ := bx2 w 47 47 #[.int .i64 x.1, .int .i64 x.2] #[.int .i64 y.1, .int .i64 y.2]
  obtain ⟨r1, hr1⟩ : ∃ r, r = Lib.compareInt x.1 y.1 := ⟨_, rfl⟩
  obtain ⟨r2, hr2⟩ : ∃ r, r = Lib.compareInt x.2 y.2 := ⟨_, rfl⟩
  have HC1 := Lib.hid (fun W => Try.cmp_Compare_int x.1 y.1 W)
  have HC2 := Lib.hid (fun W => Try.cmp_Compare_int x.2 y.2 W)
  rw [← hr1] at HC1
  rw [← hr2] at HC2
  have HR := Lib.hid (show flawCmp x y = if r1 = 0 then r2 else r1 by unfold flawCmp; rw [← hr1, ← hr2])
  have HS0 := Lib.hid (show Fl4 w.heap.size (w.heap.size + 1) x y W1.drew from ⟨b1.cell 0 rfl, b1.cell 1 rfl, b2.cell 0 rfl, b2.cell 1 rfl⟩)
  have HOR := Lib.hid (or2_any W1.heap.size 2 r1 r2 (W1.drew.alloc (.cells #[.int .i64 r1, .int .i64 r2] 3)) ((BX.new W1.drew 3 #[.int .i64 r1, .int .i64 r2]).cell 0 rfl) ((BX.new W1.drew 3 #[.int .i64 r1, .int .i64 r2]).cell 1 rfl))
  obtain ⟨r3, hr3⟩ : ∃ r, r = if r1 = 0 then r2 else r1 := ⟨_, rfl⟩
  rw [← hr3] at HOR HR
  clear hr3
  have HW := Lib.hid hW1
  clear hW1 b1 b2 hx hr1 hr2
  go_enter Try.func70, Try.ntmps70
  go_upto_region 1 with fail
  try simp only [World.size_alloc]
  rw [← HW.out]
  refine wp_region_till (Fl4 w.heap.size (w.heap.size + 1) x y) 10 (by rfl) ?_
  refine wpAnyS_take 0 (some 5) [1, 4, 10] rfl rfl (by kernel_rfl) (by kernel_rfl) (by kernel_rfl) (by kernel_rfl) (by kernel_rfl) (by kernel_rfl) (by kernel_rfl) (fun _ _ _ h => h) (by rfl) (by intro V ⟨y1, y2, y3, y4⟩; go_simp; (first | done | (with_reducible rfl))) HS0.out ?_
  simp only [Act.put, List.setIfInBounds_toArray, List.set_cons_zero, List.set_cons_succ]
  refine wpAnyS_take 1 (some 6) [4, 10] rfl rfl (by kernel_rfl) (by kernel_rfl) (by kernel_rfl) (by kernel_rfl) (by kernel_rfl) (by kernel_rfl) (by kernel_rfl) (fun _ _ _ h => h) (by rfl) (by intro V ⟨y1, y2, y3, y4⟩; go_simp; (first | done | (with_reducible rfl))) HS0.out ?_
  simp only [Act.put, List.setIfInBounds_toArray, List.set_cons_zero, List.set_cons_succ]
  refine wpAnyS_take 2 (some 7) [3, 4, 10] rfl rfl (by kernel_rfl) (by kernel_rfl) (by kernel_rfl) (by kernel_rfl) (by kernel_rfl) (by kernel_rfl) (by kernel_rfl) (fun _ _ _ h => h) (by rfl) (by intro V ⟨y1, y2, y3, y4⟩; go_simp; (first | done | (with_reducible rfl))) HS0.out ?_
  simp only [Act.put, List.setIfInBounds_toArray, List.set_cons_zero, List.set_cons_succ]
  refine wpAnyS_take 3 (some 8) [4, 10] rfl rfl (by kernel_rfl) (by kernel_rfl) (by kernel_rfl) (by kernel_rfl) (by kernel_rfl) (by kernel_rfl) (by kernel_rfl) (fun _ _ _ h => h) (by rfl) (by intro V ⟨y1, y2, y3, y4⟩; go_simp; (first | done | (with_reducible rfl))) HS0.out ?_
  simp only [Act.put, List.setIfInBounds_toArray, List.set_cons_zero, List.set_cons_succ]
  refine wpAnyS_take 5 (some 10) [6, 9, 10] rfl rfl (by kernel_rfl) (by kernel_rfl) (by kernel_rfl) (by kernel_rfl) (by kernel_rfl) (by kernel_rfl) (by kernel_rfl) (fun _ _ _ h => h) (by rfl) (by intro V ⟨y1, y2, y3, y4⟩; go_simp; (first | done | (with_reducible rfl))) HS0.out ?_
  simp only [Act.put, List.setIfInBounds_toArray, List.set_cons_zero, List.set_cons_succ]
  refine wpAnyS_take 6 (some 11) [9, 10] rfl rfl (by kernel_rfl) (by kernel_rfl) (by kernel_rfl) (by kernel_rfl) (by kernel_rfl) (by kernel_rfl) (by kernel_rfl) (fun _ _ _ h => h) (by rfl) (by intro V ⟨y1, y2, y3, y4⟩; go_simp; (first | done | (with_reducible rfl))) HS0.out ?_
  simp only [Act.put, List.setIfInBounds_toArray, List.set_cons_zero, List.set_cons_succ]
  refine wpAnyS_take 7 (some 12) [8, 9, 10] rfl rfl (by kernel_rfl) (by kernel_rfl) (by kernel_rfl) (by kernel_rfl) (by kernel_rfl) (by kernel_rfl) (by kernel_rfl) (fun _ _ _ h => h) (by rfl) (by intro V ⟨y1, y2, y3, y4⟩; go_simp; (first | done | (with_reducible rfl))) HS0.out ?_
  simp only [Act.put, List.setIfInBounds_toArray, List.set_cons_zero, List.set_cons_succ]
  refine wpAnyS_take 8 (some 13) [9, 10] rfl rfl (by kernel_rfl) (by kernel_rfl) (by kernel_rfl) (by kernel_rfl) (by kernel_rfl) (by kernel_rfl) (by kernel_rfl) (fun _ _ _ h => h) (by rfl) (by intro V ⟨y1, y2, y3, y4⟩; go_simp; (first | done | (with_reducible rfl))) HS0.out ?_
  simp only [Act.put, List.setIfInBounds_toArray, List.set_cons_zero, List.set_cons_succ]
  refine wpAnyS_ready [4] (by kernel_rfl) (by simp) ?_
  refine AllReadyS.cons rfl (fun K hK => ?_) AllReadyS.nil
  go_simp
  refine (HC1.out _).mono ?_
  rintro e wa ⟨rfl, rfl⟩
  refine hK.out _ _ (fun _ => HS0.out) ?_
  clear hK K
  refine wpAnyS_ready [9] (by kernel_rfl) (by simp) ?_
  refine AllReadyS.cons rfl (fun K hK => ?_) AllReadyS.nil
  go_simp
  refine (HC2.out _).mono ?_
  rintro e wa ⟨rfl, rfl⟩
  refine hK.out _ _ (fun _ => HS0.out) ?_
  clear hK K
  refine wpAnyS_ready [10] (by kernel_rfl) (by simp) ?_
  refine AllReadyS.cons rfl (fun K hK => ?_) AllReadyS.nil
  go_simp
  refine hK.out _ _ (fun h => absurd h (by decide)) ?_
  clear hK K
  refine wpAnyS_ready [11] (by kernel_rfl) (by simp) ?_
  refine AllReadyS.cons rfl (fun K hK => ?_) AllReadyS.nil
  go_simp
  refine HOR.out.mono ?_
  rintro e wa ⟨rfl, rfl⟩
  refine hK.out _ _ (fun h => absurd h (by decide)) ?_
  clear hK K
  refine wpAnyS_ready [12] (by kernel_rfl) (by simp) ?_
  refine AllReadyS.cons rfl (fun K hK => ?_) AllReadyS.nil
  go_simp
  refine hK.out _ _ (fun h => absurd h (by decide)) ?_
  clear hK K
  refine wpAnyS_done (by kernel_rfl) ?_ _
  go_wp2
  go_ret
  refine ⟨by rw [HR.out]; rfl, 1, #[.cells #[.int .i64 x.1, .int .i64 x.2] 47, .cells #[.int .i64 y.1, .int .i64 y.2] 47, .cells #[.int .i64 r1, .int .i64 r2] 3], ?_⟩
  rw [HW.out]
  simp only [Sort.grow, World.alloc, World.drewN, World.drew]
  congr 1
end Go.Proofs.Ytgaacoeggikbpaa

namespace Go.Proofs.Ytgaacoeggikbpaa
open Go.RowKit Go.Sort

def encF (x : Int × Int) : List Value := [.int .i64 x.1, .int .i64 x.2]
theorem flat_flC (fs : List (Int × Int)) : (flatK encF 2 fs.toArray).toList = flC fs := by
  apply List.ext_getElem
  · simp [flC_len]
  · intro t h1 h2
    have ht : t < fs.length * 2 := by rw [flC_len] at h2; exact h2
    have hg := get_flatK encF 2 fs.toArray t (by simpa using ht)
    rw [getElem!_pos _ t (by simpa using ht)] at hg
    rw [Array.getElem_toList, hg]
    have hj : t / 2 < fs.length := by omega
    obtain ⟨q1, q2⟩ := flC_at fs (t / 2) hj
    have he : (fs.toArray)[t / 2]! = nfl fs (t / 2) := by
      rw [getElem!_pos _ _ (by simpa using hj), nfl_eq hj]
      simp
    rw [he]
    rcases Nat.mod_two_eq_zero_or_one t with hm | hm
    · rw [show t / 2 * 2 = t by omega] at q1
      rw [List.getElem?_eq_getElem h2] at q1
      injection q1 with q1
      rw [q1, hm]
      rfl
    · rw [show t / 2 * 2 + 1 = t by omega] at q2
      rw [List.getElem?_eq_getElem h2] at q2
      injection q2 with q2
      rw [q2, hm]
      rfl
theorem flawLt (x y : Int × Int) : Go.Proofs.ltOf flawCmp x y = decide (x.1 < y.1 ∨ x.1 = y.1 ∧ x.2 < y.2) := by
  unfold Go.Proofs.ltOf flawCmp Lib.compareInt
  rcases Int.lt_trichotomy x.1 y.1 with h | h | h
  · simp [h]
  · rcases Int.lt_trichotomy x.2 y.2 with h2 | h2 | h2
    · simp [h, h2]
    · simp [h, h2]
    · simp [h, h2, Int.not_lt.2 (Int.le_of_lt h2)]
  · have h3 : ¬ x.1 < y.1 := by omega
    have h4 : ¬ x.1 = y.1 := by omega
    simp [h, h3, h4]
theorem flaw_swo : SWO (Go.Proofs.ltOf flawCmp) where
  irrefl x := by rw [flawLt]; simp
  trans x y z h1 h2 := by
    rw [flawLt] at *
    simp only [decide_eq_true_eq] at *
    omega
  ntrans x y z h1 h2 := by
    rw [flawLt] at *
    simp only [decide_eq_false_iff_not] at *
    omega
theorem isAggF (w : World) : (isAgg 47).run Try.prog w = .ok true w := by kernel_rfl
theorem sizeOfF (w : World) : (Go.sizeOf 47).run Try.prog w = .ok 2 w := by kernel_rfl
theorem FlR.holds {w : World} {B g n c : Nat} {ls : List (Int × Int)} (h : FlR w B g n c ls) : HoldsK encF 2 w g 0 ls.toArray := by
  obtain ⟨h1, h2, h3, h4, cur, h5, h6, h7⟩ := h
  intro j hj
  have hj' : j < ls.length * 2 := by simpa using hj
  have e : (flatK encF 2 ls.toArray)[j]! = (flC ls)[j]'(by rw [flC_len]; exact hj') := by
    rw [getElem!_pos _ j hj, ← Array.getElem_toList]
    exact List.getElem_of_eq (flat_flC ls) _
  refine ⟨?_, by simp [World.frozen?, h5]⟩
  have h8 : (cur.toList.take (n * 2))[j]? = (flC ls)[j]? := by rw [h7]
  rw [List.getElem?_take_of_lt (by omega)] at h8
  simp only [World.cell?, h5, Nat.zero_add, Option.isSome_none, Bool.false_eq_true, if_false]
  rw [← Array.getElem?_toList, h8, List.getElem?_eq_getElem (by rw [flC_len]; exact hj'), e]
  rfl
theorem FlR.sorted {w : World} {B g n c q : Nat} {os : Array Obj} {ls ts : List (Int × Int)} (h : FlR w B g n c ls) (hl : ts.length = ls.length) :
    FlR (sortWorldK encF 2 w g 0 q ts.toArray os) B g n c ts ∧ Turn (fun j => j = g) w (sortWorldK encF 2 w g 0 q ts.toArray os) := by
  obtain ⟨h1, h2, h3, h4, cur, h5, h6, h7⟩ := h
  have hg : g < w.heap.size := lt_of_block h5
  unfold sortWorldK putRowK
  refine ⟨⟨h1, by omega, h3, h4, putCells id 0 (flatK encF 2 ts.toArray) cur, ?_, by simp [putCells, h6], ?_⟩, ⟨rfl, rfl, rfl, by simp, fun k hk hne => ?_⟩⟩
  · rw [heap_grow_old _ _ (by simpa using hg)]
    simp [putRow, mapBlock, Sort.ahead, Array.getElem?_modify, h5, onCells]
  · rw [show n * 2 = ts.length * 2 by omega, ← flat_flC ts]
    apply List.ext_getElem?
    intro j
    by_cases hj : j < ts.length * 2
    · have hjc : j < cur.size := by omega
      have hjf : j < (flatK encF 2 ts.toArray).size := by simpa using hj
      rw [List.getElem?_take_of_lt hj, Array.getElem?_toList, Array.getElem?_toList]
      simp only [putCells, Array.getElem?_mapIdx, Array.getElem?_eq_getElem hjc, Option.map_some]
      rw [if_pos ⟨Nat.zero_le _, by omega⟩, Nat.sub_zero, getElem!_pos _ j hjf, Array.getElem?_eq_getElem hjf]
      rfl
    · rw [List.getElem?_take_eq_none (by omega), List.getElem?_eq_none (by simp; omega)]
  · rw [heap_grow_old _ _ (by simpa using hk)]
    have : g ≠ k := fun e => hne e.symm
    simp [putRow, mapBlock, Sort.ahead, Array.getElem?_modify, this]
theorem sortFlaws_any (B g n c : Nat) (fs : List (Int × Int)) (w : World) (h : FlR w B g n c fs) (hn : n < 4611686018427387904) :
    Calls Try.prog 69 #[.slice (some ⟨g, 0, none⟩) n c, .func (.func 70) #[] #[]] w fun e w' => e = .returned (.tuple #[]) ∧ (∃ fs2, FlR w' B g n c fs2 ∧ fs2.Perm fs) ∧ Turn (fun j => j = g) w w' := by
  have hl := h.2.1
  have eg : ∀ args w, (callFunc 70 args).run Try.prog w = .ok (.enter 70 args) w := enters_of Try.func70 (by kernel_rfl) rfl
  have hcon := AnyQ.slices_SortFunc Try.sortFlaw 2 isAggF sizeOfF encF (fun _ => rfl) (fun x v hv => by simp [encF] at hv; rcases hv with rfl | rfl <;> rfl) flawCmp flaw_swo 70 #[] g 0 c fs.toArray w eg (fun _ _ _ _ x y => flawCmp_any x y _) h.holds h.lt (by rw [List.size_toArray, ← hl]; exact hn)
  rw [List.size_toArray, ← hl] at hcon
  refine Calls.mono (P := Try.prog) (show Calls Try.prog 69 _ _ _ from hcon) ?_
  rintro e w' ⟨rfl, d', q, os, hp, _, rfl⟩
  have hsz : d'.toList.length = fs.length := by rw [Array.length_toList, hp.1, List.size_toArray]
  have hperm : d'.toList.Perm fs := by
    have h2 := hp.2.2
    rw [Array.extract_eq_self_of_le (by rw [hp.1, List.size_toArray, hl]; exact Nat.le_refl _), Array.extract_eq_self_of_le (by rw [List.size_toArray, hl]; exact Nat.le_refl _)] at h2
    simpa using h2
  obtain ⟨h1, h2⟩ := h.sorted (q := q) (os := os) (ts := d'.toList) hsz
  rw [Array.toArray_toList] at h1 h2
  exact ⟨rfl, ⟨_, h1, hperm⟩, h2⟩
end Go.Proofs.Ytgaacoeggikbpaa

namespace Go.Proofs.Ytgaacoeggikbpaa
open Go.RowKit

/-- What comes of flaws that were written down as raw: some of them, and some where there are some. -/
def Kept2 (raw fs : List (Int × Int)) : Prop := (∀ x ∈ fs, x ∈ raw) ∧ (raw ≠ [] → fs ≠ []) ∧ fs.length ≤ raw.length
set_option maxHeartbeats 8000000 in
set_option maxRecDepth 100000 in
theorem compact_any (B g n c : Nat) (fs : List (Int × Int)) (w : World) (h : FlR w B g n c fs) :
    Calls Try.prog 72 #[.slice (some ⟨g, 0, none⟩) n c] w fun e w' => (∃ n2 fs2, e = .returned (.slice (some ⟨g, 0, none⟩) n2 c) ∧ FlR w' B g n2 c fs2 ∧ Kept2 fs fs2) ∧ Turn (fun j => j = g) w w' := by
  have hl : n = fs.length := h.2.1
  have hnb : n ≤ 9223372036854775807 := by have h1 := h.2.2.1; have h2 := h.2.2.2.1; unfold maxLen at h2; omega
  have hcn : n ≤ c := h.2.2.1
  have hcb : c ≤ 9223372036854775807 := by have h2 := h.2.2.2.1; unfold maxLen at h2; omega
  have HH := Lib.hid h
  have HL := Lib.hid hl
  clear h hl
  by_cases h2 : n < 2
  · go_enter Try.func72, Try.ntmps72
    go_wp2
    go_ret
    exact ⟨⟨n, fs, rfl, HH.out, fun x hx => hx, fun h => h, Nat.le_refl _⟩, Turn.refl _ _⟩
  · go_enter Try.func72, Try.ntmps72
    go_wp2
    go_loopw [3] (fun s wr => ∃ k : Nat, s = .int .i64 k ∧ 1 ≤ k ∧ k ≤ n ∧ Hid (FlR wr B g n c fs ∧ Turn (fun j => j = g) w wr)) (fun s _ => n - (intOf s).toNat)
    case atStart => exact ⟨1, rfl, Nat.le_refl _, by omega, Lib.hid ⟨HH.out, Turn.refl _ _⟩⟩
    case round =>
      obtain ⟨k, rfl, hk1, hk, HW⟩ := hrel
      by_cases hlt : k < n
      · obtain ⟨k', rfl⟩ : ∃ k', k = k' + 1 := ⟨k - 1, by omega⟩
        obtain ⟨c1, c2, f1, f2⟩ := HW.out.1.at_ hlt
        obtain ⟨d1, d2, g1, g2⟩ := HW.out.1.at_ (j := k') (by omega)
        obtain ⟨p, hp⟩ : ∃ p, p = nfl fs (k' + 1) := ⟨_, rfl⟩
        obtain ⟨q, hq⟩ : ∃ q, q = nfl fs k' := ⟨_, rfl⟩
        rw [← hp] at c1 c2
        rw [← hq] at d1 d2
        obtain ⟨pa, pb⟩ := p
        obtain ⟨qa, qb⟩ := q
        obtain ⟨K, hK⟩ : ∃ K, K = k' + 1 := ⟨_, rfl⟩
        rw [← hK] at c1 c2 f1 f2 hk1 hk hlt ⊢
        have hw1 : IntKind.i64.wrap ((K : Int) - 1) = (k' : Int) := by rw [IntKind.wrap_i64]; omega
        have hb1 : (0 : Int) ≤ k' := by omega
        have hb2 : (k' : Int) < n := by omega
        have hb3 : (K : Int) < n := by omega
        have hb4 : k' < n := by omega
        have HK := Lib.hid hK
        clear hp hq hK
        have hcases : ((pa == qa) = false) ∨ (pa = qa ∧ (pb == qb) = false) ∨ (pa = qa ∧ pb = qb) := by
          by_cases e1 : pa = qa
          · by_cases e2 : pb = qb
            · exact Or.inr (Or.inr ⟨e1, e2⟩)
            · exact Or.inr (Or.inl ⟨e1, beq_eq_false_iff_ne.2 e2⟩)
          · exact Or.inl (beq_eq_false_iff_ne.2 e1)
        rcases hcases with hne | ⟨rfl, hne⟩ | ⟨rfl, rfl⟩
        · go_upto_region 6 with fail
          go_quiet (fail)
          clear c1 c2 d1 d2 f1 f2 g1 g2 hw1 hb1 hb2 hb4
          go_wp2
          go_roundw
          case rel => exact ⟨K + 1, by go_num, by omega, by omega, Lib.hid ⟨HW.out.1, HW.out.2.drewN _⟩⟩
          case measure => simp [intOf]; omega
        · go_upto_region 6 with fail
          go_quiet (fail)
          clear c1 c2 d1 d2 f1 f2 g1 g2 hw1 hb1 hb2 hb4
          go_wp2
          go_roundw
          case rel => exact ⟨K + 1, by go_num, by omega, by omega, Lib.hid ⟨HW.out.1, HW.out.2.drewN _⟩⟩
          case measure => simp [intOf]; omega
        · go_upto_region 6 with fail
          go_quiet (fail)
          clear c1 c2 d1 d2 f1 f2 g1 g2 hw1 hb1 hb2 hb4
          obtain ⟨W1, hW1⟩ : ∃ W, W = wr.drewN nq := ⟨_, rfl⟩
          have HW1 := Lib.hid (show FlR W1 B g n c fs ∧ Turn (fun j => j = g) w W1 from by rw [hW1]; exact ⟨HW.out.1, HW.out.2.drewN _⟩)
          rw [← hW1]
          clear hW1
          go_wp2
          go_loopw [3, 5] (fun s3 s5 wr => ∃ (kk k2 : Nat), s3 = .int .i64 kk ∧ s5 = .int .i64 k2 ∧ 1 ≤ kk ∧ kk < K + k2 ∧ 1 ≤ k2 ∧ k2 ≤ n - K ∧ Hid (∃ ls, FlR wr B g n c ls ∧ (∀ x ∈ ls, x ∈ fs) ∧ Turn (fun j => j = g) w wr)) (fun _ s5 _ => (n - K) - (intOf s5).toNat)
          case atStart => exact ⟨K, 1, rfl, rfl, hk1, by omega, Nat.le_refl _, by omega, Lib.hid ⟨fs, HW1.out.1, fun x hx => hx, HW1.out.2⟩⟩
          case round =>
            obtain ⟨kk, k2, rfl, rfl, hkk1, hkk, hk21, hk2, HI⟩ := hrel
            obtain ⟨ls, hF, hm, ht⟩ := HI.out
            have HF := Lib.hid hF
            have HM := Lib.hid hm
            have HT := Lib.hid ht
            clear hm ht HI
            have hkn : kk < n := by omega
            have hkn' : (kk : Int) < n := by omega
            by_cases hlt2 : k2 < n - K
            · obtain ⟨k3, rfl⟩ : ∃ k3, k2 = k3 + 1 := ⟨k2 - 1, by omega⟩
              obtain ⟨c1, c2, f1, f2⟩ := hF.at_ (j := K + (k3 + 1)) (by omega)
              obtain ⟨d1, d2, g1, g2⟩ := hF.at_ (j := K + k3) (by omega)
              obtain ⟨x1, x2, y1, y2⟩ := hF.at_ (j := kk) hkn
              have HPM := Lib.hid (show nfl ls (K + (k3 + 1)) ∈ fs from HM.out _ (nfl_mem (by have := hF.2.1; omega)))
              obtain ⟨p, hp⟩ : ∃ p, p = nfl ls (K + (k3 + 1)) := ⟨_, rfl⟩
              obtain ⟨q, hq⟩ : ∃ q, q = nfl ls (K + k3) := ⟨_, rfl⟩
              rw [← hp] at c1 c2 HPM
              rw [← hq] at d1 d2
              obtain ⟨pa, pb⟩ := p
              obtain ⟨qa, qb⟩ := q
              obtain ⟨J, hJ⟩ : ∃ J, J = k3 + 1 := ⟨_, rfl⟩
              rw [← hJ] at c1 c2 f1 f2 hkk hk21 hk2 hlt2 ⊢
              have eJ : (K + J) * 2 = K * 2 + J * 2 := by omega
              have eK : (K + k3) * 2 = K * 2 + k3 * 2 := by omega
              rw [eJ] at c1 c2 f1 f2
              rw [eK] at d1 d2 g1 g2
              have hw1 : IntKind.i64.wrap ((J : Int) - 1) = (k3 : Int) := by rw [IntKind.wrap_i64]; omega
              have hb1 : (0 : Int) ≤ k3 := by omega
              have hb4 : k3 < n - K := by omega
              have hb2 : (k3 : Int) < (n - K : Nat) := by omega
              have hb3 : (J : Int) < (n - K : Nat) := by omega
              have HJ := Lib.hid hJ
              clear hp hq hJ eJ eK hF
              have hcases : ((pa == qa) = false) ∨ (pa = qa ∧ (pb == qb) = false) ∨ (pa = qa ∧ pb = qb) := by
                by_cases e1 : pa = qa
                · by_cases e2 : pb = qb
                  · exact Or.inr (Or.inr ⟨e1, e2⟩)
                  · exact Or.inr (Or.inl ⟨e1, beq_eq_false_iff_ne.2 e2⟩)
                · exact Or.inl (beq_eq_false_iff_ne.2 e1)
              rcases hcases with hne | ⟨rfl, hne⟩ | ⟨rfl, rfl⟩
              · go_upto_region 11 with fail
                go_quiet (fail)
                clear d1 d2 g1 g2 hw1 hb1 hb2 hb4
                have HSET := Lib.hid (FlR.set2 HF.out HT.out hkn pa pb)
                go_wp2
                go_roundw
                case rel => exact ⟨kk + 1, J + 1, by go_num, by go_num, by omega, by omega, by omega, by omega, Lib.hid ⟨ls.set kk (pa, pb), FlR.block HSET.out.1 rfl, fun x hx => by
                  rcases List.mem_or_eq_of_mem_set hx with h | h
                  · exact HM.out x h
                  · rw [h]; exact HPM.out, ⟨HSET.out.2.os, HSET.out.2.tape, HSET.out.2.output, HSET.out.2.size, HSET.out.2.block⟩⟩⟩
                case measure => simp [intOf]; omega
              · go_upto_region 11 with fail
                go_quiet (fail)
                clear d1 d2 g1 g2 hw1 hb1 hb2 hb4
                have HSET := Lib.hid (FlR.set2 HF.out HT.out hkn pa pb)
                go_wp2
                go_roundw
                case rel => exact ⟨kk + 1, J + 1, by go_num, by go_num, by omega, by omega, by omega, by omega, Lib.hid ⟨ls.set kk (pa, pb), FlR.block HSET.out.1 rfl, fun x hx => by
                  rcases List.mem_or_eq_of_mem_set hx with h | h
                  · exact HM.out x h
                  · rw [h]; exact HPM.out, ⟨HSET.out.2.os, HSET.out.2.tape, HSET.out.2.output, HSET.out.2.size, HSET.out.2.block⟩⟩⟩
                case measure => simp [intOf]; omega
              · go_upto_region 11 with fail
                go_quiet (fail)
                clear c1 c2 d1 d2 f1 f2 g1 g2 hw1 hb1 hb2 hb4
                go_wp2
                go_roundw
                case rel => exact ⟨kk, J + 1, rfl, by go_num, hkk1, by omega, by omega, by omega, Lib.hid ⟨ls, HF.out, HM.out, HT.out.drewN _⟩⟩
                case measure => simp [intOf]; omega
            · obtain rfl : k2 = n - K := by omega
              obtain ⟨vs, hclr⟩ := hF.run_clear hkn 0 (c - kk)
              have HCL := Lib.hid (show FlR (wr.setCells g (kk * 2) vs) B g kk c (ls.take kk) ∧ Turn (fun j => j = g) w (wr.setCells g (kk * 2) vs) from ⟨hF.clear (Nat.le_of_lt hkn) vs, turn_setCells g vs (kk * 2) wr HT.out⟩)
              obtain ⟨W2, hW2⟩ : ∃ W, W = wr.setCells g (kk * 2) vs := ⟨_, rfl⟩
              rw [← hW2] at hclr HCL
              have HNZ := Lib.hid (show ls.take kk ≠ [] from fun e => by
                have h1 := HF.out.2.1
                have h2 := congrArg List.length e
                rw [List.length_take] at h2
                simp only [List.length_nil] at h2
                omega)
              clear hW2 hF
              go_wp2
              go_ret
              exact ⟨⟨kk, ls.take kk, rfl, HCL.out.1, fun x hx => HM.out x (List.mem_of_mem_take hx), fun _ => HNZ.out, by rw [List.length_take]; exact Nat.le_trans (Nat.min_le_left _ _) (by have := HL.out; omega)⟩, HCL.out.2⟩
      · obtain rfl : k = n := by omega
        go_wp2
        go_ret
        exact ⟨⟨k, fs, rfl, HW.out.1, fun x hx => hx, fun h => h, Nat.le_refl _⟩, HW.out.2⟩
end Go.Proofs.Ytgaacoeggikbpaa

namespace Go.Proofs.Ytgaacoeggikbpaa
open Go.RowKit

/-- A row of flaws of the call's own. -/
def FlV (w : World) (B : Nat) (v : Value) (fs : List (Int × Int)) : Prop := w.ownsRow B 47 2 v fs.length (flC fs)
theorem FlV.form {w : World} {B : Nat} {v : Value} {fs : List (Int × Int)} (h : FlV w B v fs) : (fs = [] ∧ v = .slice none 0 0) ∨ ∃ g c, v = .slice (some ⟨g, 0, none⟩) fs.length c ∧ FlR w B g fs.length c fs := by
  have h0 := h
  rcases h.2 with ⟨e, hz⟩ | ⟨g, c, cur, e, _⟩
  · exact Or.inl ⟨List.eq_nil_of_length_eq_zero hz, e⟩
  · right
    refine ⟨g, c, e, FlR.of ?_⟩
    unfold FlV at h0
    rw [e] at h0
    exact h0
theorem FlV.nil (w : World) (B : Nat) : FlV w B (.slice none 0 0) [] := World.ownsRow_nil _ _ _ _
theorem FlV.keep {w w' : World} {B : Nat} {v : Value} {fs : List (Int × Int)} (h : FlV w B v fs) (hb : Below w.heap.size w w') : FlV w' B v fs := fv_stays h hb
theorem compact_nil (w : World) : Calls Try.prog 72 #[.slice none 0 0] w fun e w' => e = .returned (.slice none 0 0) ∧ w = w' := by
  go_enter Try.func72, Try.ntmps72
  go_wp2
  go_ret
  exact ⟨rfl, rfl⟩
theorem sortNone_any (p : Option Addr) (cap : Nat) (fv : Value) (w : World) : Calls Try.prog 69 #[.slice p 0 cap, fv] w fun e w' => e = .returned (.tuple #[]) ∧ w' = w :=
  AnyF.slices_SortFunc_none Try.sortFlaw p cap fv w
theorem sortFV (B : Nat) (v : Value) (fs : List (Int × Int)) (w : World) (h : FlV w B v fs) (hn : fs.length < 4611686018427387904) :
    Calls Try.prog 69 #[v, .func (.func 70) #[] #[]] w fun e w' => e = .returned (.tuple #[]) ∧ (∃ fs2, FlV w' B v fs2 ∧ fs2.Perm fs) ∧ Below B w w' := by
  rcases h.form with ⟨rfl, rfl⟩ | ⟨g, c, rfl, hr⟩
  · refine (sortNone_any none 0 _ w).mono ?_
    rintro e w' ⟨rfl, rfl⟩
    exact ⟨rfl, ⟨[], h, List.Perm.refl _⟩, Below.refl _ _⟩
  · refine (sortFlaws_any B g _ c fs w hr hn).mono ?_
    rintro e w' ⟨rfl, ⟨fs2, h2, hp⟩, ht⟩
    refine ⟨rfl, ⟨fs2, ?_, hp⟩, ht.below (fun j e => by rw [show j = g from e]; exact hr.1) (Nat.le_trans hr.1 (Nat.le_of_lt hr.lt))⟩
    have h3 := h2.own
    unfold FlV
    rw [hp.length_eq]
    exact h3
theorem compactFV (B : Nat) (v : Value) (fs : List (Int × Int)) (w : World) (h : FlV w B v fs) :
    Calls Try.prog 72 #[v] w fun e w' => (∃ v2 fs2, e = .returned v2 ∧ FlV w' B v2 fs2 ∧ Kept2 fs fs2) ∧ Below B w w' := by
  rcases h.form with ⟨rfl, rfl⟩ | ⟨g, c, rfl, hr⟩
  · refine (compact_nil w).mono ?_
    rintro e w' ⟨rfl, rfl⟩
    exact ⟨⟨_, [], rfl, h, fun x hx => hx, fun h => h, Nat.le_refl _⟩, Below.refl _ _⟩
  · refine (compact_any B g _ c fs w hr).mono ?_
    rintro e w' ⟨⟨n2, fs2, rfl, h2, hk⟩, ht⟩
    refine ⟨⟨_, fs2, rfl, ?_, hk⟩, ht.below (fun j e => by rw [show j = g from e]; exact hr.1) (Nat.le_trans hr.1 (Nat.le_of_lt hr.lt))⟩
    have h3 := h2.own
    have h4 := h2.2.1
    unfold FlV
    rw [← h4]
    exact h3
end Go.Proofs.Ytgaacoeggikbpaa

namespace Go.Proofs.Ytgaacoeggikbpaa
open Go.RowKit

theorem infoFlaw : (Try.prog.info? 47).map (fun i => (i.zero, i.size, i.bytes)) = some (some (.agg #[.int .i64 0, .int .i64 0]), 2, 16) := by kernel_rfl
theorem bx_no2 {W : World} {g : Nat} {cs : Array Value} {t t2 : TypeId} (h : BX W g t cs) (hne : t ≠ t2) : ∀ cs', W.heap[g]? = some (Obj.cells cs' t2 (0, 0)) → False := fun cs' e => by
  unfold BX at h
  rw [h] at e
  injection e with e
  injection e with _ e _
  exact hne e
/-- What is told by R rules, the first of which tells wb, of n nodes. -/
def FoundP (R n : Nat) (P : Nat → Nat → Bool) (wb : Int) (fs : List (Int × Int)) : Prop :=
  (∀ x ∈ fs, ∃ q i, q < R ∧ i < n ∧ P q i = true ∧ x.1 = wb + (q : Nat)) ∧ ((∃ q i, q < R ∧ i < n ∧ P q i = true) → fs ≠ [])
def UpP (R n : Nat) (P : Nat → Nat → Bool) (wb : Int) (r j : Nat) (fs : List (Int × Int)) : Prop :=
  (∀ x ∈ fs, ∃ q i, q < R ∧ i < n ∧ P q i = true ∧ x.1 = wb + (q : Nat)) ∧ ((∃ q i, (q < r ∨ q = r ∧ i < j) ∧ i < n ∧ P q i = true) → fs ≠ [])
section
variable {R n : Nat} {P : Nat → Nat → Bool} {wb : Int} {r j : Nat} {fs : List (Int × Int)}
theorem UpP.start (R n : Nat) (P : Nat → Nat → Bool) (wb : Int) : UpP R n P wb 0 0 [] := ⟨(fun x h => by cases h), (fun ⟨q, i, h, _⟩ => by omega)⟩
theorem UpP.no (h : UpP R n P wb r j fs) (hp : P r j = false) : UpP R n P wb r (j + 1) fs := ⟨h.1, fun ⟨q, i, h1, h2, h3⟩ => h.2 ⟨q, i, by
  rcases h1 with h1 | ⟨rfl, h1⟩
  · exact Or.inl h1
  · by_cases e : i = j
    · subst e; rw [hp] at h3; cases h3
    · exact Or.inr ⟨rfl, by omega⟩, h2, h3⟩⟩
theorem UpP.yes {x : Int × Int} (h : UpP R n P wb r j fs) (hr : r < R) (hj : j < n) (hp : P r j = true) (hx : x.1 = wb + (r : Nat)) : UpP R n P wb r (j + 1) (fs ++ [x]) := ⟨fun y hy => by
  rcases List.mem_append.1 hy with hy | hy
  · exact h.1 y hy
  · rw [List.mem_singleton.1 hy]
    exact ⟨r, j, hr, hj, hp, hx⟩, fun _ => by simp⟩
theorem UpP.next (h : UpP R n P wb r n fs) : UpP R n P wb (r + 1) 0 fs := ⟨h.1, fun ⟨q, i, h1, h2, h3⟩ => h.2 ⟨q, i, by omega, h2, h3⟩⟩
theorem UpP.done (h : UpP R n P wb R 0 fs) : FoundP R n P wb fs := ⟨h.1, fun ⟨q, i, h1, h2, h3⟩ => h.2 ⟨q, i, Or.inl h1, h2, h3⟩⟩
theorem FoundP.kept {fs2 fs3 : List (Int × Int)} (h : FoundP R n P wb fs) (hp : fs2.Perm fs) (hk : Kept2 fs2 fs3) : FoundP R n P wb fs3 :=
  ⟨fun x hx => h.1 x (hp.mem_iff.1 (hk.1 x hx)), fun he => hk.2.1 (fun e => h.2 he (by
    rw [e] at hp
    exact hp.symm.eq_nil))⟩
end

end Go.Proofs.Ytgaacoeggikbpaa
