/- Writing into one of two copies: the other stays. No walk. Rows of the call's own that grow, beside a node's box: what stays when one of them grows, or a box is written. No program but types. bowerref06.Delete, Put and Same on rows of pairs. Condition: at most 2^38 pairs. bowerref06.Next and Prev on rows of pairs: the best pair of those that are meant. Conditions: at most 2^38 pairs, texts of at most 2^47 bytes. bowerref06.Put and Same on rows of pairs. Condition: at most 2^38 pairs. bowerref06.Prev on rows of pairs. Conditions: at most 2^38 pairs, texts of at most 2^47 bytes. Plain facts on pairs: the best of those that are meant is the first one of a rising list with the same pairs; Get by such a list. No program, no world. bowerref06.All on rows of pairs of which each key is there once: the rising list. Conditions: at most 2^38 pairs, texts of at most 2^47 bytes. bowerref06.Scan on rows of pairs of which each key is there once. Conditions: at most 2^38 pairs, texts of at most 2^47 bytes; the limit is an int. -/
import Derived.Test.YtgaacoeggikbpaaNodeTwo
import Derived.Test.YtgaacoeggikbpaaNodeSameOps
import Derived.Test.YtgaacoeggikbpaaNods
import Derived.Deep.AppendLies
import Derived.Test.YtgaacoeggikbpaaPq9
import Derived.Outline
import Derived.WalkSmall
import Derived.Deep.LoopGhost
import Derived.IntWalk
namespace Go.Proofs.Ytgaacoeggikbpaa
open Go.RowKit

theorem row_at {W0 W : World} {t : TypeId} {ao : Option Addr} {n k : Nat} {xs : List Value} (h : NewRow W0 W t (.slice ao n n) xs) (hk : k < n) : ∃ g, ao = some ⟨g, 0, none⟩ ∧ W0.heap.size ≤ g ∧ Whole W t g xs ∧ xs.length = n := by
  rcases h with ⟨g, h1, h2, h3⟩ | ⟨h, _⟩
  · injection h1 with e1 e2 e3
    exact ⟨g, e1, h2, h3, e2.symm⟩
  · injection h with _ e2 _
    omega

theorem Whole.set_ {W : World} {t : TypeId} {g : Nat} {xs : List Value} (h : Whole W t g xs) (k : Nat) (u : Value) : Whole (W.setCell ⟨g, k, none⟩ u) t g (xs.set k u) := by
  unfold Whole at *
  rw [heap_setCell_same W g k _ t u h]
  congr 2
  simp

theorem Whole.other {W : World} {t t' : TypeId} {g g' : Nat} {xs ys : List Value} (h : Whole W t g xs) (h' : Whole W t' g' ys) (hne : t ≠ t') : g ≠ g' := by
  intro e
  subst e
  unfold Whole at h h'
  rw [h] at h'
  injection h' with h'
  injection h' with _ h' _
  exact hne h'
theorem NB.other {W : World} {t : TypeId} {g g' : Nat} {cs : Array Value} {ys : List Value} (h : NB W g cs) (h' : Whole W t g' ys) (hne : 38 ≠ t) : g ≠ g' := by
  intro e
  subst e
  unfold NB at h
  unfold Whole at h'
  rw [h] at h'
  injection h' with h'
  injection h' with _ h' _
  exact hne h'

theorem NewRow.else_ {W0 W : World} {t t' : TypeId} {v : Value} {g k : Nat} {xs ys : List Value} (h : NewRow W0 W t v xs) (h' : Whole W t' g ys) (hne : t ≠ t') (u : Value) : NewRow W0 (W.setCell ⟨g, k, none⟩ u) t v xs := by
  rcases h with ⟨b, h1, h2, h3⟩ | h
  · refine Or.inl ⟨b, h1, h2, ?_⟩
    unfold Whole
    rw [Below.heap_setCell W ⟨g, k, none⟩ u b (h3.other h' hne)]
    exact h3
  · exact Or.inr h
theorem NewRow.apart {W0 W : World} {t : TypeId} {ao : Option Addr} {n m g k : Nat} {xs : List Value} (h : NewRow W0 W t (.slice ao n m) xs) (ha : Apart (some ⟨g, 0, none⟩) ao) (u : Value) : NewRow W0 (W.setCell ⟨g, k, none⟩ u) t (.slice ao n m) xs := by
  rcases h with ⟨b, h1, h2, h3⟩ | h
  · injection h1 with e1 e2 e3
    subst e1
    refine Or.inl ⟨b, by rw [e2, e3], h2, ?_⟩
    unfold Whole
    rw [Below.heap_setCell W ⟨g, k, none⟩ u b (fun e => ha g 0 b 0 rfl rfl e.symm)]
    exact h3
  · exact Or.inr h
theorem NewRow.wrote {W0 W : World} {t : TypeId} {n g k : Nat} {xs : List Value} (h : NewRow W0 W t (.slice (some ⟨g, 0, none⟩) n n) xs) (u : Value) : NewRow W0 (W.setCell ⟨g, k, none⟩ u) t (.slice (some ⟨g, 0, none⟩) n n) (xs.set k u) := by
  rcases h with ⟨b, h1, h2, h3⟩ | ⟨h, _⟩
  · injection h1 with e1 e2 e3
    injection e1 with e1
    injection e1 with e1 _ _
    subst e1
    exact Or.inl ⟨g, by rw [List.length_set, ← e2], h2, h3.set_ k u⟩
  · injection h with h; cases h

section
variable {W0 W : World} {gc gd g k : Nat} {lv nx : Int} {lo hi : ByteArray} {la : Bool} {ka va ca kb vb cb : Option Addr} {xk xv xc : List Value} {ks : List ByteArray} {vs : List Nat} {cs : List Int}
theorem TwoAt.setK (h : TwoAt W0 W gc gd lv nx lo hi la (some ⟨g, 0, none⟩) va ca kb vb cb xk xv xc ks vs cs) (hw : Whole W 9 g xk) (hg : W0.heap.size ≤ g) (u : Value) : TwoAt W0 (W.setCell ⟨g, k, none⟩ u) gc gd lv nx lo hi la (some ⟨g, 0, none⟩) va ca kb vb cb (xk.set k u) xv xc ks vs cs :=
  ⟨h.c.far (h.c.other hw (by decide)) u, h.d.far (h.d.other hw (by decide)) u, h.ck.wrote u, h.cv.else_ hw (by decide) u, h.cc.else_ hw (by decide) u, h.dk.apart h.ak u, h.dv.else_ hw (by decide) u, h.dc.else_ hw (by decide) u, h.ak, h.av, h.ac, h.b.setCell hg u⟩
theorem TwoAt.setV (h : TwoAt W0 W gc gd lv nx lo hi la ka (some ⟨g, 0, none⟩) ca kb vb cb xk xv xc ks vs cs) (hw : Whole W 30 g xv) (hg : W0.heap.size ≤ g) (u : Value) : TwoAt W0 (W.setCell ⟨g, k, none⟩ u) gc gd lv nx lo hi la ka (some ⟨g, 0, none⟩) ca kb vb cb xk (xv.set k u) xc ks vs cs :=
  ⟨h.c.far (h.c.other hw (by decide)) u, h.d.far (h.d.other hw (by decide)) u, h.ck.else_ hw (by decide) u, h.cv.wrote u, h.cc.else_ hw (by decide) u, h.dk.else_ hw (by decide) u, h.dv.apart h.av u, h.dc.else_ hw (by decide) u, h.ak, h.av, h.ac, h.b.setCell hg u⟩
theorem TwoAt.setC (h : TwoAt W0 W gc gd lv nx lo hi la ka va (some ⟨g, 0, none⟩) kb vb cb xk xv xc ks vs cs) (hw : Whole W 3 g xc) (hg : W0.heap.size ≤ g) (u : Value) : TwoAt W0 (W.setCell ⟨g, k, none⟩ u) gc gd lv nx lo hi la ka va (some ⟨g, 0, none⟩) kb vb cb xk xv (xc.set k u) ks vs cs :=
  ⟨h.c.far (h.c.other hw (by decide)) u, h.d.far (h.d.other hw (by decide)) u, h.ck.else_ hw (by decide) u, h.cv.else_ hw (by decide) u, h.cc.wrote u, h.dk.else_ hw (by decide) u, h.dv.else_ hw (by decide) u, h.dc.apart h.ac u, h.ak, h.av, h.ac, h.b.setCell hg u⟩

theorem TwoAt.keep {W' : World} (h : TwoAt W0 W gc gd lv nx lo hi la ka va ca kb vb cb xk xv xc ks vs cs) (hb : Below W.heap.size W W') : TwoAt W0 W' gc gd lv nx lo hi la ka va ca kb vb cb xk xv xc ks vs cs :=
  ⟨h.c.below hb, h.d.below hb, h.ck.keep hb, h.cv.keep hb, h.cc.keep hb, h.dk.keep hb, h.dv.keep hb, h.dc.keep hb, h.ak, h.av, h.ac, h.b.trans (hb.mono h.b.size)⟩

theorem TwoAt.nd (h : TwoAt W0 W gc gd lv nx lo hi la ka va ca kb vb cb xk xv xc ks vs cs) (hl : ks.length ≤ 9223372036854775807 ∧ vs.length ≤ 9223372036854775807 ∧ cs.length ≤ 9223372036854775807) : NdAt W kb vb cb ks.length ks.length vs.length vs.length cs.length cs.length ks vs cs := by
  have h1 := h.dk.rd (by rw [List.length_map]; omega)
  have h2 := h.dv.rd (by rw [List.length_map]; omega)
  have h3 := h.dc.rd (by rw [List.length_map]; omega)
  exact ⟨h1, h2, h3⟩
theorem TwoAt.nc (h : TwoAt W0 W gc gd lv nx lo hi la ka va ca kb vb cb (ks.map Value.string) (vs.map uv) (cs.map (Value.int .i64)) ks vs cs) (hl : ks.length ≤ 9223372036854775807 ∧ vs.length ≤ 9223372036854775807 ∧ cs.length ≤ 9223372036854775807) : NdAt W ka va ca ks.length ks.length vs.length vs.length cs.length cs.length ks vs cs := by
  have h1 := h.ck.rd (by rw [List.length_map]; omega)
  have h2 := h.cv.rd (by rw [List.length_map]; omega)
  have h3 := h.cc.rd (by rw [List.length_map]; omega)
  exact ⟨h1, h2, h3⟩

/-- From place k on the row is as it was. -/
def Still (xs ys : List Value) (k : Nat) : Prop := ∀ i, k ≤ i → xs[i]? = ys[i]?
theorem Still.set {xs ys : List Value} (h : Still xs ys k) (u : Value) : Still (xs.set k u) ys (k + 1) := fun i hi => by
  rw [List.getElem?_set_ne (by omega)]
  exact h i (by omega)
theorem Whole.still {t : TypeId} {α : Type} {f : α → Value} {l : List α} {xs : List Value} (h : Whole W t g xs) (hs : Still xs (l.map f) k) (hk : k < l.length) : W.cell? ⟨g, k, none⟩ = some (f l[k]) ∧ W.frozen? ⟨g, k, none⟩ = false := by
  refine ⟨?_, ?_⟩
  · rw [h.cell, hs k (Nat.le_refl _), List.getElem?_map, List.getElem?_eq_getElem hk]; rfl
  · unfold Whole at h
    simp [World.frozen?, h]
end
/-- Behind the two copies: where the boxes lie. -/
def TwoC (W0 wx : World) (s5 s6 : Value) (lv nx : Int) (lo hi : ByteArray) (la : Bool) (ks : List ByteArray) (vs : List Nat) (cs : List Int) : Prop :=
  ∃ (gc gd : Nat) (ka va ca kb vb cb : Option Addr), s5 = .pointer (some ⟨gc, 0, none⟩) ∧ s6 = .pointer (some ⟨gd, 0, none⟩) ∧ TwoAt W0 wx gc gd lv nx lo hi la ka va ca kb vb cb (ks.map Value.string) (vs.map uv) (cs.map (Value.int .i64)) ks vs cs

theorem twoC_of {W0 wx : World} {gc gd : Nat} {lv nx : Int} {lo hi : ByteArray} {la : Bool} {ka va ca kb vb cb : Option Addr} {ks : List ByteArray} {vs : List Nat} {cs : List Int}
    (hc : NP wx gc [(7, .slice ca cs.length cs.length), (6, .slice va vs.length vs.length), (5, .slice ka ks.length ks.length), (4, .int .i64 nx), (3, .bool la), (2, .string hi), (1, .string lo), (0, .int .i64 lv)])
    (hd : NP wx gd [(7, .slice cb cs.length cs.length), (6, .slice vb vs.length vs.length), (5, .slice kb ks.length ks.length), (4, .int .i64 nx), (3, .bool la), (2, .string hi), (1, .string lo), (0, .int .i64 lv)])
    (h1 : NewRow W0 wx 9 (.slice ka ks.length ks.length) (ks.map Value.string)) (h2 : NewRow W0 wx 30 (.slice va vs.length vs.length) (vs.map uv)) (h3 : NewRow W0 wx 3 (.slice ca cs.length cs.length) (cs.map (Value.int .i64)))
    (h4 : NewRow W0 wx 9 (.slice kb ks.length ks.length) (ks.map Value.string)) (h5 : NewRow W0 wx 30 (.slice vb vs.length vs.length) (vs.map uv)) (h6 : NewRow W0 wx 3 (.slice cb cs.length cs.length) (cs.map (Value.int .i64)))
    (a1 : Apart ka kb) (a2 : Apart va vb) (a3 : Apart ca cb) (hb : Below W0.heap.size W0 wx) : Hid (TwoC W0 wx (.pointer (some ⟨gc, 0, none⟩)) (.pointer (some ⟨gd, 0, none⟩)) lv nx lo hi la ks vs cs) :=
  Lib.hid ⟨gc, gd, ka, va, ca, kb, vb, cb, rfl, rfl, ⟨hc.full, hd.full, h1, h2, h3, h4, h5, h6, a1, a2, a3, hb⟩⟩
end Go.Proofs.Ytgaacoeggikbpaa

namespace Go.Proofs.Ytgaacoeggikbpaa
open Go.RowKit

/-- A row of the call's own, of elements of one cell. -/
def OwnR (w : World) (B : Nat) (t : TypeId) (v : Value) (xs : List Value) : Prop := w.ownsRow B t 1 v xs.length xs
/-- A row's block, if there is one, has that type. -/
def InT (w : World) (r : Option Nat) (t : TypeId) : Prop := ∀ g, r = some g → ∃ cs fr, w.heap[g]? = some (.cells cs t fr)

section
variable {w w' : World} {B : Nat} {t t' : TypeId} {k n : Nat} {v : Value} {xs : List Value} {row : Option Nat}
theorem own_inT (h : w.ownsRow B t k v n xs) : InT w v.ownBlock t := by
  rcases h.2 with ⟨rfl, _⟩ | ⟨g, cap, cur, rfl, _, hg, _⟩
  · intro g h; cases h
  · intro g' h
    injection h with h
    subst h
    exact ⟨_, _, hg⟩
theorem nb_inT {A : Nat} {cs : Array Value} (h : NB w A cs) : InT w (some A) 38 := by
  intro g e
  injection e with e
  subst e
  exact ⟨_, _, h⟩
theorem inT_ne {g : Nat} {cs : Array Value} {fr : Nat × Nat} (h : w.heap[g]? = some (.cells cs t fr)) (hr : InT w row t') (hne : t ≠ t') : some g ≠ row := by
  intro e
  obtain ⟨c2, f2, e2⟩ := hr g e.symm
  rw [h] at e2
  injection e2 with e2
  injection e2 with _ e3 _
  exact hne e3
theorem own_keeps (h : w.ownsRow B t k v n xs) (hg : w.grownBy w' row) (hr : InT w row t') (hne : t ≠ t') : w'.ownsRow B t k v n xs := by
  refine h.kept hg ?_
  rcases h.2 with ⟨rfl, _⟩ | ⟨g, cap, cur, rfl, _, h1, _⟩
  · exact Or.inl rfl
  · exact Or.inr (inT_ne h1 hr hne)
theorem own_stays (h : w.ownsRow B t k v n xs) (hb : Below w.heap.size w w') : w'.ownsRow B t k v n xs := by
  refine ⟨h.1, ?_⟩
  rcases h.2 with hn | ⟨g, cap, cur, rfl, hbg, hg, rest⟩
  · exact Or.inl hn
  · exact Or.inr ⟨g, cap, cur, rfl, hbg, by rw [hb.block g (lt_of_block hg)]; exact hg, rest⟩
theorem own_base {C : Nat} (h : w.ownsRow B t k v n xs) (hc : C ≤ B) : w.ownsRow C t k v n xs := by
  refine ⟨h.1, ?_⟩
  rcases h.2 with hn | ⟨g, cap, cur, rfl, hbg, rest⟩
  · exact Or.inl hn
  · exact Or.inr ⟨g, cap, cur, rfl, by omega, rest⟩
theorem own_moved (h : w.ownsRow B t k v n xs) (hh : ∀ (g : Nat) (cs : Array Value), w.heap[g]? = some (Obj.cells cs t (0, 0)) → w'.heap[g]? = w.heap[g]?) : w'.ownsRow B t k v n xs := by
  refine ⟨h.1, ?_⟩
  rcases h.2 with hn | ⟨g, cap, cur, rfl, hbg, hg, rest⟩
  · exact Or.inl hn
  · exact Or.inr ⟨g, cap, cur, rfl, hbg, by rw [hh g cur hg]; exact hg, rest⟩
theorem own_wr5 {A : Nat} {cs : Array Value} (h : w.ownsRow B t k v n xs) (hA : NB w A cs) (hne : 38 ≠ t) (l : List (Nat × Value)) : (wr5 w A l).ownsRow B t k v n xs :=
  own_moved h (fun g c hg => wr5_far A g (by
    intro e
    subst e
    unfold NB at hA
    rw [hA] at hg
    injection hg with hg
    injection hg with _ e3 _
    exact hne e3) l w)
theorem NB.grown {A : Nat} {cs : Array Value} (h : NB w A cs) (hg : w.grownBy w' row) (hr : InT w row t') (hne : 38 ≠ t') : NB w' A cs :=
  (hg.block A (lt_of_block h) (inT_ne h hr hne)).trans h
theorem grown_set (w : World) (g i : Nat) (u : Value) : w.grownBy (w.setCell ⟨g, i, none⟩ u) (some g) :=
  ⟨rfl, rfl, rfl, by simp [World.setCell], fun k _ hne => Below.heap_setCell w ⟨g, i, none⟩ u k (fun e => hne (by rw [e]))⟩
theorem OwnR.nil (w : World) (B : Nat) (t : TypeId) : OwnR w B t (.slice none 0 0) [] := World.ownsRow_nil _ _ _ _
theorem OwnR.open (h : OwnR w B t v xs) : ∃ ao c, v = .slice ao xs.length c := by
  rcases h.2 with ⟨rfl, hz⟩ | ⟨g, cap, cur, rfl, _⟩
  · exact ⟨none, 0, by rw [hz]⟩
  · exact ⟨_, _, rfl⟩
theorem OwnR.rd (h : OwnR w B t v xs) : Rd w v xs := rd_of_owns h
theorem OwnR.keep (h : OwnR w B t v xs) (hb : Below w.heap.size w w') : OwnR w' B t v xs := own_stays h hb
theorem OwnR.far {ao : Option Addr} {n c : Nat} (h : OwnR w B t (.slice ao n c) xs) : Far B ao := by
  intro p hp
  rcases h.2 with ⟨e, _⟩ | ⟨g, cap, cur, e, hb, _⟩
  · injection e with e _ _
    rw [hp] at e; cases e
  · injection e with e _ _
    rw [hp] at e
    injection e with e
    rw [e]; exact hb
end
theorem news_one (w : World) (u : Value) (t : TypeId) : ∀ j x, [u][j]? = some x → (w.alloc (.cells #[u] t)).cell? ((⟨w.heap.size, 0, none⟩ : Addr).add j) = some x :=
  World.news_of_block (cs := #[u]) (heap_alloc_new w _)
theorem ones_s (s : ByteArray) : ∀ u ∈ [Value.string s], u.oneCell' = true := by intro u hu; simp at hu; rw [hu]; rfl
theorem ones_u (z : Int) : ∀ u ∈ [Value.int .u64 z], u.oneCell' = true := by intro u hu; simp at hu; rw [hu]; rfl

end Go.Proofs.Ytgaacoeggikbpaa

namespace Go.Proofs.Ytgaacoeggikbpaa
open Go.RowKit

def pcells (ps : List (ByteArray × Int)) : List Value := ps.flatMap fun p => [.string p.1, .int .u64 p.2]

theorem pcells_len (ps : List (ByteArray × Int)) : (pcells ps).length = ps.length * 2 := by
  unfold pcells
  induction ps with
  | nil => rfl
  | cons p ps ih => rw [List.flatMap_cons, List.length_append, ih, List.length_cons]; simp; omega

theorem pcells_append (ps qs : List (ByteArray × Int)) : pcells (ps ++ qs) = pcells ps ++ pcells qs := by unfold pcells; rw [List.flatMap_append]

theorem pcells_get (ps : List (ByteArray × Int)) (j : Nat) (hj : j < ps.length) : (pcells ps)[j * 2]? = some (.string (ntp ps j).1) ∧ (pcells ps)[j * 2 + 1]? = some (.int .u64 (ntp ps j).2) := by
  induction ps generalizing j with
  | nil => simp at hj
  | cons p ps ih =>
    cases j with
    | zero => exact ⟨rfl, rfl⟩
    | succ j =>
      have h := ih j (by simpa using hj)
      have e1 : pcells (p :: ps) = .string p.1 :: .int .u64 p.2 :: pcells ps := rfl
      have e2 : ntp (p :: ps) (j + 1) = ntp ps j := rfl
      rw [e1, e2, show (j + 1) * 2 = j * 2 + 1 + 1 by omega, List.getElem?_cons_succ, List.getElem?_cons_succ, List.getElem?_cons_succ, List.getElem?_cons_succ]
      exact h

/-- A row of pairs of the call's own. -/
def OwnP (w : World) (B : Nat) (v : Value) (ps : List (ByteArray × Int)) : Prop := w.ownsRow B 32 2 v ps.length (pcells ps)

theorem OwnP.rd {w : World} {B : Nat} {v : Value} {ps : List (ByteArray × Int)} (h : OwnP w B v ps) : RdP w v ps := by
  have h0 := h
  rcases h.2 with ⟨rfl, hz⟩ | ⟨g, cap, cur, rfl, _, hg, hnc, hm, _⟩
  · have : ps = [] := List.eq_nil_of_length_eq_zero hz
    subst this
    exact ⟨none, 0, rfl, Nat.le_refl _, by omega, fun h => absurd h (by simp)⟩
  · unfold maxLen at hm
    refine ⟨_, cap, rfl, hnc, hm, fun _ => ⟨g, 0, rfl, fun j hj => ?_⟩⟩
    have := pcells_get ps j hj
    rw [Nat.zero_add]
    exact ⟨(h0.cellAt (j * 2) (by omega)).trans this.1, (h0.cellAt (j * 2 + 1) (by omega)).trans this.2⟩

theorem OwnP.nil (w : World) (B : Nat) : OwnP w B (.slice none 0 0) [] := World.ownsRow_nil _ _ _ _

theorem OwnP.keep {w w' : World} {B : Nat} {v : Value} {ps : List (ByteArray × Int)} (h : OwnP w B v ps) (hb : Below w.heap.size w w') : OwnP w' B v ps := by
  refine ⟨h.1, ?_⟩
  rcases h.2 with hn | ⟨g, cap, cur, rfl, hbg, hg, rest⟩
  · exact Or.inl hn
  · exact Or.inr ⟨g, cap, cur, rfl, hbg, by rw [hb.block g (lt_of_block hg)]; exact hg, rest⟩

theorem infoPair : (Try.prog.info? 32).map (fun i => (i.zero, i.size, i.bytes)) = some (some (.agg #[.string ⟨#[]⟩, .int .u64 0]), 2, 24) := by kernel_rfl

/-- The pairs of all keys but one. -/
def delP (ps : List (ByteArray × Int)) (k : ByteArray) : List (ByteArray × Int) := ps.filter fun p => decide (p.1 ≠ k)

theorem delP_step (ps : List (ByteArray × Int)) (k : ByteArray) (i : Nat) (hi : i < ps.length) : delP (ps.take (i + 1)) k = delP (ps.take i) k ++ (if (ntp ps i).1 = k then [] else [ntp ps i]) := by
  unfold delP
  rw [List.take_succ_eq_append_getElem hi, List.filter_append, ntp_eq hi]
  by_cases h : ps[i].1 = k <;> simp [h]

theorem delP_len (ps : List (ByteArray × Int)) (k : ByteArray) (i : Nat) : (delP (ps.take i) k).length ≤ ps.length := by
  unfold delP
  refine Nat.le_trans (List.length_filter_le _ _) ?_
  rw [List.length_take]; omega

theorem two_news (w : World) (s : ByteArray) (z : Int) (t : TypeId) : ∀ j u, [Value.string s, .int .u64 z][j]? = some u → (w.alloc (.cells #[.string s, .int .u64 z] t)).cell? ((⟨w.heap.size, 0, none⟩ : Addr).add j) = some u := by
  intro j u hj
  obtain ⟨hlt, e⟩ := List.getElem?_eq_some_iff.1 hj
  have : j = 0 ∨ j = 1 := by simp at hlt; omega
  rcases this with rfl | rfl
  · rw [show (⟨w.heap.size, 0, none⟩ : Addr).add 0 = ⟨w.heap.size, 0, none⟩ by simp [Addr.add], World.cell?_alloc_at _ _ _ _ (by simp)]
    simpa using e
  · rw [show (⟨w.heap.size, 0, none⟩ : Addr).add 1 = ⟨w.heap.size, 1, none⟩ by simp [Addr.add], World.cell?_alloc_at _ _ _ _ (by simp)]
    simpa using e

/-- The pairs and one more. -/
theorem OwnP.more {w' : World} {B : Nat} {v' : Value} {qs : List (ByteArray × Int)} {s : ByteArray} {z : Int} (h : w'.ownsRow B 32 2 v' (qs.length + 1) (pcells qs ++ [.string s, .int .u64 z])) : OwnP w' B v' (qs ++ [(s, z)]) := by
  unfold OwnP
  rw [List.length_append, pcells_append]
  exact h

def DelGives (w w' : World) (e : Ending) (ps : List (ByteArray × Int)) : Prop := ∃ v, e = .returned v ∧ OwnP w' w.heap.size v ps ∧ Below w.heap.size w w'

end Go.Proofs.Ytgaacoeggikbpaa

namespace Go.Proofs.Ytgaacoeggikbpaa
open Go.RowKit

/-- The best pair of those that are meant. -/
def beats (bt : ByteArray → ByteArray → Bool) (p : ByteArray × Int) : Option (ByteArray × Int) → Bool
  | none => true
  | some b => bt p.1 b.1
def selStep (c : ByteArray → Bool) (bt : ByteArray → ByteArray → Bool) (best : Option (ByteArray × Int)) (p : ByteArray × Int) : Option (ByteArray × Int) :=
  if c p.1 && beats bt p best then some p else best
def selP (c : ByteArray → Bool) (bt : ByteArray → ByteArray → Bool) (ps : List (ByteArray × Int)) : Option (ByteArray × Int) := ps.foldl (selStep c bt) none

theorem selP_step (c : ByteArray → Bool) (bt : ByteArray → ByteArray → Bool) (ps : List (ByteArray × Int)) (i : Nat) (hi : i < ps.length) : selP c bt (ps.take (i + 1)) = selStep c bt (selP c bt (ps.take i)) (ntp ps i) := by
  unfold selP
  rw [List.take_succ_eq_append_getElem hi, List.foldl_append, ntp_eq hi]
  rfl

theorem selStep_some (c : ByteArray → Bool) (bt : ByteArray → ByteArray → Bool) (best : Option (ByteArray × Int)) (p b : ByteArray × Int) (h : selStep c bt best p = some b) : best = some b ∨ (p = b ∧ c b.1 = true) := by
  unfold selStep at h
  by_cases hc : (c p.1 && beats bt p best) = true
  · rw [if_pos hc] at h
    injection h with h
    subst h
    simp only [Bool.and_eq_true] at hc
    exact Or.inr ⟨rfl, hc.1⟩
  · rw [if_neg hc] at h
    exact Or.inl h

theorem selP_mem (c : ByteArray → Bool) (bt : ByteArray → ByteArray → Bool) (ps : List (ByteArray × Int)) : ∀ b, selP c bt ps = some b → b ∈ ps ∧ c b.1 = true := by
  unfold selP
  suffices h : ∀ (best : Option (ByteArray × Int)) b, ps.foldl (selStep c bt) best = some b → (best = some b) ∨ (b ∈ ps ∧ c b.1 = true) by
    intro b hb
    rcases h none b hb with h | h
    · cases h
    · exact h
  induction ps with
  | nil => intro best b h; exact Or.inl h
  | cons p ps ih =>
    intro best b h
    rw [List.foldl_cons] at h
    rcases ih _ _ h with h1 | h1
    · rcases selStep_some c bt best p b h1 with h2 | ⟨rfl, h2⟩
      · exact Or.inl h2
      · exact Or.inr ⟨List.mem_cons_self, h2⟩
    · exact Or.inr ⟨List.mem_cons_of_mem _ h1.1, h1.2⟩

/-- What stands in 'ok' and 'best'. -/
def Sel (c : ByteArray → Bool) (bt : ByteArray → ByteArray → Bool) (ps : List (ByteArray × Int)) (b : Bool) (p : ByteArray × Int) : Prop :=
  (b = false ∧ p = (⟨#[]⟩, 0) ∧ selP c bt ps = none) ∨ (b = true ∧ selP c bt ps = some p)

/-- A pair in a block of its own. -/
def Two (w : World) (g : Nat) (p : ByteArray × Int) : Prop := w.heap[g]? = some (.cells #[.string p.1, .int .u64 p.2] 32 (0, 0))

theorem Two.c0 {w : World} {g : Nat} {p : ByteArray × Int} (h : Two w g p) : w.cell? ⟨g, 0, none⟩ = some (.string p.1) := by unfold Two at h; simp [World.cell?, h]
theorem Two.c1 {w : World} {g : Nat} {p : ByteArray × Int} (h : Two w g p) : w.cell? ⟨g, 1, none⟩ = some (.int .u64 p.2) := by unfold Two at h; simp [World.cell?, h]
theorem Two.f {w : World} {g i : Nat} {p : ByteArray × Int} (h : Two w g p) : w.frozen? ⟨g, i, none⟩ = false := by unfold Two at h; simp [World.frozen?, h]
theorem Two.drew {w w' : World} {g : Nat} {p : ByteArray × Int} (h : Two w g p) (hd : Drew w w') : Two w' g p := by obtain ⟨q, rfl⟩ := hd; exact h
theorem Two.set {w : World} {g : Nat} {p q : ByteArray × Int} (h : Two w g p) : Two ((w.setCell ⟨g, 0, none⟩ (.string q.1)).setCell ⟨g, 1, none⟩ (.int .u64 q.2)) g q := by
  unfold Two at *
  have h1 : (w.setCell ⟨g, 0, none⟩ (.string q.1)).heap[g]? = some (.cells #[.string q.1, .int .u64 p.2] 32 (0, 0)) := by
    have hlt := lt_of_block h
    have h' : w.heap[g] = .cells #[.string p.1, .int .u64 p.2] 32 (0, 0) := by simpa [Array.getElem?_eq_getElem hlt] using h
    show (w.heap.modify g _)[g]? = _
    rw [Array.getElem?_eq_getElem (by simpa using hlt), Array.getElem_modify_self, h']
    rfl
  generalize w.setCell ⟨g, 0, none⟩ (.string q.1) = w1 at *
  have hlt := lt_of_block h1
  have h' : w1.heap[g] = .cells #[.string q.1, .int .u64 p.2] 32 (0, 0) := by simpa [Array.getElem?_eq_getElem hlt] using h1
  show (w1.heap.modify g _)[g]? = _
  rw [Array.getElem?_eq_getElem (by simpa using hlt), Array.getElem_modify_self, h']
  rfl
theorem Two.far {w : World} {g g' : Nat} {p : ByteArray × Int} {i : Nat} {u : Value} (h : Two w g p) (hne : g ≠ g') : Two (w.setCell ⟨g', i, none⟩ u) g p := by
  unfold Two at *
  rw [Below.heap_setCell _ _ _ _ hne]
  exact h

theorem drew_below {w w' : World} (h : Drew w w') (B : Nat) : Below B w w' := by
  obtain ⟨q, rfl⟩ := h
  exact below_drewN (Below.refl _ _) _

/-- What is told: the best one, or the zero pair. -/
def SelGives (w w' : World) (e : Ending) (r : Option (ByteArray × Int)) : Prop :=
  ∃ (b : Bool) (p : ByteArray × Int), e = .returned (.tuple #[.agg #[.string p.1, .int .u64 p.2], .bool b]) ∧ ((b = false ∧ p = (⟨#[]⟩, 0) ∧ r = none) ∨ (b = true ∧ r = some p)) ∧ Below w.heap.size w w'

def nextC  (k : ByteArray) : ByteArray → Bool := fun x => lss k.data.toList x.data.toList
def nextB : ByteArray → ByteArray → Bool := fun x b => lss x.data.toList b.data.toList

end Go.Proofs.Ytgaacoeggikbpaa

namespace Go.Proofs.Ytgaacoeggikbpaa
open Go.RowKit

theorem ntp_ext {ps qs : List (ByteArray × Int)} (hl : ps.length = qs.length) (h : ∀ j, j < ps.length → ntp ps j = ntp qs j) : ps = qs := by
  apply List.ext_getElem hl
  intro i h1 h2
  have := h i h1
  rwa [ntp_eq h1, ntp_eq h2] at this

end Go.Proofs.Ytgaacoeggikbpaa

namespace Go.Proofs.Ytgaacoeggikbpaa
open Go.RowKit

def prevC  (k : ByteArray) : ByteArray → Bool := fun x => lss x.data.toList k.data.toList
def prevB : ByteArray → ByteArray → Bool := fun x b => lss b.data.toList x.data.toList

def prevTC (_ : ByteArray) : ByteArray → Bool := fun _ => true
def prevTB : ByteArray → ByteArray → Bool := fun x b => lss b.data.toList x.data.toList

end Go.Proofs.Ytgaacoeggikbpaa

namespace Go.Proofs.Ytgaacoeggikbpaa
open Go.RowKit

/-- Each key is less than the next one. -/
def RiseP (ss : List (ByteArray × Int)) : Prop := ss.Pairwise fun a b => lss a.1.data.toList b.1.data.toList = true

theorem selP_spec (c : ByteArray → Bool) (bt : ByteArray → ByteArray → Bool) (nt : ∀ x y z, bt x y = false → bt y z = false → bt x z = false) (ir : ∀ x, bt x x = false) (asy : ∀ x y, bt x y = true → bt y x = false) (ps : List (ByteArray × Int)) :
    (selP c bt ps = none → ∀ p ∈ ps, c p.1 = false) ∧ (∀ b, selP c bt ps = some b → b ∈ ps ∧ c b.1 = true ∧ ∀ p ∈ ps, c p.1 = true → bt p.1 b.1 = false) := by
  unfold selP
  suffices h : ∀ (best : Option (ByteArray × Int)), (ps.foldl (selStep c bt) best = none → best = none ∧ ∀ p ∈ ps, c p.1 = false) ∧
      (∀ b, ps.foldl (selStep c bt) best = some b → (best = some b ∨ (b ∈ ps ∧ c b.1 = true)) ∧ (∀ p ∈ ps, c p.1 = true → bt p.1 b.1 = false) ∧ (∀ b0, best = some b0 → bt b0.1 b.1 = false)) by
    refine ⟨fun h0 => ((h none).1 h0).2, fun b hb => ?_⟩
    have h1 := (h none).2 b hb
    rcases h1.1 with e | e
    · cases e
    · exact ⟨e.1, e.2, h1.2.1⟩
  induction ps with
  | nil =>
    intro best
    refine ⟨fun h => ⟨h, (fun p hp => by cases hp)⟩, fun b h => ⟨Or.inl h, (fun p hp => by cases hp), fun b0 h0 => ?_⟩⟩
    have : b0 = b := by rw [List.foldl_nil] at h; rw [h] at h0; exact (Option.some.inj h0).symm
    subst this
    exact ir _
  | cons q ps ih =>
    intro best
    rw [List.foldl_cons]
    have hi := ih (selStep c bt best q)
    by_cases hc : (c q.1 && beats bt q best) = true
    · have hs : selStep c bt best q = some q := by unfold selStep; rw [if_pos hc]
      rw [hs] at hi
      have hcq : c q.1 = true := by simp only [Bool.and_eq_true] at hc; exact hc.1
      have hbq : beats bt q best = true := by simp only [Bool.and_eq_true] at hc; exact hc.2
      rw [hs]
      refine ⟨(fun h => by have := (hi.1 h).1; cases this), fun b hb => ?_⟩
      obtain ⟨h1, h2, h3⟩ := hi.2 b hb
      have hq := h3 q rfl
      refine ⟨Or.inr ?_, ?_, ?_⟩
      · rcases h1 with e | e
        · have := Option.some.inj e; subst this; exact ⟨List.mem_cons_self, hcq⟩
        · exact ⟨List.mem_cons_of_mem _ e.1, e.2⟩
      · intro p hp hcp
        rcases List.mem_cons.1 hp with rfl | hp
        · exact hq
        · exact h2 p hp hcp
      · intro b0 h0
        subst h0
        simp only [beats] at hbq
        exact nt _ _ _ (asy _ _ hbq) hq
    · have hs : selStep c bt best q = best := by unfold selStep; rw [if_neg hc]
      rw [hs] at hi ⊢
      refine ⟨fun h => ⟨(hi.1 h).1, fun p hp => ?_⟩, fun b hb => ?_⟩
      · rcases List.mem_cons.1 hp with rfl | hp
        · have hn := (hi.1 h).1
          subst hn
          cases hcp : c p.1 with
          | false => rfl
          | true => exact absurd (by simp [hcp, beats]) hc
        · exact (hi.1 h).2 p hp
      · obtain ⟨h1, h2, h3⟩ := hi.2 b hb
        refine ⟨?_, ?_, h3⟩
        · rcases h1 with e | e
          · exact Or.inl e
          · exact Or.inr ⟨List.mem_cons_of_mem _ e.1, e.2⟩
        · intro p hp hcp
          rcases List.mem_cons.1 hp with rfl | hp
          · cases hbest : best with
            | none => subst hbest; exact absurd (by simp [hcp, beats]) hc
            | some b0 =>
              have hnb : bt p.1 b0.1 = false := by
                subst hbest
                cases hx : bt p.1 b0.1 with
                | false => rfl
                | true => exact absurd (by simp [hcp, beats, hx]) hc
              have h4 := h3 b0 hbest
              exact nt _ _ _ hnb h4
          · exact h2 p hp hcp

theorem lss_nt (x y z : List UInt8) (h : lss x y = false) (k : lss y z = false) : lss x z = false := by
  cases e : lss x z with
  | false => rfl
  | true => rw [lss_le_lt y x z h e] at k; cases k

theorem rise_lt {ss : List (ByteArray × Int)} (h : RiseP ss) (i j : Nat) (hij : i < j) (hj : j < ss.length) : lss ss[i].1.data.toList ss[j].1.data.toList = true :=
  (List.pairwise_iff_getElem.1 h) i j (by omega) hj hij

/-- Two lists of the same pairs. -/
def SameS (ps ss : List (ByteArray × Int)) : Prop := ∀ p, p ∈ ps ↔ p ∈ ss

theorem next_rise {ps ss : List (ByteArray × Int)} (hs : SameS ps ss) (hr : RiseP ss) (k : ByteArray) (j : Nat) (h1 : ∀ i (h : i < ss.length), i < j → lss k.data.toList ss[i].1.data.toList = false) (h2 : ∀ i (h : i < ss.length), j ≤ i → lss k.data.toList ss[i].1.data.toList = true) :
    selP (nextC k) nextB ps = ss[j]? := by
  have hsp := selP_spec (nextC k) nextB (fun x y z => lss_nt _ _ _) (fun x => lss_irrefl _) (fun x y => lss_asymm _ _) ps
  cases hb : selP (nextC k) nextB ps with
  | none =>
    by_cases hj : j < ss.length
    · have := hsp.1 hb ss[j] ((hs _).2 (List.getElem_mem hj))
      unfold nextC at this
      rw [h2 j hj (Nat.le_refl _)] at this
      cases this
    · rw [List.getElem?_eq_none (by omega)]
  | some b =>
    obtain ⟨hm, hc, hbest⟩ := hsp.2 b hb
    obtain ⟨i, hi, rfl⟩ := List.getElem_of_mem ((hs _).1 hm)
    have hij : j ≤ i := by
      by_cases g : i < j
      · unfold nextC at hc
        rw [h1 i hi g] at hc; cases hc
      · omega
    by_cases e : i = j
    · subst e; rw [List.getElem?_eq_getElem hi]
    · have hj : j < ss.length := by omega
      have h3 := hbest ss[j] ((hs _).2 (List.getElem_mem hj)) (h2 j hj (Nat.le_refl _))
      unfold nextB at h3
      rw [rise_lt hr j i (by omega) hi] at h3
      cases h3

theorem prev_rise {ps ss : List (ByteArray × Int)} (hs : SameS ps ss) (hr : RiseP ss) (k : ByteArray) (j : Nat) (hj : j ≤ ss.length) (h1 : ∀ i (h : i < ss.length), i < j → lss ss[i].1.data.toList k.data.toList = true) (h2 : ∀ i (h : i < ss.length), j ≤ i → lss ss[i].1.data.toList k.data.toList = false) :
    selP (prevC k) prevB ps = if j = 0 then none else ss[j - 1]? := by
  have hsp := selP_spec (prevC k) prevB (fun x y z h g => lss_nt _ _ _ g h) (fun x => lss_irrefl _) (fun x y => lss_asymm _ _) ps
  cases hb : selP (prevC k) prevB ps with
  | none =>
    by_cases hj0 : j = 0
    · rw [if_pos hj0]
    · have := hsp.1 hb ss[j - 1] ((hs _).2 (List.getElem_mem (by omega)))
      unfold prevC at this
      rw [h1 (j - 1) (by omega) (by omega)] at this
      cases this
  | some b =>
    obtain ⟨hm, hc, hbest⟩ := hsp.2 b hb
    obtain ⟨i, hi, rfl⟩ := List.getElem_of_mem ((hs _).1 hm)
    have hij : i < j := by
      by_cases g : j ≤ i
      · unfold prevC at hc
        rw [h2 i hi g] at hc; cases hc
      · omega
    rw [if_neg (by omega)]
    by_cases e : i = j - 1
    · subst e; rw [List.getElem?_eq_getElem hi]
    · have hj1 : j - 1 < ss.length := by omega
      have h3 := hbest ss[j - 1] ((hs _).2 (List.getElem_mem hj1)) (h1 (j - 1) hj1 (by omega))
      unfold prevB at h3
      rw [rise_lt hr i (j - 1) (by omega) hj1] at h3
      cases h3

theorem max_rise {ps ss : List (ByteArray × Int)} (hs : SameS ps ss) (hr : RiseP ss) (k : ByteArray) : selP (prevTC k) prevTB ps = if ss.length = 0 then none else ss[ss.length - 1]? := by
  have hsp := selP_spec (prevTC k) prevTB (fun x y z h g => lss_nt _ _ _ g h) (fun x => lss_irrefl _) (fun x y => lss_asymm _ _) ps
  cases hb : selP (prevTC k) prevTB ps with
  | none =>
    by_cases hj0 : ss.length = 0
    · rw [if_pos hj0]
    · have := hsp.1 hb ss[ss.length - 1] ((hs _).2 (List.getElem_mem (by omega)))
      unfold prevTC at this
      cases this
  | some b =>
    obtain ⟨hm, _, hbest⟩ := hsp.2 b hb
    obtain ⟨i, hi, rfl⟩ := List.getElem_of_mem ((hs _).1 hm)
    rw [if_neg (by omega)]
    by_cases e : i = ss.length - 1
    · subst e; rw [List.getElem?_eq_getElem hi]
    · have hj1 : ss.length - 1 < ss.length := by omega
      have h3 := hbest ss[ss.length - 1] ((hs _).2 (List.getElem_mem hj1)) (by unfold prevTC; rfl)
      unfold prevTB at h3
      rw [rise_lt hr i (ss.length - 1) (by omega) hj1] at h3
      cases h3

/-- In a list of which each key is there once, Get tells what it has. -/
theorem rise_one {ss : List (ByteArray × Int)} (hr : RiseP ss) {p q : ByteArray × Int} (hp : p ∈ ss) (hq : q ∈ ss) (e : p.1 = q.1) : p = q := by
  obtain ⟨i, hi, rfl⟩ := List.getElem_of_mem hp
  obtain ⟨j, hj, rfl⟩ := List.getElem_of_mem hq
  rcases Nat.lt_trichotomy i j with h | h | h
  · have := rise_lt hr i j h hj
    rw [e, lss_irrefl] at this; cases this
  · subst h; rfl
  · have := rise_lt hr j i h hi
    rw [e, lss_irrefl] at this; cases this

theorem getP_mem {ps : List (ByteArray × Int)} {k : ByteArray} {z : Int} (h : getP ps k = (z, true)) : (k, z) ∈ ps := by
  unfold getP at h
  cases hf : ps.find? (fun p => decide (p.1 = k)) with
  | none => rw [hf] at h; simp at h
  | some p =>
    rw [hf] at h
    have h1 : p.2 = z := by simpa using h
    have h2 := List.find?_some hf
    have h3 := List.mem_of_find?_eq_some hf
    have h4 : p.1 = k := by simpa using h2
    rw [← h1, ← h4]
    exact h3

theorem getP_none {ps : List (ByteArray × Int)} {k : ByteArray} (h : (getP ps k).2 = false) : ∀ p ∈ ps, p.1 ≠ k := by
  unfold getP at h
  cases hf : ps.find? (fun p => decide (p.1 = k)) with
  | none =>
    rw [List.find?_eq_none] at hf
    intro p hp e
    have := hf p hp
    simp [e] at this
  | some p => rw [hf] at h; cases h
end Go.Proofs.Ytgaacoeggikbpaa

namespace Go.Proofs.Ytgaacoeggikbpaa
open Go.RowKit

theorem OwnP.open {w : World} {B : Nat} {v : Value} {ps : List (ByteArray × Int)} (h : OwnP w B v ps) : ∃ ao c, v = .slice ao ps.length c := h.rd.open

theorem lss_nil (a : List UInt8) : lss a [] = false := by cases a <;> rfl
theorem lss_pos {a : ByteArray} (h : a ≠ ⟨#[]⟩) : lss [] a.data.toList = true := by
  cases e : a.data.toList with
  | nil =>
    exfalso
    apply h
    apply ByteArray.ext
    apply Array.ext'
    exact e
  | cons x xs => rfl

/-- The first one of a rising list: the empty key, if it is there; else the best one above it. -/
theorem all_first {ps ss : List (ByteArray × Int)} (hs : SameS ps ss) (hr : RiseP ss) (h0 : 0 < ss.length) :
    (∀ z, getP ps ⟨#[]⟩ = (z, true) → ntp ss 0 = (⟨#[]⟩, z)) ∧ ((getP ps ⟨#[]⟩).2 = false → selP (nextC ⟨#[]⟩) nextB ps = some (ntp ss 0)) := by
  refine ⟨fun z hz => ?_, fun hn => ?_⟩
  · obtain ⟨i, hi, e⟩ := List.getElem_of_mem ((hs _).1 (getP_mem hz))
    rw [ntp_eq h0]
    by_cases hi0 : i = 0
    · subst hi0; exact e
    · have := rise_lt hr 0 i (by omega) hi
      rw [e] at this
      rw [show (ByteArray.mk #[]).data.toList = [] from rfl, lss_nil] at this
      cases this
  · have hne := getP_none hn
    rw [next_rise hs hr ⟨#[]⟩ 0 (fun i _ h => absurd h (Nat.not_lt_zero _)) (fun i h _ => lss_pos (hne _ ((hs _).2 (List.getElem_mem h)))), List.getElem?_eq_getElem h0, ntp_eq h0]

theorem all_next {ps ss : List (ByteArray × Int)} (hs : SameS ps ss) (hr : RiseP ss) (j : Nat) (h1 : 0 < j) (hj : j < ss.length) : selP (nextC (ntp ss (j - 1)).1) nextB ps = some (ntp ss j) := by
  rw [next_rise hs hr _ j (fun i h hi => ?_) (fun i h hi => ?_), List.getElem?_eq_getElem hj, ntp_eq hj]
  · rw [ntp_eq (by omega)]
    by_cases e : i = j - 1
    · subst e; exact lss_irrefl _
    · exact lss_asymm _ _ (rise_lt hr i (j - 1) (by omega) (by omega))
  · rw [ntp_eq (by omega)]
    exact rise_lt hr (j - 1) i (by omega) h

theorem take_more (ss : List (ByteArray × Int)) (j : Nat) (hj : j < ss.length) : ss.take (j + 1) = ss.take j ++ [((ntp ss j).1, (ntp ss j).2)] := by
  rw [List.take_succ_eq_append_getElem hj, ntp_eq hj]

theorem ntp_take (ss : List (ByteArray × Int)) (j i : Nat) (hi : i < j) (hj : j ≤ ss.length) : ntp (ss.take j) i = ntp ss i := by
  rw [ntp_eq (by rw [List.length_take]; omega), ntp_eq (by omega), List.getElem_take]

theorem two_news2 (w : World) (o : Obj) (s : ByteArray) (z : Int) (t : TypeId) : ∀ j u, [Value.string s, .int .u64 z][j]? = some u → ((w.alloc o).alloc (.cells #[.string s, .int .u64 z] t)).cell? ((⟨w.heap.size + 1, 0, none⟩ : Addr).add j) = some u := by
  have h := two_news (w.alloc o) s z t
  rw [show (w.alloc o).heap.size = w.heap.size + 1 by simp] at h
  exact h

theorem ownp_next {w : World} {B : Nat} {v : Value} {ss : List (ByteArray × Int)} {j : Nat} {s : ByteArray} {z : Int} (h : w.ownsRow B 32 2 v (j + 1) (pcells (ss.take j) ++ [.string s, .int .u64 z])) (hj : j < ss.length) (he : ntp ss j = (s, z)) : OwnP w B v (ss.take (j + 1)) := by
  have hm := take_more ss j hj
  rw [he] at hm
  rw [hm]
  refine OwnP.more ?_
  rw [List.length_take, show min j ss.length = j by omega]
  exact h

theorem two_below (w : World) (o1 o2 : Obj) : Below w.heap.size w ((w.alloc o1).alloc o2) := ((Below.refl _ _).alloc (Nat.le_refl _) _).alloc (by simp) _

theorem own_two {w : World} {B j : Nat} {v : Value} {ps : List (ByteArray × Int)} (h : OwnP w B v ps) (hl : ps.length = j) (o1 o2 : Obj) : ((w.alloc o1).alloc o2).ownsRow B 32 2 v j (pcells ps) := by
  have h2 := h.keep (two_below w o1 o2)
  unfold OwnP at h2
  rw [hl] at h2
  exact h2

end Go.Proofs.Ytgaacoeggikbpaa

namespace Go.Proofs.Ytgaacoeggikbpaa
open Go.RowKit

/-- In the range, both ends with it. -/
def inR (low high : ByteArray) (p : ByteArray × Int) : Bool := !lss p.1.data.toList low.data.toList && !lss high.data.toList p.1.data.toList
def scanP (ss : List (ByteArray × Int)) (low high : ByteArray) (limit : Int) : List (ByteArray × Int) := (ss.filter (inR low high)).take limit.toNat

theorem filt_step (ss : List (ByteArray × Int)) (low high : ByteArray) (i : Nat) (hi : i < ss.length) : (ss.take (i + 1)).filter (inR low high) = (ss.take i).filter (inR low high) ++ (if inR low high (ntp ss i) then [((ntp ss i).1, (ntp ss i).2)] else []) := by
  rw [List.take_succ_eq_append_getElem hi, List.filter_append, ntp_eq hi]
  cases h : inR low high ss[i] <;> simp [h]

theorem filt_len (ss : List (ByteArray × Int)) (low high : ByteArray) (i : Nat) : ((ss.take i).filter (inR low high)).length ≤ ss.length := by
  refine Nat.le_trans (List.length_filter_le _ _) ?_
  rw [List.length_take]; omega

theorem scan_full (ss : List (ByteArray × Int)) (low high : ByteArray) (limit : Int) (i : Nat) (h : ((ss.take i).filter (inR low high)).length = limit.toNat) : scanP ss low high limit = (ss.take i).filter (inR low high) := by
  unfold scanP
  conv => lhs; rw [← List.take_append_drop i ss, List.filter_append]
  rw [← h, List.take_left]

theorem scan_end (ss : List (ByteArray × Int)) (low high : ByteArray) (limit : Int) (h : ((ss.take ss.length).filter (inR low high)).length ≤ limit.toNat) : scanP ss low high limit = (ss.take ss.length).filter (inR low high) := by
  rw [List.take_length] at h ⊢
  unfold scanP
  exact List.take_of_length_le h

theorem OwnP.base {w : World} {B C : Nat} {v : Value} {ps : List (ByteArray × Int)} (h : OwnP w C v ps) (hBC : B ≤ C) : OwnP w B v ps := by
  refine ⟨h.1, ?_⟩
  rcases h.2 with hn | ⟨g, cap, cur, e, hb, rest⟩
  · exact Or.inl hn
  · exact Or.inr ⟨g, cap, cur, e, by omega, rest⟩

theorem own_one {w : World} {B : Nat} {v : Value} {ps : List (ByteArray × Int)} (h : OwnP w B v ps) (o : Obj) : (w.alloc o).ownsRow B 32 2 v ps.length (pcells ps) := h.keep (one_alloc w o).2

end Go.Proofs.Ytgaacoeggikbpaa
