/- Two copies of a node's, in boxes of their own: how the law NodeSame makes them, in whatever order; and what it writes into one of them. -/
import Derived.Test.YtgaacoeggikbpaaNodeCloneAt
namespace Go.Proofs.Ytgaacoeggikbpaa
open Go.RowKit

/-- A node's block, as far as told. -/
def NP (W : World) (g : Nat) (l : List (Nat × Value)) : Prop := ∃ cs : Array Value, NB W g cs ∧ cs.size = 8 ∧ ∀ p ∈ l, cs[p.1]? = some p.2
section
variable {W W' : World} {g h : Nat} {l : List (Nat × Value)}
theorem NP.below (hn : NP W g l) (hb : Below W.heap.size W W') : NP W' g l := by
  obtain ⟨cs, h1, h2⟩ := hn
  exact ⟨cs, h1.below hb, h2⟩
theorem NP.alloc (hn : NP W g l) (o : Obj) : NP (W.alloc o) g l := hn.below (boxed_below W o)
theorem NP.drew (hn : NP W g l) : NP W.drew g l := hn
theorem NP.far (hn : NP W g l) {p : Addr} (hne : g ≠ p.block) (u : Value) : NP (W.setCell p u) g l := by
  obtain ⟨cs, h1, h2⟩ := hn
  exact ⟨cs, h1.far hne u, h2⟩
theorem NP.set (hn : NP W g l) (i : Nat) (u : Value) (hi : i < 8) (hl : ∀ p ∈ l, p.1 < i) : NP (W.setCell ⟨g, i, none⟩ u) g ((i, u) :: l) := by
  obtain ⟨cs, h1, h2, h3⟩ := hn
  refine ⟨_, h1.set i u, by rw [Array.size_setIfInBounds]; exact h2, fun p hp => ?_⟩
  rcases List.mem_cons.1 hp with rfl | hp
  · simp [h2, hi]
  · have := hl p hp
    rw [Array.getElem?_setIfInBounds_ne (by omega)]
    exact h3 p hp
theorem NP.none (hg : g = W.heap.size) (v0 v1 v2 v3 v4 v5 v6 v7 : Value) : NP (W.alloc (.cells #[v0, v1, v2, v3, v4, v5, v6, v7] 38)) g [] := by
  subst hg
  exact ⟨_, NB.new W _, rfl, fun p hp => by simp at hp⟩
theorem NP.new (hg : g = W.heap.size) (v0 v1 v2 v3 v4 v5 v6 v7 : Value) : NP (W.alloc (.cells #[v0, v1, v2, v3, v4, v5, v6, v7] 38)) g [(7, v7), (6, v6), (5, v5), (4, v4), (3, v3), (2, v2), (1, v1), (0, v0)] := by
  subst hg
  exact ⟨_, NB.new W _, rfl, fun p hp => by simp only [List.mem_cons, List.not_mem_nil, or_false] at hp; rcases hp with rfl | rfl | rfl | rfl | rfl | rfl | rfl | rfl <;> rfl⟩
theorem NP.full {v0 v1 v2 v3 v4 v5 v6 v7 : Value} (hn : NP W g [(7, v7), (6, v6), (5, v5), (4, v4), (3, v3), (2, v2), (1, v1), (0, v0)]) : NB W g #[v0, v1, v2, v3, v4, v5, v6, v7] := by
  obtain ⟨cs, h1, h2, h3⟩ := hn
  have : cs = #[v0, v1, v2, v3, v4, v5, v6, v7] := by
    refine Array.ext (by rw [h2]; rfl) (fun i hi hi2 => ?_)
    have hi8 : i < 8 := by omega
    have e0 := h3 (0, v0) (by simp)
    have e1 := h3 (1, v1) (by simp)
    have e2 := h3 (2, v2) (by simp)
    have e3 := h3 (3, v3) (by simp)
    have e4 := h3 (4, v4) (by simp)
    have e5 := h3 (5, v5) (by simp)
    have e6 := h3 (6, v6) (by simp)
    have e7 := h3 (7, v7) (by simp)
    have hs := Array.getElem?_eq_getElem hi
    match i, hi8 with
    | 0, _ => rw [hs] at e0; injection e0
    | 1, _ => rw [hs] at e1; injection e1
    | 2, _ => rw [hs] at e2; injection e2
    | 3, _ => rw [hs] at e3; injection e3
    | 4, _ => rw [hs] at e4; injection e4
    | 5, _ => rw [hs] at e5; injection e5
    | 6, _ => rw [hs] at e6; injection e6
    | 7, _ => rw [hs] at e7; injection e7
  rw [← this]
  exact h1
end

/-- The blocks from lo on, below hi, are as they were. -/
def Mid (lo hi : Nat) (w w' : World) : Prop := ∀ k, lo ≤ k → k < hi → w'.heap[k]? = w.heap[k]?
theorem Mid.refl (lo hi : Nat) (w : World) : Mid lo hi w w := fun _ _ _ => rfl
theorem Mid.alloc {lo hi : Nat} {w w' : World} {o : Obj} (h : Mid lo hi w w') (hs : hi ≤ w'.heap.size) : Mid lo hi w (w'.alloc o) := fun k h1 h2 => (Below.heap_alloc _ _ _ (by omega)).trans (h k h1 h2)
theorem Mid.set {lo hi : Nat} {w w' : World} {a : Addr} {v : Value} (h : Mid lo hi w w') (hs : a.block < lo ∨ hi ≤ a.block) : Mid lo hi w (w'.setCell a v) := fun k h1 h2 => (Below.heap_setCell _ _ _ _ (by omega)).trans (h k h1 h2)
theorem Mid.below {lo hi : Nat} {w w' w2 : World} (h : Mid lo hi w w') (hs : hi ≤ w'.heap.size) (hb : Below w'.heap.size w' w2) : Mid lo hi w w2 := fun k h1 h2 => (hb.block k (by omega)).trans (h k h1 h2)

theorem Mid.drew {lo hi : Nat} {w w' : World} (h : Mid lo hi w w') : Mid lo hi w w'.drew := h

theorem bcell {W w1 : World} (hb : Below W.heap.size W w1) : (∀ b o, b < W.heap.size → w1.cell? ⟨b, o, none⟩ = W.cell? ⟨b, o, none⟩) ∧ (∀ b o, b < W.heap.size → w1.frozen? ⟨b, o, none⟩ = W.frozen? ⟨b, o, none⟩) :=
  ⟨fun b o h => hb.cell (p := ⟨b, o, none⟩) h, fun b o h => hb.frozen (p := ⟨b, o, none⟩) h⟩

/-- A row of a call's own, later on. -/
theorem NewRow.mid {w0 X w W : World} {t : TypeId} {v : Value} {xs : List Value} (h : NewRow X w t v xs) (h0 : w0.heap.size ≤ X.heap.size) (hm : Mid X.heap.size w.heap.size w W) : NewRow w0 W t v xs := by
  rcases h with ⟨g, h1, h2, h3⟩ | h
  · refine Or.inl ⟨g, h1, by omega, ?_⟩
    unfold Whole
    rw [hm g h2 (lt_of_block h3)]
    exact h3
  · exact Or.inr h

/-- Two rows lie apart. -/
def Apart (a b : Option Addr) : Prop := ∀ g o g' o', a = some ⟨g, o, none⟩ → b = some ⟨g', o', none⟩ → g ≠ g'
theorem Apart.symm {a b : Option Addr} (h : Apart a b) : Apart b a := fun g o g' o' h1 h2 e => h g' o' g o h2 h1 e.symm
theorem apart_of {X w X2 w2 : World} {t t2 : TypeId} {a b : Option Addr} {n c n2 c2 : Nat} {xs ys : List Value} (h : NewRow X w t (.slice a n c) xs) (h2 : NewRow X2 w2 t2 (.slice b n2 c2) ys) (hs : w.heap.size ≤ X2.heap.size) : Apart a b := by
  intro g o g' o' e e'
  subst e; subst e'
  rcases h with ⟨k, h1, _, h3⟩ | ⟨h, _⟩
  · rcases h2 with ⟨k2, h4, h5, _⟩ | ⟨h, _⟩
    · injection h1 with h1 _ _
      injection h1 with h1
      injection h1 with h1 _ _
      injection h4 with h4 _ _
      injection h4 with h4
      injection h4 with h4 _ _
      have := lt_of_block h3
      omega
    · injection h with h; cases h
  · injection h with h; cases h

/-- Both copies. -/
structure TwoAt (W0 : World) (wx : World) (gc gd : Nat) (lv nx : Int) (lo hi : ByteArray) (la : Bool) (ka va ca kb vb cb : Option Addr) (xk xv xc : List Value) (ks : List ByteArray) (vs : List Nat) (cs : List Int) : Prop where
  c : NB wx gc #[.int .i64 lv, .string lo, .string hi, .bool la, .int .i64 nx, .slice ka ks.length ks.length, .slice va vs.length vs.length, .slice ca cs.length cs.length]
  d : NB wx gd #[.int .i64 lv, .string lo, .string hi, .bool la, .int .i64 nx, .slice kb ks.length ks.length, .slice vb vs.length vs.length, .slice cb cs.length cs.length]
  ck : NewRow W0 wx 9 (.slice ka ks.length ks.length) xk
  cv : NewRow W0 wx 30 (.slice va vs.length vs.length) xv
  cc : NewRow W0 wx 3 (.slice ca cs.length cs.length) xc
  dk : NewRow W0 wx 9 (.slice kb ks.length ks.length) (ks.map Value.string)
  dv : NewRow W0 wx 30 (.slice vb vs.length vs.length) (vs.map uv)
  dc : NewRow W0 wx 3 (.slice cb cs.length cs.length) (cs.map (Value.int .i64))
  ak : Apart ka kb
  av : Apart va vb
  ac : Apart ca cb
  b : Below W0.heap.size W0 wx
end Go.Proofs.Ytgaacoeggikbpaa
