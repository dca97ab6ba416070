/- halve.parts: both parts of a node, or none. Condition: sizes that fit; the left one's last key is below the right one's first. halve.Split: a node as two, or none. Condition: sizes that fit. -/
import Derived.Test.YtlcnnnljdffbmaaHalveBase
import Derived.Test.YtlcnnnljdffbmaaNodeTwo2
import Derived.Deep.RegionHeldLaw
import Derived.Deep.DeepCutAuto
namespace Go.Proofs.Ytlcnnnljdffbmaa
open Go.RowKit

/-- Two nodes are told, and whether; their rows are not below the call's world. -/
def GaveTwo (w w' : World) (e : Ending) (b : Bool) (n m : Nod) : Prop :=
  ∃ (ak1 av1 ac1 ak2 av2 ac2 : Option Addr) (ck1 cv1 cc1 ck2 cv2 cc2 : Nat), e = .returned (.tuple #[.agg #[.int .i64 n.lv, .string n.lo, .string n.hi, .bool n.la, .int .i64 n.nx, .slice ak1 n.ks.length ck1, .slice av1 n.vs.length cv1, .slice ac1 n.cs.length cc1], .agg #[.int .i64 m.lv, .string m.lo, .string m.hi, .bool m.la, .int .i64 m.nx, .slice ak2 m.ks.length ck2, .slice av2 m.vs.length cv2, .slice ac2 m.cs.length cc2], .bool b]) ∧ NdAt w' ak1 av1 ac1 n.ks.length ck1 n.vs.length cv1 n.cs.length cc1 n.ks n.vs n.cs ∧ NdAt w' ak2 av2 ac2 m.ks.length ck2 m.vs.length cv2 m.cs.length cc2 m.ks m.vs m.cs ∧ Below w.heap.size w w' ∧
    (Far w.heap.size ak1 ∧ Far w.heap.size av1 ∧ Far w.heap.size ac1) ∧ Far w.heap.size ak2 ∧ Far w.heap.size av2 ∧ Far w.heap.size ac2
theorem gaveTwo_none {w w' : World} (hb : Below w.heap.size w w') : GaveTwo w w' (.returned (.tuple #[.agg #[.int .i64 0, .string ⟨#[]⟩, .string ⟨#[]⟩, .bool false, .int .i64 0, .slice none 0 0, .slice none 0 0, .slice none 0 0], .agg #[.int .i64 0, .string ⟨#[]⟩, .string ⟨#[]⟩, .bool false, .int .i64 0, .slice none 0 0, .slice none 0 0, .slice none 0 0], .bool false])) false .none .none :=
  ⟨none, none, none, none, none, none, 0, 0, 0, 0, 0, 0, rfl, ⟨Rd.nil _, Rd.nil _, Rd.nil _⟩, ⟨Rd.nil _, Rd.nil _, Rd.nil _⟩, hb, ⟨(fun _ h => by cases h), (fun _ h => by cases h), (fun _ h => by cases h)⟩, (fun _ h => by cases h), (fun _ h => by cases h), (fun _ h => by cases h)⟩
theorem nameWh {p : World → Prop} {w : World} (h : ∀ W, W = w → p W) : p w := h w rfl
theorem boxes3 (w : World) (cs ds es : Array Value) : ∃ w1, w1 = ((w.alloc (.cells cs 26)).alloc (.cells ds 26)).alloc (.cells es 26) ∧ NB w1 w.heap.size cs ∧ NB w1 (w.heap.size + 1) ds ∧ NB w1 (w.heap.size + 2) es ∧ Below w.heap.size w w1 ∧ w1.heap.size = w.heap.size + 3 := by
  obtain ⟨n1, n2, hB⟩ := boxes2 w cs ds
  have hs : ((w.alloc (.cells cs 26)).alloc (.cells ds 26)).heap.size = w.heap.size + 2 := by rw [World.size_alloc, World.size_alloc]
  have h3 := boxed_below ((w.alloc (.cells cs 26)).alloc (.cells ds 26)) (.cells es 26)
  have n3 := NB.new ((w.alloc (.cells cs 26)).alloc (.cells ds 26)) es
  rw [hs] at n3
  exact ⟨_, rfl, n1.below h3, n2.below h3, n3, hB.trans (h3.mono (by rw [hs]; omega)), by rw [World.size_alloc, hs]⟩
/-- The left part, the right one. -/
def Nod.left (n : Nod) (cell : Int) : Nod := ⟨n.lv, cell, n.lo, brdL n.lv (nth n.ks (hlf n.ks.length - 1)) (nth n.ks (hlf n.ks.length)), false, n.ks.take (hlf n.ks.length), n.vs.take (hlf n.vs.length), n.cs.take (hlf n.cs.length)⟩
def Nod.right (n : Nod) : Nod := ⟨n.lv, n.nx, brdL n.lv (nth n.ks (hlf n.ks.length - 1)) (nth n.ks (hlf n.ks.length)), n.hi, n.la, n.ks.drop (hlf n.ks.length), n.vs.drop (hlf n.vs.length), n.cs.drop (hlf n.cs.length)⟩
/-- While it parts: the node's box, both results' boxes. -/
structure PartsAt (w wx : World) (cN cL cR : Array Value) : Prop where
  n : NB wx w.heap.size cN
  l : NB wx (w.heap.size + 1) cL
  r : NB wx (w.heap.size + 2) cR
  below : Below w.heap.size w wx
section
variable {w wx W : World} {cN cL cR : Array Value}
theorem PartsAt.keep (h : PartsAt w wx cN cL cR) (hb : Below wx.heap.size wx W) : PartsAt w W cN cL cR := ⟨h.n.below hb, h.l.below hb, h.r.below hb, h.below.trans (hb.mono h.below.size)⟩
theorem PartsAt.drew (h : PartsAt w wx cN cL cR) : PartsAt w wx.drew cN cL cR := ⟨h.n, h.l, h.r, h.below.drew⟩
theorem PartsAt.size (h : PartsAt w wx cN cL cR) : w.heap.size + 3 ≤ wx.heap.size := by have := lt_of_block h.r; omega
theorem PartsAt.setL (h : PartsAt w wx cN cL cR) (i : Nat) (u : Value) : PartsAt w (wx.setCell ⟨w.heap.size + 1, i, none⟩ u) cN (cL.setIfInBounds i u) cR :=
  ⟨h.n.far (p := ⟨w.heap.size + 1, i, none⟩) (by show w.heap.size ≠ w.heap.size + 1; omega) u, h.l.set i u, h.r.far (p := ⟨w.heap.size + 1, i, none⟩) (by show w.heap.size + 2 ≠ w.heap.size + 1; omega) u, h.below.setCell (by show w.heap.size ≤ w.heap.size + 1; omega) u⟩
theorem PartsAt.setR (h : PartsAt w wx cN cL cR) (i : Nat) (u : Value) : PartsAt w (wx.setCell ⟨w.heap.size + 2, i, none⟩ u) cN cL (cR.setIfInBounds i u) :=
  ⟨h.n.far (p := ⟨w.heap.size + 2, i, none⟩) (by show w.heap.size ≠ w.heap.size + 2; omega) u, h.l.far (p := ⟨w.heap.size + 2, i, none⟩) (by show w.heap.size + 1 ≠ w.heap.size + 2; omega) u, h.r.set i u, h.below.setCell (by show w.heap.size ≤ w.heap.size + 2; omega) u⟩
end
theorem PartsAt.lr {v0 v1 v2 v3 v4 v5 v6 v7 u0 u1 u2 u3 u4 u5 u6 u7 l0 l1 l2 l3 l4 l5 l6 l7 r0 r1 r2 r3 r4 r5 r6 r7 : Value} {w wx : World} {cN : Array Value} (h : PartsAt w wx cN #[l0, l1, l2, l3, l4, l5, l6, l7] #[r0, r1, r2, r3, r4, r5, r6, r7]) :
    PartsAt w ((((((((((((((((wx.setCell ⟨w.heap.size + 1, 0, none⟩ v0).setCell ⟨w.heap.size + 1, 1, none⟩ v1).setCell ⟨w.heap.size + 1, 2, none⟩ v2).setCell ⟨w.heap.size + 1, 3, none⟩ v3).setCell ⟨w.heap.size + 1, 4, none⟩ v4).setCell ⟨w.heap.size + 1, 5, none⟩ v5).setCell ⟨w.heap.size + 1, 6, none⟩ v6).setCell ⟨w.heap.size + 1, 7, none⟩ v7).setCell ⟨w.heap.size + 2, 0, none⟩ u0).setCell ⟨w.heap.size + 2, 1, none⟩ u1).setCell ⟨w.heap.size + 2, 2, none⟩ u2).setCell ⟨w.heap.size + 2, 3, none⟩ u3).setCell ⟨w.heap.size + 2, 4, none⟩ u4).setCell ⟨w.heap.size + 2, 5, none⟩ u5).setCell ⟨w.heap.size + 2, 6, none⟩ u6).setCell ⟨w.heap.size + 2, 7, none⟩ u7) cN #[v0, v1, v2, v3, v4, v5, v6, v7] #[u0, u1, u2, u3, u4, u5, u6, u7] := by
  show PartsAt w (wr5 (wr5 wx (w.heap.size + 1) [(0, v0), (1, v1), (2, v2), (3, v3), (4, v4), (5, v5), (6, v6), (7, v7)]) (w.heap.size + 2) [(0, u0), (1, u1), (2, u2), (3, u3), (4, u4), (5, u5), (6, u6), (7, u7)]) cN #[v0, v1, v2, v3, v4, v5, v6, v7] #[u0, u1, u2, u3, u4, u5, u6, u7]
  have hL := wr8 h.l v0 v1 v2 v3 v4 v5 v6 v7
  have hR : NB (wr5 wx (w.heap.size + 1) [(0, v0), (1, v1), (2, v2), (3, v3), (4, v4), (5, v5), (6, v6), (7, v7)]) (w.heap.size + 2) #[r0, r1, r2, r3, r4, r5, r6, r7] := (wr5_far _ _ (by omega) _ _).trans h.r
  exact ⟨(wr5_far _ _ (by omega) _ _).trans ((wr5_far _ _ (by omega) _ _).trans h.n), (wr5_far _ _ (by omega) _ _).trans hL, wr8 hR u0 u1 u2 u3 u4 u5 u6 u7, wr5_below _ _ (by omega) _ _ _ (wr5_below _ _ (by omega) _ _ _ h.below)⟩
theorem PartsAt.rl {v0 v1 v2 v3 v4 v5 v6 v7 u0 u1 u2 u3 u4 u5 u6 u7 l0 l1 l2 l3 l4 l5 l6 l7 r0 r1 r2 r3 r4 r5 r6 r7 : Value} {w wx : World} {cN : Array Value} (h : PartsAt w wx cN #[l0, l1, l2, l3, l4, l5, l6, l7] #[r0, r1, r2, r3, r4, r5, r6, r7]) :
    PartsAt w ((((((((((((((((wx.setCell ⟨w.heap.size + 2, 0, none⟩ u0).setCell ⟨w.heap.size + 2, 1, none⟩ u1).setCell ⟨w.heap.size + 2, 2, none⟩ u2).setCell ⟨w.heap.size + 2, 3, none⟩ u3).setCell ⟨w.heap.size + 2, 4, none⟩ u4).setCell ⟨w.heap.size + 2, 5, none⟩ u5).setCell ⟨w.heap.size + 2, 6, none⟩ u6).setCell ⟨w.heap.size + 2, 7, none⟩ u7).setCell ⟨w.heap.size + 1, 0, none⟩ v0).setCell ⟨w.heap.size + 1, 1, none⟩ v1).setCell ⟨w.heap.size + 1, 2, none⟩ v2).setCell ⟨w.heap.size + 1, 3, none⟩ v3).setCell ⟨w.heap.size + 1, 4, none⟩ v4).setCell ⟨w.heap.size + 1, 5, none⟩ v5).setCell ⟨w.heap.size + 1, 6, none⟩ v6).setCell ⟨w.heap.size + 1, 7, none⟩ v7) cN #[v0, v1, v2, v3, v4, v5, v6, v7] #[u0, u1, u2, u3, u4, u5, u6, u7] := by
  show PartsAt w (wr5 (wr5 wx (w.heap.size + 2) [(0, u0), (1, u1), (2, u2), (3, u3), (4, u4), (5, u5), (6, u6), (7, u7)]) (w.heap.size + 1) [(0, v0), (1, v1), (2, v2), (3, v3), (4, v4), (5, v5), (6, v6), (7, v7)]) cN #[v0, v1, v2, v3, v4, v5, v6, v7] #[u0, u1, u2, u3, u4, u5, u6, u7]
  have hR := wr8 h.r u0 u1 u2 u3 u4 u5 u6 u7
  have hL : NB (wr5 wx (w.heap.size + 2) [(0, u0), (1, u1), (2, u2), (3, u3), (4, u4), (5, u5), (6, u6), (7, u7)]) (w.heap.size + 1) #[l0, l1, l2, l3, l4, l5, l6, l7] := (wr5_far _ _ (by omega) _ _).trans h.l
  exact ⟨(wr5_far _ _ (by omega) _ _).trans ((wr5_far _ _ (by omega) _ _).trans h.n), wr8 hL v0 v1 v2 v3 v4 v5 v6 v7, (wr5_far _ _ (by omega) _ _).trans hR, wr5_below _ _ (by omega) _ _ _ (wr5_below _ _ (by omega) _ _ _ h.below)⟩
/-- Six new rows. -/
structure SixAt (w1 W : World) (v1 v2 v3 v4 v5 v6 : Value) (k1 k2 : List ByteArray) (x1 x2 : List Nat) (c1 c2 : List Int) : Prop where
  a : NewRow w1 W 9 v1 (k1.map Value.string)
  b : NewRow w1 W 9 v2 (k2.map Value.string)
  c : NewRow w1 W 50 v3 (x1.map uv)
  d : NewRow w1 W 50 v4 (x2.map uv)
  e : NewRow w1 W 3 v5 (c1.map (Value.int .i64))
  f : NewRow w1 W 3 v6 (c2.map (Value.int .i64))
theorem SixAt.keep {w1 W W' : World} {v1 v2 v3 v4 v5 v6 : Value} {k1 k2 : List ByteArray} {x1 x2 : List Nat} {c1 c2 : List Int} (h : SixAt w1 W v1 v2 v3 v4 v5 v6 k1 k2 x1 x2 c1 c2) (hb : Below W.heap.size W W') : SixAt w1 W' v1 v2 v3 v4 v5 v6 k1 k2 x1 x2 c1 c2 :=
  ⟨h.a.keep hb, h.b.keep hb, h.c.keep hb, h.d.keep hb, h.e.keep hb, h.f.keep hb⟩
theorem SixAt.far {w1 W W' : World} {v1 v2 v3 v4 v5 v6 : Value} {k1 k2 : List ByteArray} {x1 x2 : List Nat} {c1 c2 : List Int} (h : SixAt w1 W v1 v2 v3 v4 v5 v6 k1 k2 x1 x2 c1 c2) (hs : ∀ g, w1.heap.size ≤ g → W'.heap[g]? = W.heap[g]?) : SixAt w1 W' v1 v2 v3 v4 v5 v6 k1 k2 x1 x2 c1 c2 :=
  ⟨h.a.far hs, h.b.far hs, h.c.far hs, h.d.far hs, h.e.far hs, h.f.far hs⟩
theorem SixAt.set3 {w w1 W : World} {v1 v2 v3 v4 v5 v6 : Value} {k1 k2 : List ByteArray} {x1 x2 : List Nat} {c1 c2 : List Int} (h : SixAt w1 W v1 v2 v3 v4 v5 v6 k1 k2 x1 x2 c1 c2) (hs : w1.heap.size = w.heap.size + 3) (k i : Nat) (hk : k < 3) (u : Value) : SixAt w1 (W.setCell ⟨w.heap.size + k, i, none⟩ u) v1 v2 v3 v4 v5 v6 k1 k2 x1 x2 c1 c2 :=
  h.far (fun g hg => Below.heap_setCell W ⟨w.heap.size + k, i, none⟩ u g (by show g ≠ w.heap.size + k; omega))
theorem SixAt.drew {w1 W : World} {v1 v2 v3 v4 v5 v6 : Value} {k1 k2 : List ByteArray} {x1 x2 : List Nat} {c1 c2 : List Int} (h : SixAt w1 W v1 v2 v3 v4 v5 v6 k1 k2 x1 x2 c1 c2) : SixAt w1 W.drew v1 v2 v3 v4 v5 v6 k1 k2 x1 x2 c1 c2 := h.far (fun _ _ => rfl)
theorem SixAt.lr {w w1 W : World} {v1 v2 v3 v4 v5 v6 : Value} {k1 k2 : List ByteArray} {x1 x2 : List Nat} {c1 c2 : List Int} (h : SixAt w1 W v1 v2 v3 v4 v5 v6 k1 k2 x1 x2 c1 c2) (hs : w1.heap.size = w.heap.size + 3) {l0 l1 l2 l3 l4 l5 l6 l7 r0 r1 r2 r3 r4 r5 r6 r7 : Value} : SixAt w1 (((((((((((((((((W.setCell ⟨w.heap.size + 1, 0, none⟩ l0).setCell ⟨w.heap.size + 1, 1, none⟩ l1).setCell ⟨w.heap.size + 1, 2, none⟩ l2).setCell ⟨w.heap.size + 1, 3, none⟩ l3).setCell ⟨w.heap.size + 1, 4, none⟩ l4).setCell ⟨w.heap.size + 1, 5, none⟩ l5).setCell ⟨w.heap.size + 1, 6, none⟩ l6).setCell ⟨w.heap.size + 1, 7, none⟩ l7).setCell ⟨w.heap.size + 2, 0, none⟩ r0).setCell ⟨w.heap.size + 2, 1, none⟩ r1).setCell ⟨w.heap.size + 2, 2, none⟩ r2).setCell ⟨w.heap.size + 2, 3, none⟩ r3).setCell ⟨w.heap.size + 2, 4, none⟩ r4).setCell ⟨w.heap.size + 2, 5, none⟩ r5).setCell ⟨w.heap.size + 2, 6, none⟩ r6).setCell ⟨w.heap.size + 2, 7, none⟩ r7)).drew v1 v2 v3 v4 v5 v6 k1 k2 x1 x2 c1 c2 := by
  have h1 : SixAt w1 (wr5 (wr5 W (w.heap.size + 1) [(0, l0), (1, l1), (2, l2), (3, l3), (4, l4), (5, l5), (6, l6), (7, l7)]) (w.heap.size + 2) [(0, r0), (1, r1), (2, r2), (3, r3), (4, r4), (5, r5), (6, r6), (7, r7)]) v1 v2 v3 v4 v5 v6 k1 k2 x1 x2 c1 c2 := h.far (fun g hg => (wr5_far _ g (by omega) _ _).trans (wr5_far _ g (by omega) _ _))
  have h2 := SixAt.drew h1
  simp only [wr5] at h2
  exact h2
theorem SixAt.rl {w w1 W : World} {v1 v2 v3 v4 v5 v6 : Value} {k1 k2 : List ByteArray} {x1 x2 : List Nat} {c1 c2 : List Int} (h : SixAt w1 W v1 v2 v3 v4 v5 v6 k1 k2 x1 x2 c1 c2) (hs : w1.heap.size = w.heap.size + 3) {l0 l1 l2 l3 l4 l5 l6 l7 r0 r1 r2 r3 r4 r5 r6 r7 : Value} : SixAt w1 (((((((((((((((((W.setCell ⟨w.heap.size + 2, 0, none⟩ r0).setCell ⟨w.heap.size + 2, 1, none⟩ r1).setCell ⟨w.heap.size + 2, 2, none⟩ r2).setCell ⟨w.heap.size + 2, 3, none⟩ r3).setCell ⟨w.heap.size + 2, 4, none⟩ r4).setCell ⟨w.heap.size + 2, 5, none⟩ r5).setCell ⟨w.heap.size + 2, 6, none⟩ r6).setCell ⟨w.heap.size + 2, 7, none⟩ r7).setCell ⟨w.heap.size + 1, 0, none⟩ l0).setCell ⟨w.heap.size + 1, 1, none⟩ l1).setCell ⟨w.heap.size + 1, 2, none⟩ l2).setCell ⟨w.heap.size + 1, 3, none⟩ l3).setCell ⟨w.heap.size + 1, 4, none⟩ l4).setCell ⟨w.heap.size + 1, 5, none⟩ l5).setCell ⟨w.heap.size + 1, 6, none⟩ l6).setCell ⟨w.heap.size + 1, 7, none⟩ l7)).drew v1 v2 v3 v4 v5 v6 k1 k2 x1 x2 c1 c2 := by
  have h1 : SixAt w1 (wr5 (wr5 W (w.heap.size + 2) [(0, r0), (1, r1), (2, r2), (3, r3), (4, r4), (5, r5), (6, r6), (7, r7)]) (w.heap.size + 1) [(0, l0), (1, l1), (2, l2), (3, l3), (4, l4), (5, l5), (6, l6), (7, l7)]) v1 v2 v3 v4 v5 v6 k1 k2 x1 x2 c1 c2 := h.far (fun g hg => (wr5_far _ g (by omega) _ _).trans (wr5_far _ g (by omega) _ _))
  have h2 := SixAt.drew h1
  simp only [wr5] at h2
  exact h2
theorem bordering_new (lv : Int) (w : World) :
    Calls Try.prog 87 #[.int .i64 lv] w fun e w' => ∃ g, e = .returned (.func (.func 122) #[] #[.pointer (some ⟨g, 0, none⟩)]) ∧ w'.cell? ⟨g, 0, none⟩ = some (.int .i64 lv) ∧ Below w.heap.size w w' :=
  (bordering_any lv w).mono (fun e w' ⟨h1, h2⟩ => ⟨_, h1, by rw [h2]; exact boxed_cell _ _ _, by rw [h2]; exact boxed_below _ _⟩)
/-- A write to a box of the call's own leaves new rows. -/
theorem NewRow.set3 {w w1 W : World} {t : TypeId} {v : Value} {xs : List Value} (h : NewRow w1 W t v xs) (hs : w1.heap.size = w.heap.size + 3) (k i : Nat) (hk : k < 3) (u : Value) : NewRow w1 (W.setCell ⟨w.heap.size + k, i, none⟩ u) t v xs :=
  h.far (fun g hg => Below.heap_setCell W ⟨w.heap.size + k, i, none⟩ u g (by show g ≠ w.heap.size + k; omega))

set_option maxHeartbeats 8000000 in
set_option maxRecDepth 100000 in
theorem parts_of (lv nx : Int) (lo hi : ByteArray) (la : Bool) (ak av ac : Option Addr) (ck cv cc : Nat) (ks : List ByteArray) (vs : List Nat) (cs : List Int) (cell : Int) (w : World) (hN : NdAt w ak av ac ks.length ck vs.length cv cs.length cc ks vs cs) (hf : ∀ x ∈ ks, x.size ≤ 140737488355328) (hn : ks.length ≤ 274877906944 ∧ vs.length ≤ 274877906944 ∧ cs.length ≤ 274877906944)
    (hr : 2 ≤ ks.length → lss (nth ks (hlf ks.length - 1)).data.toList (nth ks (hlf ks.length)).data.toList = true) :
    Calls Try.prog 46 #[.agg #[.int .i64 lv, .string lo, .string hi, .bool la, .int .i64 nx, .slice ak ks.length ck, .slice av vs.length cv, .slice ac cs.length cc], .int .i64 cell] w fun e w' => GaveTwo w w' e (decide (2 ≤ ks.length)) (Nod.or (decide (2 ≤ ks.length)) (Nod.left ⟨lv, nx, lo, hi, la, ks, vs, cs⟩ cell)) (Nod.or (decide (2 ≤ ks.length)) (Nod.right ⟨lv, nx, lo, hi, la, ks, vs, cs⟩)) := by
  obtain ⟨w1, hw1, n1, n2, n3, hB, hsz⟩ := boxes3 w #[.int .i64 lv, .string lo, .string hi, .bool la, .int .i64 nx, .slice ak ks.length ck, .slice av vs.length cv, .slice ac cs.length cc] #[.int .i64 0, .string ⟨#[]⟩, .string ⟨#[]⟩, .bool false, .int .i64 0, .slice none 0 0, .slice none 0 0, .slice none 0 0] #[.int .i64 0, .string ⟨#[]⟩, .string ⟨#[]⟩, .bool false, .int .i64 0, .slice none 0 0, .slice none 0 0, .slice none 0 0]
  have HW1 := Lib.hid hw1
  have HSZ := Lib.hid hsz
  have HP1 : Hid (PartsAt w w1 #[.int .i64 lv, .string lo, .string hi, .bool la, .int .i64 nx, .slice ak ks.length ck, .slice av vs.length cv, .slice ac cs.length cc] #[.int .i64 0, .string ⟨#[]⟩, .string ⟨#[]⟩, .bool false, .int .i64 0, .slice none 0 0, .slice none 0 0, .slice none 0 0] #[.int .i64 0, .string ⟨#[]⟩, .string ⟨#[]⟩, .bool false, .int .i64 0, .slice none 0 0, .slice none 0 0, .slice none 0 0]) := Lib.hid ⟨n1, n2, n3, hB⟩
  have HND := Lib.hid hN
  have HFK := Lib.hid hf
  have HRI := Lib.hid hr
  obtain ⟨q0, q1, q2, q3, q4, q5, q6, q7⟩ := n1.cells
  clear hN hf hr n1 n2 n3 hB hw1 hsz
  go_enter Try.func46, Try.ntmps46
  go_upto_region 1 with fail
  rw [← HW1.out]
  clear HW1
  by_cases h2 : ks.length < 2
  case pos =>
    have HD : Hid (decide (2 ≤ ks.length) = false) := Lib.hid (decide_eq_false (by omega))
    have h2i : (ks.length : Int) < 2 := by omega
    obtain ⟨t0, t1, t2, t3, t4, t5, t6, t7⟩ := HP1.out.l.cells
    obtain ⟨u0, u1, u2, u3, u4, u5, u6, u7⟩ := HP1.out.r.cells
    have f0 := HP1.out.l.frozen 0
    have f1 := HP1.out.l.frozen 1
    have f2 := HP1.out.l.frozen 2
    have f3 := HP1.out.l.frozen 3
    have f4 := HP1.out.l.frozen 4
    have f5 := HP1.out.l.frozen 5
    have f6 := HP1.out.l.frozen 6
    have f7 := HP1.out.l.frozen 7
    have g0 := HP1.out.r.frozen 0
    have g1 := HP1.out.r.frozen 1
    have g2 := HP1.out.r.frozen 2
    have g3 := HP1.out.r.frozen 3
    have g4 := HP1.out.r.frozen 4
    have g5 := HP1.out.r.frozen 5
    have g6 := HP1.out.r.frozen 6
    have g7 := HP1.out.r.frozen 7
    go_wp2
    refine bodyPost_ret (v := .tuple #[.agg #[.int .i64 0, .string ⟨#[]⟩, .string ⟨#[]⟩, .bool false, .int .i64 0, .slice none 0 0, .slice none 0 0, .slice none 0 0], .agg #[.int .i64 0, .string ⟨#[]⟩, .string ⟨#[]⟩, .bool false, .int .i64 0, .slice none 0 0, .slice none 0 0, .slice none 0 0], .bool false]) (by simp [results, Try.results46, go_sem, *]) rfl ?_
    rw [HD.out]
    exact gaveTwo_none (wr5_below (w.heap.size + 2) w.heap.size (by omega) [(0, _), (1, _), (2, _), (3, _), (4, _), (5, _), (6, _), (7, _)] w _ (wr5_below (w.heap.size + 1) w.heap.size (by omega) [(0, _), (1, _), (2, _), (3, _), (4, _), (5, _), (6, _), (7, _)] w w1 HP1.out.below))
  case neg =>
    have HD : Hid (decide (2 ≤ ks.length) = true) := Lib.hid (decide_eq_true (by omega))
    have h2i : ¬ (ks.length : Int) < 2 := by omega
    go_upto_region 3 with fail
    clear q0 q1 q2 q3 q4 q5 q6 q7
    go_cut [] (fun wx => Hid (PartsAt w wx #[.int .i64 lv, .string lo, .string hi, .bool la, .int .i64 nx, .slice ak ks.length ck, .slice av vs.length cv, .slice ac cs.length cc] #[.int .i64 lv, .string lo, .string hi, .bool la, .int .i64 nx, .slice ak ks.length ck, .slice av vs.length cv, .slice ac cs.length cc] #[.int .i64 lv, .string lo, .string hi, .bool la, .int .i64 nx, .slice ak ks.length ck, .slice av vs.length cv, .slice ac cs.length cc]))
    case first =>
      rename_i J1 K1 hJ1 hK1
      obtain ⟨q0, q1, q2, q3, q4, q5, q6, q7⟩ := HP1.out.n.cells
      obtain ⟨t0, t1, t2, t3, t4, t5, t6, t7⟩ := HP1.out.l.cells
      obtain ⟨u0, u1, u2, u3, u4, u5, u6, u7⟩ := HP1.out.r.cells
      have f0 := HP1.out.l.frozen 0
      have f1 := HP1.out.l.frozen 1
      have f2 := HP1.out.l.frozen 2
      have f3 := HP1.out.l.frozen 3
      have f4 := HP1.out.l.frozen 4
      have f5 := HP1.out.l.frozen 5
      have f6 := HP1.out.l.frozen 6
      have f7 := HP1.out.l.frozen 7
      have g0 := HP1.out.r.frozen 0
      have g1 := HP1.out.r.frozen 1
      have g2 := HP1.out.r.frozen 2
      have g3 := HP1.out.r.frozen 3
      have g4 := HP1.out.r.frozen 4
      have g5 := HP1.out.r.frozen 5
      have g6 := HP1.out.r.frozen 6
      have g7 := HP1.out.r.frozen 7
      go_region
      all_goals
        refine hK1 _ _ (Met.intro (hJ1 _ _ ?_))
        (repeat apply Exists.intro)
        refine ⟨?_, rfl⟩
        (try rw [show w.heap.size + 1 + 1 = w.heap.size + 2 from rfl])
        first
          | (with_reducible exact Lib.hid (PartsAt.drew (PartsAt.lr HP1.out)))
          | (with_reducible exact Lib.hid (PartsAt.drew (PartsAt.rl HP1.out)))
    case rest =>
    have H0 := hcut
    clear hcut
    obtain ⟨h, hh⟩ : ∃ h, h = hlf ks.length := ⟨_, rfl⟩
    obtain ⟨h', hh'⟩ : ∃ h, h = hlf vs.length := ⟨_, rfl⟩
    obtain ⟨h'', hh''⟩ : ∃ h, h = hlf cs.length := ⟨_, rfl⟩
    have hle : h ≤ ks.length := by rw [hh]; exact hlf_le _
    have hpos : 0 < h := by rw [hh]; unfold hlf; omega
    have hlt : h < ks.length := by rw [hh]; unfold hlf; omega
    have hle' : h' ≤ vs.length := by rw [hh']; exact hlf_le _
    have hle'' : h'' ≤ cs.length := by rw [hh'']; exact hlf_le _
    have HRI2 : Hid (lss (nth ks (h - 1)).data.toList (nth ks h).data.toList = true) := Lib.hid (by rw [hh]; exact HRI.out (by omega))
    obtain ⟨KL, hKL⟩ : ∃ x, x = ks.take h := ⟨_, rfl⟩
    obtain ⟨KR, hKR⟩ : ∃ x, x = ks.drop h := ⟨_, rfl⟩
    obtain ⟨VL, hVL⟩ : ∃ x, x = vs.take h' := ⟨_, rfl⟩
    obtain ⟨VR, hVR⟩ : ∃ x, x = vs.drop h' := ⟨_, rfl⟩
    obtain ⟨CL, hCL⟩ : ∃ x, x = cs.take h'' := ⟨_, rfl⟩
    obtain ⟨CR, hCR⟩ : ∃ x, x = cs.drop h'' := ⟨_, rfl⟩
    have HLE : Hid (Nod.left ⟨lv, nx, lo, hi, la, ks, vs, cs⟩ cell = ⟨lv, cell, lo, brdL lv (nth ks (h - 1)) (nth ks h), false, KL, VL, CL⟩) := Lib.hid (by subst hKL hVL hCL hh hh' hh''; rfl)
    have HRE : Hid (Nod.right ⟨lv, nx, lo, hi, la, ks, vs, cs⟩ = ⟨lv, nx, brdL lv (nth ks (h - 1)) (nth ks h), hi, la, KR, VR, CR⟩) := Lib.hid (by subst hKR hVR hCR hh hh' hh''; rfl)
    have HKL : Hid (KL.length = h ∧ nth KL (h - 1) = nth ks (h - 1)) := Lib.hid (by
      subst hKL
      refine ⟨by rw [List.length_take]; omega, ?_⟩
      unfold nth
      rw [List.getD_eq_getElem?_getD, List.getD_eq_getElem?_getD, List.getElem?_take, if_pos (by omega)])
    have HKR : Hid (0 < KR.length ∧ nth KR 0 = nth ks h) := Lib.hid (by
      subst hKR
      refine ⟨by rw [List.length_drop]; omega, ?_⟩
      unfold nth
      rw [List.getD_eq_getElem?_getD, List.getD_eq_getElem?_getD, List.getElem?_drop, Nat.add_zero])
    have HTK := Lib.hid (fun W (hb : Below w.heap.size w W) => halvesStr_any ak ks.length ck (ks.map Value.string) W (HND.out.k.keep hb) (ones_str ks) (by omega))
    have HTV := Lib.hid (fun W (hb : Below w.heap.size w W) => halvesU64_any av vs.length cv (vs.map uv) W (HND.out.v.keep hb) (ones_u64 vs) (by omega))
    have HTC := Lib.hid (fun W (hb : Below w.heap.size w W) => halvesInt_any ac cs.length cc (cs.map (Value.int .i64)) W (HND.out.c.keep hb) (ones_int cs) (by omega))
    rw [← hh, ← List.map_take, ← List.map_drop, ← hKL, ← hKR] at HTK
    rw [← hh', ← List.map_take, ← List.map_drop, ← hVL, ← hVR] at HTV
    rw [← hh'', ← List.map_take, ← List.map_drop, ← hCL, ← hCR] at HTC
    have HLN : Hid (KL.length ≤ 274877906944 ∧ KR.length ≤ 274877906944 ∧ VL.length ≤ 274877906944 ∧ VR.length ≤ 274877906944 ∧ CL.length ≤ 274877906944 ∧ CR.length ≤ 274877906944) := Lib.hid (by
      subst hKL hKR hVL hVR hCL hCR
      simp only [List.length_take, List.length_drop]
      omega)
    have HAB : Hid ((nth ks (h - 1)).size ≤ 140737488355328 ∧ (nth ks h).size ≤ 140737488355328) := Lib.hid ⟨by rw [nth_eq (by omega)]; exact HFK.out _ (List.getElem_mem _), by rw [nth_eq hlt]; exact HFK.out _ (List.getElem_mem _)⟩
    clear hh hh' hh'' hKL hKR hVL hVR hCL hCR HRI
    obtain ⟨q0, q1, q2, q3, q4, q5, q6, q7⟩ := H0.out.n.cells
    go_wp2_with fail
    refine (HTK.out _ H0.out.below).mono ?_
    rintro e w4 ⟨v4a, v4b, rfl, hva, hvb, hb4⟩
    obtain ⟨a4, hea⟩ := hva.open
    obtain ⟨b4, heb⟩ := hvb.open
    subst hea
    subst heb
    rw [List.length_map] at hva hvb
    simp only [List.length_map]
    have K4 := Lib.hid (H0.out.keep hb4)
    have RA4 := Lib.hid (hva.back (w0 := w1) (by rw [HSZ.out]; exact H0.out.size))
    have RB4 := Lib.hid (hvb.back (w0 := w1) (by rw [HSZ.out]; exact H0.out.size))
    clear hva hvb hb4 q0 q1 q2 q3 q4 q5 q6 q7 
    have tq := K4.out.l.cells
    have fq := K4.out.l.frozen 5
    have uq := K4.out.r.cells
    have gq := K4.out.r.frozen 5
    obtain ⟨t0, t1, t2, t3, t4, t5, t6, t7⟩ := tq
    obtain ⟨u0, u1, u2, u3, u4, u5, u6, u7⟩ := uq
    go_upto_region 5 with fail
    refine @nameWh (fun W => Code.wp _ _ _ _ W) _ ?_
    intro W4 hW4
    (try rw [show w.heap.size + 1 + 1 = w.heap.size + 2 from rfl] at hW4)
    clear t0 t1 t2 t3 t4 t5 t6 t7 u0 u1 u2 u3 u4 u5 u6 u7 fq gq
    have M4 : Hid (PartsAt w W4 #[.int .i64 lv, .string lo, .string hi, .bool la, .int .i64 nx, .slice ak ks.length ck, .slice av vs.length cv, .slice ac cs.length cc] #[.int .i64 lv, .string lo, .string hi, .bool la, .int .i64 nx, .slice a4 KL.length KL.length, .slice av vs.length cv, .slice ac cs.length cc] #[.int .i64 lv, .string lo, .string hi, .bool la, .int .i64 nx, .slice b4 KR.length KR.length, .slice av vs.length cv, .slice ac cs.length cc]) := Lib.hid (by rw [hW4]; exact (K4.out.setL 5 (.slice a4 KL.length KL.length)).setR 5 (.slice b4 KR.length KR.length))
    have RA4_4x := Lib.hid ((RA4.out.set3 HSZ.out 1 5 (by omega) (.slice a4 KL.length KL.length)).set3 HSZ.out 2 5 (by omega) (.slice b4 KR.length KR.length))
    rw [← hW4] at RA4_4x
    have RB4_4x := Lib.hid ((RB4.out.set3 HSZ.out 1 5 (by omega) (.slice a4 KL.length KL.length)).set3 HSZ.out 2 5 (by omega) (.slice b4 KR.length KR.length))
    rw [← hW4] at RB4_4x
    clear hW4 K4 H0 HTK RA4 RB4
    obtain ⟨q0, q1, q2, q3, q4, q5, q6, q7⟩ := M4.out.n.cells
    go_wp2_with fail
    refine (HTV.out _ M4.out.below).mono ?_
    rintro e w5 ⟨v5a, v5b, rfl, hva, hvb, hb5⟩
    obtain ⟨a5, hea⟩ := hva.open
    obtain ⟨b5, heb⟩ := hvb.open
    subst hea
    subst heb
    rw [List.length_map] at hva hvb
    simp only [List.length_map]
    have K5 := Lib.hid (M4.out.keep hb5)
    have RA5 := Lib.hid (hva.back (w0 := w1) (by rw [HSZ.out]; exact M4.out.size))
    have RB5 := Lib.hid (hvb.back (w0 := w1) (by rw [HSZ.out]; exact M4.out.size))
    have RA4_5 := Lib.hid (RA4_4x.out.keep hb5)
    have RB4_5 := Lib.hid (RB4_4x.out.keep hb5)
    clear hva hvb hb5 q0 q1 q2 q3 q4 q5 q6 q7 RA4_4x RB4_4x
    have tq := K5.out.l.cells
    have fq := K5.out.l.frozen 6
    have uq := K5.out.r.cells
    have gq := K5.out.r.frozen 6
    obtain ⟨t0, t1, t2, t3, t4, t5, t6, t7⟩ := tq
    obtain ⟨u0, u1, u2, u3, u4, u5, u6, u7⟩ := uq
    go_upto_region 6 with fail
    refine @nameWh (fun W => Code.wp _ _ _ _ W) _ ?_
    intro W5 hW5
    (try rw [show w.heap.size + 1 + 1 = w.heap.size + 2 from rfl] at hW5)
    clear t0 t1 t2 t3 t4 t5 t6 t7 u0 u1 u2 u3 u4 u5 u6 u7 fq gq
    have M5 : Hid (PartsAt w W5 #[.int .i64 lv, .string lo, .string hi, .bool la, .int .i64 nx, .slice ak ks.length ck, .slice av vs.length cv, .slice ac cs.length cc] #[.int .i64 lv, .string lo, .string hi, .bool la, .int .i64 nx, .slice a4 KL.length KL.length, .slice a5 VL.length VL.length, .slice ac cs.length cc] #[.int .i64 lv, .string lo, .string hi, .bool la, .int .i64 nx, .slice b4 KR.length KR.length, .slice b5 VR.length VR.length, .slice ac cs.length cc]) := Lib.hid (by rw [hW5]; exact (K5.out.setL 6 (.slice a5 VL.length VL.length)).setR 6 (.slice b5 VR.length VR.length))
    have RA4_5x := Lib.hid ((RA4_5.out.set3 HSZ.out 1 6 (by omega) (.slice a5 VL.length VL.length)).set3 HSZ.out 2 6 (by omega) (.slice b5 VR.length VR.length))
    rw [← hW5] at RA4_5x
    have RB4_5x := Lib.hid ((RB4_5.out.set3 HSZ.out 1 6 (by omega) (.slice a5 VL.length VL.length)).set3 HSZ.out 2 6 (by omega) (.slice b5 VR.length VR.length))
    rw [← hW5] at RB4_5x
    have RA5_5x := Lib.hid ((RA5.out.set3 HSZ.out 1 6 (by omega) (.slice a5 VL.length VL.length)).set3 HSZ.out 2 6 (by omega) (.slice b5 VR.length VR.length))
    rw [← hW5] at RA5_5x
    have RB5_5x := Lib.hid ((RB5.out.set3 HSZ.out 1 6 (by omega) (.slice a5 VL.length VL.length)).set3 HSZ.out 2 6 (by omega) (.slice b5 VR.length VR.length))
    rw [← hW5] at RB5_5x
    clear hW5 K5 M4 HTV RA4_5 RB4_5 RA5 RB5
    obtain ⟨q0, q1, q2, q3, q4, q5, q6, q7⟩ := M5.out.n.cells
    go_wp2_with fail
    refine (HTC.out _ M5.out.below).mono ?_
    rintro e w6 ⟨v6a, v6b, rfl, hva, hvb, hb6⟩
    obtain ⟨a6, hea⟩ := hva.open
    obtain ⟨b6, heb⟩ := hvb.open
    subst hea
    subst heb
    rw [List.length_map] at hva hvb
    simp only [List.length_map]
    have K6 := Lib.hid (M5.out.keep hb6)
    have RA6 := Lib.hid (hva.back (w0 := w1) (by rw [HSZ.out]; exact M5.out.size))
    have RB6 := Lib.hid (hvb.back (w0 := w1) (by rw [HSZ.out]; exact M5.out.size))
    have RA4_6 := Lib.hid (RA4_5x.out.keep hb6)
    have RB4_6 := Lib.hid (RB4_5x.out.keep hb6)
    have RA5_6 := Lib.hid (RA5_5x.out.keep hb6)
    have RB5_6 := Lib.hid (RB5_5x.out.keep hb6)
    clear hva hvb hb6 q0 q1 q2 q3 q4 q5 q6 q7 RA4_5x RB4_5x RA5_5x RB5_5x
    have tq := K6.out.l.cells
    have fq := K6.out.l.frozen 7
    have uq := K6.out.r.cells
    have gq := K6.out.r.frozen 7
    obtain ⟨t0, t1, t2, t3, t4, t5, t6, t7⟩ := tq
    obtain ⟨u0, u1, u2, u3, u4, u5, u6, u7⟩ := uq
    go_upto_region 7 with fail
    refine @nameWh (fun W => Code.wp _ _ _ _ W) _ ?_
    intro W6 hW6
    (try rw [show w.heap.size + 1 + 1 = w.heap.size + 2 from rfl] at hW6)
    clear t0 t1 t2 t3 t4 t5 t6 t7 u0 u1 u2 u3 u4 u5 u6 u7 fq gq
    have M6 : Hid (PartsAt w W6 #[.int .i64 lv, .string lo, .string hi, .bool la, .int .i64 nx, .slice ak ks.length ck, .slice av vs.length cv, .slice ac cs.length cc] #[.int .i64 lv, .string lo, .string hi, .bool la, .int .i64 nx, .slice a4 KL.length KL.length, .slice a5 VL.length VL.length, .slice a6 CL.length CL.length] #[.int .i64 lv, .string lo, .string hi, .bool la, .int .i64 nx, .slice b4 KR.length KR.length, .slice b5 VR.length VR.length, .slice b6 CR.length CR.length]) := Lib.hid (by rw [hW6]; exact (K6.out.setL 7 (.slice a6 CL.length CL.length)).setR 7 (.slice b6 CR.length CR.length))
    have RA4_6x := Lib.hid ((RA4_6.out.set3 HSZ.out 1 7 (by omega) (.slice a6 CL.length CL.length)).set3 HSZ.out 2 7 (by omega) (.slice b6 CR.length CR.length))
    rw [← hW6] at RA4_6x
    have RB4_6x := Lib.hid ((RB4_6.out.set3 HSZ.out 1 7 (by omega) (.slice a6 CL.length CL.length)).set3 HSZ.out 2 7 (by omega) (.slice b6 CR.length CR.length))
    rw [← hW6] at RB4_6x
    have RA5_6x := Lib.hid ((RA5_6.out.set3 HSZ.out 1 7 (by omega) (.slice a6 CL.length CL.length)).set3 HSZ.out 2 7 (by omega) (.slice b6 CR.length CR.length))
    rw [← hW6] at RA5_6x
    have RB5_6x := Lib.hid ((RB5_6.out.set3 HSZ.out 1 7 (by omega) (.slice a6 CL.length CL.length)).set3 HSZ.out 2 7 (by omega) (.slice b6 CR.length CR.length))
    rw [← hW6] at RB5_6x
    have RA6_6x := Lib.hid ((RA6.out.set3 HSZ.out 1 7 (by omega) (.slice a6 CL.length CL.length)).set3 HSZ.out 2 7 (by omega) (.slice b6 CR.length CR.length))
    rw [← hW6] at RA6_6x
    have RB6_6x := Lib.hid ((RB6.out.set3 HSZ.out 1 7 (by omega) (.slice a6 CL.length CL.length)).set3 HSZ.out 2 7 (by omega) (.slice b6 CR.length CR.length))
    rw [← hW6] at RB6_6x
    clear hW6 K6 M5 HTC RA4_6 RB4_6 RA5_6 RB5_6 RA6 RB6
    have HSX := Lib.hid (SixAt.mk RA4_6x.out RB4_6x.out RA5_6x.out RB5_6x.out RA6_6x.out RB6_6x.out : SixAt w1 W6 _ _ _ _ _ _ KL KR VL VR CL CR)
    clear RA4_6x RB4_6x RA5_6x RB5_6x RA6_6x RB6_6x
    obtain ⟨ga, oa, hga, hea⟩ := rd_at (HSX.out.a.rd (by rw [List.length_map]; have := HLN.out; omega)) ⟨#[]⟩ (h - 1) (by have := HKL.out; omega)
    obtain ⟨gb, ob, hgb, heb⟩ := rd_at (HSX.out.b.rd (by rw [List.length_map]; have := HLN.out; omega)) ⟨#[]⟩ 0 HKR.out.1
    subst hga
    subst hgb
    have hea2 := hea (h - 1) (by have := HKL.out; omega)
    have heb2 := heb 0 HKR.out.1
    rw [show KL.getD (h - 1) ⟨#[]⟩ = nth ks (h - 1) from HKL.out.2] at hea2
    rw [show KR.getD 0 ⟨#[]⟩ = nth ks h from HKR.out.2, Nat.add_zero] at heb2
    obtain ⟨k, hk⟩ : ∃ k, k = h - 1 := ⟨_, rfl⟩
    have HKK : Hid (KL.length = k + 1) := Lib.hid (by have := HKL.out.1; omega)
    have hki : (KL.length : Int) - 1 = (k : Int) := by have := HKK.out; omega
    have hkw : IntKind.i64.wrap (k : Int) = (k : Int) := by have := HKK.out; have := HLN.out; rw [IntKind.wrap_i64]; omega
    have hkl : (k : Int) < KL.length := by have := HKK.out; omega
    have hkr : (0 : Int) < KR.length := by have := HKR.out.1; omega
    have HBD := Lib.hid (fun W => bordering_new lv W)
    have HBI := Lib.hid (fun W g hc => brdIn_any g lv (nth ks (h - 1)) (nth ks h) W HAB.out.1 HAB.out.2 HRI2.out hc)
    clear hea heb
    generalize hsa : nth ks (h - 1) = sa at *
    generalize hsb : nth ks h = sb at *
    generalize hbd : brdL lv sa sb = bd at *
    clear hsa hsb hbd
    rw [← hk] at hea2
    clear hk
    have HCC : Hid (∀ V, Below W6.heap.size W6 V → (V.cell? ⟨w.heap.size, 0, none⟩ = some (.int .i64 lv) ∧ V.cell? ⟨w.heap.size + 1, 5, none⟩ = some (.slice (some ⟨ga, oa, none⟩) KL.length KL.length) ∧ V.cell? ⟨w.heap.size + 2, 5, none⟩ = some (.slice (some ⟨gb, ob, none⟩) KR.length KR.length) ∧ V.cell? ⟨ga, oa + k, none⟩ = some (.string sa) ∧ V.cell? ⟨gb, ob, none⟩ = some (.string sb)) ∧ Below W6.heap.size W6 V) := Lib.hid (fun V hb => by
      have K := M6.out.keep hb
      exact ⟨⟨K.n.cells.1, K.l.cells.2.2.2.2.2.1, K.r.cells.2.2.2.2.2.1, (hb.cell (p := ⟨ga, oa + k, none⟩) (World.block_lt_of_cell? W6 _ hea2)).trans hea2, (hb.cell (p := ⟨gb, ob, none⟩) (World.block_lt_of_cell? W6 _ heb2)).trans heb2⟩, hb⟩)
    clear hea2 heb2
    go_cut [7] (fun s7 wx => Hid (s7 = .string bd ∧ Below W6.heap.size W6 wx))
    case first =>
      rename_i J1 K1 hJ1 hK1
      have hS0 := HCC.out W6.drew (Below.refl _ _).drew
      go_region_held_law (fun V => (V.cell? ⟨w.heap.size, 0, none⟩ = some (.int .i64 lv) ∧ V.cell? ⟨w.heap.size + 1, 5, none⟩ = some (.slice (some ⟨ga, oa, none⟩) KL.length KL.length) ∧ V.cell? ⟨w.heap.size + 2, 5, none⟩ = some (.slice (some ⟨gb, ob, none⟩) KR.length KR.length) ∧ V.cell? ⟨ga, oa + k, none⟩ = some (.string sa) ∧ V.cell? ⟨gb, ob, none⟩ = some (.string sb)) ∧ Below W6.heap.size W6 V)
        (first | (with_reducible exact hS0) | (with_reducible exact hS8) | (with_reducible exact hS9))
        (first
          | (go_at_call 87; (with_reducible refine (HBD.out _).mono ?_); rintro e w8 ⟨g8, rfl, hg8, hb8⟩; have hB8 : Below W6.heap.size W6 w8 := Below.trans (And.right (by assumption)) (Below.mono hb8 (Below.size (And.right (by assumption)))); have hS8 := HCC.out _ hB8; have HG8 := Lib.hid hg8; clear hg8 hb8)
          | (go_at_call 122; (with_reducible refine (HBI.out _ _ HG8.out).mono ?_); rintro e w9 ⟨rfl, hb9⟩; have hB9 : Below W6.heap.size W6 w9 := Below.trans hB8 (Below.mono hb9 (Below.size hB8)); have hS9 := HCC.out _ hB9; clear hb9))
      all_goals
        refine hK1 _ _ (Met.intro (hJ1 _ _ ?_))
        (repeat apply Exists.intro)
        refine ⟨?_, rfl⟩
        (with_reducible exact Lib.hid ⟨rfl, hB9⟩)
    case rest =>
    obtain ⟨h7, hB9⟩ := hcut.out
    subst h7
    have K7 := Lib.hid (M6.out.keep hB9)
    have SX7 := Lib.hid (HSX.out.keep hB9)
    clear hcut hB9 HCC HBD HBI M6 HSX
    have tq := K7.out.l.cells
    have uq := K7.out.r.cells
    have f2 := K7.out.l.frozen 2
    have f3 := K7.out.l.frozen 3
    have f4 := K7.out.l.frozen 4
    have g1 := K7.out.r.frozen 1
    obtain ⟨t0, t1, t2, t3, t4, t5, t6, t7⟩ := tq
    obtain ⟨u0, u1, u2, u3, u4, u5, u6, u7⟩ := uq
    go_upto_region 10 with fail
    refine @nameWh (fun W => Code.wp _ _ _ _ W) _ ?_
    intro WT hWT
    (try rw [show w.heap.size + 1 + 1 = w.heap.size + 2 from rfl] at hWT)
    clear t0 t1 t2 t3 t4 t5 t6 t7 u0 u1 u2 u3 u4 u5 u6 u7 f2 f3 f4 g1
    have MT : Hid (PartsAt w WT #[.int .i64 lv, .string lo, .string hi, .bool la, .int .i64 nx, .slice ak ks.length ck, .slice av vs.length cv, .slice ac cs.length cc] #[.int .i64 lv, .string lo, .string bd, .bool false, .int .i64 cell, .slice (some ⟨ga, oa, none⟩) KL.length KL.length, .slice a5 VL.length VL.length, .slice a6 CL.length CL.length] #[.int .i64 lv, .string bd, .string hi, .bool la, .int .i64 nx, .slice (some ⟨gb, ob, none⟩) KR.length KR.length, .slice b5 VR.length VR.length, .slice b6 CR.length CR.length]) := Lib.hid (by rw [hWT]; exact (((K7.out.setL 2 (.string bd)).setL 3 (.bool false)).setL 4 (.int .i64 cell)).setR 1 (.string bd))
    have ST := Lib.hid ((((SX7.out.set3 HSZ.out 1 2 (by omega) (.string bd)).set3 HSZ.out 1 3 (by omega) (.bool false)).set3 HSZ.out 1 4 (by omega) (.int .i64 cell)).set3 HSZ.out 2 1 (by omega) (.string bd))
    rw [← hWT] at ST
    clear hWT K7 SX7
    go_cut [6] (fun s6 wx => Hid (s6 = .bool true ∧ PartsAt w wx #[.int .i64 lv, .string lo, .string hi, .bool la, .int .i64 nx, .slice ak ks.length ck, .slice av vs.length cv, .slice ac cs.length cc] #[.int .i64 lv, .string lo, .string bd, .bool false, .int .i64 cell, .slice (some ⟨ga, oa, none⟩) KL.length KL.length, .slice a5 VL.length VL.length, .slice a6 CL.length CL.length] #[.int .i64 lv, .string bd, .string hi, .bool la, .int .i64 nx, .slice (some ⟨gb, ob, none⟩) KR.length KR.length, .slice b5 VR.length VR.length, .slice b6 CR.length CR.length] ∧ SixAt w1 wx (.slice (some ⟨ga, oa, none⟩) KL.length KL.length) (.slice (some ⟨gb, ob, none⟩) KR.length KR.length) (.slice a5 VL.length VL.length) (.slice b5 VR.length VR.length) (.slice a6 CL.length CL.length) (.slice b6 CR.length CR.length) KL KR VL VR CL CR))
    case first =>
      rename_i J1 K1 hJ1 hK1
      obtain ⟨t0, t1, t2, t3, t4, t5, t6, t7⟩ := MT.out.l.cells
      obtain ⟨u0, u1, u2, u3, u4, u5, u6, u7⟩ := MT.out.r.cells
      have f0 := MT.out.l.frozen 0
      have f1 := MT.out.l.frozen 1
      have f2 := MT.out.l.frozen 2
      have f3 := MT.out.l.frozen 3
      have f4 := MT.out.l.frozen 4
      have f5 := MT.out.l.frozen 5
      have f6 := MT.out.l.frozen 6
      have f7 := MT.out.l.frozen 7
      have g0 := MT.out.r.frozen 0
      have g1 := MT.out.r.frozen 1
      have g2 := MT.out.r.frozen 2
      have g3 := MT.out.r.frozen 3
      have g4 := MT.out.r.frozen 4
      have g5 := MT.out.r.frozen 5
      have g6 := MT.out.r.frozen 6
      have g7 := MT.out.r.frozen 7
      go_region
      all_goals
        refine hK1 _ _ (Met.intro (hJ1 _ _ ?_))
        (repeat apply Exists.intro)
        refine ⟨?_, rfl⟩
        (try rw [show w.heap.size + 1 + 1 = w.heap.size + 2 from rfl])
        first
          | (with_reducible exact Lib.hid ⟨rfl, PartsAt.drew (PartsAt.lr MT.out), SixAt.lr ST.out HSZ.out⟩)
          | (with_reducible exact Lib.hid ⟨rfl, PartsAt.drew (PartsAt.rl MT.out), SixAt.rl ST.out HSZ.out⟩)
    case rest =>
    obtain ⟨h6, hM, hS⟩ := hcut.out
    subst h6
    have MU := Lib.hid hM
    have SU := Lib.hid hS
    clear hcut hM hS MT ST
    obtain ⟨t0, t1, t2, t3, t4, t5, t6, t7⟩ := MU.out.l.cells
    obtain ⟨u0, u1, u2, u3, u4, u5, u6, u7⟩ := MU.out.r.cells
    go_wp2
    refine bodyPost_ret (v := .tuple #[.agg #[.int .i64 lv, .string lo, .string bd, .bool false, .int .i64 cell, .slice (some ⟨ga, oa, none⟩) KL.length KL.length, .slice a5 VL.length VL.length, .slice a6 CL.length CL.length], .agg #[.int .i64 lv, .string bd, .string hi, .bool la, .int .i64 nx, .slice (some ⟨gb, ob, none⟩) KR.length KR.length, .slice b5 VR.length VR.length, .slice b6 CR.length CR.length], .bool true]) (by simp [results, Try.results46, go_sem, *]) rfl ?_
    rw [HD.out, show Nod.or true (Nod.left ⟨lv, nx, lo, hi, la, ks, vs, cs⟩ cell) = _ from HLE.out, show Nod.or true (Nod.right ⟨lv, nx, lo, hi, la, ks, vs, cs⟩) = _ from HRE.out]
    have hz : w.heap.size ≤ w1.heap.size := by have := HSZ.out; omega
    have hl := HLN.out
    exact ⟨_, _, _, _, _, _, _, _, _, _, _, _, rfl, ⟨SU.out.a.rd (by rw [List.length_map]; omega), SU.out.c.rd (by rw [List.length_map]; omega), SU.out.e.rd (by rw [List.length_map]; omega)⟩, ⟨SU.out.b.rd (by rw [List.length_map]; omega), SU.out.d.rd (by rw [List.length_map]; omega), SU.out.f.rd (by rw [List.length_map]; omega)⟩, MU.out.below, ⟨(Far.of_new SU.out.a).base hz, (Far.of_new SU.out.c).base hz, (Far.of_new SU.out.e).base hz⟩, (Far.of_new SU.out.b).base hz, (Far.of_new SU.out.d).base hz, (Far.of_new SU.out.f).base hz⟩
end Go.Proofs.Ytlcnnnljdffbmaa

namespace Go.Proofs.Ytlcnnnljdffbmaa
open Go.RowKit

theorem gaveTwo_stored {w w5 w8 : World} {A1 A2 : Nat} {v : Value} {b : Bool} {n m : Nod} (h : GaveTwo w5 w8 (.returned v) b n m) (hb : Below w.heap.size w w5) (h1 : w.heap.size ≤ A1) (h1' : A1 < w5.heap.size) (h2 : w.heap.size ≤ A2) (h2' : A2 < w5.heap.size) (l1 l2 : List (Nat × Value)) : GaveTwo w (wr5 (wr5 w8 A1 l1) A2 l2) (.returned v) b n m := by
  obtain ⟨ak1, av1, ac1, ak2, av2, ac2, ck1, cv1, cc1, ck2, cv2, cc2, e, d1, d2, hb8, ⟨f1, f2, f3⟩, f4, f5, f6⟩ := h
  have ho : ∀ g, w5.heap.size ≤ g → (wr5 (wr5 w8 A1 l1) A2 l2).heap[g]? = w8.heap[g]? := fun g hg => (wr5_far A2 g (by omega) l2 _).trans (wr5_far A1 g (by omega) l1 w8)
  exact ⟨ak1, av1, ac1, ak2, av2, ac2, ck1, cv1, cc1, ck2, cv2, cc2, e, ⟨d1.k.off f1 ho, d1.v.off f2 ho, d1.c.off f3 ho⟩, ⟨d2.k.off f4 ho, d2.v.off f5 ho, d2.c.off f6 ho⟩, wr5_below A2 w.heap.size h2 l2 w _ (wr5_below A1 w.heap.size h1 l1 w w8 (hb.trans (hb8.mono hb.size))), ⟨f1.base hb.size, f2.base hb.size, f3.base hb.size⟩, f4.base hb.size, f5.base hb.size, f6.base hb.size⟩
def Nod.SplitP (n : Nod) (cell : Int) : Prop := n.Sound 64 ∧ 2 ≤ n.ks.length ∧ cellB cell = true

set_option maxHeartbeats 8000000 in
set_option maxRecDepth 100000 in
theorem split_of (lv nx : Int) (lo hi : ByteArray) (la : Bool) (ak av ac : Option Addr) (ck cv cc : Nat) (ks : List ByteArray) (vs : List Nat) (cs : List Int) (cell : Int) (b : Bool) (w : World) (hN : NdAt w ak av ac ks.length ck vs.length cv cs.length cc ks vs cs) (hf : Fit lo hi ks ks.length vs.length cs.length) (hb : b = true ↔ Nod.SplitP ⟨lv, nx, lo, hi, la, ks, vs, cs⟩ cell) :
    Calls Try.prog 9 #[.agg #[.int .i64 lv, .string lo, .string hi, .bool la, .int .i64 nx, .slice ak ks.length ck, .slice av vs.length cv, .slice ac cs.length cc], .int .i64 cell] w fun e w' => GaveTwo w w' e b (Nod.or b (Nod.left ⟨lv, nx, lo, hi, la, ks, vs, cs⟩ cell)) (Nod.or b (Nod.right ⟨lv, nx, lo, hi, la, ks, vs, cs⟩)) := by
  obtain ⟨w1, hw1, n1, n2, n3, hB, hsz⟩ := boxes3 w #[.int .i64 lv, .string lo, .string hi, .bool la, .int .i64 nx, .slice ak ks.length ck, .slice av vs.length cv, .slice ac cs.length cc] #[.int .i64 0, .string ⟨#[]⟩, .string ⟨#[]⟩, .bool false, .int .i64 0, .slice none 0 0, .slice none 0 0, .slice none 0 0] #[.int .i64 0, .string ⟨#[]⟩, .string ⟨#[]⟩, .bool false, .int .i64 0, .slice none 0 0, .slice none 0 0, .slice none 0 0]
  have HW1 := Lib.hid hw1
  have HSZ := Lib.hid hsz
  have HP1 : Hid (PartsAt w w1 #[.int .i64 lv, .string lo, .string hi, .bool la, .int .i64 nx, .slice ak ks.length ck, .slice av vs.length cv, .slice ac cs.length cc] #[.int .i64 0, .string ⟨#[]⟩, .string ⟨#[]⟩, .bool false, .int .i64 0, .slice none 0 0, .slice none 0 0, .slice none 0 0] #[.int .i64 0, .string ⟨#[]⟩, .string ⟨#[]⟩, .bool false, .int .i64 0, .slice none 0 0, .slice none 0 0, .slice none 0 0]) := Lib.hid ⟨n1, n2, n3, hB⟩
  obtain ⟨l, hl⟩ := bool_or (SoundP lv nx lo hi la ks.length vs.length cs.length ks cs 64)
  have HIS := Lib.hid (hsound_of lv nx lo hi la ak av ac ks.length ck vs.length cv cs.length cc ks vs cs l w1 (hN.keep hB) hf hl)
  have HCE := Lib.hid (fun W => hcell_any cell W)
  have HND := Lib.hid hN
  have HFT := Lib.hid hf
  have HLL := Lib.hid hl
  have HBB := Lib.hid hb
  obtain ⟨q0, q1, q2, q3, q4, q5, q6, q7⟩ := n1.cells
  clear hN hf hb hl n1 n2 n3 hB hw1 hsz
  go_enter Try.func9, Try.ntmps9
  go_wp2_with fail
  rw [← HW1.out]
  refine HIS.out.mono ?_
  rintro e w2 ⟨rfl, hb2⟩
  have HP2 := Lib.hid (HP1.out.keep hb2)
  have HS2 := Lib.hid hb2.size
  clear hb2 q0 q1 q2 q3 q4 q5 q6 q7 HIS HW1
  cases l with
  | false =>
    have HF : Hid (b = false) := Lib.hid (bool_no HBB.out (fun h => by have := HLL.out.2 h.1; cases this))
    obtain ⟨t0, t1, t2, t3, t4, t5, t6, t7⟩ := HP2.out.l.cells
    obtain ⟨u0, u1, u2, u3, u4, u5, u6, u7⟩ := HP2.out.r.cells
    have f0 := HP2.out.l.frozen 0
    have f1 := HP2.out.l.frozen 1
    have f2 := HP2.out.l.frozen 2
    have f3 := HP2.out.l.frozen 3
    have f4 := HP2.out.l.frozen 4
    have f5 := HP2.out.l.frozen 5
    have f6 := HP2.out.l.frozen 6
    have f7 := HP2.out.l.frozen 7
    have g0 := HP2.out.r.frozen 0
    have g1 := HP2.out.r.frozen 1
    have g2 := HP2.out.r.frozen 2
    have g3 := HP2.out.r.frozen 3
    have g4 := HP2.out.r.frozen 4
    have g5 := HP2.out.r.frozen 5
    have g6 := HP2.out.r.frozen 6
    have g7 := HP2.out.r.frozen 7
    go_wp2
    refine bodyPost_ret (v := .tuple #[.agg #[.int .i64 0, .string ⟨#[]⟩, .string ⟨#[]⟩, .bool false, .int .i64 0, .slice none 0 0, .slice none 0 0, .slice none 0 0], .agg #[.int .i64 0, .string ⟨#[]⟩, .string ⟨#[]⟩, .bool false, .int .i64 0, .slice none 0 0, .slice none 0 0, .slice none 0 0], .bool false]) (by simp [results, Try.results9, go_sem, *]) rfl ?_
    rw [HF.out]
    exact gaveTwo_none (wr5_below (w.heap.size + 2) w.heap.size (by omega) [(0, _), (1, _), (2, _), (3, _), (4, _), (5, _), (6, _), (7, _)] w _ (wr5_below (w.heap.size + 1) w.heap.size (by omega) [(0, _), (1, _), (2, _), (3, _), (4, _), (5, _), (6, _), (7, _)] w _ HP2.out.below))
  | true =>
    have HS := Lib.hid (HLL.out.1 rfl)
    go_wp2_with fail
    refine (HCE.out _).mono ?_
    rintro e wx ⟨rfl, rfl⟩
    cases hcb : cellB cell with
    | false =>
      have HF : Hid (b = false) := Lib.hid (bool_no HBB.out (fun h => by have := h.2.2; rw [hcb] at this; cases this))
      obtain ⟨t0, t1, t2, t3, t4, t5, t6, t7⟩ := HP2.out.l.cells
      obtain ⟨u0, u1, u2, u3, u4, u5, u6, u7⟩ := HP2.out.r.cells
      have f0 := HP2.out.l.frozen 0
      have f1 := HP2.out.l.frozen 1
      have f2 := HP2.out.l.frozen 2
      have f3 := HP2.out.l.frozen 3
      have f4 := HP2.out.l.frozen 4
      have f5 := HP2.out.l.frozen 5
      have f6 := HP2.out.l.frozen 6
      have f7 := HP2.out.l.frozen 7
      have g0 := HP2.out.r.frozen 0
      have g1 := HP2.out.r.frozen 1
      have g2 := HP2.out.r.frozen 2
      have g3 := HP2.out.r.frozen 3
      have g4 := HP2.out.r.frozen 4
      have g5 := HP2.out.r.frozen 5
      have g6 := HP2.out.r.frozen 6
      have g7 := HP2.out.r.frozen 7
      go_wp2
      refine bodyPost_ret (v := .tuple #[.agg #[.int .i64 0, .string ⟨#[]⟩, .string ⟨#[]⟩, .bool false, .int .i64 0, .slice none 0 0, .slice none 0 0, .slice none 0 0], .agg #[.int .i64 0, .string ⟨#[]⟩, .string ⟨#[]⟩, .bool false, .int .i64 0, .slice none 0 0, .slice none 0 0, .slice none 0 0], .bool false]) (by simp [results, Try.results9, go_sem, *]) rfl ?_
      rw [HF.out]
      exact gaveTwo_none (wr5_below (w.heap.size + 2) w.heap.size (by omega) [(0, _), (1, _), (2, _), (3, _), (4, _), (5, _), (6, _), (7, _)] w _ (wr5_below (w.heap.size + 1) w.heap.size (by omega) [(0, _), (1, _), (2, _), (3, _), (4, _), (5, _), (6, _), (7, _)] w _ HP2.out.below))
    | true =>
      have HBD : Hid (b = decide (2 ≤ ks.length)) := Lib.hid (by
        by_cases h2 : 2 ≤ ks.length
        · rw [decide_eq_true h2]; exact HBB.out.2 ⟨HS.out, h2, hcb⟩
        · rw [decide_eq_false h2]; exact bool_no HBB.out (fun h => h2 h.2.1))
      have HPT := Lib.hid (fun W (h : Below w.heap.size w W) => parts_of lv nx lo hi la ak av ac ck cv cc ks vs cs cell W (HND.out.keep h) HFT.out.ks (by have := HFT.out.n; omega) (fun h2 => rises_nth HS.out.keys.rise (by unfold hlf; omega) (by unfold hlf; omega)))
      rw [← HBD.out] at HPT
      obtain ⟨X, hX⟩ : ∃ X, X = Nod.or b (Nod.left ⟨lv, nx, lo, hi, la, ks, vs, cs⟩ cell) := ⟨_, rfl⟩
      obtain ⟨Y, hY⟩ : ∃ Y, Y = Nod.or b (Nod.right ⟨lv, nx, lo, hi, la, ks, vs, cs⟩) := ⟨_, rfl⟩
      rw [← hX, ← hY] at HPT
      have HXX := Lib.hid hX
      have HYY := Lib.hid hY
      clear hX hY hcb
      obtain ⟨q0, q1, q2, q3, q4, q5, q6, q7⟩ := HP2.out.n.cells
      go_wp2_with fail
      refine (HPT.out _ HP2.out.below).mono ?_
      rintro e w4 hg
      have HG := Lib.hid hg
      obtain ⟨ak1, av1, ac1, ak2, av2, ac2, ck1, cv1, cc1, ck2, cv2, cc2, rfl, _, _, hb4, _⟩ := hg
      have HP4 := Lib.hid (HP2.out.keep hb4)
      clear hb4 q0 q1 q2 q3 q4 q5 q6 q7 HPT
      obtain ⟨t0, t1, t2, t3, t4, t5, t6, t7⟩ := HP4.out.l.cells
      obtain ⟨u0, u1, u2, u3, u4, u5, u6, u7⟩ := HP4.out.r.cells
      have f0 := HP4.out.l.frozen 0
      have f1 := HP4.out.l.frozen 1
      have f2 := HP4.out.l.frozen 2
      have f3 := HP4.out.l.frozen 3
      have f4 := HP4.out.l.frozen 4
      have f5 := HP4.out.l.frozen 5
      have f6 := HP4.out.l.frozen 6
      have f7 := HP4.out.l.frozen 7
      have g0 := HP4.out.r.frozen 0
      have g1 := HP4.out.r.frozen 1
      have g2 := HP4.out.r.frozen 2
      have g3 := HP4.out.r.frozen 3
      have g4 := HP4.out.r.frozen 4
      have g5 := HP4.out.r.frozen 5
      have g6 := HP4.out.r.frozen 6
      have g7 := HP4.out.r.frozen 7
      go_wp2
      refine bodyPost_ret (v := .tuple #[.agg #[.int .i64 X.lv, .string X.lo, .string X.hi, .bool X.la, .int .i64 X.nx, .slice ak1 X.ks.length ck1, .slice av1 X.vs.length cv1, .slice ac1 X.cs.length cc1], .agg #[.int .i64 Y.lv, .string Y.lo, .string Y.hi, .bool Y.la, .int .i64 Y.nx, .slice ak2 Y.ks.length ck2, .slice av2 Y.vs.length cv2, .slice ac2 Y.cs.length cc2], .bool b]) (by simp [results, Try.results9, go_sem, *]) rfl ?_
      have hfin := gaveTwo_stored HG.out HP2.out.below (by omega) (by have := HP2.out.size; omega) (by omega) (by have := HP2.out.size; omega) (A1 := w.heap.size + 1) (A2 := w.heap.size + 2) [(0, .int .i64 X.lv), (1, .string X.lo), (2, .string X.hi), (3, .bool X.la), (4, .int .i64 X.nx), (5, .slice ak1 X.ks.length ck1), (6, .slice av1 X.vs.length cv1), (7, .slice ac1 X.cs.length cc1)] [(0, .int .i64 Y.lv), (1, .string Y.lo), (2, .string Y.hi), (3, .bool Y.la), (4, .int .i64 Y.nx), (5, .slice ak2 Y.ks.length ck2), (6, .slice av2 Y.vs.length cv2), (7, .slice ac2 Y.cs.length cc2)]
      simp only [wr5] at hfin
      rw [← HXX.out, ← HYY.out]
      exact hfin
end Go.Proofs.Ytlcnnnljdffbmaa
