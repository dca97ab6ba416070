/- bowerref13.entries: some of a node's entries. Condition: places that are there, sizes that fit. bowerref13.Part: both parts of a node. Condition: at least two entries, as many of each row as the level has, sizes that fit. -/
import Derived.Test.YtlcnnnljdffbmaaGrowRow
import Derived.Test.YtlcnnnljdffbmaaInsMath
import Derived.Deep.RegionHeldLaw
import Derived.Deep.DeepCutAuto
import Derived.Test.YtlcnnnljdffbmaaHalveTwo
namespace Go.Proofs.Ytlcnnnljdffbmaa
open Go.RowKit

theorem nameWe {p : World → Prop} {w : World} (h : ∀ W, W = w → p W) : p w := h w rfl
theorem take_one {α : Type} (P : List α) (m : Nat) (h : m < P.length) (x : α) (hx : P[m]? = some x) : P.take m ++ [x] = P.take (m + 1) := by
  rw [List.take_succ_eq_append_getElem h]
  have : P[m] = x := by rw [List.getElem?_eq_getElem h] at hx; injection hx
  rw [this]
/-- While it gathers: the box, the result's box, three rows that grow. -/
structure EntAt (w wr : World) (c0 c1 c2 c3 c4 kv vv cv : Value) (a b d : Nat) (K V C : List Value) : Prop where
  box : NB wr w.heap.size #[c0, c1, c2, c3, c4, kv, vv, cv]
  res : NB wr (w.heap.size + 1) #[.int .i64 0, .string ⟨#[]⟩, .string ⟨#[]⟩, .bool false, .int .i64 0, .slice none 0 0, .slice none 0 0, .slice none 0 0]
  keys : wr.ownsRow (w.heap.size + 2) 9 1 kv a (K.take a)
  vals : wr.ownsRow (w.heap.size + 2) 50 1 vv b (V.take b)
  kids : wr.ownsRow (w.heap.size + 2) 3 1 cv d (C.take d)
  below : Below w.heap.size w wr
section
variable {w wr w9 : World} {c0 c1 c2 c3 c4 kv vv cv u x : Value} {a b d : Nat} {K V C : List Value}
theorem EntAt.keep (h : EntAt w wr c0 c1 c2 c3 c4 kv vv cv a b d K V C) (hb : Below wr.heap.size wr w9) : EntAt w w9 c0 c1 c2 c3 c4 kv vv cv a b d K V C :=
  ⟨h.box.below hb, h.res.below hb, own_stays h.keys hb, own_stays h.vals hb, own_stays h.kids hb, h.below.trans (hb.mono h.below.size)⟩
theorem EntAt.size (h : EntAt w wr c0 c1 c2 c3 c4 kv vv cv a b d K V C) : w.heap.size + 2 ≤ wr.heap.size := by have := lt_of_block h.res; omega
theorem EntAt.boxK (h : EntAt w wr c0 c1 c2 c3 c4 kv vv cv a b d K V C) (hg : wr.grownBy w9 kv.ownBlock) : NB w9 w.heap.size #[c0, c1, c2, c3, c4, kv, vv, cv] := h.box.grown hg (own_inT h.keys) (by decide)
theorem EntAt.addK (h : EntAt w wr c0 c1 c2 c3 c4 kv vv cv a b d K V C) (hg : wr.grownBy w9 kv.ownBlock) (ho : w9.ownsRow (w.heap.size + 2) 9 1 u (a + 1) (K.take a ++ [x])) (ha : a < K.length) (hx : K[a]? = some x) :
    EntAt w (w9.setCell ⟨w.heap.size, 5, none⟩ u) c0 c1 c2 c3 c4 u vv cv (a + 1) b d K V C := by
  have hr := own_inT h.keys
  have b9 := h.boxK hg
  have r9 := h.res.grown hg hr (by decide)
  have o1 := own_keeps h.vals hg hr (by decide)
  have o2 := own_keeps h.kids hg hr (by decide)
  have hs := grown_set w9 w.heap.size 5 u
  have hn := nb_inT b9
  rw [take_one K a ha x hx] at ho
  have p1 := own_keeps o1 hs hn (by decide)
  have p2 := own_keeps o2 hs hn (by decide)
  have p3 := own_keeps ho hs hn (by decide)
  have hb : Below w.heap.size w (w9.setCell ⟨w.heap.size, 5, none⟩ u) := (h.below.grown hg h.below.size (fun k hk => by have := (h.keys.lt k hk).1; omega)).setCell (Nat.le_refl _) u
  exact ⟨b9.s5 u, r9.far (by show w.heap.size + 1 ≠ w.heap.size; omega) u, p3, p1, p2, hb⟩
theorem EntAt.boxV (h : EntAt w wr c0 c1 c2 c3 c4 kv vv cv a b d K V C) (hg : wr.grownBy w9 vv.ownBlock) : NB w9 w.heap.size #[c0, c1, c2, c3, c4, kv, vv, cv] := h.box.grown hg (own_inT h.vals) (by decide)
theorem EntAt.addV (h : EntAt w wr c0 c1 c2 c3 c4 kv vv cv a b d K V C) (hg : wr.grownBy w9 vv.ownBlock) (ho : w9.ownsRow (w.heap.size + 2) 50 1 u (b + 1) (V.take b ++ [x])) (ha : b < V.length) (hx : V[b]? = some x) :
    EntAt w (w9.setCell ⟨w.heap.size, 6, none⟩ u) c0 c1 c2 c3 c4 kv u cv a (b + 1) d K V C := by
  have hr := own_inT h.vals
  have b9 := h.boxV hg
  have r9 := h.res.grown hg hr (by decide)
  have o1 := own_keeps h.keys hg hr (by decide)
  have o2 := own_keeps h.kids hg hr (by decide)
  have hs := grown_set w9 w.heap.size 6 u
  have hn := nb_inT b9
  rw [take_one V b ha x hx] at ho
  have p1 := own_keeps o1 hs hn (by decide)
  have p2 := own_keeps o2 hs hn (by decide)
  have p3 := own_keeps ho hs hn (by decide)
  have hb : Below w.heap.size w (w9.setCell ⟨w.heap.size, 6, none⟩ u) := (h.below.grown hg h.below.size (fun k hk => by have := (h.vals.lt k hk).1; omega)).setCell (Nat.le_refl _) u
  exact ⟨b9.s6 u, r9.far (by show w.heap.size + 1 ≠ w.heap.size; omega) u, p1, p3, p2, hb⟩
theorem EntAt.boxC (h : EntAt w wr c0 c1 c2 c3 c4 kv vv cv a b d K V C) (hg : wr.grownBy w9 cv.ownBlock) : NB w9 w.heap.size #[c0, c1, c2, c3, c4, kv, vv, cv] := h.box.grown hg (own_inT h.kids) (by decide)
theorem EntAt.addC (h : EntAt w wr c0 c1 c2 c3 c4 kv vv cv a b d K V C) (hg : wr.grownBy w9 cv.ownBlock) (ho : w9.ownsRow (w.heap.size + 2) 3 1 u (d + 1) (C.take d ++ [x])) (ha : d < C.length) (hx : C[d]? = some x) :
    EntAt w (w9.setCell ⟨w.heap.size, 7, none⟩ u) c0 c1 c2 c3 c4 kv vv u a b (d + 1) K V C := by
  have hr := own_inT h.kids
  have b9 := h.boxC hg
  have r9 := h.res.grown hg hr (by decide)
  have o1 := own_keeps h.keys hg hr (by decide)
  have o2 := own_keeps h.vals hg hr (by decide)
  have hs := grown_set w9 w.heap.size 7 u
  have hn := nb_inT b9
  rw [take_one C d ha x hx] at ho
  have p1 := own_keeps o1 hs hn (by decide)
  have p2 := own_keeps o2 hs hn (by decide)
  have p3 := own_keeps ho hs hn (by decide)
  have hb : Below w.heap.size w (w9.setCell ⟨w.heap.size, 7, none⟩ u) := (h.below.grown hg h.below.size (fun k hk => by have := (h.kids.lt k hk).1; omega)).setCell (Nat.le_refl _) u
  exact ⟨b9.s7 u, r9.far (by show w.heap.size + 1 ≠ w.heap.size; omega) u, p1, p2, p3, hb⟩
end
/-- A node is told, with new rows. -/
def EntGives (w w' : World) (e : Ending) (lv nx : Int) (lo hi : ByteArray) (la : Bool) (P : List ByteArray) (V : List Nat) (R : List Int) : Prop :=
  ∃ (ka va ca : Option Addr) (kc vc cc : Nat), e = .returned (.agg #[.int .i64 lv, .string lo, .string hi, .bool la, .int .i64 nx, .slice ka P.length kc, .slice va V.length vc, .slice ca R.length cc]) ∧
    w'.ownsRow (w.heap.size + 2) 9 1 (.slice ka P.length kc) P.length (P.map Value.string) ∧ w'.ownsRow (w.heap.size + 2) 50 1 (.slice va V.length vc) V.length (V.map uv) ∧ w'.ownsRow (w.heap.size + 2) 3 1 (.slice ca R.length cc) R.length (R.map (Value.int .i64)) ∧ Below w.heap.size w w'
def seg {α : Type} (xs : List α) (f t : Nat) : List α := (xs.drop f).take (t - f)
theorem seg_len {α : Type} {xs : List α} {f t : Nat} (h : f ≤ t) (ht : t ≤ xs.length) : (seg xs f t).length = t - f := by
  unfold seg; rw [List.length_take, List.length_drop]; omega
theorem seg_at {α β : Type} {xs : List α} {f t : Nat} (g : α → β) (d : α) (h : f ≤ t) (ht : t ≤ xs.length) (j : Nat) (hj : j < t - f) : ((seg xs f t).map g)[j]? = some (g (xs.getD (f + j) d)) := by
  unfold seg
  rw [List.getElem?_map, List.getElem?_take, if_pos hj, List.getElem?_drop, List.getElem?_eq_getElem (by omega), List.getD_eq_getElem?_getD, List.getElem?_eq_getElem (by omega)]
  rfl
theorem ones_iE (z : Int) : ∀ u ∈ [Value.int .i64 z], u.oneCell' = true := by intro u hu; simp at hu; rw [hu]; rfl

end Go.Proofs.Ytlcnnnljdffbmaa

namespace Go.Proofs.Ytlcnnnljdffbmaa
open Go.RowKit

/-- Three rows of the call's own. -/
structure OwnN (W : World) (B : Nat) (ak av ac : Option Addr) (ck cv cc : Nat) (ks : List ByteArray) (vs : List Nat) (cs : List Int) : Prop where
  k : W.ownsRow B 9 1 (.slice ak ks.length ck) ks.length (ks.map Value.string)
  v : W.ownsRow B 50 1 (.slice av vs.length cv) vs.length (vs.map uv)
  c : W.ownsRow B 3 1 (.slice ac cs.length cc) cs.length (cs.map (Value.int .i64))
theorem own_farE {w : World} {B : Nat} {t : TypeId} {ao : Option Addr} {n c m : Nat} {xs : List Value} (h : w.ownsRow B t 1 (.slice ao n c) m xs) : Far B ao := by
  intro p hp
  rcases h.2 with ⟨e, _⟩ | ⟨g, cap, cur, e, hb, _⟩
  · injection e with e _ _
    rw [hp] at e; cases e
  · injection e with e _ _
    rw [hp] at e
    injection e with e
    rw [e]; exact hb
section
variable {W W' : World} {B : Nat} {ak av ac : Option Addr} {ck cv cc : Nat} {ks : List ByteArray} {vs : List Nat} {cs : List Int}
theorem OwnN.keep (h : OwnN W B ak av ac ck cv cc ks vs cs) (hb : Below W.heap.size W W') : OwnN W' B ak av ac ck cv cc ks vs cs := ⟨own_stays h.k hb, own_stays h.v hb, own_stays h.c hb⟩
theorem OwnN.base {D : Nat} (h : OwnN W B ak av ac ck cv cc ks vs cs) (hd : D ≤ B) : OwnN W D ak av ac ck cv cc ks vs cs := ⟨own_base h.k hd, own_base h.v hd, own_base h.c hd⟩
theorem OwnN.nd (h : OwnN W B ak av ac ck cv cc ks vs cs) : NdAt W ak av ac ks.length ck vs.length cv cs.length cc ks vs cs := ⟨rd_of_owns h.k, rd_of_owns h.v, rd_of_owns h.c⟩
theorem OwnN.drew (h : OwnN W B ak av ac ck cv cc ks vs cs) : OwnN W.drew B ak av ac ck cv cc ks vs cs := h.keep ((Below.refl _ _).drew)
theorem OwnN.set {g : Nat} {ds : Array Value} (h : OwnN W B ak av ac ck cv cc ks vs cs) (hg : NB W g ds) (i : Nat) (u : Value) : OwnN (W.setCell ⟨g, i, none⟩ u) B ak av ac ck cv cc ks vs cs := by
  have hs := grown_set W g i u
  have hn := nb_inT hg
  exact ⟨own_keeps h.k hs hn (by decide), own_keeps h.v hs hn (by decide), own_keeps h.c hs hn (by decide)⟩
theorem OwnN.wr {g : Nat} {ds : Array Value} (h : OwnN W B ak av ac ck cv cc ks vs cs) (hg : NB W g ds) (l : List (Nat × Value)) : OwnN (wr5 W g l) B ak av ac ck cv cc ks vs cs :=
  ⟨own_wr5 h.k hg (by decide) l, own_wr5 h.v hg (by decide) l, own_wr5 h.c hg (by decide) l⟩
end
/-- Two nodes are told; their rows are not below the call's world. -/
def PartG (w w' : World) (e : Ending) (n m : Nod) : Prop :=
  ∃ (ak1 av1 ac1 ak2 av2 ac2 : Option Addr) (ck1 cv1 cc1 ck2 cv2 cc2 : Nat), e = .returned (.tuple #[.agg #[.int .i64 n.lv, .string n.lo, .string n.hi, .bool n.la, .int .i64 n.nx, .slice ak1 n.ks.length ck1, .slice av1 n.vs.length cv1, .slice ac1 n.cs.length cc1], .agg #[.int .i64 m.lv, .string m.lo, .string m.hi, .bool m.la, .int .i64 m.nx, .slice ak2 m.ks.length ck2, .slice av2 m.vs.length cv2, .slice ac2 m.cs.length cc2]]) ∧ OwnN w' w.heap.size ak1 av1 ac1 ck1 cv1 cc1 n.ks n.vs n.cs ∧ OwnN w' w.heap.size ak2 av2 ac2 ck2 cv2 cc2 m.ks m.vs m.cs ∧ Below w.heap.size w w'
theorem OwnN.lr {w W : World} {cN : Array Value} {B : Nat} {ak av ac : Option Addr} {ck cv cc : Nat} {ks : List ByteArray} {vs : List Nat} {cs : List Int} {l0 l1 l2 l3 l4 l5 l6 l7 r0 r1 r2 r3 r4 r5 r6 r7 : Value} {cL cR : Array Value} (h : OwnN W B ak av ac ck cv cc ks vs cs) (hp : PartsAt w W cN cL cR) : OwnN ((((((((((((((((W.setCell ⟨w.heap.size + 1, 0, none⟩ l0).setCell ⟨w.heap.size + 1, 1, none⟩ l1).setCell ⟨w.heap.size + 1, 2, none⟩ l2).setCell ⟨w.heap.size + 1, 3, none⟩ l3).setCell ⟨w.heap.size + 1, 4, none⟩ l4).setCell ⟨w.heap.size + 1, 5, none⟩ l5).setCell ⟨w.heap.size + 1, 6, none⟩ l6).setCell ⟨w.heap.size + 1, 7, none⟩ l7).setCell ⟨w.heap.size + 2, 0, none⟩ r0).setCell ⟨w.heap.size + 2, 1, none⟩ r1).setCell ⟨w.heap.size + 2, 2, none⟩ r2).setCell ⟨w.heap.size + 2, 3, none⟩ r3).setCell ⟨w.heap.size + 2, 4, none⟩ r4).setCell ⟨w.heap.size + 2, 5, none⟩ r5).setCell ⟨w.heap.size + 2, 6, none⟩ r6).setCell ⟨w.heap.size + 2, 7, none⟩ r7).drew B ak av ac ck cv cc ks vs cs := by
  have h1 := h.wr hp.l [(0, l0), (1, l1), (2, l2), (3, l3), (4, l4), (5, l5), (6, l6), (7, l7)]
  have h2 : NB (wr5 W (w.heap.size + 1) [(0, l0), (1, l1), (2, l2), (3, l3), (4, l4), (5, l5), (6, l6), (7, l7)]) (w.heap.size + 2) cR := (wr5_far _ _ (by omega) _ _).trans hp.r
  have h3 := (h1.wr h2 [(0, r0), (1, r1), (2, r2), (3, r3), (4, r4), (5, r5), (6, r6), (7, r7)]).drew
  simp only [wr5] at h3
  exact h3
theorem OwnN.rl {w W : World} {cN : Array Value} {B : Nat} {ak av ac : Option Addr} {ck cv cc : Nat} {ks : List ByteArray} {vs : List Nat} {cs : List Int} {l0 l1 l2 l3 l4 l5 l6 l7 r0 r1 r2 r3 r4 r5 r6 r7 : Value} {cL cR : Array Value} (h : OwnN W B ak av ac ck cv cc ks vs cs) (hp : PartsAt w W cN cL cR) : OwnN ((((((((((((((((W.setCell ⟨w.heap.size + 2, 0, none⟩ r0).setCell ⟨w.heap.size + 2, 1, none⟩ r1).setCell ⟨w.heap.size + 2, 2, none⟩ r2).setCell ⟨w.heap.size + 2, 3, none⟩ r3).setCell ⟨w.heap.size + 2, 4, none⟩ r4).setCell ⟨w.heap.size + 2, 5, none⟩ r5).setCell ⟨w.heap.size + 2, 6, none⟩ r6).setCell ⟨w.heap.size + 2, 7, none⟩ r7).setCell ⟨w.heap.size + 1, 0, none⟩ l0).setCell ⟨w.heap.size + 1, 1, none⟩ l1).setCell ⟨w.heap.size + 1, 2, none⟩ l2).setCell ⟨w.heap.size + 1, 3, none⟩ l3).setCell ⟨w.heap.size + 1, 4, none⟩ l4).setCell ⟨w.heap.size + 1, 5, none⟩ l5).setCell ⟨w.heap.size + 1, 6, none⟩ l6).setCell ⟨w.heap.size + 1, 7, none⟩ l7).drew B ak av ac ck cv cc ks vs cs := by
  have h1 := h.wr hp.r [(0, r0), (1, r1), (2, r2), (3, r3), (4, r4), (5, r5), (6, r6), (7, r7)]
  have h2 : NB (wr5 W (w.heap.size + 2) [(0, r0), (1, r1), (2, r2), (3, r3), (4, r4), (5, r5), (6, r6), (7, r7)]) (w.heap.size + 1) cL := (wr5_far _ _ (by omega) _ _).trans hp.l
  have h3 := (h1.wr h2 [(0, l0), (1, l1), (2, l2), (3, l3), (4, l4), (5, l5), (6, l6), (7, l7)]).drew
  simp only [wr5] at h3
  exact h3
theorem PartsAt.other {w wx : World} {cN cL cR : Array Value} (h : PartsAt w wx cN cL cR) (g i : Nat) (hg : w.heap.size + 3 ≤ g) (u : Value) : PartsAt w (wx.setCell ⟨g, i, none⟩ u) cN cL cR :=
  ⟨h.n.far (p := ⟨g, i, none⟩) (by show w.heap.size ≠ g; omega) u, h.l.far (p := ⟨g, i, none⟩) (by show w.heap.size + 1 ≠ g; omega) u, h.r.far (p := ⟨g, i, none⟩) (by show w.heap.size + 2 ≠ g; omega) u, h.below.setCell (by show w.heap.size ≤ g; omega) u⟩

end Go.Proofs.Ytlcnnnljdffbmaa
