/- bowerref13.Even: two neighbours that have as many entries, or none. Condition: sizes that fit. The law HalveJoins, walked: two nodes as one, and two that have as many entries, are the document's, or there are none; what was handed in stays. Condition: the nodes' rows are there. The law HalveJoins: two nodes as one, and two that have as many entries, or nearly so, are the document's, or there are none; what was handed in stays: it returns true for all arguments, and they read behind the call as they read before. No condition. -/
import Derived.Test.YtmkglaghnjnooaaHalveJoin2
import Derived.Test.YtmkglaghnjnooaaHalvePartsW
import Derived.Test.YtmkglaghnjnooaaNodeRead
namespace Go.Proofs.Ytmkglaghnjnooaa
open Go.RowKit

theorem nbWr8 {W : World} {g : Nat} {c0 c1 c2 c3 c4 c5 c6 c7 v0 v1 v2 v3 v4 v5 v6 v7 : Value} (h : NB W g #[c0, c1, c2, c3, c4, c5, c6, c7]) : NB ((((((((W.setCell ⟨g, 0, none⟩ v0).setCell ⟨g, 1, none⟩ v1).setCell ⟨g, 2, none⟩ v2).setCell ⟨g, 3, none⟩ v3).setCell ⟨g, 4, none⟩ v4).setCell ⟨g, 5, none⟩ v5).setCell ⟨g, 6, none⟩ v6).setCell ⟨g, 7, none⟩ v7) g #[v0, v1, v2, v3, v4, v5, v6, v7] := by
  show NB (wr5 W g [(0, v0), (1, v1), (2, v2), (3, v3), (4, v4), (5, v5), (6, v6), (7, v7)]) g _
  exact wr8 h v0 v1 v2 v3 v4 v5 v6 v7
theorem nbFar8 {W : World} {g a : Nat} {cs : Array Value} {v0 v1 v2 v3 v4 v5 v6 v7 : Value} (h : NB W g cs) (hne : g ≠ a) : NB ((((((((W.setCell ⟨a, 0, none⟩ v0).setCell ⟨a, 1, none⟩ v1).setCell ⟨a, 2, none⟩ v2).setCell ⟨a, 3, none⟩ v3).setCell ⟨a, 4, none⟩ v4).setCell ⟨a, 5, none⟩ v5).setCell ⟨a, 6, none⟩ v6).setCell ⟨a, 7, none⟩ v7) g cs :=
  (by have h2 := wr5_far a g hne [(0, v0), (1, v1), (2, v2), (3, v3), (4, v4), (5, v5), (6, v6), (7, v7)] W; simp only [wr5] at h2; exact h2.trans h)
theorem ownDrew {W : World} {B : Nat} {ak av ac : Option Addr} {ck cv cc : Nat} {ks : List ByteArray} {vs : List Nat} {cs : List Int} (h : OwnN W B ak av ac ck cv cc ks vs cs) : OwnN W.drew B ak av ac ck cv cc ks vs cs := h.drew
theorem nbNew {W : World} {b : Nat} {cs : Array Value} (h : b = W.heap.size) : NB (W.alloc (.cells cs 26)) b cs := h ▸ NB.new W cs
theorem nbAllocd {W : World} {g : Nat} {cs : Array Value} (h : NB W g cs) (o : Obj) : NB (W.alloc o) g cs := h.below (boxed_below W o)
theorem nbDrew {W : World} {g : Nat} {cs : Array Value} (h : NB W g cs) : NB W.drew g cs := h
theorem ownWr8 {W : World} {B : Nat} {ak av ac : Option Addr} {ck cv cc : Nat} {ks : List ByteArray} {vs : List Nat} {cs : List Int} {a : Nat} {ds : Array Value} {v0 v1 v2 v3 v4 v5 v6 v7 : Value} (h : OwnN W B ak av ac ck cv cc ks vs cs) (hg : NB W a ds) : OwnN ((((((((W.setCell ⟨a, 0, none⟩ v0).setCell ⟨a, 1, none⟩ v1).setCell ⟨a, 2, none⟩ v2).setCell ⟨a, 3, none⟩ v3).setCell ⟨a, 4, none⟩ v4).setCell ⟨a, 5, none⟩ v5).setCell ⟨a, 6, none⟩ v6).setCell ⟨a, 7, none⟩ v7) B ak av ac ck cv cc ks vs cs :=
  (by have h2 := h.wr hg [(0, v0), (1, v1), (2, v2), (3, v3), (4, v4), (5, v5), (6, v6), (7, v7)]; simp only [wr5] at h2; exact h2)
theorem ownAllocd {W : World} {B : Nat} {ak av ac : Option Addr} {ck cv cc : Nat} {ks : List ByteArray} {vs : List Nat} {cs : List Int} (h : OwnN W B ak av ac ck cv cc ks vs cs) (o : Obj) : OwnN (W.alloc o) B ak av ac ck cv cc ks vs cs := h.keep (boxed_below W o)
theorem below_onJ {B : Nat} {w V V' : World} (h : Below B w V) (hB : B ≤ w.heap.size) (hb : Below V.heap.size V V') : Below B w V' := h.trans (hb.mono (Nat.le_trans hB h.size))
/-- The two parts of Both in boxes; the results' boxes are empty yet. -/
structure EvAt (w wx : World) (g7 g8 : Nat) (cY cZ : Array Value) (ak1 av1 ac1 akb avb acb : Option Addr) (ck1 cv1 cc1 ckb cvb ccb : Nat) (Y Z : Nod) : Prop where
  b7 : NB wx g7 cY
  b8 : NB wx g8 cZ
  l : NB wx (w.heap.size + 2) #[.int .i64 0, .string ⟨#[]⟩, .string ⟨#[]⟩, .bool false, .int .i64 0, .slice none 0 0, .slice none 0 0, .slice none 0 0]
  r : NB wx (w.heap.size + 3) #[.int .i64 0, .string ⟨#[]⟩, .string ⟨#[]⟩, .bool false, .int .i64 0, .slice none 0 0, .slice none 0 0, .slice none 0 0]
  ge : w.heap.size + 4 ≤ g7 ∧ w.heap.size + 4 ≤ g8
  oY : OwnN wx (w.heap.size + 4) ak1 av1 ac1 ck1 cv1 cc1 Y.ks Y.vs Y.cs
  oZ : OwnN wx (w.heap.size + 4) akb avb acb ckb cvb ccb Z.ks Z.vs Z.cs
  below : Below w.heap.size w wx
theorem ev_of {w w2 wx : World} {g7 g8 B : Nat} {cY cZ : Array Value} {ak1 av1 ac1 akb avb acb : Option Addr} {ck1 cv1 cc1 ckb cvb ccb : Nat} {Y Z : Nod} (hl : NB w2 (w.heap.size + 2) #[.int .i64 0, .string ⟨#[]⟩, .string ⟨#[]⟩, .bool false, .int .i64 0, .slice none 0 0, .slice none 0 0, .slice none 0 0]) (hr : NB w2 (w.heap.size + 3) #[.int .i64 0, .string ⟨#[]⟩, .string ⟨#[]⟩, .bool false, .int .i64 0, .slice none 0 0, .slice none 0 0, .slice none 0 0]) (hb : Below w.heap.size w w2) (hz : w.heap.size + 4 ≤ w2.heap.size)
    (hx : Below w2.heap.size w2 wx) (h7 : NB wx g7 cY) (h8 : NB wx g8 cZ) (l7 : w2.heap.size ≤ g7) (l8 : w2.heap.size ≤ g8) (hB : w2.heap.size ≤ B) (oY : OwnN wx B ak1 av1 ac1 ck1 cv1 cc1 Y.ks Y.vs Y.cs) (oZ : OwnN wx B akb avb acb ckb cvb ccb Z.ks Z.vs Z.cs) : EvAt w wx g7 g8 cY cZ ak1 av1 ac1 akb avb acb ck1 cv1 cc1 ckb cvb ccb Y Z :=
  ⟨h7, h8, hl.below hx, hr.below hx, ⟨by omega, by omega⟩, oY.base (by omega), oZ.base (by omega), hb.trans (hx.mono hb.size)⟩
/-- Behind both calls. -/
structure EvBase (w w2 w6 : World) (ak1 av1 ac1 akb avb acb : Option Addr) (ck1 cv1 cc1 ckb cvb ccb : Nat) (Y Z : Nod) : Prop where
  l : NB w6 (w.heap.size + 2) #[.int .i64 0, .string ⟨#[]⟩, .string ⟨#[]⟩, .bool false, .int .i64 0, .slice none 0 0, .slice none 0 0, .slice none 0 0]
  r : NB w6 (w.heap.size + 3) #[.int .i64 0, .string ⟨#[]⟩, .string ⟨#[]⟩, .bool false, .int .i64 0, .slice none 0 0, .slice none 0 0, .slice none 0 0]
  b2 : Below w.heap.size w w2
  z2 : w.heap.size + 4 ≤ w2.heap.size
  b6 : Below w2.heap.size w2 w6
  oY : OwnN w6 (w.heap.size + 4) ak1 av1 ac1 ck1 cv1 cc1 Y.ks Y.vs Y.cs
  oZ : OwnN w6 (w.heap.size + 4) akb avb acb ckb cvb ccb Z.ks Z.vs Z.cs
theorem below8 {w W : World} {B a : Nat} {v0 v1 v2 v3 v4 v5 v6 v7 : Value} (h : Below B w W) (ha : B ≤ a) : Below B w ((((((((W.setCell ⟨a, 0, none⟩ v0).setCell ⟨a, 1, none⟩ v1).setCell ⟨a, 2, none⟩ v2).setCell ⟨a, 3, none⟩ v3).setCell ⟨a, 4, none⟩ v4).setCell ⟨a, 5, none⟩ v5).setCell ⟨a, 6, none⟩ v6).setCell ⟨a, 7, none⟩ v7) :=
  (((((((h.setCell ha v0).setCell ha v1).setCell ha v2).setCell ha v3).setCell ha v4).setCell ha v5).setCell ha v6).setCell ha v7
theorem size8 {W : World} {a : Nat} {v0 v1 v2 v3 v4 v5 v6 v7 : Value} : (((((((((W.setCell ⟨a, 0, none⟩ v0).setCell ⟨a, 1, none⟩ v1).setCell ⟨a, 2, none⟩ v2).setCell ⟨a, 3, none⟩ v3).setCell ⟨a, 4, none⟩ v4).setCell ⟨a, 5, none⟩ v5).setCell ⟨a, 6, none⟩ v6).setCell ⟨a, 7, none⟩ v7)).heap.size = W.heap.size := by simp [World.setCell]
theorem ev_ll78 {w w2 w6 : World} {ak1 av1 ac1 akb avb acb : Option Addr} {ck1 cv1 cc1 ckb cvb ccb : Nat} {Y Z : Nod} {y0 y1 y2 y3 y4 y5 y6 y7 z0 z1 z2 z3 z4 z5 z6 z7 : Value} (h : EvBase w w2 w6 ak1 av1 ac1 akb avb acb ck1 cv1 cc1 ckb cvb ccb Y Z) : EvAt w ((w6.alloc (.cells #[y0, y1, y2, y3, y4, y5, y6, y7] 26)).alloc (.cells #[z0, z1, z2, z3, z4, z5, z6, z7] 26)) w6.heap.size (w6.heap.size + 1) #[y0, y1, y2, y3, y4, y5, y6, y7] #[z0, z1, z2, z3, z4, z5, z6, z7] ak1 av1 ac1 akb avb acb ck1 cv1 cc1 ckb cvb ccb Y Z := by
  have hz := h.b6.size
  have h1 := boxed_below w6 (.cells #[y0, y1, y2, y3, y4, y5, y6, y7] 26)
  have h2 := boxed_below (w6.alloc (.cells #[y0, y1, y2, y3, y4, y5, y6, y7] 26)) (.cells #[z0, z1, z2, z3, z4, z5, z6, z7] 26)
  have h3 := h.z2
  refine ⟨nbAllocd (NB.new _ _) _, nbNew (by rw [World.size_alloc]), nbAllocd (nbAllocd h.l _) _, nbAllocd (nbAllocd h.r _) _, ⟨by omega, by omega⟩, ownAllocd (ownAllocd h.oY _) _, ownAllocd (ownAllocd h.oZ _) _, ?_⟩
  have hb : Below w.heap.size w w6 := h.b2.trans (h.b6.mono h.b2.size)
  exact (hb.alloc hb.size _).alloc (by rw [World.size_alloc]; have := hb.size; omega) _
theorem ev_ll87 {w w2 w6 : World} {ak1 av1 ac1 akb avb acb : Option Addr} {ck1 cv1 cc1 ckb cvb ccb : Nat} {Y Z : Nod} {y0 y1 y2 y3 y4 y5 y6 y7 z0 z1 z2 z3 z4 z5 z6 z7 : Value} (h : EvBase w w2 w6 ak1 av1 ac1 akb avb acb ck1 cv1 cc1 ckb cvb ccb Y Z) : EvAt w ((w6.alloc (.cells #[z0, z1, z2, z3, z4, z5, z6, z7] 26)).alloc (.cells #[y0, y1, y2, y3, y4, y5, y6, y7] 26)) (w6.heap.size + 1) w6.heap.size #[y0, y1, y2, y3, y4, y5, y6, y7] #[z0, z1, z2, z3, z4, z5, z6, z7] ak1 av1 ac1 akb avb acb ck1 cv1 cc1 ckb cvb ccb Y Z := by
  have hz := h.b6.size
  have h3 := h.z2
  refine ⟨nbNew (by rw [World.size_alloc]), nbAllocd (NB.new _ _) _, nbAllocd (nbAllocd h.l _) _, nbAllocd (nbAllocd h.r _) _, ⟨by omega, by omega⟩, ownAllocd (ownAllocd h.oY _) _, ownAllocd (ownAllocd h.oZ _) _, ?_⟩
  have hb : Below w.heap.size w w6 := h.b2.trans (h.b6.mono h.b2.size)
  exact (hb.alloc hb.size _).alloc (by rw [World.size_alloc]; have := hb.size; omega) _
theorem ev_el {w w2 w6 : World} {ak1 av1 ac1 akb avb acb : Option Addr} {ck1 cv1 cc1 ckb cvb ccb : Nat} {Y Z : Nod} {y0 y1 y2 y3 y4 y5 y6 y7 z0 z1 z2 z3 z4 z5 z6 z7 : Value} (h : EvBase w w2 w6 ak1 av1 ac1 akb avb acb ck1 cv1 cc1 ckb cvb ccb Y Z) {g7 : Nat} (h7 : NB w6 g7 #[.int .i64 0, .string ⟨#[]⟩, .string ⟨#[]⟩, .bool false, .int .i64 0, .slice none 0 0, .slice none 0 0, .slice none 0 0]) (l7 : w2.heap.size ≤ g7) : EvAt w (((((((((w6.setCell ⟨g7, 0, none⟩ y0).setCell ⟨g7, 1, none⟩ y1).setCell ⟨g7, 2, none⟩ y2).setCell ⟨g7, 3, none⟩ y3).setCell ⟨g7, 4, none⟩ y4).setCell ⟨g7, 5, none⟩ y5).setCell ⟨g7, 6, none⟩ y6).setCell ⟨g7, 7, none⟩ y7).alloc (.cells #[z0, z1, z2, z3, z4, z5, z6, z7] 26)) g7 w6.heap.size #[y0, y1, y2, y3, y4, y5, y6, y7] #[z0, z1, z2, z3, z4, z5, z6, z7] ak1 av1 ac1 akb avb acb ck1 cv1 cc1 ckb cvb ccb Y Z := by
  have hz := h.b6.size
  have h3 := h.z2
  have hlt := lt_of_block h7
  have hb : Below w.heap.size w w6 := h.b2.trans (h.b6.mono h.b2.size)
  have hb8 : Below w.heap.size w ((((((((w6.setCell ⟨g7, 0, none⟩ y0).setCell ⟨g7, 1, none⟩ y1).setCell ⟨g7, 2, none⟩ y2).setCell ⟨g7, 3, none⟩ y3).setCell ⟨g7, 4, none⟩ y4).setCell ⟨g7, 5, none⟩ y5).setCell ⟨g7, 6, none⟩ y6).setCell ⟨g7, 7, none⟩ y7) := below8 hb (by have := h.b2.size; omega)
  refine ⟨nbAllocd (nbWr8 h7) _, nbNew (by rw [size8]), nbAllocd (nbFar8 h.l (by omega)) _, nbAllocd (nbFar8 h.r (by omega)) _, ⟨by omega, by omega⟩, ownAllocd (ownWr8 h.oY h7) _, ownAllocd (ownWr8 h.oZ h7) _, hb8.alloc hb8.size _⟩
theorem ev_le {w w2 w6 : World} {ak1 av1 ac1 akb avb acb : Option Addr} {ck1 cv1 cc1 ckb cvb ccb : Nat} {Y Z : Nod} {y0 y1 y2 y3 y4 y5 y6 y7 z0 z1 z2 z3 z4 z5 z6 z7 : Value} (h : EvBase w w2 w6 ak1 av1 ac1 akb avb acb ck1 cv1 cc1 ckb cvb ccb Y Z) {g8 : Nat} (h8 : NB w6 g8 #[.int .i64 0, .string ⟨#[]⟩, .string ⟨#[]⟩, .bool false, .int .i64 0, .slice none 0 0, .slice none 0 0, .slice none 0 0]) (l8 : w2.heap.size ≤ g8) : EvAt w (((((((((w6.setCell ⟨g8, 0, none⟩ z0).setCell ⟨g8, 1, none⟩ z1).setCell ⟨g8, 2, none⟩ z2).setCell ⟨g8, 3, none⟩ z3).setCell ⟨g8, 4, none⟩ z4).setCell ⟨g8, 5, none⟩ z5).setCell ⟨g8, 6, none⟩ z6).setCell ⟨g8, 7, none⟩ z7).alloc (.cells #[y0, y1, y2, y3, y4, y5, y6, y7] 26)) w6.heap.size g8 #[y0, y1, y2, y3, y4, y5, y6, y7] #[z0, z1, z2, z3, z4, z5, z6, z7] ak1 av1 ac1 akb avb acb ck1 cv1 cc1 ckb cvb ccb Y Z := by
  have hz := h.b6.size
  have h3 := h.z2
  have hlt := lt_of_block h8
  have hb : Below w.heap.size w w6 := h.b2.trans (h.b6.mono h.b2.size)
  have hb8 : Below w.heap.size w ((((((((w6.setCell ⟨g8, 0, none⟩ z0).setCell ⟨g8, 1, none⟩ z1).setCell ⟨g8, 2, none⟩ z2).setCell ⟨g8, 3, none⟩ z3).setCell ⟨g8, 4, none⟩ z4).setCell ⟨g8, 5, none⟩ z5).setCell ⟨g8, 6, none⟩ z6).setCell ⟨g8, 7, none⟩ z7) := below8 hb (by have := h.b2.size; omega)
  refine ⟨nbNew (by rw [size8]), nbAllocd (nbWr8 h8) _, nbAllocd (nbFar8 h.l (by omega)) _, nbAllocd (nbFar8 h.r (by omega)) _, ⟨by omega, by omega⟩, ownAllocd (ownWr8 h.oY h8) _, ownAllocd (ownWr8 h.oZ h8) _, hb8.alloc hb8.size _⟩
theorem ev_ee {w w2 w6 : World} {ak1 av1 ac1 akb avb acb : Option Addr} {ck1 cv1 cc1 ckb cvb ccb : Nat} {Y Z : Nod} {y0 y1 y2 y3 y4 y5 y6 y7 z0 z1 z2 z3 z4 z5 z6 z7 : Value} (h : EvBase w w2 w6 ak1 av1 ac1 akb avb acb ck1 cv1 cc1 ckb cvb ccb Y Z) {g7 g8 : Nat} (h7 : NB w6 g7 #[.int .i64 0, .string ⟨#[]⟩, .string ⟨#[]⟩, .bool false, .int .i64 0, .slice none 0 0, .slice none 0 0, .slice none 0 0]) (h8 : NB w6 g8 #[.int .i64 0, .string ⟨#[]⟩, .string ⟨#[]⟩, .bool false, .int .i64 0, .slice none 0 0, .slice none 0 0, .slice none 0 0]) (l7 : w2.heap.size ≤ g7) (l8 : w2.heap.size ≤ g8) (hne : g7 ≠ g8) : EvAt w ((((((((((((((((w6.setCell ⟨g7, 0, none⟩ y0).setCell ⟨g7, 1, none⟩ y1).setCell ⟨g7, 2, none⟩ y2).setCell ⟨g7, 3, none⟩ y3).setCell ⟨g7, 4, none⟩ y4).setCell ⟨g7, 5, none⟩ y5).setCell ⟨g7, 6, none⟩ y6).setCell ⟨g7, 7, none⟩ y7).setCell ⟨g8, 0, none⟩ z0).setCell ⟨g8, 1, none⟩ z1).setCell ⟨g8, 2, none⟩ z2).setCell ⟨g8, 3, none⟩ z3).setCell ⟨g8, 4, none⟩ z4).setCell ⟨g8, 5, none⟩ z5).setCell ⟨g8, 6, none⟩ z6).setCell ⟨g8, 7, none⟩ z7) g7 g8 #[y0, y1, y2, y3, y4, y5, y6, y7] #[z0, z1, z2, z3, z4, z5, z6, z7] ak1 av1 ac1 akb avb acb ck1 cv1 cc1 ckb cvb ccb Y Z := by
  have hz := h.b6.size
  have h3 := h.z2
  have hb : Below w.heap.size w w6 := h.b2.trans (h.b6.mono h.b2.size)
  have hb2 := h.b2.size
  exact ⟨nbFar8 (nbWr8 h7) hne, nbWr8 (nbFar8 h8 (fun e => hne e.symm)), nbFar8 (nbFar8 h.l (by omega)) (by omega), nbFar8 (nbFar8 h.r (by omega)) (by omega), ⟨by omega, by omega⟩, ownWr8 (ownWr8 h.oY h7) (nbFar8 h8 (fun e => hne e.symm)), ownWr8 (ownWr8 h.oZ h7) (nbFar8 h8 (fun e => hne e.symm)), below8 (below8 hb (by omega)) (by omega)⟩

set_option maxHeartbeats 40000000 in
set_option maxRecDepth 100000 in
theorem reven_of (lv nx : Int) (lo hi : ByteArray) (la : Bool) (ak av ac : Option Addr) (ck cv cc : Nat) (lv2 nx2 : Int) (lo2 hi2 : ByteArray) (la2 : Bool) (ak2 av2 ac2 : Option Addr) (ck2 cv2 cc2 : Nat) (ks : List ByteArray) (vs : List Nat) (cs : List Int) (ks2 : List ByteArray) (vs2 : List Nat) (cs2 : List Int) (b : Bool) (w : World) (hN : NdAt w ak av ac ks.length ck vs.length cv cs.length cc ks vs cs) (hM : NdAt w ak2 av2 ac2 ks2.length ck2 vs2.length cv2 cs2.length cc2 ks2 vs2 cs2) (hf : Fit lo hi ks ks.length vs.length cs.length) (hg : Fit lo2 hi2 ks2 ks2.length vs2.length cs2.length)
    (hs : ks.length + ks2.length ≤ 200000 ∧ vs.length + vs2.length ≤ 200000 ∧ cs.length + cs2.length ≤ 200000) (hb : b = true ↔ (⟨lv, nx, lo, hi, la, ks, vs, cs⟩ : Nod).EvenP (⟨lv2, nx2, lo2, hi2, la2, ks2, vs2, cs2⟩ : Nod)) :
    Calls Try.prog 20 #[.agg #[.int .i64 lv, .string lo, .string hi, .bool la, .int .i64 nx, .slice ak ks.length ck, .slice av vs.length cv, .slice ac cs.length cc], .agg #[.int .i64 lv2, .string lo2, .string hi2, .bool la2, .int .i64 nx2, .slice ak2 ks2.length ck2, .slice av2 vs2.length cv2, .slice ac2 cs2.length cc2]] w fun e w' => GaveTwoD w w' e b (Nod.or b (Nod.left ((⟨lv, nx, lo, hi, la, ks, vs, cs⟩ : Nod).both (⟨lv2, nx2, lo2, hi2, la2, ks2, vs2, cs2⟩ : Nod)) nx)) (Nod.or b (Nod.right ((⟨lv, nx, lo, hi, la, ks, vs, cs⟩ : Nod).both (⟨lv2, nx2, lo2, hi2, la2, ks2, vs2, cs2⟩ : Nod)))) := by
  obtain ⟨w1, hw1, n1, n2, n3, n4, hB, hsz⟩ := boxes4 w #[.int .i64 lv, .string lo, .string hi, .bool la, .int .i64 nx, .slice ak ks.length ck, .slice av vs.length cv, .slice ac cs.length cc] #[.int .i64 lv2, .string lo2, .string hi2, .bool la2, .int .i64 nx2, .slice ak2 ks2.length ck2, .slice av2 vs2.length cv2, .slice ac2 cs2.length cc2] #[.int .i64 0, .string ⟨#[]⟩, .string ⟨#[]⟩, .bool false, .int .i64 0, .slice none 0 0, .slice none 0 0, .slice none 0 0] #[.int .i64 0, .string ⟨#[]⟩, .string ⟨#[]⟩, .bool false, .int .i64 0, .slice none 0 0, .slice none 0 0, .slice none 0 0]
  have HW1 := Lib.hid hw1
  have HN1 := Lib.hid n1
  have HN2 := Lib.hid n2
  have HN3 := Lib.hid n3
  have HN4 := Lib.hid n4
  have HB1 := Lib.hid hB
  have HSZ := Lib.hid hsz
  obtain ⟨l, hl⟩ := bool_or ((⟨lv, nx, lo, hi, la, ks, vs, cs⟩ : Nod).NbP (⟨lv2, nx2, lo2, hi2, la2, ks2, vs2, cs2⟩ : Nod))
  have HNB := Lib.hid (rnb_of lv nx lo hi la ak av ac ck cv cc lv2 nx2 lo2 hi2 la2 ak2 av2 ac2 ck2 cv2 cc2 ks vs cs ks2 vs2 cs2 l w1 (hN.keep hB) (hM.keep hB) hf hg hl)
  have HND := Lib.hid hN
  have HMD := Lib.hid hM
  have HSS := Lib.hid hs
  have HLL := Lib.hid hl
  have HBB := Lib.hid hb
  obtain ⟨X, hX⟩ : ∃ X, X = (⟨lv, nx, lo, hi, la, ks, vs, cs⟩ : Nod).both (⟨lv2, nx2, lo2, hi2, la2, ks2, vs2, cs2⟩ : Nod) := ⟨_, rfl⟩
  have HXX := Lib.hid hX
  have HXS : Hid ((∀ x ∈ X.ks, x.size ≤ 140737488355328) ∧ X.ks.length = ks.length + ks2.length) := Lib.hid (by
    subst hX
    refine ⟨fun x hx => ?_, ?_⟩
    · rcases List.mem_append.1 (show x ∈ ks ++ ks2 from hx) with h | h
      · exact hf.ks x h
      · exact hg.ks x h
    · exact List.length_append)
  have hsum : (ks.length : Int) + (ks2.length : Int) ≤ 200000 := by omega
  have HXR : Hid ((⟨lv, nx, lo, hi, la, ks, vs, cs⟩ : Nod).NbP (⟨lv2, nx2, lo2, hi2, la2, ks2, vs2, cs2⟩ : Nod) → (X.Sound 400000 ∧ Rises X.ks)) := Lib.hid (fun h => by subst hX; exact ⟨h.both_sound (by have := hs.1; simp only; omega), h.rise⟩)
  rw [← hX]
  obtain ⟨Y, hY⟩ : ∃ Y, Y = Nod.or b (Nod.left X nx) := ⟨_, rfl⟩
  obtain ⟨Z, hZ⟩ : ∃ Z, Z = Nod.or b (Nod.right X) := ⟨_, rfl⟩
  rw [← hY, ← hZ]
  have HYY := Lib.hid hY
  have HZZ := Lib.hid hZ
  obtain ⟨q0, q1, q2, q3, q4, q5, q6, q7⟩ := n1.cells
  obtain ⟨p0, p1, p2, p3, p4, p5, p6, p7⟩ := n2.cells
  clear hN hM hf hg hs hb hl n1 n2 n3 n4 hB hw1 hX hsz hY hZ
  go_enter Try.func20, Try.ntmps20
  go_wp2_with fail
  rw [← HW1.out]
  refine HNB.out.mono ?_
  rintro e w2 ⟨rfl, hb2⟩
  have HA := Lib.hid (HN1.out.below hb2)
  have HBX := Lib.hid (HN2.out.below hb2)
  have HL2 := Lib.hid (HN3.out.below hb2)
  have HR2 := Lib.hid (HN4.out.below hb2)
  have HB2 := Lib.hid (HB1.out.trans (hb2.mono HB1.out.size))
  have HZ2 : Hid (w.heap.size + 4 ≤ w2.heap.size) := Lib.hid (by have := hb2.size; have := HSZ.out; omega)
  clear hb2 q0 q1 q2 q3 q4 q5 q6 q7 p0 p1 p2 p3 p4 p5 p6 p7 HNB HW1 HN1 HN2 HN3 HN4
  cases l with
  | false =>
    have HF : Hid (b = false) := Lib.hid (bool_no HBB.out (fun h => by have := HLL.out.2 h.1; cases this))
    obtain ⟨t0, t1, t2, t3, t4, t5, t6, t7⟩ := HL2.out.cells
    obtain ⟨u0, u1, u2, u3, u4, u5, u6, u7⟩ := HR2.out.cells
    have f0 := HL2.out.frozen 0
    have f1 := HL2.out.frozen 1
    have f2 := HL2.out.frozen 2
    have f3 := HL2.out.frozen 3
    have f4 := HL2.out.frozen 4
    have f5 := HL2.out.frozen 5
    have f6 := HL2.out.frozen 6
    have f7 := HL2.out.frozen 7
    have g0 := HR2.out.frozen 0
    have g1 := HR2.out.frozen 1
    have g2 := HR2.out.frozen 2
    have g3 := HR2.out.frozen 3
    have g4 := HR2.out.frozen 4
    have g5 := HR2.out.frozen 5
    have g6 := HR2.out.frozen 6
    have g7 := HR2.out.frozen 7
    go_wp2
    refine bodyPost_ret (v := .tuple #[.agg #[.int .i64 0, .string ⟨#[]⟩, .string ⟨#[]⟩, .bool false, .int .i64 0, .slice none 0 0, .slice none 0 0, .slice none 0 0], .agg #[.int .i64 0, .string ⟨#[]⟩, .string ⟨#[]⟩, .bool false, .int .i64 0, .slice none 0 0, .slice none 0 0, .slice none 0 0], .bool false]) (by simp [results, Try.results20, go_sem, *]) rfl ?_
    rw [HYY.out, HZZ.out, HF.out]
    exact GaveTwo.d (gaveTwo_none (wr5_below (w.heap.size + 3) w.heap.size (by omega) [(0, _), (1, _), (2, _), (3, _), (4, _), (5, _), (6, _), (7, _)] w _ (wr5_below (w.heap.size + 2) w.heap.size (by omega) [(0, _), (1, _), (2, _), (3, _), (4, _), (5, _), (6, _), (7, _)] w _ HB2.out)))
  | true =>
  have HNP := Lib.hid (HLL.out.1 rfl)
  obtain ⟨q0, q1, q2, q3, q4, q5, q6, q7⟩ := HA.out.cells
  obtain ⟨p0, p1, p2, p3, p4, p5, p6, p7⟩ := HBX.out.cells
  by_cases h2 : (ks.length : Int) + (ks2.length : Int) < 2
  · have HF : Hid (b = false) := Lib.hid (bool_no HBB.out (fun h => by have := h.2; simp only at this; omega))
    obtain ⟨t0, t1, t2, t3, t4, t5, t6, t7⟩ := HL2.out.cells
    obtain ⟨u0, u1, u2, u3, u4, u5, u6, u7⟩ := HR2.out.cells
    have f0 := HL2.out.frozen 0
    have f1 := HL2.out.frozen 1
    have f2 := HL2.out.frozen 2
    have f3 := HL2.out.frozen 3
    have f4 := HL2.out.frozen 4
    have f5 := HL2.out.frozen 5
    have f6 := HL2.out.frozen 6
    have f7 := HL2.out.frozen 7
    have g0 := HR2.out.frozen 0
    have g1 := HR2.out.frozen 1
    have g2 := HR2.out.frozen 2
    have g3 := HR2.out.frozen 3
    have g4 := HR2.out.frozen 4
    have g5 := HR2.out.frozen 5
    have g6 := HR2.out.frozen 6
    have g7 := HR2.out.frozen 7
    go_wp2
    refine bodyPost_ret (v := .tuple #[.agg #[.int .i64 0, .string ⟨#[]⟩, .string ⟨#[]⟩, .bool false, .int .i64 0, .slice none 0 0, .slice none 0 0, .slice none 0 0], .agg #[.int .i64 0, .string ⟨#[]⟩, .string ⟨#[]⟩, .bool false, .int .i64 0, .slice none 0 0, .slice none 0 0, .slice none 0 0], .bool false]) (by simp [results, Try.results20, go_sem, *]) rfl ?_
    rw [HYY.out, HZZ.out, HF.out]
    exact GaveTwo.d (gaveTwo_none (wr5_below (w.heap.size + 3) w.heap.size (by omega) [(0, _), (1, _), (2, _), (3, _), (4, _), (5, _), (6, _), (7, _)] w _ (wr5_below (w.heap.size + 2) w.heap.size (by omega) [(0, _), (1, _), (2, _), (3, _), (4, _), (5, _), (6, _), (7, _)] w _ HB2.out)))
  have HT : Hid (b = true) := Lib.hid (HBB.out.2 ⟨HNP.out, by simp only; omega⟩)
  have HBT := Lib.hid (fun W (h : Below w.heap.size w W) => (by
    have e : lv = lv2 := HNP.out.level
    have h2 := both_any lv nx lo hi la ak av ac ck cv cc lv2 nx2 lo2 hi2 la2 ak2 av2 ac2 ck2 cv2 cc2 ks vs cs ks2 vs2 cs2 W (HND.out.keep h) (HMD.out.keep h) HSS.out
    rw [HXX.out]
    refine h2.mono fun e' W' hj => ?_
    unfold JoinG at hj ⊢
    unfold Nod.both
    rw [← e]
    exact hj : Calls Try.prog 73 #[.agg #[.int .i64 lv, .string lo, .string hi, .bool la, .int .i64 nx, .slice ak ks.length ck, .slice av vs.length cv, .slice ac cs.length cc], .agg #[.int .i64 lv2, .string lo2, .string hi2, .bool la2, .int .i64 nx2, .slice ak2 ks2.length ck2, .slice av2 vs2.length cv2, .slice ac2 cs2.length cc2]] W fun e w' => JoinG W w' e X))
  have HPT := Lib.hid (fun ak av ac ck cv cc W (h : NdAt W ak av ac X.ks.length ck X.vs.length cv X.cs.length cc X.ks X.vs X.cs) => part_of X.lv X.nx X.lo X.hi X.la ak av ac ck cv cc X.ks X.vs X.cs nx W h HXS.out.1 (by have := HXS.out.2; omega) (by have := HXS.out.2; omega) (HXR.out HNP.out).1.level.1 (rows_of (HXR.out HNP.out).1) (rises_nth (HXR.out HNP.out).2 (by have := HXS.out.2; unfold hlf; omega) (by have := HXS.out.2; unfold hlf; omega)))
  have hY : Y = Nod.left X nx := by rw [HYY.out, HT.out]; rfl
  have hZ : Z = Nod.right X := by rw [HZZ.out, HT.out]; rfl
  have HPT2 := Lib.hid (fun ak av ac ck cv cc W h => (by rw [hY, hZ]; exact HPT.out ak av ac ck cv cc W h : Calls Try.prog 59 #[.agg #[.int .i64 X.lv, .string X.lo, .string X.hi, .bool X.la, .int .i64 X.nx, .slice ak X.ks.length ck, .slice av X.vs.length cv, .slice ac X.cs.length cc], .int .i64 nx] W fun e w' => PartG W w' e Y Z))
  have HCC : Hid (∀ V, Below (w.heap.size + 2) w2 V → ((V.cell? ⟨w.heap.size, 0, none⟩ = some (.int .i64 lv) ∧ V.cell? ⟨w.heap.size, 1, none⟩ = some (.string lo) ∧ V.cell? ⟨w.heap.size, 2, none⟩ = some (.string hi) ∧ V.cell? ⟨w.heap.size, 3, none⟩ = some (.bool la) ∧ V.cell? ⟨w.heap.size, 4, none⟩ = some (.int .i64 nx) ∧ V.cell? ⟨w.heap.size, 5, none⟩ = some (.slice ak ks.length ck) ∧ V.cell? ⟨w.heap.size, 6, none⟩ = some (.slice av vs.length cv) ∧ V.cell? ⟨w.heap.size, 7, none⟩ = some (.slice ac cs.length cc)) ∧ (V.cell? ⟨w.heap.size + 1, 0, none⟩ = some (.int .i64 lv2) ∧ V.cell? ⟨w.heap.size + 1, 1, none⟩ = some (.string lo2) ∧ V.cell? ⟨w.heap.size + 1, 2, none⟩ = some (.string hi2) ∧ V.cell? ⟨w.heap.size + 1, 3, none⟩ = some (.bool la2) ∧ V.cell? ⟨w.heap.size + 1, 4, none⟩ = some (.int .i64 nx2) ∧ V.cell? ⟨w.heap.size + 1, 5, none⟩ = some (.slice ak2 ks2.length ck2) ∧ V.cell? ⟨w.heap.size + 1, 6, none⟩ = some (.slice av2 vs2.length cv2) ∧ V.cell? ⟨w.heap.size + 1, 7, none⟩ = some (.slice ac2 cs2.length cc2))) ∧ Below (w.heap.size + 2) w2 V) := Lib.hid (fun V hb => by
    have kA : NB V w.heap.size #[.int .i64 lv, .string lo, .string hi, .bool la, .int .i64 nx, .slice ak ks.length ck, .slice av vs.length cv, .slice ac cs.length cc] := (hb.block _ (by have := HZ2.out; omega)).trans HA.out
    have kB : NB V (w.heap.size + 1) #[.int .i64 lv2, .string lo2, .string hi2, .bool la2, .int .i64 nx2, .slice ak2 ks2.length ck2, .slice av2 vs2.length cv2, .slice ac2 cs2.length cc2] := (hb.block _ (by have := HZ2.out; omega)).trans HBX.out
    exact ⟨⟨kA.cells, kB.cells⟩, hb⟩)
  have hz2 : w.heap.size + 2 ≤ w2.heap.size := by have := HZ2.out; omega
  clear hY hZ HPT q0 q1 q2 q3 q4 q5 q6 q7 p0 p1 p2 p3 p4 p5 p6 p7
  obtain ⟨q0, q1, q2, q3, q4, q5, q6, q7⟩ := HA.out.cells
  obtain ⟨p0, p1, p2, p3, p4, p5, p6, p7⟩ := HBX.out.cells
  go_upto_region 3 with fail
  clear q0 q1 q2 q3 q4 q5 q6 q7 p0 p1 p2 p3 p4 p5 p6 p7
  go_cut [7, 8] (fun s7 s8 wx => Hid (∃ (g7 g8 : Nat) (ak1 av1 ac1 akb avb acb : Option Addr) (ck1 cv1 cc1 ckb cvb ccb : Nat), s7 = .pointer (some ⟨g7, 0, none⟩) ∧ s8 = .pointer (some ⟨g8, 0, none⟩) ∧ EvAt w wx g7 g8 #[.int .i64 Y.lv, .string Y.lo, .string Y.hi, .bool Y.la, .int .i64 Y.nx, .slice ak1 Y.ks.length ck1, .slice av1 Y.vs.length cv1, .slice ac1 Y.cs.length cc1] #[.int .i64 Z.lv, .string Z.lo, .string Z.hi, .bool Z.la, .int .i64 Z.nx, .slice akb Z.ks.length ckb, .slice avb Z.vs.length cvb, .slice acb Z.cs.length ccb] ak1 av1 ac1 akb avb acb ck1 cv1 cc1 ckb cvb ccb Y Z))
  case first =>
    rename_i J1 KX1 hJ1 hKX1
    have hS0 := HCC.out w2.drew (Below.refl _ _).drew
    go_region_held_law (fun V => ((V.cell? ⟨w.heap.size, 0, none⟩ = some (.int .i64 lv) ∧ V.cell? ⟨w.heap.size, 1, none⟩ = some (.string lo) ∧ V.cell? ⟨w.heap.size, 2, none⟩ = some (.string hi) ∧ V.cell? ⟨w.heap.size, 3, none⟩ = some (.bool la) ∧ V.cell? ⟨w.heap.size, 4, none⟩ = some (.int .i64 nx) ∧ V.cell? ⟨w.heap.size, 5, none⟩ = some (.slice ak ks.length ck) ∧ V.cell? ⟨w.heap.size, 6, none⟩ = some (.slice av vs.length cv) ∧ V.cell? ⟨w.heap.size, 7, none⟩ = some (.slice ac cs.length cc)) ∧ (V.cell? ⟨w.heap.size + 1, 0, none⟩ = some (.int .i64 lv2) ∧ V.cell? ⟨w.heap.size + 1, 1, none⟩ = some (.string lo2) ∧ V.cell? ⟨w.heap.size + 1, 2, none⟩ = some (.string hi2) ∧ V.cell? ⟨w.heap.size + 1, 3, none⟩ = some (.bool la2) ∧ V.cell? ⟨w.heap.size + 1, 4, none⟩ = some (.int .i64 nx2) ∧ V.cell? ⟨w.heap.size + 1, 5, none⟩ = some (.slice ak2 ks2.length ck2) ∧ V.cell? ⟨w.heap.size + 1, 6, none⟩ = some (.slice av2 vs2.length cv2) ∧ V.cell? ⟨w.heap.size + 1, 7, none⟩ = some (.slice ac2 cs2.length cc2))) ∧ Below (w.heap.size + 2) w2 V)
      (first | (with_reducible exact hS0) | (with_reducible exact hS5) | (with_reducible exact hS6) | ((with_reducible refine HCC.out _ ?_); repeat' (first | (with_reducible assumption) | (with_reducible exact hB5m) | (with_reducible exact hB6m) | (with_reducible exact Below.refl _ _) | (with_reducible refine Below.drew ?_) | (with_reducible refine Below.alloc ?_ ?_ _) | (with_reducible refine Below.setCell ?_ ?_ _) | omega | (simp <;> omega))))
      (first
        | (go_at_call 73; (with_reducible refine (HBT.out _ (HB2.out.trans (Below.mono (And.right (by assumption) : Below (w.heap.size + 2) w2 _) (Nat.le_add_right _ 2)))).mono ?_); rintro e w5 ⟨ak5, av5, ac5, ck5, cv5, cc5, rfl, hnd5, hb5, _⟩; have hB5m : Below (w.heap.size + 2) w2 w5 := below_onJ (And.right (by assumption)) hz2 hb5; have hS5 := HCC.out _ hB5m; have hz5 := hb5.size; have hz25 := hB5m.size; (try simp at hz5); obtain ⟨hc5, hf5⟩ := bcell hb5; (first | (have hx1 : w2.heap.size < w5.heap.size := by omega) | skip); (first | (have hx2 : w2.heap.size + 1 < w5.heap.size := by omega) | skip))
        | (go_at_call 59; (with_reducible refine (HPT2.out _ _ _ _ _ _ _ (hnd5.keep (by repeat' (first | (with_reducible exact Below.refl _ _) | (with_reducible refine Below.alloc ?_ ?_ _) | omega | (simp <;> omega))))).mono ?_); rintro e w6 ⟨ak1, av1, ac1, akb, avb, acb, ck1, cv1, cc1, ckb, cvb, ccb, rfl, oY, oZ, hb6⟩; have hB6m : Below (w.heap.size + 2) w2 w6 := below_onJ (And.right (by assumption)) hz2 hb6; have hS6 := HCC.out _ hB6m; have hz6 := hb6.size; (try simp at hz6); obtain ⟨hc6, hf6⟩ := bcell hb6; (first | (have hx3 : w5.heap.size < w6.heap.size := by omega) | skip); (first | (have hx4 : w5.heap.size + 1 < w6.heap.size := by omega) | skip); (first | (have hx5 : w2.heap.size < w6.heap.size := by omega) | skip); (first | (have hx6 : w2.heap.size + 1 < w6.heap.size := by omega) | skip)))
    all_goals
      clear hc5 hf5 hc6 hf6
      refine hKX1 _ _ (Met.intro (hJ1 _ _ ?_))
      (repeat apply Exists.intro)
      refine ⟨?_, rfl⟩
      refine Lib.hid ⟨_, _, ak1, av1, ac1, akb, avb, acb, ck1, cv1, cc1, ckb, cvb, ccb, rfl, rfl, ?_⟩
      have hB26 : Below w2.heap.size w2 w6 := by
        repeat' (first | (with_reducible exact Below.refl _ _) | (with_reducible refine below_onJ ?_ (Nat.le_refl _) hb6) | (with_reducible refine below_onJ ?_ (Nat.le_refl _) hb5) | (with_reducible refine Below.drew ?_) | (with_reducible refine Below.alloc ?_ ?_ _) | omega | (simp only [World.size_alloc] <;> omega) | (simp <;> omega))
      have hlo : w.heap.size + 4 ≤ w5.heap.size := by have := HZ2.out; omega
      have base : EvBase w w2 w6 ak1 av1 ac1 akb avb acb ck1 cv1 cc1 ckb cvb ccb Y Z :=
        ⟨HL2.out.below hB26, HR2.out.below hB26, HB2.out, HZ2.out, hB26, oY.base (by first | exact hlo | (simp only [World.size_alloc]; omega) | (simp <;> omega)), oZ.base (by first | exact hlo | (simp only [World.size_alloc]; omega) | (simp <;> omega))⟩
      clear oY oZ
      first
        | (with_reducible exact ev_ll78 base)
        | (with_reducible exact ev_ll87 base)
        | ((with_reducible refine ev_el base ?_ ?_) <;> (repeat' (first | (with_reducible exact NB.new _ _) | ((with_reducible refine nbNew ?_) <;> (first | (with_reducible rfl) | (simp; done))) | (with_reducible refine NB.below ?_ hb6) | (with_reducible refine NB.below ?_ hb5) | (with_reducible refine nbDrew ?_) | (with_reducible refine nbAllocd ?_ _) | omega)))
        | ((with_reducible refine ev_le base ?_ ?_) <;> (repeat' (first | (with_reducible exact NB.new _ _) | ((with_reducible refine nbNew ?_) <;> (first | (with_reducible rfl) | (simp; done))) | (with_reducible refine NB.below ?_ hb6) | (with_reducible refine NB.below ?_ hb5) | (with_reducible refine nbDrew ?_) | (with_reducible refine nbAllocd ?_ _) | omega)))
        | ((with_reducible refine ev_ee base ?_ ?_ ?_ ?_ ?_) <;> (repeat' (first | (with_reducible exact NB.new _ _) | ((with_reducible refine nbNew ?_) <;> (first | (with_reducible rfl) | (simp; done))) | (with_reducible refine NB.below ?_ hb6) | (with_reducible refine NB.below ?_ hb5) | (with_reducible refine nbDrew ?_) | (with_reducible refine nbAllocd ?_ _) | omega)))
  case rest =>
    obtain ⟨g7, g8, ak1, av1, ac1, akb, avb, acb, ck1, cv1, cc1, ckb, cvb, ccb, h7, h8, hE⟩ := hcut.out
    subst h7
    subst h8
    have HE := Lib.hid hE
    have HGE := Lib.hid hE.ge
    clear hcut hE HBT HPT2 HCC
    obtain ⟨y0, y1, y2, y3, y4, y5, y6, y7⟩ := HE.out.b7.cells
    obtain ⟨z0, z1, z2, z3, z4, z5, z6, z7⟩ := HE.out.b8.cells
    obtain ⟨t0, t1, t2, t3, t4, t5, t6, t7⟩ := HE.out.l.cells
    obtain ⟨u0, u1, u2, u3, u4, u5, u6, u7⟩ := HE.out.r.cells
    have f0 := HE.out.l.frozen 0
    have f1 := HE.out.l.frozen 1
    have f2 := HE.out.l.frozen 2
    have f3 := HE.out.l.frozen 3
    have f4 := HE.out.l.frozen 4
    have f5 := HE.out.l.frozen 5
    have f6 := HE.out.l.frozen 6
    have f7 := HE.out.l.frozen 7
    have r0 := HE.out.r.frozen 0
    have r1 := HE.out.r.frozen 1
    have r2 := HE.out.r.frozen 2
    have r3 := HE.out.r.frozen 3
    have r4 := HE.out.r.frozen 4
    have r5 := HE.out.r.frozen 5
    have r6 := HE.out.r.frozen 6
    have r7 := HE.out.r.frozen 7
    have n0 : g7 ≠ w.heap.size + 2 := by have := HGE.out; omega
    have m0 : w.heap.size + 2 ≠ g7 := fun e => n0 e.symm
    have n1 : g7 ≠ w.heap.size + 3 := by have := HGE.out; omega
    have m1 : w.heap.size + 3 ≠ g7 := fun e => n1 e.symm
    have n2 : g8 ≠ w.heap.size + 2 := by have := HGE.out; omega
    have m2 : w.heap.size + 2 ≠ g8 := fun e => n2 e.symm
    have n3 : g8 ≠ w.heap.size + 3 := by have := HGE.out; omega
    have m3 : w.heap.size + 3 ≠ g8 := fun e => n3 e.symm
    go_upto_region 4 with fail
    go_region
    all_goals
      go_wp2
      refine bodyPost_ret (v := .tuple #[.agg #[.int .i64 Y.lv, .string Y.lo, .string Y.hi, .bool Y.la, .int .i64 Y.nx, .slice ak1 Y.ks.length ck1, .slice av1 Y.vs.length cv1, .slice ac1 Y.cs.length cc1], .agg #[.int .i64 Z.lv, .string Z.lo, .string Z.hi, .bool Z.la, .int .i64 Z.nx, .slice akb Z.ks.length ckb, .slice avb Z.vs.length cvb, .slice acb Z.cs.length ccb], .bool true]) (by simp [results, Try.results20, go_sem, *]) rfl ?_
      rw [HT.out]
      (try rw [show w.heap.size + 1 + 1 + 1 = w.heap.size + 3 from rfl])
      (try rw [show w.heap.size + 1 + 1 = w.heap.size + 2 from rfl])
      refine ⟨ak1, av1, ac1, akb, avb, acb, ck1, cv1, cc1, ckb, cvb, ccb, rfl, OwnN.nd (B := w.heap.size + 4) ?_, OwnN.nd (B := w.heap.size + 4) ?_, ?_⟩
      · repeat' (first | (with_reducible exact HE.out.oY) | (with_reducible refine ownDrew ?_) | (with_reducible refine ownWr8 ?_ (nbFar8 HE.out.r ?_)) | (with_reducible refine ownWr8 ?_ (nbFar8 HE.out.l ?_)) | (with_reducible refine ownWr8 ?_ HE.out.l) | (with_reducible refine ownWr8 ?_ HE.out.r) | omega)
      · repeat' (first | (with_reducible exact HE.out.oZ) | (with_reducible refine ownDrew ?_) | (with_reducible refine ownWr8 ?_ (nbFar8 HE.out.r ?_)) | (with_reducible refine ownWr8 ?_ (nbFar8 HE.out.l ?_)) | (with_reducible refine ownWr8 ?_ HE.out.l) | (with_reducible refine ownWr8 ?_ HE.out.r) | omega)
      · repeat' (first | (with_reducible exact HE.out.below) | (with_reducible refine Below.drew ?_) | (with_reducible refine Below.setCell ?_ ?_ _) | omega | (simp <;> omega))
end Go.Proofs.Ytmkglaghnjnooaa

namespace Go.Proofs.Ytmkglaghnjnooaa
open Go.RowKit

theorem NewRow.wr8 {W0 W : World} {t : TypeId} {v : Value} {xs : List Value} {g : Nat} {ds : Array Value} {v0 v1 v2 v3 v4 v5 v6 v7 : Value} (h : NewRow W0 W t v xs) (hg : NB W g ds) (hne : 26 ≠ t) : NewRow W0 ((((((((W.setCell ⟨g, 0, none⟩ v0).setCell ⟨g, 1, none⟩ v1).setCell ⟨g, 2, none⟩ v2).setCell ⟨g, 3, none⟩ v3).setCell ⟨g, 4, none⟩ v4).setCell ⟨g, 5, none⟩ v5).setCell ⟨g, 6, none⟩ v6).setCell ⟨g, 7, none⟩ v7) t v xs := by
  rcases h with ⟨b, h1, h2, h3⟩ | h
  · refine Or.inl ⟨b, h1, h2, ?_⟩
    have hgb : b ≠ g := fun e => hg.other h3 hne e.symm
    have e := wr5_far g b hgb [(0, v0), (1, v1), (2, v2), (3, v3), (4, v4), (5, v5), (6, v6), (7, v7)] W
    simp only [wr5] at e
    unfold Whole
    rw [e]
    exact h3
  · exact Or.inr h
theorem clone_open {w w' : World} {e : Ending} {lv nx : Int} {lo hi : ByteArray} {la : Bool} {ks : List ByteArray} {vs : List Nat} {cs : List Int} (h : CloneGives w w' e lv nx lo hi la ks vs cs) :
    ∃ ko vo co, e = .returned (.agg #[.int .i64 lv, .string lo, .string hi, .bool la, .int .i64 nx, .slice ko ks.length ks.length, .slice vo vs.length vs.length, .slice co cs.length cs.length]) ∧ NewRow w w' 9 (.slice ko ks.length ks.length) (ks.map Value.string) ∧ NewRow w w' 51 (.slice vo vs.length vs.length) (vs.map uv) ∧ NewRow w w' 3 (.slice co cs.length cs.length) (cs.map (Value.int .i64)) ∧ Below w.heap.size w w' := by
  obtain ⟨kv, vv, cv, rfl, h1, h2, h3, hb⟩ := h
  obtain ⟨ko, rfl⟩ := h1.open
  obtain ⟨vo, rfl⟩ := h2.open
  obtain ⟨co, rfl⟩ := h3.open
  rw [List.length_map] at h1 h2 h3
  exact ⟨ko, vo, co, by rw [List.length_map, List.length_map, List.length_map], h1, h2, h3, hb⟩
/-- A clone's rows. -/
structure CRows (w0 W : World) (kv vv cv : Value) (X : Nod) : Prop where
  k : NewRow w0 W 9 kv (X.ks.map Value.string)
  v : NewRow w0 W 51 vv (X.vs.map uv)
  c : NewRow w0 W 3 cv (X.cs.map (Value.int .i64))
theorem CRows.keep {w0 W W' : World} {kv vv cv : Value} {X : Nod} (h : CRows w0 W kv vv cv X) (hb : Below W.heap.size W W') : CRows w0 W' kv vv cv X := ⟨h.k.keep hb, h.v.keep hb, h.c.keep hb⟩
theorem CRows.back {w0 w1 W : World} {kv vv cv : Value} {X : Nod} (h : CRows w1 W kv vv cv X) (hb : w0.heap.size ≤ w1.heap.size) : CRows w0 W kv vv cv X := ⟨h.k.back hb, h.v.back hb, h.c.back hb⟩
theorem CRows.wr8 {w0 W : World} {kv vv cv : Value} {X : Nod} {g : Nat} {ds : Array Value} {v0 v1 v2 v3 v4 v5 v6 v7 : Value} (h : CRows w0 W kv vv cv X) (hg : NB W g ds) : CRows w0 ((((((((W.setCell ⟨g, 0, none⟩ v0).setCell ⟨g, 1, none⟩ v1).setCell ⟨g, 2, none⟩ v2).setCell ⟨g, 3, none⟩ v3).setCell ⟨g, 4, none⟩ v4).setCell ⟨g, 5, none⟩ v5).setCell ⟨g, 6, none⟩ v6).setCell ⟨g, 7, none⟩ v7) kv vv cv X := ⟨h.k.wr8 hg (by decide), h.v.wr8 hg (by decide), h.c.wr8 hg (by decide)⟩
theorem CRows.allocd {w0 W : World} {kv vv cv : Value} {X : Nod} (h : CRows w0 W kv vv cv X) (o : Obj) : CRows w0 (W.alloc o) kv vv cv X := h.keep (boxed_below W o)
/-- Behind both clones. -/
structure CBase (w2 w6 : World) (k1 v1 c1 k2 v2 c2 : Value) (X Y : Nod) : Prop where
  b6 : Below w2.heap.size w2 w6
  x : CRows w2 w6 k1 v1 c1 X
  y : CRows w2 w6 k2 v2 c2 Y
/-- Both clones in boxes. -/
structure CAt (w2 wx : World) (g7 g8 : Nat) (cX cY : Array Value) (k1 v1 c1 k2 v2 c2 : Value) (X Y : Nod) : Prop where
  b7 : NB wx g7 cX
  b8 : NB wx g8 cY
  x : CRows w2 wx k1 v1 c1 X
  y : CRows w2 wx k2 v2 c2 Y
  below : Below w2.heap.size w2 wx
theorem cat_ll78 {w2 w6 : World} {k1 v1 c1 k2 v2 c2 : Value} {X Y : Nod} {y0 y1 y2 y3 y4 y5 y6 y7 z0 z1 z2 z3 z4 z5 z6 z7 : Value} (h : CBase w2 w6 k1 v1 c1 k2 v2 c2 X Y) : CAt w2 ((w6.alloc (.cells #[y0, y1, y2, y3, y4, y5, y6, y7] 26)).alloc (.cells #[z0, z1, z2, z3, z4, z5, z6, z7] 26)) w6.heap.size (w6.heap.size + 1) #[y0, y1, y2, y3, y4, y5, y6, y7] #[z0, z1, z2, z3, z4, z5, z6, z7] k1 v1 c1 k2 v2 c2 X Y := by
  have hb := h.b6
  exact ⟨nbAllocd (NB.new _ _) _, nbNew (by rw [World.size_alloc]), (h.x.allocd _).allocd _, (h.y.allocd _).allocd _, (hb.alloc hb.size _).alloc (by rw [World.size_alloc]; have := hb.size; omega) _⟩
theorem cat_ll87 {w2 w6 : World} {k1 v1 c1 k2 v2 c2 : Value} {X Y : Nod} {y0 y1 y2 y3 y4 y5 y6 y7 z0 z1 z2 z3 z4 z5 z6 z7 : Value} (h : CBase w2 w6 k1 v1 c1 k2 v2 c2 X Y) : CAt w2 ((w6.alloc (.cells #[z0, z1, z2, z3, z4, z5, z6, z7] 26)).alloc (.cells #[y0, y1, y2, y3, y4, y5, y6, y7] 26)) (w6.heap.size + 1) w6.heap.size #[y0, y1, y2, y3, y4, y5, y6, y7] #[z0, z1, z2, z3, z4, z5, z6, z7] k1 v1 c1 k2 v2 c2 X Y := by
  have hb := h.b6
  exact ⟨nbNew (by rw [World.size_alloc]), nbAllocd (NB.new _ _) _, (h.x.allocd _).allocd _, (h.y.allocd _).allocd _, (hb.alloc hb.size _).alloc (by rw [World.size_alloc]; have := hb.size; omega) _⟩
theorem cat_el {w2 w6 : World} {k1 v1 c1 k2 v2 c2 : Value} {X Y : Nod} {y0 y1 y2 y3 y4 y5 y6 y7 z0 z1 z2 z3 z4 z5 z6 z7 : Value} (h : CBase w2 w6 k1 v1 c1 k2 v2 c2 X Y) {g7 : Nat} (h7 : NB w6 g7 #[.int .i64 0, .string ⟨#[]⟩, .string ⟨#[]⟩, .bool false, .int .i64 0, .slice none 0 0, .slice none 0 0, .slice none 0 0]) (l7 : w2.heap.size ≤ g7) : CAt w2 (((((((((w6.setCell ⟨g7, 0, none⟩ y0).setCell ⟨g7, 1, none⟩ y1).setCell ⟨g7, 2, none⟩ y2).setCell ⟨g7, 3, none⟩ y3).setCell ⟨g7, 4, none⟩ y4).setCell ⟨g7, 5, none⟩ y5).setCell ⟨g7, 6, none⟩ y6).setCell ⟨g7, 7, none⟩ y7).alloc (.cells #[z0, z1, z2, z3, z4, z5, z6, z7] 26)) g7 w6.heap.size #[y0, y1, y2, y3, y4, y5, y6, y7] #[z0, z1, z2, z3, z4, z5, z6, z7] k1 v1 c1 k2 v2 c2 X Y := by
  have hb8 : Below w2.heap.size w2 ((((((((w6.setCell ⟨g7, 0, none⟩ y0).setCell ⟨g7, 1, none⟩ y1).setCell ⟨g7, 2, none⟩ y2).setCell ⟨g7, 3, none⟩ y3).setCell ⟨g7, 4, none⟩ y4).setCell ⟨g7, 5, none⟩ y5).setCell ⟨g7, 6, none⟩ y6).setCell ⟨g7, 7, none⟩ y7) := below8 h.b6 l7
  exact ⟨nbAllocd (nbWr8 h7) _, nbNew (by rw [size8]), (h.x.wr8 h7).allocd _, (h.y.wr8 h7).allocd _, hb8.alloc hb8.size _⟩
theorem cat_le {w2 w6 : World} {k1 v1 c1 k2 v2 c2 : Value} {X Y : Nod} {y0 y1 y2 y3 y4 y5 y6 y7 z0 z1 z2 z3 z4 z5 z6 z7 : Value} (h : CBase w2 w6 k1 v1 c1 k2 v2 c2 X Y) {g8 : Nat} (h8 : NB w6 g8 #[.int .i64 0, .string ⟨#[]⟩, .string ⟨#[]⟩, .bool false, .int .i64 0, .slice none 0 0, .slice none 0 0, .slice none 0 0]) (l8 : w2.heap.size ≤ g8) : CAt w2 (((((((((w6.setCell ⟨g8, 0, none⟩ z0).setCell ⟨g8, 1, none⟩ z1).setCell ⟨g8, 2, none⟩ z2).setCell ⟨g8, 3, none⟩ z3).setCell ⟨g8, 4, none⟩ z4).setCell ⟨g8, 5, none⟩ z5).setCell ⟨g8, 6, none⟩ z6).setCell ⟨g8, 7, none⟩ z7).alloc (.cells #[y0, y1, y2, y3, y4, y5, y6, y7] 26)) w6.heap.size g8 #[y0, y1, y2, y3, y4, y5, y6, y7] #[z0, z1, z2, z3, z4, z5, z6, z7] k1 v1 c1 k2 v2 c2 X Y := by
  have hb8 : Below w2.heap.size w2 ((((((((w6.setCell ⟨g8, 0, none⟩ z0).setCell ⟨g8, 1, none⟩ z1).setCell ⟨g8, 2, none⟩ z2).setCell ⟨g8, 3, none⟩ z3).setCell ⟨g8, 4, none⟩ z4).setCell ⟨g8, 5, none⟩ z5).setCell ⟨g8, 6, none⟩ z6).setCell ⟨g8, 7, none⟩ z7) := below8 h.b6 l8
  exact ⟨nbNew (by rw [size8]), nbAllocd (nbWr8 h8) _, (h.x.wr8 h8).allocd _, (h.y.wr8 h8).allocd _, hb8.alloc hb8.size _⟩
theorem cat_ee {w2 w6 : World} {k1 v1 c1 k2 v2 c2 : Value} {X Y : Nod} {y0 y1 y2 y3 y4 y5 y6 y7 z0 z1 z2 z3 z4 z5 z6 z7 : Value} (h : CBase w2 w6 k1 v1 c1 k2 v2 c2 X Y) {g7 g8 : Nat} (h7 : NB w6 g7 #[.int .i64 0, .string ⟨#[]⟩, .string ⟨#[]⟩, .bool false, .int .i64 0, .slice none 0 0, .slice none 0 0, .slice none 0 0]) (h8 : NB w6 g8 #[.int .i64 0, .string ⟨#[]⟩, .string ⟨#[]⟩, .bool false, .int .i64 0, .slice none 0 0, .slice none 0 0, .slice none 0 0]) (l7 : w2.heap.size ≤ g7) (l8 : w2.heap.size ≤ g8) (hne : g7 ≠ g8) : CAt w2 ((((((((((((((((w6.setCell ⟨g7, 0, none⟩ y0).setCell ⟨g7, 1, none⟩ y1).setCell ⟨g7, 2, none⟩ y2).setCell ⟨g7, 3, none⟩ y3).setCell ⟨g7, 4, none⟩ y4).setCell ⟨g7, 5, none⟩ y5).setCell ⟨g7, 6, none⟩ y6).setCell ⟨g7, 7, none⟩ y7).setCell ⟨g8, 0, none⟩ z0).setCell ⟨g8, 1, none⟩ z1).setCell ⟨g8, 2, none⟩ z2).setCell ⟨g8, 3, none⟩ z3).setCell ⟨g8, 4, none⟩ z4).setCell ⟨g8, 5, none⟩ z5).setCell ⟨g8, 6, none⟩ z6).setCell ⟨g8, 7, none⟩ z7) g7 g8 #[y0, y1, y2, y3, y4, y5, y6, y7] #[z0, z1, z2, z3, z4, z5, z6, z7] k1 v1 c1 k2 v2 c2 X Y :=
  ⟨nbFar8 (nbWr8 h7) hne, nbWr8 (nbFar8 h8 (fun e => hne e.symm)), (h.x.wr8 h7).wr8 (nbFar8 h8 (fun e => hne e.symm)), (h.y.wr8 h7).wr8 (nbFar8 h8 (fun e => hne e.symm)), below8 (below8 h.b6 l7) l8⟩

set_option maxHeartbeats 40000000 in
set_option maxRecDepth 100000 in
theorem halveJoins_any (lv nx : Int) (lo hi : ByteArray) (la : Bool) (ak av ac : Option Addr) (ck cv cc : Nat) (lv2 nx2 : Int) (lo2 hi2 : ByteArray) (la2 : Bool) (ak2 av2 ac2 : Option Addr) (ck2 cv2 cc2 : Nat) (ks : List ByteArray) (vs : List Nat) (cs : List Int) (ks2 : List ByteArray) (vs2 : List Nat) (cs2 : List Int) (fan : Int) (w : World) (hN : NdAt w ak av ac ks.length ck vs.length cv cs.length cc ks vs cs) (hM : NdAt w ak2 av2 ac2 ks2.length ck2 vs2.length cv2 cs2.length cc2 ks2 vs2 cs2) :
    Calls Try.prog 4 #[.agg #[.int .i64 lv, .string lo, .string hi, .bool la, .int .i64 nx, .slice ak ks.length ck, .slice av vs.length cv, .slice ac cs.length cc], .agg #[.int .i64 lv2, .string lo2, .string hi2, .bool la2, .int .i64 nx2, .slice ak2 ks2.length ck2, .slice av2 vs2.length cv2, .slice ac2 cs2.length cc2], .int .i64 fan] w fun e w' => e = .returned (.bool true) ∧ Below w.heap.size w w' := by
  obtain ⟨n1, n2, hB⟩ := boxes2 w #[.int .i64 lv, .string lo, .string hi, .bool la, .int .i64 nx, .slice ak ks.length ck, .slice av vs.length cv, .slice ac cs.length cc] #[.int .i64 lv2, .string lo2, .string hi2, .bool la2, .int .i64 nx2, .slice ak2 ks2.length ck2, .slice av2 vs2.length cv2, .slice ac2 cs2.length cc2]
  obtain ⟨w1, hw1⟩ : ∃ w1, w1 = (w.alloc (.cells #[.int .i64 lv, .string lo, .string hi, .bool la, .int .i64 nx, .slice ak ks.length ck, .slice av vs.length cv, .slice ac cs.length cc] 26)).alloc (.cells #[.int .i64 lv2, .string lo2, .string hi2, .bool la2, .int .i64 nx2, .slice ak2 ks2.length ck2, .slice av2 vs2.length cv2, .slice ac2 cs2.length cc2] 26) := ⟨_, rfl⟩
  rw [← hw1] at n1 n2 hB
  have HB := Lib.hid hB
  have HN1 := Lib.hid n1
  have HN2 := Lib.hid n2
  have HND := Lib.hid (hN.keep hB)
  have HMD := Lib.hid (hM.keep hB)
  have HW1 := Lib.hid hw1
  have HL1 := Lib.hid (nlight_any lv nx lo hi la ak av ac ks.length ck vs.length cv cs.length cc ks w1 HND.out.k (by have := rd_len hN.v; omega) (by have := rd_len hN.c; omega))
  have HL2 := Lib.hid (fun W (h : Below w1.heap.size w1 W) => nlight_any lv2 nx2 lo2 hi2 la2 ak2 av2 ac2 ks2.length ck2 vs2.length cv2 cs2.length cc2 ks2 W (HMD.out.keep h).k (by have := rd_len hM.v; omega) (by have := rd_len hM.c; omega))
  have HLV := Lib.hid lives13_any
  obtain ⟨q0, q1, q2, q3, q4, q5, q6, q7⟩ := n1.cells
  obtain ⟨p0, p1, p2, p3, p4, p5, p6, p7⟩ := n2.cells
  clear hN hM hw1 n1 n2 hB
  go_enter Try.func4, Try.ntmps4
  go_wp2_with fail
  rw [← HW1.out]
  refine HL1.out.mono ?_
  rintro e wa ⟨r, rfl, hr, hba⟩
  have HP := Lib.hid hr
  have HBA := Lib.hid hba
  have HA := Lib.hid (HN1.out.below hba)
  have HBX := Lib.hid (HN2.out.below hba)
  clear hr hba q0 q1 q2 q3 q4 q5 q6 q7 p0 p1 p2 p3 p4 p5 p6 p7 HL1 HW1
  obtain ⟨p0, p1, p2, p3, p4, p5, p6, p7⟩ := HBX.out.cells
  cases r with
  | false =>
    have HE := Lib.hid (HB.out.trans (HBA.out.mono HB.out.size))
    go_wp2_with fail
    refine (HLV.out _).mono ?_
    rintro e wl ⟨rfl, hbl⟩
    have HBL := Lib.hid (HE.out.trans (hbl.mono HE.out.size))
    clear hbl
    go_wp2
    go_ret
    exact ⟨rfl, HBL.out⟩
  | true =>
  go_wp2_with fail
  refine (HL2.out _ HBA.out).mono ?_
  rintro e w2 ⟨r2, rfl, hr2, hb2⟩
  have HP2 := Lib.hid hr2
  have HB12 := Lib.hid (HBA.out.trans (hb2.mono HBA.out.size))
  have HA2 := Lib.hid (HA.out.below hb2)
  have HBX2 := Lib.hid (HBX.out.below hb2)
  clear hr2 hb2 p0 p1 p2 p3 p4 p5 p6 p7 HL2 HA HBX
  cases r2 with
  | false =>
    have HE := Lib.hid (HB.out.trans (HB12.out.mono HB.out.size))
    go_wp2_with fail
    refine (HLV.out _).mono ?_
    rintro e wl ⟨rfl, hbl⟩
    have HBL := Lib.hid (HE.out.trans (hbl.mono HE.out.size))
    clear hbl
    go_wp2
    go_ret
    exact ⟨rfl, HBL.out⟩
  | true =>
  have HLP := Lib.hid ((by first | exact HP.out.1 rfl | exact HP.out.1 trivial))
  have HLP2 := Lib.hid ((by first | exact HP2.out.1 rfl | exact HP2.out.1 trivial))
  have HFT := Lib.hid (fit_light13 HLP.out)
  have HFT2 := Lib.hid (fit_light13 HLP2.out)
  have HZ : Hid (ks.length ≤ 200 ∧ vs.length ≤ 200 ∧ cs.length ≤ 200) := Lib.hid (by have := HLP.out.n; omega)
  have HZ2 : Hid (ks2.length ≤ 200 ∧ vs2.length ≤ 200 ∧ cs2.length ≤ 200) := Lib.hid (by have := HLP2.out.n; omega)
  have HC1 := Lib.hid (fun W (h : Below w2.heap.size w2 W) => nclone_any lv nx lo hi la ak av ac ks.length ck vs.length cv cs.length cc ks vs cs W (HND.out.keep (HB12.out.trans (h.mono HB12.out.size))) (by have := HZ.out; omega) |>.mono (fun e w' g => clone_open g))
  have HC2 := Lib.hid (fun W (h : Below w2.heap.size w2 W) => nclone_any lv2 nx2 lo2 hi2 la2 ak2 av2 ac2 ks2.length ck2 vs2.length cv2 cs2.length cc2 ks2 vs2 cs2 W (HMD.out.keep (HB12.out.trans (h.mono HB12.out.size))) (by have := HZ2.out; omega) |>.mono (fun e w' g => clone_open g))
  have HCC : Hid (∀ V, Below w2.heap.size w2 V → ((V.cell? ⟨w.heap.size, 0, none⟩ = some (.int .i64 lv) ∧ V.cell? ⟨w.heap.size, 1, none⟩ = some (.string lo) ∧ V.cell? ⟨w.heap.size, 2, none⟩ = some (.string hi) ∧ V.cell? ⟨w.heap.size, 3, none⟩ = some (.bool la) ∧ V.cell? ⟨w.heap.size, 4, none⟩ = some (.int .i64 nx) ∧ V.cell? ⟨w.heap.size, 5, none⟩ = some (.slice ak ks.length ck) ∧ V.cell? ⟨w.heap.size, 6, none⟩ = some (.slice av vs.length cv) ∧ V.cell? ⟨w.heap.size, 7, none⟩ = some (.slice ac cs.length cc)) ∧ (V.cell? ⟨w.heap.size + 1, 0, none⟩ = some (.int .i64 lv2) ∧ V.cell? ⟨w.heap.size + 1, 1, none⟩ = some (.string lo2) ∧ V.cell? ⟨w.heap.size + 1, 2, none⟩ = some (.string hi2) ∧ V.cell? ⟨w.heap.size + 1, 3, none⟩ = some (.bool la2) ∧ V.cell? ⟨w.heap.size + 1, 4, none⟩ = some (.int .i64 nx2) ∧ V.cell? ⟨w.heap.size + 1, 5, none⟩ = some (.slice ak2 ks2.length ck2) ∧ V.cell? ⟨w.heap.size + 1, 6, none⟩ = some (.slice av2 vs2.length cv2) ∧ V.cell? ⟨w.heap.size + 1, 7, none⟩ = some (.slice ac2 cs2.length cc2))) ∧ Below w2.heap.size w2 V) := Lib.hid (fun V hb => ⟨⟨(HA2.out.below hb).cells, (HBX2.out.below hb).cells⟩, hb⟩)
  clear HP HP2
  obtain ⟨q0, q1, q2, q3, q4, q5, q6, q7⟩ := HA2.out.cells
  obtain ⟨p0, p1, p2, p3, p4, p5, p6, p7⟩ := HBX2.out.cells
  go_upto_region 3 with fail
  clear q0 q1 q2 q3 q4 q5 q6 q7 p0 p1 p2 p3 p4 p5 p6 p7
  go_cut [7, 8] (fun s7 s8 wx => Hid (∃ (g7 g8 : Nat) (ko vo co ko2 vo2 co2 : Option Addr), s7 = .pointer (some ⟨g7, 0, none⟩) ∧ s8 = .pointer (some ⟨g8, 0, none⟩) ∧ CAt w2 wx g7 g8 #[.int .i64 lv, .string lo, .string hi, .bool la, .int .i64 nx, .slice ko ks.length ks.length, .slice vo vs.length vs.length, .slice co cs.length cs.length] #[.int .i64 lv2, .string lo2, .string hi2, .bool la2, .int .i64 nx2, .slice ko2 ks2.length ks2.length, .slice vo2 vs2.length vs2.length, .slice co2 cs2.length cs2.length] (.slice ko ks.length ks.length) (.slice vo vs.length vs.length) (.slice co cs.length cs.length) (.slice ko2 ks2.length ks2.length) (.slice vo2 vs2.length vs2.length) (.slice co2 cs2.length cs2.length) ⟨lv, nx, lo, hi, la, ks, vs, cs⟩ ⟨lv2, nx2, lo2, hi2, la2, ks2, vs2, cs2⟩))
  case first =>
    rename_i J1 KX1 hJ1 hKX1
    have hS0 := HCC.out w2.drew (Below.refl _ _).drew
    go_region_held_law (fun V => ((V.cell? ⟨w.heap.size, 0, none⟩ = some (.int .i64 lv) ∧ V.cell? ⟨w.heap.size, 1, none⟩ = some (.string lo) ∧ V.cell? ⟨w.heap.size, 2, none⟩ = some (.string hi) ∧ V.cell? ⟨w.heap.size, 3, none⟩ = some (.bool la) ∧ V.cell? ⟨w.heap.size, 4, none⟩ = some (.int .i64 nx) ∧ V.cell? ⟨w.heap.size, 5, none⟩ = some (.slice ak ks.length ck) ∧ V.cell? ⟨w.heap.size, 6, none⟩ = some (.slice av vs.length cv) ∧ V.cell? ⟨w.heap.size, 7, none⟩ = some (.slice ac cs.length cc)) ∧ (V.cell? ⟨w.heap.size + 1, 0, none⟩ = some (.int .i64 lv2) ∧ V.cell? ⟨w.heap.size + 1, 1, none⟩ = some (.string lo2) ∧ V.cell? ⟨w.heap.size + 1, 2, none⟩ = some (.string hi2) ∧ V.cell? ⟨w.heap.size + 1, 3, none⟩ = some (.bool la2) ∧ V.cell? ⟨w.heap.size + 1, 4, none⟩ = some (.int .i64 nx2) ∧ V.cell? ⟨w.heap.size + 1, 5, none⟩ = some (.slice ak2 ks2.length ck2) ∧ V.cell? ⟨w.heap.size + 1, 6, none⟩ = some (.slice av2 vs2.length cv2) ∧ V.cell? ⟨w.heap.size + 1, 7, none⟩ = some (.slice ac2 cs2.length cc2))) ∧ Below w2.heap.size w2 V)
      (first | (with_reducible exact hS0) | (with_reducible exact hS5) | (with_reducible exact hS6) | ((with_reducible refine HCC.out _ ?_); repeat' (first | (with_reducible assumption) | (with_reducible exact hB5m) | (with_reducible exact hB6m) | (with_reducible exact Below.refl _ _) | (with_reducible refine Below.drew ?_) | (with_reducible refine Below.alloc ?_ ?_ _) | (with_reducible refine Below.setCell ?_ ?_ _) | omega | (simp <;> omega))))
      (first
        | (go_at_call 11; (with_reducible refine (HC1.out _ (And.right (by assumption))).mono ?_); rintro e w5 ⟨ko, vo, co, rfl, r1, r2, r3, hb5⟩; have hB5m : Below w2.heap.size w2 w5 := below_onJ (And.right (by assumption)) (Nat.le_refl _) hb5; have hS5 := HCC.out _ hB5m; have hz5 := hb5.size; have hz25 := hB5m.size; (try simp at hz5); obtain ⟨hc5, hf5⟩ := bcell hb5; (first | (have hx1 : w2.heap.size < w5.heap.size := by omega) | skip); (first | (have hx2 : w2.heap.size + 1 < w5.heap.size := by omega) | skip))
        | (go_at_call 11; (with_reducible refine (HC2.out _ (And.right (by assumption))).mono ?_); rintro e w6 ⟨ko2, vo2, co2, rfl, r4, r5, r6, hb6⟩; have hB6m : Below w2.heap.size w2 w6 := below_onJ (And.right (by assumption)) (Nat.le_refl _) hb6; have hS6 := HCC.out _ hB6m; have hz6 := hb6.size; (try simp at hz6); obtain ⟨hc6, hf6⟩ := bcell hb6; (first | (have hx3 : w5.heap.size < w6.heap.size := by omega) | skip); (first | (have hx4 : w5.heap.size + 1 < w6.heap.size := by omega) | skip); (first | (have hx5 : w2.heap.size < w6.heap.size := by omega) | skip); (first | (have hx6 : w2.heap.size + 1 < w6.heap.size := by omega) | skip)))
    all_goals
      clear hc5 hf5 hc6 hf6
      refine hKX1 _ _ (Met.intro (hJ1 _ _ ?_))
      (repeat apply Exists.intro)
      refine ⟨?_, rfl⟩
      refine Lib.hid ⟨_, _, ko, vo, co, ko2, vo2, co2, rfl, rfl, ?_⟩
      have hB56 : Below w5.heap.size w5 w6 := by
        repeat' (first | (with_reducible exact Below.refl _ _) | (with_reducible refine below_onJ ?_ (Nat.le_refl _) hb6) | (with_reducible refine Below.drew ?_) | (with_reducible refine Below.alloc ?_ ?_ _) | omega | (simp only [World.size_alloc] <;> omega) | (simp <;> omega))
      have base : CBase w2 w6 (.slice ko ks.length ks.length) (.slice vo vs.length vs.length) (.slice co cs.length cs.length) (.slice ko2 ks2.length ks2.length) (.slice vo2 vs2.length vs2.length) (.slice co2 cs2.length cs2.length) ⟨lv, nx, lo, hi, la, ks, vs, cs⟩ ⟨lv2, nx2, lo2, hi2, la2, ks2, vs2, cs2⟩ :=
        ⟨hB6m, CRows.keep (CRows.back ⟨r1, r2, r3⟩ (by first | exact Nat.le_refl _ | (simp only [World.size_alloc]; omega) | (simp <;> omega))) hB56, CRows.back ⟨r4, r5, r6⟩ (by first | exact hz25 | (simp only [World.size_alloc]; omega) | (simp <;> omega))⟩
      clear r1 r2 r3 r4 r5 r6
      first
        | (with_reducible exact cat_ll78 base)
        | (with_reducible exact cat_ll87 base)
        | ((with_reducible refine cat_el base ?_ ?_) <;> (repeat' (first | (with_reducible exact NB.new _ _) | ((with_reducible refine nbNew ?_) <;> (first | (with_reducible rfl) | (simp; done))) | (with_reducible refine NB.below ?_ hb6) | (with_reducible refine NB.below ?_ hb5) | (with_reducible refine nbDrew ?_) | (with_reducible refine nbAllocd ?_ _) | omega)))
        | ((with_reducible refine cat_le base ?_ ?_) <;> (repeat' (first | (with_reducible exact NB.new _ _) | ((with_reducible refine nbNew ?_) <;> (first | (with_reducible rfl) | (simp; done))) | (with_reducible refine NB.below ?_ hb6) | (with_reducible refine NB.below ?_ hb5) | (with_reducible refine nbDrew ?_) | (with_reducible refine nbAllocd ?_ _) | omega)))
        | ((with_reducible refine cat_ee base ?_ ?_ ?_ ?_ ?_) <;> (repeat' (first | (with_reducible exact NB.new _ _) | ((with_reducible refine nbNew ?_) <;> (first | (with_reducible rfl) | (simp; done))) | (with_reducible refine NB.below ?_ hb6) | (with_reducible refine NB.below ?_ hb5) | (with_reducible refine nbDrew ?_) | (with_reducible refine nbAllocd ?_ _) | omega)))
  case rest =>
    obtain ⟨g7, g8, ko, vo, co, ko2, vo2, co2, h7, h8, hC⟩ := hcut.out
    subst h7
    subst h8
    obtain ⟨m7, m8, ⟨r1, r2, r3⟩, ⟨r4, r5, r6⟩, hbc⟩ := hC
    have hz := HZ.out
    have hz2 := HZ2.out
    simp only at r1 r2 r3 r4 r5 r6
    have HX3a : Hid (NB wc g7 #[.int .i64 lv, .string lo, .string hi, .bool la, .int .i64 nx, .slice ko ks.length ks.length, .slice vo vs.length vs.length, .slice co cs.length cs.length]) := Lib.hid m7
    have HX3b : Hid (NB wc g8 #[.int .i64 lv2, .string lo2, .string hi2, .bool la2, .int .i64 nx2, .slice ko2 ks2.length ks2.length, .slice vo2 vs2.length vs2.length, .slice co2 cs2.length cs2.length]) := Lib.hid m8
    have HY3a : Hid (NdAt wc ko vo co ks.length ks.length vs.length vs.length cs.length cs.length ks vs cs) := Lib.hid ⟨r1.rd (by rw [List.length_map]; omega), r2.rd (by rw [List.length_map]; omega), r3.rd (by rw [List.length_map]; omega)⟩
    have HY3b : Hid (NdAt wc ko2 vo2 co2 ks2.length ks2.length vs2.length vs2.length cs2.length cs2.length ks2 vs2 cs2) := Lib.hid ⟨r4.rd (by rw [List.length_map]; omega), r5.rd (by rw [List.length_map]; omega), r6.rd (by rw [List.length_map]; omega)⟩
    have Hn := Lib.hid (HB12.out.trans (hbc.mono HB12.out.size))
    have HS3 : Hid (Below wc.heap.size wc wc) := Lib.hid (Below.refl _ _)
    clear hcut m7 m8 r1 r2 r3 r4 r5 r6 hbc HC1 HC2 HCC HA2 HBX2 hz hz2
    obtain ⟨b, hb⟩ := bool_or (Nod.MergeP ⟨lv, nx, lo, hi, la, ks, vs, cs⟩ ⟨lv2, nx2, lo2, hi2, la2, ks2, vs2, cs2⟩ fan)
    obtain ⟨c, hc⟩ := bool_or (Nod.EvenP ⟨lv, nx, lo, hi, la, ks, vs, cs⟩ ⟨lv2, nx2, lo2, hi2, la2, ks2, vs2, cs2⟩)
    have HSM : Hid (ks.length + ks2.length ≤ 200000 ∧ vs.length + vs2.length ≤ 200000 ∧ cs.length + cs2.length ≤ 200000) := Lib.hid (by have := HZ.out; have := HZ2.out; omega)
    have HME := Lib.hid (fun W (h : Below w1.heap.size w1 W) => merge_of lv nx lo hi la ak av ac ck cv cc lv2 nx2 lo2 hi2 la2 ak2 av2 ac2 ck2 cv2 cc2 ks vs cs ks2 vs2 cs2 fan b W (HND.out.keep h) (HMD.out.keep h) HFT.out HFT2.out HSM.out hb)
    have HRM := Lib.hid (fun W h h2 => rmerge_of lv nx lo hi la ko vo co ks.length vs.length cs.length lv2 nx2 lo2 hi2 la2 ko2 vo2 co2 ks2.length vs2.length cs2.length ks vs cs ks2 vs2 cs2 fan b W h h2 HFT.out HFT2.out HSM.out hb)
    have HEV := Lib.hid (fun W (h : Below w1.heap.size w1 W) => (even_of lv nx lo hi la ak av ac ck cv cc lv2 nx2 lo2 hi2 la2 ak2 av2 ac2 ck2 cv2 cc2 ks vs cs ks2 vs2 cs2 c W (HND.out.keep h) (HMD.out.keep h) HFT.out HFT2.out HSM.out hc).mono (fun e w' g => GaveTwo.d g))
    have HRE := Lib.hid (fun W h h2 => reven_of lv nx lo hi la ko vo co ks.length vs.length cs.length lv2 nx2 lo2 hi2 la2 ko2 vo2 co2 ks2.length vs2.length cs2.length ks vs cs ks2 vs2 cs2 c W h h2 HFT.out HFT2.out HSM.out hc)
    have HSE := Lib.hid rsame_eq13
    generalize Nod.or b (Nod.both ⟨lv, nx, lo, hi, la, ks, vs, cs⟩ ⟨lv2, nx2, lo2, hi2, la2, ks2, vs2, cs2⟩) = pa at HME HRM
    generalize Nod.or c (Nod.left (Nod.both ⟨lv, nx, lo, hi, la, ks, vs, cs⟩ ⟨lv2, nx2, lo2, hi2, la2, ks2, vs2, cs2⟩) nx) = pc at HEV HRE
    generalize Nod.or c (Nod.right (Nod.both ⟨lv, nx, lo, hi, la, ks, vs, cs⟩ ⟨lv2, nx2, lo2, hi2, la2, ks2, vs2, cs2⟩)) = pd at HEV HRE
    clear hb hc
    obtain ⟨q0, q1, q2, q3, q4, q5, q6, q7⟩ := (HN1.out.below Hn.out).cells
    obtain ⟨p0, p1, p2, p3, p4, p5, p6, p7⟩ := (HN2.out.below Hn.out).cells
    go_wp2_with fail
    refine (HME.out _ Hn.out).mono ?_
    rintro e w4 ⟨aka4, ava4, aca4, cka4, cva4, cca4, rfl, hda4, hb4, _⟩
    clear q0 q1 q2 q3 q4 q5 q6 q7 p0 p1 p2 p3 p4 p5 p6 p7
    obtain ⟨W4, hW4⟩ : ∃ W, W = w4.alloc (.cells #[.int .i64 pa.lv, .string pa.lo, .string pa.hi, .bool pa.la, .int .i64 pa.nx, .slice aka4 pa.ks.length cka4, .slice ava4 pa.vs.length cva4, .slice aca4 pa.cs.length cca4] 26) := ⟨_, rfl⟩
    have hx4 := boxed_below w4 (.cells #[.int .i64 pa.lv, .string pa.lo, .string pa.hi, .bool pa.la, .int .i64 pa.nx, .slice aka4 pa.ks.length cka4, .slice ava4 pa.vs.length cva4, .slice aca4 pa.cs.length cca4] 26)
    have ma4 := NB.new w4 #[.int .i64 pa.lv, .string pa.lo, .string pa.hi, .bool pa.la, .int .i64 pa.nx, .slice aka4 pa.ks.length cka4, .slice ava4 pa.vs.length cva4, .slice aca4 pa.cs.length cca4]
    rw [← hW4] at ma4 hx4
    have HX4a := Lib.hid ma4
    have HY4a := Lib.hid (hda4.keep hx4)
    have HZ4 := Lib.hid (hb4.trans (hx4.mono hb4.size))
    have HW4 := Lib.hid hW4
    have Hn_4 := Lib.hid (Hn.out.trans (HZ4.out.mono Hn.out.size))
    have HS3_4 := Lib.hid (HS3.out.trans (HZ4.out.mono HS3.out.size))
    clear hW4 hx4 ma4 hda4 hb4 Hn HS3
    have HS4 : Hid (Below W4.heap.size W4 W4) := Lib.hid (Below.refl _ _)
    go_upto_region 5 with fail
    rw [← HW4.out]
    clear HW4
    obtain ⟨t0, t1, t2, t3, t4, t5, t6, t7⟩ := (HX3a.out.below HS3_4.out).cells
    obtain ⟨u0, u1, u2, u3, u4, u5, u6, u7⟩ := (HX3b.out.below HS3_4.out).cells
    go_wp2_with fail
    refine (HRM.out _ (HY3a.out.keep HS3_4.out) (HY3b.out.keep HS3_4.out)).mono ?_
    rintro e w5 ⟨aka5, ava5, aca5, cka5, cva5, cca5, rfl, hda5, hb5, _⟩
    clear t0 t1 t2 t3 t4 t5 t6 t7 u0 u1 u2 u3 u4 u5 u6 u7
    obtain ⟨W5, hW5⟩ : ∃ W, W = w5.alloc (.cells #[.int .i64 pa.lv, .string pa.lo, .string pa.hi, .bool pa.la, .int .i64 pa.nx, .slice aka5 pa.ks.length cka5, .slice ava5 pa.vs.length cva5, .slice aca5 pa.cs.length cca5] 26) := ⟨_, rfl⟩
    have hx5 := boxed_below w5 (.cells #[.int .i64 pa.lv, .string pa.lo, .string pa.hi, .bool pa.la, .int .i64 pa.nx, .slice aka5 pa.ks.length cka5, .slice ava5 pa.vs.length cva5, .slice aca5 pa.cs.length cca5] 26)
    have ma5 := NB.new w5 #[.int .i64 pa.lv, .string pa.lo, .string pa.hi, .bool pa.la, .int .i64 pa.nx, .slice aka5 pa.ks.length cka5, .slice ava5 pa.vs.length cva5, .slice aca5 pa.cs.length cca5]
    rw [← hW5] at ma5 hx5
    have HX5a := Lib.hid ma5
    have HY5a := Lib.hid (hda5.keep hx5)
    have HZ5 := Lib.hid (hb5.trans (hx5.mono hb5.size))
    have HW5 := Lib.hid hW5
    have Hn_5 := Lib.hid (Hn_4.out.trans (HZ5.out.mono Hn_4.out.size))
    have HS3_5 := Lib.hid (HS3_4.out.trans (HZ5.out.mono HS3_4.out.size))
    have HS4_5 := Lib.hid (HS4.out.trans (HZ5.out.mono HS4.out.size))
    clear hW5 hx5 ma5 hda5 hb5 Hn_4 HS3_4 HS4
    have HS5 : Hid (Below W5.heap.size W5 W5) := Lib.hid (Below.refl _ _)
    go_upto_region 6 with fail
    rw [← HW5.out]
    clear HW5
    obtain ⟨q0, q1, q2, q3, q4, q5, q6, q7⟩ := (HN1.out.below Hn_5.out).cells
    obtain ⟨p0, p1, p2, p3, p4, p5, p6, p7⟩ := (HN2.out.below Hn_5.out).cells
    go_wp2_with fail
    refine (HEV.out _ Hn_5.out).mono ?_
    rintro e w6 ⟨aka6, ava6, aca6, akb6, avb6, acb6, cka6, cva6, cca6, ckb6, cvb6, ccb6, rfl, hda6, hdb6, hb6⟩
    clear q0 q1 q2 q3 q4 q5 q6 q7 p0 p1 p2 p3 p4 p5 p6 p7
    obtain ⟨ma6, mb6, hx6⟩ := boxes2 w6 #[.int .i64 pc.lv, .string pc.lo, .string pc.hi, .bool pc.la, .int .i64 pc.nx, .slice aka6 pc.ks.length cka6, .slice ava6 pc.vs.length cva6, .slice aca6 pc.cs.length cca6] #[.int .i64 pd.lv, .string pd.lo, .string pd.hi, .bool pd.la, .int .i64 pd.nx, .slice akb6 pd.ks.length ckb6, .slice avb6 pd.vs.length cvb6, .slice acb6 pd.cs.length ccb6]
    obtain ⟨W6, hW6⟩ : ∃ W, W = (w6.alloc (.cells #[.int .i64 pc.lv, .string pc.lo, .string pc.hi, .bool pc.la, .int .i64 pc.nx, .slice aka6 pc.ks.length cka6, .slice ava6 pc.vs.length cva6, .slice aca6 pc.cs.length cca6] 26)).alloc (.cells #[.int .i64 pd.lv, .string pd.lo, .string pd.hi, .bool pd.la, .int .i64 pd.nx, .slice akb6 pd.ks.length ckb6, .slice avb6 pd.vs.length cvb6, .slice acb6 pd.cs.length ccb6] 26) := ⟨_, rfl⟩
    rw [← hW6] at ma6 mb6 hx6
    have HX6a := Lib.hid ma6
    have HX6b := Lib.hid mb6
    have HY6a := Lib.hid (hda6.keep hx6)
    have HY6b := Lib.hid (hdb6.keep hx6)
    have HZ6 := Lib.hid (hb6.trans (hx6.mono hb6.size))
    have HW6 := Lib.hid hW6
    have Hn_6 := Lib.hid (Hn_5.out.trans (HZ6.out.mono Hn_5.out.size))
    have HS3_6 := Lib.hid (HS3_5.out.trans (HZ6.out.mono HS3_5.out.size))
    have HS4_6 := Lib.hid (HS4_5.out.trans (HZ6.out.mono HS4_5.out.size))
    have HS5_6 := Lib.hid (HS5.out.trans (HZ6.out.mono HS5.out.size))
    clear hW6 hx6 ma6 mb6 hda6 hdb6 hb6 Hn_5 HS3_5 HS4_5 HS5
    have HS6 : Hid (Below W6.heap.size W6 W6) := Lib.hid (Below.refl _ _)
    go_upto_region 7 with fail
    rw [← HW6.out]
    clear HW6
    obtain ⟨t0, t1, t2, t3, t4, t5, t6, t7⟩ := (HX3a.out.below HS3_6.out).cells
    obtain ⟨u0, u1, u2, u3, u4, u5, u6, u7⟩ := (HX3b.out.below HS3_6.out).cells
    go_wp2_with fail
    refine (HRE.out _ (HY3a.out.keep HS3_6.out) (HY3b.out.keep HS3_6.out)).mono ?_
    rintro e w7 ⟨aka7, ava7, aca7, akb7, avb7, acb7, cka7, cva7, cca7, ckb7, cvb7, ccb7, rfl, hda7, hdb7, hb7⟩
    clear t0 t1 t2 t3 t4 t5 t6 t7 u0 u1 u2 u3 u4 u5 u6 u7
    obtain ⟨ma7, mb7, hx7⟩ := boxes2 w7 #[.int .i64 pc.lv, .string pc.lo, .string pc.hi, .bool pc.la, .int .i64 pc.nx, .slice aka7 pc.ks.length cka7, .slice ava7 pc.vs.length cva7, .slice aca7 pc.cs.length cca7] #[.int .i64 pd.lv, .string pd.lo, .string pd.hi, .bool pd.la, .int .i64 pd.nx, .slice akb7 pd.ks.length ckb7, .slice avb7 pd.vs.length cvb7, .slice acb7 pd.cs.length ccb7]
    obtain ⟨W7, hW7⟩ : ∃ W, W = (w7.alloc (.cells #[.int .i64 pc.lv, .string pc.lo, .string pc.hi, .bool pc.la, .int .i64 pc.nx, .slice aka7 pc.ks.length cka7, .slice ava7 pc.vs.length cva7, .slice aca7 pc.cs.length cca7] 26)).alloc (.cells #[.int .i64 pd.lv, .string pd.lo, .string pd.hi, .bool pd.la, .int .i64 pd.nx, .slice akb7 pd.ks.length ckb7, .slice avb7 pd.vs.length cvb7, .slice acb7 pd.cs.length ccb7] 26) := ⟨_, rfl⟩
    rw [← hW7] at ma7 mb7 hx7
    have HX7a := Lib.hid ma7
    have HX7b := Lib.hid mb7
    have HY7a := Lib.hid (hda7.keep hx7)
    have HY7b := Lib.hid (hdb7.keep hx7)
    have HZ7 := Lib.hid (hb7.trans (hx7.mono hb7.size))
    have HW7 := Lib.hid hW7
    have Hn_7 := Lib.hid (Hn_6.out.trans (HZ7.out.mono Hn_6.out.size))
    have HS3_7 := Lib.hid (HS3_6.out.trans (HZ7.out.mono HS3_6.out.size))
    have HS4_7 := Lib.hid (HS4_6.out.trans (HZ7.out.mono HS4_6.out.size))
    have HS5_7 := Lib.hid (HS5_6.out.trans (HZ7.out.mono HS5_6.out.size))
    have HS6_7 := Lib.hid (HS6.out.trans (HZ7.out.mono HS6.out.size))
    clear hW7 hx7 ma7 mb7 hda7 hdb7 hb7 Hn_6 HS3_6 HS4_6 HS5_6 HS6
    have HS7 : Hid (Below W7.heap.size W7 W7) := Lib.hid (Below.refl _ _)
    go_upto_region 8 with fail
    rw [← HW7.out]
    clear HW7
    obtain ⟨q0, q1, q2, q3, q4, q5, q6, q7⟩ := (HN1.out.below Hn_7.out).cells
    obtain ⟨t0, t1, t2, t3, t4, t5, t6, t7⟩ := (HX3a.out.below HS3_7.out).cells
    go_wp2_with fail
    refine (HSE.out ⟨lv, nx, lo, hi, la, ks, vs, cs⟩ ak av ac ko vo co ck cv cc ks.length vs.length cs.length _ (HND.out.keep Hn_7.out) (HY3a.out.keep HS3_7.out)).mono ?_
    rintro e w10 ⟨rfl, hb10⟩
    have Hn_10 := Lib.hid (Hn_7.out.trans (hb10.mono Hn_7.out.size))
    have HS3_10 := Lib.hid (HS3_7.out.trans (hb10.mono HS3_7.out.size))
    have HS4_10 := Lib.hid (HS4_7.out.trans (hb10.mono HS4_7.out.size))
    have HS5_10 := Lib.hid (HS5_7.out.trans (hb10.mono HS5_7.out.size))
    have HS6_10 := Lib.hid (HS6_7.out.trans (hb10.mono HS6_7.out.size))
    have HS7_10 := Lib.hid (HS7.out.trans (hb10.mono HS7.out.size))
    clear hb10 Hn_7 HS3_7 HS4_7 HS5_7 HS6_7 HS7
    clear q0 q1 q2 q3 q4 q5 q6 q7 t0 t1 t2 t3 t4 t5 t6 t7
    obtain ⟨q0, q1, q2, q3, q4, q5, q6, q7⟩ := (HN2.out.below Hn_10.out).cells
    obtain ⟨t0, t1, t2, t3, t4, t5, t6, t7⟩ := (HX3b.out.below HS3_10.out).cells
    go_wp2_with fail
    refine (HSE.out ⟨lv2, nx2, lo2, hi2, la2, ks2, vs2, cs2⟩ ak2 av2 ac2 ko2 vo2 co2 ck2 cv2 cc2 ks2.length vs2.length cs2.length _ (HMD.out.keep Hn_10.out) (HY3b.out.keep HS3_10.out)).mono ?_
    rintro e w11 ⟨rfl, hb11⟩
    have Hn_11 := Lib.hid (Hn_10.out.trans (hb11.mono Hn_10.out.size))
    have HS3_11 := Lib.hid (HS3_10.out.trans (hb11.mono HS3_10.out.size))
    have HS4_11 := Lib.hid (HS4_10.out.trans (hb11.mono HS4_10.out.size))
    have HS5_11 := Lib.hid (HS5_10.out.trans (hb11.mono HS5_10.out.size))
    have HS6_11 := Lib.hid (HS6_10.out.trans (hb11.mono HS6_10.out.size))
    have HS7_11 := Lib.hid (HS7_10.out.trans (hb11.mono HS7_10.out.size))
    clear hb11 Hn_10 HS3_10 HS4_10 HS5_10 HS6_10 HS7_10
    clear q0 q1 q2 q3 q4 q5 q6 q7 t0 t1 t2 t3 t4 t5 t6 t7
    obtain ⟨q0, q1, q2, q3, q4, q5, q6, q7⟩ := (HX4a.out.below HS4_11.out).cells
    obtain ⟨t0, t1, t2, t3, t4, t5, t6, t7⟩ := (HX5a.out.below HS5_11.out).cells
    go_wp2_with fail
    refine (HSE.out pa aka4 ava4 aca4 aka5 ava5 aca5 cka4 cva4 cca4 cka5 cva5 cca5 _ (HY4a.out.keep HS4_11.out) (HY5a.out.keep HS5_11.out)).mono ?_
    rintro e w12 ⟨rfl, hb12⟩
    have Hn_12 := Lib.hid (Hn_11.out.trans (hb12.mono Hn_11.out.size))
    have HS3_12 := Lib.hid (HS3_11.out.trans (hb12.mono HS3_11.out.size))
    have HS4_12 := Lib.hid (HS4_11.out.trans (hb12.mono HS4_11.out.size))
    have HS5_12 := Lib.hid (HS5_11.out.trans (hb12.mono HS5_11.out.size))
    have HS6_12 := Lib.hid (HS6_11.out.trans (hb12.mono HS6_11.out.size))
    have HS7_12 := Lib.hid (HS7_11.out.trans (hb12.mono HS7_11.out.size))
    clear hb12 Hn_11 HS3_11 HS4_11 HS5_11 HS6_11 HS7_11
    clear q0 q1 q2 q3 q4 q5 q6 q7 t0 t1 t2 t3 t4 t5 t6 t7
    obtain ⟨q0, q1, q2, q3, q4, q5, q6, q7⟩ := (HX6a.out.below HS6_12.out).cells
    obtain ⟨t0, t1, t2, t3, t4, t5, t6, t7⟩ := (HX7a.out.below HS7_12.out).cells
    go_wp2_with fail
    refine (HSE.out pc aka6 ava6 aca6 aka7 ava7 aca7 cka6 cva6 cca6 cka7 cva7 cca7 _ (HY6a.out.keep HS6_12.out) (HY7a.out.keep HS7_12.out)).mono ?_
    rintro e w13 ⟨rfl, hb13⟩
    have Hn_13 := Lib.hid (Hn_12.out.trans (hb13.mono Hn_12.out.size))
    have HS3_13 := Lib.hid (HS3_12.out.trans (hb13.mono HS3_12.out.size))
    have HS4_13 := Lib.hid (HS4_12.out.trans (hb13.mono HS4_12.out.size))
    have HS5_13 := Lib.hid (HS5_12.out.trans (hb13.mono HS5_12.out.size))
    have HS6_13 := Lib.hid (HS6_12.out.trans (hb13.mono HS6_12.out.size))
    have HS7_13 := Lib.hid (HS7_12.out.trans (hb13.mono HS7_12.out.size))
    clear hb13 Hn_12 HS3_12 HS4_12 HS5_12 HS6_12 HS7_12
    clear q0 q1 q2 q3 q4 q5 q6 q7 t0 t1 t2 t3 t4 t5 t6 t7
    obtain ⟨q0, q1, q2, q3, q4, q5, q6, q7⟩ := (HX6b.out.below HS6_13.out).cells
    obtain ⟨t0, t1, t2, t3, t4, t5, t6, t7⟩ := (HX7b.out.below HS7_13.out).cells
    go_wp2_with fail
    refine (HSE.out pd akb6 avb6 acb6 akb7 avb7 acb7 ckb6 cvb6 ccb6 ckb7 cvb7 ccb7 _ (HY6b.out.keep HS6_13.out) (HY7b.out.keep HS7_13.out)).mono ?_
    rintro e w14 ⟨rfl, hb14⟩
    have Hn_14 := Lib.hid (Hn_13.out.trans (hb14.mono Hn_13.out.size))
    have HS3_14 := Lib.hid (HS3_13.out.trans (hb14.mono HS3_13.out.size))
    have HS4_14 := Lib.hid (HS4_13.out.trans (hb14.mono HS4_13.out.size))
    have HS5_14 := Lib.hid (HS5_13.out.trans (hb14.mono HS5_13.out.size))
    have HS6_14 := Lib.hid (HS6_13.out.trans (hb14.mono HS6_13.out.size))
    have HS7_14 := Lib.hid (HS7_13.out.trans (hb14.mono HS7_13.out.size))
    clear hb14 Hn_13 HS3_13 HS4_13 HS5_13 HS6_13 HS7_13
    clear q0 q1 q2 q3 q4 q5 q6 q7 t0 t1 t2 t3 t4 t5 t6 t7
    have HE := Lib.hid (HB.out.trans (Hn_14.out.mono HB.out.size))
    go_wp2_with fail
    refine (HLV.out _).mono ?_
    rintro e wl ⟨rfl, hbl⟩
    have HBL := Lib.hid (HE.out.trans (hbl.mono HE.out.size))
    clear hbl
    go_wp2
    go_ret
    exact ⟨rfl, HBL.out⟩
end Go.Proofs.Ytmkglaghnjnooaa

namespace Go.Proofs.Ytmkglaghnjnooaa
open Go.ChangeShapes Go.WideShapes Go.ChangeAt Go.RowKit Go.ChangeMaps
set_option maxRecDepth 100000 in
theorem halveJoins_lifted (os : Os) (started : os.Started) (H : Type) (enc : TypeId × Value → H) :
    ReturnsInHanded {} Try.checked os 4 .any (Rows.halveJoinsSpec.pre6 enc Try.prog Try.f4 Rows.halveJoinsRow.domain false) (Rows.halveJoinsSpec.post enc Try.prog Try.f4 false true false false) := by
  refine returnsInHanded_of_change (C := Try.checked) Try.ownN started (by kernel_rfl) Try.func4
    (ChangeSpec.witness6 (enc := enc) (C := Try.checked) false ⟨#[], #[.agg #[.int .i64 0, .string ⟨#[]⟩, .string ⟨#[]⟩, .bool false, .int .i64 0, .slice none 0 0, .slice none 0 0, .slice none 0 0], .agg #[.int .i64 0, .string ⟨#[]⟩, .string ⟨#[]⟩, .bool false, .int .i64 0, .slice none 0 0, .slice none 0 0, .slice none 0 0], .int .i64 0], []⟩ 8 (by kernel_rfl) (by kernel_rfl) (by kernel_rfl) (by kernel_rfl)) ?_
  intro W base args ds gs before hval0 hW _ _
  have hval : ∀ (j : Nat) t v, Try.f4.params[j]? = some t → args[j]? = some v → Value.okWide Try.prog W .any base t v := hval0
  have hW' := hW
  obtain ⟨p, q, hA0, hV, rfl, _, _⟩ := hW
  have hA : DataW.TrodAll enc Try.prog W 0 (fun _ => true) true Try.f4.params.toList args.toList ds p := hA0
  rw [Try.params4] at hA hval
  obtain ⟨v0, v1, v2, d0, d1, d2, p0, p1, p2, rfl, rfl, rfl, h0, h1, h2⟩ := trodAll_three hA
  obtain ⟨rfl, rfl⟩ := trodVars_none hV
  obtain ⟨l, rfl, hsz⟩ := okWide_struct Try.underlying26 (hval 0 26 v0 rfl rfl)
  obtain ⟨l2, rfl, hsz2⟩ := okWide_struct Try.underlying26 (hval 1 26 v1 rfl rfl)
  obtain ⟨a2, rfl, rfl, rfl, hs2⟩ := open_int Try.underlying3 (hval 2 3 v2 rfl rfl) h2
  have h0k := h0
  have h1k := h1
  obtain ⟨fuel, hf⟩ := h0
  obtain ⟨fuel2, hf2⟩ := h1
  clear hA0 hval0
  simp only [List.append_nil] at hW'
  have hlt : ∀ x ∈ p0 ++ p1, x.block < W.heap.size := fun x hx => by simpa using hW'.lt x hx
  obtain ⟨lv, nx, lo, hi, la, ak, av, ac, nk, ck, nv, cv, nc, cc, ks, vs, cs, hcs, hN⟩ := node_read (by simpa [Value.cells] using hf)
  obtain ⟨lv2, nx2, lo2, hi2, la2, ak2, av2, ac2, nk2, ck2, nv2, cv2, nc2, cc2, ks2, vs2, cs2, hcs2, hM⟩ := node_read (by simpa [Value.cells] using hf2)
  have hca : l = #[.int .i64 lv, .string lo, .string hi, .bool la, .int .i64 nx, .slice ak nk ck, .slice av nv cv, .slice ac nc cc] := by
    apply Array.ext'
    exact hcs
  have hca2 : l2 = #[.int .i64 lv2, .string lo2, .string hi2, .bool la2, .int .i64 nx2, .slice ak2 nk2 ck2, .slice av2 nv2 cv2, .slice ac2 nc2 cc2] := by
    apply Array.ext'
    exact hcs2
  subst hca
  subst hca2
  obtain rfl : ks.length = nk := (rd_len hN.k).1
  obtain rfl : vs.length = nv := (rd_len hN.v).1
  obtain rfl : cs.length = nc := (rd_len hN.c).1
  obtain rfl : ks2.length = nk2 := (rd_len hM.k).1
  obtain rfl : vs2.length = nv2 := (rd_len hM.v).1
  obtain rfl : cs2.length = nc2 := (rd_len hM.c).1
  refine (halveJoins_any lv nx lo hi la ak av ac ck cv cc lv2 nx2 lo2 hi2 la2 ak2 av2 ac2 ck2 cv2 cc2 ks vs cs ks2 vs2 cs2 a2 W hN hM).mono fun e W' ⟨he, hb⟩ => ?_
  subst he
  refine ⟨_, rfl, _, _, _, [], p0 ++ p1, [], hW', trodAll_mk1 (shut_bool Try.underlying4 _), ?_, rfl, hb.frame _, fun h => by cases h⟩
  have ht := trodAll_mk3 (Below.trod Try.laidOut (by kernel_rfl) (of_decide_eq_true (by kernel_rfl)) h0k hb (fun x hx => hlt x (List.mem_append_left _ hx))) (Below.trod Try.laidOut (by kernel_rfl) (of_decide_eq_true (by kernel_rfl)) h1k hb (fun x hx => hlt x (List.mem_append_right _ hx))) (shut_int (w := W') Try.underlying3 hs2)
  simp only [List.append_nil] at ht
  exact ht

theorem halveJoins_holds : Rows.HalveJoinsSaid :=
  OpenClaim.holds_of_wide 4 Try.f4 rfl rfl rfl rfl rfl rfl rfl ⟨rfl, rfl, rfl, rfl, rfl⟩ rfl rfl rfl rfl rfl (by kernel_rfl) Try.func4 (by kernel_rfl)
    (of_decide_eq_true (by kernel_rfl)) (by unfold Func.isWrapper; rw [if_neg (by decide +kernel)]; exact ⟨rfl, rfl⟩)
    (fun os started H enc _ => halveJoins_lifted os started H enc)
end Go.Proofs.Ytmkglaghnjnooaa
