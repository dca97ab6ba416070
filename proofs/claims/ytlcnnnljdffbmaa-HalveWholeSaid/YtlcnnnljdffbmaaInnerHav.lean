/- inner.having: a node that has other entries, if it may be. Condition: sizes that fit. -/
import Derived.Test.YtlcnnnljdffbmaaInnerEnt
import Derived.Test.YtlcnnnljdffbmaaHeldTill
import Derived.Test.YtlcnnnljdffbmaaLeafIs
namespace Go.Proofs.Ytlcnnnljdffbmaa
open Go.RowKit

def kE (es : List (ByteArray × Int)) : List Value := es.map fun p => Value.string p.1
def cE (es : List (ByteArray × Int)) : List Value := es.map fun p => Value.int .i64 p.2
theorem kE_more (es : List (ByteArray × Int)) (a : Nat) (h : a < es.length) : (kE es).take (a + 1) = (kE es).take a ++ [.string (nte es a).1] := by
  rw [List.take_succ_eq_append_getElem (by unfold kE; rw [List.length_map]; exact h), nte_eq h]
  unfold kE
  rw [List.getElem_map]
theorem cE_more (es : List (ByteArray × Int)) (a : Nat) (h : a < es.length) : (cE es).take (a + 1) = (cE es).take a ++ [.int .i64 (nte es a).2] := by
  rw [List.take_succ_eq_append_getElem (by unfold cE; rw [List.length_map]; exact h), nte_eq h]
  unfold cE
  rw [List.getElem_map]
/-- A slice value that reads as entries, two cells each. -/
def RdE (w : World) (v : Value) (es : List (ByteArray × Int)) : Prop :=
  ∃ ao c, v = .slice ao es.length c ∧ es.length ≤ c ∧ c ≤ 9223372036854775807 ∧ (0 < es.length → ∃ g o, ao = some ⟨g, o, none⟩ ∧ ∀ j, j < es.length → w.cell? ⟨g, o + j * 2, none⟩ = some (.string (nte es j).1) ∧ w.cell? ⟨g, o + j * 2 + 1, none⟩ = some (.int .i64 (nte es j).2))
theorem RdE.keep {w w' : World} {v : Value} {es : List (ByteArray × Int)} (h : RdE w v es) (hb : Below w.heap.size w w') : RdE w' v es := by
  obtain ⟨ao, c, h1, h2, h3, h4⟩ := h
  refine ⟨ao, c, h1, h2, h3, fun hp => ?_⟩
  obtain ⟨g, o, e, hc⟩ := h4 hp
  refine ⟨g, o, e, fun j hj => ?_⟩
  have hlt : g < w.heap.size := World.block_lt_of_cell? w _ (hc j hj).1
  exact ⟨(hb.cell (p := ⟨g, o + j * 2, none⟩) hlt).trans (hc j hj).1, (hb.cell (p := ⟨g, o + j * 2 + 1, none⟩) hlt).trans (hc j hj).2⟩

/-- While it gathers: the box, the result's box, two rows that grow. -/
structure HavAt (w wr : World) (c0 c1 c2 c3 c4 kv cv ku cu : Value) (a b : Nat) (es : List (ByteArray × Int)) : Prop where
  box : NB wr w.heap.size #[c0, c1, c2, c3, c4, kv, .slice none 0 0, cv]
  res : NB wr (w.heap.size + 1) #[.int .i64 0, .string ⟨#[]⟩, .string ⟨#[]⟩, .bool false, .int .i64 0, .slice none 0 0, .slice none 0 0, .slice none 0 0]
  keys : wr.ownsRow (w.heap.size + 2) 9 1 ku a ((kE es).take a)
  kids : wr.ownsRow (w.heap.size + 2) 3 1 cu b ((cE es).take b)
  below : Below w.heap.size w wr
section
variable {w wr w9 : World} {c0 c1 c2 c3 c4 kv cv ku cu u : Value} {a b : Nat} {es : List (ByteArray × Int)}
theorem HavAt.keep (h : HavAt w wr c0 c1 c2 c3 c4 kv cv ku cu a b es) (hb : Below wr.heap.size wr w9) : HavAt w w9 c0 c1 c2 c3 c4 kv cv ku cu a b es :=
  ⟨h.box.below hb, h.res.below hb, own_stays h.keys hb, own_stays h.kids hb, h.below.trans (hb.mono h.below.size)⟩
theorem HavAt.size (h : HavAt w wr c0 c1 c2 c3 c4 kv cv ku cu a b es) : w.heap.size + 2 ≤ wr.heap.size := by have := lt_of_block h.res; omega
theorem HavAt.addK (h : HavAt w wr c0 c1 c2 c3 c4 kv cv ku cu a b es) (hg : wr.grownBy w9 ku.ownBlock) (ho : w9.ownsRow (w.heap.size + 2) 9 1 u (a + 1) ((kE es).take a ++ [.string (nte es a).1])) (ha : a < es.length) : HavAt w w9 c0 c1 c2 c3 c4 kv cv u cu (a + 1) b es := by
  have hr := own_inT h.keys
  rw [← kE_more es a ha] at ho
  exact ⟨h.box.grown hg hr (by decide), h.res.grown hg hr (by decide), ho, own_keeps h.kids hg hr (by decide), h.below.grown hg h.below.size (fun k hk => by have := (h.keys.lt k hk).1; omega)⟩
theorem HavAt.addC (h : HavAt w wr c0 c1 c2 c3 c4 kv cv ku cu a b es) (hg : wr.grownBy w9 cu.ownBlock) (ho : w9.ownsRow (w.heap.size + 2) 3 1 u (b + 1) ((cE es).take b ++ [.int .i64 (nte es b).2])) (hb : b < es.length) : HavAt w w9 c0 c1 c2 c3 c4 kv cv ku u a (b + 1) es := by
  have hr := own_inT h.kids
  rw [← cE_more es b hb] at ho
  exact ⟨h.box.grown hg hr (by decide), h.res.grown hg hr (by decide), own_keeps h.keys hg hr (by decide), ho, h.below.grown hg h.below.size (fun k hk => by have := (h.kids.lt k hk).1; omega)⟩
theorem HavAt.put (h : HavAt w wr c0 c1 c2 c3 c4 kv cv ku cu a b es) : HavAt w ((wr.setCell ⟨w.heap.size, 5, none⟩ ku).setCell ⟨w.heap.size, 7, none⟩ cu) c0 c1 c2 c3 c4 ku cu ku cu a b es := by
  have h1 := h.box.s5 ku
  have g1 := grown_set wr w.heap.size 5 ku
  have g2 := grown_set (wr.setCell ⟨w.heap.size, 5, none⟩ ku) w.heap.size 7 cu
  have t1 := nb_inT h.box
  have t2 := nb_inT h1
  exact ⟨h1.s7 cu, (h.res.far (p := ⟨w.heap.size, 5, none⟩) (by show w.heap.size + 1 ≠ w.heap.size; omega) ku).far (p := ⟨w.heap.size, 7, none⟩) (by show w.heap.size + 1 ≠ w.heap.size; omega) cu, own_keeps (own_keeps h.keys g1 t1 (by decide)) g2 t2 (by decide), own_keeps (own_keeps h.kids g1 t1 (by decide)) g2 t2 (by decide), (h.below.setCell (Nat.le_refl _) ku).setCell (Nat.le_refl _) cu⟩
end
theorem nameW {p : World → Prop} {w : World} (h : ∀ W, W = w → p W) : p w := h w rfl
/-- A block with one string, one number. -/
def OneS (w : World) (g : Nat) (s : ByteArray) : Prop := w.heap[g]? = some (.cells #[.string s] 9 (0, 0))
def OneI (w : World) (g : Nat) (z : Int) : Prop := w.heap[g]? = some (.cells #[.int .i64 z] 3 (0, 0))
section
variable {w w' : World} {g : Nat} {s : ByteArray} {z : Int} {row : Option Nat} {t' : TypeId}
theorem OneS.keep (h : OneS w g s) (hb : Below w.heap.size w w') : OneS w' g s := (hb.block _ (lt_of_block h)).trans h
theorem OneI.keep (h : OneI w g z) (hb : Below w.heap.size w w') : OneI w' g z := (hb.block _ (lt_of_block h)).trans h
theorem OneS.grown (h : OneS w g s) (hg : w.grownBy w' row) (hr : InT w row t') (hne : 9 ≠ t') : OneS w' g s := (hg.block g (lt_of_block h) (inT_ne h hr hne)).trans h
theorem OneI.grown (h : OneI w g z) (hg : w.grownBy w' row) (hr : InT w row t') (hne : 3 ≠ t') : OneI w' g z := (hg.block g (lt_of_block h) (inT_ne h hr hne)).trans h
end
theorem kE_map (es : List (ByteArray × Int)) : kE es = (es.map (·.1)).map Value.string := by unfold kE; rw [List.map_map]; rfl
theorem cE_map (es : List (ByteArray × Int)) : cE es = (es.map (·.2)).map (Value.int .i64) := by unfold cE; rw [List.map_map]; rfl
theorem igave_none {w W' : World} (hb : Below w.heap.size w W') :
    GaveN w W' (.returned (.tuple #[.agg #[.int .i64 0, .string ⟨#[]⟩, .string ⟨#[]⟩, .bool false, .int .i64 0, .slice none 0 0, .slice none 0 0, .slice none 0 0], .bool false])) false .none :=
  ⟨none, none, none, 0, 0, 0, rfl, ⟨Rd.nil _, Rd.nil _, Rd.nil _⟩, hb, (fun _ h => by cases h), (fun _ h => by cases h), (fun _ h => by cases h)⟩
theorem igave_rows {w W' : World} {lv nx : Int} {lo hi : ByteArray} {la : Bool} {ka ca : Option Addr} {kc cc n m : Nat} {ks : List ByteArray} {cs : List Int} (hn : n = ks.length) (hm : m = cs.length)
    (h1 : Rd W' (.slice ka n kc) (ks.map Value.string)) (h2 : Rd W' (.slice ca m cc) (cs.map (Value.int .i64))) (f1 : Far w.heap.size ka) (f2 : Far w.heap.size ca) (hb : Below w.heap.size w W') :
    GaveN w W' (.returned (.tuple #[.agg #[.int .i64 lv, .string lo, .string hi, .bool la, .int .i64 nx, .slice ka n kc, .slice none 0 0, .slice ca m cc], .bool true])) true ⟨lv, nx, lo, hi, la, ks, [], cs⟩ := by
  subst hn
  subst hm
  exact ⟨ka, none, ca, kc, 0, cc, rfl, ⟨h1, Rd.nil _, h2⟩, hb, f1, (fun _ h => by cases h), f2⟩
theorem own_far {w : World} {B : Nat} {t : TypeId} {ao : Option Addr} {n c m : Nat} {xs : List Value} (h : w.ownsRow B t 1 (.slice ao n c) m xs) : Far B ao := by
  intro p hp
  rcases h.2 with ⟨e, _⟩ | ⟨g, cap, cur, e, hb, _⟩
  · injection e with e _ _
    rw [hp] at e; cases e
  · injection e with e _ _
    rw [hp] at e
    injection e with e
    rw [e]; exact hb
theorem ones_i (z : Int) : ∀ u ∈ [Value.int .i64 z], u.oneCell' = true := by intro u hu; simp at hu; rw [hu]; rfl
def HS (A E : Nat) (kv cv : Value) (s : ByteArray) (z : Int) (V : World) : Prop := V.cell? ⟨A, 5, none⟩ = some kv ∧ V.cell? ⟨A, 7, none⟩ = some cv ∧ V.cell? ⟨E, 0, none⟩ = some (.string s) ∧ V.cell? ⟨E, 1, none⟩ = some (.int .i64 z)
end Go.Proofs.Ytlcnnnljdffbmaa
