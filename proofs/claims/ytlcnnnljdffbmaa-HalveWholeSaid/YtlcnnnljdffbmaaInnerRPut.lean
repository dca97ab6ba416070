/- Two rows that grow beside a node's box; bowerref12.Put: a node with an entry more, where its key has its place. Condition: sizes that fit; the place is that of the first key that is greater. -/
import Derived.Test.YtlcnnnljdffbmaaInnerPost
import Derived.Test.YtlcnnnljdffbmaaInsMath
namespace Go.Proofs.Ytlcnnnljdffbmaa
open Go.RowKit

theorem take_more {α β : Type} (f : α → β) (P : List α) (m : Nat) (h : m < P.length) (d x : α) (hx : P.getD m d = x) : (P.take m).map f ++ [f x] = (P.take (m + 1)).map f := by
  rw [List.take_succ_eq_append_getElem h, List.map_append]
  have : P[m] = x := by rw [← hx, List.getD_eq_getElem?_getD, List.getElem?_eq_getElem h]; rfl
  rw [this]; rfl
/-- Two rows that grow to P and Q: the box, the result's box, so much of each. -/
structure RowsAt (w wr : World) (cells : Array Value) (kv cv : Value) (m k : Nat) (P : List ByteArray) (Q : List Int) : Prop where
  box : NB wr w.heap.size cells
  res : NB wr (w.heap.size + 1) #[.int .i64 0, .string ⟨#[]⟩, .string ⟨#[]⟩, .bool false, .int .i64 0, .slice none 0 0, .slice none 0 0, .slice none 0 0]
  keys : wr.ownsRow (w.heap.size + 2) 9 1 kv m ((P.take m).map Value.string)
  kids : wr.ownsRow (w.heap.size + 2) 3 1 cv k ((Q.take k).map (Value.int .i64))
  below : Below w.heap.size w wr
section
variable {w wr w9 : World} {cells : Array Value} {kv cv u : Value} {m k : Nat} {P : List ByteArray} {Q : List Int}
theorem RowsAt.keep (h : RowsAt w wr cells kv cv m k P Q) (hb : Below wr.heap.size wr w9) : RowsAt w w9 cells kv cv m k P Q :=
  ⟨h.box.below hb, h.res.below hb, own_stays h.keys hb, own_stays h.kids hb, h.below.trans (hb.mono h.below.size)⟩
theorem RowsAt.size (h : RowsAt w wr cells kv cv m k P Q) : w.heap.size + 2 ≤ wr.heap.size := by have := lt_of_block h.res; omega
theorem RowsAt.addK {s : ByteArray} (h : RowsAt w wr cells kv cv m k P Q) (hg : wr.grownBy w9 kv.ownBlock) (ho : w9.ownsRow (w.heap.size + 2) 9 1 u (m + 1) ((P.take m).map Value.string ++ [.string s])) (ha : m < P.length) (hs : nth P m = s) : RowsAt w w9 cells u cv (m + 1) k P Q := by
  have hr := own_inT h.keys
  rw [take_more Value.string P m ha ⟨#[]⟩ s hs] at ho
  exact ⟨h.box.grown hg hr (by decide), h.res.grown hg hr (by decide), ho, own_keeps h.kids hg hr (by decide), h.below.grown hg h.below.size (fun k hk => by have := (h.keys.lt k hk).1; omega)⟩
theorem RowsAt.addC {z : Int} (h : RowsAt w wr cells kv cv m k P Q) (hg : wr.grownBy w9 cv.ownBlock) (ho : w9.ownsRow (w.heap.size + 2) 3 1 u (k + 1) ((Q.take k).map (Value.int .i64) ++ [.int .i64 z])) (ha : k < Q.length) (hs : ni Q k = z) : RowsAt w w9 cells kv u m (k + 1) P Q := by
  have hr := own_inT h.kids
  rw [take_more (Value.int .i64) Q k ha 0 z hs] at ho
  exact ⟨h.box.grown hg hr (by decide), h.res.grown hg hr (by decide), own_keeps h.keys hg hr (by decide), ho, h.below.grown hg h.below.size (fun k hk => by have := (h.kids.lt k hk).1; omega)⟩
theorem RowsAt.put {c0 c1 c2 c3 c4 c5 c6 c7 : Value} (h : RowsAt w wr #[c0, c1, c2, c3, c4, c5, c6, c7] kv cv m k P Q) : RowsAt w ((wr.setCell ⟨w.heap.size, 5, none⟩ kv).setCell ⟨w.heap.size, 7, none⟩ cv) #[c0, c1, c2, c3, c4, kv, c6, cv] kv cv m k P Q := by
  have h1 := h.box.s5 kv
  have g1 := grown_set wr w.heap.size 5 kv
  have g2 := grown_set (wr.setCell ⟨w.heap.size, 5, none⟩ kv) w.heap.size 7 cv
  have t1 := nb_inT h.box
  have t2 := nb_inT h1
  exact ⟨h1.s7 cv, (h.res.far (p := ⟨w.heap.size, 5, none⟩) (by show w.heap.size + 1 ≠ w.heap.size; omega) kv).far (p := ⟨w.heap.size, 7, none⟩) (by show w.heap.size + 1 ≠ w.heap.size; omega) cv, own_keeps (own_keeps h.keys g1 t1 (by decide)) g2 t2 (by decide), own_keeps (own_keeps h.kids g1 t1 (by decide)) g2 t2 (by decide), (h.below.setCell (Nat.le_refl _) kv).setCell (Nat.le_refl _) cv⟩
end
/-- A node is told, with new rows of keys and kids. -/
def PutGives (w w' : World) (e : Ending) (lv nx : Int) (lo hi : ByteArray) (la : Bool) (av : Option Addr) (nv cv : Nat) (P : List ByteArray) (Q : List Int) : Prop :=
  ∃ (ka ca : Option Addr) (kc cc : Nat), e = .returned (.agg #[.int .i64 lv, .string lo, .string hi, .bool la, .int .i64 nx, .slice ka P.length kc, .slice av nv cv, .slice ca Q.length cc]) ∧
    w'.ownsRow (w.heap.size + 2) 9 1 (.slice ka P.length kc) P.length (P.map Value.string) ∧ w'.ownsRow (w.heap.size + 2) 3 1 (.slice ca Q.length cc) Q.length (Q.map (Value.int .i64)) ∧ Below w.heap.size w w'
/-- A node is told, and whether. -/
def GaveD (w w' : World) (e : Ending) (b : Bool) (n : Nod) : Prop :=
  ∃ (ak av ac : Option Addr) (ck cv cc : Nat), e = .returned (.tuple #[.agg #[.int .i64 n.lv, .string n.lo, .string n.hi, .bool n.la, .int .i64 n.nx, .slice ak n.ks.length ck, .slice av n.vs.length cv, .slice ac n.cs.length cc], .bool b]) ∧ NdAt w' ak av ac n.ks.length ck n.vs.length cv n.cs.length cc n.ks n.vs n.cs ∧ Below w.heap.size w w'
theorem GaveN.d {w w' : World} {e : Ending} {b : Bool} {n : Nod} (h : GaveN w w' e b n) : GaveD w w' e b n := by
  obtain ⟨ak, av, ac, ck, cv, cc, h1, h2, h3, _⟩ := h
  exact ⟨ak, av, ac, ck, cv, cc, h1, h2, h3⟩

end Go.Proofs.Ytlcnnnljdffbmaa
