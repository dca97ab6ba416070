/- inner.Post: a node with one entry more, or none. Condition: sizes that fit. -/
import Derived.Test.YtlcnnnljdffbmaaInnerHav
import Derived.Test.YtlcnnnljdffbmaaFind2
import Derived.Deep.RegionLawGrows
import Derived.Deep.RegionHeldLaw
namespace Go.Proofs.Ytlcnnnljdffbmaa
open Go.RowKit

/-- append as a step of a region, onto a row of the call's own, of whatever many. -/
theorem step_append_many {P : Program} {ops : Array Oper} {o : Oper} {a : Act} {w : World} {K : Act → World → Prop} {Q : Exit → Act → World → Prop} {E : Prop}
    (hg : o.guard = none) (s x : Operand) (t : TypeId) (hop : o.op = Op.call { callee := Callee.builtin Builtin.append, args := #[s, x], argTypes := #[t, t] })
    (base : Nat) (e : TypeId) (i : TypeInfo) (z : Value) (size bytes : Nat) (h1 : P.underlying t = some (.slice e)) (h2 : P.info? e = some i) (h3 : i.zero = some z) (h4 : i.size = size) (h5 : i.bytes = bytes) (h6 : z.cells.size = size) (h7 : 0 < size)
    (v : Value) (n : Nat) (xs : List Value) (hs : a.eval s = v) (hown : w.ownsRow base e size v n xs)
    (ad : Addr) (m c : Nat) (news : List Value) (hx : a.eval x = .slice (some ad) m c) (hn : news.length = m * size) (hc : ∀ j u, news[j]? = some u → w.cell? (ad.add j) = some u) (h1c : ∀ u ∈ news, u.oneCell' = true)
    (b1 : n + m ≤ maxLen) (b2 : (n + m) * bytes ≤ 140737488355328) (hbase : base ≤ w.heap.size)
    (hK : ∀ v' w', w'.ownsRow base e size v' (n + m) (xs ++ news) → w.grownBy w' v.ownBlock → K (a.put o.dst v') w') :
    if Region.wanted o (yielded ops a.tmps) = true then Oper.wp P o a w K Q else E := by
  have hw : Region.wanted o (yielded ops a.tmps) = true := by simp [Region.wanted, hg]
  rw [if_pos hw]
  obtain ⟨v', w', hrun, r1, r2, _⟩ := run_append_own (P := P) (w := w) base t o.type e i z size bytes h1 h2 h3 h4 h5 h6 h7 v n xs hown ad m c news hn hc h1c b1 b2 hbase
  unfold Oper.wp
  simp [execOp, hop, resolve, invoke, builtin, hs, hx, hrun, Result.andThen]
  exact hK v' w' r1 r2

theorem ecells_take (es : List (ByteArray × Int)) (a : Nat) (h : a ≤ es.length) : ecells (es.take a) = (ecells es).take (a * 2) := by
  have e1 : ecells es = ecells (es.take a) ++ ecells (es.drop a) := by rw [← ecells_append, List.take_append_drop]
  have hl : (ecells (es.take a)).length = a * 2 := by rw [ecells_len, List.length_take]; omega
  rw [e1, ← hl, List.take_left]
theorem ecells_drop (es : List (ByteArray × Int)) (a : Nat) (h : a ≤ es.length) : ecells (es.drop a) = (ecells es).drop (a * 2) := by
  have e1 : ecells es = ecells (es.take a) ++ ecells (es.drop a) := by rw [← ecells_append, List.take_append_drop]
  have hl : (ecells (es.take a)).length = a * 2 := by rw [ecells_len, List.length_take]; omega
  rw [e1, ← hl, List.drop_left]
theorem add_block (g o j : Nat) : (⟨g, o, none⟩ : Addr).add j = ⟨g, o + j, none⟩ := by
  by_cases h0 : j = 0
  · subst h0; simp [Addr.add]
  · simp [Addr.add, h0]
theorem news_two (w : World) (s : ByteArray) (z : Int) (t : TypeId) : ∀ j u, [Value.string s, .int .i64 z][j]? = some u → (w.alloc (.cells #[.string s, .int .i64 z] t)).cell? ((⟨w.heap.size, 0, none⟩ : Addr).add j) = some u :=
  World.news_of_block (cs := #[.string s, .int .i64 z]) (heap_alloc_new w _)
theorem news_twoD (w : World) (s : ByteArray) (z : Int) (t : TypeId) : ∀ j u, [Value.string s, .int .i64 z][j]? = some u → (w.alloc (.cells #[.string s, .int .i64 z] t)).drew.cell? ((⟨w.heap.size, 0, none⟩ : Addr).add j) = some u := news_two w s z t
theorem ones_e (s : ByteArray) (z : Int) : ∀ u ∈ [Value.string s, .int .i64 z], u.oneCell' = true := by intro u hu; simp at hu; rcases hu with rfl | rfl <;> rfl
theorem row_form2 {w : World} {B : Nat} {e : TypeId} {k : Nat} {v : Value} {n : Nat} {xs : List Value} (h : w.ownsRow B e k v n xs) : ∃ ao c, v = .slice ao n c := by
  rcases h.2 with ⟨rfl, hn⟩ | ⟨g, cap, cur, rfl, _⟩
  · exact ⟨none, 0, by rw [hn]⟩
  · exact ⟨_, _, rfl⟩
theorem NB.ifar8 {W : World} {A g : Nat} {cs : Array Value} (h : NB W A cs) (hne : A ≠ g) (v0 v1 v2 v3 v4 v5 v6 v7 : Value) : NB ((((((((W.setCell ⟨g, 0, none⟩ v0).setCell ⟨g, 1, none⟩ v1).setCell ⟨g, 2, none⟩ v2).setCell ⟨g, 3, none⟩ v3).setCell ⟨g, 4, none⟩ v4).setCell ⟨g, 5, none⟩ v5).setCell ⟨g, 6, none⟩ v6).setCell ⟨g, 7, none⟩ v7) A cs :=
  (wr5_far g A hne [(0, v0), (1, v1), (2, v2), (3, v3), (4, v4), (5, v5), (6, v6), (7, v7)] W).trans h
theorem Nod.ior_no (n : Nod) : Nod.or false n = .none := rfl
/-- What was told, stored into a box that is not its own. -/
theorem gave_stored {w w5 w8 : World} {A : Nat} {v : Value} {b : Bool} {n : Nod} (h : GaveN w5 w8 (.returned v) b n) (hb : Below w.heap.size w w5) (hA : w.heap.size ≤ A) (hA5 : A < w5.heap.size) (l : List (Nat × Value)) : GaveN w (wr5 w8 A l) (.returned v) b n := by
  obtain ⟨ak, av, ac, ck, cv, cc, h1, h2, h3, f1, f2, f3⟩ := h
  have ho : ∀ g, w5.heap.size ≤ g → (wr5 w8 A l).heap[g]? = w8.heap[g]? := fun g hg => wr5_far A g (by omega) l w8
  exact ⟨ak, av, ac, ck, cv, cc, h1, ⟨h2.k.off f1 ho, h2.v.off f2 ho, h2.c.off f3 ho⟩, wr5_below A w.heap.size hA l w w8 (hb.trans (h3.mono hb.size)), f1.base hb.size, f2.base hb.size, f3.base hb.size⟩

/-- An entry more. -/
def postE (es : List (ByteArray × Int)) (a : Nat) (low : ByteArray) (kid : Int) : List (ByteArray × Int) := es.take a ++ (low, kid) :: es.drop a
theorem postE_len {es : List (ByteArray × Int)} {a : Nat} (h : a ≤ es.length) (low : ByteArray) (kid : Int) : (postE es a low kid).length = es.length + 1 := by
  unfold postE; rw [List.length_append, List.length_cons, List.length_take, List.length_drop]; omega
theorem postE_cells (es : List (ByteArray × Int)) (a : Nat) (low : ByteArray) (kid : Int) : ecells (postE es a low kid) = (ecells (es.take a) ++ [.string low, .int .i64 kid]) ++ ecells (es.drop a) := by
  unfold postE
  rw [ecells_append, List.append_assoc]; rfl
theorem postE_keys {ks : List ByteArray} {cs : List Int} (h : cs.length = ks.length) (a : Nat) (low : ByteArray) (kid : Int) : (postE (ents ks cs) a low kid).map (·.1) = insF ks a low := by
  unfold postE insF
  rw [List.map_append, List.map_cons, List.map_take, List.map_drop, ents_keys h]
theorem postE_kids {ks : List ByteArray} {cs : List Int} (h : cs.length = ks.length) (a : Nat) (low : ByteArray) (kid : Int) : (postE (ents ks cs) a low kid).map (·.2) = insF cs a kid := by
  unfold postE insF
  rw [List.map_append, List.map_cons, List.map_take, List.map_drop, ents_kids h]
/-- A node with an entry more. -/
def Nod.post (n : Nod) (low : ByteArray) (kid : Int) : Nod := { n with ks := insF n.ks (placeF n.ks low) low, vs := [], cs := insF n.cs (placeF n.ks low) kid }
def Nod.PostP (n : Nod) (low : ByteArray) (kid fan : Int) : Prop := n.Inner ∧ (4 ≤ fan ∧ fan ≤ 64) ∧ (n.post low kid).Sound fan

end Go.Proofs.Ytlcnnnljdffbmaa
