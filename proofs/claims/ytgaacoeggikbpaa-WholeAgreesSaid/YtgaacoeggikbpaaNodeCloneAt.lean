/- node.Clone's middle: behind the three copies. No walk. -/
import Derived.Test.YtgaacoeggikbpaaNodeClone
namespace Go.Proofs.Ytgaacoeggikbpaa
open Go.RowKit

def CloneGives (w w' : World) (e : Ending) (lv nx : Int) (lo hi : ByteArray) (la : Bool) (ks : List ByteArray) (vs : List Nat) (cs : List Int) : Prop := ∃ kv vv cv, e = .returned (.agg #[.int .i64 lv, .string lo, .string hi, .bool la, .int .i64 nx, kv, vv, cv]) ∧ NewRow w w' 9 kv (ks.map Value.string) ∧ NewRow w w' 30 vv (vs.map uv) ∧ NewRow w w' 3 cv (cs.map (Value.int .i64)) ∧ Below w.heap.size w w'

theorem ones_str (ks : List ByteArray) : ∀ u ∈ ks.map Value.string, u.oneCell' = true := by
  intro u hu
  obtain ⟨_, _, rfl⟩ := List.mem_map.1 hu
  rfl
theorem ones_u64 (vs : List Nat) : ∀ u ∈ vs.map uv, u.oneCell' = true := by
  intro u hu
  obtain ⟨_, _, rfl⟩ := List.mem_map.1 hu
  rfl
theorem ones_int (cs : List Int) : ∀ u ∈ cs.map (Value.int .i64), u.oneCell' = true := by
  intro u hu
  obtain ⟨_, _, rfl⟩ := List.mem_map.1 hu
  rfl

/-- Writes into one block, one behind the other. -/
def wr5 (W : World) (A : Nat) : List (Nat × Value) → World
  | [] => W
  | p :: l => wr5 (W.setCell ⟨A, p.1, none⟩ p.2) A l
theorem wr5_far (A g : Nat) (hne : g ≠ A) : ∀ (l : List (Nat × Value)) (W : World), (wr5 W A l).heap[g]? = W.heap[g]?
  | [], _ => rfl
  | p :: l, W => (wr5_far A g hne l _).trans (Below.heap_setCell W ⟨A, p.1, none⟩ p.2 g hne)
theorem wr5_below (A B : Nat) (hA : B ≤ A) : ∀ (l : List (Nat × Value)) (w W : World), Below B w W → Below B w (wr5 W A l)
  | [], _, _, h => h
  | _ :: l, w, _, h => wr5_below A B hA l w _ (h.setCell hA _)
theorem NewRow.far {w W W' : World} {t : TypeId} {v : Value} {xs : List Value} (h : NewRow w W t v xs) (hs : ∀ g, w.heap.size ≤ g → W'.heap[g]? = W.heap[g]?) : NewRow w W' t v xs := by
  rcases h with ⟨g, h1, h2, h3⟩ | h
  · refine Or.inl ⟨g, h1, h2, ?_⟩
    unfold Whole
    rw [hs g h2]; exact h3
  · exact Or.inr h

/-- A result's box, empty. -/
def nz : Array Value := #[.int .i64 0, .string ⟨#[]⟩, .string ⟨#[]⟩, .bool false, .int .i64 0, .slice none 0 0, .slice none 0 0, .slice none 0 0]
theorem NB.frozen {V : World} {A : Nat} {cs : Array Value} (h : NB V A cs) (i : Nat) : V.frozen? ⟨A, i, none⟩ = false := by
  unfold NB at h
  simp [World.frozen?, h]

theorem NB.set {V : World} {A : Nat} {cs : Array Value} (h : NB V A cs) (i : Nat) (u : Value) : NB (V.setCell ⟨A, i, none⟩ u) A (cs.setIfInBounds i u) := heap_setCell_same V A i cs _ u h
theorem NB.far {V : World} {A : Nat} {cs : Array Value} (h : NB V A cs) {p : Addr} (hne : A ≠ p.block) (u : Value) : NB (V.setCell p u) A cs := (Below.heap_setCell V p u A hne).trans h

/-- Behind the three copies. -/
def CloneAt (w w1 wx : World) (lv nx : Int) (lo hi : ByteArray) (la : Bool) (ks : List ByteArray) (vs : List Nat) (cs : List Int) : Prop :=
  ∃ ko vo co, NB wx w.heap.size #[.int .i64 lv, .string lo, .string hi, .bool la, .int .i64 nx, .slice ko ks.length ks.length, .slice vo vs.length vs.length, .slice co cs.length cs.length] ∧
    NB wx (w.heap.size + 1) #[.int .i64 0, .string ⟨#[]⟩, .string ⟨#[]⟩, .bool false, .int .i64 0, .slice none 0 0, .slice none 0 0, .slice none 0 0] ∧
    NewRow w1 wx 9 (.slice ko ks.length ks.length) (ks.map Value.string) ∧ NewRow w1 wx 30 (.slice vo vs.length vs.length) (vs.map uv) ∧ NewRow w1 wx 3 (.slice co cs.length cs.length) (cs.map (Value.int .i64)) ∧ Below w.heap.size w wx

theorem cloneAt_of {w w1 wa wb wc : World} (lv nx : Int) (lo hi : ByteArray) (la : Bool) (ak av ac : Option Addr) (nk ck nv cv nc cc : Nat) {ks : List ByteArray} {vs : List Nat} {cs : List Int} {ko vo co : Option Addr} (hN1 : NB w1 w.heap.size #[.int .i64 lv, .string lo, .string hi, .bool la, .int .i64 nx, .slice ak nk ck, .slice av nv cv, .slice ac nc cc])
    (hN2 : NB w1 (w.heap.size + 1) #[.int .i64 0, .string ⟨#[]⟩, .string ⟨#[]⟩, .bool false, .int .i64 0, .slice none 0 0, .slice none 0 0, .slice none 0 0]) (hz : w1.heap.size = w.heap.size + 1 + 1) (hb : Below w.heap.size w w1)
    (hA1 : Below w1.heap.size w1 wa) (hb2 : Below wa.heap.size wa wb) (hb3 : Below wb.heap.size wb wc)
    (hk1 : NewRow w1.drew wa 9 (.slice ko (ks.map Value.string).length (ks.map Value.string).length) (ks.map Value.string)) (hk2 : NewRow wa wb 30 (.slice vo (vs.map uv).length (vs.map uv).length) (vs.map uv)) (hk3 : NewRow wb wc 3 (.slice co (cs.map (Value.int .i64)).length (cs.map (Value.int .i64)).length) (cs.map (Value.int .i64))) :
    CloneAt w w1 (((wc.setCell ⟨w.heap.size, 5, none⟩ (.slice ko ks.length ks.length)).setCell ⟨w.heap.size, 6, none⟩ (.slice vo vs.length vs.length)).setCell ⟨w.heap.size, 7, none⟩ (.slice co cs.length cs.length)) lv nx lo hi la ks vs cs := by
  rw [List.length_map] at hk1 hk2 hk3
  have hA3 : Below w1.heap.size w1 wc := (hA1.trans (hb2.mono hA1.size)).trans (hb3.mono (Nat.le_trans hA1.size hb2.size))
  have hf : ∀ g, w1.heap.size ≤ g → (((wc.setCell ⟨w.heap.size, 5, none⟩ (.slice ko ks.length ks.length)).setCell ⟨w.heap.size, 6, none⟩ (.slice vo vs.length vs.length)).setCell ⟨w.heap.size, 7, none⟩ (.slice co cs.length cs.length)).heap[g]? = wc.heap[g]? := by
    intro g hg
    have hne : g ≠ w.heap.size := by omega
    rw [Below.heap_setCell _ _ _ _ hne, Below.heap_setCell _ _ _ _ hne, Below.heap_setCell _ _ _ _ hne]
  refine ⟨ko, vo, co, ?_, ?_, ?_, ?_, ?_, ?_⟩
  · exact (((hN1.below hA3).set 5 _).set 6 _).set 7 _
  · have hne : w.heap.size + 1 ≠ w.heap.size := by omega
    exact (((hN2.below hA3).far hne _).far hne _).far hne _
  · exact (NewRow.back (w0 := w1) ((hk1.keep hb2).keep hb3) (Nat.le_refl _)).far hf
  · exact (NewRow.back (w0 := w1) (hk2.keep hb3) hA1.size).far hf
  · exact (NewRow.back (w0 := w1) hk3 (Nat.le_trans hA1.size hb2.size)).far hf
  · exact (((hb.trans (hA3.mono (by omega))).setCell (Nat.le_refl _) _).setCell (Nat.le_refl _) _).setCell (Nat.le_refl _) _

end Go.Proofs.Ytgaacoeggikbpaa
