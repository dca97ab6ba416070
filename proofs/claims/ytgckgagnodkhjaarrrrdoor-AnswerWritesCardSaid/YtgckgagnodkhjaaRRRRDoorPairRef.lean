/- bowerref06.Delete, Put and Same on rows of pairs. Condition: at most 2^38 pairs. -/
import Derived.Test.YtgckgagnodkhjaaRRRRDoorPairRows
import Derived.Outline
namespace Go.Proofs.YtgckgagnodkhjaaRRRRDoor
open Go.RowKit

def pcells (ps : List (ByteArray × Int)) : List Value := ps.flatMap fun p => [.string p.1, .int .u64 p.2]

theorem pcells_len (ps : List (ByteArray × Int)) : (pcells ps).length = ps.length * 2 := by
  unfold pcells
  induction ps with
  | nil => rfl
  | cons p ps ih => rw [List.flatMap_cons, List.length_append, ih, List.length_cons]; simp; omega

theorem pcells_append (ps qs : List (ByteArray × Int)) : pcells (ps ++ qs) = pcells ps ++ pcells qs := by unfold pcells; rw [List.flatMap_append]

theorem pcells_get (ps : List (ByteArray × Int)) (j : Nat) (hj : j < ps.length) : (pcells ps)[j * 2]? = some (.string (ntp ps j).1) ∧ (pcells ps)[j * 2 + 1]? = some (.int .u64 (ntp ps j).2) := by
  induction ps generalizing j with
  | nil => simp at hj
  | cons p ps ih =>
    cases j with
    | zero => exact ⟨rfl, rfl⟩
    | succ j =>
      have h := ih j (by simpa using hj)
      have e1 : pcells (p :: ps) = .string p.1 :: .int .u64 p.2 :: pcells ps := rfl
      have e2 : ntp (p :: ps) (j + 1) = ntp ps j := rfl
      rw [e1, e2, show (j + 1) * 2 = j * 2 + 1 + 1 by omega, List.getElem?_cons_succ, List.getElem?_cons_succ, List.getElem?_cons_succ, List.getElem?_cons_succ]
      exact h

/-- A row of pairs of the call's own. -/
def OwnP (w : World) (B : Nat) (v : Value) (ps : List (ByteArray × Int)) : Prop := w.ownsRow B 32 2 v ps.length (pcells ps)

theorem OwnP.rd {w : World} {B : Nat} {v : Value} {ps : List (ByteArray × Int)} (h : OwnP w B v ps) : RdP w v ps := by
  have h0 := h
  rcases h.2 with ⟨rfl, hz⟩ | ⟨g, cap, cur, rfl, _, hg, hnc, hm, _⟩
  · have : ps = [] := List.eq_nil_of_length_eq_zero hz
    subst this
    exact ⟨none, 0, rfl, Nat.le_refl _, by omega, fun h => absurd h (by simp)⟩
  · unfold maxLen at hm
    refine ⟨_, cap, rfl, hnc, hm, fun _ => ⟨g, 0, rfl, fun j hj => ?_⟩⟩
    have := pcells_get ps j hj
    rw [Nat.zero_add]
    exact ⟨(h0.cellAt (j * 2) (by omega)).trans this.1, (h0.cellAt (j * 2 + 1) (by omega)).trans this.2⟩

theorem OwnP.nil (w : World) (B : Nat) : OwnP w B (.slice none 0 0) [] := World.ownsRow_nil _ _ _ _

theorem OwnP.keep {w w' : World} {B : Nat} {v : Value} {ps : List (ByteArray × Int)} (h : OwnP w B v ps) (hb : Below w.heap.size w w') : OwnP w' B v ps := by
  refine ⟨h.1, ?_⟩
  rcases h.2 with hn | ⟨g, cap, cur, rfl, hbg, hg, rest⟩
  · exact Or.inl hn
  · exact Or.inr ⟨g, cap, cur, rfl, hbg, by rw [hb.block g (lt_of_block hg)]; exact hg, rest⟩

theorem infoPair : (Tryd.prog.info? 32).map (fun i => (i.zero, i.size, i.bytes)) = some (some (.agg #[.string ⟨#[]⟩, .int .u64 0]), 2, 24) := by kernel_rfl

/-- The pairs of all keys but one. -/
def delP (ps : List (ByteArray × Int)) (k : ByteArray) : List (ByteArray × Int) := ps.filter fun p => decide (p.1 ≠ k)

theorem delP_step (ps : List (ByteArray × Int)) (k : ByteArray) (i : Nat) (hi : i < ps.length) : delP (ps.take (i + 1)) k = delP (ps.take i) k ++ (if (ntp ps i).1 = k then [] else [ntp ps i]) := by
  unfold delP
  rw [List.take_succ_eq_append_getElem hi, List.filter_append, ntp_eq hi]
  by_cases h : ps[i].1 = k <;> simp [h]

theorem delP_len (ps : List (ByteArray × Int)) (k : ByteArray) (i : Nat) : (delP (ps.take i) k).length ≤ ps.length := by
  unfold delP
  refine Nat.le_trans (List.length_filter_le _ _) ?_
  rw [List.length_take]; omega

theorem two_news (w : World) (s : ByteArray) (z : Int) (t : TypeId) : ∀ j u, [Value.string s, .int .u64 z][j]? = some u → (w.alloc (.cells #[.string s, .int .u64 z] t)).cell? ((⟨w.heap.size, 0, none⟩ : Addr).add j) = some u := by
  intro j u hj
  obtain ⟨hlt, e⟩ := List.getElem?_eq_some_iff.1 hj
  have : j = 0 ∨ j = 1 := by simp at hlt; omega
  rcases this with rfl | rfl
  · rw [show (⟨w.heap.size, 0, none⟩ : Addr).add 0 = ⟨w.heap.size, 0, none⟩ by simp [Addr.add], World.cell?_alloc_at _ _ _ _ (by simp)]
    simpa using e
  · rw [show (⟨w.heap.size, 0, none⟩ : Addr).add 1 = ⟨w.heap.size, 1, none⟩ by simp [Addr.add], World.cell?_alloc_at _ _ _ _ (by simp)]
    simpa using e

/-- The pairs and one more. -/
theorem OwnP.more {w' : World} {B : Nat} {v' : Value} {qs : List (ByteArray × Int)} {s : ByteArray} {z : Int} (h : w'.ownsRow B 32 2 v' (qs.length + 1) (pcells qs ++ [.string s, .int .u64 z])) : OwnP w' B v' (qs ++ [(s, z)]) := by
  unfold OwnP
  rw [List.length_append, pcells_append]
  exact h

def DelGives (w w' : World) (e : Ending) (ps : List (ByteArray × Int)) : Prop := ∃ v, e = .returned v ∧ OwnP w' w.heap.size v ps ∧ Below w.heap.size w w'

end Go.Proofs.YtgckgagnodkhjaaRRRRDoor
