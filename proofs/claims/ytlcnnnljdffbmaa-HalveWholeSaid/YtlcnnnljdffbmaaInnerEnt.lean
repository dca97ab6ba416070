/- inner.entries: the entries of a node that has as many kids as keys, in a row of their own. Condition: sizes that fit. -/
import Derived.Test.YtlcnnnljdffbmaaInnerMay
import Derived.Test.YtlcnnnljdffbmaaGrowRow
namespace Go.Proofs.Ytlcnnnljdffbmaa
open Go.RowKit

def ecells (es : List (ByteArray × Int)) : List Value := es.flatMap fun p => [.string p.1, .int .i64 p.2]
theorem ecells_len (es : List (ByteArray × Int)) : (ecells es).length = es.length * 2 := by
  unfold ecells
  induction es with
  | nil => rfl
  | cons p es ih => rw [List.flatMap_cons, List.length_append, ih, List.length_cons]; simp; omega
theorem ecells_append (a b : List (ByteArray × Int)) : ecells (a ++ b) = ecells a ++ ecells b := by unfold ecells; rw [List.flatMap_append]
theorem ecells_ones (es : List (ByteArray × Int)) : ∀ u ∈ ecells es, u.oneCell' = true := by
  intro u hu
  unfold ecells at hu
  obtain ⟨p, _, h⟩ := List.mem_flatMap.1 hu
  simp at h
  rcases h with rfl | rfl <;> rfl
def nte (es : List (ByteArray × Int)) (i : Nat) : ByteArray × Int := es.getD i (⟨#[]⟩, 0)
theorem nte_eq {es : List (ByteArray × Int)} {i : Nat} (h : i < es.length) : nte es i = es[i] := by
  unfold nte
  rw [List.getD_eq_getElem?_getD, List.getElem?_eq_getElem h]; rfl
theorem ecells_get (es : List (ByteArray × Int)) (j : Nat) (hj : j < es.length) : (ecells es)[j * 2]? = some (.string (nte es j).1) ∧ (ecells es)[j * 2 + 1]? = some (.int .i64 (nte es j).2) := by
  induction es generalizing j with
  | nil => simp at hj
  | cons p es ih =>
    cases j with
    | zero => exact ⟨rfl, rfl⟩
    | succ j =>
      have h := ih j (by simpa using hj)
      have e1 : ecells (p :: es) = .string p.1 :: .int .i64 p.2 :: ecells es := rfl
      have e2 : nte (p :: es) (j + 1) = nte es j := rfl
      rw [e1, e2, show (j + 1) * 2 = j * 2 + 1 + 1 by omega, List.getElem?_cons_succ, List.getElem?_cons_succ, List.getElem?_cons_succ, List.getElem?_cons_succ]
      exact h

/-- The entries of two rows. -/
def ents (ks : List ByteArray) (cs : List Int) : List (ByteArray × Int) := List.zipWith (fun (k : ByteArray) (c : Int) => (k, c)) ks cs
theorem ents_len {ks : List ByteArray} {cs : List Int} (h : cs.length = ks.length) : (ents ks cs).length = ks.length := by
  unfold ents; rw [List.length_zipWith, h, Nat.min_self]
theorem ents_at {ks : List ByteArray} {cs : List Int} (h : cs.length = ks.length) (i : Nat) (hi : i < ks.length) : nte (ents ks cs) i = (nth ks i, ni cs i) := by
  rw [nte_eq (by rw [ents_len h]; exact hi), nth_eq hi, ni_eq (by omega)]
  unfold ents
  rw [List.getElem_zipWith]
theorem ents_keys {ks : List ByteArray} {cs : List Int} (h : cs.length = ks.length) : (ents ks cs).map (·.1) = ks := by
  unfold ents
  rw [List.map_zipWith]
  apply List.ext_getElem
  · rw [List.length_zipWith]; omega
  · intro i h1 h2
    rw [List.getElem_zipWith]
theorem ents_kids {ks : List ByteArray} {cs : List Int} (h : cs.length = ks.length) : (ents ks cs).map (·.2) = cs := by
  unfold ents
  rw [List.map_zipWith]
  apply List.ext_getElem
  · rw [List.length_zipWith]; omega
  · intro i h1 h2
    rw [List.getElem_zipWith]

theorem set_two {α : Type} (X Z : List α) (a b : α) (h : 2 ≤ Z.length) : ((X ++ Z).set X.length a).set (X.length + 1) b = X ++ [a, b] ++ Z.drop 2 := by
  rcases Z with _ | ⟨y1, _ | ⟨y2, Z⟩⟩
  · simp at h
  · simp at h
  · simp
theorem ent_step (es : List (ByteArray × Int)) (zs : List Value) (i : Nat) (hi : i < es.length) (hz : zs.length = es.length * 2) :
    ((ecells (es.take i) ++ zs.drop (i * 2)).set (i * 2) (.string (nte es i).1)).set (i * 2 + 1) (.int .i64 (nte es i).2) = ecells (es.take (i + 1)) ++ zs.drop ((i + 1) * 2) := by
  have hl : (ecells (es.take i)).length = i * 2 := by rw [ecells_len, List.length_take]; omega
  have := set_two (ecells (es.take i)) (zs.drop (i * 2)) (.string (nte es i).1) (.int .i64 (nte es i).2) (by rw [List.length_drop]; omega)
  rw [hl] at this
  rw [this, List.take_succ_eq_append_getElem hi, ecells_append, List.drop_drop, ← nte_eq hi]
  rw [show i * 2 + 2 = (i + 1) * 2 by omega]
  rfl

end Go.Proofs.Ytlcnnnljdffbmaa
