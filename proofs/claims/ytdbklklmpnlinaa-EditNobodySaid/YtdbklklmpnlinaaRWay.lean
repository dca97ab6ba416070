/- The document's way (bowerref19.Way), in a view of sound nodes. Conditions: sizes that fit. -/
import Derived.Test.YtdbklklmpnlinaaRKids
import Derived.Test.YtdbklklmpnlinaaFrDocs
import Derived.WalkMore
namespace Go.Proofs.Ytdbklklmpnlinaa
open Go.RowKit Go.Maps

theorem setCell_same19 {w : World} {g i : Nat} {t : TypeId} {cs : Array Value} {v : Value} (h : BX w g t cs) (hv : cs[i]? = some v) : w.setCell ⟨g, i, none⟩ v = w := by
  have e : cs.setIfInBounds i v = cs := by
    obtain ⟨hi, he⟩ := Array.getElem?_eq_some_iff.1 hv
    apply Array.ext_getElem?
    intro j
    rw [Array.getElem?_setIfInBounds]
    by_cases hij : i = j
    · subst hij
      simp [hi, he]
    · simp [hij]
  have h2 : (w.setCell ⟨g, i, none⟩ v).heap = w.heap := by
    apply Array.ext_getElem?
    intro j
    by_cases hj : j = g
    · subst hj
      rw [heap_setCell_same w j i cs t v h, e]
      exact h.symm
    · exact Below.heap_setCell _ _ _ _ hj
  show ({ w with heap := (w.setCell ⟨g, i, none⟩ v).heap } : World) = w
  rw [h2]
theorem PV.nd {w : World} {ak av ac : Option Addr} {nk ck nv cv nc cc : Nat} {kn : Kn} (h : PV w (.slice ak nk ck) (.slice av nv cv) (.slice ac nc cc) kn) : nk = kn.n.ks.length ∧ nv = kn.n.vs.length ∧ nc = kn.n.cs.length ∧ NdAt w ak av ac nk ck nv cv nc cc kn.n.ks kn.n.vs kn.n.cs := by
  obtain ⟨ak', av', ac', ck', cv', cc', e, hN⟩ := h
  unfold Kn.val at e
  injection e with e
  injection e with e
  simp only [List.cons.injEq, Value.slice.injEq, and_true, true_and] at e
  obtain ⟨⟨rfl, rfl, rfl⟩, ⟨rfl, rfl, rfl⟩, rfl, rfl, rfl⟩ := e
  exact ⟨rfl, rfl, rfl, hN⟩
/-- What the document's way tells. -/
def WayGives (w0 : World) (kind : Nat) (k : ByteArray) (ks : List Kn) (M : Nat) (w w' : World) (e : Ending) (ao : Option Addr) (n c : Nat) (so : Option Addr) (sn sc : Nat) (kk mm : Int) : Prop :=
  ∃ (oo : Option Addr) (on oc : Nat) (ok : Bool) (k' m' : Int), e = .returned (.tuple #[.agg #[.slice ao n c, .slice so sn sc, .int .i64 k', .int .i64 m'], .slice oo on oc, .bool ok]) ∧ Below w.heap.size w w' ∧
    match runW kind k ks M ⟨0, -1, []⟩ with
    | .done l => ok = true ∧ k' = kk ∧ m' = mm ∧ KsR (PV w0) w' w.heap.size (.slice oo on oc) l
    | .miss cell => ok = false ∧ on = 0 ∧ k' = lackK kk (cellB cell) 1 ∧ m' = lackM kk mm (cellB cell) cell
    | .lost => ok = false ∧ on = 0 ∧ k' = lackK kk false 0 ∧ m' = lackM kk mm false 0

end Go.Proofs.Ytdbklklmpnlinaa
