/- Rows of pairs: what a slice of them reads as; bowerref06.Get. Condition: at most 2^38 pairs. -/
import Derived.Test.YtgckgagnodkhjaaRRRRDoorRowFacts
import Derived.Test.YtgckgagnodkhjaaRRRRDoorKeyLess
namespace Go.Proofs.YtgckgagnodkhjaaRRRRDoor
open Go.RowKit

/-- The pair at a place. -/
def ntp (ps : List (ByteArray × Int)) (i : Nat) : ByteArray × Int := ps.getD i (⟨#[]⟩, 0)

theorem ntp_eq {ps : List (ByteArray × Int)} {i : Nat} (h : i < ps.length) : ntp ps i = ps[i] := by
  unfold ntp
  rw [List.getD_eq_getElem?_getD, List.getElem?_eq_getElem h]; rfl

/-- A slice value that reads as pairs, two cells each. -/
def RdP (w : World) (v : Value) (ps : List (ByteArray × Int)) : Prop :=
  ∃ ao c, v = .slice ao ps.length c ∧ ps.length ≤ c ∧ c ≤ 9223372036854775807 ∧ (0 < ps.length → ∃ g o, ao = some ⟨g, o, none⟩ ∧ ∀ j, j < ps.length → w.cell? ⟨g, o + j * 2, none⟩ = some (.string (ntp ps j).1) ∧ w.cell? ⟨g, o + j * 2 + 1, none⟩ = some (.int .u64 (ntp ps j).2))

theorem RdP.open {w : World} {v : Value} {ps : List (ByteArray × Int)} (h : RdP w v ps) : ∃ ao c, v = .slice ao ps.length c := by
  obtain ⟨ao, c, h1, _⟩ := h
  exact ⟨ao, c, h1⟩

theorem RdP.len {w : World} {ao : Option Addr} {n c : Nat} {ps : List (ByteArray × Int)} (h : RdP w (.slice ao n c) ps) : ps.length = n ∧ n ≤ c ∧ c ≤ 9223372036854775807 := by
  obtain ⟨ao', c', h1, h2, h3, h4⟩ := h
  injection h1 with e1 e2 e3
  omega

theorem RdP.at_ {w : World} {ao : Option Addr} {n c : Nat} {ps : List (ByteArray × Int)} (h : RdP w (.slice ao n c) ps) (i : Nat) (hi : i < n) :
    ∃ g o, ao = some ⟨g, o, none⟩ ∧ ∀ j, j < n → w.cell? ⟨g, o + j * 2, none⟩ = some (.string (ntp ps j).1) ∧ w.cell? ⟨g, o + j * 2 + 1, none⟩ = some (.int .u64 (ntp ps j).2) := by
  have hl := h.len
  obtain ⟨ao', c', h1, h2, h3, h4⟩ := h
  injection h1 with e1 e2 e3
  subst e1
  obtain ⟨g, o, e, hc⟩ := h4 (by omega)
  exact ⟨g, o, e, fun j hj => hc j (by omega)⟩

theorem RdP.keep {w w' : World} {v : Value} {ps : List (ByteArray × Int)} (h : RdP w v ps) (hb : Below w.heap.size w w') : RdP w' v ps := by
  obtain ⟨ao, c, h1, h2, h3, h4⟩ := h
  refine ⟨ao, c, h1, h2, h3, fun hp => ?_⟩
  obtain ⟨g, o, e, hc⟩ := h4 hp
  refine ⟨g, o, e, fun j hj => ?_⟩
  have hlt : g < w.heap.size := World.block_lt_of_cell? w _ (hc j hj).1
  exact ⟨(hb.cell (p := ⟨g, o + j * 2, none⟩) hlt).trans (hc j hj).1, (hb.cell (p := ⟨g, o + j * 2 + 1, none⟩) hlt).trans (hc j hj).2⟩

theorem txt_ne {a b : ByteArray} (h : a ≠ b) : (a.toList == b.toList) = false := by
  rw [beq_eq_false_iff_ne, ByteArray.toList_eq, ByteArray.toList_eq]
  intro e
  apply h
  apply ByteArray.ext
  apply Array.ext'
  exact e
theorem txt_eq {a b : ByteArray} (h : a = b) : (a.toList == b.toList) = true := by rw [h]; simp

/-- What a row of pairs has of a key: the first one. -/
def getP (ps : List (ByteArray × Int)) (k : ByteArray) : Int × Bool := match ps.find? (fun p => decide (p.1 = k)) with | some p => (p.2, true) | none => (0, false)

theorem getP_at {ps : List (ByteArray × Int)} {k : ByteArray} (i : Nat) (hi : i < ps.length) (hall : ∀ j, j < i → (ntp ps j).1 ≠ k) (he : (ntp ps i).1 = k) : getP ps k = ((ntp ps i).2, true) := by
  unfold getP
  have : ps.find? (fun p => decide (p.1 = k)) = some ps[i] := by
    rw [List.find?_eq_some_iff_getElem]
    refine ⟨by rw [← ntp_eq hi]; simpa using he, i, hi, rfl, fun j hj => ?_⟩
    have := hall j hj
    rw [ntp_eq (by omega)] at this
    simpa using this
  rw [this, ntp_eq hi]

theorem getP_no {ps : List (ByteArray × Int)} {k : ByteArray} (hall : ∀ j, j < ps.length → (ntp ps j).1 ≠ k) : getP ps k = (0, false) := by
  unfold getP
  have : ps.find? (fun p => decide (p.1 = k)) = none := by
    rw [List.find?_eq_none]
    intro p hp
    obtain ⟨j, hj, rfl⟩ := List.getElem_of_mem hp
    have := hall j hj
    rw [ntp_eq hj] at this
    simpa using this
  rw [this]

end Go.Proofs.YtgckgagnodkhjaaRRRRDoor
