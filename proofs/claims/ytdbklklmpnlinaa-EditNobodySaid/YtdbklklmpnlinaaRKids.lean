/- The document's Kid (bowerref10), part and kid (bowerref19). Conditions: sizes that fit. The document's part and kid (bowerref19). Conditions: sizes that fit. -/
import Derived.Test.YtdbklklmpnlinaaWayKit
import Derived.Test.YtdbklklmpnlinaaDowns
namespace Go.Proofs.Ytdbklklmpnlinaa
open Go.RowKit Go.Maps

/-- A kid is told, or none. -/
def KidIs (w w' : World) (e : Ending) (o : Option Int) : Prop := ∃ (x : Int) (b : Bool), e = .returned (.tuple #[.int .i64 x, .bool b]) ∧ o = (if b then some x else none) ∧ Below w.heap.size w w'
def atI (o : Option Nat) : Int := match o with | none => -1 | some a => a
theorem kidP_less {below : Bool} {ks : List ByteArray} {k : ByteArray} {i : Nat} (h : lss (nth ks i).data.toList k.data.toList = true) : kidP below ks k i = true := by
  unfold kidP
  cases below with
  | true => simp only [if_true]; unfold pFind; rw [h]; rfl
  | false => simp only [Bool.false_eq_true, if_false]; unfold pFloor; rw [lss_asymm _ _ h]; rfl
theorem kidP_below {ks : List ByteArray} {k : ByteArray} {i : Nat} (h : lss (nth ks i).data.toList k.data.toList = false) : kidP true ks k i = false := by
  unfold kidP
  simp only [if_true]; unfold pFind; rw [h]; rfl
theorem kidP_eq {ks : List ByteArray} {k : ByteArray} {i : Nat} (h : nth ks i = k) : kidP false ks k i = true := by
  unfold kidP
  simp only [Bool.false_eq_true, if_false]; unfold pFloor; rw [h, lss_irrefl]; rfl
theorem kidP_ne {ks : List ByteArray} {k : ByteArray} {i : Nat} (h : lss (nth ks i).data.toList k.data.toList = false) (hn : nth ks i ≠ k) : kidP false ks k i = false := by
  unfold kidP
  simp only [Bool.false_eq_true, if_false]; unfold pFloor
  cases hl : lss k.data.toList (nth ks i).data.toList with
  | true => rfl
  | false =>
    exfalso
    have e := lss_total _ _ h hl
    exact hn (ByteArray.ext (by rw [← Array.toList_inj]; exact e))
theorem lastI_yes {p : Nat → Bool} {i : Nat} (h : p i = true) : atI (lastI p (i + 1)) = i := by unfold lastI; rw [if_pos h]; rfl
theorem lastI_no {p : Nat → Bool} {i : Nat} (h : p i = false) : atI (lastI p (i + 1)) = atI (lastI p i) := by rw [lastI, if_neg (by rw [h]; simp)]
theorem lastI_lt {p : Nat → Bool} : ∀ {n a : Nat}, lastI p n = some a → a < n
  | 0, _, h => by cases h
  | n + 1, a, h => by
    unfold lastI at h
    split at h
    · injection h with h; omega
    · exact Nat.lt_succ_of_lt (lastI_lt h)

end Go.Proofs.Ytdbklklmpnlinaa

namespace Go.Proofs.Ytdbklklmpnlinaa
open Go.RowKit Go.Maps

def PartIs (w w' : World) (e : Ending) (on ay : Bool) : Prop := e = .returned (.tuple #[.bool on, .bool (!on && !ay)]) ∧ Below w.heap.size w w'
end Go.Proofs.Ytdbklklmpnlinaa
