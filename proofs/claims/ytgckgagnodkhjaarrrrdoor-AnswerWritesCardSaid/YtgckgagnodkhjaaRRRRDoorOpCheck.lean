/- op.Check; bowerref16.Uses, uses, Sound. Condition: texts that fit. -/
import Derived.Test.YtgckgagnodkhjaaRRRRDoorOpBase
namespace Go.Proofs.YtgckgagnodkhjaaRRRRDoor
open Go.RowKit

/-- Is an operation sound? -/
def opSoundB (k : Int) (key tx : ByteArray) (lim : Int) : Bool := usI k && (!usK k || opKeyB key) && (!usT k || endB tx key) && (!usT k || limB lim)

theorem below_of_drew {w w' : World} (h : Drew w w') (B : Nat) : Below B w w' := by
  obtain ⟨q, rfl⟩ := h
  exact below_drewN (Below.refl _ _) q

/-- Is a letter among a text's bytes? -/
def hasB (s : ByteArray) (c : UInt8) : Bool := s.data.toList.any (· == c)
end Go.Proofs.YtgckgagnodkhjaaRRRRDoor
