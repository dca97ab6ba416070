/- bowerref03.Compare, Inside, Beneath on any texts: what they answer, by lists of bytes; nothing is written. Conditions: texts of at most 2^47 bytes. -/
import Derived.Test.YtgckgagnodkhjaaRRRRDoorKeyLess
namespace Go.Proofs.YtgckgagnodkhjaaRRRRDoor
open Go.RowKit

theorem cmp3_eq1 {a b : List UInt8} (h : lss a b = true) : cmp3 a b = -1 := by simp [cmp3, h]
theorem cmp3_eq2 {a b : List UInt8} (h : lss a b = false) (k : lss b a = true) : cmp3 a b = 1 := by simp [cmp3, h, k]
theorem cmp3_eq3 {a b : List UInt8} (h : lss a b = false) (k : lss b a = false) : cmp3 a b = 0 := by simp [cmp3, h, k]

/-- In the range. -/
def insideB (low high : List UInt8) (last : Bool) (k : List UInt8) : Bool := !lss k low && (last || lss k high)
def beneathB (low high : List UInt8) (last : Bool) (k : List UInt8) : Bool := lss low k && (last || !lss high k)

end Go.Proofs.YtgckgagnodkhjaaRRRRDoor
