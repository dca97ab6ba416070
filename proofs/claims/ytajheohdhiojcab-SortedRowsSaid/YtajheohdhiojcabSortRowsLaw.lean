/- The law SortedRows, walked, its cases as one: it returns true, for any row of numbers and any three numbers; nothing that was there has turned. Condition: the numbers are ints. -/
import Derived.Test.YtajheohdhiojcabSortRowsEnd
import Derived.Test.YtajheohdhiojcabSortRowsNeg
import Derived.Test.YtajheohdhiojcabSortRowsBig
namespace Go.Proofs.Ytajheohdhiojcab
open Go.RowKit

set_option maxHeartbeats 1000000 in
set_option maxRecDepth 100000 in
theorem sortedRows_long (ao : Option Addr) (n c : Nat) (a x t : Int) (w : World) (hn : 100 < n) :
    Calls Try.prog 3 #[.slice ao n c, .int .i64 a, .int .i64 x, .int .i64 t] w fun e w' => e = .returned (.bool true) ∧ Below w.heap.size w w' := by
  have HV := fun W => Lib.hid (lives04 W)
  have g1 : (100 : Int) < n := by omega
  go_enter Try.func3, Try.ntmps3
  go_wp2_with fail
  refine (HV _).out.mono ?_
  rintro e w7 ⟨rfl, hb7⟩
  go_wp2
  go_ret
  exact ⟨rfl, hb7⟩

theorem sortedRows_any (ao : Option Addr) (n c : Nat) (zs : List Int) (a x t : Int) (w : World) (hr : Rd w (.slice ao n c) (vals zs)) (hA : ao = none → c = 0) (ht0 : -9223372036854775808 ≤ t) (ht1 : t ≤ 9223372036854775807) (ha0 : -9223372036854775808 ≤ a) (ha1 : a ≤ 9223372036854775807) :
    Calls Try.prog 3 #[.slice ao n c, .int .i64 a, .int .i64 x, .int .i64 t] w fun e w' => e = .returned (.bool true) ∧ Below w.heap.size w w' := by
  by_cases hn : n ≤ 100
  · by_cases h1 : a < 0
    · exact sortedRows_neg ao n c zs a x t w hr hA hn h1 ht0 ht1 ha0 ha1
    · by_cases h2 : (n : Int) < a
      · exact sortedRows_big ao n c zs a x t w hr hA hn h2 ht0 ht1 ha0 ha1
      · obtain ⟨k, rfl⟩ : ∃ k : Nat, a = k := ⟨a.toNat, by omega⟩
        by_cases h3 : k < n
        · exact sortedRows_mid ao n c zs k x t w hr hA hn h3 ht0 ht1
        · exact sortedRows_end ao n c zs k x t w hr hA hn (by omega) (by omega) ht0 ht1
  · exact sortedRows_long ao n c a x t w (by omega)
end Go.Proofs.Ytajheohdhiojcab
