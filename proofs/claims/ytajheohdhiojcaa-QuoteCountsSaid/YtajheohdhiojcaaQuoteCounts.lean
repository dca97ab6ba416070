/- The law QuoteCounts, walked: it returns true; nothing that was there has turned. No condition but that the number is an int's. -/
import Derived.Test.YtajheohdhiojcaaQuoteRef
namespace Go.Proofs.Ytajheohdhiojcaa
open Go.RowKit

set_option maxHeartbeats 1600000 in
set_option maxRecDepth 100000 in
theorem quoteCounts_any (s : ByteArray) (n0 : Int) (w : World) (h0 : -9223372036854775808 ≤ n0) (h1 : n0 ≤ 9223372036854775807) :
    Calls Try.prog 9 #[.string s, .int .i64 n0] w fun e w' => e = .returned (.bool true) ∧ Below w.heap.size w w' := by
  have HL := fun w => Lib.hid (lives02 w)
  by_cases hs : s.size ≤ 1000
  · have H1 := fun w => Lib.hid (parts_any s w (by omega))
    have H2 := fun w => Lib.hid (runes_any s w (by omega))
    have H3 := fun w => Lib.hid (first_any s n0 w (by omega) h0 h1)
    have H4 := fun w => Lib.hid (rfirst_any s n0 w (by omega) h0 h1)
    have H5 := fun w => Lib.hid (strays_any s w (by omega))
    have H6 := fun w => Lib.hid (rstrays_any s w (by omega))
    change ∀ w, Hid (Calls _ _ _ _ fun e w' => e = .returned (.string (txt (firstT s.data.toList n0))) ∧ _) at H3
    unfold PartsGives at H1
    generalize txt (firstT s.data.toList n0) = F at *
    generalize ((pcs s.data.toList).filter (·.2)).length = K at *
    generalize pcs s.data.toList = P at *
    have f1 : (F.toList == F.toList) = true := by simp
    have f2 : ((K : Int) == (K : Int)) = true := by simp
    have f3 : ((P.length : Int) == (P.length : Int)) = true := by simp
    generalize hN : P.length = N at *
    have gs : (s.size : Int) ≤ 1000 := by omega
    clear hs
    go_enter Try.func9, Try.ntmps9
    go_wp2_with fail
    refine (H1 _).out.mono ?_
    rintro e w1 ⟨v4, v5, rfl, h4, _, _, hb1⟩
    rw [hN] at h4
    obtain ⟨a4, c4, rfl⟩ := row_form h4
    clear h4
    go_wp2_with fail
    refine (H2 _).out.mono ?_
    rintro e w2 ⟨rfl, hb2⟩
    have b2 := hb1.trans (hb2.mono hb1.size)
    clear hb1 hb2
    go_wp2_with fail
    refine (H3 _).out.mono ?_
    rintro e w3 ⟨rfl, hb3⟩
    have b3 := b2.trans (hb3.mono b2.size)
    clear b2 hb3
    go_wp2_with fail
    refine (H4 _).out.mono ?_
    rintro e w4 ⟨rfl, hb4⟩
    have b4 := b3.trans (hb4.mono b3.size)
    clear b3 hb4
    go_wp2_with fail
    refine (H5 _).out.mono ?_
    rintro e w5 ⟨rfl, hb5⟩
    have b5 := b4.trans (hb5.mono b4.size)
    clear b4 hb5
    go_wp2_with fail
    refine (H6 _).out.mono ?_
    rintro e w6 ⟨rfl, hb6⟩
    have b6 := b5.trans (hb6.mono b5.size)
    clear b5 hb6
    go_wp2_with fail
    refine (HL _).out.mono ?_
    rintro e w7 ⟨rfl, hb7⟩
    go_wp2
    go_ret
    exact ⟨rfl, b6.trans (hb7.mono b6.size)⟩
  · have gs : (1000 : Int) < s.size := by omega
    clear hs
    go_enter Try.func9, Try.ntmps9
    go_wp2_with fail
    refine (HL _).out.mono ?_
    rintro e w1 ⟨rfl, hb1⟩
    go_wp2
    go_ret
    exact ⟨rfl, hb1⟩
end Go.Proofs.Ytajheohdhiojcaa
