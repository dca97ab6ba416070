/- bowerlaw08.lives: the chapter's example. No condition. -/
import Derived.Test.YtjkfecfldnhfiaaCellRef
namespace Go.Proofs.Ytjkfecfldnhfiaa
open Go.RowKit

set_option maxHeartbeats 4000000 in
theorem lives8_any (w : World) : Calls Try.prog 21 #[] w fun e w' => e = .returned (.bool true) ∧ Below w.heap.size w w' := by
  have HN := Lib.hid (new_in 2 w (by omega))
  go_enter Try.func21, Try.ntmps21
  go_wp2_with fail
  refine HN.out.mono ?_
  rintro e w1 ⟨b, g, rfl, hc, hb1, hg1, hbl⟩
  have HC1 := Lib.hid (cas_yes b g [(0, 0), (0, 0)] 0 7 (by decide) w1 hc (by decide))
  have HB := Lib.hid hbl
  have HG := Lib.hid hg1
  clear hc hbl hb1 hg1
  go_wp2_with fail
  refine HC1.out.mono ?_
  rintro e w2 ⟨rfl, hw⟩
  have HC2 := Lib.hid (cas_no b g [(7, 1), (0, 0)] 0 0 8 w2 hw.cells (by decide) (by decide))
  have HL := Lib.hid (load_in b g [(7, 1), (0, 0)] 0 w2 hw.cells (by decide))
  have HLN := Lib.hid (fun W (hd : Drew w2 W) => cLen_any b g [(7, 1), (0, 0)] W (hw.cells.drew hd))
  have HB2 := Lib.hid (HB.out.trans (hw.keep.below HB.out.size (fun k hk => by have := HG.out; omega)))
  clear hw
  go_wp2_with fail
  refine HC2.out.mono ?_
  rintro e w3 ⟨rfl, rfl⟩
  go_wp2_with fail
  refine HL.out.mono ?_
  rintro e w3 ⟨rfl, hd⟩
  have HD := Lib.hid hd
  clear hd
  go_wp2_with fail
  refine (HLN.out _ HD.out).mono ?_
  rintro e w4 ⟨rfl, rfl⟩
  go_wp2
  go_ret
  exact ⟨rfl, HB2.out.trans (HD.out.below _)⟩
end Go.Proofs.Ytjkfecfldnhfiaa
