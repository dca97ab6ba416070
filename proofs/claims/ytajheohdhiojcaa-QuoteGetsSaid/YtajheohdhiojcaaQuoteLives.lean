/- The chapter's examples of layer 2 (lives): it returns true; nothing that was there has turned. No condition. -/
import Derived.Test.YtajheohdhiojcaaQuoteGet
namespace Go.Proofs.Ytajheohdhiojcaa
open Go.RowKit

theorem qs_ex : qs [97, 34, 255] = [97, 92, 34, 92, 120, 102, 102] := by
  have d1 : (dec [97, 34, 255]).2 = 1 := by decide +kernel
  have d2 : (dec [34, 255]).2 = 1 := by decide +kernel
  have d3 : (dec [255]).2 = 1 := by decide +kernel
  rw [qs_cons (by simp), d1, show ([97, 34, 255] : List UInt8).drop 1 = [34, 255] from rfl, qs_cons (by simp), d2, show ([34, 255] : List UInt8).drop 1 = [255] from rfl, qs_cons (by simp), d3, show ([255] : List UInt8).drop 1 = [] from rfl, qs_nil,
    show q [97, 34, 255] = [97] by decide +kernel, show q [34, 255] = [92, 34] by decide +kernel, show q [255] = [92, 120, 102, 102] by decide +kernel]
  rfl

theorem put_ex : put [97, 34, 255] = [34, 97, 92, 34, 92, 120, 102, 102, 34] := by unfold put; rw [qs_ex]; rfl
theorem get_ex : get [34, 97, 92, 34, 92, 120, 102, 102, 34] = ([97, 34, 255], 0) := by rw [← put_ex, get_put]
theorem pcs_ex : (pcs [255, 97]).length = 2 := by
  have d1 : (dec [255, 97]).2 = 1 := by decide +kernel
  have d2 : (dec [97]).2 = 1 := by decide +kernel
  rw [pcs_cons (by simp), d1, show ([255, 97] : List UInt8).drop 1 = [97] from rfl, pcs_cons (by simp), d2, show ([97] : List UInt8).drop 1 = [] from rfl, pcs_nil]
  rfl

set_option maxHeartbeats 1600000 in
set_option maxRecDepth 100000 in
theorem lives02 (w : World) : Calls Try.prog 30 #[] w fun e w' => e = .returned (.bool true) ∧ Below w.heap.size w w' := by
  have H1 : ∀ w, Hid (Calls Try.prog 32 #[.string ⟨#[34, 97, 92, 34, 92, 120, 102, 102, 34]⟩] w fun e w' => e = .returned (.tuple #[.string ⟨#[97, 34, 255]⟩, .int .i64 0]) ∧ Below w.heap.size w w') := fun w => by
    have h := get_any ⟨#[34, 97, 92, 34, 92, 120, 102, 102, 34]⟩ w (by decide)
    rw [show (⟨#[34, 97, 92, 34, 92, 120, 102, 102, 34]⟩ : ByteArray).data.toList = [34, 97, 92, 34, 92, 120, 102, 102, 34] from rfl, get_ex] at h
    exact Lib.hid h
  have H2 : ∀ w, Hid (Calls Try.prog 31 #[.string ⟨#[97, 34, 255]⟩] w fun e w' => e = .returned (.string ⟨#[34, 97, 92, 34, 92, 120, 102, 102, 34]⟩) ∧ Below w.heap.size w w') := fun w => by
    have h := put_any ⟨#[97, 34, 255]⟩ w (by decide)
    rw [show (⟨#[97, 34, 255]⟩ : ByteArray).data.toList = [97, 34, 255] from rfl, put_ex] at h
    exact Lib.hid h
  have H3 : ∀ w, Hid (Calls Try.prog 35 #[.string ⟨#[255, 97]⟩] w fun e w' => e = .returned (.int .i64 2) ∧ Below w.heap.size w w') := fun w => by
    have h := runes_any ⟨#[255, 97]⟩ w (by decide)
    rw [show (⟨#[255, 97]⟩ : ByteArray).data.toList = [255, 97] from rfl, pcs_ex] at h
    exact Lib.hid h
  go_enter Try.func30, Try.ntmps30
  go_wp2_with fail
  refine (H1 _).out.mono ?_
  rintro e w1 ⟨rfl, hb1⟩
  go_wp2_with fail
  refine (H2 _).out.mono ?_
  rintro e w2 ⟨rfl, hb2⟩
  go_wp2_with fail
  refine (H3 _).out.mono ?_
  rintro e w3 ⟨rfl, hb3⟩
  go_wp2
  go_ret
  exact ⟨rfl, (hb1.trans (hb2.mono hb1.size)).trans (hb3.mono (Nat.le_trans hb1.size hb2.size))⟩
end Go.Proofs.Ytajheohdhiojcaa
