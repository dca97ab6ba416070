/- The chapter's example. No condition. -/
import Derived.Test.YtlcnnnljdffbmaaForestYes3
namespace Go.Proofs.Ytlcnnnljdffbmaa
open Go.RowKit Go.Maps

theorem key3 : WideAt.IsKeyLit (.int .i64 3) := by simp [WideAt.IsKeyLit]
theorem map0_at (k : Lit) (z : DataW Value) : (DataW.map [] : DataW Value).atKey k z = z := atKey_of_not_has rfl z

set_option maxHeartbeats 4000000 in
set_option maxRecDepth 100000 in
theorem lives14 (w : World) : Calls Try.prog 17 #[] w fun e w' => e = .returned (.bool true) ∧ Below w.heap.size w w' := by
  have HNew := Lib.hid (newView w)
  go_enter Try.func17, Try.ntmps17
  go_wp2_with fail
  refine HNew.out.mono ?_
  rintro e w1 ⟨A, b, rfl, hA, hb, hm1, hx1⟩
  have HA := Lib.hid hA
  have HB := Lib.hid hb
  have HM1 := Lib.hid hm1
  have HX1 := Lib.hid hx1
  clear hA hb hm1 hx1 HNew
  go_wp2_with fail
  refine (at_miss (B := w.heap.size) 3 w1 (by decide) (by decide) HM1.out HA.out HX1.out.size (map0_at _ _) rfl).mono ?_
  rintro e w2 ⟨rfl, hm2, hx2⟩
  rw [if_pos rfl, if_pos rfl] at hm2
  have hn2 := boxed_below w2 (.cells #[.int .i64 0, .int .u64 0, .int .u64 0, .int .i64 0, .string ⟨#[]⟩, .string ⟨#[]⟩, .bool false, .int .i64 0, .slice none 0 0, .slice none 0 0, .slice none 0 0] 52)
  have hx2' := HX1.out.trans hx2
  have HW2 := Lib.hid (hm2.keep hn2)
  have HX2 := Lib.hid (hx2'.trans (hn2.mono hx2'.size))
  clear hm2 hx2 hn2 hx2' HM1 HX1
  go_upto_region 3 with fail
  obtain ⟨W2, hW2⟩ : ∃ W, W = w2.alloc (.cells #[.int .i64 0, .int .u64 0, .int .u64 0, .int .i64 0, .string ⟨#[]⟩, .string ⟨#[]⟩, .bool false, .int .i64 0, .slice none 0 0, .slice none 0 0, .slice none 0 0] 52) := ⟨_, rfl⟩
  rw [← hW2] at HW2 HX2 ⊢
  clear hW2
  go_wp2_with fail
  refine (at_miss (B := w.heap.size) 4 W2 (by decide) (by decide) HW2.out HA.out HX2.out.size (map0_at _ _) rfl).mono ?_
  rintro e w3 ⟨rfl, hm3, hx3⟩
  rw [if_neg (by decide), if_neg (by decide)] at hm3
  have hn3 := boxed_below w3 (.cells #[.int .i64 0, .int .u64 0, .int .u64 0, .int .i64 0, .string ⟨#[]⟩, .string ⟨#[]⟩, .bool false, .int .i64 0, .slice none 0 0, .slice none 0 0, .slice none 0 0] 52)
  have hx3' := HX2.out.trans hx3
  have HW3 := Lib.hid (hm3.keep hn3)
  have HX3 := Lib.hid (hx3'.trans (hn3.mono hx3'.size))
  clear hm3 hx3 hn3 hx3' HW2 HX2
  go_upto_region 4 with fail
  obtain ⟨W3, hW3⟩ : ∃ W, W = w3.alloc (.cells #[.int .i64 0, .int .u64 0, .int .u64 0, .int .i64 0, .string ⟨#[]⟩, .string ⟨#[]⟩, .bool false, .int .i64 0, .slice none 0 0, .slice none 0 0, .slice none 0 0] 52) := ⟨_, rfl⟩
  rw [← hW3] at HW3 HX3 ⊢
  clear hW3
  go_wp2_with fail
  refine (need_yes W3 HW3.out).mono ?_
  rintro e w4 ⟨rfl, hx4⟩
  have HM4 := Lib.hid (HW3.out.keep hx4)
  have HX4 := Lib.hid (HX3.out.trans (hx4.mono HX3.out.size))
  clear hx4 HW3 HX3
  go_wp2_with fail
  refine (learn_yes (B := w.heap.size) 3 9 w4 (by decide) (by decide) (by decide) HM4.out HB.out HX4.out.size).mono ?_
  rintro e w5 ⟨rfl, hm5, hx5⟩
  have HM5 := Lib.hid hm5
  have HX5 := Lib.hid (HX4.out.trans hx5)
  clear hm5 hx5 HM4 HX4
  go_wp2_with fail
  refine (forget_yes (B := w.heap.size) 3 3 9 true w5 (by decide) HM5.out HB.out HX5.out.size (atKey_put_same ⟨_, rfl⟩ key3 _ _) (has_put_same ⟨_, rfl⟩ key3 _)).mono ?_
  rintro e w6 ⟨rfl, hm6, hx6⟩
  have HM6 := Lib.hid hm6
  have HX6 := Lib.hid (HX5.out.trans hx6)
  clear hm6 hx6 HM5 HX5
  go_wp2_with fail
  refine (forget_yes (B := w.heap.size) 3 0 0 false w6 (by decide) HM6.out HB.out HX6.out.size (atKey_del_same _) has_del_same).mono ?_
  rintro e w7 ⟨rfl, hm7, hx7⟩
  have HX7 := Lib.hid (HX6.out.trans hx7)
  clear hm7 hx7 HM6 HX6
  go_wp2
  go_ret
  exact ⟨rfl, HX7.out⟩
end Go.Proofs.Ytlcnnnljdffbmaa
