/- The chapter's example, of a view that a call made. No condition. -/
import Derived.Test.YtefmnfplipdnmaaFvLearn
import Derived.Test.YtefmnfplipdnmaaKnRow
namespace Go.Proofs.Ytefmnfplipdnmaa
open Go.RowKit Go.Maps

theorem PV.ndF {w : World} {ak av ac : Option Addr} {nk ck nv cv nc cc : Nat} {kn : Kn} (h : PV w (.slice ak nk ck) (.slice av nv cv) (.slice ac nc cc) kn) : nk = kn.n.ks.length ∧ nv = kn.n.vs.length ∧ nc = kn.n.cs.length ∧ NdAt w ak av ac nk ck nv cv nc cc kn.n.ks kn.n.vs kn.n.cs := by
  obtain ⟨ak', av', ac', ck', cv', cc', e, hN⟩ := h
  unfold Kn.val at e
  injection e with e
  injection e with e
  simp only [List.cons.injEq, Value.slice.injEq, and_true, true_and] at e
  obtain ⟨⟨rfl, rfl, rfl⟩, ⟨rfl, rfl, rfl⟩, rfl, rfl, rfl⟩ := e
  exact ⟨rfl, rfl, rfl, hN⟩
section
variable {B A b N : Nat} {sv : Value} {ks : List Kn} {ss : List (Int × Int)} {k m : Int}
theorem learn_outF (kn : Kn) (v : Value) (w : World) (hcell : cellB kn.c = false) (h : FV w B A b sv N ks ss k m) (hv : KnV w v kn) :
    Calls Try.prog 9 #[.pointer (some ⟨A, 0, none⟩), v] w fun e w' => e = .returned (.bool false) ∧ FV w' B A b sv N ks ss k m ∧ Below w.heap.size w w' := by
  obtain ⟨ak, av, ac, ck, cv, cc, rfl, hNd⟩ := hv
  unfold Kn.val
  have hx := boxed_below w (.cells #[.int .i64 kn.c, .int .u64 kn.wd, .int .u64 kn.vr, .int .i64 kn.n.lv, .string kn.n.lo, .string kn.n.hi, .bool kn.n.la, .int .i64 kn.n.nx, .slice ak kn.n.ks.length ck, .slice av kn.n.vs.length cv, .slice ac kn.n.cs.length cc] 39)
  have n1 := BX.new w 39 #[.int .i64 kn.c, .int .u64 kn.wd, .int .u64 kn.vr, .int .i64 kn.n.lv, .string kn.n.lo, .string kn.n.hi, .bool kn.n.la, .int .i64 kn.n.nx, .slice ak kn.n.ks.length ck, .slice av kn.n.vs.length cv, .slice ac kn.n.cs.length cc]
  obtain ⟨W1, hW1⟩ : ∃ W, W = w.alloc (.cells #[.int .i64 kn.c, .int .u64 kn.wd, .int .u64 kn.vr, .int .i64 kn.n.lv, .string kn.n.lo, .string kn.n.hi, .bool kn.n.la, .int .i64 kn.n.nx, .slice ak kn.n.ks.length ck, .slice av kn.n.vs.length cv, .slice ac kn.n.cs.length cc] 39) := ⟨_, rfl⟩
  rw [← hW1] at hx n1
  have hm1 := h.keep hx
  have HI := Lib.hid (isMade_yes A b _ k m _ hm1.view)
  have HCE := Lib.hid (fun W => fcell_any kn.c W)
  rw [hcell] at HCE
  have HM := Lib.hid hm1
  have HX := Lib.hid hx
  have HW := Lib.hid hW1
  have k0 : W1.cell? ⟨w.heap.size, 0, none⟩ = some (.int .i64 kn.c) := n1.cell 0 rfl
  clear hx hm1 h n1 hW1 hcell hNd
  go_enter Try.func9, Try.ntmps9
  go_upto_region 1 with fail
  rw [← HW.out]
  clear HW
  go_wp2_with fail
  refine HI.out.mono ?_
  rintro e w3 ⟨rfl, h3⟩
  rw [← h3]
  clear h3
  go_wp2_with fail
  refine (HCE.out _).mono ?_
  rintro e w4 ⟨rfl, h4⟩
  rw [← h4]
  clear h4
  go_wp2
  go_ret
  exact ⟨rfl, HM.out, HX.out⟩
end
def kn3 : Kn := ⟨3, 9, 0, .none⟩
theorem kn3_v (w : World) : KnV w (.agg #[.int .i64 3, .int .u64 9, .int .u64 0, .int .i64 0, .string ⟨#[]⟩, .string ⟨#[]⟩, .bool false, .int .i64 0, .slice none 0 0, .slice none 0 0, .slice none 0 0]) kn3 :=
  ⟨Option.none, Option.none, Option.none, 0, 0, 0, rfl, ⟨Rd.nil _, Rd.nil _, Rd.nil _⟩⟩
set_option maxHeartbeats 4000000 in
set_option maxRecDepth 100000 in
theorem lives14 (w : World) : Calls Try.prog 6 #[] w fun e w' => e = .returned (.bool true) ∧ Below w.heap.size w w' := by
  have HNew := Lib.hid (new_fv w)
  go_enter Try.func6, Try.ntmps6
  go_wp2_with fail
  refine HNew.out.mono ?_
  rintro e w1 ⟨A, b, rfl, hm1, hx1⟩
  have HM1 := Lib.hid hm1
  have HX1 := Lib.hid hx1
  clear hm1 hx1 HNew
  go_wp2_with fail
  refine (at_miss 3 w1 (by decide) HM1.out rfl).mono ?_
  rintro e w2 ⟨rfl, hm2, ht2⟩
  have hx2 := HX1.out.trans (ht2.below HM1.out.base HX1.out.size)
  rw [show lackK 0 (cellB 3) 1 = 1 from by decide, show lackM 0 0 (cellB 3) 3 = 3 from by decide] at hm2
  have hn2 := boxed_below w2 (.cells #[.int .i64 0, .int .u64 0, .int .u64 0, .int .i64 0, .string ⟨#[]⟩, .string ⟨#[]⟩, .bool false, .int .i64 0, .slice none 0 0, .slice none 0 0, .slice none 0 0] 39)
  have HW2 := Lib.hid (hm2.keep hn2)
  have HX2 := Lib.hid (hx2.trans (hn2.mono hx2.size))
  clear hm2 hx2 hn2 ht2 HM1 HX1
  go_upto_region 3 with fail
  obtain ⟨W2, hW2⟩ : ∃ W, W = w2.alloc (.cells #[.int .i64 0, .int .u64 0, .int .u64 0, .int .i64 0, .string ⟨#[]⟩, .string ⟨#[]⟩, .bool false, .int .i64 0, .slice none 0 0, .slice none 0 0, .slice none 0 0] 39) := ⟨_, rfl⟩
  rw [← hW2] at HW2 HX2 ⊢
  clear hW2
  go_wp2_with fail
  refine (at_miss 4 W2 (by decide) HW2.out rfl).mono ?_
  rintro e w3 ⟨rfl, hm3, ht3⟩
  have hx3 := HX2.out.trans (ht3.below HW2.out.base HX2.out.size)
  rw [show lackK 1 (cellB 4) 1 = 1 from by decide, show lackM 1 3 (cellB 4) 4 = 3 from by decide] at hm3
  have hn3 := boxed_below w3 (.cells #[.int .i64 0, .int .u64 0, .int .u64 0, .int .i64 0, .string ⟨#[]⟩, .string ⟨#[]⟩, .bool false, .int .i64 0, .slice none 0 0, .slice none 0 0, .slice none 0 0] 39)
  have HW3 := Lib.hid (hm3.keep hn3)
  have HX3 := Lib.hid (hx3.trans (hn3.mono hx3.size))
  clear hm3 hx3 hn3 ht3 HW2 HX2
  go_upto_region 4 with fail
  obtain ⟨W3, hW3⟩ : ∃ W, W = w3.alloc (.cells #[.int .i64 0, .int .u64 0, .int .u64 0, .int .i64 0, .string ⟨#[]⟩, .string ⟨#[]⟩, .bool false, .int .i64 0, .slice none 0 0, .slice none 0 0, .slice none 0 0] 39) := ⟨_, rfl⟩
  rw [← hW3] at HW3 HX3 ⊢
  clear hW3
  go_wp2_with fail
  refine (need_fv W3 HW3.out).mono ?_
  rintro e w4 ⟨rfl, hx4⟩
  have HM4 := Lib.hid (HW3.out.keep hx4)
  have HX4 := Lib.hid (HX3.out.trans (hx4.mono HX3.out.size))
  clear hx4 HW3 HX3
  go_wp2_with fail
  refine (learn_fv kn3 _ w4 (by decide) (by decide) (by decide) HM4.out (kn3_v w4) ⟨by decide, by decide, by decide⟩).mono ?_
  rintro e w5 ⟨rfl, hm5, ht5⟩
  have HM5 := Lib.hid hm5
  have HX5 := Lib.hid (HX4.out.trans (ht5.below HM4.out.base HX4.out.size))
  clear hm5 ht5 HM4 HX4
  go_wp2_with fail
  refine (forget_fv 3 w5 (by decide) HM5.out).mono ?_
  rintro e w6 ⟨rfl, hm6, ht6⟩
  have HM6 := Lib.hid hm6
  have HX6 := Lib.hid (HX5.out.trans (ht6.below HM5.out.base HX5.out.size))
  clear hm6 ht6 HM5 HX5
  rw [show (kfind (kdrop [] kn3.c ++ [kn3]) 3).isSome = true from by decide]
  go_wp2_with fail
  refine (forget_fv 3 w6 (by decide) HM6.out).mono ?_
  rintro e w7 ⟨rfl, hm7, ht7⟩
  have HX7 := Lib.hid (HX6.out.trans (ht7.below HM6.out.base HX6.out.size))
  clear hm7 ht7 HM6 HX6
  rw [show (kfind (kdrop (kdrop [] kn3.c ++ [kn3]) 3) 3).isSome = false from by decide]
  go_wp2
  go_ret
  exact ⟨rfl, HX7.out⟩
end Go.Proofs.Ytefmnfplipdnmaa
