/- (*pairs.Map).Next, Max, All of nil: nothing is there. No condition. -/
import Derived.Test.YtpdcmgillinooaaMapNew
namespace Go.Proofs.Ytpdcmgillinooaa
open Go.RowKit

set_option maxHeartbeats 2000000 in
theorem pickNext_nil (cb : Nat) (w : World) :
    Calls Try.prog 37 #[.pointer none, (.func (.func 38) #[] #[.pointer (some ⟨cb, 0, none⟩)])] w fun e w' => e = .returned (.tuple #[.agg #[.string ⟨#[]⟩, .int .u64 0], .bool false]) ∧ Below w.heap.size w w' := by
  have hb0 := (one_alloc w (.cells #[.string ⟨#[]⟩, .int .u64 0] 40)).2
  have T2 := Two.alloc w
  have t0 := T2.c0
  have t1 := T2.c1
  have f0 := T2.f (i := 0)
  have f1 := T2.f (i := 1)
  have z0 := (T2.set (q := (⟨#[]⟩, 0))).c0
  have z1 := (T2.set (q := (⟨#[]⟩, 0))).c1
  have HB := Lib.hid hb0
  clear hb0 T2
  go_enter Try.func37, Try.ntmps37
  go_wp2
  first
    | exact bodyPost_ret (v := .tuple #[.agg #[.string ⟨#[]⟩, .int .u64 0], .bool false]) (by simp [results, Try.results37, go_sem]) rfl ⟨rfl, HB.out⟩
    | exact bodyPost_ret (v := .tuple #[.agg #[.string ⟨#[]⟩, .int .u64 0], .bool false]) (by simp [results, Try.results37, go_sem, z0, z1]) rfl ⟨rfl, (HB.out.setCell (by simp) _).setCell (by simp) _⟩

set_option maxHeartbeats 2000000 in
theorem pickMax_nil (w : World) :
    Calls Try.prog 37 #[.pointer none, (.func (.func 40) #[] #[])] w fun e w' => e = .returned (.tuple #[.agg #[.string ⟨#[]⟩, .int .u64 0], .bool false]) ∧ Below w.heap.size w w' := by
  have hb0 := (one_alloc w (.cells #[.string ⟨#[]⟩, .int .u64 0] 40)).2
  have T2 := Two.alloc w
  have t0 := T2.c0
  have t1 := T2.c1
  have f0 := T2.f (i := 0)
  have f1 := T2.f (i := 1)
  have z0 := (T2.set (q := (⟨#[]⟩, 0))).c0
  have z1 := (T2.set (q := (⟨#[]⟩, 0))).c1
  have HB := Lib.hid hb0
  clear hb0 T2
  go_enter Try.func37, Try.ntmps37
  go_wp2
  first
    | exact bodyPost_ret (v := .tuple #[.agg #[.string ⟨#[]⟩, .int .u64 0], .bool false]) (by simp [results, Try.results37, go_sem]) rfl ⟨rfl, HB.out⟩
    | exact bodyPost_ret (v := .tuple #[.agg #[.string ⟨#[]⟩, .int .u64 0], .bool false]) (by simp [results, Try.results37, go_sem, z0, z1]) rfl ⟨rfl, (HB.out.setCell (by simp) _).setCell (by simp) _⟩

set_option maxHeartbeats 2000000 in
theorem mnext_nil (k : ByteArray) (w : World) :
    Calls Try.prog 20 #[.pointer none, .string k] w fun e w' => e = .returned (.tuple #[.agg #[.string ⟨#[]⟩, .int .u64 0], .bool false]) ∧ Below w.heap.size w w' := by
  have h2 := ahead_two w k 9 (.cells #[.string ⟨#[]⟩, .int .u64 0] 40)
  have T2 : Two ((w.alloc (.cells #[.string k] 9)).alloc (.cells #[.string ⟨#[]⟩, .int .u64 0] 40)) (w.heap.size + 1) (⟨#[]⟩, 0) := by
    have := heap_alloc_new (w.alloc (.cells #[.string k] 9)) (.cells #[.string ⟨#[]⟩, .int .u64 0] 40)
    rwa [show (w.alloc (.cells #[.string k] 9)).heap.size = w.heap.size + 1 by simp] at this
  have HP := Lib.hid (pickNext_nil w.heap.size ((w.alloc (.cells #[.string k] 9)).alloc (.cells #[.string ⟨#[]⟩, .int .u64 0] 40)))
  have HB2 := Lib.hid h2.1
  have HT := Lib.hid T2
  clear h2 T2
  go_enter Try.func20, Try.ntmps20
  go_wp2_with fail
  refine HP.out.mono ?_
  rintro e w3 ⟨rfl, hb⟩
  have T3 := Lib.hid (HT.out.keep hb)
  have HB := Lib.hid (HB2.out.trans (hb.mono HB2.out.size))
  clear hb
  have t0 := T3.out.c0
  have t1 := T3.out.c1
  have f0 := T3.out.f (i := 0)
  have f1 := T3.out.f (i := 1)
  have z0 := (T3.out.set (q := (⟨#[]⟩, 0))).c0
  have z1 := (T3.out.set (q := (⟨#[]⟩, 0))).c1
  go_wp2
  refine bodyPost_ret (v := .tuple #[.agg #[.string ⟨#[]⟩, .int .u64 0], .bool false]) (by simp [results, Try.results20, go_sem, z0, z1]) rfl ⟨rfl, ?_⟩
  exact (HB.out.setCell (by simp) _).setCell (by simp) _

set_option maxHeartbeats 2000000 in
theorem mmax_nil (w : World) :
    Calls Try.prog 21 #[.pointer none] w fun e w' => e = .returned (.tuple #[.agg #[.string ⟨#[]⟩, .int .u64 0], .bool false]) ∧ Below w.heap.size w w' := by
  have h2 : Below w.heap.size w (w.alloc (.cells #[.string ⟨#[]⟩, .int .u64 0] 40)) := (one_alloc w _).2
  have T2 := Two.alloc w
  have HP := Lib.hid (pickMax_nil (w.alloc (.cells #[.string ⟨#[]⟩, .int .u64 0] 40)))
  have HB2 := Lib.hid h2
  have HT := Lib.hid T2
  clear h2 T2
  go_enter Try.func21, Try.ntmps21
  go_wp2_with fail
  refine HP.out.mono ?_
  rintro e w3 ⟨rfl, hb⟩
  have T3 := Lib.hid (HT.out.keep hb)
  have HB := Lib.hid (HB2.out.trans (hb.mono HB2.out.size))
  clear hb
  have t0 := T3.out.c0
  have t1 := T3.out.c1
  have f0 := T3.out.f (i := 0)
  have f1 := T3.out.f (i := 1)
  have z0 := (T3.out.set (q := (⟨#[]⟩, 0))).c0
  have z1 := (T3.out.set (q := (⟨#[]⟩, 0))).c1
  go_wp2
  refine bodyPost_ret (v := .tuple #[.agg #[.string ⟨#[]⟩, .int .u64 0], .bool false]) (by simp [results, Try.results21, go_sem, z0, z1]) rfl ⟨rfl, ?_⟩
  exact (HB.out.setCell (by simp) _).setCell (by simp) _

def NoneGives (w w' : World) (e : Ending) : Prop := ∃ ao c, e = .returned (.slice ao 0 c) ∧ Below w.heap.size w w'

set_option maxHeartbeats 4000000 in
theorem mall_nil (w : World) : Calls Try.prog 17 #[.pointer none] w fun e w' => NoneGives w w' e := by
  have HP : Hid (Calls Try.prog 34 #[.pointer none, .int .i64 0, .int .i64 0] w fun e w' => NoneGives w w' e) := by
    obtain ⟨i0, hi, hz0, hz1, hz2⟩ := info_parts infoPair
    have HI := Lib.hid (show _ ∧ _ ∧ _ ∧ _ from ⟨hi, hz0, hz1, hz2⟩)
    clear hi hz0 hz1 hz2
    go_enter Try.func34, Try.ntmps34
    go_wp2_with (refine wpList_make_full _ rfl (.tmp 10) (.tmp 10) 27 rfl w.heap.size 40 i0 (.agg #[.string ⟨#[]⟩, .int .u64 0]) 2 Try.underlying27 HI.out.1 HI.out.2.1 HI.out.2.2.1 .i64 .i64 _ _ 0 rfl rfl (by omega) (by omega) (by omega) (by unfold maxLen; omega) (Nat.le_refl _) ?_; intro w1 hown hgrow)
    all_goals first | (exfalso; omega) | skip
    all_goals
      have HB1 := Lib.hid (show Below w.heap.size w w1 from (Below.refl _ _).grown hgrow (Nat.le_refl _) (fun _ h => by cases h))
      clear hown hgrow
      go_loop [14] (fun s => s = .int .i64 0) (fun _ => 0)
      case atStart => rfl
      case round =>
        obtain rfl := hrel
        go_wp2
        go_ret
        exact ⟨_, _, rfl, HB1.out⟩
  have HN := Lib.hid (mlen_nil w)
  go_enter Try.func17, Try.ntmps17
  go_wp2_with fail
  refine HN.out.mono ?_
  rintro e w2 ⟨rfl, rfl⟩
  go_wp2_with fail
  refine HP.out.mono ?_
  rintro e w2 ⟨ao, c, rfl, hb⟩
  go_wp2
  go_ret
  exact ⟨_, _, rfl, hb⟩
end Go.Proofs.Ytpdcmgillinooaa
