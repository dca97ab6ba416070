/- A view that is nil, or that no call made: Cells. slices.Sort of no element comes from the shelf. No condition. -/
import Derived.Test.YtlcnnnljdffbmaaForestNo2
import Derived.Laws.IdiomRangeMap
namespace Go.Proofs.Ytlcnnnljdffbmaa
open Go.RowKit Go.Maps

theorem infoInt14 : (Try.prog.info? 3).map (fun i => (i.zero, i.size, i.bytes)) = some (some (.int .i64 0), 1, 8) := by kernel_rfl
set_option maxHeartbeats 4000000 in
set_option maxRecDepth 100000 in
theorem rising_none (w : World) : Calls Try.prog 72 #[.map none] w fun e w' => (∃ p c, e = .returned (.slice p 0 c)) ∧ Below w.heap.size w w' := by
  obtain ⟨i0, hi, hz0, hz1, hz2⟩ := info_parts infoInt14
  obtain ⟨w1, hmk, hown0, hg0⟩ := run_make_own (P := Try.prog) (w := w) w.heap.size 24 3 i0 (.int .i64 0) 1 Try.underlying24 hi hz0 hz1 .i64 .i64 0 (by rw [hz2]; omega) (by unfold maxLen; omega) (Nat.le_refl _)
  have hmk' : (Instr.makeSlice 24 (.int .i64 0) (.int .i64 0)).run Try.prog w = .ok (.slice (some ⟨w.heap.size, 0, none⟩) 0 0) w1 := hmk
  have hb1 : Below w.heap.size w w1 := (Below.refl _ w).grown hg0 (Nat.le_refl _) (by simp)
  have hrg := run_range_nilMap (P := Try.prog) w1 76 3 52 Try.underlying76
  have hnx : ∀ ty, (Instr.next (.pointer (some ⟨w1.heap.size, 0, none⟩)) false ty).run Try.prog (w1.alloc (.mapIter none 0 #[] 0)) = _ := fun ty => run_next_nilMap w1 ty 0 0 #[]
  have hx := boxed_below w1 (.mapIter none 0 #[] 0)
  obtain ⟨W2, hW2⟩ : ∃ W, W = w1.alloc (.mapIter none 0 #[] 0) := ⟨_, rfl⟩
  rw [← hW2] at hx hrg hnx
  have HB := Lib.hid (below_on14 hb1 (Nat.le_refl _) hx)
  have HS := Lib.hid (fun (p : Option Addr) (c : Nat) (W : World) => Try.slices_Sort_int_none p c W)
  clear hmk hown0 hg0 hb1 hx hW2 hi hz0 hz1 hz2
  go_enter Try.func72, Try.ntmps72
  go_wp2
  refine wp_loop_rounds 1 ?_
  rw [rounds_succ]
  go_wp2_with fail
  refine (HS.out _ _ _).mono ?_
  rintro e w3 ⟨rfl, h3⟩
  rw [h3]
  clear h3
  go_wp2
  go_ret
  exact ⟨⟨_, _, rfl⟩, HB.out⟩

set_option maxHeartbeats 4000000 in
set_option maxRecDepth 100000 in
theorem cells_no (v : Value) (w : World) (h : NotMade w v) : Calls Try.prog 35 #[v] w fun e w' => (∃ p c, e = .returned (.slice p 0 c)) ∧ Below w.heap.size w w' := by
  have HI := Lib.hid (known_no v w h)
  have HR := Lib.hid (fun W => rising_none W)
  clear h
  go_enter Try.func35, Try.ntmps35
  go_wp2_with fail
  refine HI.out.mono ?_
  rintro e w3 ⟨rfl, h3⟩
  rw [← h3]
  clear h3
  go_wp2_with fail
  refine (HR.out _).mono ?_
  rintro e w4 ⟨⟨p, c, rfl⟩, hb⟩
  go_wp2
  go_ret
  exact ⟨⟨_, _, rfl⟩, hb⟩
end Go.Proofs.Ytlcnnnljdffbmaa
