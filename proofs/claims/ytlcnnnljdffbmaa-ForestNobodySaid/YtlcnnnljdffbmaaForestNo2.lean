/- A view that is nil, or that no call made: At, Take and Cells. slices.Sort of no element comes from the shelf. No condition. -/
import Derived.Test.YtlcnnnljdffbmaaForestNo
import Derived.Test.YtlcnnnljdffbmaaShelf
namespace Go.Proofs.Ytlcnnnljdffbmaa
open Go.RowKit Go.Maps

theorem below_on14 {B : Nat} {w V V' : World} (h : Below B w V) (hB : B ≤ w.heap.size) (hb : Below V.heap.size V V') : Below B w V' := h.trans (hb.mono (Nat.le_trans hB h.size))

set_option maxHeartbeats 4000000 in
set_option maxRecDepth 100000 in
theorem at_no (v : Value) (c : Int) (w : World) (hc : (Lit.int .i64 c).wf = true) (h : NotMade w v) : Calls Try.prog 26 #[v, .int .i64 c] w fun e w' => e = .returned (.tuple #[.agg #[.int .i64 0, .int .u64 0, .int .u64 0, .int .i64 0, .string ⟨#[]⟩, .string ⟨#[]⟩, .bool false, .int .i64 0, .slice none 0 0, .slice none 0 0, .slice none 0 0], .bool false]) ∧ Below w.heap.size w w' := by
  have hkey : keyOf Try.prog 3 (.int .i64 c) = some (.int .i64 c) := keyOf_int_mk Try.underlying3 hc
  have hlook : ∀ w : World, (Instr.lookup 76 (.map none) (.int .i64 c) true).run Try.prog w = .ok (.tuple #[.agg #[.int .i64 0, .int .u64 0, .int .u64 0, .int .i64 0, .string ⟨#[]⟩, .string ⟨#[]⟩, .bool false, .int .i64 0, .slice none 0 0, .slice none 0 0, .slice none 0 0], .bool false]) w := fun w => by
    have h := Maps.look_nil (w := w) true keyedC Try.underlying76 (zeroKn w) hkey
    simpa using h
  have hx := boxed_below w (.cells #[.int .i64 0, .int .u64 0, .int .u64 0, .int .i64 0, .string ⟨#[]⟩, .string ⟨#[]⟩, .bool false, .int .i64 0, .slice none 0 0, .slice none 0 0, .slice none 0 0] 52)
  have n1 := BX.new w 52 #[.int .i64 0, .int .u64 0, .int .u64 0, .int .i64 0, .string ⟨#[]⟩, .string ⟨#[]⟩, .bool false, .int .i64 0, .slice none 0 0, .slice none 0 0, .slice none 0 0]
  obtain ⟨W1, hW1⟩ : ∃ W, W = w.alloc (.cells #[.int .i64 0, .int .u64 0, .int .u64 0, .int .i64 0, .string ⟨#[]⟩, .string ⟨#[]⟩, .bool false, .int .i64 0, .slice none 0 0, .slice none 0 0, .slice none 0 0] 52) := ⟨_, rfl⟩
  rw [← hW1] at hx n1
  have HI := Lib.hid (known_no v W1 (h.keep hx))
  have hx2 := boxed_below W1 (.cells #[.int .i64 0, .int .u64 0, .int .u64 0, .int .i64 0, .string ⟨#[]⟩, .string ⟨#[]⟩, .bool false, .int .i64 0, .slice none 0 0, .slice none 0 0, .slice none 0 0] 52)
  have n2 := BX.new W1 52 #[.int .i64 0, .int .u64 0, .int .u64 0, .int .i64 0, .string ⟨#[]⟩, .string ⟨#[]⟩, .bool false, .int .i64 0, .slice none 0 0, .slice none 0 0, .slice none 0 0]
  obtain ⟨W2, hW2⟩ : ∃ W, W = W1.alloc (.cells #[.int .i64 0, .int .u64 0, .int .u64 0, .int .i64 0, .string ⟨#[]⟩, .string ⟨#[]⟩, .bool false, .int .i64 0, .slice none 0 0, .slice none 0 0, .slice none 0 0] 52) := ⟨_, rfl⟩
  rw [← hW2] at hx2 n2
  have HX2 := Lib.hid (below_on14 hx (Nat.le_refl _) hx2)
  have HN1 := Lib.hid (n1.below hx2)
  have HN2 := Lib.hid n2
  have HCE := Lib.hid (fun W => fcell_any c W)
  have HL := Lib.hid (fun b W (hb : Below w.heap.size w W) => lack_no v b 1 c W (h.keep hb))
  have hne : w.heap.size ≠ W1.heap.size := by rw [hW1, World.size_alloc]; omega
  have HW1 := Lib.hid hW1
  have HW2 := Lib.hid hW2
  obtain ⟨cb, hcb⟩ : ∃ cb, cb = cellB c := ⟨_, rfl⟩
  rw [← hcb] at HCE
  clear h hc hkey hx hW1 n1 hx2 n2 hW2 hcb
  go_enter Try.func26, Try.ntmps26
  go_upto_region 1 with fail
  rw [← HW1.out]
  go_wp2_with fail
  refine HI.out.mono ?_
  rintro e w3 ⟨rfl, h3⟩
  rw [← h3]
  clear h3
  go_upto_region 2 with fail
  rw [← HW2.out]
  clear HW1 HW2
  obtain ⟨g, hg⟩ : ∃ g, g = W1.heap.size := ⟨_, rfl⟩
  rw [← hg] at HN2 hne ⊢
  clear hg
  go_wp2_with fail
  refine (HCE.out _).mono ?_
  rintro e w4 ⟨rfl, h4⟩
  rw [← h4]
  clear h4
  go_wp2_with fail
  refine (HL.out _ _ HX2.out).mono ?_
  rintro e w5 ⟨rfl, hb5⟩
  have HX5 := Lib.hid (below_on14 HX2.out (Nat.le_refl _) hb5)
  have HN15 := Lib.hid (HN1.out.below hb5)
  have HN25 := Lib.hid (HN2.out.below hb5)
  clear hb5
  have c0 : w5.cell? ⟨g, 0, none⟩ = some (.int .i64 0) := HN25.out.cell 0 rfl
  have c1 : w5.cell? ⟨g, 1, none⟩ = some (.int .u64 0) := HN25.out.cell 1 rfl
  have c2 : w5.cell? ⟨g, 2, none⟩ = some (.int .u64 0) := HN25.out.cell 2 rfl
  have c3 : w5.cell? ⟨g, 3, none⟩ = some (.int .i64 0) := HN25.out.cell 3 rfl
  have c4 : w5.cell? ⟨g, 4, none⟩ = some (.string ⟨#[]⟩) := HN25.out.cell 4 rfl
  have c5 : w5.cell? ⟨g, 5, none⟩ = some (.string ⟨#[]⟩) := HN25.out.cell 5 rfl
  have c6 : w5.cell? ⟨g, 6, none⟩ = some (.bool false) := HN25.out.cell 6 rfl
  have c7 : w5.cell? ⟨g, 7, none⟩ = some (.int .i64 0) := HN25.out.cell 7 rfl
  have c8 : w5.cell? ⟨g, 8, none⟩ = some (.slice none 0 0) := HN25.out.cell 8 rfl
  have c9 : w5.cell? ⟨g, 9, none⟩ = some (.slice none 0 0) := HN25.out.cell 9 rfl
  have c10 : w5.cell? ⟨g, 10, none⟩ = some (.slice none 0 0) := HN25.out.cell 10 rfl
  have r0 : w5.cell? ⟨w.heap.size, 0, none⟩ = some (.int .i64 0) := HN15.out.cell 0 rfl
  have r1 : w5.cell? ⟨w.heap.size, 1, none⟩ = some (.int .u64 0) := HN15.out.cell 1 rfl
  have r2 : w5.cell? ⟨w.heap.size, 2, none⟩ = some (.int .u64 0) := HN15.out.cell 2 rfl
  have r3 : w5.cell? ⟨w.heap.size, 3, none⟩ = some (.int .i64 0) := HN15.out.cell 3 rfl
  have r4 : w5.cell? ⟨w.heap.size, 4, none⟩ = some (.string ⟨#[]⟩) := HN15.out.cell 4 rfl
  have r5 : w5.cell? ⟨w.heap.size, 5, none⟩ = some (.string ⟨#[]⟩) := HN15.out.cell 5 rfl
  have r6 : w5.cell? ⟨w.heap.size, 6, none⟩ = some (.bool false) := HN15.out.cell 6 rfl
  have r7 : w5.cell? ⟨w.heap.size, 7, none⟩ = some (.int .i64 0) := HN15.out.cell 7 rfl
  have r8 : w5.cell? ⟨w.heap.size, 8, none⟩ = some (.slice none 0 0) := HN15.out.cell 8 rfl
  have r9 : w5.cell? ⟨w.heap.size, 9, none⟩ = some (.slice none 0 0) := HN15.out.cell 9 rfl
  have r10 : w5.cell? ⟨w.heap.size, 10, none⟩ = some (.slice none 0 0) := HN15.out.cell 10 rfl
  have y0 := HN15.out.frozen 0
  have y1 := HN15.out.frozen 1
  have y2 := HN15.out.frozen 2
  have y3 := HN15.out.frozen 3
  have y4 := HN15.out.frozen 4
  have y5 := HN15.out.frozen 5
  have y6 := HN15.out.frozen 6
  have y7 := HN15.out.frozen 7
  have y8 := HN15.out.frozen 8
  have y9 := HN15.out.frozen 9
  have y10 := HN15.out.frozen 10
  go_wp2
  refine bodyPost_ret (v := .tuple #[.agg #[.int .i64 0, .int .u64 0, .int .u64 0, .int .i64 0, .string ⟨#[]⟩, .string ⟨#[]⟩, .bool false, .int .i64 0, .slice none 0 0, .slice none 0 0, .slice none 0 0], .bool false]) (by simp [results, Try.results26, go_sem, *]) rfl ?_
  refine ⟨rfl, ?_⟩
  repeat' (first | (with_reducible exact HX5.out) | (with_reducible refine Below.setCell ?_ ?_ _) | exact Nat.le_refl _)

set_option maxHeartbeats 4000000 in
set_option maxRecDepth 100000 in
theorem take_no (v : Value) (i : Int) (w : World) (h : NotMade w v) : Calls Try.prog 29 #[v, .int .i64 i] w fun e w' => e = .returned (.tuple #[.agg #[.int .i64 0, .int .u64 0], .bool false]) ∧ Below w.heap.size w w' := by
  have hx := boxed_below w (.cells #[.int .i64 0, .int .u64 0] 59)
  have n1 := BX.new w 59 #[.int .i64 0, .int .u64 0]
  obtain ⟨W1, hW1⟩ : ∃ W, W = w.alloc (.cells #[.int .i64 0, .int .u64 0] 59) := ⟨_, rfl⟩
  rw [← hW1] at hx n1
  have HI := Lib.hid (spares_no v W1 (h.keep hx))
  have HX := Lib.hid hx
  have HN1 := Lib.hid n1
  have HCE := Lib.hid (fun W => fcell_any i W)
  have HL := Lib.hid (fun b m W (hb : Below w.heap.size w W) => lack_no v b 2 m W (h.keep hb))
  have HW1 := Lib.hid hW1
  obtain ⟨cb, hcb⟩ : ∃ cb, cb = cellB i := ⟨_, rfl⟩
  rw [← hcb] at HCE
  clear h hx hW1 n1 hcb
  by_cases h0 : 0 ≤ i
  · have h1 : ¬ i < 0 := by omega
    go_enter Try.func29, Try.ntmps29
    go_upto_region 1 with fail
    rw [← HW1.out]
    clear HW1
    go_wp2_with fail
    refine HI.out.mono ?_
    rintro e w3 ⟨rfl, h3⟩
    rw [← h3]
    clear h3
    go_wp2_with fail
    refine (HCE.out _).mono ?_
    rintro e w4 ⟨rfl, h4⟩
    rw [← h4]
    clear h4
    go_wp2_with fail
    refine (HL.out _ _ _ HX.out).mono ?_
    rintro e w5 ⟨rfl, hb5⟩
    have HX5 := Lib.hid (below_on14 HX.out (Nat.le_refl _) hb5)
    have HN15 := Lib.hid (HN1.out.below hb5)
    clear hb5
    have r0 : w5.cell? ⟨w.heap.size, 0, none⟩ = some (.int .i64 0) := HN15.out.cell 0 rfl
    have r1 : w5.cell? ⟨w.heap.size, 1, none⟩ = some (.int .u64 0) := HN15.out.cell 1 rfl
    have y0 := HN15.out.frozen 0
    have y1 := HN15.out.frozen 1
    go_wp2
    refine bodyPost_ret (v := .tuple #[.agg #[.int .i64 0, .int .u64 0], .bool false]) (by simp [results, Try.results29, go_sem, *]) rfl ?_
    refine ⟨rfl, ?_⟩
    repeat' (first | (with_reducible exact HX5.out) | (with_reducible refine Below.setCell ?_ ?_ _) | exact Nat.le_refl _)
  · go_enter Try.func29, Try.ntmps29
    go_upto_region 1 with fail
    rw [← HW1.out]
    clear HW1
    go_wp2_with fail
    refine (HCE.out _).mono ?_
    rintro e w4 ⟨rfl, h4⟩
    rw [← h4]
    clear h4
    go_wp2_with fail
    refine (HL.out _ _ _ HX.out).mono ?_
    rintro e w5 ⟨rfl, hb5⟩
    have HX5 := Lib.hid (below_on14 HX.out (Nat.le_refl _) hb5)
    have HN15 := Lib.hid (HN1.out.below hb5)
    clear hb5
    have r0 : w5.cell? ⟨w.heap.size, 0, none⟩ = some (.int .i64 0) := HN15.out.cell 0 rfl
    have r1 : w5.cell? ⟨w.heap.size, 1, none⟩ = some (.int .u64 0) := HN15.out.cell 1 rfl
    have y0 := HN15.out.frozen 0
    have y1 := HN15.out.frozen 1
    go_wp2
    refine bodyPost_ret (v := .tuple #[.agg #[.int .i64 0, .int .u64 0], .bool false]) (by simp [results, Try.results29, go_sem, *]) rfl ?_
    refine ⟨rfl, ?_⟩
    repeat' (first | (with_reducible exact HX5.out) | (with_reducible refine Below.setCell ?_ ?_ _) | exact Nat.le_refl _)

end Go.Proofs.Ytlcnnnljdffbmaa
