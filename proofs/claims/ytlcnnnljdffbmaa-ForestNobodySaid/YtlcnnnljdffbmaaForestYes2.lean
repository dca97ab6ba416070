/- A view that a call made, without spares: New, At of a cell that is not known, Forget. No condition. -/
import Derived.Test.YtlcnnnljdffbmaaForestYes
namespace Go.Proofs.Ytlcnnnljdffbmaa
open Go.RowKit Go.Maps

theorem newView (w : World) : Calls Try.prog 18 #[] w fun e w' => ∃ A b, e = .returned (.pointer (some ⟨A, 0, none⟩)) ∧ w.heap.size ≤ A ∧ w.heap.size ≤ b ∧ MV w' A b 0 0 0 (.map []) ∧ Below w.heap.size w w' := by
  have hx := boxed_below w (.map #[] 0)
  have ho := World.ownsMap_made w Try.prog 3 knR
  obtain ⟨W1, hW1⟩ : ∃ W, W = w.alloc (.map #[] 0) := ⟨_, rfl⟩
  have hsz : W1.heap.size = w.heap.size + 1 := by rw [hW1, World.size_alloc]
  rw [← hW1] at hx ho
  have hx2 := boxed_below W1 (.cells #[.map (some w.heap.size), .slice none 0 0, .int .i64 0, .int .i64 0] 78)
  have hv := BX.new W1 78 #[.map (some w.heap.size), .slice none 0 0, .int .i64 0, .int .i64 0]
  have ho2 := ho.alloc (.cells #[.map (some w.heap.size), .slice none 0 0, .int .i64 0, .int .i64 0] 78)
  rw [hW1] at hx2 hv ho2 hsz
  rw [World.size_alloc] at hv
  have hmk : ∀ W, (Instr.makeMap 76 none).run Try.prog W = .ok (.map (some W.heap.size)) (W.alloc (.map #[] 0)) := fun W => run_makeMap _ W
  go_enter Try.func18, Try.ntmps18
  go_wp2
  go_ret
  refine ⟨_, w.heap.size, rfl, ?_, Nat.le_refl _, ⟨?_, ho2, ?_⟩, ?_⟩
  all_goals first | omega | exact hv | exact below_on14 (hW1 ▸ hx) (Nat.le_refl _) hx2

set_option maxHeartbeats 4000000 in
set_option maxRecDepth 100000 in
theorem at_miss {A b B N : Nat} {k m : Int} {D : DataW Value} (c : Int) (w : World) (hc : (Lit.int .i64 c).wf = true) (hcell : cellB c = true) (h : MV w A b N k m D) (hA : B ≤ A) (hs : B ≤ w.heap.size) (hat : D.atKey (.int .i64 c) (.held (.agg #[.int .i64 0, .int .u64 0, .int .u64 0, .int .i64 0, .string ⟨#[]⟩, .string ⟨#[]⟩, .bool false, .int .i64 0, .slice none 0 0, .slice none 0 0, .slice none 0 0])) = .held (.agg #[.int .i64 0, .int .u64 0, .int .u64 0, .int .i64 0, .string ⟨#[]⟩, .string ⟨#[]⟩, .bool false, .int .i64 0, .slice none 0 0, .slice none 0 0, .slice none 0 0])) (hno : Maps.has D (.int .i64 c) = false) : Calls Try.prog 26 #[.pointer (some ⟨A, 0, none⟩), .int .i64 c] w fun e w' => e = .returned (.tuple #[.agg #[.int .i64 0, .int .u64 0, .int .u64 0, .int .i64 0, .string ⟨#[]⟩, .string ⟨#[]⟩, .bool false, .int .i64 0, .slice none 0 0, .slice none 0 0, .slice none 0 0], .bool false]) ∧ MV w' A b N (if k = 0 then 1 else k) (if k = 0 then c else m) D ∧ Below B w w' := by
  have hx := boxed_below w (.cells #[.int .i64 0, .int .u64 0, .int .u64 0, .int .i64 0, .string ⟨#[]⟩, .string ⟨#[]⟩, .bool false, .int .i64 0, .slice none 0 0, .slice none 0 0, .slice none 0 0] 52)
  have n1 := BX.new w 52 #[.int .i64 0, .int .u64 0, .int .u64 0, .int .i64 0, .string ⟨#[]⟩, .string ⟨#[]⟩, .bool false, .int .i64 0, .slice none 0 0, .slice none 0 0, .slice none 0 0]
  obtain ⟨W1, hW1⟩ : ∃ W, W = w.alloc (.cells #[.int .i64 0, .int .u64 0, .int .u64 0, .int .i64 0, .string ⟨#[]⟩, .string ⟨#[]⟩, .bool false, .int .i64 0, .slice none 0 0, .slice none 0 0, .slice none 0 0] 52) := ⟨_, rfl⟩
  rw [← hW1] at hx n1
  have hm1 := h.keep hx
  have HI := Lib.hid (known_yes W1 hm1)
  have hlook : (Instr.lookup 76 (.map (some b)) (.int .i64 c) true).run Try.prog W1 = .ok (.tuple #[.agg #[.int .i64 0, .int .u64 0, .int .u64 0, .int .i64 0, .string ⟨#[]⟩, .string ⟨#[]⟩, .bool false, .int .i64 0, .slice none 0 0, .slice none 0 0, .slice none 0 0], .bool false]) W1 := by
    have hl := mlook hm1 hc hat
    rw [hno] at hl
    exact hl
  have hx2 := boxed_below W1 (.cells #[.int .i64 0, .int .u64 0, .int .u64 0, .int .i64 0, .string ⟨#[]⟩, .string ⟨#[]⟩, .bool false, .int .i64 0, .slice none 0 0, .slice none 0 0, .slice none 0 0] 52)
  have n2 := BX.new W1 52 #[.int .i64 0, .int .u64 0, .int .u64 0, .int .i64 0, .string ⟨#[]⟩, .string ⟨#[]⟩, .bool false, .int .i64 0, .slice none 0 0, .slice none 0 0, .slice none 0 0]
  obtain ⟨W2, hW2⟩ : ∃ W, W = W1.alloc (.cells #[.int .i64 0, .int .u64 0, .int .u64 0, .int .i64 0, .string ⟨#[]⟩, .string ⟨#[]⟩, .bool false, .int .i64 0, .slice none 0 0, .slice none 0 0, .slice none 0 0] 52) := ⟨_, rfl⟩
  rw [← hW2] at hx2 n2
  have hm2 := hm1.keep hx2
  have hlt := lt_of_block h.view
  have HX2 := Lib.hid (below_on14 hx (Nat.le_refl _) hx2)
  have HN1 := Lib.hid (n1.below hx2)
  have HN2 := Lib.hid n2
  have HCE := Lib.hid (fun W => fcell_any c W)
  have hs2 : w.heap.size ≤ W2.heap.size := Nat.le_trans hx.size hx2.size
  have hgs : W1.heap.size < W2.heap.size := by rw [hW2, World.size_alloc]; omega
  have hws : w.heap.size < W2.heap.size := by have := hx.size; omega
  have HL := Lib.hid (lack_yes (B := A) 1 c W2 hm2 (Nat.le_refl _) (Nat.le_of_lt (lt_of_block hm2.view)))
  obtain ⟨k', hk'⟩ : ∃ k', k' = (if k = 0 then 1 else k) := ⟨_, rfl⟩
  obtain ⟨m', hm'⟩ : ∃ m', m' = (if k = 0 then c else m) := ⟨_, rfl⟩
  rw [← hk', ← hm'] at HL ⊢
  have hne : w.heap.size ≠ W1.heap.size := by rw [hW1, World.size_alloc]; omega
  have HB := Lib.hid (show b ≠ w.heap.size from fun e => by have := h.map.lt; omega)
  have HW1 := Lib.hid hW1
  have HW2 := Lib.hid hW2
  have HNA : Hid (A < w.heap.size) := Lib.hid hlt
  have HG : Hid (w.heap.size ≤ W1.heap.size ∧ B ≤ A ∧ B ≤ w.heap.size) := Lib.hid ⟨hx.size, hA, hs⟩
  rw [hcell] at HCE
  clear h hc hx hW1 n1 hx2 n2 hW2 hm1 hm2 hat hno hlt hs2 hgs hws hA hs hk' hm'
  go_enter Try.func26, Try.ntmps26
  go_upto_region 1 with fail
  rw [← HW1.out]
  go_wp2_with fail
  refine HI.out.mono ?_
  rintro e w3 ⟨rfl, h3⟩
  rw [← h3]
  clear h3
  go_upto_region 2 with fail
  rw [← HW2.out]
  clear HW1 HW2
  obtain ⟨g, hg⟩ : ∃ g, g = W1.heap.size := ⟨_, rfl⟩
  rw [← hg] at HN2 hne HG ⊢
  have hgA : g ≠ A := by have := HG.out; have := HNA.out; omega
  have hzA : w.heap.size ≠ A := by have := HNA.out; omega
  have HLT := Lib.hid (show w.heap.size < W2.heap.size ∧ g < W2.heap.size from ⟨lt_of_block HN1.out, lt_of_block HN2.out⟩)
  clear hg
  go_wp2_with fail
  refine (HCE.out _).mono ?_
  rintro e w4 ⟨rfl, h4⟩
  rw [← h4]
  clear h4
  go_wp2_with fail
  refine HL.out.mono ?_
  rintro e w5 ⟨rfl, hm5, hb5, hk5⟩
  have HX5 := Lib.hid ((HX2.out.mono HG.out.2.2).trans (hb5.mono HG.out.2.1))
  have HN15 := Lib.hid ((hk5 _ HLT.out.1 hzA).trans HN1.out)
  have HN25 := Lib.hid ((hk5 _ HLT.out.2 hgA).trans HN2.out)
  have HM5 := Lib.hid hm5
  clear hb5 hk5 hm5
  have n5 : BX w5 w.heap.size 52 #[.int .i64 0, .int .u64 0, .int .u64 0, .int .i64 0, .string ⟨#[]⟩, .string ⟨#[]⟩, .bool false, .int .i64 0, .slice none 0 0, .slice none 0 0, .slice none 0 0] := HN15.out
  have g5 : BX w5 g 52 #[.int .i64 0, .int .u64 0, .int .u64 0, .int .i64 0, .string ⟨#[]⟩, .string ⟨#[]⟩, .bool false, .int .i64 0, .slice none 0 0, .slice none 0 0, .slice none 0 0] := HN25.out
  have c0 : w5.cell? ⟨g, 0, none⟩ = some (.int .i64 0) := g5.cell 0 rfl
  have c1 : w5.cell? ⟨g, 1, none⟩ = some (.int .u64 0) := g5.cell 1 rfl
  have c2 : w5.cell? ⟨g, 2, none⟩ = some (.int .u64 0) := g5.cell 2 rfl
  have c3 : w5.cell? ⟨g, 3, none⟩ = some (.int .i64 0) := g5.cell 3 rfl
  have c4 : w5.cell? ⟨g, 4, none⟩ = some (.string ⟨#[]⟩) := g5.cell 4 rfl
  have c5 : w5.cell? ⟨g, 5, none⟩ = some (.string ⟨#[]⟩) := g5.cell 5 rfl
  have c6 : w5.cell? ⟨g, 6, none⟩ = some (.bool false) := g5.cell 6 rfl
  have c7 : w5.cell? ⟨g, 7, none⟩ = some (.int .i64 0) := g5.cell 7 rfl
  have c8 : w5.cell? ⟨g, 8, none⟩ = some (.slice none 0 0) := g5.cell 8 rfl
  have c9 : w5.cell? ⟨g, 9, none⟩ = some (.slice none 0 0) := g5.cell 9 rfl
  have c10 : w5.cell? ⟨g, 10, none⟩ = some (.slice none 0 0) := g5.cell 10 rfl
  have r0 : w5.cell? ⟨w.heap.size, 0, none⟩ = some (.int .i64 0) := n5.cell 0 rfl
  have r1 : w5.cell? ⟨w.heap.size, 1, none⟩ = some (.int .u64 0) := n5.cell 1 rfl
  have r2 : w5.cell? ⟨w.heap.size, 2, none⟩ = some (.int .u64 0) := n5.cell 2 rfl
  have r3 : w5.cell? ⟨w.heap.size, 3, none⟩ = some (.int .i64 0) := n5.cell 3 rfl
  have r4 : w5.cell? ⟨w.heap.size, 4, none⟩ = some (.string ⟨#[]⟩) := n5.cell 4 rfl
  have r5 : w5.cell? ⟨w.heap.size, 5, none⟩ = some (.string ⟨#[]⟩) := n5.cell 5 rfl
  have r6 : w5.cell? ⟨w.heap.size, 6, none⟩ = some (.bool false) := n5.cell 6 rfl
  have r7 : w5.cell? ⟨w.heap.size, 7, none⟩ = some (.int .i64 0) := n5.cell 7 rfl
  have r8 : w5.cell? ⟨w.heap.size, 8, none⟩ = some (.slice none 0 0) := n5.cell 8 rfl
  have r9 : w5.cell? ⟨w.heap.size, 9, none⟩ = some (.slice none 0 0) := n5.cell 9 rfl
  have r10 : w5.cell? ⟨w.heap.size, 10, none⟩ = some (.slice none 0 0) := n5.cell 10 rfl
  have y0 := n5.frozen 0
  have y1 := n5.frozen 1
  have y2 := n5.frozen 2
  have y3 := n5.frozen 3
  have y4 := n5.frozen 4
  have y5 := n5.frozen 5
  have y6 := n5.frozen 6
  have y7 := n5.frozen 7
  have y8 := n5.frozen 8
  have y9 := n5.frozen 9
  have y10 := n5.frozen 10
  clear n5 g5
  go_wp2
  refine bodyPost_ret (v := .tuple #[.agg #[.int .i64 0, .int .u64 0, .int .u64 0, .int .i64 0, .string ⟨#[]⟩, .string ⟨#[]⟩, .bool false, .int .i64 0, .slice none 0 0, .slice none 0 0, .slice none 0 0], .bool false]) (by simp [results, Try.results26, go_sem, *]) rfl ?_
  have hAz : A ≠ w.heap.size := fun e => hzA e.symm
  have hbz : b ≠ w.heap.size := HB.out
  have hBz := HG.out.2.2
  refine ⟨rfl, ?_, ?_⟩
  · repeat' (first | (with_reducible exact HM5.out) | (with_reducible refine MV.other ?_ hAz hbz _))
  · repeat' (first | (with_reducible exact HX5.out) | (with_reducible refine Below.setCell ?_ hBz _))
end Go.Proofs.Ytlcnnnljdffbmaa
