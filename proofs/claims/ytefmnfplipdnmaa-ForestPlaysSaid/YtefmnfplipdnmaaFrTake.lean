/- The document's Take. Condition: few spares. -/
import Derived.Test.YtefmnfplipdnmaaFrSpare
namespace Go.Proofs.Ytefmnfplipdnmaa
open Go.RowKit Go.Maps

set_option maxHeartbeats 4000000 in
set_option maxRecDepth 100000 in
theorem rtake_hit (ao : Option Addr) (n c : Nat) (so : Option Addr) (sn sc : Nat) (k m i : Int) (ss : List (Int × Int)) (w : World) (h : SpAt w (.slice so sn sc) ss) (hi0 : 0 ≤ i) (hi : i < sn) (hn : sn ≤ 8192) :
    Calls Try.prog 20 #[.agg #[.slice ao n c, .slice so sn sc, .int .i64 k, .int .i64 m], .int .i64 i] w fun e w' => e = .returned (.tuple #[.agg #[.slice ao n c, .slice so sn sc, .int .i64 k, .int .i64 m], .agg #[.int .i64 (nts ss i.toNat).1, .int .u64 (nts ss i.toNat).2], .bool true]) ∧ Below w.heap.size w w' := by
  obtain ⟨W1, hW1, b1, b2, b3, hx, hsz⟩ := bx3 w 31 31 47 #[.slice ao n c, .slice so sn sc, .int .i64 k, .int .i64 m] #[.slice none 0 0, .slice none 0 0, .int .i64 0, .int .i64 0] #[.int .i64 0, .int .u64 0]
  obtain ⟨hl1, hl2, hl3⟩ := h.len
  have HX := Lib.hid hx
  have HW := Lib.hid hW1
  have HCE := Lib.hid (fun W => rcell14_any i W)
  have HS := Lib.hid (h.keep hx)
  have HL := Lib.hid hl1
  obtain ⟨g1, hg1⟩ : ∃ g, g = w.heap.size + 1 := ⟨_, rfl⟩
  obtain ⟨g2, hg2⟩ : ∃ g, g = w.heap.size + 2 := ⟨_, rfl⟩
  rw [← hg1] at b2
  rw [← hg2] at b3
  have HG := Lib.hid (show g1 = w.heap.size + 1 ∧ g2 = w.heap.size + 2 ∧ W1.heap.size = w.heap.size + 3 from ⟨hg1, hg2, hsz⟩)
  have hne : w.heap.size ≠ g2 := by omega
  have hne' : g2 ≠ w.heap.size := by omega
  have hne1 : w.heap.size ≠ g1 := by omega
  have hne1' : g1 ≠ w.heap.size := by omega
  have hn12 : g1 ≠ g2 := by omega
  have hn12' : g2 ≠ g1 := by omega
  have HB := Lib.hid (show _ ∧ _ ∧ _ from ⟨b1, b2, b3⟩)
  have u0 := b1.cell 0 rfl
  have u1 := b1.cell 1 rfl
  have u2 := b1.cell 2 rfl
  have u3 := b1.cell 3 rfl
  have z0 := b2.cell 0 rfl
  have z1 := b2.cell 1 rfl
  have z2 := b2.cell 2 rfl
  have z3 := b2.cell 3 rfl
  have f0 := b2.frozen 0
  have f1 := b2.frozen 1
  have f2 := b2.frozen 2
  have f3 := b2.frozen 3
  have l0 := b3.cell 0 rfl
  have l1 := b3.cell 1 rfl
  have d0 := b3.frozen 0
  have d1 := b3.frozen 1
  have hcell : cellB i = true := by rw [cellB_iff]; omega
  rw [hcell] at HCE
  obtain ⟨j, rfl⟩ : ∃ j : Nat, i = j := ⟨i.toNat, by omega⟩
  obtain ⟨g, o, rfl, h1, h2⟩ := h.get (j := j) (by omega)
  have hgl : g < w.heap.size := World.block_lt_of_cell? w _ h1
  have e1 : W1.cell? ⟨g, o + j * 2, none⟩ = _ := (hx.cell (p := ⟨g, o + j * 2, none⟩) hgl).trans h1
  have e2 : W1.cell? ⟨g, o + j * 2 + 1, none⟩ = _ := (hx.cell (p := ⟨g, o + j * 2 + 1, none⟩) hgl).trans h2
  rw [show ((j : Int)).toNat = j from by omega]
  obtain ⟨p, hp⟩ : ∃ p, p = nts ss j := ⟨_, rfl⟩
  rw [← hp] at e1 e2 ⊢
  obtain ⟨a, v⟩ := p
  have hgg1 : g ≠ g1 := by omega
  have hgg1' : g1 ≠ g := by omega
  have hgg2 : g ≠ g2 := by omega
  have hgg2' : g2 ≠ g := by omega
  clear hx hW1 b1 b2 b3 hsz hg1 hg2 h hl1 h1 h2 hcell hp
  go_enter Try.func20, Try.ntmps20
  go_upto_region 1 with fail
  rw [← HW.out]
  try simp only [World.size_alloc]
  rw [show w.heap.size + 1 + 1 = w.heap.size + 2 from rfl, ← HG.out.1, ← HG.out.2.1]
  clear HW
  go_wp2_with fail
  refine (HCE.out _).mono ?_
  rintro e w4 ⟨rfl, h4⟩
  rw [← h4]
  clear h4
  go_upto_region 4 with fail
  go_region
  all_goals (go_wp2; refine bodyPost_ret (v := .tuple #[.agg #[.slice ao n c, .slice (some ⟨g, o, none⟩) sn sc, .int .i64 k, .int .i64 m], .agg #[.int .i64 a, .int .u64 v], .bool true]) (by simp [results, Try.results20, go_sem, *]) rfl ?_)
  all_goals refine ⟨rfl, ?_⟩
  all_goals have hgg1 : w.heap.size ≤ g1 := by have := HG.out; omega
  all_goals have hgg2 : w.heap.size ≤ g2 := by have := HG.out; omega
  all_goals repeat' (first | (with_reducible exact HX.out) | (with_reducible refine Below.setCell ?_ ?_ _) | (with_reducible refine Below.drew ?_) | exact hgg1 | exact hgg2)

set_option maxHeartbeats 4000000 in
set_option maxRecDepth 100000 in
theorem rtake_miss (ao : Option Addr) (n c : Nat) (so : Option Addr) (sn sc : Nat) (k m i : Int) (ss : List (Int × Int)) (w : World) (h : SpAt w (.slice so sn sc) ss) (hi : i < 0 ∨ (sn : Int) ≤ i) :
    Calls Try.prog 20 #[.agg #[.slice ao n c, .slice so sn sc, .int .i64 k, .int .i64 m], .int .i64 i] w fun e w' => e = .returned (.tuple #[.agg #[.slice ao n c, .slice so sn sc, .int .i64 (lackK k (cellB i) 2), .int .i64 (lackM k m (cellB i) (i + 1))], .agg #[.int .i64 0, .int .u64 0], .bool false]) ∧ Below w.heap.size w w' := by
  obtain ⟨W1, hW1, b1, b2, b3, hx, hsz⟩ := bx3 w 31 31 47 #[.slice ao n c, .slice so sn sc, .int .i64 k, .int .i64 m] #[.slice none 0 0, .slice none 0 0, .int .i64 0, .int .i64 0] #[.int .i64 0, .int .u64 0]
  obtain ⟨hl1, hl2, hl3⟩ := h.len
  have HX := Lib.hid hx
  have HW := Lib.hid hW1
  have HCE := Lib.hid (fun W => rcell14_any i W)
  have HS := Lib.hid (h.keep hx)
  have HL := Lib.hid hl1
  obtain ⟨g1, hg1⟩ : ∃ g, g = w.heap.size + 1 := ⟨_, rfl⟩
  obtain ⟨g2, hg2⟩ : ∃ g, g = w.heap.size + 2 := ⟨_, rfl⟩
  rw [← hg1] at b2
  rw [← hg2] at b3
  have HG := Lib.hid (show g1 = w.heap.size + 1 ∧ g2 = w.heap.size + 2 ∧ W1.heap.size = w.heap.size + 3 from ⟨hg1, hg2, hsz⟩)
  have hne : w.heap.size ≠ g2 := by omega
  have hne' : g2 ≠ w.heap.size := by omega
  have hne1 : w.heap.size ≠ g1 := by omega
  have hne1' : g1 ≠ w.heap.size := by omega
  have hn12 : g1 ≠ g2 := by omega
  have hn12' : g2 ≠ g1 := by omega
  have HB := Lib.hid (show _ ∧ _ ∧ _ from ⟨b1, b2, b3⟩)
  have u0 := b1.cell 0 rfl
  have u1 := b1.cell 1 rfl
  have u2 := b1.cell 2 rfl
  have u3 := b1.cell 3 rfl
  clear hx hW1 b1 b2 b3 hsz hg1 hg2 h hl1
  cases hcb : cellB i with
  | false =>
    rw [hcb] at HCE
    have HLK := Lib.hid (rlack_any ao n c so sn sc k m 3 0 W1)
    obtain ⟨kk, hkk⟩ : ∃ z, z = lackK k true 3 := ⟨_, rfl⟩
    obtain ⟨mm, hmm⟩ : ∃ z, z = lackM k m true 0 := ⟨_, rfl⟩
    rw [← hkk, ← hmm] at HLK
    have HKK := Lib.hid (show lackK k false 2 = kk from by rw [hkk, lackK_f k 2])
    have HMM := Lib.hid (show lackM k m false (i + 1) = mm from by rw [hmm, lackM_f k m (i + 1)])
    clear hkk hmm hcb hi
    go_enter Try.func20, Try.ntmps20
    go_upto_region 1 with fail
    rw [← HW.out]
    try simp only [World.size_alloc]
    rw [show w.heap.size + 1 + 1 = w.heap.size + 2 from rfl, ← HG.out.1, ← HG.out.2.1]
    clear HW
    go_wp2_with fail
    refine (HCE.out _).mono ?_
    rintro e w4 ⟨rfl, h4⟩
    rw [← h4]
    clear h4
    go_wp2_with fail
    refine HLK.out.mono ?_
    rintro e w7 ⟨rfl, hb7⟩
    have c2 := HB.out.2.1.below hb7
    have c3 := HB.out.2.2.below hb7
    have HX7 := Lib.hid (HX.out.trans (hb7.mono HX.out.size))
    clear u0 u1 u2 u3 hb7
    have z0 := c2.cell 0 rfl
    have z1 := c2.cell 1 rfl
    have z2 := c2.cell 2 rfl
    have z3 := c2.cell 3 rfl
    have f0 := c2.frozen 0
    have f1 := c2.frozen 1
    have f2 := c2.frozen 2
    have f3 := c2.frozen 3
    have l0 := c3.cell 0 rfl
    have l1 := c3.cell 1 rfl
    have d0 := c3.frozen 0
    have d1 := c3.frozen 1
    clear c2 c3
    go_wp2
    refine bodyPost_ret (v := .tuple #[.agg #[.slice ao n c, .slice so sn sc, .int .i64 kk, .int .i64 mm], .agg #[.int .i64 0, .int .u64 0], .bool false]) (by simp [results, Try.results20, go_sem, *]) rfl ?_
    rw [HKK.out, HMM.out]
    refine ⟨rfl, ?_⟩
    have hgg1 : w.heap.size ≤ g1 := by have := HG.out; omega
    have hgg2 : w.heap.size ≤ g2 := by have := HG.out; omega
    repeat' (first | (with_reducible exact HX7.out) | (with_reducible refine Below.setCell ?_ ?_ _) | (with_reducible refine Below.drew ?_) | exact hgg1 | exact hgg2)
  | true =>
    rw [hcb] at HCE
    have hrange : 0 ≤ i ∧ i < 8192 := by rw [← cellB_iff]; exact hcb
    have hge : (sn : Int) ≤ i := by omega
    have hnl : ¬ (i < (sn : Int)) := by omega
    have hp : 0 ≤ i := hrange.1
    have hb8 : i < 8192 := hrange.2
    have HLK := Lib.hid (rlack_any ao n c so sn sc k m 2 (i + 1) W1)
    obtain ⟨kk, hkk⟩ : ∃ z, z = lackK k true 2 := ⟨_, rfl⟩
    obtain ⟨mm, hmm⟩ : ∃ z, z = lackM k m true (i + 1) := ⟨_, rfl⟩
    rw [← hkk, ← hmm] at HLK
    have HKK := Lib.hid hkk.symm
    have HMM := Lib.hid hmm.symm
    clear hkk hmm hcb hi hrange
    go_enter Try.func20, Try.ntmps20
    go_upto_region 1 with fail
    rw [← HW.out]
    try simp only [World.size_alloc]
    rw [show w.heap.size + 1 + 1 = w.heap.size + 2 from rfl, ← HG.out.1, ← HG.out.2.1]
    clear HW
    go_wp2_with fail
    refine (HCE.out _).mono ?_
    rintro e w4 ⟨rfl, h4⟩
    rw [← h4]
    clear h4
    go_wp2_with fail
    refine HLK.out.mono ?_
    rintro e w7 ⟨rfl, hb7⟩
    have c2 := HB.out.2.1.below hb7
    have c3 := HB.out.2.2.below hb7
    have HX7 := Lib.hid (HX.out.trans (hb7.mono HX.out.size))
    clear u0 u1 u2 u3 hb7
    have z0 := c2.cell 0 rfl
    have z1 := c2.cell 1 rfl
    have z2 := c2.cell 2 rfl
    have z3 := c2.cell 3 rfl
    have f0 := c2.frozen 0
    have f1 := c2.frozen 1
    have f2 := c2.frozen 2
    have f3 := c2.frozen 3
    have l0 := c3.cell 0 rfl
    have l1 := c3.cell 1 rfl
    have d0 := c3.frozen 0
    have d1 := c3.frozen 1
    clear c2 c3
    go_wp2
    refine bodyPost_ret (v := .tuple #[.agg #[.slice ao n c, .slice so sn sc, .int .i64 kk, .int .i64 mm], .agg #[.int .i64 0, .int .u64 0], .bool false]) (by simp [results, Try.results20, go_sem, *]) rfl ?_
    rw [HKK.out, HMM.out]
    refine ⟨rfl, ?_⟩
    have hgg1 : w.heap.size ≤ g1 := by have := HG.out; omega
    have hgg2 : w.heap.size ≤ g2 := by have := HG.out; omega
    repeat' (first | (with_reducible exact HX7.out) | (with_reducible refine Below.setCell ?_ ?_ _) | (with_reducible refine Below.drew ?_) | exact hgg1 | exact hgg2)
end Go.Proofs.Ytefmnfplipdnmaa
