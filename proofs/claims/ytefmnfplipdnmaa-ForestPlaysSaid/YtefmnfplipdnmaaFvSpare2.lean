/- A view that a call made: Spare. Condition: few spares. -/
import Derived.Test.YtefmnfplipdnmaaFvTake
import Derived.Deep.QuietTactic
namespace Go.Proofs.Ytefmnfplipdnmaa
open Go.RowKit Go.Maps

section
variable {B A b N : Nat} {so : Option Addr} {sn sc : Nat} {ks : List Kn} {ss : List (Int × Int)} {k m : Int}
set_option maxHeartbeats 4000000 in
set_option maxRecDepth 100000 in
theorem spare_out (c v : Int) (w : World) (hno : cellB c = false ∨ (cellB c = true ∧ hasS ss c = true)) (h : FV w B A b (.slice so sn sc) N ks ss k m) :
    Calls Try.prog 11 #[.pointer (some ⟨A, 0, none⟩), .agg #[.int .i64 c, .int .u64 v]] w fun e w' => e = .returned (.bool false) ∧ Below w.heap.size w w' := by
  have hx := boxed_below w (.cells #[.int .i64 c, .int .u64 v] 47)
  have n1 := BX.new w 47 #[.int .i64 c, .int .u64 v]
  obtain ⟨W1, hW1⟩ : ∃ W, W = w.alloc (.cells #[.int .i64 c, .int .u64 v] 47) := ⟨_, rfl⟩
  rw [← hW1] at hx n1
  have hm1 := h.keep hx
  have HI := Lib.hid (isMade_yes A b _ k m _ hm1.view)
  have HCE := Lib.hid (fun W => fcell_any c W)
  have HSP := Lib.hid (isSpare_fv c W1 hm1)
  have HX := Lib.hid hx
  have HW := Lib.hid hW1
  have k0 : W1.cell? ⟨w.heap.size, 0, none⟩ = some (.int .i64 c) := n1.cell 0 rfl
  clear hx hm1 h n1 hW1
  rcases hno with hno | ⟨hyes, hno⟩
  · rw [hno] at HCE
    clear hno
    go_enter Try.func11, Try.ntmps11
    go_upto_region 1 with fail
    rw [← HW.out]
    clear HW
    go_wp2_with fail
    refine HI.out.mono ?_
    rintro e w3 ⟨rfl, h3⟩
    rw [← h3]
    clear h3
    go_wp2_with fail
    refine (HCE.out _).mono ?_
    rintro e w4 ⟨rfl, h4⟩
    rw [← h4]
    clear h4
    go_wp2
    go_ret
    exact ⟨rfl, HX.out⟩
  · rw [hyes] at HCE
    rw [hno] at HSP
    clear hno hyes
    go_enter Try.func11, Try.ntmps11
    go_upto_region 1 with fail
    rw [← HW.out]
    clear HW
    go_wp2_with fail
    refine HI.out.mono ?_
    rintro e w3 ⟨rfl, h3⟩
    rw [← h3]
    clear h3
    go_wp2_with fail
    refine (HCE.out _).mono ?_
    rintro e w4 ⟨rfl, h4⟩
    rw [← h4]
    clear h4
    go_wp2_with fail
    refine HSP.out.mono ?_
    rintro e w5 ⟨rfl, hb5⟩
    have HX5 := Lib.hid (HX.out.trans (hb5.mono HX.out.size))
    clear hb5 k0
    go_wp2
    go_ret
    exact ⟨rfl, HX5.out⟩

/-- The slots that Spare's last statement loads. -/
def Sp3 (A G : Nat) (sv : Value) (c v : Int) (V : World) : Prop := V.cell? ⟨A, 1, none⟩ = some sv ∧ V.cell? ⟨G, 0, none⟩ = some (.int .i64 c) ∧ V.cell? ⟨G, 1, none⟩ = some (.int .u64 v)
theorem fv_spared {W3 w9 : World} {sv : Value} {g c9 : Nat} {c v : Int} (h : FV W3 B A b sv N ks ss k m) (hgrow : W3.grownBy w9 sv.ownBlock) (hown : w9.ownsRow B 47 2 (.slice (some ⟨g, 0, none⟩) (ss.length + 1) c9) (ss.length + 1) (spC ss ++ [.int .i64 c, .int .u64 v])) :
    FV (w9.setCell ⟨A, 1, none⟩ (.slice (some ⟨g, 0, none⟩) (ss.length + 1) c9)) B A b (.slice (some ⟨g, 0, none⟩) (ss.length + 1) c9) N ks (ss ++ [(c, v)]) k m ∧ Turn (VS A b sv) W3 (w9.setCell ⟨A, 1, none⟩ (.slice (some ⟨g, 0, none⟩) (ss.length + 1) c9)) := by
  have ht : Turn (VS A b sv) W3 (w9.setCell ⟨A, 1, none⟩ (.slice (some ⟨g, 0, none⟩) (ss.length + 1) c9)) := Turn.setCell (S := VS A b sv) (Turn.grown (S := VS A b sv) (Turn.refl _ W3) hgrow (fun j hj => Or.inl (Or.inr (Or.inr hj)))) (Or.inl (Or.inl rfl)) _
  have hA : w9.heap[A]? = W3.heap[A]? := hgrow.block A h.lt.1 (fun e => (h.apart A e.symm).1 rfl)
  have hb9 : w9.heap[b]? = W3.heap[b]? := hgrow.block b h.lt.2.1 (fun e => (h.apart b e.symm).2 rfl)
  have hv9 : BX w9 A 86 #[.map (some b), sv, .int .i64 k, .int .i64 m] := hA.trans h.view
  obtain ⟨D, hD, hR⟩ := h.map
  refine ⟨⟨?_, ⟨D, ?_, hR.turn h.off ht⟩, ?_, h.ge, h.ne⟩, ht⟩
  · exact hv9.set 1 _
  · exact ownsMap_block14 hD (by rw [Below.heap_setCell w9 ⟨A, 1, none⟩ _ b (Ne.symm h.ne)]; exact hb9)
  · rw [List.length_append, List.length_singleton, spC_app]
    refine fv_moved hown (fun j cs hj => Below.heap_setCell w9 ⟨A, 1, none⟩ _ j (fun e => ?_))
    have e' : j = A := e
    rw [e'] at hj
    unfold BX at hv9
    rw [hv9] at hj
    injection hj with hj
    injection hj with _ hj _
    exact absurd hj (by decide)
set_option maxHeartbeats 4000000 in
set_option maxRecDepth 100000 in
theorem spare_add (c v : Int) (w : World) (hcell : cellB c = true) (hnew : hasS ss c = false) (hn : ss.length ≤ 1000000) (h : FV w B A b (.slice so sn sc) N ks ss k m) :
    Calls Try.prog 11 #[.pointer (some ⟨A, 0, none⟩), .agg #[.int .i64 c, .int .u64 v]] w fun e w' => ∃ g c9, e = .returned (.bool true) ∧ FV w' B A b (.slice (some ⟨g, 0, none⟩) (ss.length + 1) c9) N ks (ss ++ [(c, v)]) k m ∧ Turn (VS A b (.slice so sn sc)) w w' ∧ ((Value.slice so sn sc).ownBlock = some g ∨ w.heap.size ≤ g) := by
  obtain rfl := h.spn
  have hx := boxed_below w (.cells #[.int .i64 c, .int .u64 v] 47)
  have n1 := BX.new w 47 #[.int .i64 c, .int .u64 v]
  obtain ⟨W1, hW1⟩ : ∃ W, W = w.alloc (.cells #[.int .i64 c, .int .u64 v] 47) := ⟨_, rfl⟩
  rw [← hW1] at hx n1
  have hm1 := h.keep hx
  have HI := Lib.hid (isMade_yes A b _ k m _ hm1.view)
  have HCE := Lib.hid (fun W => fcell_any c W)
  have HSP := Lib.hid (isSpare_fv c W1 hm1)
  rw [hcell] at HCE
  rw [hnew] at HSP
  have HM := Lib.hid hm1
  have HX := Lib.hid hx
  have HN1 := Lib.hid n1
  have HW := Lib.hid hW1
  have HLT := Lib.hid (show w.heap.size < W1.heap.size by rw [hW1, World.size_alloc]; omega)
  have HG := Lib.hid (not_vs h (Nat.le_refl _))
  obtain ⟨i0, hi, hz0, hz1, hz2⟩ := info_parts fvInfoSp
  have HIN := Lib.hid (show _ ∧ _ ∧ _ ∧ _ from ⟨hi, hz0, hz1, hz2⟩)
  have k0 : W1.cell? ⟨w.heap.size, 0, none⟩ = some (.int .i64 c) := n1.cell 0 rfl
  clear hx hm1 h n1 hW1 hcell hnew hi hz0 hz1 hz2
  go_enter Try.func11, Try.ntmps11
  go_upto_region 1 with fail
  rw [← HW.out]
  clear HW
  go_wp2_with fail
  refine HI.out.mono ?_
  rintro e w3 ⟨rfl, h3⟩
  rw [← h3]
  clear h3
  go_wp2_with fail
  refine (HCE.out _).mono ?_
  rintro e w4 ⟨rfl, h4⟩
  rw [← h4]
  clear h4
  go_wp2_with fail
  refine HSP.out.mono ?_
  rintro e w5 ⟨rfl, hb5⟩
  have HM5 := Lib.hid (HM.out.keep hb5)
  have HX5 := Lib.hid (HX.out.trans (hb5.mono HX.out.size))
  have hn5 := HN1.out.below hb5
  have HN5 := Lib.hid hn5
  have hA : A < w5.heap.size := HM5.out.lt.1
  have HS0 := Lib.hid (show Sp3 A w.heap.size (.slice so ss.length sc) c v w5.drew from ⟨HM5.out.view.cell 1 rfl, hn5.cell 0 rfl, hn5.cell 1 rfl⟩)
  have hbA : Below w5.heap.size w5 (w5.drew.alloc (.cells #[.int .i64 c, .int .u64 v] 47)) := ((Below.refl _ w5).drew).alloc (Nat.le_refl _) _
  have HSB := Lib.hid (show Sp3 A w.heap.size (.slice so ss.length sc) c v (w5.drew.alloc (.cells #[.int .i64 c, .int .u64 v] 47)) from ⟨(HM5.out.keep hbA).view.cell 1 rfl, (hn5.below hbA).cell 0 rfl, (hn5.below hbA).cell 1 rfl⟩)
  have HMB := Lib.hid (HM5.out.keep hbA)
  have HNB := Lib.hid (hn5.below hbA)
  have HBA := Lib.hid hbA
  have hnews := World.news_of_block (cs := #[.int .i64 c, .int .u64 v]) (heap_alloc_new w5.drew (.cells #[.int .i64 c, .int .u64 v] 47))
  have HNEWS := Lib.hid hnews
  have hgl : w.heap.size < w5.heap.size := lt_of_block hn5
  have HGL := Lib.hid hgl
  clear hb5 k0 hn5 hbA hnews hgl
  go_upto_region 3 with fail
  refine wp_region_till (Sp3 A w.heap.size (.slice so ss.length sc) c v) 10 (by rfl) ?_
  refine wpAnyS_take 0 (some 20) [10] rfl rfl (by kernel_rfl) (by kernel_rfl) (by kernel_rfl) (by kernel_rfl) (by kernel_rfl) (by kernel_rfl) (by kernel_rfl) (fun _ _ _ h => h) (by rfl) (by intro V ⟨y1, y2, y3⟩; go_simp; (first | done | (with_reducible rfl))) HS0.out ?_
  simp only [Act.put, List.setIfInBounds_toArray, List.set_cons_zero, List.set_cons_succ]
  refine wpAnyS_take 1 (some 21) [10] rfl rfl (by kernel_rfl) (by kernel_rfl) (by kernel_rfl) (by kernel_rfl) (by kernel_rfl) (by kernel_rfl) (by kernel_rfl) (fun _ _ _ h => h) (by rfl) (by intro V ⟨y1, y2, y3⟩; go_simp; (first | done | (with_reducible rfl))) HS0.out ?_
  simp only [Act.put, List.setIfInBounds_toArray, List.set_cons_zero, List.set_cons_succ]
  refine wpAnyS_take 2 (some 22) [10] rfl rfl (by kernel_rfl) (by kernel_rfl) (by kernel_rfl) (by kernel_rfl) (by kernel_rfl) (by kernel_rfl) (by kernel_rfl) (fun _ _ _ h => h) (by rfl) (by intro V ⟨y1, y2, y3⟩; go_simp; (first | done | (with_reducible rfl))) HS0.out ?_
  simp only [Act.put, List.setIfInBounds_toArray, List.set_cons_zero, List.set_cons_succ]
  refine wpAnyS_take 3 (some 23) [10] rfl rfl (by kernel_rfl) (by kernel_rfl) (by kernel_rfl) (by kernel_rfl) (by kernel_rfl) (by kernel_rfl) (by kernel_rfl) (fun _ _ _ h => h) (by rfl) (by intro V ⟨y1, y2, y3⟩; go_simp; (first | done | (with_reducible rfl))) HS0.out ?_
  simp only [Act.put, List.setIfInBounds_toArray, List.set_cons_zero, List.set_cons_succ]
  refine wpAnyS_take 4 (some 24) [10] rfl rfl (by kernel_rfl) (by kernel_rfl) (by kernel_rfl) (by kernel_rfl) (by kernel_rfl) (by kernel_rfl) (by kernel_rfl) (fun _ _ _ h => h) (by rfl) (by intro V ⟨y1, y2, y3⟩; go_simp; (first | done | (with_reducible rfl))) HS0.out ?_
  simp only [Act.put, List.setIfInBounds_toArray, List.set_cons_zero, List.set_cons_succ]
  refine wpAnyS_take 5 (some 25) [10] rfl rfl (by kernel_rfl) (by kernel_rfl) (by kernel_rfl) (by kernel_rfl) (by kernel_rfl) (by kernel_rfl) (by kernel_rfl) (fun _ _ _ h => h) (by rfl) (by intro V ⟨y1, y2, y3⟩; go_simp; (first | done | (with_reducible rfl))) HS0.out ?_
  simp only [Act.put, List.setIfInBounds_toArray, List.set_cons_zero, List.set_cons_succ]
  refine wpAnyS_ready [6] (by kernel_rfl) (by simp) ?_
  refine AllReadyS.cons rfl (fun K hK => ?_) AllReadyS.nil
  go_simp
  refine hK.out _ _ (fun _ => HSB.out) ?_
  clear hK K
  refine wpAnyS_ready [7] (by kernel_rfl) (by simp) ?_
  refine AllReadyS.cons rfl (fun K hK => ?_) AllReadyS.nil
  refine step_append_lies _ rfl (.tmp 24) (.tmp 26) 27 rfl B 47 i0 (.agg #[.int .i64 0, .int .u64 0]) 2 16 Try.underlying27 HIN.out.1 HIN.out.2.1 HIN.out.2.2.1 HIN.out.2.2.2 rfl (by decide) (.slice so ss.length sc) ss.length (spC ss) rfl HMB.out.sp ⟨_, 0, none⟩ 1 1 [.int .i64 c, .int .u64 v] rfl rfl HNEWS.out (by intro u hu; simp at hu; rcases hu with rfl | rfl <;> rfl) (by omega) (by unfold maxLen; omega) (by omega) HMB.out.size _ rfl ?_
  intro g c9 w9 hown9 hgrow9 hlie9 hlt9
  obtain ⟨hf9, ht9⟩ := fv_spared HMB.out hgrow9 hown9
  have hA9 : w9.heap[A]? = _ := hgrow9.block A HMB.out.lt.1 (fun e => (HMB.out.apart A e.symm).1 rfl)
  have hG9 : w9.heap[w.heap.size]? = _ := hgrow9.block w.heap.size (Nat.lt_of_lt_of_le HGL.out HBA.out.size) (fun e => HG.out (Or.inr (Or.inr e.symm)))
  have hn9 : BX w9 w.heap.size 47 #[.int .i64 c, .int .u64 v] := hG9.trans HNB.out
  have hv9 : BX w9 A 86 #[.map (some b), .slice so ss.length sc, .int .i64 k, .int .i64 m] := hA9.trans HMB.out.view
  have HS9 := Lib.hid (show Sp3 A w.heap.size (.slice so ss.length sc) c v w9 from ⟨hv9.cell 1 rfl, hn9.cell 0 rfl, hn9.cell 1 rfl⟩)
  have y1 := hv9.cell 1 rfl
  have x1 := hv9.frozen 1
  have HE := Lib.hid (show _ ∧ _ from ⟨hf9, (Turn.of (S := VS A b (.slice so ss.length sc)) (HX5.out.trans (HBA.out.mono (Nat.le_of_lt HGL.out)))).trans ht9⟩)
  have HL := Lib.hid (show (Value.slice so ss.length sc).ownBlock = some g ∨ w.heap.size ≤ g by
    rcases hlie9 with h | h
    · exact Or.inl h
    · right; rw [h]; exact Nat.le_trans (Nat.le_of_lt HGL.out) HBA.out.size)
  clear hf9 ht9 hA9 hG9 hn9 hv9 hown9 hgrow9 hlie9 hlt9
  refine hK.out _ _ (fun _ => HS9.out) ?_
  clear hK K
  refine wpAnyS_ready [8] (by kernel_rfl) (by simp) ?_
  refine AllReadyS.cons rfl (fun K hK => ?_) AllReadyS.nil
  go_simp
  refine hK.out _ _ (fun _ => HS9.out) ?_
  clear hK K
  refine wpAnyS_ready [9] (by kernel_rfl) (by simp) ?_
  refine AllReadyS.cons rfl (fun K hK => ?_) AllReadyS.nil
  go_simp
  refine hK.out _ _ (fun _ => HS9.out) ?_
  clear hK K
  refine wpAnyS_ready [10] (by kernel_rfl) (by simp) ?_
  refine AllReadyS.cons rfl (fun K hK => ?_) AllReadyS.nil
  go_simp
  refine hK.out _ _ (fun h => absurd h (by decide)) ?_
  clear hK K
  refine wpAnyS_done (by kernel_rfl) ?_ _
  go_wp2
  go_ret
  exact ⟨g, c9, rfl, HE.out.1, HE.out.2, HL.out⟩
end
end Go.Proofs.Ytefmnfplipdnmaa
