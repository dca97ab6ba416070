/- A view that a call made: Spare. Condition: few spares. The document's Spare and Take. Condition: few spares. The document's view beside a code's view. No condition. No walk. Rows of acts that came in, eleven cells an element; are they light? No condition. The document's view of nodes that came in (bowerref19.View). Conditions: sizes that fit. bowerlaw21.views: both views of known nodes and spares. Condition: there are few. -/
import Derived.Test.YtdbklklmpnlinaaFvTake
import Derived.Deep.QuietTactic
import Derived.BigQuiet
import Derived.Test.YtdbklklmpnlinaaEdRow
import Derived.Test.YtdbklklmpnlinaaPgf
import Derived.Test.YtdbklklmpnlinaaFvSpare
namespace Go.Proofs.Ytdbklklmpnlinaa
open Go.RowKit Go.Maps

section
variable {B A b N : Nat} {so : Option Addr} {sn sc : Nat} {ks : List Kn} {ss : List (Int × Int)} {k m : Int}
set_option maxHeartbeats 4000000 in
set_option maxRecDepth 100000 in
theorem spare_out (c v : Int) (w : World) (hno : cellB c = false ∨ (cellB c = true ∧ hasS ss c = true)) (h : FV w B A b (.slice so sn sc) N ks ss k m) :
    Calls Try.prog 40 #[.pointer (some ⟨A, 0, none⟩), .agg #[.int .i64 c, .int .u64 v]] w fun e w' => e = .returned (.bool false) ∧ Below w.heap.size w w' := by
  have hx := boxed_below w (.cells #[.int .i64 c, .int .u64 v] 51)
  have n1 := BX.new w 51 #[.int .i64 c, .int .u64 v]
  obtain ⟨W1, hW1⟩ : ∃ W, W = w.alloc (.cells #[.int .i64 c, .int .u64 v] 51) := ⟨_, rfl⟩
  rw [← hW1] at hx n1
  have hm1 := h.keep hx
  have HI := Lib.hid (isMade_yes A b _ k m _ hm1.view)
  have HCE := Lib.hid (fun W => fcell_any c W)
  have HSP := Lib.hid (isSpare_fv c W1 hm1)
  have HX := Lib.hid hx
  have HW := Lib.hid hW1
  have k0 : W1.cell? ⟨w.heap.size, 0, none⟩ = some (.int .i64 c) := n1.cell 0 rfl
  clear hx hm1 h n1 hW1
  rcases hno with hno | ⟨hyes, hno⟩
  · rw [hno] at HCE
    clear hno
    go_enter Try.func40, Try.ntmps40
    go_upto_region 1 with fail
    rw [← HW.out]
    clear HW
    go_wp2_with fail
    refine HI.out.mono ?_
    rintro e w3 ⟨rfl, h3⟩
    rw [← h3]
    clear h3
    go_wp2_with fail
    refine (HCE.out _).mono ?_
    rintro e w4 ⟨rfl, h4⟩
    rw [← h4]
    clear h4
    go_wp2
    go_ret
    exact ⟨rfl, HX.out⟩
  · rw [hyes] at HCE
    rw [hno] at HSP
    clear hno hyes
    go_enter Try.func40, Try.ntmps40
    go_upto_region 1 with fail
    rw [← HW.out]
    clear HW
    go_wp2_with fail
    refine HI.out.mono ?_
    rintro e w3 ⟨rfl, h3⟩
    rw [← h3]
    clear h3
    go_wp2_with fail
    refine (HCE.out _).mono ?_
    rintro e w4 ⟨rfl, h4⟩
    rw [← h4]
    clear h4
    go_wp2_with fail
    refine HSP.out.mono ?_
    rintro e w5 ⟨rfl, hb5⟩
    have HX5 := Lib.hid (HX.out.trans (hb5.mono HX.out.size))
    clear hb5 k0
    go_wp2
    go_ret
    exact ⟨rfl, HX5.out⟩

/-- The slots that Spare's last statement loads. -/
def Sp3 (A G : Nat) (sv : Value) (c v : Int) (V : World) : Prop := V.cell? ⟨A, 1, none⟩ = some sv ∧ V.cell? ⟨G, 0, none⟩ = some (.int .i64 c) ∧ V.cell? ⟨G, 1, none⟩ = some (.int .u64 v)
theorem fv_spared {W3 w9 : World} {sv : Value} {g c9 : Nat} {c v : Int} (h : FV W3 B A b sv N ks ss k m) (hgrow : W3.grownBy w9 sv.ownBlock) (hown : w9.ownsRow B 51 2 (.slice (some ⟨g, 0, none⟩) (ss.length + 1) c9) (ss.length + 1) (spC ss ++ [.int .i64 c, .int .u64 v])) :
    FV (w9.setCell ⟨A, 1, none⟩ (.slice (some ⟨g, 0, none⟩) (ss.length + 1) c9)) B A b (.slice (some ⟨g, 0, none⟩) (ss.length + 1) c9) N ks (ss ++ [(c, v)]) k m ∧ Turn (VS A b sv) W3 (w9.setCell ⟨A, 1, none⟩ (.slice (some ⟨g, 0, none⟩) (ss.length + 1) c9)) := by
  have ht : Turn (VS A b sv) W3 (w9.setCell ⟨A, 1, none⟩ (.slice (some ⟨g, 0, none⟩) (ss.length + 1) c9)) := Turn.setCell (S := VS A b sv) (Turn.grown (S := VS A b sv) (Turn.refl _ W3) hgrow (fun j hj => Or.inl (Or.inr (Or.inr hj)))) (Or.inl (Or.inl rfl)) _
  have hA : w9.heap[A]? = W3.heap[A]? := hgrow.block A h.lt.1 (fun e => (h.apart A e.symm).1 rfl)
  have hb9 : w9.heap[b]? = W3.heap[b]? := hgrow.block b h.lt.2.1 (fun e => (h.apart b e.symm).2 rfl)
  have hv9 : BX w9 A 130 #[.map (some b), sv, .int .i64 k, .int .i64 m] := hA.trans h.view
  obtain ⟨D, hD, hR⟩ := h.map
  refine ⟨⟨?_, ⟨D, ?_, hR.turn h.off ht⟩, ?_, h.ge, h.ne⟩, ht⟩
  · exact hv9.set 1 _
  · exact ownsMap_block14 hD (by rw [Below.heap_setCell w9 ⟨A, 1, none⟩ _ b (Ne.symm h.ne)]; exact hb9)
  · rw [List.length_append, List.length_singleton, spC_app]
    refine fv_moved hown (fun j cs hj => Below.heap_setCell w9 ⟨A, 1, none⟩ _ j (fun e => ?_))
    have e' : j = A := e
    rw [e'] at hj
    unfold BX at hv9
    rw [hv9] at hj
    injection hj with hj
    injection hj with _ hj _
    exact absurd hj (by decide)
set_option maxHeartbeats 4000000 in
set_option maxRecDepth 100000 in
theorem spare_add (c v : Int) (w : World) (hcell : cellB c = true) (hnew : hasS ss c = false) (hn : ss.length ≤ 1000000) (h : FV w B A b (.slice so sn sc) N ks ss k m) :
    Calls Try.prog 40 #[.pointer (some ⟨A, 0, none⟩), .agg #[.int .i64 c, .int .u64 v]] w fun e w' => ∃ g c9, e = .returned (.bool true) ∧ FV w' B A b (.slice (some ⟨g, 0, none⟩) (ss.length + 1) c9) N ks (ss ++ [(c, v)]) k m ∧ Turn (VS A b (.slice so sn sc)) w w' ∧ ((Value.slice so sn sc).ownBlock = some g ∨ w.heap.size ≤ g) := by
  obtain rfl := h.spn
  have hx := boxed_below w (.cells #[.int .i64 c, .int .u64 v] 51)
  have n1 := BX.new w 51 #[.int .i64 c, .int .u64 v]
  obtain ⟨W1, hW1⟩ : ∃ W, W = w.alloc (.cells #[.int .i64 c, .int .u64 v] 51) := ⟨_, rfl⟩
  rw [← hW1] at hx n1
  have hm1 := h.keep hx
  have HI := Lib.hid (isMade_yes A b _ k m _ hm1.view)
  have HCE := Lib.hid (fun W => fcell_any c W)
  have HSP := Lib.hid (isSpare_fv c W1 hm1)
  rw [hcell] at HCE
  rw [hnew] at HSP
  have HM := Lib.hid hm1
  have HX := Lib.hid hx
  have HN1 := Lib.hid n1
  have HW := Lib.hid hW1
  have HLT := Lib.hid (show w.heap.size < W1.heap.size by rw [hW1, World.size_alloc]; omega)
  have HG := Lib.hid (not_vs h (Nat.le_refl _))
  obtain ⟨i0, hi, hz0, hz1, hz2⟩ := info_parts fvInfoSp
  have HIN := Lib.hid (show _ ∧ _ ∧ _ ∧ _ from ⟨hi, hz0, hz1, hz2⟩)
  have k0 : W1.cell? ⟨w.heap.size, 0, none⟩ = some (.int .i64 c) := n1.cell 0 rfl
  clear hx hm1 h n1 hW1 hcell hnew hi hz0 hz1 hz2
  go_enter Try.func40, Try.ntmps40
  go_upto_region 1 with fail
  rw [← HW.out]
  clear HW
  go_wp2_with fail
  refine HI.out.mono ?_
  rintro e w3 ⟨rfl, h3⟩
  rw [← h3]
  clear h3
  go_wp2_with fail
  refine (HCE.out _).mono ?_
  rintro e w4 ⟨rfl, h4⟩
  rw [← h4]
  clear h4
  go_wp2_with fail
  refine HSP.out.mono ?_
  rintro e w5 ⟨rfl, hb5⟩
  have HM5 := Lib.hid (HM.out.keep hb5)
  have HX5 := Lib.hid (HX.out.trans (hb5.mono HX.out.size))
  have hn5 := HN1.out.below hb5
  have HN5 := Lib.hid hn5
  have hA : A < w5.heap.size := HM5.out.lt.1
  have HS0 := Lib.hid (show Sp3 A w.heap.size (.slice so ss.length sc) c v w5.drew from ⟨HM5.out.view.cell 1 rfl, hn5.cell 0 rfl, hn5.cell 1 rfl⟩)
  have hbA : Below w5.heap.size w5 (w5.drew.alloc (.cells #[.int .i64 c, .int .u64 v] 51)) := ((Below.refl _ w5).drew).alloc (Nat.le_refl _) _
  have HSB := Lib.hid (show Sp3 A w.heap.size (.slice so ss.length sc) c v (w5.drew.alloc (.cells #[.int .i64 c, .int .u64 v] 51)) from ⟨(HM5.out.keep hbA).view.cell 1 rfl, (hn5.below hbA).cell 0 rfl, (hn5.below hbA).cell 1 rfl⟩)
  have HMB := Lib.hid (HM5.out.keep hbA)
  have HNB := Lib.hid (hn5.below hbA)
  have HBA := Lib.hid hbA
  have hnews := World.news_of_block (cs := #[.int .i64 c, .int .u64 v]) (heap_alloc_new w5.drew (.cells #[.int .i64 c, .int .u64 v] 51))
  have HNEWS := Lib.hid hnews
  have hgl : w.heap.size < w5.heap.size := lt_of_block hn5
  have HGL := Lib.hid hgl
  clear hb5 k0 hn5 hbA hnews hgl
  go_upto_region 3 with fail
  refine wp_region_till (Sp3 A w.heap.size (.slice so ss.length sc) c v) 10 (by rfl) ?_
  refine wpAnyS_take 0 (some 20) [10] rfl rfl (by kernel_rfl) (by kernel_rfl) (by kernel_rfl) (by kernel_rfl) (by kernel_rfl) (by kernel_rfl) (by kernel_rfl) (fun _ _ _ h => h) (by rfl) (by intro V ⟨y1, y2, y3⟩; go_simp; (first | done | (with_reducible rfl))) HS0.out ?_
  simp only [Act.put, List.setIfInBounds_toArray, List.set_cons_zero, List.set_cons_succ]
  refine wpAnyS_take 1 (some 21) [10] rfl rfl (by kernel_rfl) (by kernel_rfl) (by kernel_rfl) (by kernel_rfl) (by kernel_rfl) (by kernel_rfl) (by kernel_rfl) (fun _ _ _ h => h) (by rfl) (by intro V ⟨y1, y2, y3⟩; go_simp; (first | done | (with_reducible rfl))) HS0.out ?_
  simp only [Act.put, List.setIfInBounds_toArray, List.set_cons_zero, List.set_cons_succ]
  refine wpAnyS_take 2 (some 22) [10] rfl rfl (by kernel_rfl) (by kernel_rfl) (by kernel_rfl) (by kernel_rfl) (by kernel_rfl) (by kernel_rfl) (by kernel_rfl) (fun _ _ _ h => h) (by rfl) (by intro V ⟨y1, y2, y3⟩; go_simp; (first | done | (with_reducible rfl))) HS0.out ?_
  simp only [Act.put, List.setIfInBounds_toArray, List.set_cons_zero, List.set_cons_succ]
  refine wpAnyS_take 3 (some 23) [10] rfl rfl (by kernel_rfl) (by kernel_rfl) (by kernel_rfl) (by kernel_rfl) (by kernel_rfl) (by kernel_rfl) (by kernel_rfl) (fun _ _ _ h => h) (by rfl) (by intro V ⟨y1, y2, y3⟩; go_simp; (first | done | (with_reducible rfl))) HS0.out ?_
  simp only [Act.put, List.setIfInBounds_toArray, List.set_cons_zero, List.set_cons_succ]
  refine wpAnyS_take 4 (some 24) [10] rfl rfl (by kernel_rfl) (by kernel_rfl) (by kernel_rfl) (by kernel_rfl) (by kernel_rfl) (by kernel_rfl) (by kernel_rfl) (fun _ _ _ h => h) (by rfl) (by intro V ⟨y1, y2, y3⟩; go_simp; (first | done | (with_reducible rfl))) HS0.out ?_
  simp only [Act.put, List.setIfInBounds_toArray, List.set_cons_zero, List.set_cons_succ]
  refine wpAnyS_take 5 (some 25) [10] rfl rfl (by kernel_rfl) (by kernel_rfl) (by kernel_rfl) (by kernel_rfl) (by kernel_rfl) (by kernel_rfl) (by kernel_rfl) (fun _ _ _ h => h) (by rfl) (by intro V ⟨y1, y2, y3⟩; go_simp; (first | done | (with_reducible rfl))) HS0.out ?_
  simp only [Act.put, List.setIfInBounds_toArray, List.set_cons_zero, List.set_cons_succ]
  refine wpAnyS_ready [6] (by kernel_rfl) (by simp) ?_
  refine AllReadyS.cons rfl (fun K hK => ?_) AllReadyS.nil
  go_simp
  refine hK.out _ _ (fun _ => HSB.out) ?_
  clear hK K
  refine wpAnyS_ready [7] (by kernel_rfl) (by simp) ?_
  refine AllReadyS.cons rfl (fun K hK => ?_) AllReadyS.nil
  refine step_append_lies _ rfl (.tmp 24) (.tmp 26) 34 rfl B 51 i0 (.agg #[.int .i64 0, .int .u64 0]) 2 16 Try.underlying34 HIN.out.1 HIN.out.2.1 HIN.out.2.2.1 HIN.out.2.2.2 rfl (by decide) (.slice so ss.length sc) ss.length (spC ss) rfl HMB.out.sp ⟨_, 0, none⟩ 1 1 [.int .i64 c, .int .u64 v] rfl rfl HNEWS.out (by intro u hu; simp at hu; rcases hu with rfl | rfl <;> rfl) (by omega) (by unfold maxLen; omega) (by omega) HMB.out.size _ rfl ?_
  intro g c9 w9 hown9 hgrow9 hlie9 hlt9
  obtain ⟨hf9, ht9⟩ := fv_spared HMB.out hgrow9 hown9
  have hA9 : w9.heap[A]? = _ := hgrow9.block A HMB.out.lt.1 (fun e => (HMB.out.apart A e.symm).1 rfl)
  have hG9 : w9.heap[w.heap.size]? = _ := hgrow9.block w.heap.size (Nat.lt_of_lt_of_le HGL.out HBA.out.size) (fun e => HG.out (Or.inr (Or.inr e.symm)))
  have hn9 : BX w9 w.heap.size 51 #[.int .i64 c, .int .u64 v] := hG9.trans HNB.out
  have hv9 : BX w9 A 130 #[.map (some b), .slice so ss.length sc, .int .i64 k, .int .i64 m] := hA9.trans HMB.out.view
  have HS9 := Lib.hid (show Sp3 A w.heap.size (.slice so ss.length sc) c v w9 from ⟨hv9.cell 1 rfl, hn9.cell 0 rfl, hn9.cell 1 rfl⟩)
  have y1 := hv9.cell 1 rfl
  have x1 := hv9.frozen 1
  have HE := Lib.hid (show _ ∧ _ from ⟨hf9, (Turn.of (S := VS A b (.slice so ss.length sc)) (HX5.out.trans (HBA.out.mono (Nat.le_of_lt HGL.out)))).trans ht9⟩)
  have HL := Lib.hid (show (Value.slice so ss.length sc).ownBlock = some g ∨ w.heap.size ≤ g by
    rcases hlie9 with h | h
    · exact Or.inl h
    · right; rw [h]; exact Nat.le_trans (Nat.le_of_lt HGL.out) HBA.out.size)
  clear hf9 ht9 hA9 hG9 hn9 hv9 hown9 hgrow9 hlie9 hlt9
  refine hK.out _ _ (fun _ => HS9.out) ?_
  clear hK K
  refine wpAnyS_ready [8] (by kernel_rfl) (by simp) ?_
  refine AllReadyS.cons rfl (fun K hK => ?_) AllReadyS.nil
  go_simp
  refine hK.out _ _ (fun _ => HS9.out) ?_
  clear hK K
  refine wpAnyS_ready [9] (by kernel_rfl) (by simp) ?_
  refine AllReadyS.cons rfl (fun K hK => ?_) AllReadyS.nil
  go_simp
  refine hK.out _ _ (fun _ => HS9.out) ?_
  clear hK K
  refine wpAnyS_ready [10] (by kernel_rfl) (by simp) ?_
  refine AllReadyS.cons rfl (fun K hK => ?_) AllReadyS.nil
  go_simp
  refine hK.out _ _ (fun h => absurd h (by decide)) ?_
  clear hK K
  refine wpAnyS_done (by kernel_rfl) ?_ _
  go_wp2
  go_ret
  exact ⟨g, c9, rfl, HE.out.1, HE.out.2, HL.out⟩
end
end Go.Proofs.Ytdbklklmpnlinaa

namespace Go.Proofs.Ytdbklklmpnlinaa
open Go.RowKit Go.Maps

theorem below_drewN14 {B : Nat} {a w : World} (h : Below B a w) (n : Nat) : Below B a (w.drewN n) := h.trans ⟨rfl, rfl, rfl, Nat.le_refl _, fun _ _ => rfl⟩
/-- A nil row has nothing. -/
def NilN (so : Option Addr) (sn sc : Nat) : Prop := so = none → sn = 0 ∧ sc = 0
theorem sp_news {w : World} {g o n c : Nat} {sp : Option Nat} {ss : List (Int × Int)} (h : SpAt w (.slice (some ⟨g, o, sp⟩) n c) ss) : ∀ j u, (spC ss)[j]? = some u → w.cell? ((⟨g, o, sp⟩ : Addr).add j) = some u := by
  intro j u hu
  have hj : j < ss.length * 2 := by
    have := (List.getElem?_eq_some_iff.1 hu).1
    rw [spC_len] at this
    exact this
  have hn := h.len.1
  obtain ⟨g2, o2, e, h1, h2⟩ := h.get (j := j / 2) (by omega)
  injection e with e
  injection e with e1 e2 e3
  subst e1 e2 e3
  obtain ⟨q1, q2⟩ := spC_at ss (j / 2) (by omega)
  have hadd : (⟨g, o, none⟩ : Addr).add j = ⟨g, o + j, none⟩ := by unfold Addr.add; split <;> simp_all
  rw [hadd]
  rcases Nat.mod_two_eq_zero_or_one j with hm | hm
  · have e : j = j / 2 * 2 := by omega
    rw [← e] at q1 h1
    rw [q1] at hu
    injection hu with hu
    rw [← hu]
    exact h1
  · have e : j = j / 2 * 2 + 1 := by omega
    rw [show o + j / 2 * 2 + 1 = o + j by omega] at h2
    rw [← e] at q2
    rw [q2] at hu
    injection hu with hu
    rw [← hu]
    exact h2
theorem step_append_sp {w : World} {ops : Array Oper} {o : Oper} {a : Act} {K : Act → World → Prop} {Q : Exit → Act → World → Prop} {E : Prop} (hgd : o.guard = none) (s x : Operand)
    (ho : o.op = .call { callee := .builtin .append, args := #[s, x], argTypes := #[34, 34] }) (base : Nat) (v : Value) (hs : a.eval s = v) (hown : w.ownsRow base 51 2 v 0 [])
    (so : Option Addr) (n c : Nat) (ss : List (Int × Int)) (hx : a.eval x = .slice so n c) (hsp : SpAt w (.slice so n c) ss) (hnil : NilN so n c) (hn : n ≤ 1000000) (hbase : base ≤ w.heap.size)
    (h : ∀ v' w', w'.ownsRow base 51 2 v' n (spC ss) → w.grownBy w' v.ownBlock → K (a.put o.dst v') w') :
    if Region.wanted o (yielded ops a.tmps) = true then Oper.wp Try.prog o a w K Q else E := by
  have hw : Region.wanted o (yielded ops a.tmps) = true := by simp [Region.wanted, hgd]
  rw [if_pos hw]
  obtain ⟨i0, hi, hz0, hz1, hz2⟩ := info_parts fvInfoSp
  have hl := hsp.len.1
  cases so with
  | none =>
    obtain ⟨rfl, rfl⟩ := hnil rfl
    have hss : ss = [] := List.eq_nil_of_length_eq_zero hl.symm
    subst hss
    have hrun := run_append_owned_none (P := Try.prog) (w := w) base 34 o.type 51 i0 2 Try.underlying34 hi v 0 [] hown
    unfold Oper.wp
    simp [execOp, ho, resolve, invoke, builtin, hs, hx, hrun, Result.andThen]
    exact h _ _ hown ⟨rfl, rfl, rfl, Nat.le_refl _, fun _ _ _ => rfl⟩
  | some ad =>
    refine wp_append_own w s x 34 ho base 51 i0 _ 2 16 Try.underlying34 hi hz0 hz1 hz2 rfl (by decide) v 0 [] hs hown ad n c (spC ss) hx (by rw [spC_len, hl]) (sp_news hsp) (spC_one ss) (by unfold maxLen; omega) (by omega) hbase ?_
    intro v' w' h2 h3 _
    rw [Nat.zero_add, List.nil_append] at h2
    exact h v' w' h2 h3
theorem rspare_end {W w9 : World} {ao : Option Addr} {V n c c9 g9 i sn sc : Nat} {so : Option Addr} {k m x v : Int} {ss : List (Int × Int)} (hl : i = ss.length) (he : BX w9 V 49 #[.slice ao n c, .slice so sn sc, .int .i64 k, .int .i64 m])
    (ho : w9.ownsRow W.heap.size 51 2 (.slice (some ⟨g9, 0, none⟩) (i + 1) c9) (i + 1) (spC (ss ++ [(x, v)]))) (hb : Below W.heap.size W w9) :
    Hid (∃ ro rc, BX (w9.setCell ⟨V, 1, none⟩ (.slice (some ⟨g9, 0, none⟩) (i + 1) c9)) V 49 #[.slice ao n c, .slice ro (ss.length + 1) rc, .int .i64 k, .int .i64 m] ∧ (w9.setCell ⟨V, 1, none⟩ (.slice (some ⟨g9, 0, none⟩) (i + 1) c9)).ownsRow W.heap.size 51 2 (.slice ro (ss.length + 1) rc) (ss.length + 1) (spC (ss ++ [(x, v)])) ∧ ro ≠ none ∧ Turn (fun g => g = V) W (w9.setCell ⟨V, 1, none⟩ (.slice (some ⟨g9, 0, none⟩) (i + 1) c9))) := by
  subst hl
  refine Lib.hid ⟨some ⟨g9, 0, none⟩, c9, he.set 1 _, ?_, by simp, Turn.setCell (S := fun g => g = V) (Turn.of hb) (Or.inl rfl) _⟩
  refine fv_moved ho (fun g cs hg => Below.heap_setCell w9 ⟨V, 1, none⟩ _ g (fun e => ?_))
  have e' : g = V := e
  rw [e'] at hg
  unfold BX at he
  rw [he] at hg
  injection hg with hg
  injection hg with _ hg _
  exact absurd hg (by decide)
/-- The cells that Spare's last statement loads. -/
def Rs3 (V G : Nat) (sv : Value) (x v : Int) (W : World) : Prop := W.cell? ⟨V, 1, none⟩ = some sv ∧ W.cell? ⟨G, 0, none⟩ = some (.int .i64 x) ∧ W.cell? ⟨G, 1, none⟩ = some (.int .u64 v)

set_option maxHeartbeats 4000000 in
set_option maxRecDepth 100000 in
theorem rspare_out (ao : Option Addr) (n c : Nat) (so : Option Addr) (sn sc : Nat) (k m x v : Int) (ss : List (Int × Int)) (w : World) (h : SpAt w (.slice so sn sc) ss) (hno : cellB x = false ∨ (cellB x = true ∧ hasS ss x = true)) :
    Calls Try.prog 41 #[.agg #[.slice ao n c, .slice so sn sc, .int .i64 k, .int .i64 m], .agg #[.int .i64 x, .int .u64 v]] w fun e w' => e = .returned (.tuple #[.agg #[.slice ao n c, .slice so sn sc, .int .i64 k, .int .i64 m], .bool false]) ∧ Below w.heap.size w w' := by
  obtain ⟨W1, hW1, b1, b2, b3, hx, hsz⟩ := bx3 w 49 51 49 #[.slice ao n c, .slice so sn sc, .int .i64 k, .int .i64 m] #[.int .i64 x, .int .u64 v] #[.slice none 0 0, .slice none 0 0, .int .i64 0, .int .i64 0]
  obtain ⟨hl1, hl2, hl3⟩ := h.len
  have HX := Lib.hid hx
  have HW := Lib.hid hW1
  have HCE := Lib.hid (fun W => rcell14_any x W)
  have HS := Lib.hid (h.keep hx)
  have HL := Lib.hid hl1
  obtain ⟨g1, hg1⟩ : ∃ g, g = w.heap.size + 1 := ⟨_, rfl⟩
  obtain ⟨g2, hg2⟩ : ∃ g, g = w.heap.size + 2 := ⟨_, rfl⟩
  rw [← hg1] at b2
  rw [← hg2] at b3
  have HG := Lib.hid (show g1 = w.heap.size + 1 ∧ g2 = w.heap.size + 2 ∧ W1.heap.size = w.heap.size + 3 from ⟨hg1, hg2, hsz⟩)
  have hne : w.heap.size ≠ g2 := by omega
  have hne' : g2 ≠ w.heap.size := by omega
  have HB := Lib.hid (show _ ∧ _ ∧ _ from ⟨b1, b2, b3⟩)
  have s0 := b2.cell 0 rfl
  clear hx hW1 b1 b2 b3 hsz hg1 hg2 h hl1
  rcases hno with hno | ⟨hyes, hno⟩
  · rw [hno] at HCE
    clear hno
    go_enter Try.func41, Try.ntmps41
    go_upto_region 1 with fail
    rw [← HW.out]
    try simp only [World.size_alloc]
    rw [show w.heap.size + 1 + 1 = w.heap.size + 2 from rfl, ← HG.out.1, ← HG.out.2.1]
    clear HW
    go_wp2_with fail
    refine (HCE.out _).mono ?_
    rintro e w4 ⟨rfl, h4⟩
    rw [← h4]
    clear h4
    have HWB := HX
    have b3 := HB.out.2.2
    have b1 := HB.out.1
    have q0 := b1.cell 0 rfl
    have q1 := b1.cell 1 rfl
    have q2 := b1.cell 2 rfl
    have q3 := b1.cell 3 rfl
    have r0 := b3.cell 0 rfl
    have r1 := b3.cell 1 rfl
    have r2 := b3.cell 2 rfl
    have r3 := b3.cell 3 rfl
    have y0 := b3.frozen 0
    have y1 := b3.frozen 1
    have y2 := b3.frozen 2
    have y3 := b3.frozen 3
    clear b1 b3
    go_wp2
    refine bodyPost_ret (v := .tuple #[.agg #[.slice ao n c, .slice so sn sc, .int .i64 k, .int .i64 m], .bool false]) (by simp [results, Try.results41, go_sem, *]) rfl ?_
    refine ⟨rfl, ?_⟩
    have hgg : w.heap.size ≤ g2 := by have := HG.out; omega
    repeat' (first | (with_reducible exact HWB.out) | (with_reducible refine Below.setCell ?_ ?_ _) | exact Nat.le_refl _ | exact hgg)
  · rw [hyes] at HCE
    have HNO := Lib.hid hno
    clear hno hyes
    go_enter Try.func41, Try.ntmps41
    go_upto_region 1 with fail
    rw [← HW.out]
    try simp only [World.size_alloc]
    rw [show w.heap.size + 1 + 1 = w.heap.size + 2 from rfl, ← HG.out.1, ← HG.out.2.1]
    clear HW
    go_wp2_with fail
    refine (HCE.out _).mono ?_
    rintro e w4 ⟨rfl, h4⟩
    rw [← h4]
    clear h4
    go_wp2
    go_loopw [6] (fun s wr => ∃ i : Nat, s = .int .i64 i ∧ i ≤ sn ∧ Hid (Below W1.heap.size W1 wr) ∧ Hid (∀ j, j < i → (nts ss j).1 ≠ x)) (fun s _ => sn - (intOf s).toNat)
    case atStart => exact ⟨0, rfl, Nat.zero_le _, Lib.hid (Below.refl _ _), Lib.hid (fun j hj => absurd hj (Nat.not_lt_zero _))⟩
    case round =>
      obtain ⟨i, rfl, hi, hwr, hall⟩ := hrel
      clear s0
      have e1 := HB.out.1.below hwr.out
      have e2 := HB.out.2.1.below hwr.out
      have e3 := HB.out.2.2.below hwr.out
      have q0 := e1.cell 0 rfl
      have q1 := e1.cell 1 rfl
      have q2 := e1.cell 2 rfl
      have q3 := e1.cell 3 rfl
      have s0 := e2.cell 0 rfl
      have s1 := e2.cell 1 rfl
      have r0 := e3.cell 0 rfl
      have r1 := e3.cell 1 rfl
      have r2 := e3.cell 2 rfl
      have r3 := e3.cell 3 rfl
      have y0 := e3.frozen 0
      have y1 := e3.frozen 1
      have y2 := e3.frozen 2
      have y3 := e3.frozen 3
      clear e1 e2 e3
      by_cases hlt : i < sn
      · obtain ⟨g, o, rfl, h1, h2⟩ := (HS.out.keep hwr.out).get hlt
        have hlt' : (i : Int) < sn := by omega
        obtain ⟨z, hz⟩ : ∃ z, z = (nts ss i).1 := ⟨_, rfl⟩
        rw [← hz] at h1
        have HZ := Lib.hid hz
        clear hz h2
        by_cases he : z = x
        · subst he
          go_upto_region 6 with fail
          go_quiet (fail)
          have HWB := Lib.hid (below_drewN14 (HX.out.trans (hwr.out.mono HX.out.size)) nq)
          go_wp2
          refine bodyPost_ret (v := .tuple #[.agg #[.slice ao n c, .slice (some ⟨g, o, none⟩) sn sc, .int .i64 k, .int .i64 m], .bool false]) (by simp [results, Try.results41, go_sem, *]) rfl ?_
          refine ⟨rfl, ?_⟩
          have hgg : w.heap.size ≤ g2 := by have := HG.out; omega
          repeat' (first | (with_reducible exact HWB.out) | (with_reducible refine Below.setCell ?_ ?_ _) | exact Nat.le_refl _ | exact hgg)
        · skip
          have hez : (z == x) = false := beq_eq_false_iff_ne.2 he
          have HN : Hid (∀ j, j < i + 1 → (nts ss j).1 ≠ x) := Lib.hid (fun j hj => by
            by_cases e : j = i
            · subst e; rw [← HZ.out]; exact he
            · exact hall.out j (by omega))
          go_upto_region 6 with fail
          go_quiet (fail)
          go_wp2
          go_roundw
          case rel => exact ⟨i + 1, by go_num, by omega, Lib.hid (below_drewN14 hwr.out _), HN⟩
          case measure => simp [intOf]; omega
      · exfalso
        have h1 := hasS_none (ss := ss) (c := x) (fun j hj => hall.out j (by have := HL.out; omega))
        rw [HNO.out] at h1
        cases h1

set_option maxHeartbeats 8000000 in
set_option maxRecDepth 100000 in
theorem rspare_add (ao : Option Addr) (n c : Nat) (so : Option Addr) (sn sc : Nat) (k m x v : Int) (ss : List (Int × Int)) (w : World) (h : SpAt w (.slice so sn sc) ss) (hcell : cellB x = true) (hnew : hasS ss x = false) (hnil : NilN so sn sc) (hn : sn ≤ 1000000) :
    Calls Try.prog 41 #[.agg #[.slice ao n c, .slice so sn sc, .int .i64 k, .int .i64 m], .agg #[.int .i64 x, .int .u64 v]] w fun e w' => (∃ ro rn rc, e = .returned (.tuple #[.agg #[.slice ao n c, .slice ro rn rc, .int .i64 k, .int .i64 m], .bool true]) ∧ w'.ownsRow w.heap.size 51 2 (.slice ro rn rc) rn (spC (ss ++ [(x, v)])) ∧ rn = ss.length + 1 ∧ ro ≠ none) ∧ Below w.heap.size w w' := by
  obtain ⟨W1, hW1, b1, b2, b3, hx, hsz⟩ := bx3 w 49 51 49 #[.slice ao n c, .slice so sn sc, .int .i64 k, .int .i64 m] #[.int .i64 x, .int .u64 v] #[.slice none 0 0, .slice none 0 0, .int .i64 0, .int .i64 0]
  obtain ⟨hl1, hl2, hl3⟩ := h.len
  have HX := Lib.hid hx
  have HW := Lib.hid hW1
  have HCE := Lib.hid (fun W => rcell14_any x W)
  have HS := Lib.hid (h.keep hx)
  have HL := Lib.hid hl1
  obtain ⟨g1, hg1⟩ : ∃ g, g = w.heap.size + 1 := ⟨_, rfl⟩
  obtain ⟨g2, hg2⟩ : ∃ g, g = w.heap.size + 2 := ⟨_, rfl⟩
  rw [← hg1] at b2
  rw [← hg2] at b3
  have HG := Lib.hid (show g1 = w.heap.size + 1 ∧ g2 = w.heap.size + 2 ∧ W1.heap.size = w.heap.size + 3 from ⟨hg1, hg2, hsz⟩)
  have hne : w.heap.size ≠ g2 := by omega
  have hne' : g2 ≠ w.heap.size := by omega
  have HB := Lib.hid (show _ ∧ _ ∧ _ from ⟨b1, b2, b3⟩)
  have s0 := b2.cell 0 rfl
  have HNEW := Lib.hid hnew
  have HNIL := Lib.hid (show NilN so sn sc from hnil)
  rw [hcell] at HCE
  clear hx hW1 b1 b2 b3 hsz hg1 hg2 h hl1 hcell hnew hnil
  go_enter Try.func41, Try.ntmps41
  go_upto_region 1 with fail
  rw [← HW.out]
  try simp only [World.size_alloc]
  rw [show w.heap.size + 1 + 1 = w.heap.size + 2 from rfl, ← HG.out.1, ← HG.out.2.1]
  clear HW
  go_wp2_with fail
  refine (HCE.out _).mono ?_
  rintro e w4 ⟨rfl, h4⟩
  rw [← h4]
  clear h4
  go_wp2
  go_loopw [6] (fun s wr => ∃ i : Nat, s = .int .i64 i ∧ i ≤ sn ∧ Hid (Below W1.heap.size W1 wr) ∧ Hid (∀ j, j < i → (nts ss j).1 ≠ x)) (fun s _ => sn - (intOf s).toNat)
  case atStart => exact ⟨0, rfl, Nat.zero_le _, Lib.hid (Below.refl _ _), Lib.hid (fun j hj => absurd hj (Nat.not_lt_zero _))⟩
  case round =>
    obtain ⟨i, rfl, hi, hwr, hall⟩ := hrel
    clear s0
    have e1 := HB.out.1.below hwr.out
    have e2 := HB.out.2.1.below hwr.out
    have e3 := HB.out.2.2.below hwr.out
    have q0 := e1.cell 0 rfl
    have q1 := e1.cell 1 rfl
    have q2 := e1.cell 2 rfl
    have q3 := e1.cell 3 rfl
    have s0 := e2.cell 0 rfl
    have s1 := e2.cell 1 rfl
    have r0 := e3.cell 0 rfl
    have r1 := e3.cell 1 rfl
    have r2 := e3.cell 2 rfl
    have r3 := e3.cell 3 rfl
    have y0 := e3.frozen 0
    have y1 := e3.frozen 1
    have y2 := e3.frozen 2
    have y3 := e3.frozen 3
    clear e1 e2 e3
    by_cases hlt : i < sn
    · obtain ⟨g, o, rfl, h1, h2⟩ := (HS.out.keep hwr.out).get hlt
      have hlt' : (i : Int) < sn := by omega
      obtain ⟨z, hz⟩ : ∃ z, z = (nts ss i).1 := ⟨_, rfl⟩
      rw [← hz] at h1
      have HZ := Lib.hid hz
      clear hz h2
      by_cases he : z = x
      · exfalso
        subst he
        have h1 := hasS_some (ss := ss) (c := z) (i := i) (by have := HL.out; omega) HZ.out.symm
        rw [HNEW.out] at h1
        cases h1
      · skip
        have hez : (z == x) = false := beq_eq_false_iff_ne.2 he
        have HN : Hid (∀ j, j < i + 1 → (nts ss j).1 ≠ x) := Lib.hid (fun j hj => by
          by_cases e : j = i
          · subst e; rw [← HZ.out]; exact he
          · exact hall.out j (by omega))
        go_upto_region 6 with fail
        go_quiet (fail)
        go_wp2
        go_roundw
        case rel => exact ⟨i + 1, by go_num, by omega, Lib.hid (below_drewN14 hwr.out _), HN⟩
        case measure => simp [intOf]; omega
    · obtain rfl : i = sn := by omega
      clear hall hlt hi
      go_upto_region 8 with fail
      go_cut [] (fun wx => Hid (∃ ro rc, BX wx w.heap.size 49 #[.slice ao n c, .slice ro (ss.length + 1) rc, .int .i64 k, .int .i64 m] ∧ wx.ownsRow wr.heap.size 51 2 (.slice ro (ss.length + 1) rc) (ss.length + 1) (spC (ss ++ [(x, v)])) ∧ ro ≠ none ∧ Turn (fun g => g = w.heap.size) wr wx))
      case first =>
        have HRS := Lib.hid (fun W (hb : Below wr.heap.size wr W) => (show Rs3 w.heap.size g1 (.slice so i sc) x v W from ⟨((HB.out.1.below hwr.out).below hb).cell 1 rfl, ((HB.out.2.1.below hwr.out).below hb).cell 0 rfl, ((HB.out.2.1.below hwr.out).below hb).cell 1 rfl⟩))
        have HSP := Lib.hid (fun W (hb : Below wr.heap.size wr W) => (HS.out.keep hwr.out).keep hb)
        obtain ⟨i0, hi, hz0, hz1, hz2⟩ := info_parts fvInfoSp
        have HI := Lib.hid (show _ ∧ _ ∧ _ ∧ _ from ⟨hi, hz0, hz1, hz2⟩)
        have hone : ∀ u ∈ [Value.int .i64 x, Value.int .u64 v], u.oneCell' = true := by intro u hu; simp at hu; rcases hu with rfl | rfl <;> rfl
        have HONE := Lib.hid hone
        clear hi hz0 hz1 hz2 hone q0 q1 q2 q3 s0 s1 r0 r1 r2 r3 y0 y1 y2 y3
        refine wp_region_till (Rs3 w.heap.size g1 (.slice so i sc) x v) 8 (by rfl) ?_
        refine wpAnyS_take 1 (some 30) [8] rfl rfl (by kernel_rfl) (by kernel_rfl) (by kernel_rfl) (by kernel_rfl) (by kernel_rfl) (by kernel_rfl) (by kernel_rfl) (fun _ _ _ h => h) (by rfl) (by intro V ⟨y1, y2, y3⟩; go_simp; (first | done | (with_reducible rfl))) (HRS.out _ (Below.refl _ wr).drew) ?_
        simp only [Act.put, List.setIfInBounds_toArray, List.set_cons_zero, List.set_cons_succ]
        refine wpAnyS_take 2 (some 31) [8] rfl rfl (by kernel_rfl) (by kernel_rfl) (by kernel_rfl) (by kernel_rfl) (by kernel_rfl) (by kernel_rfl) (by kernel_rfl) (fun _ _ _ h => h) (by rfl) (by intro V ⟨y1, y2, y3⟩; go_simp; (first | done | (with_reducible rfl))) (HRS.out _ (Below.refl _ wr).drew) ?_
        simp only [Act.put, List.setIfInBounds_toArray, List.set_cons_zero, List.set_cons_succ]
        refine wpAnyS_take 4 (some 33) [8] rfl rfl (by kernel_rfl) (by kernel_rfl) (by kernel_rfl) (by kernel_rfl) (by kernel_rfl) (by kernel_rfl) (by kernel_rfl) (fun _ _ _ h => h) (by rfl) (by intro V ⟨y1, y2, y3⟩; go_simp; (first | done | (with_reducible rfl))) (HRS.out _ (Below.refl _ wr).drew) ?_
        simp only [Act.put, List.setIfInBounds_toArray, List.set_cons_zero, List.set_cons_succ]
        refine wpAnyS_ready [0, 5] (by kernel_rfl) (by simp) ?_
        refine AllReadyS.cons rfl (fun K hK => ?_) (AllReadyS.cons rfl (fun K hK => ?_) AllReadyS.nil)
        · go_simp
          have HB1 := Lib.hid (Below.alloc (Below.refl wr.heap.size wr).drew ((Below.refl wr.heap.size wr).drew).size (.cells #[] 51))
          have HO1 := Lib.hid (show (wr.drew.alloc (.cells #[] 51)).ownsRow wr.heap.size 51 2 (.slice (some ⟨wr.heap.size, 0, none⟩) 0 0) 0 [] from by
            have h9 := World.ownsRow_made (base := wr.heap.size) (e := 51) (size := 2) wr.drew #[] 0 ((Below.refl wr.heap.size wr).drew).size (Nat.zero_le _) rfl
            try rw [World.size_alloc] at h9
            exact h9)
          refine hK.out _ _ (fun _ => HRS.out _ HB1.out) ?_
          clear hK K
          refine wpAnyS_ready [3, 5] (by kernel_rfl) (by simp) ?_
          refine AllReadyS.cons rfl (fun K hK => ?_) (AllReadyS.cons rfl (fun K hK => ?_) AllReadyS.nil)
          · refine step_append_sp rfl (.tmp 29) (.tmp 31) rfl wr.heap.size (.slice (some ⟨wr.heap.size, 0, none⟩) 0 0) rfl HO1.out so i sc ss rfl (HSP.out _ HB1.out) HNIL.out hn (HB1.out).size ?_
            intro v2 w2 hown2 hgrow2
            have HB2 := Lib.hid (Below.grown HB1.out hgrow2 (HB1.out).size (fun j hj => (fv_block HO1.out hj).1))
            have HO2 := Lib.hid hown2
            clear hown2 hgrow2
            refine hK.out _ _ (fun _ => HRS.out _ HB2.out) ?_
            clear hK K
            refine wpAnyS_ready [5] (by kernel_rfl) (by simp) ?_
            refine AllReadyS.cons rfl (fun K hK => ?_) AllReadyS.nil
            go_simp
            have HB3 := Lib.hid (Below.alloc HB2.out (HB2.out).size (.cells #[.int .i64 x, .int .u64 v] 51))
            have HN3 := Lib.hid (show BX (w2.alloc (.cells #[.int .i64 x, .int .u64 v] 51)) (w2.heap.size) 51 #[.int .i64 x, .int .u64 v] from by
              have h9 := BX.new w2 51 #[.int .i64 x, .int .u64 v]
              try rw [World.size_alloc] at h9
              exact h9)
            have HO3 := Lib.hid (fv_stays HO2.out ((Below.refl _ _).alloc (Nat.le_refl _) (.cells #[.int .i64 x, .int .u64 v] 51)))
            refine hK.out _ _ (fun _ => HRS.out _ HB3.out) ?_
            clear hK K
            refine wpAnyS_ready [6] (by kernel_rfl) (by simp) ?_
            refine AllReadyS.cons rfl (fun K hK => ?_) AllReadyS.nil
            refine step_append_lies _ rfl (.tmp 32) (.tmp 34) 34 rfl wr.heap.size 51 i0 (.agg #[.int .i64 0, .int .u64 0]) 2 16 Try.underlying34 HI.out.1 HI.out.2.1 HI.out.2.2.1 HI.out.2.2.2 rfl (by decide) _ i (spC ss) rfl HO3.out ⟨_, 0, none⟩ 1 1 [.int .i64 x, .int .u64 v] rfl rfl (World.news_of_block (cs := #[.int .i64 x, .int .u64 v]) HN3.out) HONE.out (by omega) (by unfold maxLen; omega) (by omega) (HB3.out).size _ rfl ?_
            intro g9 c9 w9 hown9 hgrow9 hlie9 hlt9
            have hb9 : Below wr.heap.size wr w9 := Below.grown HB3.out hgrow9 (HB3.out).size (fun j hj => (fv_block HO3.out hj).1)
            have e1 := (HB.out.1.below hwr.out).below hb9
            have e2 := (HB.out.2.1.below hwr.out).below hb9
            have p1 := e1.cell 1 rfl
            have f1 := e1.frozen 1
            have HE1 := Lib.hid e1
            have HB9 := Lib.hid hb9
            have HO9 := Lib.hid (show w9.ownsRow wr.heap.size 51 2 (.slice (some ⟨g9, 0, none⟩) (i + 1) c9) (i + 1) (spC (ss ++ [(x, v)])) by rw [spC_app]; exact hown9)
            refine hK.out _ _ (fun _ => HRS.out _ hb9) ?_
            clear hK K hown9 hgrow9 hlie9 hlt9 e1 e2 hb9
            refine wpAnyS_ready [7] (by kernel_rfl) (by simp) ?_
            refine AllReadyS.cons rfl (fun K hK => ?_) AllReadyS.nil
            go_simp
            refine hK.out _ _ (fun _ => HRS.out _ HB9.out) ?_
            clear hK K
            refine wpAnyS_ready [8] (by kernel_rfl) (by simp) ?_
            refine AllReadyS.cons rfl (fun K hK => ?_) AllReadyS.nil
            go_simp
            refine hK.out _ _ (fun h => absurd h (by decide)) ?_
            clear hK K
            refine wpAnyS_done (by kernel_rfl) ?_ _
            go_wp2_with fail
            go_meet
            exact rspare_end HL.out HE1.out HO9.out HB9.out
          · go_simp
            have HB5 := Lib.hid (Below.alloc HB1.out (HB1.out).size (.cells #[.int .i64 x, .int .u64 v] 51))
            have HN5 := Lib.hid (show BX ((wr.drew.alloc (.cells #[] 51)).alloc (.cells #[.int .i64 x, .int .u64 v] 51)) (wr.heap.size + 1) 51 #[.int .i64 x, .int .u64 v] from by
              have h9 := BX.new (wr.drew.alloc (.cells #[] 51)) 51 #[.int .i64 x, .int .u64 v]
              try rw [World.size_alloc] at h9
              exact h9)
            have HO5 := Lib.hid (fv_stays HO1.out ((Below.refl _ _).alloc (Nat.le_refl _) (.cells #[.int .i64 x, .int .u64 v] 51)))
            refine hK.out _ _ (fun _ => HRS.out _ HB5.out) ?_
            clear hK K
            refine wpAnyS_ready [3] (by kernel_rfl) (by simp) ?_
            refine AllReadyS.cons rfl (fun K hK => ?_) AllReadyS.nil
            refine step_append_sp rfl (.tmp 29) (.tmp 31) rfl wr.heap.size (.slice (some ⟨wr.heap.size, 0, none⟩) 0 0) rfl HO5.out so i sc ss rfl (HSP.out _ HB5.out) HNIL.out hn (HB5.out).size ?_
            intro v6 w6 hown6 hgrow6
            have HB6 := Lib.hid (Below.grown HB5.out hgrow6 (HB5.out).size (fun j hj => (fv_block HO5.out hj).1))
            have HO6 := Lib.hid hown6
            have HN6 := Lib.hid (show BX w6 _ 51 #[.int .i64 x, .int .u64 v] from (hgrow6.block _ (lt_of_block HN5.out) (by simp [Value.ownBlock]; try omega)).trans HN5.out)
            clear hown6 hgrow6
            refine hK.out _ _ (fun _ => HRS.out _ HB6.out) ?_
            clear hK K
            refine wpAnyS_ready [6] (by kernel_rfl) (by simp) ?_
            refine AllReadyS.cons rfl (fun K hK => ?_) AllReadyS.nil
            refine step_append_lies _ rfl (.tmp 32) (.tmp 34) 34 rfl wr.heap.size 51 i0 (.agg #[.int .i64 0, .int .u64 0]) 2 16 Try.underlying34 HI.out.1 HI.out.2.1 HI.out.2.2.1 HI.out.2.2.2 rfl (by decide) _ i (spC ss) rfl HO6.out ⟨_, 0, none⟩ 1 1 [.int .i64 x, .int .u64 v] rfl rfl (World.news_of_block (cs := #[.int .i64 x, .int .u64 v]) HN6.out) HONE.out (by omega) (by unfold maxLen; omega) (by omega) (HB6.out).size _ rfl ?_
            intro g9 c9 w9 hown9 hgrow9 hlie9 hlt9
            have hb9 : Below wr.heap.size wr w9 := Below.grown HB6.out hgrow9 (HB6.out).size (fun j hj => (fv_block HO6.out hj).1)
            have e1 := (HB.out.1.below hwr.out).below hb9
            have e2 := (HB.out.2.1.below hwr.out).below hb9
            have p1 := e1.cell 1 rfl
            have f1 := e1.frozen 1
            have HE1 := Lib.hid e1
            have HB9 := Lib.hid hb9
            have HO9 := Lib.hid (show w9.ownsRow wr.heap.size 51 2 (.slice (some ⟨g9, 0, none⟩) (i + 1) c9) (i + 1) (spC (ss ++ [(x, v)])) by rw [spC_app]; exact hown9)
            refine hK.out _ _ (fun _ => HRS.out _ hb9) ?_
            clear hK K hown9 hgrow9 hlie9 hlt9 e1 e2 hb9
            refine wpAnyS_ready [7] (by kernel_rfl) (by simp) ?_
            refine AllReadyS.cons rfl (fun K hK => ?_) AllReadyS.nil
            go_simp
            refine hK.out _ _ (fun _ => HRS.out _ HB9.out) ?_
            clear hK K
            refine wpAnyS_ready [8] (by kernel_rfl) (by simp) ?_
            refine AllReadyS.cons rfl (fun K hK => ?_) AllReadyS.nil
            go_simp
            refine hK.out _ _ (fun h => absurd h (by decide)) ?_
            clear hK K
            refine wpAnyS_done (by kernel_rfl) ?_ _
            go_wp2_with fail
            go_meet
            exact rspare_end HL.out HE1.out HO9.out HB9.out
        · go_simp
          have HB8 := Lib.hid (Below.alloc (Below.refl wr.heap.size wr).drew ((Below.refl wr.heap.size wr).drew).size (.cells #[.int .i64 x, .int .u64 v] 51))
          have HN8 := Lib.hid (show BX (wr.drew.alloc (.cells #[.int .i64 x, .int .u64 v] 51)) (wr.heap.size) 51 #[.int .i64 x, .int .u64 v] from by
            have h9 := BX.new wr.drew 51 #[.int .i64 x, .int .u64 v]
            try rw [World.size_alloc] at h9
            exact h9)
          refine hK.out _ _ (fun _ => HRS.out _ HB8.out) ?_
          clear hK K
          refine wpAnyS_ready [0] (by kernel_rfl) (by simp) ?_
          refine AllReadyS.cons rfl (fun K hK => ?_) AllReadyS.nil
          go_simp
          have HB9 := Lib.hid (Below.alloc HB8.out (HB8.out).size (.cells #[] 51))
          have HO9 := Lib.hid (show ((wr.drew.alloc (.cells #[.int .i64 x, .int .u64 v] 51)).alloc (.cells #[] 51)).ownsRow wr.heap.size 51 2 (.slice (some ⟨wr.heap.size + 1, 0, none⟩) 0 0) 0 [] from by
            have h9 := World.ownsRow_made (base := wr.heap.size) (e := 51) (size := 2) (wr.drew.alloc (.cells #[.int .i64 x, .int .u64 v] 51)) #[] 0 (HB8.out).size (Nat.zero_le _) rfl
            try rw [World.size_alloc] at h9
            exact h9)
          have HN9 := Lib.hid (BX.below HN8.out ((Below.refl _ _).alloc (Nat.le_refl _) (.cells #[] 51)))
          refine hK.out _ _ (fun _ => HRS.out _ HB9.out) ?_
          clear hK K
          refine wpAnyS_ready [3] (by kernel_rfl) (by simp) ?_
          refine AllReadyS.cons rfl (fun K hK => ?_) AllReadyS.nil
          refine step_append_sp rfl (.tmp 29) (.tmp 31) rfl wr.heap.size (.slice (some ⟨wr.heap.size + 1, 0, none⟩) 0 0) rfl HO9.out so i sc ss rfl (HSP.out _ HB9.out) HNIL.out hn (HB9.out).size ?_
          intro v10 w10 hown10 hgrow10
          have HB10 := Lib.hid (Below.grown HB9.out hgrow10 (HB9.out).size (fun j hj => (fv_block HO9.out hj).1))
          have HO10 := Lib.hid hown10
          have HN10 := Lib.hid (show BX w10 _ 51 #[.int .i64 x, .int .u64 v] from (hgrow10.block _ (lt_of_block HN9.out) (by simp [Value.ownBlock]; try omega)).trans HN9.out)
          clear hown10 hgrow10
          refine hK.out _ _ (fun _ => HRS.out _ HB10.out) ?_
          clear hK K
          refine wpAnyS_ready [6] (by kernel_rfl) (by simp) ?_
          refine AllReadyS.cons rfl (fun K hK => ?_) AllReadyS.nil
          refine step_append_lies _ rfl (.tmp 32) (.tmp 34) 34 rfl wr.heap.size 51 i0 (.agg #[.int .i64 0, .int .u64 0]) 2 16 Try.underlying34 HI.out.1 HI.out.2.1 HI.out.2.2.1 HI.out.2.2.2 rfl (by decide) _ i (spC ss) rfl HO10.out ⟨_, 0, none⟩ 1 1 [.int .i64 x, .int .u64 v] rfl rfl (World.news_of_block (cs := #[.int .i64 x, .int .u64 v]) HN10.out) HONE.out (by omega) (by unfold maxLen; omega) (by omega) (HB10.out).size _ rfl ?_
          intro g9 c9 w9 hown9 hgrow9 hlie9 hlt9
          have hb9 : Below wr.heap.size wr w9 := Below.grown HB10.out hgrow9 (HB10.out).size (fun j hj => (fv_block HO10.out hj).1)
          have e1 := (HB.out.1.below hwr.out).below hb9
          have e2 := (HB.out.2.1.below hwr.out).below hb9
          have p1 := e1.cell 1 rfl
          have f1 := e1.frozen 1
          have HE1 := Lib.hid e1
          have HB9 := Lib.hid hb9
          have HO9 := Lib.hid (show w9.ownsRow wr.heap.size 51 2 (.slice (some ⟨g9, 0, none⟩) (i + 1) c9) (i + 1) (spC (ss ++ [(x, v)])) by rw [spC_app]; exact hown9)
          refine hK.out _ _ (fun _ => HRS.out _ hb9) ?_
          clear hK K hown9 hgrow9 hlie9 hlt9 e1 e2 hb9
          refine wpAnyS_ready [7] (by kernel_rfl) (by simp) ?_
          refine AllReadyS.cons rfl (fun K hK => ?_) AllReadyS.nil
          go_simp
          refine hK.out _ _ (fun _ => HRS.out _ HB9.out) ?_
          clear hK K
          refine wpAnyS_ready [8] (by kernel_rfl) (by simp) ?_
          refine AllReadyS.cons rfl (fun K hK => ?_) AllReadyS.nil
          go_simp
          refine hK.out _ _ (fun h => absurd h (by decide)) ?_
          clear hK K
          refine wpAnyS_done (by kernel_rfl) ?_ _
          go_wp2_with fail
          go_meet
          exact rspare_end HL.out HE1.out HO9.out HB9.out
      case rest =>
        obtain ⟨ro, rc, hbx, hsp, hro, ht⟩ := hcut.out
        clear q0 q1 q2 q3 s0 s1 r0 r1 r2 r3 y0 y1 y2 y3
        have q0 := hbx.cell 0 rfl
        have q1 := hbx.cell 1 rfl
        have q2 := hbx.cell 2 rfl
        have q3 := hbx.cell 3 rfl
        have e3 : BX wc g2 49 #[.slice none 0 0, .slice none 0 0, .int .i64 0, .int .i64 0] := (ht.block g2 (by have := HG.out; have := hwr.out.size; omega) hne').trans (HB.out.2.2.below hwr.out)
        have r0 := e3.cell 0 rfl
        have r1 := e3.cell 1 rfl
        have r2 := e3.cell 2 rfl
        have r3 := e3.cell 3 rfl
        have y0 := e3.frozen 0
        have y1 := e3.frozen 1
        have y2 := e3.frozen 2
        have y3 := e3.frozen 3
        have HE := Lib.hid (show _ ∧ _ ∧ _ ∧ _ from ⟨hsp, hro, ht, e3⟩)
        clear hbx hsp hro ht e3 hcut
        go_wp2
        refine bodyPost_ret (v := .tuple #[.agg #[.slice ao n c, .slice ro (ss.length + 1) rc, .int .i64 k, .int .i64 m], .bool true]) (by simp [results, Try.results41, go_sem, *]) rfl ?_
        obtain ⟨hsp, hro, ht, e3⟩ := HE.out
        have hb : Below w.heap.size w wc := (HX.out.trans (hwr.out.mono HX.out.size)).trans (ht.below (fun j e => by rw [show j = w.heap.size from e]; exact Nat.le_refl _) (Nat.le_trans HX.out.size hwr.out.size))
        have ht2 : Turn (fun j => j = g2) wc ((((wc.setCell ⟨g2, 0, none⟩ (.slice ao n c)).setCell ⟨g2, 1, none⟩ (.slice ro (ss.length + 1) rc)).setCell ⟨g2, 2, none⟩ (.int .i64 k)).setCell ⟨g2, 3, none⟩ (.int .i64 m)) := Turn.setCell (S := fun j => j = g2) (Turn.setCell (S := fun j => j = g2) (Turn.setCell (S := fun j => j = g2) (Turn.setCell (S := fun j => j = g2) (Turn.refl _ wc) (Or.inl rfl) _) (Or.inl rfl) _) (Or.inl rfl) _) (Or.inl rfl) _
        refine ⟨⟨ro, _, rc, rfl, ?_, rfl, hro⟩, hb.trans (ht2.below (fun j e => by rw [show j = g2 from e]; have := HG.out; omega) hb.size)⟩
        refine fv_base (B := wr.heap.size) (fv_moved hsp (fun g cs hg => ht2.block g (lt_of_block hg) (fun e => ?_))) (Nat.le_trans HX.out.size hwr.out.size)
        have e' : g = g2 := e
        rw [e'] at hg
        unfold BX at e3
        rw [e3] at hg
        injection hg with hg
        injection hg with _ hg _
        exact absurd hg (by decide)
end Go.Proofs.Ytdbklklmpnlinaa

namespace Go.Proofs.Ytdbklklmpnlinaa
open Go.RowKit Go.Maps

section
variable {w w' : World} {B A b N : Nat} {sv : Value} {ks : List Kn} {ss : List (Int × Int)} {k m : Int}
theorem FV.noKn (h : FV w B A b sv N ks ss k m) : ∀ g cs, VS A b sv g → w.heap[g]? = some (Obj.cells cs 43 (0, 0)) → False := by
  obtain ⟨D, ⟨es, cl, hb, _⟩, _⟩ := h.map
  intro g cs hS hg
  rcases hS with rfl | rfl | hS
  · have := h.view
    unfold BX at this
    rw [this] at hg
    injection hg with hg
    injection hg with _ hg _
    exact absurd hg (by decide)
  · rw [hb] at hg
    cases hg
  · obtain ⟨_, cs2, h2⟩ := fv_block h.sp hS
    rw [h2] at hg
    injection hg with hg
    injection hg with _ hg _
    exact absurd hg (by decide)
/-- What the document's view has, beside a code's whose blocks are V. -/
structure DP (w0 w : World) (V : Nat → Prop) (G : Nat) (lo : Option Addr) (ln lc : Nat) (po : Option Addr) (pn pc : Nat) (ks : List Kn) (ss : List (Int × Int)) (k m : Int) : Prop where
  box : BX w G 49 #[.slice lo ln lc, .slice po pn pc, .int .i64 k, .int .i64 m]
  row : KsR (PV w0) w w0.heap.size (.slice lo ln lc) ks
  spr : w.ownsRow w0.heap.size 51 2 (.slice po pn pc) pn (spC ss)
  len : pn = ss.length
  off : ∀ g, (Value.slice po pn pc).ownBlock = some g → ¬ V g
  out : ¬ V G
  ge : w0.heap.size ≤ G
theorem fv_moved1 {w w' : World} {B k n : Nat} {t : TypeId} {v : Value} {xs : List Value} (h : w.ownsRow B t k v n xs) (hh : ∀ g, v.ownBlock = some g → w'.heap[g]? = w.heap[g]?) : w'.ownsRow B t k v n xs := by
  refine ⟨h.1, ?_⟩
  rcases h.2 with hn | ⟨g, cap, cur, rfl, hbg, hg, rest⟩
  · exact Or.inl hn
  · exact Or.inr ⟨g, cap, cur, rfl, hbg, by rw [hh g rfl]; exact hg, rest⟩
variable {w0 : World} {V V' : Nat → Prop} {G ln lc pn pc : Nat} {lo po : Option Addr}
theorem DP.turn (h : DP w0 w V G lo ln lc po pn pc ks ss k m) (ht : Turn V w w') (hn : ∀ g cs, V g → w.heap[g]? = some (Obj.cells cs 43 (0, 0)) → False) (hV : ∀ g, g < w.heap.size → V' g → V g) : DP w0 w' V' G lo ln lc po pn pc ks ss k m where
  box := (ht.block G (lt_of_block h.box) h.out).trans h.box
  row := h.row.moved ht hn
  spr := fv_moved1 h.spr (fun g hg => by
    obtain ⟨_, cs, hc⟩ := fv_block h.spr hg
    exact ht.block g (lt_of_block hc) (h.off g hg))
  len := h.len
  off := fun g hg hv => by
    obtain ⟨_, cs, hc⟩ := fv_block h.spr hg
    exact h.off g hg (hV g (lt_of_block hc) hv)
  out := fun hv => h.out (hV G (lt_of_block h.box) hv)
  ge := h.ge
theorem DP.keep (h : DP w0 w V G lo ln lc po pn pc ks ss k m) (hb : Below w.heap.size w w') : DP w0 w' V G lo ln lc po pn pc ks ss k m where
  box := h.box.below hb
  row := h.row.keep hb
  spr := fv_stays h.spr hb
  len := h.len
  off := h.off
  out := h.out
  ge := h.ge
theorem bx_ne {a c : Nat} {t t2 : TypeId} {x y : Array Value} (h1 : BX w a t x) (h2 : BX w c t2 y) (hne : t ≠ t2) : a ≠ c := fun e => by
  subst e
  unfold BX at h1 h2
  rw [h1] at h2
  injection h2 with h2
  injection h2 with _ h2 _
  exact hne h2
theorem DP.renew {k' m' : Int} (h : DP w0 w V G lo ln lc po pn pc ks ss k m) (ht : Turn (fun g => V g ∨ g = G) w w') (hn : ∀ g cs, V g → w.heap[g]? = some (Obj.cells cs 43 (0, 0)) → False) (hbox : BX w' G 49 #[.slice lo ln lc, .slice po pn pc, .int .i64 k', .int .i64 m']) : DP w0 w' V G lo ln lc po pn pc ks ss k' m' where
  box := hbox
  row := h.row.moved ht (fun g cs hS hg => by
    rcases hS with hS | rfl
    · exact hn g cs hS hg
    · exact bx_no h.box (by decide) cs hg)
  spr := fv_moved1 h.spr (fun g hg => by
    obtain ⟨_, cs, hc⟩ := fv_block h.spr hg
    refine ht.block g (lt_of_block hc) (fun e => ?_)
    rcases e with e | e
    · exact h.off g hg e
    · subst e
      have := h.box
      unfold BX at this
      rw [this] at hc
      injection hc with hc
      injection hc with _ hc _
      exact absurd hc (by decide))
  len := h.len
  off := h.off
  out := h.out
  ge := h.ge
theorem FV.box {g : Nat} {t : TypeId} {cs : Array Value} (h : FV w B A b sv N ks ss k m) (ht : Turn (fun j => j = g) w w') (hb : BX w g t cs) (hne : t ≠ 9 ∧ t ≠ 30 ∧ t ≠ 3) (hg : ¬ VS A b sv g) : FV w' B A b sv N ks ss k m :=
  h.turn ht (fun j hj e => by have e' : j = g := e; subst e'; exact hg hj) (fun j cs2 t2 e hj => by
    have e' : j = g := e
    subst e'
    unfold BX at hb
    rw [hb] at hj
    injection hj with hj
    injection hj with _ hj _
    rw [← hj]
    exact hne)
theorem KnO.box {v : Value} {kn : Kn} {g : Nat} {t : TypeId} {cs : Array Value} (h : KnO w B v kn) (ht : Turn (fun j => j = g) w w') (hb : BX w g t cs) (hne : t ≠ 9 ∧ t ≠ 30 ∧ t ≠ 3) : KnO w' B v kn :=
  h.turn (S := fun j => j = g) (fun j cs2 t2 e hj => by
    have e' : j = g := e
    subst e'
    unfold BX at hb
    rw [hb] at hj
    injection hj with hj
    injection hj with _ hj _
    rw [← hj]
    exact hne) ht
/-- A box's four cells, written. -/
def set4 (W : World) (G : Nat) (a b c d : Value) : World := (((W.setCell ⟨G, 0, none⟩ a).setCell ⟨G, 1, none⟩ b).setCell ⟨G, 2, none⟩ c).setCell ⟨G, 3, none⟩ d
theorem set4_turn (W : World) (G : Nat) (a b c d : Value) : Turn (fun g => g = G) W (set4 W G a b c d) :=
  Turn.setCell (S := fun g => g = G) (Turn.setCell (S := fun g => g = G) (Turn.setCell (S := fun g => g = G) (Turn.setCell (S := fun g => g = G) (Turn.refl _ W) (Or.inl rfl) _) (Or.inl rfl) _) (Or.inl rfl) _) (Or.inl rfl) _
theorem view_type {cs : Array Value} {t : TypeId} (h : BX w G 49 cs) {cs2 : Array Value} (hg : w.heap[G]? = some (Obj.cells cs2 t (0, 0))) : t = 49 := by
  unfold BX at h
  rw [h] at hg
  injection hg with hg
  injection hg with _ hg _
  exact hg.symm
theorem DP.put {ks' : List Kn} {ss' : List (Int × Int)} {k' m' : Int} {ln' lc' pn' pc' : Nat} {lo' po' : Option Addr} (h : DP w0 w V G lo ln lc po pn pc ks ss k m) (hr : KsR (PV w0) w w0.heap.size (.slice lo' ln' lc') ks') (hs : w.ownsRow w0.heap.size 51 2 (.slice po' pn' pc') pn' (spC ss')) (hl : pn' = ss'.length) (ho : ∀ g, (Value.slice po' pn' pc').ownBlock = some g → ¬ V g) :
    DP w0 (set4 w G (.slice lo' ln' lc') (.slice po' pn' pc') (.int .i64 k') (.int .i64 m')) V G lo' ln' lc' po' pn' pc' ks' ss' k' m' where
  box := (((h.box.set 0 _).set 1 _).set 2 _).set 3 _
  row := hr.moved (set4_turn _ _ _ _ _ _) (fun g cs e hg => by
    have e' : g = G := e
    subst e'
    exact absurd (view_type h.box hg) (by decide))
  spr := fv_moved hs (fun g cs hg => (set4_turn w G _ _ _ _).block g (lt_of_block hg) (fun e => by
    have e' : g = G := e
    subst e'
    exact absurd (view_type h.box hg) (by decide)))
  len := hl
  off := ho
  out := h.out
  ge := h.ge
theorem FV.put {cs : Array Value} (h : FV w B A b sv N ks ss k m) (hG : BX w G 49 cs) (ho : ¬ VS A b sv G) (x y z u : Value) : FV (set4 w G x y z u) B A b sv N ks ss k m :=
  h.turn (set4_turn w G x y z u) (fun j hj e => by have e' : j = G := e; subst e'; exact ho hj) (fun g cs2 t e hg => by
    have e' : g = G := e
    subst e'
    rw [view_type hG hg]
    decide)
theorem DP.spk (h : DP w0 w V G lo ln lc po pn pc ks ss k m) : SpAt w (.slice po pn pc) ss := sp_at h.spr h.len
theorem DP.nil (h : DP w0 w V G lo ln lc po pn pc ks ss k m) : NilN po pn pc := by
  intro e
  subst e
  rcases h.spr.2 with ⟨e, hz⟩ | ⟨g, cap, cur, e, _⟩
  · injection e with _ e1 e2
    exact ⟨e1, e2⟩
  · cases e
end
end Go.Proofs.Ytdbklklmpnlinaa

namespace Go.Proofs.Ytdbklklmpnlinaa
open Go.RowKit Go.Maps

/-- What is done. -/
structure Ea where
  kd : Int
  c : Int
  n : Nod
  li : Bool
def Ea.zero : Ea := ⟨0, 0, .none, false⟩
/-- The cells of one. -/
def Ea.cells (k : Ea) (kv vv cv : Value) : List Value := [.int .i64 k.kd, .int .i64 k.c, .int .i64 k.n.lv, .string k.n.lo, .string k.n.hi, .bool k.n.la, .int .i64 k.n.nx, kv, vv, cv, .bool k.li]
/-- Cells that are one's, its rows' values as P says. -/
def EL (P : Value → Value → Value → Ea → Prop) (l : List Value) (kn : Ea) : Prop :=
  ∃ (ak : Option Addr) (nk ck : Nat) (av : Option Addr) (nv cv : Nat) (ac : Option Addr) (nc cc : Nat), l = kn.cells (.slice ak nk ck) (.slice av nv cv) (.slice ac nc cc) ∧ P (.slice ak nk ck) (.slice av nv cv) (.slice ac nc cc) kn
theorem EL.len {P : Value → Value → Value → Ea → Prop} {l : List Value} {kn : Ea} (h : EL P l kn) : l.length = 11 := by
  obtain ⟨_, _, _, _, _, _, _, _, _, rfl, _⟩ := h
  rfl
theorem EL.ones {P : Value → Value → Value → Ea → Prop} {l : List Value} {kn : Ea} (h : EL P l kn) : ∀ u ∈ l, u.oneCell' = true := by
  obtain ⟨_, _, _, _, _, _, _, _, _, rfl, _⟩ := h
  intro u hu
  simp only [Ea.cells, List.mem_cons, List.not_mem_nil, or_false] at hu
  rcases hu with rfl | rfl | rfl | rfl | rfl | rfl | rfl | rfl | rfl | rfl | rfl <;> rfl
def eaAt (ks : List Ea) (j : Nat) : Ea := ks.getD j Ea.zero
theorem eaAt_eq {ks : List Ea} {j : Nat} (h : j < ks.length) : eaAt ks j = ks[j] := by
  unfold eaAt
  rw [List.getD_eq_getElem?_getD, List.getElem?_eq_getElem h]
  rfl

/-- A slice value whose elements are these. -/
def EsAt (P : Value → Value → Value → Ea → Prop) (w : World) (v : Value) (ks : List Ea) : Prop :=
  ∃ (ao : Option Addr) (c : Nat), v = .slice ao ks.length c ∧ ks.length ≤ c ∧ c ≤ 9223372036854775807 ∧ (0 < ks.length → ∃ g o, ao = some ⟨g, o, none⟩ ∧ ∀ j, j < ks.length → ∃ l, EL P l (eaAt ks j) ∧ ∀ i, i < 11 → w.cell? ⟨g, o + j * 11 + i, none⟩ = l[i]?)
theorem EsAt.nil (P : Value → Value → Value → Ea → Prop) (w : World) : EsAt P w (.slice none 0 0) [] := ⟨none, 0, rfl, Nat.le_refl _, by omega, fun h => absurd h (by simp)⟩
theorem EsAt.open {P : Value → Value → Value → Ea → Prop} {w : World} {v : Value} {ks : List Ea} (h : EsAt P w v ks) : ∃ ao c, v = .slice ao ks.length c := by
  obtain ⟨ao, c, e, _⟩ := h
  exact ⟨ao, c, e⟩
theorem EsAt.len {P : Value → Value → Value → Ea → Prop} {w : World} {ao : Option Addr} {n c : Nat} {ks : List Ea} (h : EsAt P w (.slice ao n c) ks) : n = ks.length ∧ n ≤ c ∧ c ≤ 9223372036854775807 := by
  obtain ⟨ao', c', e, h1, h2, _⟩ := h
  injection e with e1 e2 e3
  omega
theorem EsAt.keep {P : Value → Value → Value → Ea → Prop} {w w' : World} {v : Value} {ks : List Ea} (h : EsAt P w v ks) (hb : Below w.heap.size w w') : EsAt P w' v ks := by
  obtain ⟨ao, c, e, h1, h2, h3⟩ := h
  refine ⟨ao, c, e, h1, h2, fun hp => ?_⟩
  obtain ⟨g, o, e2, hc⟩ := h3 hp
  refine ⟨g, o, e2, fun j hj => ?_⟩
  obtain ⟨l, hl, hcc⟩ := hc j hj
  refine ⟨l, hl, fun i hi => ?_⟩
  have hlt : g < w.heap.size := by
    obtain ⟨x, hx⟩ : ∃ x, l[i]? = some x := ⟨_, List.getElem?_eq_getElem (by rw [hl.len]; exact hi)⟩
    exact World.block_lt_of_cell? w _ ((hcc i hi).trans hx)
  exact (hb.cell (p := ⟨g, o + j * 11 + i, none⟩) hlt).trans (hcc i hi)
/-- An element's cells. -/
theorem EsAt.get {P : Value → Value → Value → Ea → Prop} {w : World} {ao : Option Addr} {n c : Nat} {ks : List Ea} (h : EsAt P w (.slice ao n c) ks) {j : Nat} (hj : j < n) :
    ∃ (g o : Nat) (ak : Option Addr) (nk ck : Nat) (av : Option Addr) (nv cv : Nat) (ac : Option Addr) (nc cc : Nat), ao = some ⟨g, o, none⟩ ∧ P (.slice ak nk ck) (.slice av nv cv) (.slice ac nc cc) (eaAt ks j) ∧
      ∀ V, Below w.heap.size w V → ∀ i, i < 11 → V.cell? ⟨g, o + j * 11 + i, none⟩ = ((eaAt ks j).cells (.slice ak nk ck) (.slice av nv cv) (.slice ac nc cc))[i]? := by
  obtain ⟨ao', c', e, h1, h2, h3⟩ := h
  injection e with e1 e2 e3
  subst e1
  subst e2
  obtain ⟨g, o, e4, hc⟩ := h3 (by omega)
  obtain ⟨l, ⟨ak, nk, ck, av, nv, cv, ac, nc, cc, rfl, hP⟩, hcc⟩ := hc j hj
  refine ⟨g, o, ak, nk, ck, av, nv, cv, ac, nc, cc, e4, hP, fun V hV i hi => ?_⟩
  have hlt : g < w.heap.size := World.block_lt_of_cell? w _ (hcc 0 (by omega))
  exact (hV.cell (p := ⟨g, o + j * 11 + i, none⟩) hlt).trans (hcc i hi)

theorem eaAt_mem {es : List Ea} {j : Nat} (h : j < es.length) : eaAt es j ∈ es := by
  rw [eaAt_eq h]
  exact List.getElem_mem h
/-- Its rows read as a node's, in a world. -/
def PA (w : World) (kv vv cv : Value) (a : Ea) : Prop := PV w kv vv cv ⟨0, 0, 0, a.n⟩
theorem PA.nd {w : World} {ak av ac : Option Addr} {nk ck nv cv nc cc : Nat} {a : Ea} (h : PA w (.slice ak nk ck) (.slice av nv cv) (.slice ac nc cc) a) : nk = a.n.ks.length ∧ nv = a.n.vs.length ∧ nc = a.n.cs.length ∧ NdAt w ak av ac nk ck nv cv nc cc a.n.ks a.n.vs a.n.cs := PV.nd (kn := ⟨0, 0, 0, a.n⟩) h
/-- Is each small, and are there few? -/
def LightE (ks : List Kn) (ss : List (Int × Int)) (es : List Ea) : Prop := (∀ a ∈ es, LightP a.n.lo a.n.hi a.n.ks.length a.n.vs.length a.n.cs.length a.n.ks) ∧ LightK ks ∧ ss.length ≤ 40 ∧ es.length ≤ 60
set_option maxHeartbeats 4000000 in
set_option maxRecDepth 100000 in
theorem light21_any (w0 : World) (ao so eo : Option Addr) (n c sn sc en ec : Nat) (ks : List Kn) (ss : List (Int × Int)) (es : List Ea) (w : World) (h0 : Below w0.heap.size w0 w) (h : KsAt (PV w0) w (.slice ao n c) ks) (hs : SpAt w (.slice so sn sc) ss) (ha : EsAt (PA w0) w (.slice eo en ec) es) :
    Calls Try.prog 11 #[.slice ao n c, .slice so sn sc, .slice eo en ec] w fun e w' => EveryGives w w' e (LightE ks ss es) := by
  have hl := ha.len
  have HL := Lib.hid hl.1
  have HLS := Lib.hid hs.len.1
  have hl2 := hl.2
  have hls2 := hs.len.2
  have HA := Lib.hid ha
  have H0 := Lib.hid h0
  have HKL := Lib.hid (fun W (hb : Below w.heap.size w W) => light15_any w0 ao n c ks W (h0.trans (hb.mono h0.size)) (h.keep hb))
  clear h hs ha h0 hl
  go_enter Try.func11, Try.ntmps11
  go_wp2
  go_loopw [11] (fun s wr => ∃ (i : Nat), s = .int .i64 i ∧ i ≤ en ∧ Hid (Below w.heap.size w wr ∧ ∀ j, j < i → LightP (eaAt es j).n.lo (eaAt es j).n.hi (eaAt es j).n.ks.length (eaAt es j).n.vs.length (eaAt es j).n.cs.length (eaAt es j).n.ks)) (fun s _ => en - (intOf s).toNat)
  case atStart => exact ⟨0, rfl, Nat.zero_le _, Lib.hid ⟨Below.refl _ _, fun j hj => absurd hj (Nat.not_lt_zero _)⟩⟩
  case round =>
    obtain ⟨i, rfl, hi, HV⟩ := hrel
    by_cases hlt : i < en
    · obtain ⟨g, o, ak, nk, ck, av, nv, cv, ac, nc, cc, rfl, hP, hc⟩ := HA.out.get hlt
      have hil : i < es.length := by have := HL.out; omega
      obtain ⟨a, hkn⟩ : ∃ a, a = eaAt es i := ⟨_, rfl⟩
      rw [← hkn] at hc hP
      obtain ⟨rfl, rfl, rfl, hnd⟩ := hP.nd
      obtain ⟨q0, q1, q2, q3, q4, q5, q6, q7, q8, q9, q10⟩ : _ ∧ _ ∧ _ ∧ _ ∧ _ ∧ _ ∧ _ ∧ _ ∧ _ ∧ _ ∧ _ := ⟨hc _ HV.out.1 0 (by decide), hc _ HV.out.1 1 (by decide), hc _ HV.out.1 2 (by decide), hc _ HV.out.1 3 (by decide), hc _ HV.out.1 4 (by decide), hc _ HV.out.1 5 (by decide), hc _ HV.out.1 6 (by decide), hc _ HV.out.1 7 (by decide), hc _ HV.out.1 8 (by decide), hc _ HV.out.1 9 (by decide), hc _ HV.out.1 10 (by decide)⟩
      simp only [Ea.cells, List.getElem?_cons_zero, List.getElem?_cons_succ, Nat.add_zero] at q0 q1 q2 q3 q4 q5 q6 q7 q8 q9 q10
      have hlt' : (i : Int) < en := by omega
      have hx := boxed_below wr (.cells #[.int .i64 a.kd, .int .i64 a.c, .int .i64 a.n.lv, .string a.n.lo, .string a.n.hi, .bool a.n.la, .int .i64 a.n.nx, .slice ak a.n.ks.length ck, .slice av a.n.vs.length cv, .slice ac a.n.cs.length cc, .bool a.li] 58)
      obtain ⟨W2, hW2⟩ : ∃ W, W = wr.alloc (.cells #[.int .i64 a.kd, .int .i64 a.c, .int .i64 a.n.lv, .string a.n.lo, .string a.n.hi, .bool a.n.la, .int .i64 a.n.nx, .slice ak a.n.ks.length ck, .slice av a.n.vs.length cv, .slice ac a.n.cs.length cc, .bool a.li] 58) := ⟨_, rfl⟩
      rw [← hW2] at hx
      have hb2 := HV.out.1.trans (hx.mono HV.out.1.size)
      have hnd2 := hnd.keep (H0.out.trans (hb2.mono H0.out.size))
      have HQ := Lib.hid (nlight_any a.n.lv a.n.nx a.n.lo a.n.hi a.n.la ak av ac a.n.ks.length ck a.n.vs.length cv a.n.cs.length cc a.n.ks W2 hnd2.k (by have := (rd_len hnd2.v).2; omega) (by have := (rd_len hnd2.c).2; omega))
      have HW2 := Lib.hid hW2
      have HBB := Lib.hid hb2
      have HKN := Lib.hid hkn
      have HIL := Lib.hid hil
      clear hx hW2 hb2 hnd hnd2 hP hc hkn hil
      go_wp2_with fail
      rw [← HW2.out]
      refine HQ.out.mono ?_
      rintro e w5 ⟨r, rfl, hr, hb5⟩
      have HR := Lib.hid hr
      have HB5 := Lib.hid (HBB.out.trans (hb5.mono HBB.out.size))
      clear hr hb5 q0 q1 q2 q3 q4 q5 q6 q7 q8 q9 q10
      cases r with
      | true =>
        go_wp2
        go_roundw
        case rel => exact ⟨i + 1, by go_num, by omega, Lib.hid ⟨HB5.out, fun j hj => by
          by_cases e : j = i
          · subst e; rw [← HKN.out]; exact HR.out.1 (by first | rfl | trivial)
          · exact HV.out.2 j (by omega)⟩⟩
        case measure => simp [intOf]; omega
      | false =>
        go_wp2
        go_ret
        exact ⟨false, rfl, ⟨fun h => (by cases h), fun h => by
          have := HR.out.2 (by rw [HKN.out]; exact h.1 _ (eaAt_mem HIL.out))
          cases this⟩, HB5.out⟩
    · obtain rfl : i = en := by omega
      have HALL := Lib.hid (show ∀ a ∈ es, LightP a.n.lo a.n.hi a.n.ks.length a.n.vs.length a.n.cs.length a.n.ks from fun a hm => by
        obtain ⟨j, hj, rfl⟩ := List.mem_iff_getElem.1 hm
        have h := HV.out.2 j (by have := HL.out; omega)
        rw [eaAt_eq hj] at h
        exact h)
      have HKQ := Lib.hid (HKL.out _ HV.out.1)
      have HB := Lib.hid HV.out.1
      clear HV
      go_wp2_with fail
      refine HKQ.out.mono ?_
      rintro e w5 ⟨r, rfl, hr, hb5⟩
      have HR := Lib.hid hr
      have HB5 := Lib.hid (HB.out.trans (hb5.mono HB.out.size))
      clear hr hb5
      cases r with
      | false =>
        go_wp2
        go_ret
        exact ⟨false, rfl, ⟨fun h => (by cases h), fun h => by
          have := HR.out.2 h.2.1
          cases this⟩, HB5.out⟩
      | true =>
        by_cases h40 : sn ≤ 40
        · have h40' : (sn : Int) ≤ 40 := by omega
          by_cases h60 : i ≤ 60
          · have h60' : (i : Int) ≤ 60 := by omega
            go_wp2
            go_ret
            exact ⟨true, rfl, ⟨fun _ => ⟨HALL.out, HR.out.1 (by first | rfl | trivial), by have := HLS.out; omega, by have := HL.out; omega⟩, fun _ => rfl⟩, HB5.out⟩
          · have h60' : ¬ (i : Int) ≤ 60 := by omega
            go_wp2
            go_ret
            exact ⟨_, rfl, ⟨fun h => absurd (of_decide_eq_true h) (by omega), fun h => by exfalso; have := HL.out; have := h.2.2.2; omega⟩, HB5.out⟩
        · have h40' : ¬ (sn : Int) ≤ 40 := by omega
          go_wp2
          go_ret
          exact ⟨false, rfl, ⟨fun h => (by cases h), fun h => by have := HLS.out; have := h.2.2.1; omega⟩, HB5.out⟩
end Go.Proofs.Ytdbklklmpnlinaa

namespace Go.Proofs.Ytdbklklmpnlinaa
open Go.RowKit Go.Maps

theorem rlearn_says (w0 : World) (C : Nat) (xo : Option Addr) (xn xc : Nat) (L : List Kn) (kn : Kn) (ak av ac : Option Addr) (ck cv cc : Nat) (w : World) (hC : C ≤ w.heap.size) (h : KsR (PV w0) w C (.slice xo xn xc) L) (hn : xn ≤ 274877906942) (hP : PV w0 (.slice ak kn.n.ks.length ck) (.slice av kn.n.vs.length cv) (.slice ac kn.n.cs.length cc) kn) :
    Calls Try.prog 71 #[.agg #[.slice xo xn xc, .slice none 0 0, .int .i64 0, .int .i64 0], .agg #[.int .i64 kn.c, .int .u64 kn.wd, .int .u64 kn.vr, .int .i64 kn.n.lv, .string kn.n.lo, .string kn.n.hi, .bool kn.n.la, .int .i64 kn.n.nx, .slice ak kn.n.ks.length ck, .slice av kn.n.vs.length cv, .slice ac kn.n.cs.length cc]] w fun e w' => (∃ lo ln lc b, e = .returned (.tuple #[.agg #[.slice lo ln lc, .slice none 0 0, .int .i64 0, .int .i64 0], .bool b]) ∧ KsR (PV w0) w' C (.slice lo ln lc) (learnK L kn)) ∧ Below w.heap.size w w' := by
  cases hcell : cellB kn.c with
  | true =>
    refine (rlearn_yes xo xn xc none 0 0 0 0 L kn ak _ ck av _ cv ac _ cc w hcell h.ks hn hP).mono ?_
    rintro e w' ⟨⟨lo, ln, lc, rfl, hk⟩, hb⟩
    refine ⟨⟨lo, ln, lc, true, rfl, ?_⟩, hb⟩
    unfold learnK
    rw [if_pos hcell]
    exact hk.base hC
  | false =>
    refine (rlearn_no xo xn xc none 0 0 0 0 kn ak _ ck av _ cv ac _ cc w hcell).mono ?_
    rintro e w' ⟨rfl, hb⟩
    refine ⟨⟨xo, xn, xc, false, rfl, ?_⟩, hb⟩
    unfold learnK
    rw [if_neg (by rw [hcell]; simp)]
    exact h.keep hb

/-- Behind a learning, ahead of its being kept. -/
def VP (w0 wr wx : World) (C G : Nat) (lo : Option Addr) (ln lc : Nat) (L : List Kn) : Prop :=
  BX wx G 49 #[.slice lo ln lc, .slice none 0 0, .int .i64 0, .int .i64 0] ∧ KsR (PV w0) wx C (.slice lo ln lc) L ∧ Below wr.heap.size wr wx ∧ wr.heap.size ≤ G
theorem vp_new {w0 wr wa : World} {C : Nat} {lo : Option Addr} {ln lc : Nat} {L : List Kn} (hk : KsR (PV w0) wa C (.slice lo ln lc) L) (hb : Below wr.heap.size wr wa) : VP w0 wr (wa.alloc (.cells #[.slice lo ln lc, .slice none 0 0, .int .i64 0, .int .i64 0] 49)) C wa.heap.size lo ln lc L :=
  ⟨BX.new wa 49 _, hk.keep ((Below.refl _ _).alloc (Nat.le_refl _) _), hb.trans ((Below.refl _ _).alloc hb.size _), hb.size⟩
theorem vp_drew {w0 wr wa : World} {C G : Nat} {lo : Option Addr} {ln lc : Nat} {L : List Kn} (h : VP w0 wr wa C G lo ln lc L) : VP w0 wr wa.drew C G lo ln lc L :=
  ⟨h.1, h.2.1.keep (Below.refl _ _).drew, h.2.2.1.drew, h.2.2.2⟩
theorem vp_set {w0 wr wa : World} {C G : Nat} {lo : Option Addr} {ln lc : Nat} {L : List Kn} (hbx : BX wa G 49 #[.slice none 0 0, .slice none 0 0, .int .i64 0, .int .i64 0]) (hk : KsR (PV w0) wa C (.slice lo ln lc) L) (hb : Below wr.heap.size wr wa) (hG : wr.heap.size ≤ G) :
    VP w0 wr ((((wa.setCell ⟨G, 0, none⟩ (.slice lo ln lc)).setCell ⟨G, 1, none⟩ (.slice none 0 0)).setCell ⟨G, 2, none⟩ (.int .i64 0)).setCell ⟨G, 3, none⟩ (.int .i64 0)) C G lo ln lc L := by
  refine ⟨(((hbx.set 0 _).set 1 _).set 2 _).set 3 _, ?_, (((hb.setCell hG _).setCell hG _).setCell hG _).setCell hG _, hG⟩
  have ht : Turn (fun j => j = G) wa ((((wa.setCell ⟨G, 0, none⟩ (.slice lo ln lc)).setCell ⟨G, 1, none⟩ (.slice none 0 0)).setCell ⟨G, 2, none⟩ (.int .i64 0)).setCell ⟨G, 3, none⟩ (.int .i64 0)) := Turn.setCell (S := fun j => j = G) (Turn.setCell (S := fun j => j = G) (Turn.setCell (S := fun j => j = G) (Turn.setCell (S := fun j => j = G) (Turn.refl _ wa) (Or.inl rfl) _) (Or.inl rfl) _) (Or.inl rfl) _) (Or.inl rfl) _
  exact hk.moved ht (fun j cs e hg => by
    have e' : j = G := e
    subst e'
    exact bx_no hbx (by decide) cs hg)

set_option maxHeartbeats 4000000 in
set_option maxRecDepth 100000 in
theorem rview_says (w0 : World) (ao : Option Addr) (n c : Nat) (ks : List Kn) (w : World) (h : KsAt (PV w0) w (.slice ao n c) ks) (hn : n ≤ 1000000) :
    Calls Try.prog 39 #[.slice ao n c] w fun e w' => (∃ lo ln lc, e = .returned (.agg #[.slice lo ln lc, .slice none 0 0, .int .i64 0, .int .i64 0]) ∧ KsR (PV w0) w' w.heap.size (.slice lo ln lc) (learnAll ks)) ∧ Below w.heap.size w w' := by
  obtain ⟨W1, hW1, b1, b2, hx⟩ := bx2 w 49 49 #[.slice none 0 0, .slice none 0 0, .int .i64 0, .int .i64 0] #[.slice none 0 0, .slice none 0 0, .int .i64 0, .int .i64 0]
  obtain ⟨g1, hg1⟩ : ∃ g, g = w.heap.size + 1 := ⟨_, rfl⟩
  rw [← hg1] at b2
  have hsz : W1.heap.size = w.heap.size + 2 := by rw [hW1, World.size_alloc, World.size_alloc]
  have HG := Lib.hid (show g1 = w.heap.size + 1 ∧ W1.heap.size = w.heap.size + 2 from ⟨hg1, hsz⟩)
  have hne : w.heap.size ≠ g1 := by omega
  have hne' : g1 ≠ w.heap.size := by omega
  have HX := Lib.hid hx
  have HB1 := Lib.hid b1
  have HB2 := Lib.hid b2
  have HW := Lib.hid hW1
  have hl := h.len
  have HL := Lib.hid hl.1
  have hl2 := hl.2
  have HK := Lib.hid (h.keep hx)
  have HKW := Lib.hid h
  clear hx b1 b2 hW1 hsz hg1 h hl
  go_enter Try.func39, Try.ntmps39
  go_upto_region 2 with fail
  rw [← HW.out, ← HG.out.1]
  clear HW
  go_wp2
  go_loopw [4] (fun s wr => ∃ (i : Nat) (xo : Option Addr) (xn xc : Nat), s = .int .i64 i ∧ i ≤ n ∧ xn ≤ i ∧ Hid (BX wr g1 49 #[.slice xo xn xc, .slice none 0 0, .int .i64 0, .int .i64 0] ∧ KsR (PV w0) wr W1.heap.size (.slice xo xn xc) (learnAll (ks.take i)) ∧ BX wr w.heap.size 49 #[.slice none 0 0, .slice none 0 0, .int .i64 0, .int .i64 0] ∧ Below w.heap.size W1 wr ∧ KsAt (PV w0) wr (.slice ao n c) ks ∧ W1.heap.size ≤ wr.heap.size)) (fun s _ => n - (intOf s).toNat)
  case atStart => exact ⟨0, none, 0, 0, rfl, Nat.zero_le _, Nat.le_refl _, Lib.hid ⟨HB2.out, KsR.nil _ _ _, HB1.out, Below.refl _ _, HK.out, Nat.le_refl _⟩⟩
  case round =>
    obtain ⟨i, xo, xn, xc, rfl, hi, hxn, HV⟩ := hrel
    by_cases hlt : i < n
    · obtain ⟨g, o, ak, nk, ck, av, nv, cv, ac, nc, cc, rfl, hP, hc⟩ := HV.out.2.2.2.2.1.get hlt
      have hil : i < ks.length := by have := HL.out; omega
      have hmore := learn_more hil
      obtain ⟨kn, hkn⟩ : ∃ kn, kn = kAt ks i := ⟨_, rfl⟩
      rw [← hkn] at hc hP hmore
      obtain ⟨rfl, rfl, rfl, hnd⟩ := hP.nd
      have HC : Hid (∀ V, Below wr.heap.size wr V → V.cell? ⟨g1, 0, none⟩ = some (.slice xo xn xc) ∧ V.cell? ⟨g1, 1, none⟩ = some (.slice none 0 0) ∧ V.cell? ⟨g1, 2, none⟩ = some (.int .i64 0) ∧ V.cell? ⟨g1, 3, none⟩ = some (.int .i64 0) ∧ V.cell? ⟨g, o + i * 11, none⟩ = some (.int .i64 kn.c) ∧ V.cell? ⟨g, o + i * 11 + 1, none⟩ = some (.int .u64 kn.wd) ∧ V.cell? ⟨g, o + i * 11 + 2, none⟩ = some (.int .u64 kn.vr) ∧ V.cell? ⟨g, o + i * 11 + 3, none⟩ = some (.int .i64 kn.n.lv) ∧ V.cell? ⟨g, o + i * 11 + 4, none⟩ = some (.string kn.n.lo) ∧ V.cell? ⟨g, o + i * 11 + 5, none⟩ = some (.string kn.n.hi) ∧ V.cell? ⟨g, o + i * 11 + 6, none⟩ = some (.bool kn.n.la) ∧ V.cell? ⟨g, o + i * 11 + 7, none⟩ = some (.int .i64 kn.n.nx) ∧ V.cell? ⟨g, o + i * 11 + 8, none⟩ = some (.slice ak kn.n.ks.length ck) ∧ V.cell? ⟨g, o + i * 11 + 9, none⟩ = some (.slice av kn.n.vs.length cv) ∧ V.cell? ⟨g, o + i * 11 + 10, none⟩ = some (.slice ac kn.n.cs.length cc)) := Lib.hid (fun V hV => by
        have hb := HV.out.1.below hV
        obtain ⟨q0, q1, q2, q3, q4, q5, q6, q7, q8, q9, q10⟩ := hc V hV
        exact ⟨hb.cell 0 rfl, hb.cell 1 rfl, hb.cell 2 rfl, hb.cell 3 rfl, q0, q1, q2, q3, q4, q5, q6, q7, q8, q9, q10⟩)
      have HLR := Lib.hid (fun W (hb : Below wr.heap.size wr W) => rlearn_says w0 W1.heap.size xo xn xc (learnAll (ks.take i)) kn ak av ac ck cv cc W (Nat.le_trans HV.out.2.2.2.2.2 hb.size) (HV.out.2.1.keep hb) (by omega) hP)
      obtain ⟨L2, hL2⟩ : ∃ L2, L2 = learnK (learnAll (ks.take i)) kn := ⟨_, rfl⟩
      rw [← hL2] at HLR hmore
      have HM := Lib.hid hmore
      have hS0 := HC.out wr.drew (Below.refl _ _).drew
      have hlt' : (i : Int) < n := by omega
      clear hc hP hmore hkn hnd hL2
      go_wp2
      go_cut [5, 6] from 14 to 22 (fun s5 s6 wx => ∃ G b lo ln lc, s5 = .pointer (some ⟨G, 0, none⟩) ∧ s6 = .bool b ∧ Hid (VP w0 wr wx W1.heap.size G lo ln lc L2))
      case first =>
        go_region_held_law (fun V => V.cell? ⟨g1, 0, none⟩ = some (.slice xo xn xc) ∧ V.cell? ⟨g1, 1, none⟩ = some (.slice none 0 0) ∧ V.cell? ⟨g1, 2, none⟩ = some (.int .i64 0) ∧ V.cell? ⟨g1, 3, none⟩ = some (.int .i64 0) ∧ V.cell? ⟨g, o + i * 11, none⟩ = some (.int .i64 kn.c) ∧ V.cell? ⟨g, o + i * 11 + 1, none⟩ = some (.int .u64 kn.wd) ∧ V.cell? ⟨g, o + i * 11 + 2, none⟩ = some (.int .u64 kn.vr) ∧ V.cell? ⟨g, o + i * 11 + 3, none⟩ = some (.int .i64 kn.n.lv) ∧ V.cell? ⟨g, o + i * 11 + 4, none⟩ = some (.string kn.n.lo) ∧ V.cell? ⟨g, o + i * 11 + 5, none⟩ = some (.string kn.n.hi) ∧ V.cell? ⟨g, o + i * 11 + 6, none⟩ = some (.bool kn.n.la) ∧ V.cell? ⟨g, o + i * 11 + 7, none⟩ = some (.int .i64 kn.n.nx) ∧ V.cell? ⟨g, o + i * 11 + 8, none⟩ = some (.slice ak kn.n.ks.length ck) ∧ V.cell? ⟨g, o + i * 11 + 9, none⟩ = some (.slice av kn.n.vs.length cv) ∧ V.cell? ⟨g, o + i * 11 + 10, none⟩ = some (.slice ac kn.n.cs.length cc))
          (first | (with_reducible exact hS0) | (refine HC.out _ ?_; repeat' (first | (with_reducible exact HBA.out) | (with_reducible exact Below.refl _ _) | (with_reducible refine Below.setCell ?_ ?_ _) | (with_reducible refine Below.drew ?_) | (with_reducible refine Below.alloc ?_ ?_ _) | exact Nat.le_refl _ | exact HBA.out.size)))
          (first | (go_at_call 71; refine (HLR.out _ (by first | exact (Below.refl _ _).drew | exact (Below.refl wr.heap.size wr).drew.alloc (Nat.le_refl _) _ | exact ((Below.refl wr.heap.size wr).alloc (Nat.le_refl _) _).drew)).mono ?_; rintro e wa ⟨⟨lo, ln, lc, bb, rfl, hk⟩, hb⟩; (first | (have HPB : Hid (BX wa wr.heap.size 49 #[.slice none 0 0, .slice none 0 0, .int .i64 0, .int .i64 0]) := Lib.hid ((BX.new wr.drew 49 #[.slice none 0 0, .slice none 0 0, .int .i64 0, .int .i64 0]).below hb); have k0 := HPB.out.cell 0 rfl; have k1 := HPB.out.cell 1 rfl; have k2 := HPB.out.cell 2 rfl; have k3 := HPB.out.cell 3 rfl; have y0 := HPB.out.frozen 0; have y1 := HPB.out.frozen 1; have y2 := HPB.out.frozen 2; have y3 := HPB.out.frozen 3) | (have HPB : Hid (BX wa wr.heap.size 49 #[.slice none 0 0, .slice none 0 0, .int .i64 0, .int .i64 0]) := Lib.hid ((BX.new wr 49 #[.slice none 0 0, .slice none 0 0, .int .i64 0, .int .i64 0]).drew.below hb); have k0 := HPB.out.cell 0 rfl; have k1 := HPB.out.cell 1 rfl; have k2 := HPB.out.cell 2 rfl; have k3 := HPB.out.cell 3 rfl; have y0 := HPB.out.frozen 0; have y1 := HPB.out.frozen 1; have y2 := HPB.out.frozen 2; have y3 := HPB.out.frozen 3) | skip); have HKA := Lib.hid hk; (first | (have HBA : Hid (Below wr.heap.size wr wa) := Lib.hid ((Below.refl wr.heap.size wr).drew.trans (hb.mono (Nat.le_refl _)))) | (have HBA : Hid (Below wr.heap.size wr wa) := Lib.hid (((Below.refl wr.heap.size wr).drew.alloc (Nat.le_refl _) (.cells #[.slice none 0 0, .slice none 0 0, .int .i64 0, .int .i64 0] 49)).trans (hb.mono (by show wr.heap.size ≤ (wr.drew.alloc _).heap.size; rw [World.size_alloc]; exact Nat.le_succ _)))) | (have HBA : Hid (Below wr.heap.size wr wa) := Lib.hid ((((Below.refl wr.heap.size wr).alloc (Nat.le_refl _) (.cells #[.slice none 0 0, .slice none 0 0, .int .i64 0, .int .i64 0] 49)).drew).trans (hb.mono (by show wr.heap.size ≤ (wr.alloc _).heap.size; rw [World.size_alloc]; exact Nat.le_succ _))))); clear hk hb))
        all_goals first | go_meet | (go_step; go_meet) | (go_wp2_with fail; go_meet)
        all_goals refine ⟨_, _, lo, ln, lc, rfl, rfl, Lib.hid ?_⟩
        all_goals first | exact vp_set HPB.out HKA.out HBA.out (Nat.le_refl _) | exact vp_new HKA.out HBA.out | exact vp_drew (vp_new HKA.out HBA.out)
      case rest =>
        obtain ⟨G, b, lo, ln, lc, rfl, rfl, HP⟩ := hcut
        have hbw := HP.out.2.2.1
        have b1 := HV.out.1.below hbw
        have b0 := HV.out.2.2.1.below hbw
        have nG := HP.out.1
        have hGe := HP.out.2.2.2
        have hGg : G ≠ g1 := by have := lt_of_block HV.out.1; omega
        have hgG : g1 ≠ G := fun e => hGg e.symm
        have hk2 := HP.out.2.1
        have hln : ln ≤ i + 1 := by
          have h1 := hk2.ks.len.1
          have h2 := learnAll_len (ks.take (i + 1))
          rw [HM.out, List.length_take] at h2
          omega
        have u0 := nG.cell 0 rfl
        have u1 := nG.cell 1 rfl
        have u2 := nG.cell 2 rfl
        have u3 := nG.cell 3 rfl
        have a0 := b1.cell 0 rfl
        have a1 := b1.cell 1 rfl
        have a2 := b1.cell 2 rfl
        have a3 := b1.cell 3 rfl
        have y0 := b1.frozen 0
        have y1 := b1.frozen 1
        have y2 := b1.frozen 2
        have y3 := b1.frozen 3
        have ht : Turn (fun j => j = g1) wc ((((wc.setCell ⟨g1, 0, none⟩ (.slice lo ln lc)).setCell ⟨g1, 1, none⟩ (.slice none 0 0)).setCell ⟨g1, 2, none⟩ (.int .i64 0)).setCell ⟨g1, 3, none⟩ (.int .i64 0)) := Turn.setCell (S := fun j => j = g1) (Turn.setCell (S := fun j => j = g1) (Turn.setCell (S := fun j => j = g1) (Turn.setCell (S := fun j => j = g1) (Turn.refl _ wc) (Or.inl rfl) _) (Or.inl rfl) _) (Or.inl rfl) _) (Or.inl rfl) _
        have hbs : Below w.heap.size W1 ((((wc.setCell ⟨g1, 0, none⟩ (.slice lo ln lc)).setCell ⟨g1, 1, none⟩ (.slice none 0 0)).setCell ⟨g1, 2, none⟩ (.int .i64 0)).setCell ⟨g1, 3, none⟩ (.int .i64 0)) := (HV.out.2.2.2.1.trans (hbw.mono (by have := HG.out; have := HV.out.2.2.2.2.2; omega))).trans (ht.below (fun j e => by rw [show j = g1 from e]; have := HG.out; omega) (by have := HG.out; have := HV.out.2.2.2.2.2; have := hbw.size; omega))
        have HNEW : Hid (BX ((((wc.setCell ⟨g1, 0, none⟩ (.slice lo ln lc)).setCell ⟨g1, 1, none⟩ (.slice none 0 0)).setCell ⟨g1, 2, none⟩ (.int .i64 0)).setCell ⟨g1, 3, none⟩ (.int .i64 0)) g1 49 #[.slice lo ln lc, .slice none 0 0, .int .i64 0, .int .i64 0] ∧ KsR (PV w0) ((((wc.setCell ⟨g1, 0, none⟩ (.slice lo ln lc)).setCell ⟨g1, 1, none⟩ (.slice none 0 0)).setCell ⟨g1, 2, none⟩ (.int .i64 0)).setCell ⟨g1, 3, none⟩ (.int .i64 0)) W1.heap.size (.slice lo ln lc) (learnAll (ks.take (i + 1))) ∧ BX ((((wc.setCell ⟨g1, 0, none⟩ (.slice lo ln lc)).setCell ⟨g1, 1, none⟩ (.slice none 0 0)).setCell ⟨g1, 2, none⟩ (.int .i64 0)).setCell ⟨g1, 3, none⟩ (.int .i64 0)) w.heap.size 49 #[.slice none 0 0, .slice none 0 0, .int .i64 0, .int .i64 0] ∧ Below w.heap.size W1 ((((wc.setCell ⟨g1, 0, none⟩ (.slice lo ln lc)).setCell ⟨g1, 1, none⟩ (.slice none 0 0)).setCell ⟨g1, 2, none⟩ (.int .i64 0)).setCell ⟨g1, 3, none⟩ (.int .i64 0)) ∧ KsAt (PV w0) ((((wc.setCell ⟨g1, 0, none⟩ (.slice lo ln lc)).setCell ⟨g1, 1, none⟩ (.slice none 0 0)).setCell ⟨g1, 2, none⟩ (.int .i64 0)).setCell ⟨g1, 3, none⟩ (.int .i64 0)) (.slice (some ⟨g, o, none⟩) n c) ks ∧ W1.heap.size ≤ ((((wc.setCell ⟨g1, 0, none⟩ (.slice lo ln lc)).setCell ⟨g1, 1, none⟩ (.slice none 0 0)).setCell ⟨g1, 2, none⟩ (.int .i64 0)).setCell ⟨g1, 3, none⟩ (.int .i64 0)).heap.size) := Lib.hid (by
          refine ⟨(((b1.set 0 _).set 1 _).set 2 _).set 3 _, by rw [HM.out]; exact hk2.moved ht (fun j cs e hg => by
            have e' : j = g1 := e
            subst e'
            exact bx_no b1 (by decide) cs hg), (((b0.far (p := ⟨g1, 0, none⟩) hne _).far (p := ⟨g1, 1, none⟩) hne _).far (p := ⟨g1, 2, none⟩) hne _).far (p := ⟨g1, 3, none⟩) hne _, hbs, ?_, Nat.le_trans HV.out.2.2.2.2.2 (Nat.le_trans hbw.size ht.size)⟩
          exact HKW.out.keep (HX.out.trans hbs))
        clear nG hGe hk2 b1 b0 hbw ht hbs HC hS0 HLR
        go_wp2
        go_roundw
        case rel => exact ⟨i + 1, lo, ln, lc, by go_num, by omega, by omega, HNEW⟩
        case measure => simp [intOf]; omega
    · obtain rfl : i = n := by omega
      have HA := Lib.hid (show ks.take i = ks by rw [HL.out]; exact List.take_length)
      have a0 := HV.out.1.cell 0 rfl
      have a1 := HV.out.1.cell 1 rfl
      have a2 := HV.out.1.cell 2 rfl
      have a3 := HV.out.1.cell 3 rfl
      have r0 := HV.out.2.2.1.cell 0 rfl
      have r1 := HV.out.2.2.1.cell 1 rfl
      have r2 := HV.out.2.2.1.cell 2 rfl
      have r3 := HV.out.2.2.1.cell 3 rfl
      have y0 := HV.out.2.2.1.frozen 0
      have y1 := HV.out.2.2.1.frozen 1
      have y2 := HV.out.2.2.1.frozen 2
      have y3 := HV.out.2.2.1.frozen 3
      go_wp2
      refine bodyPost_ret (v := .agg #[.slice xo xn xc, .slice none 0 0, .int .i64 0, .int .i64 0]) (by simp [results, Try.results39, go_sem, *]) rfl ?_
      have hbv := HX.out.trans HV.out.2.2.2.1
      refine ⟨⟨xo, xn, xc, rfl, ?_⟩, ?_⟩
      · have h1 := (HV.out.2.1.base (C := w.heap.size) HX.out.size)
        rw [HA.out] at h1
        have ht : ∀ (l : List (Nat × Value)) (W : World), KsR (PV w0) W w.heap.size (.slice xo xn xc) (learnAll ks) → (∃ cs, BX W w.heap.size 49 cs) → KsR (PV w0) (wr11 W w.heap.size l) w.heap.size (.slice xo xn xc) (learnAll ks) := by
          intro l
          induction l with
          | nil => intro W h _; exact h
          | cons q l ih =>
            rintro W h ⟨cs, hb⟩
            exact ih _ (h.moved (S := fun j => j = w.heap.size) (Turn.setCell (S := fun j => j = w.heap.size) (Turn.refl _ W) (Or.inl rfl) q.2) (fun j cs' e hg => by
              have e' : j = w.heap.size := e
              subst e'
              exact bx_no hb (by decide) cs' hg)) ⟨_, hb.set q.1 q.2⟩
        exact ht [(0, _), (1, _), (2, _), (3, _)] wr h1 ⟨_, HV.out.2.2.1⟩
      · repeat' (first | (with_reducible exact hbv) | (with_reducible refine Below.setCell ?_ ?_ _) | exact Nat.le_refl _)
end Go.Proofs.Ytdbklklmpnlinaa

namespace Go.Proofs.Ytdbklklmpnlinaa
open Go.RowKit Go.Maps

/-- One spare more is told. -/
def spAdd (ts : List (Int × Int)) (p : Int × Int) : List (Int × Int) := if cellB p.1 = true ∧ hasS ts p.1 = false then ts ++ [p] else ts
/-- All are. -/
def spAll (ss : List (Int × Int)) : List (Int × Int) := ss.foldl spAdd []
theorem spAll_more {ss : List (Int × Int)} {i : Nat} (h : i < ss.length) : spAll (ss.take (i + 1)) = spAdd (spAll (ss.take i)) (nts ss i) := by
  unfold spAll
  rw [List.take_succ_eq_append_getElem h, List.foldl_append, nts_eq h]
  rfl
theorem spAll_len (ss : List (Int × Int)) : (spAll ss).length ≤ ss.length := by
  have : ∀ (l ts : List (Int × Int)), (l.foldl spAdd ts).length ≤ ts.length + l.length := by
    intro l
    induction l with
    | nil => exact fun ts => Nat.le_refl _
    | cons p l ih =>
      intro ts
      have h1 := ih (spAdd ts p)
      have h2 : (spAdd ts p).length ≤ ts.length + 1 := by
        unfold spAdd
        split
        · simp
        · omega
      rw [List.foldl_cons, List.length_cons]
      omega
  have h := this ss []
  simpa [spAll] using h
/-- A view's blocks lie behind an earlier number, too. -/
theorem FV.less {w : World} {B C A b N : Nat} {sv : Value} {ks : List Kn} {ss : List (Int × Int)} {k m : Int} (h : FV w B A b sv N ks ss k m) (hc : C ≤ B) : FV w C A b sv N ks ss k m := by
  obtain ⟨D, hm, hr⟩ := h.map
  exact ⟨h.view, ⟨D, hm, ⟨hr.miss, fun c k hk => by
    obtain ⟨h1, v, h2, h3⟩ := hr.hit c k hk
    exact ⟨h1, v, h2, h3.base hc⟩⟩⟩, fv_base h.sp hc, ⟨Nat.le_trans hc h.ge.1, Nat.le_trans hc h.ge.2⟩, h.ne⟩
/-- Between two spares. -/
structure VW (w0 w wr : World) (A b N R G lo_n lc : Nat) (lo : Option Addr) (ks : List Kn) (ts : List (Int × Int)) (so : Option Addr) (sn sc : Nat) (po : Option Addr) (pn pc : Nat) : Prop where
  fv : FV wr w.heap.size A b (.slice so sn sc) N ks ts 0 0
  dp : DP w0 wr (VS A b (.slice so sn sc)) G lo lo_n lc po pn pc ks ts 0 0
  bx : BX wr R 49 #[.slice none 0 0, .slice none 0 0, .int .i64 0, .int .i64 0]
  rv : ¬ VS A b (.slice so sn sc) R
  rg : R ≠ G
  lt : w.heap.size ≤ G ∧ w.heap.size ≤ R
  be : Below w.heap.size w wr
section
variable {w0 w wr : World} {A b N R G ln lc sn sc pn pc : Nat} {lo so po : Option Addr} {ks : List Kn} {ts : List (Int × Int)}
theorem VW.keep {wx : World} (h : VW w0 w wr A b N R G ln lc lo ks ts so sn sc po pn pc) (hb : Below wr.heap.size wr wx) : VW w0 w wx A b N R G ln lc lo ks ts so sn sc po pn pc :=
  ⟨h.fv.keep hb, h.dp.keep hb, h.bx.below hb, h.rv, h.rg, h.lt, h.be.trans (hb.mono h.be.size)⟩
/-- A spare more in the code's view. -/
theorem VW.add1 {w5 : World} {g c9 : Nat} (h : VW w0 w wr A b N R G ln lc lo ks ts so sn sc po pn pc) (ht : Turn (VS A b (.slice so sn sc)) wr w5) (hg : (Value.slice so sn sc).ownBlock = some g ∨ wr.heap.size ≤ g) :
    DP w0 w5 (VS A b (.slice (some ⟨g, 0, none⟩) (ts.length + 1) c9)) G lo ln lc po pn pc ks ts 0 0 ∧ BX w5 R 49 #[.slice none 0 0, .slice none 0 0, .int .i64 0, .int .i64 0] ∧ ¬ VS A b (.slice (some ⟨g, 0, none⟩) (ts.length + 1) c9) R ∧ Below w.heap.size w w5 := by
  have hV : ∀ j, j < wr.heap.size → VS A b (.slice (some ⟨g, 0, none⟩) (ts.length + 1) c9) j → VS A b (.slice so sn sc) j := by
    rintro j hj (e | e | e)
    · exact Or.inl e
    · exact Or.inr (Or.inl e)
    · have e' : g = j := Option.some.inj e
      subst e'
      rcases hg with h1 | h1
      · exact Or.inr (Or.inr h1)
      · exact absurd hj (Nat.not_lt.2 h1)
  exact ⟨h.dp.turn ht h.fv.noKn hV, (ht.block R (lt_of_block h.bx) h.rv).trans h.bx, fun e => h.rv (hV R (lt_of_block h.bx) e), h.be.trans (ht.below h.fv.base h.fv.size)⟩
/-- The document's view is written. -/
theorem VW.put {w6 : World} {po' : Option Addr} {pn' pc' : Nat} {ts' : List (Int × Int)} (hf : FV w6 w.heap.size A b (.slice so sn sc) N ks ts' 0 0) (hd : DP w0 w6 (VS A b (.slice so sn sc)) G lo ln lc po pn pc ks ts 0 0) (hs : w6.ownsRow w0.heap.size 51 2 (.slice po' pn' pc') pn' (spC ts')) (hl : pn' = ts'.length) (ho : ∀ g, (Value.slice po' pn' pc').ownBlock = some g → ¬ VS A b (.slice so sn sc) g) (hR : BX w6 R 49 #[.slice none 0 0, .slice none 0 0, .int .i64 0, .int .i64 0]) (hrv : ¬ VS A b (.slice so sn sc) R) (hrg : R ≠ G) (hlt : w.heap.size ≤ G ∧ w.heap.size ≤ R) (hbe : Below w.heap.size w w6) :
    VW w0 w (set4 w6 G (.slice lo ln lc) (.slice po' pn' pc') (.int .i64 0) (.int .i64 0)) A b N R G ln lc lo ks ts' so sn sc po' pn' pc' :=
  ⟨hf.put hd.box hd.out _ _ _ _, hd.put hd.row hs hl ho, ((set4_turn w6 G _ _ _ _).block R (lt_of_block hR) hrg).trans hR, hrv, hrg, hlt, hbe.trans ((set4_turn w6 G _ _ _ _).below (fun j e => by rw [show j = G from e]; exact hlt.1) hbe.size)⟩
end
set_option maxHeartbeats 4000000 in
set_option maxRecDepth 100000 in
theorem views_any (w0 : World) (ao so : Option Addr) (n c sn sc : Nat) (ks : List Kn) (ss : List (Int × Int)) (w : World) (h0 : Below w0.heap.size w0 w) (h : KsAt (PV w0) w (.slice ao n c) ks) (hok : ∀ kn ∈ ks, NodOk kn.n) (hn : n ≤ 1000000) (hs : SpAt w (.slice so sn sc) ss) (hsn : sn ≤ 1000000) :
    Calls Try.prog 15 #[.slice ao n c, .slice so sn sc] w fun e w' => ∃ (A b N : Nat) (lo vo po : Option Addr) (ln lc vn vc pn pc : Nat), e = .returned (.tuple #[.pointer (some ⟨A, 0, none⟩), .agg #[.slice lo ln lc, .slice po pn pc, .int .i64 0, .int .i64 0]]) ∧ FV w' w.heap.size A b (.slice vo vn vc) N (learnAll ks) (spAll ss) 0 0 ∧ Below w.heap.size w w' := by
  have hb1 := boxed_below w (.cells #[.slice none 0 0, .slice none 0 0, .int .i64 0, .int .i64 0] 49)
  have n1 := BX.new w 49 #[.slice none 0 0, .slice none 0 0, .int .i64 0, .int .i64 0]
  obtain ⟨R, hR⟩ : ∃ g, g = w.heap.size := ⟨_, rfl⟩
  rw [← hR] at n1
  obtain ⟨W1, hW1⟩ : ∃ W, W = w.alloc (.cells #[.slice none 0 0, .slice none 0 0, .int .i64 0, .int .i64 0] 49) := ⟨_, rfl⟩
  rw [← hW1] at hb1 n1
  have HV1 := Lib.hid (view_says w0 ao n c ks W1 (h0.trans (hb1.mono h0.size)) (h.keep hb1) hok hn)
  have HV2 := Lib.hid (fun W (hb : Below W1.heap.size W1 W) => rview_says w0 ao n c ks W ((h.keep hb1).keep hb) hn)
  have HB1 := Lib.hid hb1
  have HN1 := Lib.hid n1
  have HRR := Lib.hid (show R < W1.heap.size ∧ w.heap.size ≤ R from ⟨lt_of_block n1, by omega⟩)
  have HW := Lib.hid (show R = w.heap.size ∧ _ from ⟨hR, hW1⟩)
  have H0 := Lib.hid h0
  have HS := Lib.hid hs
  have HL := Lib.hid hs.len.1
  have hls2 := hs.len.2
  clear hb1 n1 hR hW1 h h0 hok hs
  go_enter Try.func15, Try.ntmps15
  go_upto_region 1 with fail
  rw [← HW.out.1, ← HW.out.2]
  clear HW
  go_wp2_with fail
  refine HV1.out.mono ?_
  rintro e w2 ⟨A, b, N, rfl, hf2, hb2⟩
  have HV3 := Lib.hid (HV2.out w2 hb2)
  have HF2 := Lib.hid hf2
  have HB2 := Lib.hid hb2
  clear hf2 hb2
  go_wp2_with fail
  refine HV3.out.mono ?_
  rintro e w3 ⟨⟨lo, ln, lc, rfl, hk3⟩, hb3⟩
  have nG := BX.new w3 49 #[.slice lo ln lc, .slice none 0 0, .int .i64 0, .int .i64 0]
  have hx := boxed_below w3 (.cells #[.slice lo ln lc, .slice none 0 0, .int .i64 0, .int .i64 0] 49)
  obtain ⟨G, hG⟩ : ∃ g, g = w3.heap.size := ⟨_, rfl⟩
  rw [← hG] at nG
  obtain ⟨W4, hW4⟩ : ∃ W, W = w3.alloc (.cells #[.slice lo ln lc, .slice none 0 0, .int .i64 0, .int .i64 0] 49) := ⟨_, rfl⟩
  rw [← hW4] at nG hx
  have hb23 : Below w2.heap.size w2 W4 := hb3.trans (hx.mono hb3.size)
  have hsz : W1.heap.size ≤ w2.heap.size := HB2.out.size
  have hvw : VW w0 w W4 A b N R G ln lc lo (learnAll ks) (spAll (ss.take 0)) none 0 0 none 0 0 := by
    have h2l := HF2.out.lt
    have hbase := HF2.out.base
    have h3s := hb3.size
    have hf4 := HF2.out.keep hb23
    have hB1 := HB1.out.size
    have hR1 := HRR.out.1
    have hR2 := HRR.out.2
    have h00 := H0.out.size
    refine ⟨hf4.less hB1, ⟨nG, (hk3.keep hx).base (by omega), World.ownsRow_nil _ _ _ _, rfl, (fun g e => by cases e), fun e => ?_, by omega⟩, ((HN1.out.below HB2.out).below hb23), fun e => ?_, by omega, ⟨by omega, by omega⟩, HB1.out.trans ((HB2.out.trans (hb23.mono HB2.out.size)).mono HB1.out.size)⟩
    · rcases e with e | e | e
      · omega
      · omega
      · cases e
    · have := hbase R e
      omega
  have HVW := Lib.hid hvw
  have HW4 := Lib.hid (show G = w3.heap.size ∧ _ from ⟨hG, hW4⟩)
  clear nG hx hG hW4 hb23 hsz hvw hk3 hb3
  go_upto_region 2 with fail
  rw [← HW4.out.1, ← HW4.out.2]
  clear HW4
  go_wp2
  go_loopw [16] (fun s wr => ∃ (i : Nat) (vo po : Option Addr) (vn vc pn pc : Nat), s = .int .i64 i ∧ i ≤ sn ∧ Hid (VW w0 w wr A b N R G ln lc lo (learnAll ks) (spAll (ss.take i)) vo vn vc po pn pc)) (fun s _ => sn - (intOf s).toNat)
  case atStart => exact ⟨0, none, none, 0, 0, 0, 0, rfl, Nat.zero_le _, HVW⟩
  case round =>
    obtain ⟨i, vo, po, vn, vc, pn, pc, rfl, hi, HV⟩ := hrel
    by_cases hlt : i < sn
    · obtain ⟨g, o, rfl, q0, q1⟩ := (HS.out.keep HV.out.be).get hlt
      have hil : i < ss.length := by have := HL.out; omega
      have hmore := spAll_more hil
      have hlen := spAll_len (ss.take i)
      rw [List.length_take] at hlen
      obtain ⟨ts, hts⟩ : ∃ t, t = spAll (ss.take i) := ⟨_, rfl⟩
      obtain ⟨p, hp⟩ : ∃ p, p = nts ss i := ⟨_, rfl⟩
      rw [← hts, ← hp] at hmore
      rw [← hts] at hlen HV
      rw [← hp] at q0 q1
      obtain ⟨x, v⟩ := p
      have HM := Lib.hid hmore
      have hlt' : (i : Int) < sn := by omega
      have hx := boxed_below wr (.cells #[.int .i64 x, .int .u64 v] 51)
      have nS := BX.new wr 51 #[.int .i64 x, .int .u64 v]
      obtain ⟨S, hS⟩ : ∃ g, g = wr.heap.size := ⟨_, rfl⟩
      rw [← hS] at nS
      obtain ⟨W2, hW2⟩ : ∃ W, W = wr.alloc (.cells #[.int .i64 x, .int .u64 v] 51) := ⟨_, rfl⟩
      rw [← hW2] at hx nS
      have hv2 := HV.out.keep hx
      have HV2' := Lib.hid hv2
      have NS := Lib.hid nS
      have HSG := Lib.hid (show S ≠ G ∧ ¬ VS A b (.slice vo vn vc) S from ⟨fun e => by have := lt_of_block HV.out.dp.box; omega, fun e => by
        have h1 := HV.out.fv.lt
        rcases e with e | e | e
        · omega
        · omega
        · have := h1.2.2 S e; omega⟩)
      have HW2 := Lib.hid (show S = wr.heap.size ∧ _ from ⟨hS, hW2⟩)
      have htl : ts.length ≤ 1000000 := by omega
      have hpn := hv2.dp.len
      have hpl : pn ≤ 1000000 := by omega
      have HLT := Lib.hid (show ts.length ≤ 1000000 ∧ pn ≤ 1000000 ∧ pn = ts.length from ⟨htl, hpl, hpn⟩)
      clear hmore hlen hts hp hx nS hS hW2 hv2 htl hpn hpl
      cases hcn : (cellB x && !hasS ts x) with
      | true =>
        have hcn' : cellB x = true ∧ hasS ts x = false := by simpa using hcn
        have HE := Lib.hid (show spAdd ts (x, v) = ts ++ [(x, v)] by unfold spAdd; rw [if_pos hcn'])
        have HA := Lib.hid (spare_add x v W2 hcn'.1 hcn'.2 HLT.out.1 HV2'.out.fv)
        have HRA := Lib.hid (fun W (hd : SpAt W (.slice po pn pc) ts) (hz : NilN po pn pc) => rspare_add lo ln lc po pn pc 0 0 x v ts W hd hcn'.1 hcn'.2 hz HLT.out.2.1)
        clear hcn hcn'
        go_upto_region 5 with fail
        rw [← HW2.out.1, ← HW2.out.2]
        clear HW2
        have s0 := NS.out.cell 0 rfl
        have s1 := NS.out.cell 1 rfl
        go_wp2_with fail
        refine HA.out.mono ?_
        rintro e w5 ⟨g5, c9, rfl, hf5, ht5, hg5⟩
        obtain ⟨hd5, hR5, hrv5, hb5⟩ := HV2'.out.add1 (c9 := c9) ht5 hg5
        have nS5 : BX w5 S 51 #[.int .i64 x, .int .u64 v] := (ht5.block S (lt_of_block NS.out) HSG.out.2).trans NS.out
        have HRA5 := Lib.hid (HRA.out w5 hd5.spk hd5.nil)
        have HF5 := Lib.hid (show _ ∧ _ ∧ _ ∧ _ ∧ _ from ⟨hf5, hd5, hR5, hrv5, hb5⟩)
        clear s0 s1 q0 q1
        have s0 := nS5.cell 0 rfl
        have s1 := nS5.cell 1 rfl
        have b0 := hd5.box.cell 0 rfl
        have b1 := hd5.box.cell 1 rfl
        have b2 := hd5.box.cell 2 rfl
        have b3 := hd5.box.cell 3 rfl
        clear hf5 ht5 hg5 hd5 hR5 hrv5 hb5 nS5
        go_wp2_with fail
        refine HRA5.out.mono ?_
        rintro e w6 ⟨⟨ro, rn, rc, rfl, hs6, hrn, hro⟩, hb6⟩
        have hf6 := HF5.out.1.keep hb6
        have hd6 := HF5.out.2.1.keep hb6
        have hR6 := HF5.out.2.2.1.below hb6
        have HEND := Lib.hid (VW.put (w := w) (po' := ro) (pn' := rn) (pc' := rc) hf6 hd6 (fv_base hs6 (Nat.le_trans H0.out.size HF5.out.2.2.2.2.size)) (by rw [hrn]; simp) (fun j hj e => by
          have h1 := (fv_block hs6 hj).1
          have h2 := HF5.out.1.lt
          rcases e with e | e | e
          · omega
          · omega
          · have := h2.2.2 j e; omega) hR6 HF5.out.2.2.2.1 HV.out.rg HV.out.lt (HF5.out.2.2.2.2.trans (hb6.mono HF5.out.2.2.2.2.size)))
        clear b0 b1 b2 b3 s0 s1
        have b0 := hd6.box.cell 0 rfl
        have b1 := hd6.box.cell 1 rfl
        have b2 := hd6.box.cell 2 rfl
        have b3 := hd6.box.cell 3 rfl
        have f0 := hd6.box.frozen 0
        have f1 := hd6.box.frozen 1
        have f2 := hd6.box.frozen 2
        have f3 := hd6.box.frozen 3
        clear hf6 hd6 hR6 hs6 hb6 hrn
        go_wp2
        go_roundw
        case rel => exact ⟨i + 1, _, ro, _, c9, rn, rc, by go_num, by omega, Lib.hid (by rw [HM.out, HE.out]; exact HEND.out)⟩
        case measure => simp [intOf]; omega
      | false =>
        have hcn' : cellB x = false ∨ (cellB x = true ∧ hasS ts x = true) := by
          cases h1 : cellB x <;> cases h2 : hasS ts x <;> simp_all
        have HE := Lib.hid (show spAdd ts (x, v) = ts by
          unfold spAdd
          rw [if_neg]
          rintro ⟨h1, h2⟩
          rcases hcn' with h3 | ⟨_, h3⟩ <;> simp_all)
        have HA := Lib.hid (spare_out x v W2 hcn' HV2'.out.fv)
        have HRA := Lib.hid (fun W (hd : SpAt W (.slice po pn pc) ts) => rspare_out lo ln lc po pn pc 0 0 x v ts W hd hcn')
        clear hcn hcn'
        go_upto_region 5 with fail
        rw [← HW2.out.1, ← HW2.out.2]
        clear HW2
        have s0 := NS.out.cell 0 rfl
        have s1 := NS.out.cell 1 rfl
        go_wp2_with fail
        refine HA.out.mono ?_
        rintro e w5 ⟨rfl, hb5⟩
        have hv5 := HV2'.out.keep hb5
        have nS5 := NS.out.below hb5
        have HRA5 := Lib.hid (HRA.out w5 hv5.dp.spk)
        have HV5 := Lib.hid hv5
        clear s0 s1 q0 q1
        have s0 := nS5.cell 0 rfl
        have s1 := nS5.cell 1 rfl
        have b0 := hv5.dp.box.cell 0 rfl
        have b1 := hv5.dp.box.cell 1 rfl
        have b2 := hv5.dp.box.cell 2 rfl
        have b3 := hv5.dp.box.cell 3 rfl
        clear hv5 nS5 hb5
        go_wp2_with fail
        refine HRA5.out.mono ?_
        rintro e w6 ⟨rfl, hb6⟩
        have hv6 := HV5.out.keep hb6
        have HEND := Lib.hid (VW.put (w := w) (po' := po) (pn' := pn) (pc' := pc) hv6.fv hv6.dp hv6.dp.spr hv6.dp.len hv6.dp.off hv6.bx hv6.rv hv6.rg hv6.lt hv6.be)
        clear b0 b1 b2 b3 s0 s1
        have b0 := hv6.dp.box.cell 0 rfl
        have b1 := hv6.dp.box.cell 1 rfl
        have b2 := hv6.dp.box.cell 2 rfl
        have b3 := hv6.dp.box.cell 3 rfl
        have f0 := hv6.dp.box.frozen 0
        have f1 := hv6.dp.box.frozen 1
        have f2 := hv6.dp.box.frozen 2
        have f3 := hv6.dp.box.frozen 3
        clear hv6 hb6
        go_wp2
        go_roundw
        case rel => exact ⟨i + 1, vo, po, vn, vc, pn, pc, by go_num, by omega, Lib.hid (by rw [HM.out, HE.out]; exact HEND.out)⟩
        case measure => simp [intOf]; omega
    · obtain rfl : i = sn := by omega
      have HA := Lib.hid (show ss.take i = ss by rw [HL.out]; exact List.take_length)
      rw [HA.out] at HV
      have b0 := HV.out.dp.box.cell 0 rfl
      have b1 := HV.out.dp.box.cell 1 rfl
      have b2 := HV.out.dp.box.cell 2 rfl
      have b3 := HV.out.dp.box.cell 3 rfl
      have r0 := HV.out.bx.cell 0 rfl
      have r1 := HV.out.bx.cell 1 rfl
      have r2 := HV.out.bx.cell 2 rfl
      have r3 := HV.out.bx.cell 3 rfl
      have f0 := HV.out.bx.frozen 0
      have f1 := HV.out.bx.frozen 1
      have f2 := HV.out.bx.frozen 2
      have f3 := HV.out.bx.frozen 3
      have hRG : ¬ R = G := HV.out.rg
      have hGR : ¬ G = R := fun e => hRG e.symm
      go_upto_region 8 with fail
      go_region
      go_wp2
      refine bodyPost_ret (v := .tuple #[.pointer (some ⟨A, 0, none⟩), .agg #[.slice lo ln lc, .slice po pn pc, .int .i64 0, .int .i64 0]]) (by simp [results, Try.results15, go_sem, *]) rfl ?_
      have ht : Turn (fun j => j = R) wr (set4 wr R (.slice lo ln lc) (.slice po pn pc) (.int .i64 0) (.int .i64 0)).drew := (set4_turn wr R _ _ _ _).drew
      exact ⟨A, b, N, lo, vo, po, ln, lc, vn, vc, pn, pc, rfl, HV.out.fv.turn ht (fun j hj e => by have e' : j = R := e; subst e'; exact HV.out.rv hj) (fun j cs2 t e hg => by
        have e' : j = R := e
        subst e'
        rw [view_type HV.out.bx hg]
        decide), HV.out.be.trans (ht.below (fun j e => by rw [show j = R from e]; exact HV.out.lt.2) HV.out.be.size)⟩
end Go.Proofs.Ytdbklklmpnlinaa
