/- The document's Cells. Condition: few nodes, each of a cell that there may be, none twice. -/
import Derived.Test.YtefmnfplipdnmaaCellsM
import Derived.Test.YtefmnfplipdnmaaFvCells
namespace Go.Proofs.Ytefmnfplipdnmaa
open Go.RowKit Go.Maps

section
variable {P : Value → Value → Value → Kn → Prop}
set_option maxHeartbeats 4000000 in
set_option maxRecDepth 100000 in
theorem rcells_any (ao : Option Addr) (n c : Nat) (so : Option Addr) (sn sc : Nat) (k m : Int) (ks : List Kn) (w : World) (h : KsAt P w (.slice ao n c) ks) (hok : KsOk ks) :
    Calls Try.prog 49 #[.agg #[.slice ao n c, .slice so sn sc, .int .i64 k, .int .i64 m]] w fun e w' => (∃ ro rc, e = .returned (.slice ro (cellsOf ks).length rc) ∧ w'.ownsRow w.heap.size 3 1 (.slice ro (cellsOf ks).length rc) (cellsOf ks).length ((cellsOf ks).map (Value.int .i64))) ∧ Below w.heap.size w w' := by
  have hx := boxed_below w (.cells #[.slice ao n c, .slice so sn sc, .int .i64 k, .int .i64 m] 31)
  have n1 := BX.new w 31 #[.slice ao n c, .slice so sn sc, .int .i64 k, .int .i64 m]
  obtain ⟨W1, hW1⟩ : ∃ W, W = w.alloc (.cells #[.slice ao n c, .slice so sn sc, .int .i64 k, .int .i64 m] 31) := ⟨_, rfl⟩
  rw [← hW1] at hx n1
  have hl1 := h.len.1
  obtain ⟨i0, hi, hz0, hz1, hz2⟩ := info_parts fvInfoInt
  have HI := Lib.hid (show _ ∧ _ ∧ _ ∧ _ from ⟨hi, hz0, hz1, hz2⟩)
  have HK := Lib.hid (h.keep hx)
  have HX := Lib.hid hx
  have HW := Lib.hid hW1
  have HL1 := Lib.hid hl1
  have HN1 := Lib.hid n1
  have HOK := Lib.hid hok
  clear hx n1 hW1 h hl1 hok hi hz0 hz1 hz2
  go_enter Try.func49, Try.ntmps49
  go_upto_region 1 with fail
  rw [← HW.out]
  clear HW
  go_wp2
  go_loopw [3, 4] (fun v s wr => ∃ i : Nat, s = .int .i64 i ∧ i ≤ 8192 ∧ Hid (wr.ownsRow W1.heap.size 3 1 v (cellsTo ks i).length ((cellsTo ks i).map (Value.int .i64))) ∧ Hid (Below W1.heap.size W1 wr)) (fun _ s _ => 8192 - (intOf s).toNat)
  case atStart => exact ⟨0, rfl, Nat.zero_le _, Lib.hid (World.ownsRow_nil _ _ _ _), Lib.hid (Below.refl _ _)⟩
  case round =>
    obtain ⟨i, rfl, hi, hO, hB⟩ := hrel
    obtain ⟨q, hq⟩ : ∃ q, q = (cellsTo ks i).length := ⟨_, rfl⟩
    have HQ := Lib.hid hq
    obtain ⟨xs, hxs⟩ : ∃ xs, xs = cellsTo ks i := ⟨_, rfl⟩
    have HXS := Lib.hid hxs
    rw [← hq, ← hxs] at hO
    have hform : ∃ ro rc, u3 = .slice ro q rc := by
      rcases hO.out.2 with ⟨e, hz⟩ | ⟨g, cap, cur, e, _⟩
      · exact ⟨none, 0, by rw [e, hz]⟩
      · exact ⟨_, _, e⟩
    obtain ⟨ro, rc, rfl⟩ := hform
    have hqn : q ≤ n := by rw [hq, HL1.out]; exact cellsTo_le HOK.out hi
    have hnb : n ≤ 8192 := by
      have h1 := cellsOf_len HOK.out
      have h2 : (cellsOf ks).length ≤ 8192 := by
        unfold cellsOf cellsTo
        exact Nat.le_trans (List.length_filter_le _ _) (by simp)
      have := HL1.out
      omega
    have nb := HN1.out.below hB.out
    have c0 := nb.cell 0 rfl
    have c1 := nb.cell 1 rfl
    have c2 := nb.cell 2 rfl
    have c3 := nb.cell 3 rfl
    clear nb hq hxs
    by_cases hlt : i < 8192 ∧ q < n
    · obtain ⟨hlt1, hlt2⟩ := hlt
      have hlt' : (i : Int) < 8192 := by omega
      have HF := Lib.hid (rfind_any ao n c so sn sc k m i ks wr (HK.out.keep hB.out))
      have hsucc := cellsTo_succ ks i
      rcases kidx_cases ks (i : Int) with ⟨h1, h2⟩ | ⟨j, _, h1, h2⟩
      · rw [h1] at HF
        rw [h2] at hsucc
        rw [if_neg (by simp), List.append_nil] at hsucc
        have HO2 := Lib.hid (show wr.ownsRow W1.heap.size 3 1 (.slice ro q rc) (cellsTo ks (i + 1)).length ((cellsTo ks (i + 1)).map (Value.int .i64)) by rw [hsucc, ← HXS.out, show xs.length = q by rw [HXS.out, HQ.out]]; exact hO.out)
        clear h1 h2 hsucc hO
        go_wp2_with fail
        refine HF.out.mono ?_
        rintro e w5 ⟨rfl, hb5⟩
        have HB5 := Lib.hid (hB.out.trans (hb5.mono hB.out.size))
        have HO5 := Lib.hid (fv_stays HO2.out hb5)
        clear hb5 c0 c1 c2 c3
        go_wp2
        go_roundw
        case rel => exact ⟨i + 1, by go_num, by omega, HO5, HB5⟩
        case measure => simp [intOf]; omega
      · rw [h1] at HF
        rw [h2] at hsucc
        rw [if_pos (by simp)] at hsucc
        have HSC := Lib.hid hsucc
        have hj0 : (0 : Int) ≤ (j : Int) := by omega
        clear h1 h2 hsucc
        go_wp2_with fail
        refine HF.out.mono ?_
        rintro e w5 ⟨rfl, hb5⟩
        have HB5 := Lib.hid (hB.out.trans (hb5.mono hB.out.size))
        have ho5 := (fv_stays hO.out hb5).alloc (.cells #[.int .i64 i] 3)
        have hnews := World.news_of_block (cs := #[.int .i64 i]) (heap_alloc_new w5 (.cells #[.int .i64 i] 3))
        have hone : ∀ u ∈ [Value.int .i64 (i : Int)], u.oneCell' = true := fun u hu => by rw [List.mem_singleton.1 hu]; rfl
        have HH := Lib.hid (show _ ∧ _ ∧ _ from ⟨ho5, hnews, hone⟩)
        clear hb5 c0 c1 c2 c3 ho5 hnews hone hO
        go_wp2_with ((with_reducible show wpList _ _ _ (⟨some 24, _, _, _, _, _⟩ :: _) _ _); refine wpList_append_own (o := ⟨some 24, _, _, _, _, _⟩) _ rfl _ _ 35 rfl W1.heap.size 3 i0 (.int .i64 0) 1 8 Try.underlying35 HI.out.1 HI.out.2.1 HI.out.2.2.1 HI.out.2.2.2 rfl (by decide) _ _ _ rfl HH.out.1 ⟨w5.heap.size, 0, none⟩ 1 1 [.int .i64 i] rfl rfl HH.out.2.1 HH.out.2.2 (by unfold maxLen; omega) (by omega) (by rw [World.size_alloc]; have := HB5.out.size; omega) ?_)
        intro v6 w6 hown6 hgrow6 _
        have HO6 := Lib.hid (show w6.ownsRow W1.heap.size 3 1 v6 (cellsTo ks (i + 1)).length ((cellsTo ks (i + 1)).map (Value.int .i64)) by
          rw [HSC.out, List.length_append, List.map_append, ← HXS.out, show xs.length = q by rw [HXS.out, HQ.out]]
          exact hown6)
        have HB6 := Lib.hid ((HB5.out.trans (((Below.refl _ _).alloc (Nat.le_refl _) _).mono HB5.out.size)).grown hgrow6 (by rw [World.size_alloc]; have := HB5.out.size; omega) (fun j hj => (fv_block HH.out.1 hj).1))
        clear hown6 hgrow6
        go_wp2
        go_roundw
        case rel => exact ⟨i + 1, by go_num, by omega, HO6, HB6⟩
        case measure => simp [intOf]; omega
    · have HALL := Lib.hid (show xs = cellsOf ks by
        rw [HXS.out]
        by_cases h8 : i < 8192
        · exact cellsTo_all HOK.out hi (by rw [← HQ.out, ← HL1.out]; omega)
        · obtain rfl : i = 8192 := by omega
          rfl)
      have HQ2 := Lib.hid (show q = (cellsOf ks).length by rw [HQ.out, ← HXS.out, HALL.out])
      have HO2 := Lib.hid (show wr.ownsRow w.heap.size 3 1 (.slice ro q rc) q ((cellsOf ks).map (Value.int .i64)) by rw [← HALL.out]; exact fv_base hO.out HX.out.size)
      by_cases h8 : i < 8192
      · have h8' : (i : Int) < 8192 := by omega
        have hnq : ¬ (q < n) := by omega
        clear hO hlt
        go_wp2
        go_ret
        refine ⟨⟨ro, rc, by rw [← HQ2.out]; rfl, ?_⟩, HX.out.trans (hB.out.mono HX.out.size)⟩
        rw [← HQ2.out]
        exact HO2.out
      · have h8' : ¬ ((i : Int) < 8192) := by omega
        clear hO hlt
        go_wp2
        go_ret
        refine ⟨⟨ro, rc, by rw [← HQ2.out]; rfl, ?_⟩, HX.out.trans (hB.out.mono HX.out.size)⟩
        rw [← HQ2.out]
        exact HO2.out
end
end Go.Proofs.Ytefmnfplipdnmaa
