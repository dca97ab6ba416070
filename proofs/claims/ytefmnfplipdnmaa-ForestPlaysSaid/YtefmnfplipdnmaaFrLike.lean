/- The law ForestPlays: like. Condition: few nodes and spares. -/
import Derived.Test.YtefmnfplipdnmaaFvCells
import Derived.Test.YtefmnfplipdnmaaFrCells
import Derived.Test.YtefmnfplipdnmaaFvTake
import Derived.Test.YtefmnfplipdnmaaHeldTill
import Derived.Test.YtefmnfplipdnmaaLater
import Derived.Deep.QuietTactic
import Derived.BigQuiet
namespace Go.Proofs.Ytefmnfplipdnmaa
open Go.RowKit Go.Maps

/-- A view's cells. -/
def Vw4 (G : Nat) (l s : Value) (k m : Int) (V : World) : Prop := V.cell? ⟨G, 0, none⟩ = some l ∧ V.cell? ⟨G, 1, none⟩ = some s ∧ V.cell? ⟨G, 2, none⟩ = some (.int .i64 k) ∧ V.cell? ⟨G, 3, none⟩ = some (.int .i64 m)
section
variable {P : Value → Value → Value → Kn → Prop} {B A b N : Nat} {sv : Value} {ks : List Kn} {ss : List (Int × Int)} {k m : Int}
set_option maxHeartbeats 4000000 in
set_option maxRecDepth 100000 in
theorem like14_any (so : Option Addr) (sn sc : Nat) (ao : Option Addr) (n c : Nat) (po : Option Addr) (pn pc : Nat) (w : World) (h : FV w B A b (.slice so sn sc) N ks ss k m) (hN : N ≤ 274877906944) (hok : KsOk ks) (hk : KsAt P w (.slice ao n c) ks) (hs : SpAt w (.slice po pn pc) ss) :
    Calls Try.prog 24 #[.pointer (some ⟨A, 0, none⟩), .agg #[.slice ao n c, .slice po pn pc, .int .i64 k, .int .i64 m]] w fun e w' => e = .returned (.bool true) ∧ Below w.heap.size w w' := by
  have hx := boxed_below w (.cells #[.slice ao n c, .slice po pn pc, .int .i64 k, .int .i64 m] 31)
  have n1 := BX.new w 31 #[.slice ao n c, .slice po pn pc, .int .i64 k, .int .i64 m]
  obtain ⟨W1, hW1⟩ : ∃ W, W = w.alloc (.cells #[.slice ao n c, .slice po pn pc, .int .i64 k, .int .i64 m] 31) := ⟨_, rfl⟩
  rw [← hW1] at hx n1
  have hm1 := h.keep hx
  have HX := Lib.hid hx
  have HW := Lib.hid hW1
  have HN1 := Lib.hid n1
  have HM := Lib.hid hm1
  have HL1 := Lib.hid (fun W (hb : Below W1.heap.size W1 W) => cells_fv W (hm1.keep hb) hN hok)
  have HL2 := Lib.hid (fun W (hb : Below W1.heap.size W1 W) => rcells_any ao n c po pn pc k m ks W (hk.keep (hx.trans (hb.mono hx.size))) hok)
  have hpn : pn = sn := hs.len.1.trans hm1.spn.symm
  have HS0 := Lib.hid (show Vw4 w.heap.size (.slice ao n c) (.slice po pn pc) k m W1.drew from ⟨n1.cell 0 rfl, n1.cell 1 rfl, n1.cell 2 rfl, n1.cell 3 rfl⟩)
  have hL : (cellsOf ks).length ≤ 8192 := by
    unfold cellsOf cellsTo
    exact Nat.le_trans (List.length_filter_le _ _) (by simp)
  obtain ⟨xs, hxs⟩ : ∃ xs, xs = cellsOf ks := ⟨_, rfl⟩
  rw [← hxs] at HL1 HL2 hL
  subst hpn
  clear hx n1 hW1 h hm1 hN hok hk hs hxs
  go_enter Try.func24, Try.ntmps24
  go_upto_region 1 with fail
  rw [← HW.out]
  clear HW
  refine wp_region_till (Vw4 w.heap.size (.slice ao n c) (.slice po pn pc) k m) 3 (by rfl) ?_
  refine wpAnyS_take 0 (some 9) [1, 3] rfl rfl (by kernel_rfl) (by kernel_rfl) (by kernel_rfl) (by kernel_rfl) (by kernel_rfl) (by kernel_rfl) (by kernel_rfl) (fun _ _ _ h => h) (by rfl) (by intro V ⟨y0, y1, y2, y3⟩; go_simp; (first | done | (with_reducible rfl))) HS0.out ?_
  simp only [Act.put, List.setIfInBounds_toArray, List.set_cons_zero, List.set_cons_succ]
  refine wpAnyS_take 2 (some 11) [3] rfl rfl (by kernel_rfl) (by kernel_rfl) (by kernel_rfl) (by kernel_rfl) (by kernel_rfl) (by kernel_rfl) (by kernel_rfl) (fun _ _ _ h => h) (by rfl) (by intro V ⟨y0, y1, y2, y3⟩; go_simp; (first | done | (with_reducible rfl))) HS0.out ?_
  simp only [Act.put, List.setIfInBounds_toArray, List.set_cons_zero, List.set_cons_succ]
  refine wpAnyS_ready [1] (by kernel_rfl) (by simp) ?_
  refine AllReadyS.cons rfl (fun K hK => ?_) AllReadyS.nil
  go_simp
  refine (HL1.out _ (Below.refl W1.heap.size W1).drew).mono ?_
  rintro e wa ⟨⟨g, cg, rfl, hown1⟩, hb1⟩
  have HA := Lib.hid ((Below.refl W1.heap.size W1).drew.trans (hb1.mono (Nat.le_refl _)))
  have HO1 := Lib.hid hown1
  clear hown1 hb1
  refine hK.out _ _ (fun _ => ⟨(HN1.out.below HA.out).cell 0 rfl, (HN1.out.below HA.out).cell 1 rfl, (HN1.out.below HA.out).cell 2 rfl, (HN1.out.below HA.out).cell 3 rfl⟩) ?_
  clear hK K
  refine wpAnyS_ready [3] (by kernel_rfl) (by simp) ?_
  refine AllReadyS.cons rfl (fun K hK => ?_) AllReadyS.nil
  go_simp
  refine (HL2.out _ HA.out).mono ?_
  rintro e wb ⟨⟨ro, rc, rfl, hown2⟩, hb2⟩
  have HB := Lib.hid (HA.out.trans (hb2.mono HA.out.size))
  have HO1b := Lib.hid (fv_stays HO1.out hb2)
  have HO2 := Lib.hid hown2
  clear hown2 hb2 HO1
  refine hK.out _ _ (fun h => absurd h (by decide)) ?_
  clear hK K
  refine wpAnyS_ready [4] (by kernel_rfl) (by simp) ?_
  refine AllReadyS.cons rfl (fun K hK => ?_) AllReadyS.nil
  go_simp
  refine hK.out _ _ (fun h => absurd h (by decide)) ?_
  clear hK K
  refine wpAnyS_ready [5] (by kernel_rfl) (by simp) ?_
  refine AllReadyS.cons rfl (fun K hK => ?_) AllReadyS.nil
  go_simp
  refine hK.out _ _ (fun h => absurd h (by decide)) ?_
  clear hK K
  refine wpAnyS_done (by kernel_rfl) ?_ _
  obtain ⟨L, hLe⟩ : ∃ L, L = xs.length := ⟨_, rfl⟩
  rw [← hLe] at HO1b HO2 hL ⊢
  have HLE := Lib.hid hLe
  clear hLe
  have nb := HN1.out.below HB.out
  have c1 : ∀ p : Later wb, p.w.cell? ⟨w.heap.size, 1, none⟩ = some (.slice po pn pc) := fun p => (nb.below p.h).cell 1 rfl
  have c2 : ∀ p : Later wb, p.w.cell? ⟨w.heap.size, 2, none⟩ = some (.int .i64 k) := fun p => (nb.below p.h).cell 2 rfl
  have c3 : ∀ p : Later wb, p.w.cell? ⟨w.heap.size, 3, none⟩ = some (.int .i64 m) := fun p => (nb.below p.h).cell 3 rfl
  have HMB := Lib.hid (HM.out.keep HB.out)
  have HSP := Lib.hid (fun W (h : Below wb.heap.size wb W) => (spares_fv so pn sc W (HMB.out.keep h)).mono (fun e w' ⟨h1, h2⟩ => (⟨h1, by rw [← h2]; exact Below.refl _ _⟩ : e = Ending.returned (.int .i64 (pn : Nat)) ∧ Below W.heap.size W w')))
  have HND := Lib.hid (fun W (h : Below wb.heap.size wb W) => need_fv W (HMB.out.keep h))
  clear nb
  go_upto_region 2 with fail
  refine wp_region_later (by kernel_rfl) (by kernel_rfl) ?_
  repeat (quiet_step (first | (go_at_call 47; (with_reducible exact later_of (HSP.out _ (Later.h _)))) | (go_at_call 36; (with_reducible exact later_of (HND.out _ (Later.h _))))))
  refine wpQuiet_nil ?_
  intro wz hw'
  have hwz : Below wb.heap.size wb wz := by
    obtain ⟨⟨wy, hwy⟩, hw''⟩ := hw'
    rw [hw'']
    exact hwy
  have HBZ : Hid (Below w.heap.size w wz) := Lib.hid (HX.out.trans ((HB.out.trans (hwz.mono HB.out.size)).mono HX.out.size))
  have HO1z := Lib.hid (fv_stays HO1b.out hwz)
  have HO2z := Lib.hid (fv_stays HO2.out hwz)
  clear hw' c1 c2 c3 hwz HSP HND HMB HM HS0 HN1 HL1 HL2 HO1b HO2
  obtain ⟨rg, hrg⟩ : ∃ rg : Nat, ∀ j, j < L → ro = some ⟨rg, 0, none⟩ ∧ wz.cell? ⟨rg, j, none⟩ = some (.int .i64 (xs.getD j 0)) ∧ wz.cell? ⟨g, j, none⟩ = some (.int .i64 (xs.getD j 0)) := by
    have hat : ∀ j, j < L → (xs.map (Value.int .i64))[j]? = some (.int .i64 (xs.getD j 0)) := fun j hj => by
      have : j < xs.length := by rw [← HLE.out]; exact hj
      rw [List.getElem?_map, List.getElem?_eq_getElem this, List.getD_eq_getElem?_getD, List.getElem?_eq_getElem this]
      rfl
    rcases HO2z.out.2 with ⟨e, hz⟩ | ⟨g2, cap, cur, e, _⟩
    · exact ⟨0, fun j hj => by omega⟩
    · injection e with e1 e2 e3
      subst e1
      exact ⟨g2, fun j hj => ⟨rfl, (HO2z.out.cellAt j (by omega)).trans (hat j hj), (HO1z.out.cellAt j (by omega)).trans (hat j hj)⟩⟩
  have HRG := Lib.hid hrg
  clear hrg HO1z HO2z
  go_wp2
  go_loop [35] (fun s => ∃ i : Nat, s = .int .i64 i ∧ i ≤ L) (fun s => L - (intOf s).toNat)
  case atStart => exact ⟨0, rfl, Nat.zero_le _⟩
  case round =>
    obtain ⟨i, rfl, hi⟩ := hrel
    by_cases hlt : i < L
    · obtain ⟨e, h1, h2⟩ := HRG.out i hlt
      subst e
      have hlt' : (i : Int) < L := by omega
      obtain ⟨z, hz⟩ : ∃ z, z = xs.getD i 0 := ⟨_, rfl⟩
      rw [← hz] at h1 h2
      clear hz
      go_wp2
      go_round
      case rel => exact ⟨i + 1, by go_num, by omega⟩
      case measure => simp [intOf]; omega
    · obtain rfl : i = L := by omega
      go_wp2
      go_ret
      exact ⟨rfl, HBZ.out⟩
end
end Go.Proofs.Ytefmnfplipdnmaa
