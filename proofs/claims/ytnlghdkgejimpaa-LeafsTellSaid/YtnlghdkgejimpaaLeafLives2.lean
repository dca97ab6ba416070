/- bowerlaw11.lives, walked. No condition. -/
import Derived.Test.YtnlghdkgejimpaaLeafLives
namespace Go.Proofs.Ytnlghdkgejimpaa
open Go.RowKit

set_option maxHeartbeats 4000000 in
set_option maxRecDepth 100000 in
theorem lives11_any (w : World) : Calls Try.prog 10 #[] w fun e w' => e = .returned (.bool true) ∧ Below w.heap.size w w' := by
  have HE := Lib.hid (empty_any w)
  go_enter Try.func10, Try.ntmps10
  go_wp2_with fail
  refine HE.out.mono ?_
  rintro e wE ⟨rfl, hbE⟩
  have HBE := Lib.hid hbE
  clear hbE HE
  go_wp2
  go_loopw [13] (fun s wr => ∃ i : Nat, s = .int .i64 i ∧ i ≤ 4 ∧ Hid (LivAt w wE wr i)) (fun s _ => 4 - (intOf s).toNat)
  case atStart => exact ⟨0, rfl, by omega, Lib.hid (livAt_start HBE.out)⟩
  case round =>
    obtain ⟨i, rfl, hi, hT⟩ := hrel
    by_cases hlt : i < 4
    · have hel := hT.out.elem hlt
      obtain ⟨ak, av, ac, ck, cv, cc, hnb, hc⟩ := lwith (i := i) hi (nth kAll i) (by rw [nth_eq hlt]; exact kAll_size _ (List.getElem_mem _)) 1 true (nodI (i + 1)) (by rw [nodI_with i hlt]; rfl) ⟨fun _ => nodI_withP i hlt, fun _ => rfl⟩ hT.out.box
      have HC := Lib.hid (hc wr (Below.refl _ _))
      have HX := Lib.hid (fun m hm w2 ak av ac ck cv cc hb h2 h3 o => hT.out.next (m := m) (w2 := w2) (ak := ak) (av := av) (ac := ac) (ck := ck) (cv := cv) (cc := cc) hm hb h2 h3 o)
      have HNB := Lib.hid hnb
      have HZ := Lib.hid hT.out.z
      obtain ⟨q0, q1, q2, q3, q4, q5, q6, q7⟩ := hnb.cells
      obtain ⟨m, hm⟩ : ∃ m, nodI (i + 1) = m := ⟨_, rfl⟩
      have HM := Lib.hid hm
      rw [hm] at HC
      clear hc hnb hm hT
      generalize nth kAll i = k at *
      go_wp2_with fail
      refine HC.out.mono ?_
      rintro e w2 ⟨ak2, av2, ac2, ck2, cv2, cc2, rfl, hnd, hb2, hfar⟩
      have HY := Lib.hid (HX.out m HM.out w2 ak2 av2 ac2 ck2 cv2 cc2 hb2 hnd hfar)
      have hbox := (HNB.out.below hb2).below (boxed_below w2 (.cells #[.int .i64 m.lv, .string m.lo, .string m.hi, .bool m.la, .int .i64 m.nx, .slice ak2 m.ks.length ck2, .slice av2 m.vs.length cv2, .slice ac2 m.cs.length cc2] 26))
      clear hnd hb2 hfar q0 q1 q2 q3 q4 q5 q6 q7
      obtain ⟨q0, q1, q2, q3, q4, q5, q6, q7⟩ := hbox.cells
      have f0 := hbox.frozen 0
      have f1 := hbox.frozen 1
      have f2 := hbox.frozen 2
      have f3 := hbox.frozen 3
      have f4 := hbox.frozen 4
      have f5 := hbox.frozen 5
      have f6 := hbox.frozen 6
      have f7 := hbox.frozen 7
      clear hbox HX
      go_wp2
      go_roundw
      case rel => exact ⟨i + 1, by go_num, by omega, Lib.hid (HY.out _)⟩
      case measure => simp [intOf]; omega
    · obtain rfl : i = 4 := by omega
      have HBW := Lib.hid hT.out.b
      have HZ := Lib.hid hT.out.z
      obtain ⟨ak, av, ac, ck, cv, cc, hnb, hnd, _⟩ := hT.out.box
      have HC1 := Lib.hid (lwith2 (i := 4) hi ⟨#[101]⟩ (by decide) 1 false .none rfl ⟨fun h => (by cases h), fun h => absurd h nodI_fifth⟩ hnd wr (Below.refl _ _))
      have HC2 := Lib.hid (fun W h => lwith2 (i := 4) hi ⟨#[98]⟩ (by decide) 7 true nod7 (by rw [nodI_b]; rfl) ⟨fun _ => nodI_bP, fun _ => rfl⟩ hnd W h)
      have HNB := Lib.hid hnb
      have HV : Hid (Rd wr (.slice av 4 cv) ((vL 4).map uv)) := Lib.hid hnd.v
      obtain ⟨q0, q1, q2, q3, q4, q5, q6, q7⟩ := hnb.cells
      change wr.cell? ⟨wE.heap.size, 0, none⟩ = some (.int .i64 0) at q0
      change wr.cell? ⟨wE.heap.size, 1, none⟩ = some (.string ⟨#[]⟩) at q1
      change wr.cell? ⟨wE.heap.size, 2, none⟩ = some (.string ⟨#[]⟩) at q2
      change wr.cell? ⟨wE.heap.size, 3, none⟩ = some (.bool true) at q3
      change wr.cell? ⟨wE.heap.size, 4, none⟩ = some (.int .i64 (-1)) at q4
      change wr.cell? ⟨wE.heap.size, 5, none⟩ = some (.slice ak (kL 4).length ck) at q5
      change wr.cell? ⟨wE.heap.size, 6, none⟩ = some (.slice av (vL 4).length cv) at q6
      change wr.cell? ⟨wE.heap.size, 7, none⟩ = some (.slice ac 0 cc) at q7
      have HQ : Hid (∀ W, Below wr.heap.size wr W → W.cell? ⟨wE.heap.size, 0, none⟩ = some (.int .i64 0) ∧ W.cell? ⟨wE.heap.size, 1, none⟩ = some (.string ⟨#[]⟩) ∧ W.cell? ⟨wE.heap.size, 2, none⟩ = some (.string ⟨#[]⟩) ∧ W.cell? ⟨wE.heap.size, 3, none⟩ = some (.bool true) ∧ W.cell? ⟨wE.heap.size, 4, none⟩ = some (.int .i64 (-1)) ∧ W.cell? ⟨wE.heap.size, 5, none⟩ = some (.slice ak 4 ck) ∧ W.cell? ⟨wE.heap.size, 6, none⟩ = some (.slice av 4 cv) ∧ W.cell? ⟨wE.heap.size, 7, none⟩ = some (.slice ac 0 cc)) := Lib.hid (fun W h => by
        have := (HNB.out.below h).cells
        exact this)
      rw [kL4, vL4] at HC1 HC2
      rw [kL4] at q5
      rw [vL4] at q6
      obtain ⟨m0, hm0⟩ : ∃ m0, Nod.none = m0 := ⟨_, rfl⟩
      obtain ⟨m1, hm1⟩ : ∃ m1, nod7 = m1 := ⟨_, rfl⟩
      have HM1 : Hid (m1.vs = [1, 7, 1, 1]) := Lib.hid (by rw [← hm1]; rfl)
      rw [hm0] at HC1
      rw [hm1] at HC2
      clear hnd hnb hT hm0 hm1
      go_wp2_with fail
      refine HC1.out.mono ?_
      rintro e w2 ⟨ak2, av2, ac2, ck2, cv2, cc2, rfl, _, hb2, _⟩
      have HB2 := Lib.hid (hb2.trans ((boxed_below w2 (.cells #[.int .i64 m0.lv, .string m0.lo, .string m0.hi, .bool m0.la, .int .i64 m0.nx, .slice ak2 m0.ks.length ck2, .slice av2 m0.vs.length cv2, .slice ac2 m0.cs.length cc2] 26)).mono hb2.size))
      clear hb2 q0 q1 q2 q3 q4 q5 q6 q7
      obtain ⟨q0, q1, q2, q3, q4, q5, q6, q7⟩ := HQ.out _ HB2.out
      go_wp2_with fail
      refine (HC2.out _ HB2.out).mono ?_
      rintro e w3 ⟨ak3, av3, ac3, ck3, cv3, cc3, rfl, hnd3, hb3, _⟩
      have hl3 : m1.vs.length = 4 := by rw [HM1.out]; rfl
      rw [hl3] at hnd3
      rw [hl3]
      have HB3 := Lib.hid ((HB2.out.trans (hb3.mono HB2.out.size)).trans ((boxed_below w3 (.cells #[.int .i64 m1.lv, .string m1.lo, .string m1.hi, .bool m1.la, .int .i64 m1.nx, .slice ak3 m1.ks.length ck3, .slice av3 4 cv3, .slice ac3 m1.cs.length cc3] 26)).mono (Nat.le_trans HB2.out.size hb3.size)))
      have HV3 := hnd3.v.keep (boxed_below w3 (.cells #[.int .i64 m1.lv, .string m1.lo, .string m1.hi, .bool m1.la, .int .i64 m1.nx, .slice ak3 m1.ks.length ck3, .slice av3 4 cv3, .slice ac3 m1.cs.length cc3] 26))
      obtain ⟨g3, o3, rfl, hcs3⟩ := rd_at HV3 0 1 (by omega)
      have hc3 := hcs3 1 (by omega)
      rw [HM1.out] at hc3
      obtain ⟨g, o, rfl, hcs⟩ := rd_at (HV.out.keep HB3.out) 0 1 (by omega)
      have hc := hcs 1 (by omega)
      clear hl3 hcs hcs3 HV3 hnd3 hb3 q0 q1 q2 q3 q4 q5 q6 q7
      change _ = some (Value.int .u64 7) at hc3
      change _ = some (Value.int .u64 1) at hc
      obtain ⟨q0, q1, q2, q3, q4, q5, q6, q7⟩ := HQ.out _ HB3.out
      have HE3 := Lib.hid (HBW.out.trans (HB3.out.mono HBW.out.size))
      clear HBE
      go_wp2
      go_ret
      exact ⟨rfl, HE3.out⟩
end Go.Proofs.Ytnlghdkgejimpaa
