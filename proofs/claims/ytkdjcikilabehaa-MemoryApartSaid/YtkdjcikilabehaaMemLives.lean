/- Do of a memory in the world, of any access that do does so; bowerlaw26.lives: the chapter's example. -/
import Derived.Test.YtkdjcikilabehaaMemDoC
namespace Go.Proofs.Ytkdjcikilabehaa
open Go.RowKit

theorem all_it (w : World) (p o : Nat) (h : Blk w p 75 #[.pointer (some ⟨o, 0, none⟩)]) : Calls Try.prog 34 #[.pointer (some ⟨p, 0, none⟩)] w fun e w' => e = .returned (.pointer (some ⟨o, 0, none⟩)) ∧ w' = w := by
  have c0 : w.cell? ⟨p, 0, none⟩ = some (.pointer (some ⟨o, 0, none⟩)) := (h.cell 0).trans rfl
  clear h
  go_enter Try.func34, Try.ntmps34
  go_wp2
  go_ret
  exact ⟨rfl, rfl⟩
set_option maxHeartbeats 1000000 in
set_option maxRecDepth 100000 in
theorem mDo_of (p o cb cg bg rg A T : Nat) (l l' : List (Nat × Nat)) (B B' : List Bl) (R R' : List OpV) (acc rv : List Value) (hl : acc.length = 26) (hr : rv.length = 25) (h1 : ∀ v ∈ rv, v.oneCell' = true) (w : World) (h : MemAt w p o cb cg bg rg A T l B R)
    (hd : ∀ W, MemAt W p o cb cg bg rg A T l B R → Calls Try.prog 35 #[.pointer (some ⟨o, 0, none⟩), .agg acc.toArray] W fun e w' => Done W w' e p o cb cg bg rg A T l' B' R' (.agg rv.toArray)) :
    Calls Try.prog 11 #[.pointer (some ⟨p, 0, none⟩), .agg acc.toArray] w fun e w' => Done w w' e p o cb cg bg rg A T l' B' R' (.agg rv.toArray) := by
  have hlt := h.ltA
  obtain ⟨hx1, hx2, hx3⟩ := two_blk w 48 45 acc.toArray #[.bool false, .int .u64 0, .int .u64 0, .int .i64 0, .int .i64 0, .string ⟨#[]⟩, .string ⟨#[]⟩, .bool false, .int .i64 0, .slice none 0 0, .slice none 0 0, .slice none 0 0, .int .i64 0, .int .i64 0, .string ⟨#[]⟩, .int .u64 0, .slice none 0 0, .slice none 0 0, .slice none 0 0, .slice none 0 0, .int .i64 0, .string ⟨#[]⟩, .string ⟨#[]⟩, .int .u64 0, .int .i64 0]
  obtain ⟨W0, hW0⟩ : ∃ W, W = (w.alloc (.cells acc.toArray 48)).alloc (.cells #[.bool false, .int .u64 0, .int .u64 0, .int .i64 0, .int .i64 0, .string ⟨#[]⟩, .string ⟨#[]⟩, .bool false, .int .i64 0, .slice none 0 0, .slice none 0 0, .slice none 0 0, .int .i64 0, .int .i64 0, .string ⟨#[]⟩, .int .u64 0, .slice none 0 0, .slice none 0 0, .slice none 0 0, .slice none 0 0, .int .i64 0, .string ⟨#[]⟩, .string ⟨#[]⟩, .int .u64 0, .int .i64 0] 45) := ⟨_, rfl⟩
  rw [← hW0] at hx1 hx2 hx3
  have HW0 := Lib.hid hW0
  have HX1 := Lib.hid hx1
  have HX2 := Lib.hid hx2
  have HX3 := Lib.hid hx3
  have HM := Lib.hid (h.below hx3)
  have HLT := Lib.hid hlt
  have HD := Lib.hid hd
  have HL := Lib.hid (show acc.length = 26 ∧ rv.length = 25 ∧ ∀ v ∈ rv, v.oneCell' = true from ⟨hl, hr, h1⟩)
  have HS : Hid (∀ V, Below W0.heap.size W0 V → Blk V w.heap.size 48 acc.toArray) := Lib.hid (fun V hb => HX1.out.below hb)
  have HS0 := Lib.hid (HS.out W0.drew (Below.refl _ _).drew)
  clear hW0 hx1 hx2 hx3 h hlt hd hl hr h1
  go_enter Try.func11, Try.ntmps11
  go_upto_region 1 with fail
  rw [← HW0.out]
  clear HW0
  refine wp_region_till (fun V => Blk V w.heap.size 48 acc.toArray) 4 (by rfl) ?_
  refine wpAnyS_take 0 (some 5) [4] rfl rfl (by kernel_rfl) (by kernel_rfl) (by kernel_rfl) (by kernel_rfl) (by kernel_rfl) (by kernel_rfl) (by kernel_rfl) (fun _ _ _ h => h) (by rfl) (by intro V hV9; go_simp; (first | done | (with_reducible rfl))) HS0.out ?_
  simp only [Act.put, List.setIfInBounds_toArray, List.set_cons_zero, List.set_cons_succ]
  refine wpAnyS_take 2 (some 7) [4] rfl rfl (by kernel_rfl) (by kernel_rfl) (by kernel_rfl) (by kernel_rfl) (by kernel_rfl) (by kernel_rfl) (by kernel_rfl) (fun _ _ _ h => h) (by rfl) (fun V hV9 => exec_load_blk 48 (.tmp 3) rfl w.heap.size 48 acc _ rfl hV9 Try.underlying48 rfl (by rw [szAccess, HL.out.1])) HS0.out ?_
  simp only [Act.put, List.setIfInBounds_toArray, List.set_cons_zero, List.set_cons_succ]
  refine wpAnyS_ready [1] (by kernel_rfl) (by simp) ?_
  refine AllReadyS.cons rfl (fun K9 hK => ?_) AllReadyS.nil
  go_simp
  go_at_call 34
  refine (all_it W0.drew p o (HM.out.below (Below.refl _ _).drew).p).mono ?_
  rintro e w2 ⟨rfl, hw2⟩
  subst hw2
  refine hK.out _ _ (fun _ => HS0.out) ?_
  clear hK K9
  refine wpAnyS_ready [3] (by kernel_rfl) (by simp) ?_
  refine AllReadyS.cons rfl (fun K9 hK => ?_) AllReadyS.nil
  go_simp
  go_at_call 35
  refine (HD.out _ (HM.out.below (Below.refl _ _).drew)).mono ?_
  rintro e w3 ⟨rfl, hm3, hk3⟩
  have HK3 := Lib.hid (Keep.under (Below.refl _ _).drew hk3)
  have HM3 := Lib.hid hm3
  have HXR := Lib.hid (HX2.out.keep HK3.out (by have := HLT.out; omega))
  have HS3 := Lib.hid (HX1.out.keep HK3.out (by have := HLT.out; omega))
  clear hm3 hk3
  refine hK.out _ _ (fun _ => HS3.out) ?_
  clear hK K9
  refine wpAnyS_ready [4] (by kernel_rfl) (by simp) ?_
  refine AllReadyS.cons rfl (fun K9 hK => ?_) AllReadyS.nil
  refine step_store_blk rfl 45 (.tmp 4) (.tmp 8) rfl (w.heap.size + 1) 45 _ rv rfl rfl HXR.out (by rw [HL.out.2.1]; rfl) (by rw [szReply, HL.out.2.1]) HL.out.2.2 ?_
  intro W hW1 hW2
  refine hK.out _ _ (fun h => absurd h (by decide)) ?_
  clear hK K9
  refine wpAnyS_done (by kernel_rfl) ?_ _
  go_wp2
  refine bodyPost_ret (ret_reply rfl rfl hW1.out HL.out.2.1) rfl ?_
  have hlt := HLT.out
  exact ⟨rfl, HM3.out.own hW2.out (by omega) (by omega) (by omega) (by omega) (by omega) (by omega), Keep.own3 (Keep.under HX3.out HK3.out) hW2.out (Nat.le_succ _)⟩
def acL (k at_ : Int) (ver word : Nat) : List Value := [.int .i64 k, .int .i64 at_, .int .u64 ver, .int .u64 word, .int .i64 0, .int .i64 0, .string ⟨#[]⟩, .string ⟨#[]⟩, .bool false, .int .i64 0, .slice none 0 0, .slice none 0 0, .slice none 0 0, .int .i64 0, .int .i64 0, .string ⟨#[]⟩, .int .u64 0, .slice none 0 0, .slice none 0 0, .slice none 0 0, .slice none 0 0, .int .i64 0, .string ⟨#[]⟩, .string ⟨#[]⟩, .int .u64 0, .int .i64 0]
def rpL (ok : Bool) (word ver : Nat) : List Value := [.bool ok, .int .u64 word, .int .u64 ver, .int .i64 0, .int .i64 0, .string ⟨#[]⟩, .string ⟨#[]⟩, .bool false, .int .i64 0, .slice none 0 0, .slice none 0 0, .slice none 0 0, .int .i64 0, .int .i64 0, .string ⟨#[]⟩, .int .u64 0, .slice none 0 0, .slice none 0 0, .slice none 0 0, .slice none 0 0, .int .i64 0, .string ⟨#[]⟩, .string ⟨#[]⟩, .int .u64 0, .int .i64 0]
theorem rp_one (ok : Bool) (word ver : Nat) : ∀ v ∈ rpL ok word ver, v.oneCell' = true := by simp [rpL, Value.oneCell']
section
variable (p o cb cg bg rg A T : Nat) (l : List (Nat × Nat)) (B : List Bl) (R : List OpV) (w : World)
theorem live_cas (j ver word : Nat) (hj : j < l.length) (hw : word < 18446744073709551616) (hv : vr l j = ver) (h : MemAt w p o cb cg bg rg A T l B R) :
    Calls Try.prog 11 #[.pointer (some ⟨p, 0, none⟩), .agg (acL 3 (j : Nat) ver word).toArray] w fun e w' => Done w w' e p o cb cg bg rg A T (l.set j (word, ver1 ver)) (usedB A B j) R (.agg (rpL true 0 0).toArray) := by
  refine mDo_of p o cb cg bg rg A T l _ B _ R _ (acL 3 (j : Nat) ver word) (rpL true 0 0) rfl rfl (rp_one _ _ _) w h (fun W hW => ?_)
  have h2 := do_cas p o cb cg bg rg A T l B R ⟨3, (j : Nat), ver, word, .zero, .zero⟩ j hj hw W hW
  rw [hv] at h2
  exact h2
theorem live_no (j ver word : Nat) (hj : j < l.length) (hv : vr l j ≠ ver) (h : MemAt w p o cb cg bg rg A T l B R) :
    Calls Try.prog 11 #[.pointer (some ⟨p, 0, none⟩), .agg (acL 3 (j : Nat) ver word).toArray] w fun e w' => Done w w' e p o cb cg bg rg A T l B R (.agg (rpL false 0 0).toArray) := by
  refine mDo_of p o cb cg bg rg A T l _ B _ R _ (acL 3 (j : Nat) ver word) (rpL false 0 0) rfl rfl (rp_one _ _ _) w h (fun W hW => ?_)
  exact do_cas_no p o cb cg bg rg A T l B R ⟨3, (j : Nat), ver, word, .zero, .zero⟩ (fun V hV => cas_no cb cg l j ver word V hV hj hv) W hW
theorem live_load (i : Int) (h : MemAt w p o cb cg bg rg A T l B R) :
    Calls Try.prog 11 #[.pointer (some ⟨p, 0, none⟩), .agg (acL 1 i 0 0).toArray] w fun e w' => Done w w' e p o cb cg bg rg A T l B R (.agg (rpL (ldB l i) (ldW l i) (ldR l i)).toArray) := by
  refine mDo_of p o cb cg bg rg A T l _ B _ R _ (acL 1 i 0 0) (rpL (ldB l i) (ldW l i) (ldR l i)) rfl rfl (rp_one _ _ _) w h (fun W hW => ?_)
  exact do_load p o cb cg bg rg A T l B R ⟨1, i, 0, 0, .zero, .zero⟩ W hW
end
theorem fld1 (ok : Bool) (word ver : Nat) (w : World) : (Instr.field 45 (.agg #[.bool ok, .int .u64 (word : Nat), .int .u64 (ver : Nat), .int .i64 0, .int .i64 0, .string ⟨#[]⟩, .string ⟨#[]⟩, .bool false, .int .i64 0, .slice none 0 0, .slice none 0 0, .slice none 0 0, .int .i64 0, .int .i64 0, .string ⟨#[]⟩, .int .u64 0, .slice none 0 0, .slice none 0 0, .slice none 0 0, .slice none 0 0, .int .i64 0, .string ⟨#[]⟩, .string ⟨#[]⟩, .int .u64 0, .int .i64 0]) 1).run Try.prog w = .ok (.int .u64 (word : Nat)) w := by kernel_rfl
theorem liv_l : (ofC (wordsL 4 2 0)).length = 19 ∧ vr (ofC (wordsL 4 2 0)) 18 = 0 := by decide
set_option maxHeartbeats 2000000 in
set_option maxRecDepth 100000 in
theorem lives26 (w : World) : Calls Try.prog 8 #[] w fun e w' => e = .returned (.bool true) ∧ Below w.heap.size w w' := by
  have HN := Lib.hid (new_any26 4 2 0 (by decide) (by decide) (by decide) (by decide) (by decide) w)
  go_enter Try.func8, Try.ntmps8
  go_wp2_with fail
  refine HN.out.mono ?_
  rintro e w1 ⟨p, o, cb, cg, bg, rg, rfl, hm, hb, h1, h2, h3⟩
  obtain ⟨l0, hl0⟩ : ∃ l, l = ofC (wordsL 4 2 0) := ⟨_, rfl⟩
  rw [← hl0] at hm
  have HV := Lib.hid (show l0.length = 19 ∧ vr l0 18 = 0 from by rw [hl0]; exact liv_l)
  have HG := Lib.hid (show ∀ W, Below w1.heap.size w1 W → Calls Try.prog 16 #[.pointer (some ⟨p, 0, none⟩)] W fun e w' => e = .returned (.int .i64 18) ∧ Below W.heap.size W w' from fun W hW => mGate_any _ _ _ _ 4 2 W (hm.mem.below hW))
  have HM := Lib.hid hm
  have HB := Lib.hid hb
  have HQ := Lib.hid (show w.heap.size ≤ cg ∧ w.heap.size ≤ bg ∧ w.heap.size ≤ rg from ⟨h1, h2, h3⟩)
  clear hm hb h1 h2 h3 hl0 HN
  go_wp2_with fail
  refine (HG.out _ (Below.refl _ _)).mono ?_
  rintro e w2 ⟨rfl, hb2⟩
  have HC := Lib.hid (show Calls Try.prog 11 #[.pointer (some ⟨p, 0, none⟩), .agg #[.int .i64 3, .int .i64 18, .int .u64 0, .int .u64 5, .int .i64 0, .int .i64 0, .string ⟨#[]⟩, .string ⟨#[]⟩, .bool false, .int .i64 0, .slice none 0 0, .slice none 0 0, .slice none 0 0, .int .i64 0, .int .i64 0, .string ⟨#[]⟩, .int .u64 0, .slice none 0 0, .slice none 0 0, .slice none 0 0, .slice none 0 0, .int .i64 0, .string ⟨#[]⟩, .string ⟨#[]⟩, .int .u64 0, .int .i64 0]] w2 fun e w' => Done w2 w' e p o cb cg bg rg 4 2 (l0.set 18 (5, ver1 0)) (usedB 4 _ 18) _ (.agg #[.bool true, .int .u64 0, .int .u64 0, .int .i64 0, .int .i64 0, .string ⟨#[]⟩, .string ⟨#[]⟩, .bool false, .int .i64 0, .slice none 0 0, .slice none 0 0, .slice none 0 0, .int .i64 0, .int .i64 0, .string ⟨#[]⟩, .int .u64 0, .slice none 0 0, .slice none 0 0, .slice none 0 0, .slice none 0 0, .int .i64 0, .string ⟨#[]⟩, .string ⟨#[]⟩, .int .u64 0, .int .i64 0]) from live_cas p o cb cg bg rg 4 2 l0 _ _ w2 18 0 5 (by rw [HV.out.1]; decide) (by decide) HV.out.2 (HM.out.below hb2))
  have HB2 := Lib.hid hb2
  clear hb2
  go_wp2_with fail
  refine HC.out.mono ?_
  rintro e w3 ⟨rfl, hm3, hk3⟩
  have hk3' := Keep.under HB2.out hk3
  have HNB := Lib.hid (Blk.new w3 45 #[.bool false, .int .u64 0, .int .u64 0, .int .i64 0, .int .i64 0, .string ⟨#[]⟩, .string ⟨#[]⟩, .bool false, .int .i64 0, .slice none 0 0, .slice none 0 0, .slice none 0 0, .int .i64 0, .int .i64 0, .string ⟨#[]⟩, .int .u64 0, .slice none 0 0, .slice none 0 0, .slice none 0 0, .slice none 0 0, .int .i64 0, .string ⟨#[]⟩, .string ⟨#[]⟩, .int .u64 0, .int .i64 0])
  have hal := (one_alloc w3 (.cells #[.bool false, .int .u64 0, .int .u64 0, .int .i64 0, .int .i64 0, .string ⟨#[]⟩, .string ⟨#[]⟩, .bool false, .int .i64 0, .slice none 0 0, .slice none 0 0, .slice none 0 0, .int .i64 0, .int .i64 0, .string ⟨#[]⟩, .int .u64 0, .slice none 0 0, .slice none 0 0, .slice none 0 0, .slice none 0 0, .int .i64 0, .string ⟨#[]⟩, .string ⟨#[]⟩, .int .u64 0, .int .i64 0] 45)).2
  have HM3 := Lib.hid (hm3.below hal)
  have HK3 := Lib.hid (hk3'.trans (Keep.of_below hal (fun k => k = cg ∨ k = bg ∨ k = rg)) (fun _ _ e => e))
  have HLT3 := Lib.hid (show w1.heap.size ≤ w3.heap.size from hk3'.size)
  have HL3 := Lib.hid hm3.ltA
  clear hm3 hk3 hk3' hal HC HB2
  go_upto_region 3 with (refine wpList_store_blk rfl 45 _ _ rfl w3.heap.size 45 _ [.bool true, .int .u64 0, .int .u64 0, .int .i64 0, .int .i64 0, .string ⟨#[]⟩, .string ⟨#[]⟩, .bool false, .int .i64 0, .slice none 0 0, .slice none 0 0, .slice none 0 0, .int .i64 0, .int .i64 0, .string ⟨#[]⟩, .int .u64 0, .slice none 0 0, .slice none 0 0, .slice none 0 0, .slice none 0 0, .int .i64 0, .string ⟨#[]⟩, .string ⟨#[]⟩, .int .u64 0, .int .i64 0] rfl rfl HNB.out rfl szReply (by simp [Value.oneCell']) ?_; intro W hA1 hA2)
  have hlt := HL3.out
  have HM4 := Lib.hid (HM3.out.own hA2.out (by omega) (by omega) (by omega) (by omega) (by omega) (by omega))
  have HK4 := Lib.hid (Keep.own3 HK3.out hA2.out HLT3.out)
  obtain ⟨A2, hA2e⟩ : ∃ A2, A2 = w3.heap.size := ⟨_, rfl⟩
  rw [← hA2e] at hA1 ⊢
  have HA2 := Lib.hid (show w1.heap.size ≤ A2 from by rw [hA2e]; exact HLT3.out)
  have HA2L := Lib.hid (show A2 ≠ cg ∧ A2 ≠ bg ∧ A2 ≠ rg from by rw [hA2e]; omega)
  have HX2 := hA1
  clear hA1 hA2 hA2e hlt HM3 HK3 HLT3 HL3 HNB
  obtain ⟨wA, rfl⟩ : ∃ wA : World, wA = W := ⟨_, rfl⟩
  go_wp2_with fail
  refine (mGate_any _ _ _ _ 4 2 wA HM4.out.mem).mono ?_
  rintro e w5 ⟨rfl, hb5⟩
  have HC := Lib.hid (show Calls Try.prog 11 #[.pointer (some ⟨p, 0, none⟩), .agg #[.int .i64 3, .int .i64 18, .int .u64 0, .int .u64 6, .int .i64 0, .int .i64 0, .string ⟨#[]⟩, .string ⟨#[]⟩, .bool false, .int .i64 0, .slice none 0 0, .slice none 0 0, .slice none 0 0, .int .i64 0, .int .i64 0, .string ⟨#[]⟩, .int .u64 0, .slice none 0 0, .slice none 0 0, .slice none 0 0, .slice none 0 0, .int .i64 0, .string ⟨#[]⟩, .string ⟨#[]⟩, .int .u64 0, .int .i64 0]] w5 fun e w' => Done w5 w' e p o cb cg bg rg 4 2 (l0.set 18 (5, ver1 0)) (usedB 4 _ 18) _ (.agg #[.bool false, .int .u64 0, .int .u64 0, .int .i64 0, .int .i64 0, .string ⟨#[]⟩, .string ⟨#[]⟩, .bool false, .int .i64 0, .slice none 0 0, .slice none 0 0, .slice none 0 0, .int .i64 0, .int .i64 0, .string ⟨#[]⟩, .int .u64 0, .slice none 0 0, .slice none 0 0, .slice none 0 0, .slice none 0 0, .int .i64 0, .string ⟨#[]⟩, .string ⟨#[]⟩, .int .u64 0, .int .i64 0]) from live_no p o cb cg bg rg 4 2 (l0.set 18 (5, ver1 0)) _ _ w5 18 0 6 (by rw [List.length_set, HV.out.1]; decide) (by
    unfold vr
    rw [List.getD_eq_getElem?_getD, List.getElem?_set_self (by rw [HV.out.1]; decide)]
    decide) (HM4.out.below hb5))
  have HB5 := Lib.hid hb5
  clear hb5
  go_wp2_with fail
  refine HC.out.mono ?_
  rintro e w6 ⟨rfl, hm6, hk6⟩
  have hk6' := Keep.under HB5.out hk6
  have HNB := Lib.hid (Blk.new w6 45 #[.bool false, .int .u64 0, .int .u64 0, .int .i64 0, .int .i64 0, .string ⟨#[]⟩, .string ⟨#[]⟩, .bool false, .int .i64 0, .slice none 0 0, .slice none 0 0, .slice none 0 0, .int .i64 0, .int .i64 0, .string ⟨#[]⟩, .int .u64 0, .slice none 0 0, .slice none 0 0, .slice none 0 0, .slice none 0 0, .int .i64 0, .string ⟨#[]⟩, .string ⟨#[]⟩, .int .u64 0, .int .i64 0])
  have hal := (one_alloc w6 (.cells #[.bool false, .int .u64 0, .int .u64 0, .int .i64 0, .int .i64 0, .string ⟨#[]⟩, .string ⟨#[]⟩, .bool false, .int .i64 0, .slice none 0 0, .slice none 0 0, .slice none 0 0, .int .i64 0, .int .i64 0, .string ⟨#[]⟩, .int .u64 0, .slice none 0 0, .slice none 0 0, .slice none 0 0, .slice none 0 0, .int .i64 0, .string ⟨#[]⟩, .string ⟨#[]⟩, .int .u64 0, .int .i64 0] 45)).2
  have HM6 := Lib.hid (hm6.below hal)
  have hka := hk6'.trans (Keep.of_below hal (fun k => k = cg ∨ k = bg ∨ k = rg)) (fun _ _ e => e)
  have HK6 := Lib.hid (HK4.out.trans hka (fun _ _ e => e))
  have HX6 := Lib.hid (HX2.out.keep hka (by have := HA2L.out; omega))
  have HLT6 := Lib.hid (show w1.heap.size ≤ w6.heap.size from Nat.le_trans HK4.out.size hk6'.size)
  have HA6 := Lib.hid (show A2 ≠ w6.heap.size from by have := (HX2.out.keep hk6' (by have := HA2L.out; omega)).lt; omega)
  have HL6 := Lib.hid hm6.ltA
  clear hm6 hk6 hk6' hal hka HC HB5 HM4 HK4
  go_upto_region 4 with (refine wpList_store_blk rfl 45 _ _ rfl w6.heap.size 45 _ [.bool false, .int .u64 0, .int .u64 0, .int .i64 0, .int .i64 0, .string ⟨#[]⟩, .string ⟨#[]⟩, .bool false, .int .i64 0, .slice none 0 0, .slice none 0 0, .slice none 0 0, .int .i64 0, .int .i64 0, .string ⟨#[]⟩, .int .u64 0, .slice none 0 0, .slice none 0 0, .slice none 0 0, .slice none 0 0, .int .i64 0, .string ⟨#[]⟩, .string ⟨#[]⟩, .int .u64 0, .int .i64 0] rfl rfl HNB.out rfl szReply (by simp [Value.oneCell']) ?_; intro W hB1 hB2)
  have hlt := HL6.out
  have HM7 := Lib.hid (HM6.out.own hB2.out (by omega) (by omega) (by omega) (by omega) (by omega) (by omega))
  have HK7 := Lib.hid (Keep.own3 HK6.out hB2.out HLT6.out)
  have HX7 := Lib.hid (HX6.out.keep hB2.out HA6.out)
  obtain ⟨A3, hA3e⟩ : ∃ A3, A3 = w6.heap.size := ⟨_, rfl⟩
  rw [← hA3e] at hB1 ⊢
  have HA3L := Lib.hid (show A3 ≠ cg ∧ A3 ≠ bg ∧ A3 ≠ rg from by rw [hA3e]; omega)
  have HY7 := hB1
  clear hB1 hB2 hA3e hlt HM6 HK6 HLT6 HL6 HNB HX6 HX2 HA6
  obtain ⟨wB, rfl⟩ : ∃ wB : World, wB = W := ⟨_, rfl⟩
  have HLEN := Lib.hid (mLen_any (.pointer (some ⟨p, 0, none⟩)) _ _ _ 4 2 19 wB HM7.out.mem (fun V hV => by
    have h2 := cLen_any cb cg _ V (HM7.out.below hV).c
    rw [List.length_set, HV.out.1] at h2
    exact h2))
  go_wp2_with fail
  refine HLEN.out.mono ?_
  rintro e w8 ⟨rfl, hb8⟩
  have HB8 := Lib.hid hb8
  clear hb8 HLEN
  go_wp2_with fail
  refine (mGate_any _ _ _ _ 4 2 w8 (HM7.out.below HB8.out).mem).mono ?_
  rintro e w9 ⟨rfl, hb9⟩
  have HB9 := Lib.hid (HB8.out.trans (hb9.mono HB8.out.size))
  clear hb9 HB8
  have x0 : w9.cell? ⟨A2, 0, none⟩ = some (.bool true) := ((HX7.out.below HB9.out).cell 0).trans rfl
  have y0 : w9.cell? ⟨A3, 0, none⟩ = some (.bool false) := ((HY7.out.below HB9.out).cell 0).trans rfl
  have HLD := Lib.hid (show Calls Try.prog 11 #[.pointer (some ⟨p, 0, none⟩), .agg #[.int .i64 1, .int .i64 18, .int .u64 0, .int .u64 0, .int .i64 0, .int .i64 0, .string ⟨#[]⟩, .string ⟨#[]⟩, .bool false, .int .i64 0, .slice none 0 0, .slice none 0 0, .slice none 0 0, .int .i64 0, .int .i64 0, .string ⟨#[]⟩, .int .u64 0, .slice none 0 0, .slice none 0 0, .slice none 0 0, .slice none 0 0, .int .i64 0, .string ⟨#[]⟩, .string ⟨#[]⟩, .int .u64 0, .int .i64 0]] w9 fun e w' => Done w9 w' e p o cb cg bg rg 4 2 (l0.set 18 (5, ver1 0)) (usedB 4 _ 18) _ (.agg #[.bool true, .int .u64 5, .int .u64 (ver1 0 : Nat), .int .i64 0, .int .i64 0, .string ⟨#[]⟩, .string ⟨#[]⟩, .bool false, .int .i64 0, .slice none 0 0, .slice none 0 0, .slice none 0 0, .int .i64 0, .int .i64 0, .string ⟨#[]⟩, .int .u64 0, .slice none 0 0, .slice none 0 0, .slice none 0 0, .slice none 0 0, .int .i64 0, .string ⟨#[]⟩, .string ⟨#[]⟩, .int .u64 0, .int .i64 0]) from by
    have h2 := live_load p o cb cg bg rg 4 2 (l0.set 18 (5, ver1 0)) _ _ w9 18 (HM7.out.below HB9.out)
    have hin : (0 : Int) ≤ 18 ∧ (18 : Int) < ((l0.set 18 (5, ver1 0)).length : Int) := by rw [List.length_set, HV.out.1]; decide
    have hg : (l0.set 18 (5, ver1 0)).getD 18 (0, 0) = (5, ver1 0) := by rw [List.getD_eq_getElem?_getD, List.getElem?_set_self (by rw [HV.out.1]; decide)]; rfl
    have q1 : ldB (l0.set 18 (5, ver1 0)) 18 = true := by unfold ldB; rw [decide_eq_true_iff]; exact hin
    have q2 : ldW (l0.set 18 (5, ver1 0)) 18 = 5 := by unfold ldW; rw [if_pos hin]; exact congrArg Prod.fst hg
    have q3 : ldR (l0.set 18 (5, ver1 0)) 18 = ver1 0 := by unfold ldR; rw [if_pos hin]; exact congrArg Prod.snd hg
    rw [q1, q2, q3] at h2
    exact h2)
  go_wp2_with fail
  refine HLD.out.mono ?_
  rintro e wF ⟨rfl, hmF, hkF⟩
  have HKF := Lib.hid (HK7.out.trans (Keep.under HB9.out hkF) (fun _ _ e => e))
  clear hmF hkF HLD
  have hfd := fld1 true 5 (ver1 0) wF
  rw [show ((5 : Nat) : Int) = 5 from rfl] at hfd
  go_wp2
  go_ret
  refine ⟨rfl, HB.out.trans (HKF.out.below HB.out.size (fun k e => ?_))⟩
  have := HQ.out
  rcases e with rfl | rfl | rfl <;> omega
end Go.Proofs.Ytkdjcikilabehaa
