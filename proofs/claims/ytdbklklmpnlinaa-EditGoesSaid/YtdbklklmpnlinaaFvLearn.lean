/- A view that a call made: Learn. Condition: rows of at most 2^38 elements. -/
import Derived.Test.YtdbklklmpnlinaaFvMade
import Derived.Test.YtdbklklmpnlinaaFvClone
import Derived.Test.YtdbklklmpnlinaaHeldTill
import Derived.Deep.QuietTactic
import Derived.BigQuiet
namespace Go.Proofs.Ytdbklklmpnlinaa
open Go.RowKit Go.Maps

section
variable {B A b N : Nat} {sv : Value} {ks : List Kn} {ss : List (Int × Int)} {k m : Int}
theorem Turn.through {S T : Nat → Prop} {a w w' : World} (h : Turn S a w) (ht : Turn T w w') (hn : ∀ j, T j → a.heap.size ≤ j) : Turn S a w' :=
  ⟨ht.os.trans h.os, ht.tape.trans h.tape, ht.output.trans h.output, Nat.le_trans h.size ht.size, fun k hk hs => (ht.block k (Nat.lt_of_lt_of_le hk h.size) (fun e => by have := hn k e; omega)).trans (h.block k hk hs)⟩
/-- The three rows of a known's box, as they came. -/
def Rows3 (g : Nat) (kv vv cv : Value) (V : World) : Prop := V.cell? ⟨g, 8, none⟩ = some kv ∧ V.cell? ⟨g, 9, none⟩ = some vv ∧ V.cell? ⟨g, 10, none⟩ = some cv
theorem wpAnyS_weak {P : Program} {ops : Array Oper} {Q : Exit → Act → World → Prop} {md : Region.Mode} {S : World → Prop} {s s' : Nat} : ∀ (fuel : Nat) (listed : Array Bool) (a : Act) (w : World), wpAnyS P md ops Q S s fuel listed a w → wpAnyS P md ops Q (fun _ => True) s' fuel listed a w
  | 0, _, _, _, h => h
  | fuel + 1, _, _, _, h => ⟨h.1, fun i hi => wpOp_mono (fun a' w' h' => ⟨fun _ => trivial, wpAnyS_weak fuel _ a' w' h'.2⟩) (h.2 i hi)⟩
set_option maxHeartbeats 4000000 in
set_option maxRecDepth 100000 in
theorem learn_fv (kn : Kn) (v : Value) (w : World) (ha : (Lit.int .i64 kn.c).wf = true) (hcell : cellB kn.c = true) (hN : N < 1099511627776) (h : FV w B A b sv N ks ss k m) (hv : KnV w v kn) (hn : kn.n.ks.length ≤ 274877906944 ∧ kn.n.vs.length ≤ 274877906944 ∧ kn.n.cs.length ≤ 274877906944) :
    Calls Try.prog 70 #[.pointer (some ⟨A, 0, none⟩), v] w fun e w' => e = .returned (.bool true) ∧ FV w' B A b sv (N + 1) (kdrop ks kn.c ++ [kn]) ss k m ∧ Turn (VS A b sv) w w' := by
  obtain ⟨ak, av, ac, ck, cv, cc, rfl, hNd⟩ := hv
  unfold Kn.val
  have hx := boxed_below w (.cells #[.int .i64 kn.c, .int .u64 kn.wd, .int .u64 kn.vr, .int .i64 kn.n.lv, .string kn.n.lo, .string kn.n.hi, .bool kn.n.la, .int .i64 kn.n.nx, .slice ak kn.n.ks.length ck, .slice av kn.n.vs.length cv, .slice ac kn.n.cs.length cc] 43)
  have n1 := BX.new w 43 #[.int .i64 kn.c, .int .u64 kn.wd, .int .u64 kn.vr, .int .i64 kn.n.lv, .string kn.n.lo, .string kn.n.hi, .bool kn.n.la, .int .i64 kn.n.nx, .slice ak kn.n.ks.length ck, .slice av kn.n.vs.length cv, .slice ac kn.n.cs.length cc]
  obtain ⟨W1, hW1⟩ : ∃ W, W = w.alloc (.cells #[.int .i64 kn.c, .int .u64 kn.wd, .int .u64 kn.vr, .int .i64 kn.n.lv, .string kn.n.lo, .string kn.n.hi, .bool kn.n.la, .int .i64 kn.n.nx, .slice ak kn.n.ks.length ck, .slice av kn.n.vs.length cv, .slice ac kn.n.cs.length cc] 43) := ⟨_, rfl⟩
  rw [← hW1] at hx n1
  have hm1 := h.keep hx
  have HI := Lib.hid (isMade_yes A b _ k m _ hm1.view)
  have HCE := Lib.hid (fun W => fcell_any kn.c W)
  rw [hcell] at HCE
  have HC1 := Lib.hid (fun W (hb : Below W1.heap.size W1 W) => cloneStr_of ak _ ck kn.n.ks W ((hNd.k.keep hx).keep hb) hn.1)
  have HC2 := Lib.hid (fun W (hb : Below W1.heap.size W1 W) => cloneU64_of av _ cv kn.n.vs W ((hNd.v.keep hx).keep hb) hn.2.1)
  have HC3 := Lib.hid (fun W (hb : Below W1.heap.size W1 W) => cloneInt_of ac _ cc kn.n.cs W ((hNd.c.keep hx).keep hb) hn.2.2)
  have HM := Lib.hid hm1
  have HX := Lib.hid (Turn.of (S := VS A b sv) hx)
  have HN1 := Lib.hid n1
  have HW := Lib.hid hW1
  have HG := Lib.hid (not_vs h (Nat.le_refl _))
  have HR := Lib.hid (show Rows3 w.heap.size (.slice ak kn.n.ks.length ck) (.slice av kn.n.vs.length cv) (.slice ac kn.n.cs.length cc) W1.drew from ⟨n1.cell 8 rfl, n1.cell 9 rfl, n1.cell 10 rfl⟩)
  have HP := Lib.hid (show N < 1099511627776 ∧ (Lit.int .i64 kn.c).wf = true from ⟨hN, ha⟩)
  have k0 : W1.cell? ⟨w.heap.size, 0, none⟩ = some (.int .i64 kn.c) := n1.cell 0 rfl
  clear hx hm1 h hN ha n1 hW1 hcell hNd hn
  go_enter Try.func70, Try.ntmps70
  go_upto_region 1 with fail
  rw [← HW.out]
  clear HW
  go_wp2_with fail
  refine HI.out.mono ?_
  rintro e w3 ⟨rfl, h3⟩
  rw [← h3]
  clear h3
  go_wp2_with fail
  refine (HCE.out _).mono ?_
  rintro e w4 ⟨rfl, h4⟩
  rw [← h4]
  clear h4
  go_upto_region 4 with fail
  go_cut [] (fun wx => Hid (∃ kv vv cw : Value, BX wx w.heap.size 43 #[.int .i64 kn.c, .int .u64 kn.wd, .int .u64 kn.vr, .int .i64 kn.n.lv, .string kn.n.lo, .string kn.n.hi, .bool kn.n.la, .int .i64 kn.n.nx, kv, vv, cw] ∧ KnO wx W1.heap.size (kn.val kv vv cw) kn ∧ Turn (fun g => g = w.heap.size) W1 wx))
  case first =>
    refine wp_region_till (fun _ => True) 26 (by rfl) ?_
    refine wpAnyS_take 0 (some 16) [26] rfl rfl (by kernel_rfl) (by kernel_rfl) (by kernel_rfl) (by kernel_rfl) (by kernel_rfl) (by kernel_rfl) (by kernel_rfl) (fun _ _ _ h => h) (by rfl) (by intro V _; go_simp; (first | done | (with_reducible rfl))) trivial ?_
    simp only [Act.put, List.setIfInBounds_toArray, List.set_cons_zero, List.set_cons_succ]
    refine wpAnyS_take 1 (some 17) [26] rfl rfl (by kernel_rfl) (by kernel_rfl) (by kernel_rfl) (by kernel_rfl) (by kernel_rfl) (by kernel_rfl) (by kernel_rfl) (fun _ _ _ h => h) (by rfl) (by intro V _; go_simp; (first | done | (with_reducible rfl))) trivial ?_
    simp only [Act.put, List.setIfInBounds_toArray, List.set_cons_zero, List.set_cons_succ]
    refine wpAnyS_take 2 (some 18) [26] rfl rfl (by kernel_rfl) (by kernel_rfl) (by kernel_rfl) (by kernel_rfl) (by kernel_rfl) (by kernel_rfl) (by kernel_rfl) (fun _ _ _ h => h) (by rfl) (by intro V _; go_simp; (first | done | (with_reducible rfl))) trivial ?_
    simp only [Act.put, List.setIfInBounds_toArray, List.set_cons_zero, List.set_cons_succ]
    refine wpAnyS_weak (S := Rows3 w.heap.size (.slice ak kn.n.ks.length ck) (.slice av kn.n.vs.length cv) (.slice ac kn.n.cs.length cc)) (s := 20) _ _ _ _ ?_
    refine wpAnyS_take 3 (some 19) [20] rfl rfl (by kernel_rfl) (by kernel_rfl) (by kernel_rfl) (by kernel_rfl) (by kernel_rfl) (by kernel_rfl) (by kernel_rfl) (fun _ _ _ h => h) (by rfl) (by intro V ⟨y1, y2, y3⟩; go_simp; (first | done | (with_reducible rfl))) HR.out ?_
    simp only [Act.put, List.setIfInBounds_toArray, List.set_cons_zero, List.set_cons_succ]
    refine wpAnyS_take 4 (some 20) [20] rfl rfl (by kernel_rfl) (by kernel_rfl) (by kernel_rfl) (by kernel_rfl) (by kernel_rfl) (by kernel_rfl) (by kernel_rfl) (fun _ _ _ h => h) (by rfl) (by intro V ⟨y1, y2, y3⟩; go_simp; (first | done | (with_reducible rfl))) HR.out ?_
    simp only [Act.put, List.setIfInBounds_toArray, List.set_cons_zero, List.set_cons_succ]
    refine wpAnyS_take 5 (some 21) [20] rfl rfl (by kernel_rfl) (by kernel_rfl) (by kernel_rfl) (by kernel_rfl) (by kernel_rfl) (by kernel_rfl) (by kernel_rfl) (fun _ _ _ h => h) (by rfl) (by intro V ⟨y1, y2, y3⟩; go_simp; (first | done | (with_reducible rfl))) HR.out ?_
    simp only [Act.put, List.setIfInBounds_toArray, List.set_cons_zero, List.set_cons_succ]
    refine wpAnyS_take 6 (some 22) [20] rfl rfl (by kernel_rfl) (by kernel_rfl) (by kernel_rfl) (by kernel_rfl) (by kernel_rfl) (by kernel_rfl) (by kernel_rfl) (fun _ _ _ h => h) (by rfl) (by intro V ⟨y1, y2, y3⟩; go_simp; (first | done | (with_reducible rfl))) HR.out ?_
    simp only [Act.put, List.setIfInBounds_toArray, List.set_cons_zero, List.set_cons_succ]
    refine wpAnyS_take 8 (some 24) [9, 10, 11, 20] rfl rfl (by kernel_rfl) (by kernel_rfl) (by kernel_rfl) (by kernel_rfl) (by kernel_rfl) (by kernel_rfl) (by kernel_rfl) (fun _ _ _ h => h) (by rfl) (by intro V ⟨y1, y2, y3⟩; go_simp; (first | done | (with_reducible rfl))) HR.out ?_
    simp only [Act.put, List.setIfInBounds_toArray, List.set_cons_zero, List.set_cons_succ]
    refine wpAnyS_take 9 (some 25) [10, 11, 20] rfl rfl (by kernel_rfl) (by kernel_rfl) (by kernel_rfl) (by kernel_rfl) (by kernel_rfl) (by kernel_rfl) (by kernel_rfl) (fun _ _ _ h => h) (by rfl) (by intro V ⟨y1, y2, y3⟩; go_simp; (first | done | (with_reducible rfl))) HR.out ?_
    simp only [Act.put, List.setIfInBounds_toArray, List.set_cons_zero, List.set_cons_succ]
    refine wpAnyS_take 10 (some 26) [11, 20] rfl rfl (by kernel_rfl) (by kernel_rfl) (by kernel_rfl) (by kernel_rfl) (by kernel_rfl) (by kernel_rfl) (by kernel_rfl) (fun _ _ _ h => h) (by rfl) (by intro V ⟨y1, y2, y3⟩; go_simp; (first | done | (with_reducible rfl))) HR.out ?_
    simp only [Act.put, List.setIfInBounds_toArray, List.set_cons_zero, List.set_cons_succ]
    refine wpAnyS_take 11 (some 27) [20] rfl rfl (by kernel_rfl) (by kernel_rfl) (by kernel_rfl) (by kernel_rfl) (by kernel_rfl) (by kernel_rfl) (by kernel_rfl) (fun _ _ _ h => h) (by rfl) (by intro V ⟨y1, y2, y3⟩; go_simp; (first | done | (with_reducible rfl))) HR.out ?_
    simp only [Act.put, List.setIfInBounds_toArray, List.set_cons_zero, List.set_cons_succ]
    refine wpAnyS_take 13 (some 29) [14, 15, 16, 20] rfl rfl (by kernel_rfl) (by kernel_rfl) (by kernel_rfl) (by kernel_rfl) (by kernel_rfl) (by kernel_rfl) (by kernel_rfl) (fun _ _ _ h => h) (by rfl) (by intro V ⟨y1, y2, y3⟩; go_simp; (first | done | (with_reducible rfl))) HR.out ?_
    simp only [Act.put, List.setIfInBounds_toArray, List.set_cons_zero, List.set_cons_succ]
    refine wpAnyS_take 14 (some 30) [15, 16, 20] rfl rfl (by kernel_rfl) (by kernel_rfl) (by kernel_rfl) (by kernel_rfl) (by kernel_rfl) (by kernel_rfl) (by kernel_rfl) (fun _ _ _ h => h) (by rfl) (by intro V ⟨y1, y2, y3⟩; go_simp; (first | done | (with_reducible rfl))) HR.out ?_
    simp only [Act.put, List.setIfInBounds_toArray, List.set_cons_zero, List.set_cons_succ]
    refine wpAnyS_take 15 (some 31) [16, 20] rfl rfl (by kernel_rfl) (by kernel_rfl) (by kernel_rfl) (by kernel_rfl) (by kernel_rfl) (by kernel_rfl) (by kernel_rfl) (fun _ _ _ h => h) (by rfl) (by intro V ⟨y1, y2, y3⟩; go_simp; (first | done | (with_reducible rfl))) HR.out ?_
    simp only [Act.put, List.setIfInBounds_toArray, List.set_cons_zero, List.set_cons_succ]
    refine wpAnyS_take 16 (some 32) [20] rfl rfl (by kernel_rfl) (by kernel_rfl) (by kernel_rfl) (by kernel_rfl) (by kernel_rfl) (by kernel_rfl) (by kernel_rfl) (fun _ _ _ h => h) (by rfl) (by intro V ⟨y1, y2, y3⟩; go_simp; (first | done | (with_reducible rfl))) HR.out ?_
    simp only [Act.put, List.setIfInBounds_toArray, List.set_cons_zero, List.set_cons_succ]
    refine wpAnyS_ready [7] (by kernel_rfl) (by simp) ?_
    refine AllReadyS.cons rfl (fun K hK => ?_) AllReadyS.nil
    go_simp
    refine (HC1.out _ (Below.refl W1.heap.size W1).drew).mono ?_
    rintro e wa ⟨kv, rfl, hk1, hb1⟩
    obtain ⟨ko, kc, hval⟩ := hk1.open
    rw [List.length_map] at hval
    subst hval
    have HA1 := Lib.hid ((Below.refl W1.heap.size W1).drew.trans (hb1.mono (Nat.le_refl _)))
    have HK1 := Lib.hid hk1
    have HRA := Lib.hid (show Rows3 w.heap.size (.slice ak kn.n.ks.length ck) (.slice av kn.n.vs.length cv) (.slice ac kn.n.cs.length cc)  wa from ⟨(HN1.out.below HA1.out).cell 8 rfl, (HN1.out.below HA1.out).cell 9 rfl, (HN1.out.below HA1.out).cell 10 rfl⟩)
    clear hk1 hb1
    refine hK.out _ _ (fun _ => HRA.out) ?_
    clear hK K
    refine wpAnyS_ready [12] (by kernel_rfl) (by simp) ?_
    refine AllReadyS.cons rfl (fun K hK => ?_) AllReadyS.nil
    go_simp
    refine (HC2.out _ HA1.out).mono ?_
    rintro e wb ⟨vv, rfl, hk2, hb2⟩
    obtain ⟨vo, vc, hval⟩ := hk2.open
    rw [List.length_map] at hval
    subst hval
    have HA2 := Lib.hid (HA1.out.trans (hb2.mono HA1.out.size))
    have HK2 := Lib.hid hk2
    have HB2 := Lib.hid hb2
    have HRB := Lib.hid (show Rows3 w.heap.size (.slice ak kn.n.ks.length ck) (.slice av kn.n.vs.length cv) (.slice ac kn.n.cs.length cc)  wb from ⟨(HN1.out.below HA2.out).cell 8 rfl, (HN1.out.below HA2.out).cell 9 rfl, (HN1.out.below HA2.out).cell 10 rfl⟩)
    clear hk2 hb2
    refine hK.out _ _ (fun _ => HRB.out) ?_
    clear hK K
    refine wpAnyS_ready [17] (by kernel_rfl) (by simp) ?_
    refine AllReadyS.cons rfl (fun K hK => ?_) AllReadyS.nil
    go_simp
    refine (HC3.out _ HA2.out).mono ?_
    rintro e wd ⟨cw, rfl, hk3, hb3⟩
    obtain ⟨co, cd, hval⟩ := hk3.open
    rw [List.length_map] at hval
    subst hval
    have HA3 := Lib.hid (HA2.out.trans (hb3.mono HA2.out.size))
    have HK3 := Lib.hid hk3
    have HB3 := Lib.hid hb3
    have HRD := Lib.hid (show Rows3 w.heap.size (.slice ak kn.n.ks.length ck) (.slice av kn.n.vs.length cv) (.slice ac kn.n.cs.length cc)  wd from ⟨(HN1.out.below HA3.out).cell 8 rfl, (HN1.out.below HA3.out).cell 9 rfl, (HN1.out.below HA3.out).cell 10 rfl⟩)
    clear hk3 hb3
    refine hK.out _ _ (fun _ => HRD.out) ?_
    clear hK K
    have hnd := HN1.out.below HA3.out
    have q8 := hnd.cell 8 rfl
    have q9 := hnd.cell 9 rfl
    have q10 := hnd.cell 10 rfl
    have f8 := hnd.frozen 8
    have f9 := hnd.frozen 9
    have f10 := hnd.frozen 10
    clear hnd
    refine wpAnyS_ready [18] (by kernel_rfl) (by simp) ?_
    refine AllReadyS.cons rfl (fun K hK => ?_) AllReadyS.nil
    go_simp
    refine hK.out _ _ (fun _ => HRD.out) ?_
    clear hK K
    refine wpAnyS_ready [19] (by kernel_rfl) (by simp) ?_
    refine AllReadyS.cons rfl (fun K hK => ?_) AllReadyS.nil
    go_simp
    refine hK.out _ _ (fun _ => HRD.out) ?_
    clear hK K
    refine wpAnyS_ready [20] (by kernel_rfl) (by simp) ?_
    refine AllReadyS.cons rfl (fun K hK => ?_) AllReadyS.nil
    go_simp
    refine hK.out _ _ (fun h => absurd h (by decide)) ?_
    clear hK K
    refine wpAnyS_ready [21] (by kernel_rfl) (by simp) ?_
    refine AllReadyS.cons rfl (fun K hK => ?_) AllReadyS.nil
    go_simp
    refine hK.out _ _ (fun h => absurd h (by decide)) ?_
    clear hK K
    refine wpAnyS_ready [22] (by kernel_rfl) (by simp) ?_
    refine AllReadyS.cons rfl (fun K hK => ?_) AllReadyS.nil
    go_simp
    refine hK.out _ _ (fun h => absurd h (by decide)) ?_
    clear hK K
    refine wpAnyS_ready [23] (by kernel_rfl) (by simp) ?_
    refine AllReadyS.cons rfl (fun K hK => ?_) AllReadyS.nil
    go_simp
    refine hK.out _ _ (fun h => absurd h (by decide)) ?_
    clear hK K
    refine wpAnyS_ready [24] (by kernel_rfl) (by simp) ?_
    refine AllReadyS.cons rfl (fun K hK => ?_) AllReadyS.nil
    go_simp
    refine hK.out _ _ (fun h => absurd h (by decide)) ?_
    clear hK K
    refine wpAnyS_ready [25] (by kernel_rfl) (by simp) ?_
    refine AllReadyS.cons rfl (fun K hK => ?_) AllReadyS.nil
    go_simp
    refine hK.out _ _ (fun h => absurd h (by decide)) ?_
    clear hK K
    refine wpAnyS_ready [26] (by kernel_rfl) (by simp) ?_
    refine AllReadyS.cons rfl (fun K hK => ?_) AllReadyS.nil
    go_simp
    refine hK.out _ _ (fun h => absurd h (by decide)) ?_
    clear hK K
    refine wpAnyS_done (by kernel_rfl) ?_ _
    go_wp2_with fail
    go_meet
    have hnd := HN1.out.below HA3.out
    have hkd : KnO wd W1.heap.size (kn.val (.slice ko kn.n.ks.length kc) (.slice vo kn.n.vs.length vc) (.slice co kn.n.cs.length cd)) kn := ⟨_, _, _, rfl, fv_stays (fv_stays HK1.out HB2.out) HB3.out, fv_stays (fv_base HK2.out HA1.out.size) HB3.out, fv_base HK3.out HA2.out.size⟩
    have ht : Turn (fun g => g = w.heap.size) wd (((wd.setCell ⟨w.heap.size, 8, none⟩ (.slice ko kn.n.ks.length kc)).setCell ⟨w.heap.size, 9, none⟩ (.slice vo kn.n.vs.length vc)).setCell ⟨w.heap.size, 10, none⟩ (.slice co kn.n.cs.length cd)) := Turn.setCell (S := fun g => g = w.heap.size) (Turn.setCell (S := fun g => g = w.heap.size) (Turn.setCell (S := fun g => g = w.heap.size) (Turn.refl _ wd) (Or.inl rfl) _) (Or.inl rfl) _) (Or.inl rfl) _
    refine Lib.hid ⟨_, _, _, ?_, hkd.turn (S := fun g => g = w.heap.size) (fun j cs' t e hj => by subst e; exact kn_bx hnd cs' t hj) ht, Turn.trans (S := fun g => g = w.heap.size) (Turn.of HA3.out) ht⟩
    exact heap_setCell_same _ _ 10 _ _ _ (heap_setCell_same _ _ 9 _ _ _ (heap_setCell_same _ _ 8 _ _ _ hnd))
  case rest =>
    obtain ⟨kv, vv, cw, hn, hkn, ht⟩ := hcut.out
    obtain ⟨kv', vv', cw', hval, o1, o2, o3⟩ := id hkn
    unfold Kn.val at hval
    injection hval with hval
    injection hval with hval
    simp only [List.cons.injEq, and_true, true_and] at hval
    obtain ⟨rfl, rfl, rfl⟩ := hval
    obtain ⟨ko, kc, rfl⟩ := o1.open
    obtain ⟨vo, vc, rfl⟩ := o2.open
    obtain ⟨co, cd, rfl⟩ := o3.open
    simp only [List.length_map] at hn hkn
    have hfv : FV wc B A b sv N ks ss k m := HM.out.turn (T := fun g => g = w.heap.size) ht (fun j hj e => by subst e; exact HG.out hj) (fun j cs' t e hj => by subst e; exact kn_bx HN1.out cs' t hj)
    have hsz : B ≤ W1.heap.size := HM.out.size
    unfold Kn.val at hkn
    obtain ⟨w2, hst, hm2, ht2⟩ := fstore (w := wc.drew) (hfv.keep (Below.refl _ wc).drew) HP.out.2 _ ((hkn.base hsz).keep (Below.refl _ wc).drew) HP.out.1
    clear k0
    have k0 := hn.cell 0 rfl
    have k1 := hn.cell 1 rfl
    have k2 := hn.cell 2 rfl
    have k3 := hn.cell 3 rfl
    have k4 := hn.cell 4 rfl
    have k5 := hn.cell 5 rfl
    have k6 := hn.cell 6 rfl
    have k7 := hn.cell 7 rfl
    have k8 := hn.cell 8 rfl
    have k9 := hn.cell 9 rfl
    have k10 := hn.cell 10 rfl
    have c0 : wc.cell? ⟨A, 0, none⟩ = some (.map (some b)) := hfv.view.cell 0 rfl
    have HE := Lib.hid (show FV w2 B A b sv (N + 1) (kdrop ks kn.c ++ [kn]) ss k m ∧ Turn (VS A b sv) w w2 from ⟨hm2, ((HX.out.through ht (fun j e => by rw [e]; exact Nat.le_refl _)).drew).trans ht2⟩)
    clear hn hkn ht hfv hm2 ht2 o1 o2 o3 HM HX HN1 hcut HP HR HC1 HC2 HC3 HG hsz
    go_upto_region 5 with fail
    go_region
    go_wp2
    go_ret
    exact ⟨rfl, HE.out⟩
end
end Go.Proofs.Ytdbklklmpnlinaa
