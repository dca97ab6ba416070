/- whole.found with 2 rules. Condition: few nodes. whole.flawsOfNodes: none just if all nodes are sound, each in a cell of its own, one of them the root's. Condition: few nodes, whose sizes fit. whole.treeOf: the map of nodes, and of how many nodes each cell is a kid. Condition: few nodes, no two of them in one cell. -/
import Derived.Test.YtgaacoeggikbpaaPq3
import Derived.Deep.DeepCutAuto
import Derived.Deep.CutBlock
namespace Go.Proofs.Ytgaacoeggikbpaa
open Go.RowKit

set_option maxHeartbeats 16000000 in
set_option maxRecDepth 100000 in
theorem found2_any (w0 : World) (ao : Option Addr) (n c RB cb3 cb5 : Nat) (ks : List Kn) (P : Nat → Nat → Bool) (w : World) (hb0 : Below w0.heap.size w0 w) (h : KsAt (PV w0) w (.slice ao n c) ks) (hn : n ≤ 1000000) (hRB : BX w RB 76 #[.int .i64 2, .func (.func 41) #[] #[.pointer (some ⟨cb5, 0, none⟩)], .int .i64 3, .func (.func 43) #[] #[.pointer (some ⟨cb3, 0, none⟩)]]) (h0 : ∀ (j : Nat) (W : World) (v : Value), j < n → Below w.heap.size w W → KnV W v (kAt ks j) → Calls Try.prog 41 #[v, .pointer (some ⟨cb5, 0, none⟩)] W fun e w' => e = .returned (.bool (P 0 j)) ∧ Below W.heap.size W w') (h1 : ∀ (j : Nat) (W : World) (v : Value), j < n → Below w.heap.size w W → KnV W v (kAt ks j) → Calls Try.prog 43 #[v, .pointer (some ⟨cb3, 0, none⟩)] W fun e w' => e = .returned (.bool (P 1 j)) ∧ Below W.heap.size W w') :
    Calls Try.prog 40 #[.slice ao n c, .slice (some ⟨RB, 0, none⟩) 2 2] w fun e w' => (∃ v fs, e = .returned v ∧ FlV w' w.heap.size v fs ∧ FoundP 2 n P 2 fs ∧ fs.length ≤ 2 * n) ∧ Below w.heap.size w w' := by
  have HK := Lib.hid h
  have HRB := Lib.hid hRB
  have H0 := Lib.hid hb0
  have HR0 := Lib.hid h0
  have HR1 := Lib.hid h1
  have hl := h.len
  have HL := Lib.hid hl.1
  have hl2 := hl.2
  obtain ⟨i0, hi, hz0, hz1, hz2⟩ := info_parts infoFlaw
  have HI := Lib.hid (show _ ∧ _ ∧ _ ∧ _ from ⟨hi, hz0, hz1, hz2⟩)
  clear h hRB hb0 hl hi hz0 hz1 hz2 h0 h1
  go_enter Try.func40, Try.ntmps40
  go_wp2
  go_loopw [5, 12] (fun v s wr => ∃ r : Nat, s = .int .i64 r ∧ r ≤ 2 ∧ Hid (∃ fs, FlV wr w.heap.size v fs ∧ UpP 2 n P 2 r 0 fs ∧ fs.length ≤ r * n ∧ Below w.heap.size w wr)) (fun _ s _ => 2 - (intOf s).toNat)
  case atStart => exact ⟨0, rfl, Nat.zero_le _, Lib.hid ⟨[], FlV.nil _ _, UpP.start _ _ _ _, by simp, Below.refl _ _⟩⟩
  case round =>
    obtain ⟨r, rfl, hr, HREL⟩ := hrel
    rcases (show r = 0 ∨ r = 1 ∨ r = 2 by omega) with rfl | rfl | rfl
    · have hnb := HRB.out.below HREL.out.choose_spec.2.2.2
      have c0 : wr.cell? ⟨RB, 0, none⟩ = some (.int .i64 2) := hnb.cell 0 rfl
      have c1 : wr.cell? ⟨RB, 1, none⟩ = some (.func (.func 41) #[] #[.pointer (some ⟨cb5, 0, none⟩)]) := hnb.cell 1 rfl
      have hx1 := boxed_below wr (.cells #[.int .i64 2, .func (.func 41) #[] #[.pointer (some ⟨cb5, 0, none⟩)]] 76)
      have n1 := BX.new wr 76 #[.int .i64 2, .func (.func 41) #[] #[.pointer (some ⟨cb5, 0, none⟩)]]
      obtain ⟨G7, hG7⟩ : ∃ g, g = wr.heap.size := ⟨_, rfl⟩
      rw [← hG7] at n1
      have HG7 := Lib.hid hG7
      clear hnb hG7
      go_upto_region 5 with fail
      rw [← HG7.out]
      obtain ⟨W1, hW1⟩ : ∃ W, W = wr.alloc (.cells #[.int .i64 2, .func (.func 41) #[] #[.pointer (some ⟨cb5, 0, none⟩)]] 76) := ⟨_, rfl⟩
      rw [← hW1] at hx1 n1 ⊢
      have HN1 := Lib.hid n1
      obtain ⟨fs0, hf0, hu0, hl0, hb0⟩ := HREL.out
      have HB1 := Lib.hid (hb0.trans (hx1.mono hb0.size))
      have HS0 := Lib.hid (show _ ∧ _ ∧ _ from ⟨hf0.keep hx1, hu0, hl0⟩)
      clear c0 c1 hW1 n1 hx1 hf0 hu0 hl0 hb0 HREL
      go_wp2
      go_loopw [5, 18] (fun v s wx => ∃ j : Nat, s = .int .i64 j ∧ j ≤ n ∧ Hid (∃ fs, FlV wx w.heap.size v fs ∧ UpP 2 n P 2 0 j fs ∧ fs.length ≤ 0 * n + j ∧ Below w.heap.size w wx ∧ BX wx G7 76 #[.int .i64 2, .func (.func 41) #[] #[.pointer (some ⟨cb5, 0, none⟩)]])) (fun _ s _ => n - (intOf s).toNat)
      case atStart => exact ⟨0, rfl, Nat.zero_le _, Lib.hid ⟨fs0, HS0.out.1, HS0.out.2.1, HS0.out.2.2, HB1.out, HN1.out⟩⟩
      case round =>
        obtain ⟨j, rfl, hj, HJ⟩ := hrel
        obtain ⟨wx, rfl⟩ : ∃ W : World, W = wr := ⟨_, rfl⟩
        obtain ⟨fs, hfs, hup, hlen, hbw, hg7⟩ := HJ.out
        by_cases hlt : j < n
        · have hlt' : (j : Int) < n := by omega
          obtain ⟨g, o, ak, nk, ck, av, nv, cv, ac, nc, cc, rfl, hP, hc⟩ := HK.out.get hlt
          obtain ⟨q0, q1, q2, q3, q4, q5, q6, q7, q8, q9, q10⟩ := hc _ hbw
          obtain ⟨kn, hkn⟩ : ∃ kn, kn = kAt ks j := ⟨_, rfl⟩
          rw [← hkn] at q0 q1 q2 q3 q4 q5 q6 q7 hP
          obtain ⟨rfl, rfl, rfl, _⟩ := PV.ndF hP
          have hx2 := boxed_below wx (.cells #[.int .i64 kn.c, .int .u64 kn.wd, .int .u64 kn.vr, .int .i64 kn.n.lv, .string kn.n.lo, .string kn.n.hi, .bool kn.n.la, .int .i64 kn.n.nx, .slice ak kn.n.ks.length ck, .slice av kn.n.vs.length cv, .slice ac kn.n.cs.length cc] 40)
          have n2 := BX.new wx 40 #[.int .i64 kn.c, .int .u64 kn.wd, .int .u64 kn.vr, .int .i64 kn.n.lv, .string kn.n.lo, .string kn.n.hi, .bool kn.n.la, .int .i64 kn.n.nx, .slice ak kn.n.ks.length ck, .slice av kn.n.vs.length cv, .slice ac kn.n.cs.length cc]
          obtain ⟨G9, hG9⟩ : ∃ g, g = wx.heap.size := ⟨_, rfl⟩
          rw [← hG9] at n2
          have HG9 := Lib.hid hG9
          have HKN := Lib.hid hkn
          have HP := Lib.hid hP
          have HFS := Lib.hid (show _ ∧ _ from ⟨hfs, hup⟩)
          have HG := Lib.hid hg7
          have HBW := Lib.hid hbw
          clear hc hkn hG9 hP hfs hup hg7 hbw HJ
          go_upto_region 8 with fail
          rw [← HG9.out]
          obtain ⟨W2, hW2⟩ : ∃ W, W = wx.alloc (.cells #[.int .i64 kn.c, .int .u64 kn.wd, .int .u64 kn.vr, .int .i64 kn.n.lv, .string kn.n.lo, .string kn.n.hi, .bool kn.n.la, .int .i64 kn.n.nx, .slice ak kn.n.ks.length ck, .slice av kn.n.vs.length cv, .slice ac kn.n.cs.length cc] 40) := ⟨_, rfl⟩
          rw [← hW2] at hx2 n2 ⊢
          have HBW2 := Lib.hid (HBW.out.trans (hx2.mono HBW.out.size))
          have HFV2 := Lib.hid (HFS.out.1.keep hx2)
          have HN2 := Lib.hid n2
          have m1 := HG.out.below hx2
          have HM1 := Lib.hid m1
          have r0 := m1.cell 0 rfl
          have r1 := m1.cell 1 rfl
          have k0 := n2.cell 0 rfl
          have k1 := n2.cell 1 rfl
          have k2 := n2.cell 2 rfl
          have k3 := n2.cell 3 rfl
          have k4 := n2.cell 4 rfl
          have k5 := n2.cell 5 rfl
          have k6 := n2.cell 6 rfl
          have k7 := n2.cell 7 rfl
          have k8 := n2.cell 8 rfl
          have k9 := n2.cell 9 rfl
          have k10 := n2.cell 10 rfl
          have HKV := Lib.hid (show KnV W2 (.agg #[.int .i64 kn.c, .int .u64 kn.wd, .int .u64 kn.vr, .int .i64 kn.n.lv, .string kn.n.lo, .string kn.n.hi, .bool kn.n.la, .int .i64 kn.n.nx, .slice ak kn.n.ks.length ck, .slice av kn.n.vs.length cv, .slice ac kn.n.cs.length cc]) (kAt ks j) by rw [← HKN.out]; exact KnV.keep HP.out (H0.out.trans (HBW2.out.mono H0.out.size)))
          have HCALL := Lib.hid (HR0.out j W2 _ hlt HBW2.out HKV.out)
          obtain ⟨bb, hbb⟩ : ∃ bb, bb = P 0 j := ⟨_, rfl⟩
          rw [← hbb] at HCALL
          have HBB := Lib.hid hbb
          clear q0 q1 q2 q3 q4 q5 q6 q7 q8 q9 q10 hx2 n2 hW2 m1 hbb
          go_wp2_with fail
          refine HCALL.out.mono ?_
          rintro e w3 ⟨rfl, hb3⟩
          have HB3 := Lib.hid (HBW2.out.trans (hb3.mono HBW2.out.size))
          have HFV3 := Lib.hid (HFV2.out.keep hb3)
          have n3 := HN2.out.below hb3
          have HM3 := Lib.hid (HM1.out.below hb3)
          clear r0 r1 k0 k1 k2 k3 k4 k5 k6 k7 k8 k9 k10 hb3
          cases bb with
          | false =>
            have HU := Lib.hid (HFS.out.2.no HBB.out.symm)
            clear n3
            go_wp2
            go_roundw
            case rel =>
              (repeat apply Exists.intro)
              refine ⟨?_, rfl⟩
              exact ⟨j + 1, by go_num, by omega, Lib.hid ⟨fs, HFV3.out, HU.out, by omega, HB3.out, HM3.out⟩⟩
            case measure => simp [intOf]; omega
          | true =>
            have HU := Lib.hid (HFS.out.2.yes (x := (2, kn.c)) (by omega) hlt HBB.out.symm (by simp))
            have k0 := n3.cell 0 rfl
            have r0 := HM3.out.cell 0 rfl
            have ho3 := World.ownsRow.alloc HFV3.out (.cells #[.int .i64 2, .int .i64 kn.c] 47)
            have hnews := World.news_of_block (cs := #[.int .i64 2, .int .i64 kn.c]) (heap_alloc_new w3 (.cells #[.int .i64 2, .int .i64 kn.c] 47))
            have hone : ∀ u ∈ [Value.int .i64 2, Value.int .i64 kn.c], u.oneCell' = true := by intro u hu; simp at hu; rcases hu with rfl | rfl <;> rfl
            have HH := Lib.hid (show _ ∧ _ ∧ _ from ⟨ho3, hnews, hone⟩)
            have HBA := Lib.hid (HB3.out.trans (((Below.refl w3.heap.size w3).alloc (Nat.le_refl _) (.cells #[.int .i64 2, .int .i64 kn.c] 47)).mono HB3.out.size))
            obtain ⟨n9, hn9⟩ : ∃ n9, n9 = fs.length := ⟨_, rfl⟩
            rw [← hn9] at HH hlen
            have HN9 := Lib.hid hn9
            have hbase : w.heap.size ≤ w3.heap.size := HB3.out.size
            have HBASE := Lib.hid hbase
            clear n3 ho3 hnews hone hn9 hbase
            go_wp2_with ((with_reducible show wpList _ _ _ (⟨some 33, _, _, _, _, _⟩ :: _) _ _); refine wpList_append_own (o := ⟨some 33, _, _, _, _, _⟩) _ rfl _ _ 42 rfl w.heap.size 47 i0 (.agg #[.int .i64 0, .int .i64 0]) 2 16 Try.underlying42 HI.out.1 HI.out.2.1 HI.out.2.2.1 HI.out.2.2.2 rfl (by decide) _ _ _ rfl HH.out.1 ⟨w3.heap.size, 0, none⟩ 1 1 [.int .i64 2, .int .i64 kn.c] rfl rfl HH.out.2.1 HH.out.2.2 (by unfold maxLen; omega) (by omega) (by rw [World.size_alloc]; have := HBASE.out; omega) ?_)
            intro v4 w4 hown4 hgrow4 _
            have HFV4 := Lib.hid (show FlV w4 w.heap.size v4 (fs ++ [(2, kn.c)]) from by
              unfold FlV
              rw [List.length_append, List.length_singleton, flC_app, ← HN9.out]
              exact hown4)
            have HB4 := Lib.hid (HBA.out.grown hgrow4 (by rw [World.size_alloc]; have := HBASE.out; omega) (fun i hi => (fv_block HH.out.1 hi).1))
            have HM4 := Lib.hid (show BX w4 G7 _ _ from (hgrow4.block G7 (lt_of_block (HM3.out.below ((Below.refl _ _).alloc (Nat.le_refl _) _))) (fun e => by
              obtain ⟨_, cs9, h9⟩ := fv_block HH.out.1 e.symm
              exact bx_no2 (HM3.out.below ((Below.refl _ _).alloc (Nat.le_refl _) _)) (by decide) cs9 h9)).trans (HM3.out.below ((Below.refl _ _).alloc (Nat.le_refl _) _)))
            clear hown4 hgrow4 k0 r0
            go_wp2
            go_roundw
            case rel =>
              (repeat apply Exists.intro)
              refine ⟨?_, rfl⟩
              exact ⟨j + 1, by go_num, by omega, Lib.hid ⟨fs ++ [(2, kn.c)], HFV4.out, HU.out, by rw [List.length_append, List.length_singleton, ← HN9.out]; omega, HB4.out, HM4.out⟩⟩
            case measure => simp [intOf]; omega
        · obtain rfl : j = n := by omega
          have HE := Lib.hid (show _ ∧ _ ∧ _ ∧ _ from ⟨hfs, hup.next, hlen, hbw⟩)
          clear hfs hup hlen hg7 hbw HJ
          go_wp2
          go_roundw
          case rel => exact ⟨1, by go_num, by omega, Lib.hid ⟨fs, HE.out.1, HE.out.2.1, by have := HE.out.2.2.1; omega, HE.out.2.2.2⟩⟩
          case measure => simp [intOf]
    · have hnb := HRB.out.below HREL.out.choose_spec.2.2.2
      have c0 : wr.cell? ⟨RB, 2, none⟩ = some (.int .i64 3) := hnb.cell 2 rfl
      have c1 : wr.cell? ⟨RB, 3, none⟩ = some (.func (.func 43) #[] #[.pointer (some ⟨cb3, 0, none⟩)]) := hnb.cell 3 rfl
      have hx1 := boxed_below wr (.cells #[.int .i64 3, .func (.func 43) #[] #[.pointer (some ⟨cb3, 0, none⟩)]] 76)
      have n1 := BX.new wr 76 #[.int .i64 3, .func (.func 43) #[] #[.pointer (some ⟨cb3, 0, none⟩)]]
      obtain ⟨G7, hG7⟩ : ∃ g, g = wr.heap.size := ⟨_, rfl⟩
      rw [← hG7] at n1
      have HG7 := Lib.hid hG7
      clear hnb hG7
      go_upto_region 5 with fail
      rw [← HG7.out]
      obtain ⟨W1, hW1⟩ : ∃ W, W = wr.alloc (.cells #[.int .i64 3, .func (.func 43) #[] #[.pointer (some ⟨cb3, 0, none⟩)]] 76) := ⟨_, rfl⟩
      rw [← hW1] at hx1 n1 ⊢
      have HN1 := Lib.hid n1
      obtain ⟨fs0, hf0, hu0, hl0, hb0⟩ := HREL.out
      have HB1 := Lib.hid (hb0.trans (hx1.mono hb0.size))
      have HS0 := Lib.hid (show _ ∧ _ ∧ _ from ⟨hf0.keep hx1, hu0, hl0⟩)
      clear c0 c1 hW1 n1 hx1 hf0 hu0 hl0 hb0 HREL
      go_wp2
      go_loopw [5, 18] (fun v s wx => ∃ j : Nat, s = .int .i64 j ∧ j ≤ n ∧ Hid (∃ fs, FlV wx w.heap.size v fs ∧ UpP 2 n P 2 1 j fs ∧ fs.length ≤ 1 * n + j ∧ Below w.heap.size w wx ∧ BX wx G7 76 #[.int .i64 3, .func (.func 43) #[] #[.pointer (some ⟨cb3, 0, none⟩)]])) (fun _ s _ => n - (intOf s).toNat)
      case atStart => exact ⟨0, rfl, Nat.zero_le _, Lib.hid ⟨fs0, HS0.out.1, HS0.out.2.1, HS0.out.2.2, HB1.out, HN1.out⟩⟩
      case round =>
        obtain ⟨j, rfl, hj, HJ⟩ := hrel
        obtain ⟨wx, rfl⟩ : ∃ W : World, W = wr := ⟨_, rfl⟩
        obtain ⟨fs, hfs, hup, hlen, hbw, hg7⟩ := HJ.out
        by_cases hlt : j < n
        · have hlt' : (j : Int) < n := by omega
          obtain ⟨g, o, ak, nk, ck, av, nv, cv, ac, nc, cc, rfl, hP, hc⟩ := HK.out.get hlt
          obtain ⟨q0, q1, q2, q3, q4, q5, q6, q7, q8, q9, q10⟩ := hc _ hbw
          obtain ⟨kn, hkn⟩ : ∃ kn, kn = kAt ks j := ⟨_, rfl⟩
          rw [← hkn] at q0 q1 q2 q3 q4 q5 q6 q7 hP
          obtain ⟨rfl, rfl, rfl, _⟩ := PV.ndF hP
          have hx2 := boxed_below wx (.cells #[.int .i64 kn.c, .int .u64 kn.wd, .int .u64 kn.vr, .int .i64 kn.n.lv, .string kn.n.lo, .string kn.n.hi, .bool kn.n.la, .int .i64 kn.n.nx, .slice ak kn.n.ks.length ck, .slice av kn.n.vs.length cv, .slice ac kn.n.cs.length cc] 40)
          have n2 := BX.new wx 40 #[.int .i64 kn.c, .int .u64 kn.wd, .int .u64 kn.vr, .int .i64 kn.n.lv, .string kn.n.lo, .string kn.n.hi, .bool kn.n.la, .int .i64 kn.n.nx, .slice ak kn.n.ks.length ck, .slice av kn.n.vs.length cv, .slice ac kn.n.cs.length cc]
          obtain ⟨G9, hG9⟩ : ∃ g, g = wx.heap.size := ⟨_, rfl⟩
          rw [← hG9] at n2
          have HG9 := Lib.hid hG9
          have HKN := Lib.hid hkn
          have HP := Lib.hid hP
          have HFS := Lib.hid (show _ ∧ _ from ⟨hfs, hup⟩)
          have HG := Lib.hid hg7
          have HBW := Lib.hid hbw
          clear hc hkn hG9 hP hfs hup hg7 hbw HJ
          go_upto_region 8 with fail
          rw [← HG9.out]
          obtain ⟨W2, hW2⟩ : ∃ W, W = wx.alloc (.cells #[.int .i64 kn.c, .int .u64 kn.wd, .int .u64 kn.vr, .int .i64 kn.n.lv, .string kn.n.lo, .string kn.n.hi, .bool kn.n.la, .int .i64 kn.n.nx, .slice ak kn.n.ks.length ck, .slice av kn.n.vs.length cv, .slice ac kn.n.cs.length cc] 40) := ⟨_, rfl⟩
          rw [← hW2] at hx2 n2 ⊢
          have HBW2 := Lib.hid (HBW.out.trans (hx2.mono HBW.out.size))
          have HFV2 := Lib.hid (HFS.out.1.keep hx2)
          have HN2 := Lib.hid n2
          have m1 := HG.out.below hx2
          have HM1 := Lib.hid m1
          have r0 := m1.cell 0 rfl
          have r1 := m1.cell 1 rfl
          have k0 := n2.cell 0 rfl
          have k1 := n2.cell 1 rfl
          have k2 := n2.cell 2 rfl
          have k3 := n2.cell 3 rfl
          have k4 := n2.cell 4 rfl
          have k5 := n2.cell 5 rfl
          have k6 := n2.cell 6 rfl
          have k7 := n2.cell 7 rfl
          have k8 := n2.cell 8 rfl
          have k9 := n2.cell 9 rfl
          have k10 := n2.cell 10 rfl
          have HKV := Lib.hid (show KnV W2 (.agg #[.int .i64 kn.c, .int .u64 kn.wd, .int .u64 kn.vr, .int .i64 kn.n.lv, .string kn.n.lo, .string kn.n.hi, .bool kn.n.la, .int .i64 kn.n.nx, .slice ak kn.n.ks.length ck, .slice av kn.n.vs.length cv, .slice ac kn.n.cs.length cc]) (kAt ks j) by rw [← HKN.out]; exact KnV.keep HP.out (H0.out.trans (HBW2.out.mono H0.out.size)))
          have HCALL := Lib.hid (HR1.out j W2 _ hlt HBW2.out HKV.out)
          obtain ⟨bb, hbb⟩ : ∃ bb, bb = P 1 j := ⟨_, rfl⟩
          rw [← hbb] at HCALL
          have HBB := Lib.hid hbb
          clear q0 q1 q2 q3 q4 q5 q6 q7 q8 q9 q10 hx2 n2 hW2 m1 hbb
          go_wp2_with fail
          refine HCALL.out.mono ?_
          rintro e w3 ⟨rfl, hb3⟩
          have HB3 := Lib.hid (HBW2.out.trans (hb3.mono HBW2.out.size))
          have HFV3 := Lib.hid (HFV2.out.keep hb3)
          have n3 := HN2.out.below hb3
          have HM3 := Lib.hid (HM1.out.below hb3)
          clear r0 r1 k0 k1 k2 k3 k4 k5 k6 k7 k8 k9 k10 hb3
          cases bb with
          | false =>
            have HU := Lib.hid (HFS.out.2.no HBB.out.symm)
            clear n3
            go_wp2
            go_roundw
            case rel =>
              (repeat apply Exists.intro)
              refine ⟨?_, rfl⟩
              exact ⟨j + 1, by go_num, by omega, Lib.hid ⟨fs, HFV3.out, HU.out, by omega, HB3.out, HM3.out⟩⟩
            case measure => simp [intOf]; omega
          | true =>
            have HU := Lib.hid (HFS.out.2.yes (x := (3, kn.c)) (by omega) hlt HBB.out.symm (by simp))
            have k0 := n3.cell 0 rfl
            have r0 := HM3.out.cell 0 rfl
            have ho3 := World.ownsRow.alloc HFV3.out (.cells #[.int .i64 3, .int .i64 kn.c] 47)
            have hnews := World.news_of_block (cs := #[.int .i64 3, .int .i64 kn.c]) (heap_alloc_new w3 (.cells #[.int .i64 3, .int .i64 kn.c] 47))
            have hone : ∀ u ∈ [Value.int .i64 3, Value.int .i64 kn.c], u.oneCell' = true := by intro u hu; simp at hu; rcases hu with rfl | rfl <;> rfl
            have HH := Lib.hid (show _ ∧ _ ∧ _ from ⟨ho3, hnews, hone⟩)
            have HBA := Lib.hid (HB3.out.trans (((Below.refl w3.heap.size w3).alloc (Nat.le_refl _) (.cells #[.int .i64 3, .int .i64 kn.c] 47)).mono HB3.out.size))
            obtain ⟨n9, hn9⟩ : ∃ n9, n9 = fs.length := ⟨_, rfl⟩
            rw [← hn9] at HH hlen
            have HN9 := Lib.hid hn9
            have hbase : w.heap.size ≤ w3.heap.size := HB3.out.size
            have HBASE := Lib.hid hbase
            clear n3 ho3 hnews hone hn9 hbase
            go_wp2_with ((with_reducible show wpList _ _ _ (⟨some 33, _, _, _, _, _⟩ :: _) _ _); refine wpList_append_own (o := ⟨some 33, _, _, _, _, _⟩) _ rfl _ _ 42 rfl w.heap.size 47 i0 (.agg #[.int .i64 0, .int .i64 0]) 2 16 Try.underlying42 HI.out.1 HI.out.2.1 HI.out.2.2.1 HI.out.2.2.2 rfl (by decide) _ _ _ rfl HH.out.1 ⟨w3.heap.size, 0, none⟩ 1 1 [.int .i64 3, .int .i64 kn.c] rfl rfl HH.out.2.1 HH.out.2.2 (by unfold maxLen; omega) (by omega) (by rw [World.size_alloc]; have := HBASE.out; omega) ?_)
            intro v4 w4 hown4 hgrow4 _
            have HFV4 := Lib.hid (show FlV w4 w.heap.size v4 (fs ++ [(3, kn.c)]) from by
              unfold FlV
              rw [List.length_append, List.length_singleton, flC_app, ← HN9.out]
              exact hown4)
            have HB4 := Lib.hid (HBA.out.grown hgrow4 (by rw [World.size_alloc]; have := HBASE.out; omega) (fun i hi => (fv_block HH.out.1 hi).1))
            have HM4 := Lib.hid (show BX w4 G7 _ _ from (hgrow4.block G7 (lt_of_block (HM3.out.below ((Below.refl _ _).alloc (Nat.le_refl _) _))) (fun e => by
              obtain ⟨_, cs9, h9⟩ := fv_block HH.out.1 e.symm
              exact bx_no2 (HM3.out.below ((Below.refl _ _).alloc (Nat.le_refl _) _)) (by decide) cs9 h9)).trans (HM3.out.below ((Below.refl _ _).alloc (Nat.le_refl _) _)))
            clear hown4 hgrow4 k0 r0
            go_wp2
            go_roundw
            case rel =>
              (repeat apply Exists.intro)
              refine ⟨?_, rfl⟩
              exact ⟨j + 1, by go_num, by omega, Lib.hid ⟨fs ++ [(3, kn.c)], HFV4.out, HU.out, by rw [List.length_append, List.length_singleton, ← HN9.out]; omega, HB4.out, HM4.out⟩⟩
            case measure => simp [intOf]; omega
        · obtain rfl : j = n := by omega
          have HE := Lib.hid (show _ ∧ _ ∧ _ ∧ _ from ⟨hfs, hup.next, hlen, hbw⟩)
          clear hfs hup hlen hg7 hbw HJ
          go_wp2
          go_roundw
          case rel => exact ⟨2, by go_num, by omega, Lib.hid ⟨fs, HE.out.1, HE.out.2.1, by have := HE.out.2.2.1; omega, HE.out.2.2.2⟩⟩
          case measure => simp [intOf]
    · obtain ⟨fs, hfs, hup, hlen, hbx⟩ := HREL.out
      have HE := Lib.hid (show _ ∧ _ ∧ _ from ⟨hup.done, hbx, hlen⟩)
      have HS := Lib.hid (sortFV w.heap.size _ fs wr hfs (by omega))
      clear hfs hup hlen hbx HREL
      go_wp2_with fail
      refine HS.out.mono ?_
      rintro e w5 ⟨rfl, ⟨fs2, hf2, hp⟩, hb5⟩
      have HC := Lib.hid (compactFV w.heap.size _ fs2 w5 hf2)
      have HP := Lib.hid hp
      have HB5 := Lib.hid (HE.out.2.1.trans hb5)
      clear hf2 hp hb5
      go_wp2_with fail
      refine HC.out.mono ?_
      rintro e w6 ⟨⟨v3, fs3, rfl, hf3, hk3⟩, hb6⟩
      have HX := Lib.hid (show _ ∧ _ ∧ _ from ⟨hf3, hk3, HB5.out.trans hb6⟩)
      clear hf3 hk3 hb6
      go_wp2
      go_ret
      exact ⟨⟨v3, fs3, rfl, HX.out.1, HE.out.1.kept HP.out HX.out.2.1, Nat.le_trans HX.out.2.1.2.2 (Nat.le_trans (Nat.le_of_eq HP.out.length_eq) HE.out.2.2)⟩, HX.out.2.2⟩
end Go.Proofs.Ytgaacoeggikbpaa

namespace Go.Proofs.Ytgaacoeggikbpaa
open Go.RowKit Go.Maps

theorem cnt_more {ks : List Kn} {i : Nat} (h : i < ks.length) : (fun c => cnt (ks.take (i + 1)) c) = fun c => if c = (kAt ks i).c then cnt (ks.take i) (kAt ks i).c + 1 else cnt (ks.take i) c := by
  funext c
  unfold cnt
  rw [List.take_succ_eq_append_getElem h, List.countP_append, kAt_eq h]
  by_cases e : c = ks[i].c
  · subst e
    simp
  · have : ¬ ks[i].c = c := fun h => e h.symm
    simp [e, this]
theorem cnt_le (ks : List Kn) (c : Int) : cnt ks c ≤ ks.length := List.countP_le_length
/-- The rules of nodes by themselves. -/
noncomputable def ndP (fan : Int) (ks : List Kn) (q j : Nat) : Bool := if q = 0 then cellB (kAt ks j).c && decide (1 < cnt ks (kAt ks j).c) else !(cellB (kAt ks j).c && soundB fan (kAt ks j).n)
/-- No flaw of nodes by themselves. -/
def NdOk (fan : Int) (ks : List Kn) : Prop := 0 < cnt ks 0 ∧ ∀ j, j < ks.length → cellB (kAt ks j).c = true ∧ cnt ks (kAt ks j).c ≤ 1 ∧ soundB fan (kAt ks j).n = true
theorem ndok_of {fan : Int} {ks : List Kn} {f0 fs : List (Int × Int)} (h0 : f0 = [] ↔ 0 < cnt ks 0) (h : FoundP 2 ks.length (ndP fan ks) 2 fs) : f0 ++ fs = [] ↔ NdOk fan ks := by
  rw [List.append_eq_nil_iff, h0]
  constructor
  · rintro ⟨h1, h2⟩
    refine ⟨h1, fun j hj => ?_⟩
    have q0 : ndP fan ks 0 j = false := by
      cases e : ndP fan ks 0 j with
      | false => rfl
      | true => exact absurd h2 (h.2 ⟨0, j, by omega, hj, e⟩)
    have q1 : ndP fan ks 1 j = false := by
      cases e : ndP fan ks 1 j with
      | false => rfl
      | true => exact absurd h2 (h.2 ⟨1, j, by omega, hj, e⟩)
    unfold ndP at q0 q1
    rw [if_pos rfl] at q0
    rw [if_neg (by decide)] at q1
    simp only [Bool.not_eq_false', Bool.and_eq_true] at q1
    rw [q1.1, Bool.true_and, decide_eq_false_iff_not] at q0
    exact ⟨q1.1, by omega, q1.2⟩
  · rintro ⟨h1, h2⟩
    refine ⟨h1, ?_⟩
    cases fs with
    | nil => rfl
    | cons x l =>
      obtain ⟨q, j, hq, hj, hp, _⟩ := h.1 x (List.mem_cons_self ..)
      obtain ⟨a1, a2, a3⟩ := h2 j hj
      unfold ndP at hp
      by_cases e : q = 0
      · rw [if_pos e, a1] at hp
        simp only [Bool.true_and, decide_eq_true_eq] at hp
        omega
      · rw [if_neg e, a1, a3] at hp
        cases hp
/-- Between two nodes. -/
structure NdSt (w wr : World) (b G3 G5 : Nat) (fan : Int) (i : Nat) (f : Int → Nat) : Prop where
  im : IM wr b i f
  g3 : BX wr G3 3 #[.int .i64 fan]
  g5 : BX wr G5 53 #[.map (some b)]
  bl : Below w.heap.size w wr
  ge : w.heap.size ≤ b
theorem NdSt.keep {w wr w' : World} {b G3 G5 i : Nat} {fan : Int} {f : Int → Nat} (h : NdSt w wr b G3 G5 fan i f) (hb : Below wr.heap.size wr w') : NdSt w w' b G3 G5 fan i f :=
  ⟨h.im.keep hb, h.g3.below hb, h.g5.below hb, h.bl.trans (hb.mono h.bl.size), h.ge⟩
theorem NdSt.turn {w wr w' : World} {b G3 G5 i i' : Nat} {fan : Int} {f f' : Int → Nat} (h : NdSt w wr b G3 G5 fan i f) (ht : Turn (fun j => j = b) wr w') (hm : IM w' b i' f') : NdSt w w' b G3 G5 fan i' f' :=
  ⟨hm, (ht.block G3 (lt_of_block h.g3) (fun e => h.im.nocells _ _ (by have := h.g3; unfold BX at this; rw [← e]; exact this))).trans h.g3, (ht.block G5 (lt_of_block h.g5) (fun e => h.im.nocells _ _ (by have := h.g5; unfold BX at this; rw [← e]; exact this))).trans h.g5, h.bl.trans (ht.below (fun j e => by rw [show j = b from e]; exact h.ge) h.bl.size), h.ge⟩
theorem NdSt.block {w wr w' : World} {b G3 G5 i : Nat} {fan : Int} {f : Int → Nat} (h : NdSt w wr b G3 G5 fan i f) (hb : Below w.heap.size wr w') (h1 : w'.heap[b]? = wr.heap[b]?) (h3 : w'.heap[G3]? = wr.heap[G3]?) (h5 : w'.heap[G5]? = wr.heap[G5]?) : NdSt w w' b G3 G5 fan i f :=
  ⟨h.im.block h1, h3.trans h.g3, h5.trans h.g5, h.bl.trans hb, h.ge⟩
theorem NdSt.grown {w wr w' : World} {b G3 G5 i B : Nat} {fan : Int} {f : Int → Nat} {v : Value} {fs : List (Int × Int)} (h : NdSt w wr b G3 G5 fan i f) (hg : wr.grownBy w' v.ownBlock) (hv : FlV wr B v fs) (hB : w.heap.size ≤ B) : NdSt w w' b G3 G5 fan i f := by
  refine ⟨h.im.block (hg.block b h.im.lt (fun e => ?_)), (hg.block G3 (lt_of_block h.g3) (fun e => ?_)).trans h.g3, (hg.block G5 (lt_of_block h.g5) (fun e => ?_)).trans h.g5, h.bl.grown hg h.bl.size (fun i hi => Nat.le_trans hB (fv_block hv hi).1), h.ge⟩
  · obtain ⟨_, cs9, h9⟩ := fv_block hv e.symm
    exact h.im.nocells _ _ h9
  · obtain ⟨_, cs9, h9⟩ := fv_block hv e.symm
    exact bx_no2 h.g3 (by decide) cs9 h9
  · obtain ⟨_, cs9, h9⟩ := fv_block hv e.symm
    exact bx_no2 h.g5 (by decide) cs9 h9
set_option maxHeartbeats 8000000 in
set_option maxRecDepth 100000 in
theorem flawsOfNodes_all (w0 : World) (ao : Option Addr) (n c : Nat) (ks : List Kn) (fan : Int) (w : World) (hb0 : Below w0.heap.size w0 w) (h : KsAt (PV w0) w (.slice ao n c) ks) (hn : n ≤ 1000000) (hfit : ∀ j, j < n → FitN (kAt ks j).n ∧ (Lit.int .i64 (kAt ks j).c).wf = true) :
    Calls Try.prog 23 #[.slice ao n c, .int .i64 fan] w fun e w' => (∃ v fs, e = .returned v ∧ FlV w' w.heap.size v fs ∧ (fs = [] ↔ NdOk fan ks) ∧ (ks = [] → fs = [(1, 0)])) ∧ Below w.heap.size w w' := by
  have hmk : ∀ W, (Instr.makeMap 53 none).run Try.prog W = .ok (.map (some W.heap.size)) (W.alloc (.map #[] 0)) := fun W => run_makeMap _ W
  obtain ⟨G3, hG3⟩ : ∃ g, g = w.heap.size := ⟨_, rfl⟩
  obtain ⟨b, hb⟩ : ∃ g, g = w.heap.size + 1 := ⟨_, rfl⟩
  obtain ⟨G5, hG5⟩ : ∃ g, g = w.heap.size + 1 + 1 := ⟨_, rfl⟩
  obtain ⟨W3, hW3⟩ : ∃ W, W = ((w.alloc (.cells #[.int .i64 fan] 3)).alloc (.map #[] 0)).alloc (.cells #[.map (some b)] 53) := ⟨_, rfl⟩
  have hst : NdSt w W3 b G3 G5 fan 0 (fun c => cnt (ks.take 0) c) := by
    have x1 : BX (w.alloc (.cells #[.int .i64 fan] 3)) w.heap.size 3 #[.int .i64 fan] := BX.new w _ _
    have b1 := boxed_below w (.cells #[.int .i64 fan] 3)
    have m2 := IM.made (w.alloc (.cells #[.int .i64 fan] 3))
    have b2 := boxed_below (w.alloc (.cells #[.int .i64 fan] 3)) (.map #[] 0)
    have b3 := boxed_below ((w.alloc (.cells #[.int .i64 fan] 3)).alloc (.map #[] 0)) (.cells #[.map (some b)] 53)
    have x3 := BX.new ((w.alloc (.cells #[.int .i64 fan] 3)).alloc (.map #[] 0)) 53 #[.map (some b)]
    rw [World.size_alloc, World.size_alloc, ← hG5] at x3
    rw [World.size_alloc, ← hb] at m2
    rw [hW3]
    refine ⟨m2.keep b3, by rw [hG3]; exact (x1.below b2).below b3, x3, (b1.trans (b2.mono b1.size)).trans (b3.mono (Nat.le_trans b1.size b2.size)), by omega⟩
  have HST := Lib.hid hst
  have HK := Lib.hid h
  have H0 := Lib.hid hb0
  have HFIT := Lib.hid hfit
  have hl := h.len
  have HL := Lib.hid hl.1
  have hl2 := hl.2
  have HG := Lib.hid (show G3 = w.heap.size ∧ b = w.heap.size + 1 ∧ G5 = w.heap.size + 1 + 1 from ⟨hG3, hb, hG5⟩)
  have HW3 := Lib.hid hW3
  obtain ⟨i0, hi, hz0, hz1, hz2⟩ := info_parts infoFlaw
  have HI := Lib.hid (show _ ∧ _ ∧ _ ∧ _ from ⟨hi, hz0, hz1, hz2⟩)
  clear h hb0 hfit hl hst hG3 hb hG5 hW3 hi hz0 hz1 hz2
  go_enter Try.func23, Try.ntmps23
  go_upto_region 2 with fail
  try simp only [World.size_alloc]
  rw [← HG.out.2.2, ← HG.out.2.1, ← HG.out.1, ← HW3.out]
  clear HW3 hmk
  go_wp2
  go_loopw [12] (fun s wr => ∃ i : Nat, s = .int .i64 i ∧ i ≤ n ∧ Hid (NdSt w wr b G3 G5 fan i (fun c => cnt (ks.take i) c))) (fun s _ => n - (intOf s).toNat)
  case atStart => exact ⟨0, rfl, Nat.zero_le _, HST⟩
  case round =>
    obtain ⟨i, rfl, hi, HS⟩ := hrel
    by_cases hlt : i < n
    · have hlt' : (i : Int) < n := by omega
      obtain ⟨g, o, ak, nk, ck, av, nv, cv, ac, nc, cc, rfl, hP, hc⟩ := HK.out.get hlt
      obtain ⟨q0, q1, q2, q3, q4, q5, q6, q7, q8, q9, q10⟩ := hc _ HS.out.bl
      obtain ⟨kn, hkn⟩ : ∃ kn, kn = kAt ks i := ⟨_, rfl⟩
      rw [← hkn] at q0 q1 q2 q3 q4 q5 q6 q7 hP
      obtain ⟨rfl, rfl, rfl, _⟩ := PV.ndF hP
      have hx2 := boxed_below wr (.cells #[.int .i64 kn.c, .int .u64 kn.wd, .int .u64 kn.vr, .int .i64 kn.n.lv, .string kn.n.lo, .string kn.n.hi, .bool kn.n.la, .int .i64 kn.n.nx, .slice ak kn.n.ks.length ck, .slice av kn.n.vs.length cv, .slice ac kn.n.cs.length cc] 40)
      have n2 := BX.new wr 40 #[.int .i64 kn.c, .int .u64 kn.wd, .int .u64 kn.vr, .int .i64 kn.n.lv, .string kn.n.lo, .string kn.n.hi, .bool kn.n.la, .int .i64 kn.n.nx, .slice ak kn.n.ks.length ck, .slice av kn.n.vs.length cv, .slice ac kn.n.cs.length cc]
      obtain ⟨G7, hG7⟩ : ∃ g, g = wr.heap.size := ⟨_, rfl⟩
      rw [← hG7] at n2
      have HG7 := Lib.hid hG7
      have HKN := Lib.hid hkn
      have HWF := Lib.hid (show (Lit.int .i64 kn.c).wf = true by rw [hkn]; exact (HFIT.out i hlt).2)
      clear hc hkn hG7 hP
      go_upto_region 5 with fail
      rw [← HG7.out]
      obtain ⟨W2, hW2⟩ : ∃ W, W = wr.alloc (.cells #[.int .i64 kn.c, .int .u64 kn.wd, .int .u64 kn.vr, .int .i64 kn.n.lv, .string kn.n.lo, .string kn.n.hi, .bool kn.n.la, .int .i64 kn.n.nx, .slice ak kn.n.ks.length ck, .slice av kn.n.vs.length cv, .slice ac kn.n.cs.length cc] 40) := ⟨_, rfl⟩
      rw [← hW2] at hx2 n2 ⊢
      have HS2 := Lib.hid (HS.out.keep hx2)
      have m0 : W2.cell? ⟨G5, 0, none⟩ = some (.map (some b)) := HS2.out.g5.cell 0 rfl
      have k0 : W2.cell? ⟨G7, 0, none⟩ = some (.int .i64 kn.c) := n2.cell 0 rfl
      have hlook := HS2.out.im.look HWF.out
      obtain ⟨z, hz⟩ : ∃ z : Nat, z = cnt (ks.take i) kn.c := ⟨_, rfl⟩
      have hzi : z ≤ 1000000 := by
        have h1 := cnt_le (ks.take i) kn.c
        rw [List.length_take] at h1
        omega
      have hzi' : (z : Int) ≤ 1000000 := by omega
      have hz0 : (0 : Int) ≤ z := by omega
      rw [← hz] at hlook
      obtain ⟨w5, hrun, hm5, ht5⟩ := HS2.out.im.store (by omega) HWF.out (z + 1) (by omega)
      rw [show (((z + 1 : Nat)) : Int) = (z : Int) + 1 by omega] at hrun
      have HS5 := Lib.hid (show NdSt w w5 b G3 G5 fan (i + 1) (fun c => cnt (ks.take (i + 1)) c) from by
        have h5 := HS2.out.turn ht5 hm5
        rw [cnt_more (by have := HL.out; omega), ← HKN.out, ← hz]
        exact h5)
      clear q0 q1 q2 q3 q4 q5 q6 q7 q8 q9 q10 hx2 n2 hW2 hz hm5 ht5 HS HS2
      go_wp2
      go_roundw
      case rel => exact ⟨i + 1, by go_num, by omega, HS5⟩
      case measure => simp [intOf]; omega
    · obtain rfl : i = n := by omega
      rw [show ks.take i = ks from by rw [HL.out]; exact List.take_length] at HS
      have m0 : wr.cell? ⟨G5, 0, none⟩ = some (.map (some b)) := HS.out.g5.cell 0 rfl
      have hlook := HS.out.im.look (c := 0) (by decide)
      obtain ⟨z, hz⟩ : ∃ z : Nat, z = cnt ks 0 := ⟨_, rfl⟩
      rw [← hz] at hlook
      have HZ := Lib.hid hz
      clear hlt hi hz
      go_upto_if 24 with fail
      go_cut [8] (fun v8 wx => Hid (∃ f0, FlV wx w.heap.size v8 f0 ∧ ((f0 = [] ↔ 0 < cnt ks 0) ∧ (cnt ks 0 = 0 → f0 = [(1, 0)])) ∧ f0.length ≤ 1 ∧ NdSt w wx b G3 G5 fan i (fun c => cnt ks c)))
      case first =>
        by_cases hz : z = 0
        · subst hz
          have n1 := BX.new wr 47 #[.int .i64 1, .int .i64 0]
          have hnews := World.news_of_block (cs := #[.int .i64 1, .int .i64 0]) (heap_alloc_new wr (.cells #[.int .i64 1, .int .i64 0] 47))
          have hone : ∀ u ∈ [Value.int .i64 1, Value.int .i64 0], u.oneCell' = true := by intro u hu; simp at hu; rcases hu with rfl | rfl <;> rfl
          have HH := Lib.hid (show _ ∧ _ from ⟨hnews, hone⟩)
          have hxa := boxed_below wr (.cells #[.int .i64 1, .int .i64 0] 47)
          have HSA := Lib.hid (HS.out.keep hxa)
          have HBASE := Lib.hid (HS.out.bl.size)
          clear n1 hnews hone hxa m0 hlook
          go_wp2_with ((with_reducible show wpList _ _ _ (⟨some 28, _, _, _, _, _⟩ :: _) _ _); refine wpList_append_own (o := ⟨some 28, _, _, _, _, _⟩) _ rfl _ _ 42 rfl w.heap.size 47 i0 (.agg #[.int .i64 0, .int .i64 0]) 2 16 Try.underlying42 HI.out.1 HI.out.2.1 HI.out.2.2.1 HI.out.2.2.2 rfl (by decide) _ _ _ rfl (FlV.nil _ _) ⟨wr.heap.size, 0, none⟩ 1 1 [.int .i64 1, .int .i64 0] rfl rfl HH.out.1 HH.out.2 (by unfold maxLen; decide) (by decide) (by rw [World.size_alloc]; have := HBASE.out; omega) ?_)
          intro v4 w4 hown4 hgrow4 _
          have HFV4 := Lib.hid (show FlV w4 w.heap.size v4 [(1, 0)] from hown4)
          have HB4 := Lib.hid (HSA.out.grown hgrow4 (FlV.nil _ w.heap.size) (Nat.le_refl _))
          clear hown4 hgrow4
          go_wp2
          go_meet
          exact Lib.hid ⟨[(1, 0)], HFV4.out, ⟨by rw [← HZ.out]; simp, fun _ => rfl⟩, Nat.le_refl _, HB4.out⟩
        · have hz0 : (((z : Int)) == 0) = false := beq_eq_false_iff_ne.2 (by omega)
          have HNZ := Lib.hid (show 0 < cnt ks 0 by rw [← HZ.out]; omega)
          clear hz m0 hlook
          go_wp2
          go_meet
          exact Lib.hid ⟨[], FlV.nil _ _, ⟨by have := HNZ.out; simp [this], fun e => absurd e (by have := HNZ.out; omega)⟩, Nat.zero_le _, HS.out⟩
      case rest =>
        obtain ⟨f0, hf0, h00, hl0, hs⟩ := hcut.out
        have hx := boxed_below wc (.cells #[.int .i64 2, .func (.func 41) #[] #[.pointer (some ⟨G5, 0, none⟩)], .int .i64 3, .func (.func 43) #[] #[.pointer (some ⟨G3, 0, none⟩)]] 76)
        have n1 := BX.new wc 76 #[.int .i64 2, .func (.func 41) #[] #[.pointer (some ⟨G5, 0, none⟩)], .int .i64 3, .func (.func 43) #[] #[.pointer (some ⟨G3, 0, none⟩)]]
        obtain ⟨RB, hRB⟩ : ∃ g, g = wc.heap.size := ⟨_, rfl⟩
        rw [← hRB] at n1
        obtain ⟨W2, hW2⟩ : ∃ W, W = wc.alloc (.cells #[.int .i64 2, .func (.func 41) #[] #[.pointer (some ⟨G5, 0, none⟩)], .int .i64 3, .func (.func 43) #[] #[.pointer (some ⟨G3, 0, none⟩)]] 76) := ⟨_, rfl⟩
        rw [← hW2] at hx n1
        have hs2 := hs.keep hx
        have hf2 := hf0.keep hx
        have HBW := Lib.hid hs2.bl
        have HCALL := Lib.hid (found2_any w0 ao i c RB G3 G5 ks (ndP fan ks) W2 (H0.out.trans (HBW.out.mono H0.out.size)) (HK.out.keep HBW.out) hn n1
          (fun j W v hj hb hv => by
            rw [show ndP fan ks 0 j = (cellB (kAt ks j).c && decide (1 < cnt ks (kAt ks j).c)) from by unfold ndP; rw [if_pos rfl]]
            exact fon1_any G5 b i (fun c => cnt ks c) (kAt ks j) v W hv (HFIT.out j hj).2 (hs2.g5.below hb) (hs2.im.keep hb))
          (fun j W v hj hb hv => by
            rw [show ndP fan ks 1 j = !(cellB (kAt ks j).c && soundB fan (kAt ks j).n) from by unfold ndP; rw [if_neg (by decide)]]
            exact fon2_any G3 fan (kAt ks j) v W hv (HFIT.out j hj).1 (hs2.g3.below hb)))
        have HF2 := Lib.hid hf2
        have H00 := Lib.hid h00
        have HRB := Lib.hid hRB
        have HW2 := Lib.hid hW2
        clear hx n1 hRB hW2 hs2 hf2 hs hf0 h00 m0 hlook HFIT hcut
        go_wp2_with (rw [← HRB.out, ← HW2.out]; refine HCALL.out.mono ?_)
        rintro e w5 ⟨⟨v5, fs, rfl, hf5, hfd, hlen⟩, hb5⟩
        have hf3 := HF2.out.keep hb5
        have HB5 := Lib.hid (HBW.out.trans (hb5.mono HBW.out.size))
        have HND := Lib.hid (show (f0 ++ fs = [] ↔ NdOk fan ks) ∧ (ks = [] → f0 ++ fs = [(1, 0)]) from ⟨ndok_of H00.out.1 (HL.out ▸ hfd), fun e => by
          subst e
          rw [H00.out.2 rfl, show fs = [] from by
            cases fs with
            | nil => rfl
            | cons x l =>
              obtain ⟨_, q, _, hq, _⟩ := (show FoundP 2 0 (ndP fan []) 2 (x :: l) from (show i = 0 from HL.out) ▸ hfd).1 x (List.mem_cons_self ..)
              exact absurd hq (Nat.not_lt_zero _)]
          rfl⟩)
        rcases hf5.form with ⟨rfl, rfl⟩ | ⟨g, c5, rfl, hr⟩
        · have HF3 := Lib.hid hf3
          clear hf5 hfd hlen hb5 hf3
          go_wp2_with ((with_reducible show wpList _ _ _ (⟨some 37, _, _, _, _, _⟩ :: _) _ _); refine wpList_append_own_none (o := ⟨some 37, _, _, _, _, _⟩) rfl _ _ 42 rfl w.heap.size 47 i0 2 Try.underlying42 HI.out.1 u8 _ _ rfl HF3.out rfl ?_)
          go_wp2
          go_ret
          exact ⟨⟨u8, f0, rfl, HF3.out, by have := HND.out; rwa [List.append_nil] at this⟩, HB5.out⟩
        · have HF3 := Lib.hid hf3
          have HNW := Lib.hid (show _ ∧ _ from ⟨hr.own.cells (g := g) rfl, flC_one fs⟩)
          obtain ⟨n9, hn9⟩ : ∃ n9, n9 = fs.length := ⟨_, rfl⟩
          have HLF := Lib.hid (show (flC fs).length = n9 * 2 by rw [hn9]; exact flC_len fs)
          have hlen9 : n9 ≤ 2 * i := by rw [hn9]; exact hlen
          have HN9 := Lib.hid hn9
          obtain ⟨n8, hn8⟩ : ∃ n8, n8 = f0.length := ⟨_, rfl⟩
          have HN8 := Lib.hid hn8
          have HOW := Lib.hid (show w5.ownsRow w.heap.size 47 2 u8 n8 (flC f0) by rw [hn8]; exact hf3)
          rw [← hn8] at hl0
          rw [← hn9]
          clear hf5 hfd hlen hb5 hf3 hr hn9 hn8
          go_wp2_with ((with_reducible show wpList _ _ _ (⟨some 37, _, _, _, _, _⟩ :: _) _ _); refine wpList_append_own (o := ⟨some 37, _, _, _, _, _⟩) _ rfl _ _ 42 rfl w.heap.size 47 i0 (.agg #[.int .i64 0, .int .i64 0]) 2 16 Try.underlying42 HI.out.1 HI.out.2.1 HI.out.2.2.1 HI.out.2.2.2 rfl (by decide) u8 n8 _ rfl HOW.out ⟨g, 0, none⟩ n9 c5 (flC fs) rfl HLF.out HNW.out.1 HNW.out.2 (by unfold maxLen; omega) (by omega) (HB5.out.size) ?_)
          intro v6 w6 hown6 hgrow6 _
          have HF6 := Lib.hid (show FlV w6 w.heap.size v6 (f0 ++ fs) from by
            unfold FlV
            rw [List.length_append, flC_app, ← HN9.out, ← HN8.out]
            exact hown6)
          have HB6 := Lib.hid (HB5.out.grown hgrow6 HB5.out.size (fun i hi => (fv_block HF3.out hi).1))
          clear hown6 hgrow6
          go_wp2
          go_ret
          exact ⟨⟨v6, f0 ++ fs, rfl, HF6.out, HND.out⟩, HB6.out⟩
theorem flawsOfNodes_any (w0 : World) (ao : Option Addr) (n c : Nat) (ks : List Kn) (fan : Int) (w : World) (hb0 : Below w0.heap.size w0 w) (h : KsAt (PV w0) w (.slice ao n c) ks) (hn : n ≤ 1000000) (hfit : ∀ j, j < n → FitN (kAt ks j).n ∧ (Lit.int .i64 (kAt ks j).c).wf = true) :
    Calls Try.prog 23 #[.slice ao n c, .int .i64 fan] w fun e w' => (∃ v fs, e = .returned v ∧ FlV w' w.heap.size v fs ∧ (fs = [] ↔ NdOk fan ks)) ∧ Below w.heap.size w w' :=
  (flawsOfNodes_all w0 ao n c ks fan w hb0 h hn hfit).mono (fun e w' hp => by
    obtain ⟨⟨v, fs, h1, h2, h3, _⟩, h4⟩ := hp
    exact ⟨⟨v, fs, h1, h2, h3⟩, h4⟩)
end Go.Proofs.Ytgaacoeggikbpaa

namespace Go.Proofs.Ytgaacoeggikbpaa
open Go.RowKit Go.Maps

/-- Of how many nodes a cell is a kid. -/
def kids (ks : List Kn) : List Int := ks.flatMap (fun k => k.n.cs)
def cin (l : List Int) (c : Int) : Nat := l.countP (fun x => decide (x = c))
def par (ks : List Kn) (c : Int) : Nat := cin (kids ks) c
theorem cin_le (l : List Int) (c : Int) : cin l c ≤ l.length := List.countP_le_length
theorem cin_more (l : List Int) (x : Int) : (fun c => cin (l ++ [x]) c) = fun c => if c = x then cin l x + 1 else cin l c := by
  funext c
  unfold cin
  rw [List.countP_append]
  by_cases e : c = x
  · subst e
    simp
  · have : ¬ x = c := fun h => e h.symm
    simp [e, this]
theorem kids_more {ks : List Kn} {i : Nat} (h : i < ks.length) : kids (ks.take (i + 1)) = kids (ks.take i) ++ (kAt ks i).n.cs := by
  unfold kids
  rw [List.take_succ_eq_append_getElem h, List.flatMap_append, kAt_eq h]
  simp
theorem kids_len {ks : List Kn} : ∀ {i : Nat}, i ≤ ks.length → (∀ j, j < ks.length → (kAt ks j).n.cs.length ≤ 80) → (kids (ks.take i)).length ≤ 80 * i
  | 0, _, _ => by simp [kids]
  | i + 1, h, hc => by
    rw [kids_more (by omega), List.length_append]
    have h1 := kids_len (i := i) (by omega) hc
    have h2 := hc i (by omega)
    omega
theorem bx_put {V : World} {A : Nat} {t : TypeId} {cs : Array Value} (h : BX V A t cs) (i : Nat) (u : Value) : BX (V.setCell ⟨A, i, none⟩ u) A t (cs.setIfInBounds i u) := heap_setCell_same V A i cs t u h
/-- A node's numbers are numbers. -/
structure WfK (kn : Kn) : Prop where
  c : (Lit.int .i64 kn.c).wf = true
  nx : (Lit.int .i64 kn.n.nx).wf = true
  cs : ∀ x ∈ kn.n.cs, (Lit.int .i64 x).wf = true
/-- Between two nodes, or two kids. -/
structure TrS (w0 w wr : World) (bn bp G2 G3 : Nat) (ks : List Kn) (i N : Nat) (f : Int → Nat) : Prop where
  nm : NM w0 wr bn i (ks.take i)
  im : IM wr bp N f
  g2 : BX wr G2 55 #[.map none, .map none]
  g3 : BX wr G3 55 #[.map (some bn), .map (some bp)]
  bl : Below w.heap.size w wr
  ge : w.heap.size ≤ bn ∧ w.heap.size ≤ bp ∧ w.heap.size ≤ G2 ∧ bn ≠ bp
section
variable {w0 w wr w' : World} {bn bp G2 G3 i i' N N' : Nat} {ks : List Kn} {f f' : Int → Nat}
theorem TrS.keep (h : TrS w0 w wr bn bp G2 G3 ks i N f) (hb : Below wr.heap.size wr w') : TrS w0 w w' bn bp G2 G3 ks i N f :=
  ⟨h.nm.keep hb, h.im.keep hb, h.g2.below hb, h.g3.below hb, h.bl.trans (hb.mono h.bl.size), h.ge⟩
theorem bx_off {T : TypeId} {cs : Array Value} {G b : Nat} (hg : BX wr G T cs) (hno : ∀ cs t, wr.heap[b]? = some (Obj.cells cs t (0, 0)) → False) (ht : Turn (fun j => j = b) wr w') : BX w' G T cs :=
  (ht.block G (lt_of_block hg) (fun e => hno _ _ (by have := hg; unfold BX at this; rw [← e]; exact this))).trans hg
theorem TrS.node (h : TrS w0 w wr bn bp G2 G3 ks i N f) (ht : Turn (fun j => j = bn) wr w') (hm : NM w0 w' bn i' (ks.take i')) : TrS w0 w w' bn bp G2 G3 ks i' N f :=
  ⟨hm, h.im.block (ht.block bp h.im.lt (fun e => h.ge.2.2.2 e.symm)), bx_off h.g2 h.nm.nocells ht, bx_off h.g3 h.nm.nocells ht, h.bl.trans (ht.below (fun j e => by rw [show j = bn from e]; exact h.ge.1) h.bl.size), h.ge⟩
theorem TrS.kid (h : TrS w0 w wr bn bp G2 G3 ks i N f) (ht : Turn (fun j => j = bp) wr w') (hm : IM w' bp N' f') : TrS w0 w w' bn bp G2 G3 ks i N' f' :=
  ⟨h.nm.block (ht.block bn h.nm.lt (fun e => h.ge.2.2.2 e)), hm, bx_off h.g2 h.im.nocells ht, bx_off h.g3 h.im.nocells ht, h.bl.trans (ht.below (fun j e => by rw [show j = bp from e]; exact h.ge.2.1) h.bl.size), h.ge⟩
end
set_option maxHeartbeats 8000000 in
set_option maxRecDepth 100000 in
theorem treeOf_any (w0 : World) (ao : Option Addr) (n c : Nat) (ks : List Kn) (w : World) (hb0 : Below w0.heap.size w0 w) (h : KsAt (PV w0) w (.slice ao n c) ks) (hn : n ≤ 1000000) (hfit : ∀ j, j < n → (kAt ks j).n.cs.length ≤ 80 ∧ WfK (kAt ks j)) (hone : ∀ i, i < n → kfind (ks.take i) (kAt ks i).c = none) :
    Calls Try.prog 15 #[.slice ao n c] w fun e w' => (∃ bn bp N, e = .returned (.agg #[.map (some bn), .map (some bp)]) ∧ NM w0 w' bn n ks ∧ IM w' bp N (fun x => par ks x)) ∧ Below w.heap.size w w' := by
  obtain ⟨G2, hG2⟩ : ∃ g, g = w.heap.size := ⟨_, rfl⟩
  obtain ⟨bn, hbn⟩ : ∃ g, g = w.heap.size + 1 := ⟨_, rfl⟩
  obtain ⟨bp, hbp⟩ : ∃ g, g = w.heap.size + 1 + 1 := ⟨_, rfl⟩
  obtain ⟨G3, hG3⟩ : ∃ g, g = w.heap.size + 1 + 1 + 1 := ⟨_, rfl⟩
  obtain ⟨W4, hW4⟩ : ∃ W, W = (((w.alloc (.cells #[.map none, .map none] 55)).alloc (.map #[] 0)).alloc (.map #[] 0)).alloc (.cells #[.map (some bn), .map (some bp)] 55) := ⟨_, rfl⟩
  have hst : TrS w0 w W4 bn bp G2 G3 ks 0 0 (fun c => cin (kids (ks.take 0)) c) := by
    have x1 := BX.new w 55 #[.map none, .map none]
    have b1 := boxed_below w (.cells #[.map none, .map none] 55)
    obtain ⟨W1, hW1⟩ : ∃ W, W = w.alloc (.cells #[.map none, .map none] 55) := ⟨_, rfl⟩
    have s1 : W1.heap.size = w.heap.size + 1 := by rw [hW1]; exact World.size_alloc _ _
    rw [← hW1] at x1 b1 hW4
    have m2 := NM.made w0 W1
    have b2 := boxed_below W1 (.map #[] 0)
    obtain ⟨W2, hW2⟩ : ∃ W, W = W1.alloc (.map #[] 0) := ⟨_, rfl⟩
    have s2 : W2.heap.size = w.heap.size + 1 + 1 := by rw [hW2, World.size_alloc, s1]
    rw [← hW2] at m2 b2 hW4
    have m3 := IM.made W2
    have b3 := boxed_below W2 (.map #[] 0)
    obtain ⟨W3, hW3⟩ : ∃ W, W = W2.alloc (.map #[] 0) := ⟨_, rfl⟩
    have s3 : W3.heap.size = w.heap.size + 1 + 1 + 1 := by rw [hW3, World.size_alloc, s2]
    rw [← hW3] at m3 b3 hW4
    have x4 := BX.new W3 55 #[.map (some bn), .map (some bp)]
    have b4 := boxed_below W3 (.cells #[.map (some bn), .map (some bp)] 55)
    rw [← hW4] at x4 b4
    rw [s3, ← hG3] at x4
    rw [s1, ← hbn] at m2
    rw [s2, ← hbp] at m3
    rw [← hG2] at x1
    refine ⟨(m2.keep b3).keep b4, m3.keep b4, ((x1.below b2).below b3).below b4, x4, ((b1.trans (b2.mono b1.size)).trans (b3.mono (Nat.le_trans b1.size b2.size))).trans (b4.mono (by rw [s3]; omega)), by omega⟩
  have hmk : ∀ W, (Instr.makeMap 53 none).run Try.prog W = .ok (.map (some W.heap.size)) (W.alloc (.map #[] 0)) := fun W => run_makeMap _ W
  have hmk2 : ∀ W, (Instr.makeMap 52 none).run Try.prog W = .ok (.map (some W.heap.size)) (W.alloc (.map #[] 0)) := fun W => run_makeMap _ W
  have HST := Lib.hid hst
  have HK := Lib.hid h
  have H0 := Lib.hid hb0
  have HFIT := Lib.hid hfit
  have HONE := Lib.hid hone
  have hl := h.len
  have HL := Lib.hid hl.1
  have hl2 := hl.2
  have HG := Lib.hid (show G2 = w.heap.size ∧ bn = w.heap.size + 1 ∧ bp = w.heap.size + 1 + 1 ∧ G3 = w.heap.size + 1 + 1 + 1 from ⟨hG2, hbn, hbp, hG3⟩)
  have HW4 := Lib.hid hW4
  clear h hb0 hfit hone hl hst hG2 hbn hbp hG3 hW4
  go_enter Try.func15, Try.ntmps15
  go_upto_region 2 with fail
  try simp only [World.size_alloc]
  rw [← HG.out.2.2.2, ← HG.out.2.2.1, ← HG.out.2.1, ← HG.out.1, ← HW4.out]
  clear HW4 hmk hmk2
  go_wp2
  go_loopw [13] (fun s wr => ∃ i : Nat, s = .int .i64 i ∧ i ≤ n ∧ Hid (∃ N, N ≤ 80 * i ∧ TrS w0 w wr bn bp G2 G3 ks i N (fun c => cin (kids (ks.take i)) c))) (fun s _ => n - (intOf s).toNat)
  case atStart => exact ⟨0, rfl, Nat.zero_le _, Lib.hid ⟨0, Nat.zero_le _, HST.out⟩⟩
  case round =>
    obtain ⟨i, rfl, hi, HS0⟩ := hrel
    obtain ⟨N, hN, HS⟩ := HS0.out
    have HS := Lib.hid HS
    clear HS0
    by_cases hlt : i < n
    · have hlt' : (i : Int) < n := by omega
      obtain ⟨g, o, ak, nk, ck, av, nv, cv, ac, nc, cc, rfl, hP, hc⟩ := HK.out.get hlt
      obtain ⟨q0, q1, q2, q3, q4, q5, q6, q7, q8, q9, q10⟩ := hc _ HS.out.bl
      obtain ⟨kn, hkn⟩ : ∃ kn, kn = kAt ks i := ⟨_, rfl⟩
      rw [← hkn] at q0 q1 q2 q3 q4 q5 q6 q7 hP
      obtain ⟨rfl, rfl, rfl, hNd⟩ := PV.ndF hP
      have hx2 := boxed_below wr (.cells #[.int .i64 kn.c, .int .u64 kn.wd, .int .u64 kn.vr, .int .i64 kn.n.lv, .string kn.n.lo, .string kn.n.hi, .bool kn.n.la, .int .i64 kn.n.nx, .slice ak kn.n.ks.length ck, .slice av kn.n.vs.length cv, .slice ac kn.n.cs.length cc] 40)
      have n2 := BX.new wr 40 #[.int .i64 kn.c, .int .u64 kn.wd, .int .u64 kn.vr, .int .i64 kn.n.lv, .string kn.n.lo, .string kn.n.hi, .bool kn.n.la, .int .i64 kn.n.nx, .slice ak kn.n.ks.length ck, .slice av kn.n.vs.length cv, .slice ac kn.n.cs.length cc]
      obtain ⟨G5, hG5⟩ : ∃ g, g = wr.heap.size := ⟨_, rfl⟩
      rw [← hG5] at n2
      have HG5 := Lib.hid hG5
      have HKN := Lib.hid hkn
      have hwf := (HFIT.out i hlt).2
      have hcl := (HFIT.out i hlt).1
      have hnew := HONE.out i hlt
      rw [← hkn] at hwf hcl hnew
      have HWF := Lib.hid hwf
      have HND := Lib.hid hNd
      clear hc hkn hG5 hP
      go_upto_region 5 with fail
      rw [← HG5.out]
      obtain ⟨W2, hW2⟩ : ∃ W, W = wr.alloc (.cells #[.int .i64 kn.c, .int .u64 kn.wd, .int .u64 kn.vr, .int .i64 kn.n.lv, .string kn.n.lo, .string kn.n.hi, .bool kn.n.la, .int .i64 kn.n.nx, .slice ak kn.n.ks.length ck, .slice av kn.n.vs.length cv, .slice ac kn.n.cs.length cc] 40) := ⟨_, rfl⟩
      rw [← hW2] at hx2 n2 ⊢
      have HS2 := Lib.hid (HS.out.keep hx2)
      have m0 : W2.cell? ⟨G3, 0, none⟩ = some (.map (some bn)) := HS2.out.g3.cell 0 rfl
      have k0 := n2.cell 0 rfl
      have k3 := n2.cell 3 rfl
      have k4 := n2.cell 4 rfl
      have k5 := n2.cell 5 rfl
      have k6 := n2.cell 6 rfl
      have k7 := n2.cell 7 rfl
      have k8 := n2.cell 8 rfl
      have k9 := n2.cell 9 rfl
      have k10 := n2.cell 10 rfl
      obtain ⟨w5, hrun, hm5, ht5⟩ := HS2.out.nm.store (by omega) HWF.out.c (v := (.agg #[.int .i64 kn.n.lv, .string kn.n.lo, .string kn.n.hi, .bool kn.n.la, .int .i64 kn.n.nx, .slice ak kn.n.ks.length ck, .slice av kn.n.vs.length cv, .slice ac kn.n.cs.length cc])) ⟨ak, av, ac, ck, cv, cc, rfl, HND.out⟩ hnew
      have x5 := bx_off n2 HS2.out.nm.nocells ht5
      have HX5 := Lib.hid x5
      have y10 := x5.cell 10 rfl
      have HS5 := Lib.hid (HS2.out.node ht5 (i' := i + 1) (by
        rw [List.take_succ_eq_append_getElem (by have := HL.out; omega), ← kAt_eq (by have := HL.out; omega), ← HKN.out]
        exact hm5))
      clear q0 q1 q2 q3 q4 q5 q6 q7 q8 q9 q10 hx2 n2 hW2 hm5 ht5 HS HS2 hnew hwf hNd x5
      obtain ⟨m, hm⟩ : ∃ m, m = kn.n.cs.length := ⟨_, rfl⟩
      have HM := Lib.hid hm
      rw [← hm] at hcl hrun k10 y10 HX5 HND
      clear hm
      go_wp2
      clear hrun m0 k0 k3 k4 k5 k6 k7 k8 k9 k10 y10
      go_loopw [27] (fun s wx => ∃ j : Nat, s = .int .i64 j ∧ j ≤ m ∧ Hid (∃ N, N ≤ 80 * i + j ∧ BX wx G5 40 #[.int .i64 kn.c, .int .u64 kn.wd, .int .u64 kn.vr, .int .i64 kn.n.lv, .string kn.n.lo, .string kn.n.hi, .bool kn.n.la, .int .i64 kn.n.nx, .slice ak kn.n.ks.length ck, .slice av kn.n.vs.length cv, .slice ac m cc] ∧ TrS w0 w wx bn bp G2 G3 ks (i + 1) N (fun c => cin (kids (ks.take i) ++ kn.n.cs.take j) c))) (fun s _ => m - (intOf s).toNat)
      case atStart => exact ⟨0, rfl, Nat.zero_le _, Lib.hid ⟨N, by omega, HX5.out, by rw [List.take_zero, List.append_nil]; exact HS5.out⟩⟩
      case round =>
        obtain ⟨j, rfl, hj, HJ0⟩ := hrel
        obtain ⟨N2, hN2, x6, HJ⟩ := HJ0.out
        have HX6 := Lib.hid x6
        have HJ := Lib.hid HJ
        obtain ⟨wx, hwx⟩ : ∃ W : World, W = wr := ⟨_, rfl⟩
        rw [← hwx] at HJ HX6 x6 ⊢
        clear HJ0 hwx HS5
        by_cases hlj : j < m
        · obtain ⟨g2, o2, rfl, hc2⟩ := rd_at HND.out.c (0 : Int) j hlj
          have hcell : wx.cell? ⟨g2, o2 + j, none⟩ = some (.int .i64 (ni kn.n.cs j)) := by
            have h1 := hc2 j hlj
            exact ((H0.out.trans (HJ.out.bl.mono H0.out.size)).cell (p := ⟨g2, o2 + j, none⟩) (World.block_lt_of_cell? w0 _ h1)).trans h1
          have hlj' : (j : Int) < m := by omega
          have hjc : m ≤ cc := (rd_len HND.out.c).2.1
          have hx : (Lit.int .i64 (ni kn.n.cs j)).wf = true := HWF.out.cs _ (by rw [ni_eq (by have := HM.out; omega)]; exact List.getElem_mem _)
          obtain ⟨x, hxx⟩ : ∃ x, x = ni kn.n.cs j := ⟨_, rfl⟩
          rw [← hxx] at hcell hx
          have hlook := HJ.out.im.look hx
          have m1 : wx.cell? ⟨G3, 1, none⟩ = some (.map (some bp)) := HJ.out.g3.cell 1 rfl
          obtain ⟨z, hz⟩ : ∃ z : Nat, z = cin (kids (ks.take i) ++ kn.n.cs.take j) x := ⟨_, rfl⟩
          have hzi : z ≤ 81000000 := by
            have h1 := cin_le (kids (ks.take i) ++ kn.n.cs.take j) x
            rw [List.length_append, List.length_take] at h1
            have h2 := kids_len (ks := ks) (i := i) (by have := HL.out; omega) (fun j hj => (HFIT.out j (by have := HL.out; omega)).1)
            have h3 := HM.out
            have h4 := Nat.min_le_left j kn.n.cs.length
            omega
          have hzi' : (z : Int) ≤ 81000000 := by omega
          have hz0 : (0 : Int) ≤ z := by omega
          rw [← hz] at hlook
          obtain ⟨w6, hrun, hm6, ht6⟩ := HJ.out.im.store (by omega) hx (z + 1) (by omega)
          rw [show (((z + 1 : Nat)) : Int) = (z : Int) + 1 by omega] at hrun
          have HX7 := Lib.hid (bx_off x6 HJ.out.im.nocells ht6)
          have HJ6 := Lib.hid (show TrS w0 w w6 bn bp G2 G3 ks (i + 1) (N2 + 1) (fun c => cin (kids (ks.take i) ++ kn.n.cs.take (j + 1)) c) from by
            rw [List.take_succ_eq_append_getElem (by have := HM.out; omega), ← ni_eq (by have := HM.out; omega), ← hxx, ← List.append_assoc, cin_more, ← hz]
            exact HJ.out.kid ht6 hm6)
          clear hc2 hxx hz hm6 ht6 HJ x6
          go_wp2
          go_roundw
          case rel => exact ⟨j + 1, by go_num, by omega, Lib.hid ⟨N2 + 1, by omega, HX7.out, HJ6.out⟩⟩
          case measure => simp [intOf]; omega
        · obtain rfl : j = m := by omega
          have HE := Lib.hid (show TrS w0 w wx bn bp G2 G3 ks (i + 1) N2 (fun c => cin (kids (ks.take (i + 1))) c) from by
            rw [kids_more (by have := HL.out; omega), ← HKN.out]
            have h1 := HJ.out
            rw [HM.out, List.take_length] at h1
            exact h1)
          clear HJ x6
          go_wp2
          go_roundw
          case rel => exact ⟨i + 1, by go_num, by omega, Lib.hid ⟨N2, by omega, HE.out⟩⟩
          case measure => simp [intOf]; omega
    · obtain rfl : i = n := by omega
      rw [show ks.take i = ks from by rw [HL.out]; exact List.take_length] at HS
      have m0 : wr.cell? ⟨G3, 0, none⟩ = some (.map (some bn)) := HS.out.g3.cell 0 rfl
      have m1 : wr.cell? ⟨G3, 1, none⟩ = some (.map (some bp)) := HS.out.g3.cell 1 rfl
      have l0 : wr.cell? ⟨G2, 0, none⟩ = some (.map none) := HS.out.g2.cell 0 rfl
      have l1 : wr.cell? ⟨G2, 1, none⟩ = some (.map none) := HS.out.g2.cell 1 rfl
      have f0 : wr.frozen? ⟨G2, 0, none⟩ = false := by have h := HS.out.g2; unfold BX at h; simp [World.frozen?, h]
      have f1 : wr.frozen? ⟨G2, 1, none⟩ = false := by have h := HS.out.g2; unfold BX at h; simp [World.frozen?, h]
      have hnm := HS.out.nm
      rw [show ks.take i = ks from by rw [HL.out]; exact List.take_length] at hnm
      have ht := Turn.setCell (S := fun j => j = G2) (Turn.setCell (S := fun j => j = G2) (Turn.refl _ wr) (p := ⟨G2, 0, none⟩) (Or.inl rfl) (.map (some bn))) (p := ⟨G2, 1, none⟩) (Or.inl rfl) (.map (some bp))
      have HE := Lib.hid (show NM w0 _ bn i ks ∧ IM _ bp N (fun c => par ks c) ∧ Below w.heap.size w _ from ⟨hnm.block (ht.block bn hnm.lt (fun e => hnm.nocells _ _ (by have := HS.out.g2; unfold BX at this; rw [show bn = G2 from e]; exact this))), HS.out.im.block (ht.block bp HS.out.im.lt (fun e => HS.out.im.nocells _ _ (by have := HS.out.g2; unfold BX at this; rw [show bp = G2 from e]; exact this))), HS.out.bl.trans (ht.below (fun j e => by rw [show j = G2 from e]; exact HS.out.ge.2.2.1) HS.out.bl.size)⟩)
      have xE := bx_put (bx_put HS.out.g2 0 (.map (some bn))) 1 (.map (some bp))
      obtain ⟨WE, hWE⟩ : ∃ W, W = (wr.setCell ⟨G2, 0, none⟩ (.map (some bn))).setCell ⟨G2, 1, none⟩ (.map (some bp)) := ⟨_, rfl⟩
      rw [← hWE] at HE xE
      have e0 : WE.cell? ⟨G2, 0, none⟩ = some (.map (some bn)) := xE.cell 0 rfl
      have e1 : WE.cell? ⟨G2, 1, none⟩ = some (.map (some bp)) := xE.cell 1 rfl
      have HWE := Lib.hid hWE
      clear hnm ht hlt HS hWE xE
      go_wp2
      rw [← HWE.out]
      refine bodyPost_ret (v := .agg #[.map (some bn), .map (some bp)]) (by simp [results, Try.results15, go_sem, *]) rfl ?_
      exact ⟨⟨bn, bp, N, rfl, HE.out.1, HE.out.2.1⟩, HE.out.2.2⟩
end Go.Proofs.Ytgaacoeggikbpaa
