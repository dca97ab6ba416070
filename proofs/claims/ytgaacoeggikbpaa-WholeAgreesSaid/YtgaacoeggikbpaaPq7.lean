/- whole.found with 6 rules. Condition: few nodes. -/
import Derived.Test.YtgaacoeggikbpaaPq3
namespace Go.Proofs.Ytgaacoeggikbpaa
open Go.RowKit

set_option maxHeartbeats 16000000 in
set_option maxRecDepth 100000 in
theorem found6_any (w0 : World) (ao : Option Addr) (n c RB cb3 cb5 cb6 : Nat) (ks : List Kn) (P : Nat → Nat → Bool) (w : World) (hb0 : Below w0.heap.size w0 w) (h : KsAt (PV w0) w (.slice ao n c) ks) (hn : n ≤ 1000000) (hRB : BX w RB 76 #[.int .i64 4, .func (.func 45) #[] #[], .int .i64 5, .func (.func 47) #[] #[.pointer (some ⟨cb5, 0, none⟩)], .int .i64 6, .func (.func 51) #[] #[.pointer (some ⟨cb5, 0, none⟩)], .int .i64 7, .func (.func 54) #[] #[.pointer (some ⟨cb5, 0, none⟩)], .int .i64 8, .func (.func 56) #[] #[.pointer (some ⟨cb3, 0, none⟩)], .int .i64 9, .func (.func 58) #[] #[.pointer (some ⟨cb6, 0, none⟩)]]) (h0 : ∀ (j : Nat) (W : World) (v : Value), j < n → Below w.heap.size w W → KnV W v (kAt ks j) → Calls Try.prog 45 #[v] W fun e w' => e = .returned (.bool (P 0 j)) ∧ Below W.heap.size W w') (h1 : ∀ (j : Nat) (W : World) (v : Value), j < n → Below w.heap.size w W → KnV W v (kAt ks j) → Calls Try.prog 47 #[v, .pointer (some ⟨cb5, 0, none⟩)] W fun e w' => e = .returned (.bool (P 1 j)) ∧ Below W.heap.size W w') (h2 : ∀ (j : Nat) (W : World) (v : Value), j < n → Below w.heap.size w W → KnV W v (kAt ks j) → Calls Try.prog 51 #[v, .pointer (some ⟨cb5, 0, none⟩)] W fun e w' => e = .returned (.bool (P 2 j)) ∧ Below W.heap.size W w') (h3 : ∀ (j : Nat) (W : World) (v : Value), j < n → Below w.heap.size w W → KnV W v (kAt ks j) → Calls Try.prog 54 #[v, .pointer (some ⟨cb5, 0, none⟩)] W fun e w' => e = .returned (.bool (P 3 j)) ∧ Below W.heap.size W w') (h4 : ∀ (j : Nat) (W : World) (v : Value), j < n → Below w.heap.size w W → KnV W v (kAt ks j) → Calls Try.prog 56 #[v, .pointer (some ⟨cb3, 0, none⟩)] W fun e w' => e = .returned (.bool (P 4 j)) ∧ Below W.heap.size W w') (h5 : ∀ (j : Nat) (W : World) (v : Value), j < n → Below w.heap.size w W → KnV W v (kAt ks j) → Calls Try.prog 58 #[v, .pointer (some ⟨cb6, 0, none⟩)] W fun e w' => e = .returned (.bool (P 5 j)) ∧ Below W.heap.size W w') :
    Calls Try.prog 40 #[.slice ao n c, .slice (some ⟨RB, 0, none⟩) 6 6] w fun e w' => (∃ v fs, e = .returned v ∧ FlV w' w.heap.size v fs ∧ FoundP 6 n P 4 fs ∧ fs.length ≤ 6 * n) ∧ Below w.heap.size w w' := by
  have HK := Lib.hid h
  have HRB := Lib.hid hRB
  have H0 := Lib.hid hb0
  have HR0 := Lib.hid h0
  have HR1 := Lib.hid h1
  have HR2 := Lib.hid h2
  have HR3 := Lib.hid h3
  have HR4 := Lib.hid h4
  have HR5 := Lib.hid h5
  have hl := h.len
  have HL := Lib.hid hl.1
  have hl2 := hl.2
  obtain ⟨i0, hi, hz0, hz1, hz2⟩ := info_parts infoFlaw
  have HI := Lib.hid (show _ ∧ _ ∧ _ ∧ _ from ⟨hi, hz0, hz1, hz2⟩)
  clear h hRB hb0 hl hi hz0 hz1 hz2 h0 h1 h2 h3 h4 h5
  go_enter Try.func40, Try.ntmps40
  go_wp2
  go_loopw [5, 12] (fun v s wr => ∃ r : Nat, s = .int .i64 r ∧ r ≤ 6 ∧ Hid (∃ fs, FlV wr w.heap.size v fs ∧ UpP 6 n P 4 r 0 fs ∧ fs.length ≤ r * n ∧ Below w.heap.size w wr)) (fun _ s _ => 6 - (intOf s).toNat)
  case atStart => exact ⟨0, rfl, Nat.zero_le _, Lib.hid ⟨[], FlV.nil _ _, UpP.start _ _ _ _, by simp, Below.refl _ _⟩⟩
  case round =>
    obtain ⟨r, rfl, hr, HREL⟩ := hrel
    rcases (show r = 0 ∨ r = 1 ∨ r = 2 ∨ r = 3 ∨ r = 4 ∨ r = 5 ∨ r = 6 by omega) with rfl | rfl | rfl | rfl | rfl | rfl | rfl
    · have hnb := HRB.out.below HREL.out.choose_spec.2.2.2
      have c0 : wr.cell? ⟨RB, 0, none⟩ = some (.int .i64 4) := hnb.cell 0 rfl
      have c1 : wr.cell? ⟨RB, 1, none⟩ = some (.func (.func 45) #[] #[]) := hnb.cell 1 rfl
      have hx1 := boxed_below wr (.cells #[.int .i64 4, .func (.func 45) #[] #[]] 76)
      have n1 := BX.new wr 76 #[.int .i64 4, .func (.func 45) #[] #[]]
      obtain ⟨G7, hG7⟩ : ∃ g, g = wr.heap.size := ⟨_, rfl⟩
      rw [← hG7] at n1
      have HG7 := Lib.hid hG7
      clear hnb hG7
      go_upto_region 5 with fail
      rw [← HG7.out]
      obtain ⟨W1, hW1⟩ : ∃ W, W = wr.alloc (.cells #[.int .i64 4, .func (.func 45) #[] #[]] 76) := ⟨_, rfl⟩
      rw [← hW1] at hx1 n1 ⊢
      have HN1 := Lib.hid n1
      obtain ⟨fs0, hf0, hu0, hl0, hb0⟩ := HREL.out
      have HB1 := Lib.hid (hb0.trans (hx1.mono hb0.size))
      have HS0 := Lib.hid (show _ ∧ _ ∧ _ from ⟨hf0.keep hx1, hu0, hl0⟩)
      clear c0 c1 hW1 n1 hx1 hf0 hu0 hl0 hb0 HREL
      go_wp2
      go_loopw [5, 18] (fun v s wx => ∃ j : Nat, s = .int .i64 j ∧ j ≤ n ∧ Hid (∃ fs, FlV wx w.heap.size v fs ∧ UpP 6 n P 4 0 j fs ∧ fs.length ≤ 0 * n + j ∧ Below w.heap.size w wx ∧ BX wx G7 76 #[.int .i64 4, .func (.func 45) #[] #[]])) (fun _ s _ => n - (intOf s).toNat)
      case atStart => exact ⟨0, rfl, Nat.zero_le _, Lib.hid ⟨fs0, HS0.out.1, HS0.out.2.1, HS0.out.2.2, HB1.out, HN1.out⟩⟩
      case round =>
        obtain ⟨j, rfl, hj, HJ⟩ := hrel
        obtain ⟨wx, rfl⟩ : ∃ W : World, W = wr := ⟨_, rfl⟩
        obtain ⟨fs, hfs, hup, hlen, hbw, hg7⟩ := HJ.out
        by_cases hlt : j < n
        · have hlt' : (j : Int) < n := by omega
          obtain ⟨g, o, ak, nk, ck, av, nv, cv, ac, nc, cc, rfl, hP, hc⟩ := HK.out.get hlt
          obtain ⟨q0, q1, q2, q3, q4, q5, q6, q7, q8, q9, q10⟩ := hc _ hbw
          obtain ⟨kn, hkn⟩ : ∃ kn, kn = kAt ks j := ⟨_, rfl⟩
          rw [← hkn] at q0 q1 q2 q3 q4 q5 q6 q7 hP
          obtain ⟨rfl, rfl, rfl, _⟩ := PV.ndF hP
          have hx2 := boxed_below wx (.cells #[.int .i64 kn.c, .int .u64 kn.wd, .int .u64 kn.vr, .int .i64 kn.n.lv, .string kn.n.lo, .string kn.n.hi, .bool kn.n.la, .int .i64 kn.n.nx, .slice ak kn.n.ks.length ck, .slice av kn.n.vs.length cv, .slice ac kn.n.cs.length cc] 40)
          have n2 := BX.new wx 40 #[.int .i64 kn.c, .int .u64 kn.wd, .int .u64 kn.vr, .int .i64 kn.n.lv, .string kn.n.lo, .string kn.n.hi, .bool kn.n.la, .int .i64 kn.n.nx, .slice ak kn.n.ks.length ck, .slice av kn.n.vs.length cv, .slice ac kn.n.cs.length cc]
          obtain ⟨G9, hG9⟩ : ∃ g, g = wx.heap.size := ⟨_, rfl⟩
          rw [← hG9] at n2
          have HG9 := Lib.hid hG9
          have HKN := Lib.hid hkn
          have HP := Lib.hid hP
          have HFS := Lib.hid (show _ ∧ _ from ⟨hfs, hup⟩)
          have HG := Lib.hid hg7
          have HBW := Lib.hid hbw
          clear hc hkn hG9 hP hfs hup hg7 hbw HJ
          go_upto_region 8 with fail
          rw [← HG9.out]
          obtain ⟨W2, hW2⟩ : ∃ W, W = wx.alloc (.cells #[.int .i64 kn.c, .int .u64 kn.wd, .int .u64 kn.vr, .int .i64 kn.n.lv, .string kn.n.lo, .string kn.n.hi, .bool kn.n.la, .int .i64 kn.n.nx, .slice ak kn.n.ks.length ck, .slice av kn.n.vs.length cv, .slice ac kn.n.cs.length cc] 40) := ⟨_, rfl⟩
          rw [← hW2] at hx2 n2 ⊢
          have HBW2 := Lib.hid (HBW.out.trans (hx2.mono HBW.out.size))
          have HFV2 := Lib.hid (HFS.out.1.keep hx2)
          have HN2 := Lib.hid n2
          have m1 := HG.out.below hx2
          have HM1 := Lib.hid m1
          have r0 := m1.cell 0 rfl
          have r1 := m1.cell 1 rfl
          have k0 := n2.cell 0 rfl
          have k1 := n2.cell 1 rfl
          have k2 := n2.cell 2 rfl
          have k3 := n2.cell 3 rfl
          have k4 := n2.cell 4 rfl
          have k5 := n2.cell 5 rfl
          have k6 := n2.cell 6 rfl
          have k7 := n2.cell 7 rfl
          have k8 := n2.cell 8 rfl
          have k9 := n2.cell 9 rfl
          have k10 := n2.cell 10 rfl
          have HKV := Lib.hid (show KnV W2 (.agg #[.int .i64 kn.c, .int .u64 kn.wd, .int .u64 kn.vr, .int .i64 kn.n.lv, .string kn.n.lo, .string kn.n.hi, .bool kn.n.la, .int .i64 kn.n.nx, .slice ak kn.n.ks.length ck, .slice av kn.n.vs.length cv, .slice ac kn.n.cs.length cc]) (kAt ks j) by rw [← HKN.out]; exact KnV.keep HP.out (H0.out.trans (HBW2.out.mono H0.out.size)))
          have HCALL := Lib.hid (HR0.out j W2 _ hlt HBW2.out HKV.out)
          obtain ⟨bb, hbb⟩ : ∃ bb, bb = P 0 j := ⟨_, rfl⟩
          rw [← hbb] at HCALL
          have HBB := Lib.hid hbb
          clear q0 q1 q2 q3 q4 q5 q6 q7 q8 q9 q10 hx2 n2 hW2 m1 hbb
          go_wp2_with fail
          refine HCALL.out.mono ?_
          rintro e w3 ⟨rfl, hb3⟩
          have HB3 := Lib.hid (HBW2.out.trans (hb3.mono HBW2.out.size))
          have HFV3 := Lib.hid (HFV2.out.keep hb3)
          have n3 := HN2.out.below hb3
          have HM3 := Lib.hid (HM1.out.below hb3)
          clear r0 r1 k0 k1 k2 k3 k4 k5 k6 k7 k8 k9 k10 hb3
          cases bb with
          | false =>
            have HU := Lib.hid (HFS.out.2.no HBB.out.symm)
            clear n3
            go_wp2
            go_roundw
            case rel =>
              (repeat apply Exists.intro)
              refine ⟨?_, rfl⟩
              exact ⟨j + 1, by go_num, by omega, Lib.hid ⟨fs, HFV3.out, HU.out, by omega, HB3.out, HM3.out⟩⟩
            case measure => simp [intOf]; omega
          | true =>
            have HU := Lib.hid (HFS.out.2.yes (x := (4, kn.c)) (by omega) hlt HBB.out.symm (by simp))
            have k0 := n3.cell 0 rfl
            have r0 := HM3.out.cell 0 rfl
            have ho3 := World.ownsRow.alloc HFV3.out (.cells #[.int .i64 4, .int .i64 kn.c] 47)
            have hnews := World.news_of_block (cs := #[.int .i64 4, .int .i64 kn.c]) (heap_alloc_new w3 (.cells #[.int .i64 4, .int .i64 kn.c] 47))
            have hone : ∀ u ∈ [Value.int .i64 4, Value.int .i64 kn.c], u.oneCell' = true := by intro u hu; simp at hu; rcases hu with rfl | rfl <;> rfl
            have HH := Lib.hid (show _ ∧ _ ∧ _ from ⟨ho3, hnews, hone⟩)
            have HBA := Lib.hid (HB3.out.trans (((Below.refl w3.heap.size w3).alloc (Nat.le_refl _) (.cells #[.int .i64 4, .int .i64 kn.c] 47)).mono HB3.out.size))
            obtain ⟨n9, hn9⟩ : ∃ n9, n9 = fs.length := ⟨_, rfl⟩
            rw [← hn9] at HH hlen
            have HN9 := Lib.hid hn9
            have hbase : w.heap.size ≤ w3.heap.size := HB3.out.size
            have HBASE := Lib.hid hbase
            clear n3 ho3 hnews hone hn9 hbase
            go_wp2_with ((with_reducible show wpList _ _ _ (⟨some 33, _, _, _, _, _⟩ :: _) _ _); refine wpList_append_own (o := ⟨some 33, _, _, _, _, _⟩) _ rfl _ _ 42 rfl w.heap.size 47 i0 (.agg #[.int .i64 0, .int .i64 0]) 2 16 Try.underlying42 HI.out.1 HI.out.2.1 HI.out.2.2.1 HI.out.2.2.2 rfl (by decide) _ _ _ rfl HH.out.1 ⟨w3.heap.size, 0, none⟩ 1 1 [.int .i64 4, .int .i64 kn.c] rfl rfl HH.out.2.1 HH.out.2.2 (by unfold maxLen; omega) (by omega) (by rw [World.size_alloc]; have := HBASE.out; omega) ?_)
            intro v4 w4 hown4 hgrow4 _
            have HFV4 := Lib.hid (show FlV w4 w.heap.size v4 (fs ++ [(4, kn.c)]) from by
              unfold FlV
              rw [List.length_append, List.length_singleton, flC_app, ← HN9.out]
              exact hown4)
            have HB4 := Lib.hid (HBA.out.grown hgrow4 (by rw [World.size_alloc]; have := HBASE.out; omega) (fun i hi => (fv_block HH.out.1 hi).1))
            have HM4 := Lib.hid (show BX w4 G7 _ _ from (hgrow4.block G7 (lt_of_block (HM3.out.below ((Below.refl _ _).alloc (Nat.le_refl _) _))) (fun e => by
              obtain ⟨_, cs9, h9⟩ := fv_block HH.out.1 e.symm
              exact bx_no2 (HM3.out.below ((Below.refl _ _).alloc (Nat.le_refl _) _)) (by decide) cs9 h9)).trans (HM3.out.below ((Below.refl _ _).alloc (Nat.le_refl _) _)))
            clear hown4 hgrow4 k0 r0
            go_wp2
            go_roundw
            case rel =>
              (repeat apply Exists.intro)
              refine ⟨?_, rfl⟩
              exact ⟨j + 1, by go_num, by omega, Lib.hid ⟨fs ++ [(4, kn.c)], HFV4.out, HU.out, by rw [List.length_append, List.length_singleton, ← HN9.out]; omega, HB4.out, HM4.out⟩⟩
            case measure => simp [intOf]; omega
        · obtain rfl : j = n := by omega
          have HE := Lib.hid (show _ ∧ _ ∧ _ ∧ _ from ⟨hfs, hup.next, hlen, hbw⟩)
          clear hfs hup hlen hg7 hbw HJ
          go_wp2
          go_roundw
          case rel => exact ⟨1, by go_num, by omega, Lib.hid ⟨fs, HE.out.1, HE.out.2.1, by have := HE.out.2.2.1; omega, HE.out.2.2.2⟩⟩
          case measure => simp [intOf]
    · have hnb := HRB.out.below HREL.out.choose_spec.2.2.2
      have c0 : wr.cell? ⟨RB, 2, none⟩ = some (.int .i64 5) := hnb.cell 2 rfl
      have c1 : wr.cell? ⟨RB, 3, none⟩ = some (.func (.func 47) #[] #[.pointer (some ⟨cb5, 0, none⟩)]) := hnb.cell 3 rfl
      have hx1 := boxed_below wr (.cells #[.int .i64 5, .func (.func 47) #[] #[.pointer (some ⟨cb5, 0, none⟩)]] 76)
      have n1 := BX.new wr 76 #[.int .i64 5, .func (.func 47) #[] #[.pointer (some ⟨cb5, 0, none⟩)]]
      obtain ⟨G7, hG7⟩ : ∃ g, g = wr.heap.size := ⟨_, rfl⟩
      rw [← hG7] at n1
      have HG7 := Lib.hid hG7
      clear hnb hG7
      go_upto_region 5 with fail
      rw [← HG7.out]
      obtain ⟨W1, hW1⟩ : ∃ W, W = wr.alloc (.cells #[.int .i64 5, .func (.func 47) #[] #[.pointer (some ⟨cb5, 0, none⟩)]] 76) := ⟨_, rfl⟩
      rw [← hW1] at hx1 n1 ⊢
      have HN1 := Lib.hid n1
      obtain ⟨fs0, hf0, hu0, hl0, hb0⟩ := HREL.out
      have HB1 := Lib.hid (hb0.trans (hx1.mono hb0.size))
      have HS0 := Lib.hid (show _ ∧ _ ∧ _ from ⟨hf0.keep hx1, hu0, hl0⟩)
      clear c0 c1 hW1 n1 hx1 hf0 hu0 hl0 hb0 HREL
      go_wp2
      go_loopw [5, 18] (fun v s wx => ∃ j : Nat, s = .int .i64 j ∧ j ≤ n ∧ Hid (∃ fs, FlV wx w.heap.size v fs ∧ UpP 6 n P 4 1 j fs ∧ fs.length ≤ 1 * n + j ∧ Below w.heap.size w wx ∧ BX wx G7 76 #[.int .i64 5, .func (.func 47) #[] #[.pointer (some ⟨cb5, 0, none⟩)]])) (fun _ s _ => n - (intOf s).toNat)
      case atStart => exact ⟨0, rfl, Nat.zero_le _, Lib.hid ⟨fs0, HS0.out.1, HS0.out.2.1, HS0.out.2.2, HB1.out, HN1.out⟩⟩
      case round =>
        obtain ⟨j, rfl, hj, HJ⟩ := hrel
        obtain ⟨wx, rfl⟩ : ∃ W : World, W = wr := ⟨_, rfl⟩
        obtain ⟨fs, hfs, hup, hlen, hbw, hg7⟩ := HJ.out
        by_cases hlt : j < n
        · have hlt' : (j : Int) < n := by omega
          obtain ⟨g, o, ak, nk, ck, av, nv, cv, ac, nc, cc, rfl, hP, hc⟩ := HK.out.get hlt
          obtain ⟨q0, q1, q2, q3, q4, q5, q6, q7, q8, q9, q10⟩ := hc _ hbw
          obtain ⟨kn, hkn⟩ : ∃ kn, kn = kAt ks j := ⟨_, rfl⟩
          rw [← hkn] at q0 q1 q2 q3 q4 q5 q6 q7 hP
          obtain ⟨rfl, rfl, rfl, _⟩ := PV.ndF hP
          have hx2 := boxed_below wx (.cells #[.int .i64 kn.c, .int .u64 kn.wd, .int .u64 kn.vr, .int .i64 kn.n.lv, .string kn.n.lo, .string kn.n.hi, .bool kn.n.la, .int .i64 kn.n.nx, .slice ak kn.n.ks.length ck, .slice av kn.n.vs.length cv, .slice ac kn.n.cs.length cc] 40)
          have n2 := BX.new wx 40 #[.int .i64 kn.c, .int .u64 kn.wd, .int .u64 kn.vr, .int .i64 kn.n.lv, .string kn.n.lo, .string kn.n.hi, .bool kn.n.la, .int .i64 kn.n.nx, .slice ak kn.n.ks.length ck, .slice av kn.n.vs.length cv, .slice ac kn.n.cs.length cc]
          obtain ⟨G9, hG9⟩ : ∃ g, g = wx.heap.size := ⟨_, rfl⟩
          rw [← hG9] at n2
          have HG9 := Lib.hid hG9
          have HKN := Lib.hid hkn
          have HP := Lib.hid hP
          have HFS := Lib.hid (show _ ∧ _ from ⟨hfs, hup⟩)
          have HG := Lib.hid hg7
          have HBW := Lib.hid hbw
          clear hc hkn hG9 hP hfs hup hg7 hbw HJ
          go_upto_region 8 with fail
          rw [← HG9.out]
          obtain ⟨W2, hW2⟩ : ∃ W, W = wx.alloc (.cells #[.int .i64 kn.c, .int .u64 kn.wd, .int .u64 kn.vr, .int .i64 kn.n.lv, .string kn.n.lo, .string kn.n.hi, .bool kn.n.la, .int .i64 kn.n.nx, .slice ak kn.n.ks.length ck, .slice av kn.n.vs.length cv, .slice ac kn.n.cs.length cc] 40) := ⟨_, rfl⟩
          rw [← hW2] at hx2 n2 ⊢
          have HBW2 := Lib.hid (HBW.out.trans (hx2.mono HBW.out.size))
          have HFV2 := Lib.hid (HFS.out.1.keep hx2)
          have HN2 := Lib.hid n2
          have m1 := HG.out.below hx2
          have HM1 := Lib.hid m1
          have r0 := m1.cell 0 rfl
          have r1 := m1.cell 1 rfl
          have k0 := n2.cell 0 rfl
          have k1 := n2.cell 1 rfl
          have k2 := n2.cell 2 rfl
          have k3 := n2.cell 3 rfl
          have k4 := n2.cell 4 rfl
          have k5 := n2.cell 5 rfl
          have k6 := n2.cell 6 rfl
          have k7 := n2.cell 7 rfl
          have k8 := n2.cell 8 rfl
          have k9 := n2.cell 9 rfl
          have k10 := n2.cell 10 rfl
          have HKV := Lib.hid (show KnV W2 (.agg #[.int .i64 kn.c, .int .u64 kn.wd, .int .u64 kn.vr, .int .i64 kn.n.lv, .string kn.n.lo, .string kn.n.hi, .bool kn.n.la, .int .i64 kn.n.nx, .slice ak kn.n.ks.length ck, .slice av kn.n.vs.length cv, .slice ac kn.n.cs.length cc]) (kAt ks j) by rw [← HKN.out]; exact KnV.keep HP.out (H0.out.trans (HBW2.out.mono H0.out.size)))
          have HCALL := Lib.hid (HR1.out j W2 _ hlt HBW2.out HKV.out)
          obtain ⟨bb, hbb⟩ : ∃ bb, bb = P 1 j := ⟨_, rfl⟩
          rw [← hbb] at HCALL
          have HBB := Lib.hid hbb
          clear q0 q1 q2 q3 q4 q5 q6 q7 q8 q9 q10 hx2 n2 hW2 m1 hbb
          go_wp2_with fail
          refine HCALL.out.mono ?_
          rintro e w3 ⟨rfl, hb3⟩
          have HB3 := Lib.hid (HBW2.out.trans (hb3.mono HBW2.out.size))
          have HFV3 := Lib.hid (HFV2.out.keep hb3)
          have n3 := HN2.out.below hb3
          have HM3 := Lib.hid (HM1.out.below hb3)
          clear r0 r1 k0 k1 k2 k3 k4 k5 k6 k7 k8 k9 k10 hb3
          cases bb with
          | false =>
            have HU := Lib.hid (HFS.out.2.no HBB.out.symm)
            clear n3
            go_wp2
            go_roundw
            case rel =>
              (repeat apply Exists.intro)
              refine ⟨?_, rfl⟩
              exact ⟨j + 1, by go_num, by omega, Lib.hid ⟨fs, HFV3.out, HU.out, by omega, HB3.out, HM3.out⟩⟩
            case measure => simp [intOf]; omega
          | true =>
            have HU := Lib.hid (HFS.out.2.yes (x := (5, kn.c)) (by omega) hlt HBB.out.symm (by simp))
            have k0 := n3.cell 0 rfl
            have r0 := HM3.out.cell 0 rfl
            have ho3 := World.ownsRow.alloc HFV3.out (.cells #[.int .i64 5, .int .i64 kn.c] 47)
            have hnews := World.news_of_block (cs := #[.int .i64 5, .int .i64 kn.c]) (heap_alloc_new w3 (.cells #[.int .i64 5, .int .i64 kn.c] 47))
            have hone : ∀ u ∈ [Value.int .i64 5, Value.int .i64 kn.c], u.oneCell' = true := by intro u hu; simp at hu; rcases hu with rfl | rfl <;> rfl
            have HH := Lib.hid (show _ ∧ _ ∧ _ from ⟨ho3, hnews, hone⟩)
            have HBA := Lib.hid (HB3.out.trans (((Below.refl w3.heap.size w3).alloc (Nat.le_refl _) (.cells #[.int .i64 5, .int .i64 kn.c] 47)).mono HB3.out.size))
            obtain ⟨n9, hn9⟩ : ∃ n9, n9 = fs.length := ⟨_, rfl⟩
            rw [← hn9] at HH hlen
            have HN9 := Lib.hid hn9
            have hbase : w.heap.size ≤ w3.heap.size := HB3.out.size
            have HBASE := Lib.hid hbase
            clear n3 ho3 hnews hone hn9 hbase
            go_wp2_with ((with_reducible show wpList _ _ _ (⟨some 33, _, _, _, _, _⟩ :: _) _ _); refine wpList_append_own (o := ⟨some 33, _, _, _, _, _⟩) _ rfl _ _ 42 rfl w.heap.size 47 i0 (.agg #[.int .i64 0, .int .i64 0]) 2 16 Try.underlying42 HI.out.1 HI.out.2.1 HI.out.2.2.1 HI.out.2.2.2 rfl (by decide) _ _ _ rfl HH.out.1 ⟨w3.heap.size, 0, none⟩ 1 1 [.int .i64 5, .int .i64 kn.c] rfl rfl HH.out.2.1 HH.out.2.2 (by unfold maxLen; omega) (by omega) (by rw [World.size_alloc]; have := HBASE.out; omega) ?_)
            intro v4 w4 hown4 hgrow4 _
            have HFV4 := Lib.hid (show FlV w4 w.heap.size v4 (fs ++ [(5, kn.c)]) from by
              unfold FlV
              rw [List.length_append, List.length_singleton, flC_app, ← HN9.out]
              exact hown4)
            have HB4 := Lib.hid (HBA.out.grown hgrow4 (by rw [World.size_alloc]; have := HBASE.out; omega) (fun i hi => (fv_block HH.out.1 hi).1))
            have HM4 := Lib.hid (show BX w4 G7 _ _ from (hgrow4.block G7 (lt_of_block (HM3.out.below ((Below.refl _ _).alloc (Nat.le_refl _) _))) (fun e => by
              obtain ⟨_, cs9, h9⟩ := fv_block HH.out.1 e.symm
              exact bx_no2 (HM3.out.below ((Below.refl _ _).alloc (Nat.le_refl _) _)) (by decide) cs9 h9)).trans (HM3.out.below ((Below.refl _ _).alloc (Nat.le_refl _) _)))
            clear hown4 hgrow4 k0 r0
            go_wp2
            go_roundw
            case rel =>
              (repeat apply Exists.intro)
              refine ⟨?_, rfl⟩
              exact ⟨j + 1, by go_num, by omega, Lib.hid ⟨fs ++ [(5, kn.c)], HFV4.out, HU.out, by rw [List.length_append, List.length_singleton, ← HN9.out]; omega, HB4.out, HM4.out⟩⟩
            case measure => simp [intOf]; omega
        · obtain rfl : j = n := by omega
          have HE := Lib.hid (show _ ∧ _ ∧ _ ∧ _ from ⟨hfs, hup.next, hlen, hbw⟩)
          clear hfs hup hlen hg7 hbw HJ
          go_wp2
          go_roundw
          case rel => exact ⟨2, by go_num, by omega, Lib.hid ⟨fs, HE.out.1, HE.out.2.1, by have := HE.out.2.2.1; omega, HE.out.2.2.2⟩⟩
          case measure => simp [intOf]
    · have hnb := HRB.out.below HREL.out.choose_spec.2.2.2
      have c0 : wr.cell? ⟨RB, 4, none⟩ = some (.int .i64 6) := hnb.cell 4 rfl
      have c1 : wr.cell? ⟨RB, 5, none⟩ = some (.func (.func 51) #[] #[.pointer (some ⟨cb5, 0, none⟩)]) := hnb.cell 5 rfl
      have hx1 := boxed_below wr (.cells #[.int .i64 6, .func (.func 51) #[] #[.pointer (some ⟨cb5, 0, none⟩)]] 76)
      have n1 := BX.new wr 76 #[.int .i64 6, .func (.func 51) #[] #[.pointer (some ⟨cb5, 0, none⟩)]]
      obtain ⟨G7, hG7⟩ : ∃ g, g = wr.heap.size := ⟨_, rfl⟩
      rw [← hG7] at n1
      have HG7 := Lib.hid hG7
      clear hnb hG7
      go_upto_region 5 with fail
      rw [← HG7.out]
      obtain ⟨W1, hW1⟩ : ∃ W, W = wr.alloc (.cells #[.int .i64 6, .func (.func 51) #[] #[.pointer (some ⟨cb5, 0, none⟩)]] 76) := ⟨_, rfl⟩
      rw [← hW1] at hx1 n1 ⊢
      have HN1 := Lib.hid n1
      obtain ⟨fs0, hf0, hu0, hl0, hb0⟩ := HREL.out
      have HB1 := Lib.hid (hb0.trans (hx1.mono hb0.size))
      have HS0 := Lib.hid (show _ ∧ _ ∧ _ from ⟨hf0.keep hx1, hu0, hl0⟩)
      clear c0 c1 hW1 n1 hx1 hf0 hu0 hl0 hb0 HREL
      go_wp2
      go_loopw [5, 18] (fun v s wx => ∃ j : Nat, s = .int .i64 j ∧ j ≤ n ∧ Hid (∃ fs, FlV wx w.heap.size v fs ∧ UpP 6 n P 4 2 j fs ∧ fs.length ≤ 2 * n + j ∧ Below w.heap.size w wx ∧ BX wx G7 76 #[.int .i64 6, .func (.func 51) #[] #[.pointer (some ⟨cb5, 0, none⟩)]])) (fun _ s _ => n - (intOf s).toNat)
      case atStart => exact ⟨0, rfl, Nat.zero_le _, Lib.hid ⟨fs0, HS0.out.1, HS0.out.2.1, HS0.out.2.2, HB1.out, HN1.out⟩⟩
      case round =>
        obtain ⟨j, rfl, hj, HJ⟩ := hrel
        obtain ⟨wx, rfl⟩ : ∃ W : World, W = wr := ⟨_, rfl⟩
        obtain ⟨fs, hfs, hup, hlen, hbw, hg7⟩ := HJ.out
        by_cases hlt : j < n
        · have hlt' : (j : Int) < n := by omega
          obtain ⟨g, o, ak, nk, ck, av, nv, cv, ac, nc, cc, rfl, hP, hc⟩ := HK.out.get hlt
          obtain ⟨q0, q1, q2, q3, q4, q5, q6, q7, q8, q9, q10⟩ := hc _ hbw
          obtain ⟨kn, hkn⟩ : ∃ kn, kn = kAt ks j := ⟨_, rfl⟩
          rw [← hkn] at q0 q1 q2 q3 q4 q5 q6 q7 hP
          obtain ⟨rfl, rfl, rfl, _⟩ := PV.ndF hP
          have hx2 := boxed_below wx (.cells #[.int .i64 kn.c, .int .u64 kn.wd, .int .u64 kn.vr, .int .i64 kn.n.lv, .string kn.n.lo, .string kn.n.hi, .bool kn.n.la, .int .i64 kn.n.nx, .slice ak kn.n.ks.length ck, .slice av kn.n.vs.length cv, .slice ac kn.n.cs.length cc] 40)
          have n2 := BX.new wx 40 #[.int .i64 kn.c, .int .u64 kn.wd, .int .u64 kn.vr, .int .i64 kn.n.lv, .string kn.n.lo, .string kn.n.hi, .bool kn.n.la, .int .i64 kn.n.nx, .slice ak kn.n.ks.length ck, .slice av kn.n.vs.length cv, .slice ac kn.n.cs.length cc]
          obtain ⟨G9, hG9⟩ : ∃ g, g = wx.heap.size := ⟨_, rfl⟩
          rw [← hG9] at n2
          have HG9 := Lib.hid hG9
          have HKN := Lib.hid hkn
          have HP := Lib.hid hP
          have HFS := Lib.hid (show _ ∧ _ from ⟨hfs, hup⟩)
          have HG := Lib.hid hg7
          have HBW := Lib.hid hbw
          clear hc hkn hG9 hP hfs hup hg7 hbw HJ
          go_upto_region 8 with fail
          rw [← HG9.out]
          obtain ⟨W2, hW2⟩ : ∃ W, W = wx.alloc (.cells #[.int .i64 kn.c, .int .u64 kn.wd, .int .u64 kn.vr, .int .i64 kn.n.lv, .string kn.n.lo, .string kn.n.hi, .bool kn.n.la, .int .i64 kn.n.nx, .slice ak kn.n.ks.length ck, .slice av kn.n.vs.length cv, .slice ac kn.n.cs.length cc] 40) := ⟨_, rfl⟩
          rw [← hW2] at hx2 n2 ⊢
          have HBW2 := Lib.hid (HBW.out.trans (hx2.mono HBW.out.size))
          have HFV2 := Lib.hid (HFS.out.1.keep hx2)
          have HN2 := Lib.hid n2
          have m1 := HG.out.below hx2
          have HM1 := Lib.hid m1
          have r0 := m1.cell 0 rfl
          have r1 := m1.cell 1 rfl
          have k0 := n2.cell 0 rfl
          have k1 := n2.cell 1 rfl
          have k2 := n2.cell 2 rfl
          have k3 := n2.cell 3 rfl
          have k4 := n2.cell 4 rfl
          have k5 := n2.cell 5 rfl
          have k6 := n2.cell 6 rfl
          have k7 := n2.cell 7 rfl
          have k8 := n2.cell 8 rfl
          have k9 := n2.cell 9 rfl
          have k10 := n2.cell 10 rfl
          have HKV := Lib.hid (show KnV W2 (.agg #[.int .i64 kn.c, .int .u64 kn.wd, .int .u64 kn.vr, .int .i64 kn.n.lv, .string kn.n.lo, .string kn.n.hi, .bool kn.n.la, .int .i64 kn.n.nx, .slice ak kn.n.ks.length ck, .slice av kn.n.vs.length cv, .slice ac kn.n.cs.length cc]) (kAt ks j) by rw [← HKN.out]; exact KnV.keep HP.out (H0.out.trans (HBW2.out.mono H0.out.size)))
          have HCALL := Lib.hid (HR2.out j W2 _ hlt HBW2.out HKV.out)
          obtain ⟨bb, hbb⟩ : ∃ bb, bb = P 2 j := ⟨_, rfl⟩
          rw [← hbb] at HCALL
          have HBB := Lib.hid hbb
          clear q0 q1 q2 q3 q4 q5 q6 q7 q8 q9 q10 hx2 n2 hW2 m1 hbb
          go_wp2_with fail
          refine HCALL.out.mono ?_
          rintro e w3 ⟨rfl, hb3⟩
          have HB3 := Lib.hid (HBW2.out.trans (hb3.mono HBW2.out.size))
          have HFV3 := Lib.hid (HFV2.out.keep hb3)
          have n3 := HN2.out.below hb3
          have HM3 := Lib.hid (HM1.out.below hb3)
          clear r0 r1 k0 k1 k2 k3 k4 k5 k6 k7 k8 k9 k10 hb3
          cases bb with
          | false =>
            have HU := Lib.hid (HFS.out.2.no HBB.out.symm)
            clear n3
            go_wp2
            go_roundw
            case rel =>
              (repeat apply Exists.intro)
              refine ⟨?_, rfl⟩
              exact ⟨j + 1, by go_num, by omega, Lib.hid ⟨fs, HFV3.out, HU.out, by omega, HB3.out, HM3.out⟩⟩
            case measure => simp [intOf]; omega
          | true =>
            have HU := Lib.hid (HFS.out.2.yes (x := (6, kn.c)) (by omega) hlt HBB.out.symm (by simp))
            have k0 := n3.cell 0 rfl
            have r0 := HM3.out.cell 0 rfl
            have ho3 := World.ownsRow.alloc HFV3.out (.cells #[.int .i64 6, .int .i64 kn.c] 47)
            have hnews := World.news_of_block (cs := #[.int .i64 6, .int .i64 kn.c]) (heap_alloc_new w3 (.cells #[.int .i64 6, .int .i64 kn.c] 47))
            have hone : ∀ u ∈ [Value.int .i64 6, Value.int .i64 kn.c], u.oneCell' = true := by intro u hu; simp at hu; rcases hu with rfl | rfl <;> rfl
            have HH := Lib.hid (show _ ∧ _ ∧ _ from ⟨ho3, hnews, hone⟩)
            have HBA := Lib.hid (HB3.out.trans (((Below.refl w3.heap.size w3).alloc (Nat.le_refl _) (.cells #[.int .i64 6, .int .i64 kn.c] 47)).mono HB3.out.size))
            obtain ⟨n9, hn9⟩ : ∃ n9, n9 = fs.length := ⟨_, rfl⟩
            rw [← hn9] at HH hlen
            have HN9 := Lib.hid hn9
            have hbase : w.heap.size ≤ w3.heap.size := HB3.out.size
            have HBASE := Lib.hid hbase
            clear n3 ho3 hnews hone hn9 hbase
            go_wp2_with ((with_reducible show wpList _ _ _ (⟨some 33, _, _, _, _, _⟩ :: _) _ _); refine wpList_append_own (o := ⟨some 33, _, _, _, _, _⟩) _ rfl _ _ 42 rfl w.heap.size 47 i0 (.agg #[.int .i64 0, .int .i64 0]) 2 16 Try.underlying42 HI.out.1 HI.out.2.1 HI.out.2.2.1 HI.out.2.2.2 rfl (by decide) _ _ _ rfl HH.out.1 ⟨w3.heap.size, 0, none⟩ 1 1 [.int .i64 6, .int .i64 kn.c] rfl rfl HH.out.2.1 HH.out.2.2 (by unfold maxLen; omega) (by omega) (by rw [World.size_alloc]; have := HBASE.out; omega) ?_)
            intro v4 w4 hown4 hgrow4 _
            have HFV4 := Lib.hid (show FlV w4 w.heap.size v4 (fs ++ [(6, kn.c)]) from by
              unfold FlV
              rw [List.length_append, List.length_singleton, flC_app, ← HN9.out]
              exact hown4)
            have HB4 := Lib.hid (HBA.out.grown hgrow4 (by rw [World.size_alloc]; have := HBASE.out; omega) (fun i hi => (fv_block HH.out.1 hi).1))
            have HM4 := Lib.hid (show BX w4 G7 _ _ from (hgrow4.block G7 (lt_of_block (HM3.out.below ((Below.refl _ _).alloc (Nat.le_refl _) _))) (fun e => by
              obtain ⟨_, cs9, h9⟩ := fv_block HH.out.1 e.symm
              exact bx_no2 (HM3.out.below ((Below.refl _ _).alloc (Nat.le_refl _) _)) (by decide) cs9 h9)).trans (HM3.out.below ((Below.refl _ _).alloc (Nat.le_refl _) _)))
            clear hown4 hgrow4 k0 r0
            go_wp2
            go_roundw
            case rel =>
              (repeat apply Exists.intro)
              refine ⟨?_, rfl⟩
              exact ⟨j + 1, by go_num, by omega, Lib.hid ⟨fs ++ [(6, kn.c)], HFV4.out, HU.out, by rw [List.length_append, List.length_singleton, ← HN9.out]; omega, HB4.out, HM4.out⟩⟩
            case measure => simp [intOf]; omega
        · obtain rfl : j = n := by omega
          have HE := Lib.hid (show _ ∧ _ ∧ _ ∧ _ from ⟨hfs, hup.next, hlen, hbw⟩)
          clear hfs hup hlen hg7 hbw HJ
          go_wp2
          go_roundw
          case rel => exact ⟨3, by go_num, by omega, Lib.hid ⟨fs, HE.out.1, HE.out.2.1, by have := HE.out.2.2.1; omega, HE.out.2.2.2⟩⟩
          case measure => simp [intOf]
    · have hnb := HRB.out.below HREL.out.choose_spec.2.2.2
      have c0 : wr.cell? ⟨RB, 6, none⟩ = some (.int .i64 7) := hnb.cell 6 rfl
      have c1 : wr.cell? ⟨RB, 7, none⟩ = some (.func (.func 54) #[] #[.pointer (some ⟨cb5, 0, none⟩)]) := hnb.cell 7 rfl
      have hx1 := boxed_below wr (.cells #[.int .i64 7, .func (.func 54) #[] #[.pointer (some ⟨cb5, 0, none⟩)]] 76)
      have n1 := BX.new wr 76 #[.int .i64 7, .func (.func 54) #[] #[.pointer (some ⟨cb5, 0, none⟩)]]
      obtain ⟨G7, hG7⟩ : ∃ g, g = wr.heap.size := ⟨_, rfl⟩
      rw [← hG7] at n1
      have HG7 := Lib.hid hG7
      clear hnb hG7
      go_upto_region 5 with fail
      rw [← HG7.out]
      obtain ⟨W1, hW1⟩ : ∃ W, W = wr.alloc (.cells #[.int .i64 7, .func (.func 54) #[] #[.pointer (some ⟨cb5, 0, none⟩)]] 76) := ⟨_, rfl⟩
      rw [← hW1] at hx1 n1 ⊢
      have HN1 := Lib.hid n1
      obtain ⟨fs0, hf0, hu0, hl0, hb0⟩ := HREL.out
      have HB1 := Lib.hid (hb0.trans (hx1.mono hb0.size))
      have HS0 := Lib.hid (show _ ∧ _ ∧ _ from ⟨hf0.keep hx1, hu0, hl0⟩)
      clear c0 c1 hW1 n1 hx1 hf0 hu0 hl0 hb0 HREL
      go_wp2
      go_loopw [5, 18] (fun v s wx => ∃ j : Nat, s = .int .i64 j ∧ j ≤ n ∧ Hid (∃ fs, FlV wx w.heap.size v fs ∧ UpP 6 n P 4 3 j fs ∧ fs.length ≤ 3 * n + j ∧ Below w.heap.size w wx ∧ BX wx G7 76 #[.int .i64 7, .func (.func 54) #[] #[.pointer (some ⟨cb5, 0, none⟩)]])) (fun _ s _ => n - (intOf s).toNat)
      case atStart => exact ⟨0, rfl, Nat.zero_le _, Lib.hid ⟨fs0, HS0.out.1, HS0.out.2.1, HS0.out.2.2, HB1.out, HN1.out⟩⟩
      case round =>
        obtain ⟨j, rfl, hj, HJ⟩ := hrel
        obtain ⟨wx, rfl⟩ : ∃ W : World, W = wr := ⟨_, rfl⟩
        obtain ⟨fs, hfs, hup, hlen, hbw, hg7⟩ := HJ.out
        by_cases hlt : j < n
        · have hlt' : (j : Int) < n := by omega
          obtain ⟨g, o, ak, nk, ck, av, nv, cv, ac, nc, cc, rfl, hP, hc⟩ := HK.out.get hlt
          obtain ⟨q0, q1, q2, q3, q4, q5, q6, q7, q8, q9, q10⟩ := hc _ hbw
          obtain ⟨kn, hkn⟩ : ∃ kn, kn = kAt ks j := ⟨_, rfl⟩
          rw [← hkn] at q0 q1 q2 q3 q4 q5 q6 q7 hP
          obtain ⟨rfl, rfl, rfl, _⟩ := PV.ndF hP
          have hx2 := boxed_below wx (.cells #[.int .i64 kn.c, .int .u64 kn.wd, .int .u64 kn.vr, .int .i64 kn.n.lv, .string kn.n.lo, .string kn.n.hi, .bool kn.n.la, .int .i64 kn.n.nx, .slice ak kn.n.ks.length ck, .slice av kn.n.vs.length cv, .slice ac kn.n.cs.length cc] 40)
          have n2 := BX.new wx 40 #[.int .i64 kn.c, .int .u64 kn.wd, .int .u64 kn.vr, .int .i64 kn.n.lv, .string kn.n.lo, .string kn.n.hi, .bool kn.n.la, .int .i64 kn.n.nx, .slice ak kn.n.ks.length ck, .slice av kn.n.vs.length cv, .slice ac kn.n.cs.length cc]
          obtain ⟨G9, hG9⟩ : ∃ g, g = wx.heap.size := ⟨_, rfl⟩
          rw [← hG9] at n2
          have HG9 := Lib.hid hG9
          have HKN := Lib.hid hkn
          have HP := Lib.hid hP
          have HFS := Lib.hid (show _ ∧ _ from ⟨hfs, hup⟩)
          have HG := Lib.hid hg7
          have HBW := Lib.hid hbw
          clear hc hkn hG9 hP hfs hup hg7 hbw HJ
          go_upto_region 8 with fail
          rw [← HG9.out]
          obtain ⟨W2, hW2⟩ : ∃ W, W = wx.alloc (.cells #[.int .i64 kn.c, .int .u64 kn.wd, .int .u64 kn.vr, .int .i64 kn.n.lv, .string kn.n.lo, .string kn.n.hi, .bool kn.n.la, .int .i64 kn.n.nx, .slice ak kn.n.ks.length ck, .slice av kn.n.vs.length cv, .slice ac kn.n.cs.length cc] 40) := ⟨_, rfl⟩
          rw [← hW2] at hx2 n2 ⊢
          have HBW2 := Lib.hid (HBW.out.trans (hx2.mono HBW.out.size))
          have HFV2 := Lib.hid (HFS.out.1.keep hx2)
          have HN2 := Lib.hid n2
          have m1 := HG.out.below hx2
          have HM1 := Lib.hid m1
          have r0 := m1.cell 0 rfl
          have r1 := m1.cell 1 rfl
          have k0 := n2.cell 0 rfl
          have k1 := n2.cell 1 rfl
          have k2 := n2.cell 2 rfl
          have k3 := n2.cell 3 rfl
          have k4 := n2.cell 4 rfl
          have k5 := n2.cell 5 rfl
          have k6 := n2.cell 6 rfl
          have k7 := n2.cell 7 rfl
          have k8 := n2.cell 8 rfl
          have k9 := n2.cell 9 rfl
          have k10 := n2.cell 10 rfl
          have HKV := Lib.hid (show KnV W2 (.agg #[.int .i64 kn.c, .int .u64 kn.wd, .int .u64 kn.vr, .int .i64 kn.n.lv, .string kn.n.lo, .string kn.n.hi, .bool kn.n.la, .int .i64 kn.n.nx, .slice ak kn.n.ks.length ck, .slice av kn.n.vs.length cv, .slice ac kn.n.cs.length cc]) (kAt ks j) by rw [← HKN.out]; exact KnV.keep HP.out (H0.out.trans (HBW2.out.mono H0.out.size)))
          have HCALL := Lib.hid (HR3.out j W2 _ hlt HBW2.out HKV.out)
          obtain ⟨bb, hbb⟩ : ∃ bb, bb = P 3 j := ⟨_, rfl⟩
          rw [← hbb] at HCALL
          have HBB := Lib.hid hbb
          clear q0 q1 q2 q3 q4 q5 q6 q7 q8 q9 q10 hx2 n2 hW2 m1 hbb
          go_wp2_with fail
          refine HCALL.out.mono ?_
          rintro e w3 ⟨rfl, hb3⟩
          have HB3 := Lib.hid (HBW2.out.trans (hb3.mono HBW2.out.size))
          have HFV3 := Lib.hid (HFV2.out.keep hb3)
          have n3 := HN2.out.below hb3
          have HM3 := Lib.hid (HM1.out.below hb3)
          clear r0 r1 k0 k1 k2 k3 k4 k5 k6 k7 k8 k9 k10 hb3
          cases bb with
          | false =>
            have HU := Lib.hid (HFS.out.2.no HBB.out.symm)
            clear n3
            go_wp2
            go_roundw
            case rel =>
              (repeat apply Exists.intro)
              refine ⟨?_, rfl⟩
              exact ⟨j + 1, by go_num, by omega, Lib.hid ⟨fs, HFV3.out, HU.out, by omega, HB3.out, HM3.out⟩⟩
            case measure => simp [intOf]; omega
          | true =>
            have HU := Lib.hid (HFS.out.2.yes (x := (7, kn.c)) (by omega) hlt HBB.out.symm (by simp))
            have k0 := n3.cell 0 rfl
            have r0 := HM3.out.cell 0 rfl
            have ho3 := World.ownsRow.alloc HFV3.out (.cells #[.int .i64 7, .int .i64 kn.c] 47)
            have hnews := World.news_of_block (cs := #[.int .i64 7, .int .i64 kn.c]) (heap_alloc_new w3 (.cells #[.int .i64 7, .int .i64 kn.c] 47))
            have hone : ∀ u ∈ [Value.int .i64 7, Value.int .i64 kn.c], u.oneCell' = true := by intro u hu; simp at hu; rcases hu with rfl | rfl <;> rfl
            have HH := Lib.hid (show _ ∧ _ ∧ _ from ⟨ho3, hnews, hone⟩)
            have HBA := Lib.hid (HB3.out.trans (((Below.refl w3.heap.size w3).alloc (Nat.le_refl _) (.cells #[.int .i64 7, .int .i64 kn.c] 47)).mono HB3.out.size))
            obtain ⟨n9, hn9⟩ : ∃ n9, n9 = fs.length := ⟨_, rfl⟩
            rw [← hn9] at HH hlen
            have HN9 := Lib.hid hn9
            have hbase : w.heap.size ≤ w3.heap.size := HB3.out.size
            have HBASE := Lib.hid hbase
            clear n3 ho3 hnews hone hn9 hbase
            go_wp2_with ((with_reducible show wpList _ _ _ (⟨some 33, _, _, _, _, _⟩ :: _) _ _); refine wpList_append_own (o := ⟨some 33, _, _, _, _, _⟩) _ rfl _ _ 42 rfl w.heap.size 47 i0 (.agg #[.int .i64 0, .int .i64 0]) 2 16 Try.underlying42 HI.out.1 HI.out.2.1 HI.out.2.2.1 HI.out.2.2.2 rfl (by decide) _ _ _ rfl HH.out.1 ⟨w3.heap.size, 0, none⟩ 1 1 [.int .i64 7, .int .i64 kn.c] rfl rfl HH.out.2.1 HH.out.2.2 (by unfold maxLen; omega) (by omega) (by rw [World.size_alloc]; have := HBASE.out; omega) ?_)
            intro v4 w4 hown4 hgrow4 _
            have HFV4 := Lib.hid (show FlV w4 w.heap.size v4 (fs ++ [(7, kn.c)]) from by
              unfold FlV
              rw [List.length_append, List.length_singleton, flC_app, ← HN9.out]
              exact hown4)
            have HB4 := Lib.hid (HBA.out.grown hgrow4 (by rw [World.size_alloc]; have := HBASE.out; omega) (fun i hi => (fv_block HH.out.1 hi).1))
            have HM4 := Lib.hid (show BX w4 G7 _ _ from (hgrow4.block G7 (lt_of_block (HM3.out.below ((Below.refl _ _).alloc (Nat.le_refl _) _))) (fun e => by
              obtain ⟨_, cs9, h9⟩ := fv_block HH.out.1 e.symm
              exact bx_no2 (HM3.out.below ((Below.refl _ _).alloc (Nat.le_refl _) _)) (by decide) cs9 h9)).trans (HM3.out.below ((Below.refl _ _).alloc (Nat.le_refl _) _)))
            clear hown4 hgrow4 k0 r0
            go_wp2
            go_roundw
            case rel =>
              (repeat apply Exists.intro)
              refine ⟨?_, rfl⟩
              exact ⟨j + 1, by go_num, by omega, Lib.hid ⟨fs ++ [(7, kn.c)], HFV4.out, HU.out, by rw [List.length_append, List.length_singleton, ← HN9.out]; omega, HB4.out, HM4.out⟩⟩
            case measure => simp [intOf]; omega
        · obtain rfl : j = n := by omega
          have HE := Lib.hid (show _ ∧ _ ∧ _ ∧ _ from ⟨hfs, hup.next, hlen, hbw⟩)
          clear hfs hup hlen hg7 hbw HJ
          go_wp2
          go_roundw
          case rel => exact ⟨4, by go_num, by omega, Lib.hid ⟨fs, HE.out.1, HE.out.2.1, by have := HE.out.2.2.1; omega, HE.out.2.2.2⟩⟩
          case measure => simp [intOf]
    · have hnb := HRB.out.below HREL.out.choose_spec.2.2.2
      have c0 : wr.cell? ⟨RB, 8, none⟩ = some (.int .i64 8) := hnb.cell 8 rfl
      have c1 : wr.cell? ⟨RB, 9, none⟩ = some (.func (.func 56) #[] #[.pointer (some ⟨cb3, 0, none⟩)]) := hnb.cell 9 rfl
      have hx1 := boxed_below wr (.cells #[.int .i64 8, .func (.func 56) #[] #[.pointer (some ⟨cb3, 0, none⟩)]] 76)
      have n1 := BX.new wr 76 #[.int .i64 8, .func (.func 56) #[] #[.pointer (some ⟨cb3, 0, none⟩)]]
      obtain ⟨G7, hG7⟩ : ∃ g, g = wr.heap.size := ⟨_, rfl⟩
      rw [← hG7] at n1
      have HG7 := Lib.hid hG7
      clear hnb hG7
      go_upto_region 5 with fail
      rw [← HG7.out]
      obtain ⟨W1, hW1⟩ : ∃ W, W = wr.alloc (.cells #[.int .i64 8, .func (.func 56) #[] #[.pointer (some ⟨cb3, 0, none⟩)]] 76) := ⟨_, rfl⟩
      rw [← hW1] at hx1 n1 ⊢
      have HN1 := Lib.hid n1
      obtain ⟨fs0, hf0, hu0, hl0, hb0⟩ := HREL.out
      have HB1 := Lib.hid (hb0.trans (hx1.mono hb0.size))
      have HS0 := Lib.hid (show _ ∧ _ ∧ _ from ⟨hf0.keep hx1, hu0, hl0⟩)
      clear c0 c1 hW1 n1 hx1 hf0 hu0 hl0 hb0 HREL
      go_wp2
      go_loopw [5, 18] (fun v s wx => ∃ j : Nat, s = .int .i64 j ∧ j ≤ n ∧ Hid (∃ fs, FlV wx w.heap.size v fs ∧ UpP 6 n P 4 4 j fs ∧ fs.length ≤ 4 * n + j ∧ Below w.heap.size w wx ∧ BX wx G7 76 #[.int .i64 8, .func (.func 56) #[] #[.pointer (some ⟨cb3, 0, none⟩)]])) (fun _ s _ => n - (intOf s).toNat)
      case atStart => exact ⟨0, rfl, Nat.zero_le _, Lib.hid ⟨fs0, HS0.out.1, HS0.out.2.1, HS0.out.2.2, HB1.out, HN1.out⟩⟩
      case round =>
        obtain ⟨j, rfl, hj, HJ⟩ := hrel
        obtain ⟨wx, rfl⟩ : ∃ W : World, W = wr := ⟨_, rfl⟩
        obtain ⟨fs, hfs, hup, hlen, hbw, hg7⟩ := HJ.out
        by_cases hlt : j < n
        · have hlt' : (j : Int) < n := by omega
          obtain ⟨g, o, ak, nk, ck, av, nv, cv, ac, nc, cc, rfl, hP, hc⟩ := HK.out.get hlt
          obtain ⟨q0, q1, q2, q3, q4, q5, q6, q7, q8, q9, q10⟩ := hc _ hbw
          obtain ⟨kn, hkn⟩ : ∃ kn, kn = kAt ks j := ⟨_, rfl⟩
          rw [← hkn] at q0 q1 q2 q3 q4 q5 q6 q7 hP
          obtain ⟨rfl, rfl, rfl, _⟩ := PV.ndF hP
          have hx2 := boxed_below wx (.cells #[.int .i64 kn.c, .int .u64 kn.wd, .int .u64 kn.vr, .int .i64 kn.n.lv, .string kn.n.lo, .string kn.n.hi, .bool kn.n.la, .int .i64 kn.n.nx, .slice ak kn.n.ks.length ck, .slice av kn.n.vs.length cv, .slice ac kn.n.cs.length cc] 40)
          have n2 := BX.new wx 40 #[.int .i64 kn.c, .int .u64 kn.wd, .int .u64 kn.vr, .int .i64 kn.n.lv, .string kn.n.lo, .string kn.n.hi, .bool kn.n.la, .int .i64 kn.n.nx, .slice ak kn.n.ks.length ck, .slice av kn.n.vs.length cv, .slice ac kn.n.cs.length cc]
          obtain ⟨G9, hG9⟩ : ∃ g, g = wx.heap.size := ⟨_, rfl⟩
          rw [← hG9] at n2
          have HG9 := Lib.hid hG9
          have HKN := Lib.hid hkn
          have HP := Lib.hid hP
          have HFS := Lib.hid (show _ ∧ _ from ⟨hfs, hup⟩)
          have HG := Lib.hid hg7
          have HBW := Lib.hid hbw
          clear hc hkn hG9 hP hfs hup hg7 hbw HJ
          go_upto_region 8 with fail
          rw [← HG9.out]
          obtain ⟨W2, hW2⟩ : ∃ W, W = wx.alloc (.cells #[.int .i64 kn.c, .int .u64 kn.wd, .int .u64 kn.vr, .int .i64 kn.n.lv, .string kn.n.lo, .string kn.n.hi, .bool kn.n.la, .int .i64 kn.n.nx, .slice ak kn.n.ks.length ck, .slice av kn.n.vs.length cv, .slice ac kn.n.cs.length cc] 40) := ⟨_, rfl⟩
          rw [← hW2] at hx2 n2 ⊢
          have HBW2 := Lib.hid (HBW.out.trans (hx2.mono HBW.out.size))
          have HFV2 := Lib.hid (HFS.out.1.keep hx2)
          have HN2 := Lib.hid n2
          have m1 := HG.out.below hx2
          have HM1 := Lib.hid m1
          have r0 := m1.cell 0 rfl
          have r1 := m1.cell 1 rfl
          have k0 := n2.cell 0 rfl
          have k1 := n2.cell 1 rfl
          have k2 := n2.cell 2 rfl
          have k3 := n2.cell 3 rfl
          have k4 := n2.cell 4 rfl
          have k5 := n2.cell 5 rfl
          have k6 := n2.cell 6 rfl
          have k7 := n2.cell 7 rfl
          have k8 := n2.cell 8 rfl
          have k9 := n2.cell 9 rfl
          have k10 := n2.cell 10 rfl
          have HKV := Lib.hid (show KnV W2 (.agg #[.int .i64 kn.c, .int .u64 kn.wd, .int .u64 kn.vr, .int .i64 kn.n.lv, .string kn.n.lo, .string kn.n.hi, .bool kn.n.la, .int .i64 kn.n.nx, .slice ak kn.n.ks.length ck, .slice av kn.n.vs.length cv, .slice ac kn.n.cs.length cc]) (kAt ks j) by rw [← HKN.out]; exact KnV.keep HP.out (H0.out.trans (HBW2.out.mono H0.out.size)))
          have HCALL := Lib.hid (HR4.out j W2 _ hlt HBW2.out HKV.out)
          obtain ⟨bb, hbb⟩ : ∃ bb, bb = P 4 j := ⟨_, rfl⟩
          rw [← hbb] at HCALL
          have HBB := Lib.hid hbb
          clear q0 q1 q2 q3 q4 q5 q6 q7 q8 q9 q10 hx2 n2 hW2 m1 hbb
          go_wp2_with fail
          refine HCALL.out.mono ?_
          rintro e w3 ⟨rfl, hb3⟩
          have HB3 := Lib.hid (HBW2.out.trans (hb3.mono HBW2.out.size))
          have HFV3 := Lib.hid (HFV2.out.keep hb3)
          have n3 := HN2.out.below hb3
          have HM3 := Lib.hid (HM1.out.below hb3)
          clear r0 r1 k0 k1 k2 k3 k4 k5 k6 k7 k8 k9 k10 hb3
          cases bb with
          | false =>
            have HU := Lib.hid (HFS.out.2.no HBB.out.symm)
            clear n3
            go_wp2
            go_roundw
            case rel =>
              (repeat apply Exists.intro)
              refine ⟨?_, rfl⟩
              exact ⟨j + 1, by go_num, by omega, Lib.hid ⟨fs, HFV3.out, HU.out, by omega, HB3.out, HM3.out⟩⟩
            case measure => simp [intOf]; omega
          | true =>
            have HU := Lib.hid (HFS.out.2.yes (x := (8, kn.c)) (by omega) hlt HBB.out.symm (by simp))
            have k0 := n3.cell 0 rfl
            have r0 := HM3.out.cell 0 rfl
            have ho3 := World.ownsRow.alloc HFV3.out (.cells #[.int .i64 8, .int .i64 kn.c] 47)
            have hnews := World.news_of_block (cs := #[.int .i64 8, .int .i64 kn.c]) (heap_alloc_new w3 (.cells #[.int .i64 8, .int .i64 kn.c] 47))
            have hone : ∀ u ∈ [Value.int .i64 8, Value.int .i64 kn.c], u.oneCell' = true := by intro u hu; simp at hu; rcases hu with rfl | rfl <;> rfl
            have HH := Lib.hid (show _ ∧ _ ∧ _ from ⟨ho3, hnews, hone⟩)
            have HBA := Lib.hid (HB3.out.trans (((Below.refl w3.heap.size w3).alloc (Nat.le_refl _) (.cells #[.int .i64 8, .int .i64 kn.c] 47)).mono HB3.out.size))
            obtain ⟨n9, hn9⟩ : ∃ n9, n9 = fs.length := ⟨_, rfl⟩
            rw [← hn9] at HH hlen
            have HN9 := Lib.hid hn9
            have hbase : w.heap.size ≤ w3.heap.size := HB3.out.size
            have HBASE := Lib.hid hbase
            clear n3 ho3 hnews hone hn9 hbase
            go_wp2_with ((with_reducible show wpList _ _ _ (⟨some 33, _, _, _, _, _⟩ :: _) _ _); refine wpList_append_own (o := ⟨some 33, _, _, _, _, _⟩) _ rfl _ _ 42 rfl w.heap.size 47 i0 (.agg #[.int .i64 0, .int .i64 0]) 2 16 Try.underlying42 HI.out.1 HI.out.2.1 HI.out.2.2.1 HI.out.2.2.2 rfl (by decide) _ _ _ rfl HH.out.1 ⟨w3.heap.size, 0, none⟩ 1 1 [.int .i64 8, .int .i64 kn.c] rfl rfl HH.out.2.1 HH.out.2.2 (by unfold maxLen; omega) (by omega) (by rw [World.size_alloc]; have := HBASE.out; omega) ?_)
            intro v4 w4 hown4 hgrow4 _
            have HFV4 := Lib.hid (show FlV w4 w.heap.size v4 (fs ++ [(8, kn.c)]) from by
              unfold FlV
              rw [List.length_append, List.length_singleton, flC_app, ← HN9.out]
              exact hown4)
            have HB4 := Lib.hid (HBA.out.grown hgrow4 (by rw [World.size_alloc]; have := HBASE.out; omega) (fun i hi => (fv_block HH.out.1 hi).1))
            have HM4 := Lib.hid (show BX w4 G7 _ _ from (hgrow4.block G7 (lt_of_block (HM3.out.below ((Below.refl _ _).alloc (Nat.le_refl _) _))) (fun e => by
              obtain ⟨_, cs9, h9⟩ := fv_block HH.out.1 e.symm
              exact bx_no2 (HM3.out.below ((Below.refl _ _).alloc (Nat.le_refl _) _)) (by decide) cs9 h9)).trans (HM3.out.below ((Below.refl _ _).alloc (Nat.le_refl _) _)))
            clear hown4 hgrow4 k0 r0
            go_wp2
            go_roundw
            case rel =>
              (repeat apply Exists.intro)
              refine ⟨?_, rfl⟩
              exact ⟨j + 1, by go_num, by omega, Lib.hid ⟨fs ++ [(8, kn.c)], HFV4.out, HU.out, by rw [List.length_append, List.length_singleton, ← HN9.out]; omega, HB4.out, HM4.out⟩⟩
            case measure => simp [intOf]; omega
        · obtain rfl : j = n := by omega
          have HE := Lib.hid (show _ ∧ _ ∧ _ ∧ _ from ⟨hfs, hup.next, hlen, hbw⟩)
          clear hfs hup hlen hg7 hbw HJ
          go_wp2
          go_roundw
          case rel => exact ⟨5, by go_num, by omega, Lib.hid ⟨fs, HE.out.1, HE.out.2.1, by have := HE.out.2.2.1; omega, HE.out.2.2.2⟩⟩
          case measure => simp [intOf]
    · have hnb := HRB.out.below HREL.out.choose_spec.2.2.2
      have c0 : wr.cell? ⟨RB, 10, none⟩ = some (.int .i64 9) := hnb.cell 10 rfl
      have c1 : wr.cell? ⟨RB, 11, none⟩ = some (.func (.func 58) #[] #[.pointer (some ⟨cb6, 0, none⟩)]) := hnb.cell 11 rfl
      have hx1 := boxed_below wr (.cells #[.int .i64 9, .func (.func 58) #[] #[.pointer (some ⟨cb6, 0, none⟩)]] 76)
      have n1 := BX.new wr 76 #[.int .i64 9, .func (.func 58) #[] #[.pointer (some ⟨cb6, 0, none⟩)]]
      obtain ⟨G7, hG7⟩ : ∃ g, g = wr.heap.size := ⟨_, rfl⟩
      rw [← hG7] at n1
      have HG7 := Lib.hid hG7
      clear hnb hG7
      go_upto_region 5 with fail
      rw [← HG7.out]
      obtain ⟨W1, hW1⟩ : ∃ W, W = wr.alloc (.cells #[.int .i64 9, .func (.func 58) #[] #[.pointer (some ⟨cb6, 0, none⟩)]] 76) := ⟨_, rfl⟩
      rw [← hW1] at hx1 n1 ⊢
      have HN1 := Lib.hid n1
      obtain ⟨fs0, hf0, hu0, hl0, hb0⟩ := HREL.out
      have HB1 := Lib.hid (hb0.trans (hx1.mono hb0.size))
      have HS0 := Lib.hid (show _ ∧ _ ∧ _ from ⟨hf0.keep hx1, hu0, hl0⟩)
      clear c0 c1 hW1 n1 hx1 hf0 hu0 hl0 hb0 HREL
      go_wp2
      go_loopw [5, 18] (fun v s wx => ∃ j : Nat, s = .int .i64 j ∧ j ≤ n ∧ Hid (∃ fs, FlV wx w.heap.size v fs ∧ UpP 6 n P 4 5 j fs ∧ fs.length ≤ 5 * n + j ∧ Below w.heap.size w wx ∧ BX wx G7 76 #[.int .i64 9, .func (.func 58) #[] #[.pointer (some ⟨cb6, 0, none⟩)]])) (fun _ s _ => n - (intOf s).toNat)
      case atStart => exact ⟨0, rfl, Nat.zero_le _, Lib.hid ⟨fs0, HS0.out.1, HS0.out.2.1, HS0.out.2.2, HB1.out, HN1.out⟩⟩
      case round =>
        obtain ⟨j, rfl, hj, HJ⟩ := hrel
        obtain ⟨wx, rfl⟩ : ∃ W : World, W = wr := ⟨_, rfl⟩
        obtain ⟨fs, hfs, hup, hlen, hbw, hg7⟩ := HJ.out
        by_cases hlt : j < n
        · have hlt' : (j : Int) < n := by omega
          obtain ⟨g, o, ak, nk, ck, av, nv, cv, ac, nc, cc, rfl, hP, hc⟩ := HK.out.get hlt
          obtain ⟨q0, q1, q2, q3, q4, q5, q6, q7, q8, q9, q10⟩ := hc _ hbw
          obtain ⟨kn, hkn⟩ : ∃ kn, kn = kAt ks j := ⟨_, rfl⟩
          rw [← hkn] at q0 q1 q2 q3 q4 q5 q6 q7 hP
          obtain ⟨rfl, rfl, rfl, _⟩ := PV.ndF hP
          have hx2 := boxed_below wx (.cells #[.int .i64 kn.c, .int .u64 kn.wd, .int .u64 kn.vr, .int .i64 kn.n.lv, .string kn.n.lo, .string kn.n.hi, .bool kn.n.la, .int .i64 kn.n.nx, .slice ak kn.n.ks.length ck, .slice av kn.n.vs.length cv, .slice ac kn.n.cs.length cc] 40)
          have n2 := BX.new wx 40 #[.int .i64 kn.c, .int .u64 kn.wd, .int .u64 kn.vr, .int .i64 kn.n.lv, .string kn.n.lo, .string kn.n.hi, .bool kn.n.la, .int .i64 kn.n.nx, .slice ak kn.n.ks.length ck, .slice av kn.n.vs.length cv, .slice ac kn.n.cs.length cc]
          obtain ⟨G9, hG9⟩ : ∃ g, g = wx.heap.size := ⟨_, rfl⟩
          rw [← hG9] at n2
          have HG9 := Lib.hid hG9
          have HKN := Lib.hid hkn
          have HP := Lib.hid hP
          have HFS := Lib.hid (show _ ∧ _ from ⟨hfs, hup⟩)
          have HG := Lib.hid hg7
          have HBW := Lib.hid hbw
          clear hc hkn hG9 hP hfs hup hg7 hbw HJ
          go_upto_region 8 with fail
          rw [← HG9.out]
          obtain ⟨W2, hW2⟩ : ∃ W, W = wx.alloc (.cells #[.int .i64 kn.c, .int .u64 kn.wd, .int .u64 kn.vr, .int .i64 kn.n.lv, .string kn.n.lo, .string kn.n.hi, .bool kn.n.la, .int .i64 kn.n.nx, .slice ak kn.n.ks.length ck, .slice av kn.n.vs.length cv, .slice ac kn.n.cs.length cc] 40) := ⟨_, rfl⟩
          rw [← hW2] at hx2 n2 ⊢
          have HBW2 := Lib.hid (HBW.out.trans (hx2.mono HBW.out.size))
          have HFV2 := Lib.hid (HFS.out.1.keep hx2)
          have HN2 := Lib.hid n2
          have m1 := HG.out.below hx2
          have HM1 := Lib.hid m1
          have r0 := m1.cell 0 rfl
          have r1 := m1.cell 1 rfl
          have k0 := n2.cell 0 rfl
          have k1 := n2.cell 1 rfl
          have k2 := n2.cell 2 rfl
          have k3 := n2.cell 3 rfl
          have k4 := n2.cell 4 rfl
          have k5 := n2.cell 5 rfl
          have k6 := n2.cell 6 rfl
          have k7 := n2.cell 7 rfl
          have k8 := n2.cell 8 rfl
          have k9 := n2.cell 9 rfl
          have k10 := n2.cell 10 rfl
          have HKV := Lib.hid (show KnV W2 (.agg #[.int .i64 kn.c, .int .u64 kn.wd, .int .u64 kn.vr, .int .i64 kn.n.lv, .string kn.n.lo, .string kn.n.hi, .bool kn.n.la, .int .i64 kn.n.nx, .slice ak kn.n.ks.length ck, .slice av kn.n.vs.length cv, .slice ac kn.n.cs.length cc]) (kAt ks j) by rw [← HKN.out]; exact KnV.keep HP.out (H0.out.trans (HBW2.out.mono H0.out.size)))
          have HCALL := Lib.hid (HR5.out j W2 _ hlt HBW2.out HKV.out)
          obtain ⟨bb, hbb⟩ : ∃ bb, bb = P 5 j := ⟨_, rfl⟩
          rw [← hbb] at HCALL
          have HBB := Lib.hid hbb
          clear q0 q1 q2 q3 q4 q5 q6 q7 q8 q9 q10 hx2 n2 hW2 m1 hbb
          go_wp2_with fail
          refine HCALL.out.mono ?_
          rintro e w3 ⟨rfl, hb3⟩
          have HB3 := Lib.hid (HBW2.out.trans (hb3.mono HBW2.out.size))
          have HFV3 := Lib.hid (HFV2.out.keep hb3)
          have n3 := HN2.out.below hb3
          have HM3 := Lib.hid (HM1.out.below hb3)
          clear r0 r1 k0 k1 k2 k3 k4 k5 k6 k7 k8 k9 k10 hb3
          cases bb with
          | false =>
            have HU := Lib.hid (HFS.out.2.no HBB.out.symm)
            clear n3
            go_wp2
            go_roundw
            case rel =>
              (repeat apply Exists.intro)
              refine ⟨?_, rfl⟩
              exact ⟨j + 1, by go_num, by omega, Lib.hid ⟨fs, HFV3.out, HU.out, by omega, HB3.out, HM3.out⟩⟩
            case measure => simp [intOf]; omega
          | true =>
            have HU := Lib.hid (HFS.out.2.yes (x := (9, kn.c)) (by omega) hlt HBB.out.symm (by simp))
            have k0 := n3.cell 0 rfl
            have r0 := HM3.out.cell 0 rfl
            have ho3 := World.ownsRow.alloc HFV3.out (.cells #[.int .i64 9, .int .i64 kn.c] 47)
            have hnews := World.news_of_block (cs := #[.int .i64 9, .int .i64 kn.c]) (heap_alloc_new w3 (.cells #[.int .i64 9, .int .i64 kn.c] 47))
            have hone : ∀ u ∈ [Value.int .i64 9, Value.int .i64 kn.c], u.oneCell' = true := by intro u hu; simp at hu; rcases hu with rfl | rfl <;> rfl
            have HH := Lib.hid (show _ ∧ _ ∧ _ from ⟨ho3, hnews, hone⟩)
            have HBA := Lib.hid (HB3.out.trans (((Below.refl w3.heap.size w3).alloc (Nat.le_refl _) (.cells #[.int .i64 9, .int .i64 kn.c] 47)).mono HB3.out.size))
            obtain ⟨n9, hn9⟩ : ∃ n9, n9 = fs.length := ⟨_, rfl⟩
            rw [← hn9] at HH hlen
            have HN9 := Lib.hid hn9
            have hbase : w.heap.size ≤ w3.heap.size := HB3.out.size
            have HBASE := Lib.hid hbase
            clear n3 ho3 hnews hone hn9 hbase
            go_wp2_with ((with_reducible show wpList _ _ _ (⟨some 33, _, _, _, _, _⟩ :: _) _ _); refine wpList_append_own (o := ⟨some 33, _, _, _, _, _⟩) _ rfl _ _ 42 rfl w.heap.size 47 i0 (.agg #[.int .i64 0, .int .i64 0]) 2 16 Try.underlying42 HI.out.1 HI.out.2.1 HI.out.2.2.1 HI.out.2.2.2 rfl (by decide) _ _ _ rfl HH.out.1 ⟨w3.heap.size, 0, none⟩ 1 1 [.int .i64 9, .int .i64 kn.c] rfl rfl HH.out.2.1 HH.out.2.2 (by unfold maxLen; omega) (by omega) (by rw [World.size_alloc]; have := HBASE.out; omega) ?_)
            intro v4 w4 hown4 hgrow4 _
            have HFV4 := Lib.hid (show FlV w4 w.heap.size v4 (fs ++ [(9, kn.c)]) from by
              unfold FlV
              rw [List.length_append, List.length_singleton, flC_app, ← HN9.out]
              exact hown4)
            have HB4 := Lib.hid (HBA.out.grown hgrow4 (by rw [World.size_alloc]; have := HBASE.out; omega) (fun i hi => (fv_block HH.out.1 hi).1))
            have HM4 := Lib.hid (show BX w4 G7 _ _ from (hgrow4.block G7 (lt_of_block (HM3.out.below ((Below.refl _ _).alloc (Nat.le_refl _) _))) (fun e => by
              obtain ⟨_, cs9, h9⟩ := fv_block HH.out.1 e.symm
              exact bx_no2 (HM3.out.below ((Below.refl _ _).alloc (Nat.le_refl _) _)) (by decide) cs9 h9)).trans (HM3.out.below ((Below.refl _ _).alloc (Nat.le_refl _) _)))
            clear hown4 hgrow4 k0 r0
            go_wp2
            go_roundw
            case rel =>
              (repeat apply Exists.intro)
              refine ⟨?_, rfl⟩
              exact ⟨j + 1, by go_num, by omega, Lib.hid ⟨fs ++ [(9, kn.c)], HFV4.out, HU.out, by rw [List.length_append, List.length_singleton, ← HN9.out]; omega, HB4.out, HM4.out⟩⟩
            case measure => simp [intOf]; omega
        · obtain rfl : j = n := by omega
          have HE := Lib.hid (show _ ∧ _ ∧ _ ∧ _ from ⟨hfs, hup.next, hlen, hbw⟩)
          clear hfs hup hlen hg7 hbw HJ
          go_wp2
          go_roundw
          case rel => exact ⟨6, by go_num, by omega, Lib.hid ⟨fs, HE.out.1, HE.out.2.1, by have := HE.out.2.2.1; omega, HE.out.2.2.2⟩⟩
          case measure => simp [intOf]
    · obtain ⟨fs, hfs, hup, hlen, hbx⟩ := HREL.out
      have HE := Lib.hid (show _ ∧ _ ∧ _ from ⟨hup.done, hbx, hlen⟩)
      have HS := Lib.hid (sortFV w.heap.size _ fs wr hfs (by omega))
      clear hfs hup hlen hbx HREL
      go_wp2_with fail
      refine HS.out.mono ?_
      rintro e w5 ⟨rfl, ⟨fs2, hf2, hp⟩, hb5⟩
      have HC := Lib.hid (compactFV w.heap.size _ fs2 w5 hf2)
      have HP := Lib.hid hp
      have HB5 := Lib.hid (HE.out.2.1.trans hb5)
      clear hf2 hp hb5
      go_wp2_with fail
      refine HC.out.mono ?_
      rintro e w6 ⟨⟨v3, fs3, rfl, hf3, hk3⟩, hb6⟩
      have HX := Lib.hid (show _ ∧ _ ∧ _ from ⟨hf3, hk3, HB5.out.trans hb6⟩)
      clear hf3 hk3 hb6
      go_wp2
      go_ret
      exact ⟨⟨v3, fs3, rfl, HX.out.1, HE.out.1.kept HP.out HX.out.2.1, Nat.le_trans HX.out.2.1.2.2 (Nat.le_trans (Nat.le_of_eq HP.out.length_eq) HE.out.2.2)⟩, HX.out.2.2⟩
end Go.Proofs.Ytgaacoeggikbpaa
