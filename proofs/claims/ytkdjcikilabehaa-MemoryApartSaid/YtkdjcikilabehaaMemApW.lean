/- bowerlaw26.MemoryApart: no cell is two things. No condition. -/
import Derived.Test.YtkdjcikilabehaaMemApM
import Derived.Test.YtkdjcikilabehaaLater
import Derived.Deep.AppendLies
namespace Go.Proofs.Ytkdjcikilabehaa
open Go.RowKit

theorem own_below26 {w w' : World} {B : Nat} {t : TypeId} {k n : Nat} {v : Value} {xs : List Value} (h : w.ownsRow B t k v n xs) (hb : Below w.heap.size w w') : w'.ownsRow B t k v n xs := by
  refine ⟨h.1, ?_⟩
  rcases h.2 with hn | ⟨g, cap, cur, rfl, hbg, hg, rest⟩
  · exact Or.inl hn
  · exact Or.inr ⟨g, cap, cur, rfl, hbg, by rw [hb.block g (lt_of_block hg)]; exact hg, rest⟩
theorem infoI26 : (Try.prog.info? 3).map (fun i => (i.zero, i.size, i.bytes)) = some (some (.int .i64 0), 1, 8) := by kernel_rfl
set_option maxHeartbeats 8000000 in
set_option maxRecDepth 100000 in
theorem memApart_any (a t : Nat) (i k : Int) (ha : a < 256) (ht : t < 256) (w : World) :
    Calls Try.prog 4 #[.int .u8 (a : Nat), .int .u8 (t : Nat), .int .i64 i, .int .i64 k] w fun e w' => e = .returned (.bool true) ∧ Below w.heap.size w w' := by
  obtain ⟨A, hA⟩ : ∃ A, A = a % 20 + 1 := ⟨_, rfl⟩
  obtain ⟨T, hT⟩ : ∃ T, T = t % 16 + 1 := ⟨_, rfl⟩
  have HN := Lib.hid (fun W => new_any26 A T 0 (by omega) (by omega) (by omega) (by omega) (by decide) W)
  have HAT := Lib.hid (And.intro hA hT)
  have h0 : (a : Int) ≤ 255 := by omega
  have h1 : (t : Int) ≤ 255 := by omega
  have e1 : (a : Int).tmod 20 = ((a % 20 : Nat) : Int) := by rw [Int.tmod_eq_emod_of_nonneg (by omega)]; omega
  have e2 : (t : Int).tmod 16 = ((t % 16 : Nat) : Int) := by rw [Int.tmod_eq_emod_of_nonneg (by omega)]; omega
  have b1 : a % 20 < 20 := Nat.mod_lt _ (by decide)
  have b2 : t % 16 < 16 := Nat.mod_lt _ (by decide)
  have HT16 := Lib.hid (show T ≤ 16 from by omega)
  generalize a % 20 = a1 at *
  generalize t % 16 = t1 at *
  clear hA hT
  go_enter Try.func4, Try.ntmps4
  go_wp2_with fail
  rw [show (a1 : Int) + 1 = (A : Int) by (have := HAT.out.1; omega), show (t1 : Int) + 1 = (T : Int) by (have := HAT.out.2; omega)]
  refine (HN.out w).mono ?_
  rintro e w1 ⟨p, o, cb, cg, bg, rg, rfl, hm, hb, _, _, _⟩
  have HM := Lib.hid hm
  have HBW := Lib.hid hb
  have HV0 := Lib.hid (Below.refl w1.heap.size w1)
  have hA1 : 1 ≤ A := by (have := HAT.out.1; omega)
  clear hm hb e1 e2 b1 b2 h0 h1 ha ht
  go_wp2_with fail
  refine (mNode_any _ _ _ _ A T i w1 (HM.out.below HV0.out).mem).mono ?_
  rintro e x0 ⟨rfl, hb0⟩
  have HV1 := Lib.hid (HV0.out.trans (hb0.mono HV0.out.size))
  clear hb0 HV0
  go_wp2_with fail
  refine (mUse_any _ _ _ _ A T i x0 (HM.out.below HV1.out).mem).mono ?_
  rintro e x1 ⟨rfl, hb1⟩
  have HV2 := Lib.hid (HV1.out.trans (hb1.mono HV1.out.size))
  clear hb1 HV1
  go_wp2_with fail
  refine (mAnnounce_any _ _ _ _ A T i x1 (HM.out.below HV2.out).mem).mono ?_
  rintro e x2 ⟨rfl, hb2⟩
  have HV3 := Lib.hid (HV2.out.trans (hb2.mono HV2.out.size))
  clear hb2 HV2
  go_wp2_with fail
  refine (mDone_any _ _ _ _ A T i x2 (HM.out.below HV3.out).mem).mono ?_
  rintro e x3 ⟨rfl, hb3⟩
  have HV4 := Lib.hid (HV3.out.trans (hb3.mono HV3.out.size))
  clear hb3 HV3
  go_wp2_with fail
  refine (mPhase_any _ _ _ _ A T i x3 (HM.out.below HV4.out).mem).mono ?_
  rintro e x4 ⟨rfl, hb4⟩
  have HV5 := Lib.hid (HV4.out.trans (hb4.mono HV4.out.size))
  clear hb4 HV4
  go_wp2_with fail
  refine (mHazard_any _ _ _ _ A T i 0 HT16.out x4 (HM.out.below HV5.out).mem).mono ?_
  rintro e x5 ⟨rfl, hb5⟩
  have HV6 := Lib.hid (HV5.out.trans (hb5.mono HV5.out.size))
  clear hb5 HV5
  go_wp2_with fail
  refine (mHazard_any _ _ _ _ A T i 1 HT16.out x5 (HM.out.below HV6.out).mem).mono ?_
  rintro e x6 ⟨rfl, hb6⟩
  have HV7 := Lib.hid (HV6.out.trans (hb6.mono HV6.out.size))
  clear hb6 HV6
  go_wp2_with fail
  refine (mGate_any _ _ _ _ A T x6 (HM.out.below HV7.out).mem).mono ?_
  rintro e x7 ⟨rfl, hb7⟩
  have HV8 := Lib.hid (HV7.out.trans (hb7.mono HV7.out.size))
  clear hb7 HV7
  go_wp2_with fail
  refine (mNode_any _ _ _ _ A T k x7 (HM.out.below HV8.out).mem).mono ?_
  rintro e x8 ⟨rfl, hb8⟩
  have HV9 := Lib.hid (HV8.out.trans (hb8.mono HV8.out.size))
  clear hb8 HV8
  go_wp2_with fail
  refine (mUse_any _ _ _ _ A T k x8 (HM.out.below HV9.out).mem).mono ?_
  rintro e x9 ⟨rfl, hb9⟩
  have HV10 := Lib.hid (HV9.out.trans (hb9.mono HV9.out.size))
  clear hb9 HV9
  go_wp2_with fail
  refine (mAnnounce_any _ _ _ _ A T k x9 (HM.out.below HV10.out).mem).mono ?_
  rintro e x10 ⟨rfl, hb10⟩
  have HV11 := Lib.hid (HV10.out.trans (hb10.mono HV10.out.size))
  clear hb10 HV10
  go_wp2_with fail
  refine (mDone_any _ _ _ _ A T k x10 (HM.out.below HV11.out).mem).mono ?_
  rintro e x11 ⟨rfl, hb11⟩
  have HV12 := Lib.hid (HV11.out.trans (hb11.mono HV11.out.size))
  clear hb11 HV11
  go_wp2_with fail
  refine (mPhase_any _ _ _ _ A T k x11 (HM.out.below HV12.out).mem).mono ?_
  rintro e x12 ⟨rfl, hb12⟩
  have HV13 := Lib.hid (HV12.out.trans (hb12.mono HV12.out.size))
  clear hb12 HV12
  go_wp2_with fail
  refine (mHazard_any _ _ _ _ A T k 0 HT16.out x12 (HM.out.below HV13.out).mem).mono ?_
  rintro e x13 ⟨rfl, hb13⟩
  have HV14 := Lib.hid (HV13.out.trans (hb13.mono HV13.out.size))
  clear hb13 HV13
  go_wp2_with fail
  refine (mHazard_any _ _ _ _ A T k 1 HT16.out x13 (HM.out.below HV14.out).mem).mono ?_
  rintro e x14 ⟨rfl, hb14⟩
  have HV15 := Lib.hid (HV14.out.trans (hb14.mono HV14.out.size))
  clear hb14 HV14
  obtain ⟨L, hL⟩ : ∃ L, L = apL A T i k := ⟨_, rfl⟩
  have HIN := Lib.hid (show ∀ v ∈ L, -1 ≤ v ∧ v < ((2 * A + 5 * T + 1 : Nat) : Int) from by rw [hL]; exact ap_in A T i k hA1)
  have HSM := Lib.hid (show ∀ x y : Nat, x < 15 → y < x → 0 ≤ L.getD x 0 → (L.getD x 0 = L.getD y 0 ↔ (i = k ∧ x = y + 8)) from by rw [hL]; exact fun x y => ap_same A T i k hA1 x y)
  have HLL := Lib.hid (show L.length = 15 from by rw [hL]; rfl)
  have hbk := Blk.new x14 3 (L.map (Value.int .i64)).toArray
  have hal := (one_alloc x14 (.cells (L.map (Value.int .i64)).toArray 3)).2
  rw [hL] at hbk hal
  have HBK := Lib.hid hbk
  have HAL := Lib.hid hal
  have HLE := Lib.hid hL
  clear hbk hal hL HN HAT
  obtain ⟨i0, hi, hz0, hz1, hz2⟩ := info_parts infoI26
  have HI := Lib.hid (show _ ∧ _ ∧ _ ∧ _ from ⟨hi, hz0, hz1, hz2⟩)
  clear hi hz0 hz1 hz2
  go_wp2
  go_loopw [12, 75] (fun va vi wr => ∃ (j : Nat) (v12 : Value), vi = .int .i64 j ∧ v12 = va ∧ j ≤ 15 ∧ Hid (wr.ownsRow (x14.heap.size + 1) 3 1 v12 j ((L.take j).map (Value.int .i64))) ∧ Hid (Blk wr x14.heap.size 3 ((apL A T i k).map (Value.int .i64)).toArray ∧ Below w1.heap.size w1 wr)) (fun _ vi _ => 15 - (intOf vi).toNat)
  case atStart => exact ⟨0, _, rfl, rfl, Nat.zero_le _, Lib.hid (World.ownsRow_nil _ _ _ _), Lib.hid ⟨HBK.out, HV15.out.trans (HAL.out.mono HV15.out.size)⟩⟩
  case round =>
    obtain ⟨j, v12, rfl, rfl, hj, ho, hB⟩ := hrel
    by_cases hlt : j < 15
    · have hlt' : (j : Int) < 15 := by omega
      have hjl : j < L.length := by rw [HLL.out]; exact hlt
      have hc : wr.cell? ⟨x14.heap.size, j, none⟩ = some (.int .i64 (L.getD j 0)) := by
        rw [hB.out.1.cell, ← HLE.out, List.getElem?_toArray, List.getElem?_map, List.getElem?_eq_getElem hjl, List.getD_eq_getElem?_getD, List.getElem?_eq_getElem hjl]; rfl
      have hin := HIN.out (L.getD j 0) (by rw [List.getD_eq_getElem?_getD, List.getElem?_eq_getElem hjl]; exact List.getElem_mem hjl)
      have HTK : Hid ((L.take (j + 1)).map (Value.int .i64) = (L.take j).map (Value.int .i64) ++ [.int .i64 (L.getD j 0)]) := Lib.hid (by
        rw [List.take_succ_eq_append_getElem hjl, List.map_append, List.getD_eq_getElem?_getD, List.getElem?_eq_getElem hjl]; rfl)
      generalize L.getD j 0 = v at *
      have g1 : ¬ v < -1 := by omega
      have g2 : ¬ ((2 * A + 5 * T + 1 : Nat) : Int) ≤ v := by omega
      have HMR := Lib.hid (HM.out.below hB.out.2)
      have HLEN := Lib.hid (mLen_any (.pointer (some ⟨p, 0, none⟩)) _ _ _ A T (2 * A + 5 * T + 1) wr HMR.out.mem (fun V hV => by
        have h2 := cLen_any cb cg _ V (HMR.out.below hV).c
        rw [HMR.out.cl] at h2
        exact h2))
      generalize 2 * A + 5 * T + 1 = nn at *
      go_wp2_with fail
      refine HLEN.out.mono ?_
      rintro e w2 ⟨rfl, hb2⟩
      have HO2 := Lib.hid (own_below26 (own_below26 ho.out hb2) (one_alloc w2 (.cells #[.int .i64 v] 3)).2)
      have hbb := (hB.out.2.trans (hb2.mono hB.out.2.size)).trans ((one_alloc w2 (.cells #[.int .i64 v] 3)).2.mono (hB.out.2.trans (hb2.mono hB.out.2.size)).size)
      have HB3 := Lib.hid hbb
      have HSZ := Lib.hid (show x14.heap.size + 1 ≤ (w2.alloc (.cells #[.int .i64 v] 3)).heap.size from ((hB.out.1.below hb2).below (one_alloc w2 (.cells #[.int .i64 v] 3)).2).lt)
      have HBK3 := Lib.hid ((hB.out.1.below hb2).below (one_alloc w2 (.cells #[.int .i64 v] 3)).2)
      have hcs : ∀ q u, [Value.int .i64 v][q]? = some u → (w2.alloc (.cells #[.int .i64 v] 3)).cell? ((⟨w2.heap.size, 0, none⟩ : Addr).add q) = some u := fun q u hu => by
        have e : (⟨w2.heap.size, 0, none⟩ : Addr).add q = ⟨w2.heap.size, q, none⟩ := by
          by_cases e : q = 0
          · subst e; simp [Addr.add]
          · simp [Addr.add, e]
        rw [e, (Blk.new w2 3 #[.int .i64 v]).cell]
        simpa using hu
      have HCS := Lib.hid hcs
      clear hb2 hbb hcs hc hjl
      go_wp2_with (refine wpList_append_lies _ rfl (.tmp 87) (.tmp 89) 31 rfl (x14.heap.size + 1) 3 i0 (.int .i64 0) 1 8 Try.underlying31 HI.out.1 HI.out.2.1 HI.out.2.2.1 HI.out.2.2.2 rfl (by decide) _ _ _ rfl HO2.out ⟨w2.heap.size, 0, none⟩ 1 1 [.int .i64 v] rfl rfl HCS.out (by simp [Value.oneCell']) (by decide) (by unfold maxLen; omega) (by omega) HSZ.out _ rfl ?_; intro ga ca wa howa hgra hlia hlta)
      go_roundw
      case rel =>
        have hx := HV15.out.size
        exact ⟨j + 1, _, by go_num, rfl, by omega, Lib.hid (by rw [HTK.out]; exact howa), Lib.hid ⟨(hgra.block _ HBK3.out.lt (fun e => by have := (HO2.out.lt _ e.symm).1; omega)).trans HBK3.out, HB3.out.grown hgra HB3.out.size (fun q hq => by have := (HO2.out.lt q hq).1; omega)⟩⟩
      case measure => simp [intOf]; omega
    · obtain rfl : j = 15 := by omega
      have hoo := ho.out
      rw [show L.take 15 = L from by rw [← HLL.out, List.take_length]] at hoo
      have hex : ∃ g c, v12 = .slice (some ⟨g, 0, none⟩) 15 c ∧ ∀ x, x < 15 → wr.cell? ⟨g, x, none⟩ = some (.int .i64 (L.getD x 0)) := by
        rcases hoo.2 with ⟨_, h0⟩ | ⟨g, cap, cur, e, _, hg, _, _, hs, ht⟩
        · exact absurd h0 (by decide)
        · refine ⟨g, cap, e, fun x hx => ?_⟩
          have hxl : x < L.length := by rw [HLL.out]; exact hx
          rw [cell_of_row wr g x cur _ (0, 0) hg]
          have h2 := congrArg (fun q => q[x]?) ht
          simp only [List.getElem?_map, List.getElem?_eq_getElem hxl] at h2
          rw [List.getElem?_take_of_lt (by omega)] at h2
          rw [List.getD_eq_getElem?_getD, List.getElem?_eq_getElem hxl]
          simpa using h2
      obtain ⟨g, c, rfl, hce⟩ := hex
      have HCE := Lib.hid hce
      have HBF := Lib.hid hB.out.2
      clear hoo hce ho hB
      go_wp2
      go_loopw [94] (fun vi wq => ∃ x : Nat, vi = .int .i64 x ∧ x ≤ 15 ∧ Hid (Below wr.heap.size wr wq)) (fun vi _ => 15 - (intOf vi).toNat)
      case atStart => exact ⟨0, rfl, Nat.zero_le _, Lib.hid (Below.refl _ _)⟩
      case round =>
        obtain ⟨wA, rfl⟩ : ∃ wA : World, wA = wr := ⟨_, rfl⟩
        obtain ⟨x, rfl, hx, hB1⟩ := hrel
        by_cases hlx : x < 15
        · have hlx' : (x : Int) < 15 := by omega
          go_wp2
          go_loopw [98] (fun vi wq => ∃ y : Nat, vi = .int .i64 y ∧ y ≤ x ∧ Hid (Below wr.heap.size wr wq)) (fun vi _ => x - (intOf vi).toNat)
          case atStart => exact ⟨0, rfl, Nat.zero_le _, hB1⟩
          case round =>
            obtain ⟨wB, rfl⟩ : ∃ wB : World, wB = wr := ⟨_, rfl⟩
            obtain ⟨y, rfl, hy, hB2⟩ := hrel
            by_cases hly : y < x
            · have hly' : (y : Int) < x := by omega
              have hy15 : y < 15 := by omega
              have hy15' : (y : Int) < 15 := by omega
              have hgx := World.block_lt_of_cell? wr _ (HCE.out x hlx)
              have cx : wB.cell? ⟨g, x, none⟩ = some (.int .i64 (L.getD x 0)) := (hB2.out.cell (p := ⟨g, x, none⟩) hgx).trans (HCE.out x hlx)
              have cy : wB.cell? ⟨g, y, none⟩ = some (.int .i64 (L.getD y 0)) := (hB2.out.cell (p := ⟨g, y, none⟩) hgx).trans (HCE.out y (by omega))
              have hsm := HSM.out x y hlx hly
              generalize L.getD x 0 = vx at *
              generalize L.getD y 0 = vy at *
              clear hgx
              obtain ⟨sm, hsm2⟩ : ∃ sm : Bool, sm = decide (i = k ∧ x = y + 8) := ⟨_, rfl⟩
              have hs3 : 0 ≤ vx → (vx == vy) = sm := fun hp => by
                have hs := hsm hp
                rw [hsm2, Bool.eq_iff_iff, beq_iff_eq, decide_eq_true_iff]
                exact hs
              have HS3 := Lib.hid hs3
              have HSM2 := Lib.hid hsm2
              clear hs3 hsm hsm2
              go_upto_region 17 with fail
              go_cut [17] (fun s17 wx => s17 = .bool sm ∧ Hid (wx = wB))
              case first =>
                clear cx cy
                by_cases hik : i = k
                · by_cases hxy : x = y + 8
                  · have b1 : (i == k) = true := by simpa using hik
                    have b2 : ((x : Int) == (y : Int) + 8) = true := by rw [beq_iff_eq]; omega
                    have HSE : Hid (sm = true) := Lib.hid (by rw [HSM2.out, decide_eq_true_iff]; exact ⟨hik, hxy⟩)
                    clear hik hxy
                    go_wp2
                    go_meet
                    exact ⟨by rw [HSE.out], Lib.hid rfl⟩
                  · have b1 : (i == k) = true := by simpa using hik
                    have b2 : ((x : Int) == (y : Int) + 8) = false := by rw [beq_eq_false_iff_ne]; omega
                    have HSE : Hid (sm = false) := Lib.hid (by rw [HSM2.out, decide_eq_false_iff_not]; exact fun h => hxy h.2)
                    clear hik hxy
                    go_wp2
                    go_meet
                    exact ⟨by rw [HSE.out], Lib.hid rfl⟩
                · have b1 : (i == k) = false := by simpa using hik
                  have HSE : Hid (sm = false) := Lib.hid (by rw [HSM2.out, decide_eq_false_iff_not]; exact fun h => hik h.1)
                  clear hik
                  go_wp2
                  go_meet
                  exact ⟨by rw [HSE.out], Lib.hid rfl⟩
              case rest =>
                obtain ⟨rfl, hwx⟩ := hcut
                obtain rfl := hwx.out
                clear hwx
                by_cases hp : 0 ≤ vx
                · have b3 := HS3.out hp
                  have b4 : (sm != sm) = false := by simp
                  go_upto_region 18 with fail
                  go_quiet (fail)
                  clear cx cy
                  go_wp2
                  go_roundw
                  case rel => exact ⟨y + 1, by go_num, by omega, Lib.hid (below_drewN hB2.out _)⟩
                  case measure => simp [intOf]; omega
                · have HDUM := HS3
                  go_upto_region 18 with fail
                  go_quiet (fail)
                  clear cx cy
                  go_wp2
                  go_roundw
                  case rel => exact ⟨y + 1, by go_num, by omega, Lib.hid (below_drewN hB2.out _)⟩
                  case measure => simp [intOf]; omega
            · obtain rfl : y = x := by omega
              go_wp2
              go_roundw
              case rel => exact ⟨y + 1, by go_num, by omega, hB2⟩
              case measure => simp [intOf]; omega
        · obtain rfl : x = 15 := by omega
          go_wp2_with fail
          refine (lives26 wA).mono ?_
          rintro e wF ⟨rfl, hbF⟩
          have HBZ := Lib.hid (((HBW.out.trans (HBF.out.mono HBW.out.size)).trans (hB1.out.mono (HBW.out.trans (HBF.out.mono HBW.out.size)).size)).trans (hbF.mono ((HBW.out.trans (HBF.out.mono HBW.out.size)).trans (hB1.out.mono (HBW.out.trans (HBF.out.mono HBW.out.size)).size)).size))
          clear hbF
          go_wp2
          go_ret
          exact ⟨rfl, HBZ.out⟩
end Go.Proofs.Ytkdjcikilabehaa
